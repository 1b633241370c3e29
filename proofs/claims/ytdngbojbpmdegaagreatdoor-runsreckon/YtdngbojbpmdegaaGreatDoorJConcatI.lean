/-
  The row of a machine's quotes (own work): all of its block is known, so that a quote may be put behind it. No condition. Appending a list of things to nil (own work): the new row holds just their cells, and what was in memory stays. The condition: the list is within the reach of the form. What append, slices.Grow (from nil) and slices.Concat answer at lists of numbers (own work): a row of its own with all the numbers of the lists, in their order. The conditions: the lists' cells are there, and there are not more than some thousand numbers.
-/
import Derived.Test.YtdngbojbpmdegaaGreatDoorOwn
import Derived.Deep.AppendLies
import Derived.Deep.RegionLaw
import Derived.Test.YtdngbojbpmdegaaGreatDoorJSameM
import Derived.Lib.AppendZeros
namespace Go.Proofs.YtdngbojbpmdegaaGreatDoor
open Go.RowKit

def QRow (n0 : Nat) (w : World) (M : Mv) : Prop := w.ownsRow n0 90 2 (.slice M.qa M.qus.length M.qcap) M.qus.length (M.qus.flatMap Qu.cells)
theorem QRow.keep {n0 : Nat} {w w' : World} {M : Mv} (h : QRow n0 w M) (hw : ∀ b o s, M.qa = some ⟨b, o, s⟩ → w'.heap[b]? = w.heap[b]?) : QRow n0 w' M := by
  refine ⟨h.1, ?_⟩
  rcases h.2 with h2 | ⟨g, cap, cur, hv, hb, hg, h3⟩
  · exact .inl h2
  · refine .inr ⟨g, cap, cur, hv, hb, ?_, h3⟩
    simp only [Value.slice.injEq] at hv
    rw [hw g 0 none hv.1]
    exact hg
theorem QRow.mono {n0 n1 : Nat} {w : World} {M : Mv} (h : QRow n0 w M) (hn : n1 ≤ n0) : QRow n1 w M := by
  refine ⟨h.1, ?_⟩
  rcases h.2 with h2 | ⟨g, cap, cur, hv, hb, h3⟩
  · exact .inl h2
  · exact .inr ⟨g, cap, cur, hv, Nat.le_trans hn hb, h3⟩
theorem QRow.of_block {n0 : Nat} {w : World} {M : Mv} {Z : Nat} {zs : List Value} (hZ : n0 ≤ Z) (ha : M.qa = some ⟨Z, 0, none⟩) (h : w.heap[Z]? = some (.cells (M.qus.flatMap Qu.cells ++ zs).toArray 90 (0, 0))) (hc : (M.qus.flatMap Qu.cells ++ zs).length = M.qcap * 2) (hl : M.qus.length ≤ M.qcap) (hm : M.qcap ≤ maxLen) : QRow n0 w M := by
  have hf : (M.qus.flatMap Qu.cells).length = M.qus.length * 2 := flat_len (cells := Qu.cells) (c := 2) (fun _ => rfl) M.qus
  refine ⟨hf, .inr ⟨Z, M.qcap, _, by rw [ha], hZ, h, hl, hm, by simpa using hc, ?_⟩⟩
  rw [← hf]
  simp
theorem QRow.none {n0 : Nat} {w : World} {M : Mv} (ha : M.qa = none) (hq : M.qus = []) (hc : M.qcap = 0) : QRow n0 w M := by
  refine ⟨by rw [hq]; rfl, .inl ⟨by rw [ha, hq, hc]; rfl, by rw [hq]; rfl⟩⟩

end Go.Proofs.YtdngbojbpmdegaaGreatDoor

namespace Go.Proofs.YtdngbojbpmdegaaGreatDoor
open Go.RowKit

section
variable {α : Type} [Inhabited α] {P : Program} {c : Nat} {cells : α → List Value}
theorem append_none (w : World) (t ty e : TypeId) (i : TypeInfo) (ht : P.underlying t = some (.slice e)) (hi : P.info? e = some i) (ap : Option Addr) (cap : Nat) :
    (Builtin.append_ #[t, t] ty #[.slice none 0 0, .slice ap 0 cap]).run P w = .ok (.slice none 0 0) w := by
  cases ap <;> simp [Builtin.append_, run_underlying ht, sizeOf, typeInfo, hi, Builtin.lenOf, Builtin.firstCells, loadCells, loadCellsFrom]
end
/-- an append whose run is known, at the list of a plain region -/
theorem wpList_append_eq {P : Program} {w w' : World} {ops : Array Oper} {rest : List Oper} {o : Oper} {a : Act} {Q : Exit → Act → World → Prop} (hgd : o.guard = none) (x y : Operand) (t : TypeId)
    (ho : o.op = .call { callee := .builtin .append, args := #[x, y], argTypes := #[t, t] }) (v u v' : Value) (hx : a.eval x = v) (hy : a.eval y = u) (hr : (Builtin.append_ #[t, t] o.type #[v, u]).run P w = .ok v' w')
    (h : wpList P ops Q rest (a.put o.dst v') w') : wpList P ops Q (o :: rest) a w :=
  wpList_plain hgd fun _ hK => by
    unfold Oper.wp execOp
    simp only [ho, resolve, invoke, builtin, Sem.run_bind, Sem.run_pure, Result.andThen_ok, List.map_toArray, List.map_cons, List.map_nil, hx, hy, hr]
    exact hK _ _ h
/-- a new row, or nothing -/
def RowIn (w : World) (n : Nat) (e : TypeId) (a : Option Addr) (L : List Value) : Prop := (a = none ∧ L = []) ∨ ∃ g zs, a = some ⟨g, 0, none⟩ ∧ n ≤ g ∧ w.heap[g]? = some (.cells (L ++ zs).toArray e (0, 0))
theorem ints_rows {w : World} {a : Option Addr} {ws : List Int} (h : Ints w a ws) : RowsAt w 1 (fun n : Int => [Value.int .i64 n]) a ws := by
  rcases h with rfl | ⟨b, off, h1, h2⟩
  · exact .inl rfl
  · refine .inr ⟨b, off, h1, fun j hj i hi => ?_⟩
    obtain rfl : i = 0 := by omega
    show w.cell? ⟨b, off + j * 1 + 0, none⟩ = some (.int .i64 (ws.getD j 0))
    rw [Nat.mul_one, Nat.add_zero]
    exact h2 j hj
theorem wvals_flat (ws : List Int) : (ws.flatMap fun n : Int => [Value.int .i64 n]) = wvals ws := by
  induction ws with
  | nil => rfl
  | cons a l ih => simp [wvals] at ih ⊢; exact ih

end Go.Proofs.YtdngbojbpmdegaaGreatDoor

namespace Go.Proofs.YtdngbojbpmdegaaGreatDoor
open Go.RowKit
set_option maxRecDepth 100000
set_option linter.unusedVariables false

def ic (n : Int) : List Value := [.int .i64 n]
theorem icf_eq (l : List Int) : l.flatMap ic = icells l := by
  induction l with
  | nil => rfl
  | cons n l ih => rw [List.flatMap_cons, ih]; rfl
theorem icells_len1 (l : List Int) : (icells l).length = l.length * 1 := by rw [icells_len]; omega

theorem append_emptyI {P : Program} (w : World) (t ty e : TypeId) (i : TypeInfo) (ht : P.underlying t = some (.slice e)) (hi : P.info? e = some i) (a : Addr) (n cap : Nat) (hn : n ≤ cap) (ap : Option Addr) (cap' : Nat) :
    (Builtin.append_ #[t, t] ty #[.slice (some a) n cap, .slice ap 0 cap']).run P w = .ok (.slice (some a) n cap) w := by
  cases ap <;> simp [Builtin.append_, run_underlying ht, sizeOf, typeInfo, hi, Builtin.lenOf, Builtin.firstCells, loadCells, loadCellsFrom, storeCells, hn]
theorem app_ints {w w0 : World} {B : Nat} {v : Value} {l : List Int} (hown : OwnsI w B v l) (hb : Below B w0 w) (hB : B ≤ w.heap.size) (qa : Option Addr) (ql : List Int) (qc : Nat) (hq : RowsAt w 1 ic qa ql) (hs : l.length + ql.length ≤ 20000) :
    ∃ v' w', (Builtin.append_ #[30, 30] 30 #[v, .slice qa ql.length qc]).run Tryz.prog w = .ok v' w' ∧ OwnsI w' B v' (l ++ ql) ∧ Below B w0 w' ∧ B ≤ w'.heap.size := by
  obtain ⟨i0, hi, hz0, hz1, hz2⟩ := info_parts held_info
  by_cases h0 : ql = []
  · subst h0
    rw [List.append_nil]
    rcases hown.2 with ⟨hv, h1⟩ | ⟨g, cap, cur, hv, _, _, h1, _⟩
    · exact ⟨v, w, by rw [hv]; exact append_none w _ _ _ i0 Tryz.underlying30 hi qa qc, hown, hb, hB⟩
    · exact ⟨v, w, by rw [hv]; exact append_emptyI w _ _ _ i0 Tryz.underlying30 hi _ _ _ h1 qa qc, hown, hb, hB⟩
  · rcases hq with e | ⟨b, off, rfl, hc⟩
    · exact absurd e h0
    · have hpos : 0 < ql.length := List.length_pos_iff.2 h0
      obtain ⟨g, cap, w', h1, h2, h3, _, _⟩ := run_append_lies (P := Tryz.prog) (w := w) 30 30 B 3 i0 _ 1 8 Tryz.underlying30 hi hz0 hz1 hz2 rfl (by decide) v l.length (icells l) hown ⟨b, off, none⟩ ql.length qc (icells ql) (icells_len1 ql) (by rw [← icf_eq]; exact src_of_rows (cells := ic) (c := 1) (fun _ => rfl) (by decide) hc) (icells_one ql) hpos (by unfold maxLen; omega) (by omega) hB _ rfl
      refine ⟨_, w', h1, by unfold OwnsI; rw [List.length_append, icells_append]; exact h2, hb.grown h3 hB (fun k hk => (hown.lt k hk).1), ?_⟩
      have := h3.size
      omega


theorem zeros_sizeI (cs : Array Value) : ∀ n, (Builtin.zeroCells cs n).size = n * cs.size := by
  intro n
  simp [Builtin.zeroCells]

theorem grow_ownsI (w : World) (cs : Array Value) (cp : Nat) (h : cs.size = cp * 1) (hm : cp ≤ maxLen) : OwnsI (w.alloc (.cells cs 3)).drew w.heap.size (.slice (some ⟨w.heap.size, 0, none⟩) 0 cp) [] :=
  ⟨rfl, .inr ⟨w.heap.size, cp, cs, rfl, Nat.le_refl _, Go.Deep.blk_alloc_new w _, Nat.zero_le _, hm, h, by simp [icells]⟩⟩
set_option maxHeartbeats 4000000 in
theorem grow_ints (n : Nat) (w : World) (hn : n ≤ 100000) :
    Calls Tryz.prog 61 #[.slice none 0 0, .int .i64 (n : Int)] w fun e w' => ∃ v, e = .returned v ∧ OwnsI w' w.heap.size v [] ∧ Below w.heap.size w w' := by
  obtain ⟨i0, hi, hz0, hz1, hz2⟩ := info_parts held_info
  have hnn : ¬ ((n : Int) < 0) := by omega
  by_cases h0 : n = 0
  · subst h0
    go_enter Tryz.func61, Tryz.ntmps61
    go_wp2
    go_ret
    exact ⟨_, rfl, World.ownsRow_nil _ _ _ _, Below.refl _ _⟩
  · have hp : 0 < n := by omega
    have hgt : (n : Int) > 0 := by omega
    have hr := Go.Lib.run_append_nil_zeros (P := Tryz.prog) w 30 3 30 3 i0 _ .i64 .i64 Tryz.underlying30 Tryz.underlying3 hi hz0 n hp (by omega) (by omega) (by rw [hz2]; omega)
    go_enter Tryz.func61, Tryz.ntmps61
    go_wp2_with (at_builtin; refine Go.Lib.wpList_append_run _ rfl _ _ 30 3 rfl _ _ rfl rfl _ _ hr ?_)
    have hc1 := grownCap_ge w n 0 3
    have hc2 := grownCap_le_maxLen w n 0 3 (by unfold maxLen; omega)
    clear hr
    generalize grownCap w n 0 3 = cp at *
    have hcI : (0 : Int) ≤ (cp : Int) := by omega
    go_wp2
    go_ret
    exact ⟨_, rfl, grow_ownsI w _ cp (by rw [Array.size_append, zeros_sizeI, zeros_sizeI]; show n * 1 + (cp - n) * 1 = cp * 1; omega) hc2, ((Below.refl _ _).alloc (Nat.le_refl _) _).drew⟩

/-- a list that is handed in -/
structure PtI where
  a : Option Addr
  l : List Int
  cap : Nat
instance : Inhabited PtI := ⟨⟨none, [], 0⟩⟩
def PtI.cells (p : PtI) : List Value := [.slice p.a p.l.length p.cap]
def upToI (ps : List PtI) (k : Nat) : List Int := (ps.take k).flatMap PtI.l
theorem upToI_succ (ps : List PtI) (k : Nat) (hk : k < ps.length) : upToI ps (k + 1) = upToI ps k ++ (ps.getD k default).l := by
  unfold upToI
  rw [List.take_succ_eq_append_getElem hk, List.flatMap_append]
  have : ps[k] = ps.getD k default := by simp [List.getD_eq_getElem?_getD, hk]
  rw [this]
  simp
theorem upToI_le (ps : List PtI) (k : Nat) : (upToI ps k).length ≤ (ps.flatMap PtI.l).length := by
  unfold upToI
  have h : ps.flatMap PtI.l = (ps.take k).flatMap PtI.l ++ (ps.drop k).flatMap PtI.l := by rw [← List.flatMap_append, List.take_append_drop]
  rw [h, List.length_append]; omega

set_option maxHeartbeats 8000000 in
theorem concat_ints (a : Option Addr) (ps : List PtI) (cap : Nat) (w : World) (hl : ps.length ≤ 100) (hx : RowsAt w 1 PtI.cells a ps) (hp : ∀ p ∈ ps, RowsAt w 1 ic p.a p.l) (hs : (ps.flatMap PtI.l).length ≤ 10000) :
    Calls Tryz.prog 18 #[.slice a ps.length cap] w fun e w' => ∃ v, e = .returned v ∧ OwnsI w' w.heap.size v (ps.flatMap PtI.l) ∧ Below w.heap.size w w' := by
  obtain ⟨i0, hi, hz0, hz1, hz2⟩ := info_parts held_info
  have HX : Hid (RowsAt w 1 PtI.cells a ps) := hx
  have HP : Hid (∀ p ∈ ps, RowsAt w 1 ic p.a p.l) := hp
  have HS : Hid ((ps.flatMap PtI.l).length ≤ 10000) := hs
  clear hx hp hs
  go_enter Tryz.func18, Tryz.ntmps18
  go_wp2
  go_loopw [3, 11] (fun z i wr => ∃ k : Nat, k ≤ ps.length ∧ i = .int .i64 k ∧ z = .int .i64 (((upToI ps k).length : Nat) : Int) ∧ wr = w) (fun _ i _ => ps.length - (intOf i).toNat)
  case atStart => exact ⟨0, Nat.zero_le _, rfl, rfl, rfl⟩
  case round =>
    obtain ⟨k, hk, rfl, rfl, rfl⟩ := hrel
    by_cases hlt : k < ps.length
    · rcases HX.out with h0 | ⟨b, off, rfl, hc⟩
      · rw [h0] at hlt; simp at hlt
      · have c0 := hc k hlt 0 (by omega)
        have HU : Hid _ := upToI_succ ps k hlt
        have hU1 := upToI_le ps (k + 1)
        have hU2 := HS.out
        rw [HU.out, List.length_append] at hU1
        generalize ps.getD k default = Q at c0 HU hU1
        obtain ⟨qa, ql, qc⟩ := Q
        simp only [PtI.cells, List.getElem?_cons_zero, Nat.mul_one, Nat.add_zero] at c0
        dsimp only at hU1 HU
        have hw1 : IntKind.i64.wrap (((upToI ps k).length : Int) + (ql.length : Int)) = ((upToI ps k).length : Int) + (ql.length : Int) := by rw [IntKind.wrap_i64]; omega
        have hnn : ¬ (((upToI ps k).length : Int) + (ql.length : Int) < 0) := by omega
        have hkI : (k : Int) < (ps.length : Int) := by omega
        have lb := lt_of_cell c0
        clear hc HX HP
        generalize hn : (upToI ps k).length = n at *
        generalize hm : ql.length = m at *
        go_wp2
        go_roundw
        case rel => exact ⟨k + 1, by omega, by go_num, by rw [HU.out, List.length_append, hn, hm]; go_num, trivial⟩
        case measure => simp [intOf]; omega
    · have hge : ¬ ((k : Int) < (ps.length : Int)) := by omega
      have hkl : k = ps.length := by omega
      have HT : Hid (upToI ps k = ps.flatMap PtI.l) := show _ = _ by rw [hkl]; unfold upToI; rw [List.take_of_length_le (Nat.le_refl _)]
      rw [HT.out]
      clear hkl hlt hk HT
      obtain ⟨tot, htot⟩ : ∃ tot, Hid (tot = (ps.flatMap PtI.l).length) := ⟨_, rfl⟩
      have hG := grow_ints tot wr (by have := HS.out; have := htot.out; omega)
      rw [← htot.out]
      go_wp2_with (go_at_call 61; refine hG.mono ?_; clear hG; rintro e w1 ⟨v1, rfl, hown, hb1⟩)
      have hsz1 := hb1.size
      go_loopw [6, 27] (fun v i wz => ∃ k : Nat, k ≤ ps.length ∧ i = .int .i64 k ∧ Hid (OwnsI wz wr.heap.size v (upToI ps k)) ∧ Below wr.heap.size wr wz ∧ wr.heap.size ≤ wz.heap.size) (fun _ i _ => ps.length - (intOf i).toNat)
      case atStart => exact ⟨0, Nat.zero_le _, rfl, hown, hb1, hsz1⟩
      case round =>
        clear hown hb1 hsz1 hge
        rename World => wz
        obtain ⟨k, hk, rfl, hown, hbel, hsz⟩ := hrel
        by_cases hlt : k < ps.length
        · rcases HX.out with h0 | ⟨b, off, rfl, hc⟩
          · rw [h0] at hlt; simp at hlt
          · have c0 := keep_cell hbel (hc k hlt 0 (by omega))
            have HU : Hid _ := upToI_succ ps k hlt
            have hU1 := upToI_le ps (k + 1)
            have hU2 := HS.out
            rw [HU.out, List.length_append] at hU1
            have hq := HP.out (ps.getD k default) (by simp [List.getD_eq_getElem?_getD, hlt])
            generalize ps.getD k default = Q at c0 HU hU1 hq
            obtain ⟨qa, ql, qc⟩ := Q
            simp only [Nat.mul_one, Nat.add_zero] at c0
            dsimp only at hU1 HU hq
            have hkI : (k : Int) < (ps.length : Int) := by omega
            have lb := lt_of_cell c0
            obtain ⟨v', w', hrun, hown', hbel', hsz'⟩ := app_ints hown.out hbel hsz qa ql qc (RowsAt.below (cells := ic) (fun _ => rfl) hq hbel) (by omega)
            have HR : Hid (OwnsI w' wr.heap.size v' (upToI ps (k + 1))) := show OwnsI _ _ _ _ by rw [HU.out]; exact hown'
            generalize ql.length = m at *
            clear hc HX HP hown hown' hU1 hU2 hq
            go_wp2_with (at_builtin; refine wpList_append_eq rfl _ _ 30 rfl _ _ v' rfl rfl hrun ?_)
            go_roundw
            case rel => exact ⟨k + 1, by omega, by go_num, HR, hbel', hsz'⟩
            case measure => simp [intOf]; omega
        · have hge : ¬ ((k : Int) < (ps.length : Int)) := by omega
          have hkl : k = ps.length := by omega
          have HF : Hid (OwnsI wz wr.heap.size u6 (ps.flatMap PtI.l)) := show OwnsI _ _ _ _ by
            have := hown.out
            rw [hkl] at this
            unfold upToI at this
            rw [List.take_of_length_le (Nat.le_refl _)] at this
            exact this
          clear hkl hlt hk hown
          go_wp2
          go_ret
          exact ⟨_, rfl, HF.out, hbel⟩


end Go.Proofs.YtdngbojbpmdegaaGreatDoor
