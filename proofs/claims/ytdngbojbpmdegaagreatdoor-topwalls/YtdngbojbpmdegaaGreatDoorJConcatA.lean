/-
  Two images that are built on a new machine, one behind the other (own work), and what the first one leaves as it is when it runs. No condition but that the images may be. Appending a list of acts, an empty one too, to a row of acts that the call owns (own work): the run as an equation. The conditions: the list's cells are there, and there are not more than some thousand acts. What the call Acts (riddlekeep) answers: a list of its own of acts of who owns the machine, none of them an Enter or a Resume, each within the reach of the form. The conditions: the raw things' cells are there. What slices.Grow (from nil) and slices.Concat answer at lists of acts: a row of its own with all the acts of the lists, in their order. The conditions: the lists' cells are there, and there are not more than some thousand acts.
-/
import Derived.Test.YtdngbojbpmdegaaGreatDoorJTopRun
import Derived.Test.YtdngbojbpmdegaaGreatDoorJAppRows
import Derived.Test.YtdngbojbpmdegaaGreatDoorJImageMath
import Derived.Deep.RegionHeld3
import Derived.Deep.DeepCutAuto
import Derived.Deep.CutBlock
import Derived.Deep.RegionLaw
import Derived.Lib.AppendZeros
namespace Go.Proofs.YtdngbojbpmdegaaGreatDoor
open Go.RowKit
set_option maxRecDepth 100000
set_option linter.unusedVariables false

/-- what two images that are built one behind the other leave -/
structure Two (N : Mv) (ps qs : List Pg) : Prop where
  good : machF N = 0
  told : Told N
  e0 : N.ens.getD 0 default = ⟨2, txt (expL ps), 0, 0, 0, 0, 0⟩
  e1 : N.ens.getD 1 default = ⟨2, txt (expL qs), 0, 0, 0, 0, 0⟩
  qus : N.qus = []
theorem two_planned {ps qs : List Pg} (hi : imageF ps = 0) (hj : imageF qs = 0) : ∃ N, Two N ps qs ∧ Steps newM (planL ps 1 0 ++ planL qs 2 10) N := by
  have hp := image_len hi
  have hq := image_len hj
  obtain ⟨N1, h1, s1⟩ := plan_steps (M := newM) new_good (m := 0) (by omega) (by unfold creI newM; rfl) hi (f0 := 0) (by omega) (fun j hj => by
    show ((List.replicate 24 zeroFr).getD (0 + j) default).o = 0
    rw [rep_getD _ _ _ (by omega)]; rfl)
  obtain ⟨N2, h2, s2⟩ := plan_steps (M := N1) h1.good (m := 1) (by omega) (by unfold creI; rw [h1.ens]; rfl) hj (f0 := 10) (by omega) (fun j hj => by
    rw [h1.out (10 + j) (by omega) (by omega)]
    show ((List.replicate 24 zeroFr).getD (10 + j) default).o = 0
    rw [rep_getD _ _ _ (by omega)]; rfl)
  have hs : Steps newM (planL ps 1 0 ++ planL qs 2 10) N2 := Steps.append s1 s2
  have ht := told_hst (planL ps 1 0 ++ planL qs 2 10) ⟨newM, noC⟩ new_good told_new (fun x hx => by
    rcases List.mem_append.1 hx with h | h
    · exact outer_plan x h
    · exact outer_plan x h)
  rw [(hs noC).1] at ht
  exact ⟨N2, ⟨h2.good, ht, by rw [h2.ens, h1.ens]; rfl, by rw [h2.ens, h1.ens]; rfl, by rw [h2.qus, h1.qus]; rfl⟩, hs⟩
theorem Two.has1 {N : Mv} {ps qs : List Pg} (h : Two N ps qs) (hi : imageF qs = 0) : hasM N 2 qs := told_has h.good h.told (m := 1) (by omega) hi (by rw [h.e1]) (by rw [h.e1])
theorem hasM_ens {M N : Mv} (h : N.frs = M.frs) {e : Int} {ps : List Pg} (k : hasM M e ps) : hasM N e ps := by
  unfold hasM at k ⊢
  rw [h]; exact k
theorem leftM_frs (R : Rn) (m : Nat) : (leftM R m).frs = R.M.frs := rfl
theorem leftE_log (E : En) (R : Rn) : (leftE E R).log = E.log := by unfold leftE; split <;> (try split) <;> rfl
/-- what the first one leaves as it is when it runs -/
structure Wall0 (M T : Mv) (qs : List Pg) : Prop where
  has : hasM T 2 qs
  len : T.frs.length = M.frs.length
  elen : T.ens.length = M.ens.length
  e1 : T.ens.getD 1 default = M.ens.getD 1 default
  log : (T.ens.getD 0 default).log = (M.ens.getD 0 default).log
  own : ∀ j, (T.frs.getD j default).o = (M.frs.getD j default).o
  ws : ∀ j, (M.frs.getD j default).o = 1 → ¬ (M.frs.getD j default).r / 2 % 2 = 1 → (T.frs.getD j default).ws = (M.frs.getD j default).ws
theorem wall_run {M : Mv} {ps qs : List Pg} (h : Two M ps qs) (hj : imageF qs = 0) {word : Int} (hw : 0 ≤ word ∧ word ≤ 65535) {f : Nat} (hf : f ≤ 5000) :
    entF M 1 word (f : Int) = 0 ∧ Wall0 M (entM M 1 word (f : Int)) qs := by
  have hg := good_iff.1 h.good
  obtain ⟨ho, h1, h2, _, _⟩ := ent_ready h.good (m := 0) (by omega) (by rw [h.e0]) hw hf
  have e1 : ((0 : Nat) : Int) + 1 = 1 := rfl
  rw [e1] at h1 h2
  have hW := walled_run f ho
  rw [h2]
  generalize runR f M 0 0 [word, 0, 0, 0] xorR = R at hW
  have hl : R.M.ens.length = 4 := (congrArg List.length hW.ens).trans hg.s2
  have hE0 : (leftM R 0).ens.getD 0 default = leftE (R.M.ens.getD 0 default) R := by
    show (R.M.ens.set 0 _).getD 0 default = _
    rw [getD_set_any, if_pos ⟨rfl, by omega⟩]
  refine ⟨h1, hasM_ens (leftM_frs R 0) (hasM_walled hW hg.s1 (by decide) (by decide) (h.has1 hj)), hW.len, ?_, ?_, ?_, fun j => (hW.own j).1, fun j o r => hW.ws j (by omega) (.inr r)⟩
  · show (R.M.ens.set 0 _).length = _
    rw [List.length_set, hW.ens]
  · show (R.M.ens.set 0 _).getD 1 default = _
    rw [getD_set_any, if_neg (by omega), hW.ens]
  · rw [hE0, leftE_log, hW.ens]

end Go.Proofs.YtdngbojbpmdegaaGreatDoor

namespace Go.Proofs.YtdngbojbpmdegaaGreatDoor
open Go.RowKit
set_option maxRecDepth 100000

theorem append_empty {P : Program} (w : World) (t ty e : TypeId) (i : TypeInfo) (ht : P.underlying t = some (.slice e)) (hi : P.info? e = some i) (a : Addr) (n cap : Nat) (hn : n ≤ cap) (ap : Option Addr) (cap' : Nat) :
    (Builtin.append_ #[t, t] ty #[.slice (some a) n cap, .slice ap 0 cap']).run P w = .ok (.slice (some a) n cap) w := by
  cases ap <;> simp [Builtin.append_, run_underlying ht, sizeOf, typeInfo, hi, Builtin.lenOf, Builtin.firstCells, loadCells, loadCellsFrom, storeCells, hn]
theorem app_acts {w w0 : World} {B : Nat} {v : Value} {l : List Ac} (hown : Owns w B v l) (hb : Below B w0 w) (hB : B ≤ w.heap.size) (qa : Option Addr) (ql : List Ac) (qc : Nat) (hq : RowsAt w 7 Ac.cells qa ql) (hs : l.length + ql.length ≤ 20000) :
    ∃ v' w', (Builtin.append_ #[23, 23] 23 #[v, .slice qa ql.length qc]).run Tryz.prog w = .ok v' w' ∧ Owns w' B v' (l ++ ql) ∧ Below B w0 w' ∧ B ≤ w'.heap.size := by
  obtain ⟨i0, hi, hz0, hz1, hz2⟩ := info_parts act_info
  by_cases h0 : ql = []
  · subst h0
    rw [List.append_nil]
    rcases hown.2 with ⟨hv, h1⟩ | ⟨g, cap, cur, hv, _, _, h1, _⟩
    · exact ⟨v, w, by rw [hv]; exact append_none w _ _ _ i0 Tryz.underlying23 hi qa qc, hown, hb, hB⟩
    · exact ⟨v, w, by rw [hv]; exact append_empty w _ _ _ i0 Tryz.underlying23 hi _ _ _ h1 qa qc, hown, hb, hB⟩
  · rcases hq with e | ⟨b, off, rfl, hc⟩
    · exact absurd e h0
    · have hpos : 0 < ql.length := List.length_pos_iff.2 h0
      obtain ⟨g, cap, w', h1, h2, h3, _, _⟩ := run_append_lies (P := Tryz.prog) (w := w) 23 23 B 68 i0 _ 7 56 Tryz.underlying23 hi hz0 hz1 hz2 rfl (by decide) v l.length (rowA l) hown ⟨b, off, none⟩ ql.length qc (rowA ql) (rowA_len ql) (src_of_rows (cells := Ac.cells) (c := 7) (fun _ => rfl) (by decide) hc) (rowA_cells_one ql) hpos (by unfold maxLen; omega) (by omega) hB _ rfl
      refine ⟨_, w', h1, by unfold Owns; rw [List.length_append, rowA_append]; exact h2, hb.grown h3 hB (fun k hk => (hown.lt k hk).1), ?_⟩
      have := h3.size
      omega

end Go.Proofs.YtdngbojbpmdegaaGreatDoor

namespace Go.Proofs.YtdngbojbpmdegaaGreatDoor
open Go.RowKit
set_option maxRecDepth 100000
set_option linter.unusedVariables false

structure ActBox (w : World) (b : Nat) (x : Ac) : Prop where
  c0 : w.cell? ⟨b, 0, none⟩ = some (.int .i64 x.k)
  c1 : w.cell? ⟨b, 1, none⟩ = some (.int .i64 x.e)
  c2 : w.cell? ⟨b, 2, none⟩ = some (.int .i64 x.f)
  c3 : w.cell? ⟨b, 3, none⟩ = some (.int .i64 x.at_)
  c4 : w.cell? ⟨b, 4, none⟩ = some (.int .i64 x.r)
  c5 : w.cell? ⟨b, 5, none⟩ = some (.int .i64 x.n)
  c6 : w.cell? ⟨b, 6, none⟩ = some (.int .i64 x.fuel)
theorem ActBox.drew {w : World} {b : Nat} {x : Ac} (h : ActBox w b x) : ActBox w.drew b x := ⟨h.c0, h.c1, h.c2, h.c3, h.c4, h.c5, h.c6⟩
end Go.Proofs.YtdngbojbpmdegaaGreatDoor

namespace Go.Proofs.YtdngbojbpmdegaaGreatDoor
open Go.RowKit
set_option maxRecDepth 100000
set_option linter.unusedVariables false

theorem zeros_size (cs : Array Value) : ∀ n, (Builtin.zeroCells cs n).size = n * cs.size := by
  intro n
  simp [Builtin.zeroCells]

theorem grow_owns (w : World) (cs : Array Value) (cp : Nat) (h : cs.size = cp * 7) (hm : cp ≤ maxLen) : Owns (w.alloc (.cells cs 68)).drew w.heap.size (.slice (some ⟨w.heap.size, 0, none⟩) 0 cp) [] :=
  ⟨rfl, .inr ⟨w.heap.size, cp, cs, rfl, Nat.le_refl _, Go.Deep.blk_alloc_new w _, Nat.zero_le _, hm, h, by simp [rowA]⟩⟩
set_option maxHeartbeats 4000000 in
theorem grow_acts (n : Nat) (w : World) (hn : n ≤ 100000) :
    Calls Tryz.prog 91 #[.slice none 0 0, .int .i64 (n : Int)] w fun e w' => ∃ v, e = .returned v ∧ Owns w' w.heap.size v [] ∧ Below w.heap.size w w' := by
  obtain ⟨i0, hi, hz0, hz1, hz2⟩ := info_parts act_info
  have hnn : ¬ ((n : Int) < 0) := by omega
  by_cases h0 : n = 0
  · subst h0
    go_enter Tryz.func91, Tryz.ntmps91
    go_wp2
    go_ret
    exact ⟨_, rfl, World.ownsRow_nil _ _ _ _, Below.refl _ _⟩
  · have hp : 0 < n := by omega
    have hgt : (n : Int) > 0 := by omega
    have hr := Go.Lib.run_append_nil_zeros (P := Tryz.prog) w 23 3 23 68 i0 _ .i64 .i64 Tryz.underlying23 Tryz.underlying3 hi hz0 n hp (by omega) (by omega) (by rw [hz2]; omega)
    go_enter Tryz.func91, Tryz.ntmps91
    go_wp2_with (at_builtin; refine Go.Lib.wpList_append_run _ rfl _ _ 23 3 rfl _ _ rfl rfl _ _ hr ?_)
    have hc1 := grownCap_ge w n 0 68
    have hc2 := grownCap_le_maxLen w n 0 68 (by unfold maxLen; omega)
    clear hr
    generalize grownCap w n 0 68 = cp at *
    have hcI : (0 : Int) ≤ (cp : Int) := by omega
    go_wp2
    go_ret
    exact ⟨_, rfl, grow_owns w _ cp (by rw [Array.size_append, zeros_size, zeros_size]; show n * 7 + (cp - n) * 7 = cp * 7; omega) hc2, ((Below.refl _ _).alloc (Nat.le_refl _) _).drew⟩

/-- a list that is handed in -/
structure Pt where
  a : Option Addr
  l : List Ac
  cap : Nat
instance : Inhabited Pt := ⟨⟨none, [], 0⟩⟩
def Pt.cells (p : Pt) : List Value := [.slice p.a p.l.length p.cap]
def upTo (ps : List Pt) (k : Nat) : List Ac := (ps.take k).flatMap Pt.l
theorem upTo_succ (ps : List Pt) (k : Nat) (hk : k < ps.length) : upTo ps (k + 1) = upTo ps k ++ (ps.getD k default).l := by
  unfold upTo
  rw [List.take_succ_eq_append_getElem hk, List.flatMap_append]
  have : ps[k] = ps.getD k default := by simp [List.getD_eq_getElem?_getD, hk]
  rw [this]
  simp
theorem upTo_le (ps : List Pt) (k : Nat) : (upTo ps k).length ≤ (ps.flatMap Pt.l).length := by
  unfold upTo
  have h : ps.flatMap Pt.l = (ps.take k).flatMap Pt.l ++ (ps.drop k).flatMap Pt.l := by rw [← List.flatMap_append, List.take_append_drop]
  rw [h, List.length_append]; omega

set_option maxHeartbeats 8000000 in
theorem concat_acts (a : Option Addr) (ps : List Pt) (cap : Nat) (w : World) (hl : ps.length ≤ 100) (hx : RowsAt w 1 Pt.cells a ps) (hp : ∀ p ∈ ps, RowsAt w 7 Ac.cells p.a p.l) (hs : (ps.flatMap Pt.l).length ≤ 10000) :
    Calls Tryz.prog 36 #[.slice a ps.length cap] w fun e w' => ∃ v, e = .returned v ∧ Owns w' w.heap.size v (ps.flatMap Pt.l) ∧ Below w.heap.size w w' := by
  obtain ⟨i0, hi, hz0, hz1, hz2⟩ := info_parts act_info
  have HX : Hid (RowsAt w 1 Pt.cells a ps) := hx
  have HP : Hid (∀ p ∈ ps, RowsAt w 7 Ac.cells p.a p.l) := hp
  have HS : Hid ((ps.flatMap Pt.l).length ≤ 10000) := hs
  clear hx hp hs
  go_enter Tryz.func36, Tryz.ntmps36
  go_wp2
  go_loopw [3, 11] (fun z i wr => ∃ k : Nat, k ≤ ps.length ∧ i = .int .i64 k ∧ z = .int .i64 (((upTo ps k).length : Nat) : Int) ∧ wr = w) (fun _ i _ => ps.length - (intOf i).toNat)
  case atStart => exact ⟨0, Nat.zero_le _, rfl, rfl, rfl⟩
  case round =>
    obtain ⟨k, hk, rfl, rfl, rfl⟩ := hrel
    by_cases hlt : k < ps.length
    · rcases HX.out with h0 | ⟨b, off, rfl, hc⟩
      · rw [h0] at hlt; simp at hlt
      · have c0 := hc k hlt 0 (by omega)
        have HU : Hid _ := upTo_succ ps k hlt
        have hU1 := upTo_le ps (k + 1)
        have hU2 := HS.out
        rw [HU.out, List.length_append] at hU1
        generalize ps.getD k default = Q at c0 HU hU1
        obtain ⟨qa, ql, qc⟩ := Q
        simp only [Pt.cells, List.getElem?_cons_zero, Nat.mul_one, Nat.add_zero] at c0
        dsimp only at hU1 HU
        have hw1 : IntKind.i64.wrap (((upTo ps k).length : Int) + (ql.length : Int)) = ((upTo ps k).length : Int) + (ql.length : Int) := by rw [IntKind.wrap_i64]; omega
        have hnn : ¬ (((upTo ps k).length : Int) + (ql.length : Int) < 0) := by omega
        have hkI : (k : Int) < (ps.length : Int) := by omega
        have lb := lt_of_cell c0
        clear hc HX HP
        generalize hn : (upTo ps k).length = n at *
        generalize hm : ql.length = m at *
        go_wp2
        go_roundw
        case rel => exact ⟨k + 1, by omega, by go_num, by rw [HU.out, List.length_append, hn, hm]; go_num, trivial⟩
        case measure => simp [intOf]; omega
    · have hge : ¬ ((k : Int) < (ps.length : Int)) := by omega
      have hkl : k = ps.length := by omega
      have HT : Hid (upTo ps k = ps.flatMap Pt.l) := show _ = _ by rw [hkl]; unfold upTo; rw [List.take_of_length_le (Nat.le_refl _)]
      rw [HT.out]
      clear hkl hlt hk HT
      obtain ⟨tot, htot⟩ : ∃ tot, Hid (tot = (ps.flatMap Pt.l).length) := ⟨_, rfl⟩
      have hG := grow_acts tot wr (by have := HS.out; have := htot.out; omega)
      rw [← htot.out]
      go_wp2_with (go_at_call 91; refine hG.mono ?_; clear hG; rintro e w1 ⟨v1, rfl, hown, hb1⟩)
      have hsz1 := hb1.size
      go_loopw [6, 27] (fun v i wz => ∃ k : Nat, k ≤ ps.length ∧ i = .int .i64 k ∧ Hid (Owns wz wr.heap.size v (upTo ps k)) ∧ Below wr.heap.size wr wz ∧ wr.heap.size ≤ wz.heap.size) (fun _ i _ => ps.length - (intOf i).toNat)
      case atStart => exact ⟨0, Nat.zero_le _, rfl, hown, hb1, hsz1⟩
      case round =>
        clear hown hb1 hsz1 hge
        rename World => wz
        obtain ⟨k, hk, rfl, hown, hbel, hsz⟩ := hrel
        by_cases hlt : k < ps.length
        · rcases HX.out with h0 | ⟨b, off, rfl, hc⟩
          · rw [h0] at hlt; simp at hlt
          · have c0 := keep_cell hbel (hc k hlt 0 (by omega))
            have HU : Hid _ := upTo_succ ps k hlt
            have hU1 := upTo_le ps (k + 1)
            have hU2 := HS.out
            rw [HU.out, List.length_append] at hU1
            have hq := HP.out (ps.getD k default) (by simp [List.getD_eq_getElem?_getD, hlt])
            generalize ps.getD k default = Q at c0 HU hU1 hq
            obtain ⟨qa, ql, qc⟩ := Q
            simp only [Nat.mul_one, Nat.add_zero] at c0
            dsimp only at hU1 HU hq
            have hkI : (k : Int) < (ps.length : Int) := by omega
            have lb := lt_of_cell c0
            obtain ⟨v', w', hrun, hown', hbel', hsz'⟩ := app_acts hown.out hbel hsz qa ql qc (RowsAt.below (cells := Ac.cells) (fun _ => rfl) hq hbel) (by omega)
            have HR : Hid (Owns w' wr.heap.size v' (upTo ps (k + 1))) := show Owns _ _ _ _ by rw [HU.out]; exact hown'
            generalize ql.length = m at *
            clear hc HX HP hown hown' hU1 hU2 hq
            go_wp2_with (at_builtin; refine wpList_append_eq rfl _ _ 23 rfl _ _ v' rfl rfl hrun ?_)
            go_roundw
            case rel => exact ⟨k + 1, by omega, by go_num, HR, hbel', hsz'⟩
            case measure => simp [intOf]; omega
        · have hge : ¬ ((k : Int) < (ps.length : Int)) := by omega
          have hkl : k = ps.length := by omega
          have HF : Hid (Owns wz wr.heap.size u6 (ps.flatMap Pt.l)) := show Owns _ _ _ _ by
            have := hown.out
            rw [hkl] at this
            unfold upTo at this
            rw [List.take_of_length_le (Nat.le_refl _)] at this
            exact this
          clear hkl hlt hk hown
          go_wp2
          go_ret
          exact ⟨_, rfl, HF.out, hbel⟩

end Go.Proofs.YtdngbojbpmdegaaGreatDoor
