import Derived.Test.YtdngbojbpmdegaaGreatDoorJAppActs
import Derived.Test.YtdngbojbpmdegaaGreatDoorActsOf
import Derived.Lib.AppendZeros
import Derived.Test.YtdngbojbpmdegaaGreatDoorJHostSmall
import Derived.Test.YtdngbojbpmdegaaGreatDoorRunResume
namespace Go.Proofs.YtdngbojbpmdegaaGreatDoor
open Go.RowKit
set_option maxRecDepth 100000
set_option linter.unusedVariables false
theorem zeros_size (cs : Array Value) : ∀ n, (Builtin.zeroCells cs n).size = n * cs.size := by
  intro n
  simp [Builtin.zeroCells]
theorem grow_owns (w : World) (cs : Array Value) (cp : Nat) (h : cs.size = cp * 7) (hm : cp <= maxLen) : Owns (w.alloc (.cells cs 68)).drew w.heap.size (.slice (some ⟨w.heap.size, 0, none⟩) 0 cp) [] :=
  ⟨rfl, .inr ⟨w.heap.size, cp, cs, rfl, Nat.le_refl _, Go.Deep.blk_alloc_new w _, Nat.zero_le _, hm, h, by simp [rowA]⟩⟩
set_option maxHeartbeats 4000000 in
theorem grow_acts (n : Nat) (w : World) (hn : n <= 100000) :
    Calls Tryz.prog 91 #[.slice none 0 0, .int .i64 (n : Int)] w fun e w' => ∃ v, e = .returned v /\ Owns w' w.heap.size v [] /\ Below w.heap.size w w' := by
  obtain ⟨i0, hi, hz0, hz1, hz2⟩ := info_parts act_info
  have hnn : ¬ ((n : Int) < 0) := by omega
  by_cases h0 : n = 0
  · subst h0
    go_enter Tryz.func91, Tryz.ntmps91
    go_wp2
    go_ret
    exact ⟨_, rfl, World.ownsRow_nil _ _ _ _, Below.refl _ _⟩
  · have hp : 0 < n := by omega
    have hgt : (n : Int) > 0 := by omega
    have hr := Go.Lib.run_append_nil_zeros (P := Tryz.prog) w 23 3 23 68 i0 _ .i64 .i64 Tryz.underlying23 Tryz.underlying3 hi hz0 n hp (by omega) (by omega) (by rw [hz2]; omega)
    go_enter Tryz.func91, Tryz.ntmps91
    go_wp2_with (at_builtin; refine Go.Lib.wpList_append_run _ rfl _ _ 23 3 rfl _ _ rfl rfl _ _ hr ?_)
    have hc1 := grownCap_ge w n 0 68
    have hc2 := grownCap_le_maxLen w n 0 68 (by unfold maxLen; omega)
    clear hr
    generalize grownCap w n 0 68 = cp at *
    have hcI : (0 : Int) <= (cp : Int) := by omega
    go_wp2
    go_ret
    exact ⟨_, rfl, grow_owns w _ cp (by rw [Array.size_append, zeros_size, zeros_size]; show n * 7 + (cp - n) * 7 = cp * 7; omega) hc2, ((Below.refl _ _).alloc (Nat.le_refl _) _).drew⟩
structure Pt where
  a : Option Addr
  l : List Ac
  cap : Nat
instance : Inhabited Pt := ⟨⟨none, [], 0⟩⟩
def Pt.cells (p : Pt) : List Value := [.slice p.a p.l.length p.cap]
def upTo (ps : List Pt) (k : Nat) : List Ac := (ps.take k).flatMap Pt.l
theorem upTo_succ (ps : List Pt) (k : Nat) (hk : k < ps.length) : upTo ps (k + 1) = upTo ps k ++ (ps.getD k default).l := by
  unfold upTo
  rw [List.take_succ_eq_append_getElem hk, List.flatMap_append]
  have : ps[k] = ps.getD k default := by simp [List.getD_eq_getElem?_getD, hk]
  rw [this]
  simp
theorem upTo_le (ps : List Pt) (k : Nat) : (upTo ps k).length <= (ps.flatMap Pt.l).length := by
  unfold upTo
  have h : ps.flatMap Pt.l = (ps.take k).flatMap Pt.l ++ (ps.drop k).flatMap Pt.l := by rw [<- List.flatMap_append, List.take_append_drop]
  rw [h, List.length_append]; omega
set_option maxHeartbeats 8000000 in
theorem concat_acts (a : Option Addr) (ps : List Pt) (cap : Nat) (w : World) (hl : ps.length <= 100) (hx : RowsAt w 1 Pt.cells a ps) (hp : ∀ p ∈ ps, RowsAt w 7 Ac.cells p.a p.l) (hs : (ps.flatMap Pt.l).length <= 10000) :
    Calls Tryz.prog 36 #[.slice a ps.length cap] w fun e w' => ∃ v, e = .returned v /\ Owns w' w.heap.size v (ps.flatMap Pt.l) /\ Below w.heap.size w w' := by
  obtain ⟨i0, hi, hz0, hz1, hz2⟩ := info_parts act_info
  have HX : Hid (RowsAt w 1 Pt.cells a ps) := hx
  have HP : Hid (∀ p ∈ ps, RowsAt w 7 Ac.cells p.a p.l) := hp
  have HS : Hid ((ps.flatMap Pt.l).length <= 10000) := hs
  clear hx hp hs
  go_enter Tryz.func36, Tryz.ntmps36
  go_wp2
  go_loopw [3, 11] (fun z i wr => ∃ k : Nat, k <= ps.length /\ i = .int .i64 k /\ z = .int .i64 (((upTo ps k).length : Nat) : Int) /\ wr = w) (fun _ i _ => ps.length - (intOf i).toNat)
  case atStart => exact ⟨0, Nat.zero_le _, rfl, rfl, rfl⟩
  case round =>
    obtain ⟨k, hk, rfl, rfl, rfl⟩ := hrel
    by_cases hlt : k < ps.length
    · rcases HX.out with h0 | ⟨b, off, rfl, hc⟩
      · rw [h0] at hlt; simp at hlt
      · have c0 := hc k hlt 0 (by omega)
        have HU : Hid _ := upTo_succ ps k hlt
        have hU1 := upTo_le ps (k + 1)
        have hU2 := HS.out
        rw [HU.out, List.length_append] at hU1
        generalize ps.getD k default = Q at c0 HU hU1
        obtain ⟨qa, ql, qc⟩ := Q
        simp only [Pt.cells, List.getElem?_cons_zero, Nat.mul_one, Nat.add_zero] at c0
        dsimp only at hU1 HU
        have hw1 : IntKind.i64.wrap (((upTo ps k).length : Int) + (ql.length : Int)) = ((upTo ps k).length : Int) + (ql.length : Int) := by rw [IntKind.wrap_i64]; omega
        have hnn : ¬ (((upTo ps k).length : Int) + (ql.length : Int) < 0) := by omega
        have hkI : (k : Int) < (ps.length : Int) := by omega
        have lb := lt_of_cell c0
        clear hc HX HP
        generalize hn : (upTo ps k).length = n at *
        generalize hm : ql.length = m at *
        go_wp2
        go_roundw
        case rel => exact ⟨k + 1, by omega, by go_num, by rw [HU.out, List.length_append, hn, hm]; go_num, trivial⟩
        case measure => simp [intOf]; omega
    · have hge : ¬ ((k : Int) < (ps.length : Int)) := by omega
      have hkl : k = ps.length := by omega
      have HT : Hid (upTo ps k = ps.flatMap Pt.l) := show _ = _ by rw [hkl]; unfold upTo; rw [List.take_of_length_le (Nat.le_refl _)]
      rw [HT.out]
      clear hkl hlt hk HT
      obtain ⟨tot, htot⟩ : ∃ tot, Hid (tot = (ps.flatMap Pt.l).length) := ⟨_, rfl⟩
      have hG := grow_acts tot wr (by have := HS.out; have := htot.out; omega)
      rw [<- htot.out]
      go_wp2_with (go_at_call 91; refine hG.mono ?_; clear hG; rintro e w1 ⟨v1, rfl, hown, hb1⟩)
      have hsz1 := hb1.size
      go_loopw [6, 27] (fun v i wz => ∃ k : Nat, k <= ps.length /\ i = .int .i64 k /\ Hid (Owns wz wr.heap.size v (upTo ps k)) /\ Below wr.heap.size wr wz /\ wr.heap.size <= wz.heap.size) (fun _ i _ => ps.length - (intOf i).toNat)
      case atStart => exact ⟨0, Nat.zero_le _, rfl, hown, hb1, hsz1⟩
      case round =>
        clear hown hb1 hsz1 hge
        rename World => wz
        obtain ⟨k, hk, rfl, hown, hbel, hsz⟩ := hrel
        by_cases hlt : k < ps.length
        · rcases HX.out with h0 | ⟨b, off, rfl, hc⟩
          · rw [h0] at hlt; simp at hlt
          · have c0 := keep_cell hbel (hc k hlt 0 (by omega))
            have HU : Hid _ := upTo_succ ps k hlt
            have hU1 := upTo_le ps (k + 1)
            have hU2 := HS.out
            rw [HU.out, List.length_append] at hU1
            have hq := HP.out (ps.getD k default) (by simp [List.getD_eq_getElem?_getD, hlt])
            generalize ps.getD k default = Q at c0 HU hU1 hq
            obtain ⟨qa, ql, qc⟩ := Q
            simp only [Nat.mul_one, Nat.add_zero] at c0
            dsimp only at hU1 HU hq
            have hkI : (k : Int) < (ps.length : Int) := by omega
            have lb := lt_of_cell c0
            obtain ⟨v', w', hrun, hown', hbel', hsz'⟩ := app_acts hown.out hbel hsz qa ql qc (RowsAt.below (cells := Ac.cells) (fun _ => rfl) hq hbel) (by omega)
            have HR : Hid (Owns w' wr.heap.size v' (upTo ps (k + 1))) := show Owns _ _ _ _ by rw [HU.out]; exact hown'
            generalize ql.length = m at *
            clear hc HX HP hown hown' hU1 hU2 hq
            go_wp2_with (at_builtin; refine wpList_append_eq rfl _ _ 23 rfl _ _ v' rfl rfl hrun ?_)
            go_roundw
            case rel => exact ⟨k + 1, by omega, by go_num, HR, hbel', hsz'⟩
            case measure => simp [intOf]; omega
        · have hge : ¬ ((k : Int) < (ps.length : Int)) := by omega
          have hkl : k = ps.length := by omega
          have HF : Hid (Owns wz wr.heap.size u6 (ps.flatMap Pt.l)) := show Owns _ _ _ _ by
            have := hown.out
            rw [hkl] at this
            unfold upTo at this
            rw [List.take_of_length_le (Nat.le_refl _)] at this
            exact this
          clear hkl hlt hk hown
          go_wp2
          go_ret
          exact ⟨_, rfl, HF.out, hbel⟩
end Go.Proofs.YtdngbojbpmdegaaGreatDoor

namespace Go.Proofs.YtdngbojbpmdegaaGreatDoor
open Go.RowKit
set_option maxRecDepth 100000
set_option linter.unusedVariables false
structure MBox (n0 : Nat) (w : World) (b : Nat) (M : Mv) : Prop where
  c0 : w.cell? ⟨b, 0, none⟩ = some (.slice M.fa M.frs.length M.fcap)
  c1 : w.cell? ⟨b, 1, none⟩ = some (.slice M.ea M.ens.length M.ecap)
  c2 : w.cell? ⟨b, 2, none⟩ = some (.slice M.qa M.qus.length M.qcap)
  fz : ∀ o, w.frozen? ⟨b, o, none⟩ = false
  lt : b < w.heap.size
  own : Owned n0 w M
  off : ¬ Mine M b
theorem MBox.keepH {n0 : Nat} {w w' : World} {b : Nat} {M : Mv} (h : MBox n0 w b M) (hw : ∀ c, c = b ∨ Mine M c -> w'.heap[c]? = w.heap[c]?) (hs : w.heap.size <= w'.heap.size) : MBox n0 w' b M := by
  have hc : ∀ o, w'.cell? ⟨b, o, none⟩ = w.cell? ⟨b, o, none⟩ := fun o => World.cell?_of_block (hw b (.inl rfl))
  exact ⟨(hc 0).trans h.c0, (hc 1).trans h.c1, (hc 2).trans h.c2, fun o => (World.frozen?_of_block (hw b (.inl rfl))).trans (h.fz o), Nat.lt_of_lt_of_le h.lt hs, h.own.keepM (fun c hc => hw c (.inr hc)) hs, h.off⟩
theorem MBox.old {n0 : Nat} {w : World} {b : Nat} {M : Mv} (h : MBox n0 w b M) {c : Nat} (hc : c = b ∨ Mine M c) : c < w.heap.size := by
  rcases hc with rfl | hc
  · exact h.lt
  · exact (Mine.fresh h.own hc).2
theorem MBox.keep {n0 : Nat} {w w' : World} {b : Nat} {M : Mv} (h : MBox n0 w b M) (hb : Below w.heap.size w w') : MBox n0 w' b M :=
  h.keepH (fun c hc => hb.block c (h.old hc)) hb.size
theorem MBox.far {n0 : Nat} {w : World} {b : Nat} {M : Mv} (h : MBox n0 w b M) {c : Nat} (hc : ¬ (c = b ∨ Mine M c)) (o : Nat) (v : Value) : MBox n0 (w.setCell ⟨c, o, none⟩ v) b M :=
  h.keepH (fun d hd => set_heap _ _ _ _ _ (fun e => hc (e ▸ hd))) (by simp [World.setCell])
theorem MBox.mono {n0 n1 : Nat} {w : World} {b : Nat} {M : Mv} (h : MBox n0 w b M) (hn : n1 <= n0) : MBox n1 w b M := ⟨h.c0, h.c1, h.c2, h.fz, h.lt, h.own.mono hn, h.off⟩
theorem MBox.of_block {n0 : Nat} {w : World} {b : Nat} {M : Mv} {t : TypeId} (hO : Owned n0 w M) (hb : w.heap[b]? = some (.cells #[.slice M.fa M.frs.length M.fcap, .slice M.ea M.ens.length M.ecap, .slice M.qa M.qus.length M.qcap] t (0, 0))) (off : ¬ Mine M b) : MBox n0 w b M :=
  ⟨by simp [World.cell?, hb], by simp [World.cell?, hb], by simp [World.cell?, hb], fun o => by simp [World.frozen?, hb], (Array.getElem?_eq_some_iff.1 hb).1, hO, off⟩
theorem MBox.putM {n0 n1 : Nat} {w : World} {b : Nat} {M N : Mv} (h : MBox n0 w b M) (hO : Owned n1 w N) (off : ¬ Mine N b) :
    MBox n1 (((w.setCell ⟨b, 0, none⟩ (.slice N.fa N.frs.length N.fcap)).setCell ⟨b, 1, none⟩ (.slice N.ea N.ens.length N.ecap)).setCell ⟨b, 2, none⟩ (.slice N.qa N.qus.length N.qcap)) b N := by
  obtain ⟨k0, k1, k2⟩ := blk3 (v0 := .slice N.fa N.frs.length N.fcap) (v1 := .slice N.ea N.ens.length N.ecap) (v2 := .slice N.qa N.qus.length N.qcap) h.c0 h.c1 h.c2
  have hf : ∀ o, (((w.setCell ⟨b, 0, none⟩ (.slice N.fa N.frs.length N.fcap)).setCell ⟨b, 1, none⟩ (.slice N.ea N.ens.length N.ecap)).setCell ⟨b, 2, none⟩ (.slice N.qa N.qus.length N.qcap)).frozen? ⟨b, o, none⟩ = false := fun o => by rw [World.frozen?_setCell, World.frozen?_setCell, World.frozen?_setCell]; exact h.fz o
  have hh := fun c hc => blk3_heap (w := w) (b := b) (v0 := .slice N.fa N.frs.length N.fcap) (v1 := .slice N.ea N.ens.length N.ecap) (v2 := .slice N.qa N.qus.length N.qcap) c hc
  have hz : (((w.setCell ⟨b, 0, none⟩ (.slice N.fa N.frs.length N.fcap)).setCell ⟨b, 1, none⟩ (.slice N.ea N.ens.length N.ecap)).setCell ⟨b, 2, none⟩ (.slice N.qa N.qus.length N.qcap)).heap.size = w.heap.size := blk3_size
  generalize ((w.setCell ⟨b, 0, none⟩ (.slice N.fa N.frs.length N.fcap)).setCell ⟨b, 1, none⟩ (.slice N.ea N.ens.length N.ecap)).setCell ⟨b, 2, none⟩ (.slice N.qa N.qus.length N.qcap) = V at k0 k1 k2 hf hh hz
  exact ⟨k0, k1, k2, hf, by rw [hz]; exact h.lt, hO.keepM (fun c hc => hh c (fun q => off (q ▸ hc))) (by rw [hz]; exact Nat.le_refl _), off⟩
structure OBox (w : World) (b : Nat) (nd v : Int) : Prop where
  c0 : w.cell? ⟨b, 0, none⟩ = some (.int .i64 nd)
  c1 : w.cell? ⟨b, 1, none⟩ = some (.int .i64 v)
  fz : ∀ o, w.frozen? ⟨b, o, none⟩ = false
  lt : b < w.heap.size
theorem OBox.keepH {w w' : World} {b : Nat} {nd v : Int} (h : OBox w b nd v) (hw : w'.heap[b]? = w.heap[b]?) (hs : w.heap.size <= w'.heap.size) : OBox w' b nd v :=
  ⟨(World.cell?_of_block hw).trans h.c0, (World.cell?_of_block hw).trans h.c1, fun o => (World.frozen?_of_block hw).trans (h.fz o), Nat.lt_of_lt_of_le h.lt hs⟩
theorem OBox.keep {w w' : World} {b : Nat} {nd v : Int} (h : OBox w b nd v) (hb : Below w.heap.size w w') : OBox w' b nd v := h.keepH (hb.block b h.lt) hb.size
theorem OBox.far {w : World} {b : Nat} {nd v : Int} (h : OBox w b nd v) {c : Nat} (hc : c ≠ b) (o : Nat) (x : Value) : OBox (w.setCell ⟨c, o, none⟩ x) b nd v :=
  h.keepH (set_heap _ _ _ _ _ (Ne.symm hc)) (by simp [World.setCell])
theorem OBox.of_block {w : World} {b : Nat} {nd v : Int} {t : TypeId} (hb : w.heap[b]? = some (.cells #[.int .i64 nd, .int .i64 v] t (0, 0))) : OBox w b nd v :=
  ⟨by simp [World.cell?, hb], by simp [World.cell?, hb], fun o => by simp [World.frozen?, hb], (Array.getElem?_eq_some_iff.1 hb).1⟩
theorem OBox.put {w : World} {b : Nat} {nd v : Int} (h : OBox w b nd v) (nd' v' : Int) : OBox ((w.setCell ⟨b, 0, none⟩ (.int .i64 nd')).setCell ⟨b, 1, none⟩ (.int .i64 v')) b nd' v' := by
  have oth : ∀ (V : World) (i j : Nat) (x : Value), i ≠ j -> (V.setCell ⟨b, i, none⟩ x).cell? ⟨b, j, none⟩ = V.cell? ⟨b, j, none⟩ := fun V i j x hij => World.cell?_setCell_other _ _ _ _ (by intro q; simp only [Addr.mk.injEq, true_and, and_true] at q; exact hij q)
  exact ⟨(oth _ 1 0 _ (by omega)).trans (World.cell?_setCell_same _ _ _ h.c0), World.cell?_setCell_same _ _ _ ((oth w 0 1 _ (by omega)).trans h.c1), fun o => by rw [World.frozen?_setCell, World.frozen?_setCell]; exact h.fz o, by simp [World.setCell]; exact h.lt⟩
end Go.Proofs.YtdngbojbpmdegaaGreatDoor

namespace Go.Proofs.YtdngbojbpmdegaaGreatDoor
open Go.RowKit
set_option linter.unusedVariables false
structure ZM (w : World) (g : Nat) : Prop where
  c0 : w.cell? ⟨g, 0, none⟩ = some (.slice none 0 0)
  c1 : w.cell? ⟨g, 1, none⟩ = some (.slice none 0 0)
  c2 : w.cell? ⟨g, 2, none⟩ = some (.slice none 0 0)
  fz : ∀ o, w.frozen? ⟨g, o, none⟩ = false
  lt : g < w.heap.size
theorem ZM.of {w X : World} {g : Nat} {t : TypeId} (hX : X.heap[g]? = some (.cells #[.slice none 0 0, .slice none 0 0, .slice none 0 0] t (0, 0))) (hb : Below X.heap.size X w) : ZM w g := by
  have h := (hb.block g (Array.getElem?_eq_some_iff.1 hX).1).trans hX
  exact ⟨by simp [World.cell?, h], by simp [World.cell?, h], by simp [World.cell?, h], fun o => by simp [World.frozen?, h], (Array.getElem?_eq_some_iff.1 h).1⟩
structure ZO (w : World) (g : Nat) : Prop where
  c0 : w.cell? ⟨g, 0, none⟩ = some (.int .i64 0)
  c1 : w.cell? ⟨g, 1, none⟩ = some (.int .i64 0)
  fz : ∀ o, w.frozen? ⟨g, o, none⟩ = false
  lt : g < w.heap.size
theorem ZO.of {w X : World} {g : Nat} {t : TypeId} (hX : X.heap[g]? = some (.cells #[.int .i64 0, .int .i64 0] t (0, 0))) (hb : Below X.heap.size X w) : ZO w g := by
  have h := (hb.block g (Array.getElem?_eq_some_iff.1 hX).1).trans hX
  exact ⟨by simp [World.cell?, h], by simp [World.cell?, h], fun o => by simp [World.frozen?, h], (Array.getElem?_eq_some_iff.1 h).1⟩
theorem no_mine {b : Nat} : ¬ Mine noM b := by
  rintro (⟨o, s, e⟩ | ⟨o, s, e⟩ | ⟨o, s, e⟩ | ⟨j, hj, _⟩)
  · cases e
  · cases e
  · cases e
  · simp [noM] at hj
theorem ZM.box {w : World} {g : Nat} (h : ZM w g) : MBox 0 w g noM := ⟨h.c0, h.c1, h.c2, h.fz, h.lt, noM_own _ _, no_mine⟩
theorem ZO.box {w : World} {g : Nat} (h : ZO w g) : OBox w g 0 0 := ⟨h.c0, h.c1, h.fz, h.lt⟩
section
variable {n0 : Nat} {W w7 : World} {X : Mv} {g1 g2 : Nat} {nd v : Int}
end
end Go.Proofs.YtdngbojbpmdegaaGreatDoor
