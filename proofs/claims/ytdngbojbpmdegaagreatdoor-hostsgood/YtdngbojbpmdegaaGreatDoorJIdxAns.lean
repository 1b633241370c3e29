/-
  What slices.Grow (from nil) and slices.Concat answer at lists of acts: a row of its own with all the acts of the lists, in their order. The conditions: the lists' cells are there, and there are not more than some thousand acts. What slices.Clone answers at a list of acts (own work): a row of its own with the same acts; and the acts that a statement writes out, as a row. The conditions: the list's cells are there, and there are not more than some thousand acts. A variable that holds a machine of its own in memory, and one that holds an outcome (own work): what a store into them makes of them. No condition beside the cells. Variables for a machine and for an outcome that a statement makes ahead of its own call (own work): they are still empty behind it. No condition. What slices.Equal answers at two lists of enclaves, or of quotes, that hold the same (own work): true; nothing that was in memory turns. The condition: the machines' cells are there. What the call has (riddletop) answers: whether an enclave has just the pages of an image. It turns nothing that was in memory. The conditions: the cells are there, and no frame and no page has too many words. What a run changes, and that a run in pieces is the run in one (own work). No condition but that the machine may be. What an enclave has, of a machine that holds the same as another one (own work). No condition. Acts that are refused do nothing (own work): the five of HostsGood, at every machine that may be. No condition but that. What slices.IndexFunc and slices.ContainsFunc answer at the answers of a script: the first element, or whether there is one, of which the function that is handed in answers true. The condition: what that function answers.
-/
import Derived.Test.YtdngbojbpmdegaaGreatDoorJRaw
import Derived.Test.YtdngbojbpmdegaaGreatDoorActsOf
import Derived.Lib.AppendZeros
import Derived.Test.YtdngbojbpmdegaaGreatDoorJHostSmall
import Derived.Test.YtdngbojbpmdegaaGreatDoorRunResume
import Derived.Test.YtdngbojbpmdegaaGreatDoorJSameM
import Derived.BigQuiet
import Derived.Test.YtdngbojbpmdegaaGreatDoorJRunMath
import Derived.Test.YtdngbojbpmdegaaGreatDoorJPokes
import Derived.Deep.RegionHeld3
import Derived.Deep.DeepCutAuto
import Derived.Test.YtdngbojbpmdegaaGreatDoorHostRun
import Derived.Test.YtdngbojbpmdegaaGreatDoorJIdxBase
namespace Go.Proofs.YtdngbojbpmdegaaGreatDoor
open Go.RowKit
set_option maxRecDepth 100000
set_option linter.unusedVariables false

/-- a list that is handed in -/
structure Pt where
  a : Option Addr
  l : List Ac
  cap : Nat
instance : Inhabited Pt := ⟨⟨none, [], 0⟩⟩
def Pt.cells (p : Pt) : List Value := [.slice p.a p.l.length p.cap]
end Go.Proofs.YtdngbojbpmdegaaGreatDoor

namespace Go.Proofs.YtdngbojbpmdegaaGreatDoor
open Go.RowKit
set_option maxRecDepth 100000
set_option linter.unusedVariables false

theorem empty_owns (w : World) : Owns (w.alloc (.cells #[] 68)) w.heap.size (.slice (some ⟨w.heap.size, 0, none⟩) 0 0) [] :=
  ⟨rfl, .inr ⟨w.heap.size, 0, #[], rfl, Nat.le_refl _, Go.Deep.blk_alloc_new w _, Nat.zero_le _, by unfold maxLen; omega, rfl, by simp [rowA]⟩⟩
set_option maxHeartbeats 4000000 in
theorem clone_acts (a : Option Addr) (l : List Ac) (cap : Nat) (w : World) (hl : l.length ≤ 10000) (hx : RowsAt w 7 Ac.cells a l) :
    Calls Tryz.prog 27 #[.slice a l.length cap] w fun e w' => ∃ v, e = .returned v ∧ Owns w' w.heap.size v l ∧ Below w.heap.size w w' := by
  cases a with
  | none =>
    have h0 : l = [] := by
      rcases hx with h | ⟨b, o, h, _⟩
      · exact h
      · cases h
    subst h0
    have he : ∀ w : World, (binOp .eql 23 (.slice none 0 cap) (.slice none 0 0)).run Tryz.prog w = .ok (.bool true) w := fun _ => rfl
    simp only [List.length_nil]
    go_enter Tryz.func27, Tryz.ntmps27
    go_wp2
    go_ret
    exact ⟨_, rfl, World.ownsRow_nil _ _ _ _, Below.refl _ _⟩
  | some ad =>
    have hb1 : Below w.heap.size w (w.alloc (.cells #[] 68)) := (Below.refl _ _).alloc (Nat.le_refl _) _
    obtain ⟨v', w', hrun, hown', hbel', hsz'⟩ := app_acts (empty_owns w) hb1 (by simp) (some ad) l cap (RowsAt.below (cells := Ac.cells) (fun _ => rfl) hx hb1) (by simp; omega)
    rw [List.nil_append] at hown'
    have HR : Hid (_) := And.intro hown' hbel'
    clear hx hown' hbel' hsz' hb1
    generalize hn : l.length = n at *
    have he : ∀ w : World, (binOp .eql 23 (.slice (some ad) n cap) (.slice none 0 0)).run Tryz.prog w = .ok (.bool false) w := fun _ => rfl
    go_enter Tryz.func27, Tryz.ntmps27
    go_wp2_with (at_builtin; refine wpList_append_eq rfl _ _ 23 rfl _ _ v' rfl rfl hrun ?_)
    go_ret
    exact ⟨_, rfl, HR.out.1, HR.out.2⟩
/-- acts that are written out -/
theorem lit_rows {w : World} {g : Nat} {l : List Ac} {cs : Array Value} {t : TypeId} (h : w.heap[g]? = some (.cells cs t (0, 0))) (hc : cs = (l.flatMap Ac.cells).toArray) : RowsAt w 7 Ac.cells (some ⟨g, 0, none⟩) l := by
  refine rows_of_block (cells := Ac.cells) (c := 7) (fun _ => rfl) (rest := []) (fr := (0, 0)) (t := t) ?_
  rw [List.append_nil, ← hc]; exact h

end Go.Proofs.YtdngbojbpmdegaaGreatDoor

namespace Go.Proofs.YtdngbojbpmdegaaGreatDoor
open Go.RowKit
set_option maxRecDepth 100000
set_option linter.unusedVariables false

/-- a variable that holds a machine of its own -/
structure MBox (n0 : Nat) (w : World) (b : Nat) (M : Mv) : Prop where
  c0 : w.cell? ⟨b, 0, none⟩ = some (.slice M.fa M.frs.length M.fcap)
  c1 : w.cell? ⟨b, 1, none⟩ = some (.slice M.ea M.ens.length M.ecap)
  c2 : w.cell? ⟨b, 2, none⟩ = some (.slice M.qa M.qus.length M.qcap)
  fz : ∀ o, w.frozen? ⟨b, o, none⟩ = false
  lt : b < w.heap.size
  own : Owned n0 w M
  off : ¬ Mine M b
theorem MBox.keepH {n0 : Nat} {w w' : World} {b : Nat} {M : Mv} (h : MBox n0 w b M) (hw : ∀ c, c = b ∨ Mine M c → w'.heap[c]? = w.heap[c]?) (hs : w.heap.size ≤ w'.heap.size) : MBox n0 w' b M := by
  have hc : ∀ o, w'.cell? ⟨b, o, none⟩ = w.cell? ⟨b, o, none⟩ := fun o => World.cell?_of_block (hw b (.inl rfl))
  exact ⟨(hc 0).trans h.c0, (hc 1).trans h.c1, (hc 2).trans h.c2, fun o => (World.frozen?_of_block (hw b (.inl rfl))).trans (h.fz o), Nat.lt_of_lt_of_le h.lt hs, h.own.keepM (fun c hc => hw c (.inr hc)) hs, h.off⟩
theorem MBox.old {n0 : Nat} {w : World} {b : Nat} {M : Mv} (h : MBox n0 w b M) {c : Nat} (hc : c = b ∨ Mine M c) : c < w.heap.size := by
  rcases hc with rfl | hc
  · exact h.lt
  · exact (Mine.fresh h.own hc).2
theorem MBox.keep {n0 : Nat} {w w' : World} {b : Nat} {M : Mv} (h : MBox n0 w b M) (hb : Below w.heap.size w w') : MBox n0 w' b M :=
  h.keepH (fun c hc => hb.block c (h.old hc)) hb.size
theorem MBox.far {n0 : Nat} {w : World} {b : Nat} {M : Mv} (h : MBox n0 w b M) {c : Nat} (hc : ¬ (c = b ∨ Mine M c)) (o : Nat) (v : Value) : MBox n0 (w.setCell ⟨c, o, none⟩ v) b M :=
  h.keepH (fun d hd => set_heap _ _ _ _ _ (fun e => hc (e ▸ hd))) (by simp [World.setCell])
theorem MBox.mono {n0 n1 : Nat} {w : World} {b : Nat} {M : Mv} (h : MBox n0 w b M) (hn : n1 ≤ n0) : MBox n1 w b M := ⟨h.c0, h.c1, h.c2, h.fz, h.lt, h.own.mono hn, h.off⟩
theorem MBox.of_block {n0 : Nat} {w : World} {b : Nat} {M : Mv} {t : TypeId} (hO : Owned n0 w M) (hb : w.heap[b]? = some (.cells #[.slice M.fa M.frs.length M.fcap, .slice M.ea M.ens.length M.ecap, .slice M.qa M.qus.length M.qcap] t (0, 0))) (off : ¬ Mine M b) : MBox n0 w b M :=
  ⟨by simp [World.cell?, hb], by simp [World.cell?, hb], by simp [World.cell?, hb], fun o => by simp [World.frozen?, hb], (Array.getElem?_eq_some_iff.1 hb).1, hO, off⟩
/-- a machine is taken over -/
theorem MBox.putM {n0 n1 : Nat} {w : World} {b : Nat} {M N : Mv} (h : MBox n0 w b M) (hO : Owned n1 w N) (off : ¬ Mine N b) :
    MBox n1 (((w.setCell ⟨b, 0, none⟩ (.slice N.fa N.frs.length N.fcap)).setCell ⟨b, 1, none⟩ (.slice N.ea N.ens.length N.ecap)).setCell ⟨b, 2, none⟩ (.slice N.qa N.qus.length N.qcap)) b N := by
  obtain ⟨k0, k1, k2⟩ := blk3 (v0 := .slice N.fa N.frs.length N.fcap) (v1 := .slice N.ea N.ens.length N.ecap) (v2 := .slice N.qa N.qus.length N.qcap) h.c0 h.c1 h.c2
  have hf : ∀ o, (((w.setCell ⟨b, 0, none⟩ (.slice N.fa N.frs.length N.fcap)).setCell ⟨b, 1, none⟩ (.slice N.ea N.ens.length N.ecap)).setCell ⟨b, 2, none⟩ (.slice N.qa N.qus.length N.qcap)).frozen? ⟨b, o, none⟩ = false := fun o => by rw [World.frozen?_setCell, World.frozen?_setCell, World.frozen?_setCell]; exact h.fz o
  have hh := fun c hc => blk3_heap (w := w) (b := b) (v0 := .slice N.fa N.frs.length N.fcap) (v1 := .slice N.ea N.ens.length N.ecap) (v2 := .slice N.qa N.qus.length N.qcap) c hc
  have hz : (((w.setCell ⟨b, 0, none⟩ (.slice N.fa N.frs.length N.fcap)).setCell ⟨b, 1, none⟩ (.slice N.ea N.ens.length N.ecap)).setCell ⟨b, 2, none⟩ (.slice N.qa N.qus.length N.qcap)).heap.size = w.heap.size := blk3_size
  generalize ((w.setCell ⟨b, 0, none⟩ (.slice N.fa N.frs.length N.fcap)).setCell ⟨b, 1, none⟩ (.slice N.ea N.ens.length N.ecap)).setCell ⟨b, 2, none⟩ (.slice N.qa N.qus.length N.qcap) = V at k0 k1 k2 hf hh hz
  exact ⟨k0, k1, k2, hf, by rw [hz]; exact h.lt, hO.keepM (fun c hc => hh c (fun q => off (q ▸ hc))) (by rw [hz]; exact Nat.le_refl _), off⟩
/-- a variable that holds an outcome -/
structure OBox (w : World) (b : Nat) (nd v : Int) : Prop where
  c0 : w.cell? ⟨b, 0, none⟩ = some (.int .i64 nd)
  c1 : w.cell? ⟨b, 1, none⟩ = some (.int .i64 v)
  fz : ∀ o, w.frozen? ⟨b, o, none⟩ = false
  lt : b < w.heap.size
theorem OBox.keepH {w w' : World} {b : Nat} {nd v : Int} (h : OBox w b nd v) (hw : w'.heap[b]? = w.heap[b]?) (hs : w.heap.size ≤ w'.heap.size) : OBox w' b nd v :=
  ⟨(World.cell?_of_block hw).trans h.c0, (World.cell?_of_block hw).trans h.c1, fun o => (World.frozen?_of_block hw).trans (h.fz o), Nat.lt_of_lt_of_le h.lt hs⟩
theorem OBox.keep {w w' : World} {b : Nat} {nd v : Int} (h : OBox w b nd v) (hb : Below w.heap.size w w') : OBox w' b nd v := h.keepH (hb.block b h.lt) hb.size
theorem OBox.far {w : World} {b : Nat} {nd v : Int} (h : OBox w b nd v) {c : Nat} (hc : c ≠ b) (o : Nat) (x : Value) : OBox (w.setCell ⟨c, o, none⟩ x) b nd v :=
  h.keepH (set_heap _ _ _ _ _ (Ne.symm hc)) (by simp [World.setCell])
theorem OBox.of_block {w : World} {b : Nat} {nd v : Int} {t : TypeId} (hb : w.heap[b]? = some (.cells #[.int .i64 nd, .int .i64 v] t (0, 0))) : OBox w b nd v :=
  ⟨by simp [World.cell?, hb], by simp [World.cell?, hb], fun o => by simp [World.frozen?, hb], (Array.getElem?_eq_some_iff.1 hb).1⟩
theorem OBox.put {w : World} {b : Nat} {nd v : Int} (h : OBox w b nd v) (nd' v' : Int) : OBox ((w.setCell ⟨b, 0, none⟩ (.int .i64 nd')).setCell ⟨b, 1, none⟩ (.int .i64 v')) b nd' v' := by
  have oth : ∀ (V : World) (i j : Nat) (x : Value), i ≠ j → (V.setCell ⟨b, i, none⟩ x).cell? ⟨b, j, none⟩ = V.cell? ⟨b, j, none⟩ := fun V i j x hij => World.cell?_setCell_other _ _ _ _ (by intro q; simp only [Addr.mk.injEq, true_and, and_true] at q; exact hij q)
  exact ⟨(oth _ 1 0 _ (by omega)).trans (World.cell?_setCell_same _ _ _ h.c0), World.cell?_setCell_same _ _ _ ((oth w 0 1 _ (by omega)).trans h.c1), fun o => by rw [World.frozen?_setCell, World.frozen?_setCell]; exact h.fz o, by simp [World.setCell]; exact h.lt⟩
end Go.Proofs.YtdngbojbpmdegaaGreatDoor

namespace Go.Proofs.YtdngbojbpmdegaaGreatDoor
open Go.RowKit
set_option linter.unusedVariables false

/-- an empty machine's variable -/
structure ZM (w : World) (g : Nat) : Prop where
  c0 : w.cell? ⟨g, 0, none⟩ = some (.slice none 0 0)
  c1 : w.cell? ⟨g, 1, none⟩ = some (.slice none 0 0)
  c2 : w.cell? ⟨g, 2, none⟩ = some (.slice none 0 0)
  fz : ∀ o, w.frozen? ⟨g, o, none⟩ = false
  lt : g < w.heap.size
theorem ZM.of {w X : World} {g : Nat} {t : TypeId} (hX : X.heap[g]? = some (.cells #[.slice none 0 0, .slice none 0 0, .slice none 0 0] t (0, 0))) (hb : Below X.heap.size X w) : ZM w g := by
  have h := (hb.block g (Array.getElem?_eq_some_iff.1 hX).1).trans hX
  exact ⟨by simp [World.cell?, h], by simp [World.cell?, h], by simp [World.cell?, h], fun o => by simp [World.frozen?, h], (Array.getElem?_eq_some_iff.1 h).1⟩
/-- an empty outcome's variable -/
structure ZO (w : World) (g : Nat) : Prop where
  c0 : w.cell? ⟨g, 0, none⟩ = some (.int .i64 0)
  c1 : w.cell? ⟨g, 1, none⟩ = some (.int .i64 0)
  fz : ∀ o, w.frozen? ⟨g, o, none⟩ = false
  lt : g < w.heap.size
theorem ZO.of {w X : World} {g : Nat} {t : TypeId} (hX : X.heap[g]? = some (.cells #[.int .i64 0, .int .i64 0] t (0, 0))) (hb : Below X.heap.size X w) : ZO w g := by
  have h := (hb.block g (Array.getElem?_eq_some_iff.1 hX).1).trans hX
  exact ⟨by simp [World.cell?, h], by simp [World.cell?, h], fun o => by simp [World.frozen?, h], (Array.getElem?_eq_some_iff.1 h).1⟩
theorem no_mine {b : Nat} : ¬ Mine noM b := by
  rintro (⟨o, s, e⟩ | ⟨o, s, e⟩ | ⟨o, s, e⟩ | ⟨j, hj, _⟩)
  · cases e
  · cases e
  · cases e
  · simp [noM] at hj
theorem ZM.box {w : World} {g : Nat} (h : ZM w g) : MBox 0 w g noM := ⟨h.c0, h.c1, h.c2, h.fz, h.lt, noM_own _ _, no_mine⟩
theorem ZO.box {w : World} {g : Nat} (h : ZO w g) : OBox w g 0 0 := ⟨h.c0, h.c1, h.fz, h.lt⟩
section
variable {n0 : Nat} {W w7 : World} {X : Mv} {g1 g2 : Nat} {nd v : Int}
end

end Go.Proofs.YtdngbojbpmdegaaGreatDoor

namespace Go.Proofs.YtdngbojbpmdegaaGreatDoor
open Go.RowKit
set_option maxRecDepth 100000
set_option linter.unusedVariables false

set_option maxHeartbeats 2000000 in
theorem eqEns_any (M N : Mv) (w : World) (hM : MachAt w M) (hN : MachAt w N) (he : M.ens = N.ens) :
    Calls Tryz.prog 31 #[.slice M.ea M.ens.length M.ecap, .slice N.ea N.ens.length N.ecap] w fun e w' => e = .returned (.bool true) ∧ ∃ n, w' = w.drewN n := by
  have hl := hM.enl
  unfold maxLen at hl
  rw [← he]
  have HE : Hid (N.ens = M.ens) := he.symm
  obtain ⟨nn, hnn⟩ : ∃ nn, Hid (nn = M.ens.length) := ⟨_, rfl⟩
  rw [← hnn.out] at hl ⊢
  have HM : Hid (MachAt w M) := hM
  have HN : Hid (MachAt w N) := hN
  clear hM hN he
  obtain ⟨fa, frs, fcap, ea, ens, ecap, qa, qus, qcap⟩ := M
  obtain ⟨fb, gs, gcap, eb, ens', ecap', qb, qus', qcap'⟩ := N
  dsimp only at *
  go_enter Tryz.func31, Tryz.ntmps31
  go_wp2
  go_loopw [13] (fun i wr => ∃ k : Nat, k ≤ nn ∧ i = .int .i64 k ∧ ∃ n, wr = w.drewN n) (fun i _ => nn - (intOf i).toNat)
  case atStart => exact ⟨0, Nat.zero_le _, rfl, 0, rfl⟩
  case round =>
    obtain ⟨k, hk, rfl, n, rfl⟩ := hrel
    by_cases hlt : k < nn
    · obtain ⟨xb, xo, hxa, c0, c1, c2, c3, c4, c5, c6⟩ := HM.out.enclave (j := k) (by dsimp only; rw [← hnn.out]; exact hlt)
      obtain ⟨yb, yo, hya, d0, d1, d2, d3, d4, d5, d6⟩ := HN.out.enclave (j := k) (by dsimp only; rw [HE.out, ← hnn.out]; exact hlt)
      dsimp only at hxa hya c0 c1 c2 c3 c4 c5 c6 d0 d1 d2 d3 d4 d5 d6
      subst hxa hya
      rw [HE.out] at d0 d1 d2 d3 d4 d5 d6
      generalize ens.getD k default = P at c0 c1 c2 c3 c4 c5 c6 d0 d1 d2 d3 d4 d5 d6
      obtain ⟨st, lg, pc, g0, g1, g2, g3⟩ := P
      dsimp only at c0 c1 c2 c3 c4 c5 c6 d0 d1 d2 d3 d4 d5 d6
      have hkI : (k : Int) < (nn : Int) := by omega
      have hE : ∀ w', (Op.equalIn 10000 58 (.agg #[.int .i64 st, .string lg, .int .i64 pc, .int .i64 g0, .int .i64 g1, .int .i64 g2, .int .i64 g3]) (.agg #[.int .i64 st, .string lg, .int .i64 pc, .int .i64 g0, .int .i64 g1, .int .i64 g2, .int .i64 g3])).run Tryz.prog w' = .ok true w' := fun w' => by
        have := eq_enclave 9997 st pc g0 g1 g2 g3 st pc g0 g1 g2 g3 lg lg w'
        simpa using this
      go_wp2
      go_quiet (fail)
      go_wp2
      go_roundw
      case rel => exact ⟨k + 1, by omega, by go_num, _, rfl⟩
      case measure => simp [intOf]; omega
    · have hge : ¬ ((k : Int) < (nn : Int)) := by omega
      clear hlt
      go_wp2
      go_ret
      exact ⟨rfl, n, rfl⟩

end Go.Proofs.YtdngbojbpmdegaaGreatDoor

namespace Go.Proofs.YtdngbojbpmdegaaGreatDoor
open Go.RowKit
set_option maxRecDepth 100000
set_option linter.unusedVariables false

end Go.Proofs.YtdngbojbpmdegaaGreatDoor

namespace Go.Proofs.YtdngbojbpmdegaaGreatDoor
open Go.RowKit

/-- what a run of the enclave m leaves as it was -/
structure Walled (m : Nat) (M N : Mv) : Prop where
  len : N.frs.length = M.frs.length
  ens : N.ens = M.ens
  own : ∀ j, (N.frs.getD j default).o = (M.frs.getD j default).o ∧ (N.frs.getD j default).at_ = (M.frs.getD j default).at_ ∧ (N.frs.getD j default).r = (M.frs.getD j default).r
  ws : ∀ j, (M.frs.getD j default).o ≠ 0 → ((M.frs.getD j default).o ≠ (m : Int) + 1 ∨ ¬ (M.frs.getD j default).r / 2 % 2 = 1) → (N.frs.getD j default).ws = (M.frs.getD j default).ws
  qus : ∃ l, N.qus = M.qus ++ l
theorem Walled.refl (m : Nat) (M : Mv) : Walled m M M := ⟨rfl, rfl, fun _ => ⟨rfl, rfl, rfl⟩, fun _ _ _ => rfl, [], by simp⟩
theorem Walled.trans {m : Nat} {M N K : Mv} (h : Walled m M N) (g : Walled m N K) : Walled m M K := by
  refine ⟨g.len.trans h.len, g.ens.trans h.ens, fun j => ?_, fun j h0 hc => ?_, ?_⟩
  · obtain ⟨a, b, c⟩ := h.own j
    obtain ⟨a', b', c'⟩ := g.own j
    exact ⟨a'.trans a, b'.trans b, c'.trans c⟩
  · obtain ⟨a, b, c⟩ := h.own j
    rw [g.ws j (by rw [a]; exact h0) (by rw [a, c]; exact hc), h.ws j h0 hc]
  · obtain ⟨l, hl⟩ := h.qus
    obtain ⟨k, hk⟩ := g.qus
    exact ⟨l ++ k, by rw [hk, hl, List.append_assoc]⟩
end Go.Proofs.YtdngbojbpmdegaaGreatDoor

namespace Go.Proofs.YtdngbojbpmdegaaGreatDoor
open Go.RowKit

end Go.Proofs.YtdngbojbpmdegaaGreatDoor

namespace Go.Proofs.YtdngbojbpmdegaaGreatDoor
open Go.RowKit

def badL (k : Int) : List Ac := [⟨k, 0, 0, 0, 0, 0, 0⟩, ⟨4, 0, 0, 0, 0, 0, 0⟩, ⟨6, 0, 24, 0, 0, 0, 0⟩, ⟨11, 0, 0, -1, 0, 0, 0⟩, ⟨8, 5, 0, 0, 0, 0, 0⟩]
theorem bad_ask {M : Mv} (hz : machF M = 0) {e s : Int} (he : ¬ inB e 1 4 = true) : askF M e s = 5 := by unfold askF; rw [if_pos hz, if_neg he]
theorem bad_one {s : Hs} {x : Ac} {c : Int} (hm : actM s.M s.C x = s.M) (hd : actD s.M s.C x = s.C) (hc : actC s.M s.C x = c) (l : List Ac) (r : List Int) (h : hst s l = s ∧ (hans s l).map Prod.fst = r) : hst s (x :: l) = s ∧ (hans s (x :: l)).map Prod.fst = c :: r := by
  have e : hstep s x = s := by unfold hstep; rw [hm, hd]
  refine ⟨?_, ?_⟩
  · show hst (hstep s x) l = s
    rw [e]; exact h.1
  · show actC s.M s.C x :: (hans (hstep s x) l).map Prod.fst = c :: r
    rw [e, hc, h.2]
theorem bad_acts {s : Hs} (hz : machF s.M = 0) {k : Int} (hk : 12 ≤ k) : hst s (badL k) = s ∧ (hans s (badL k)).map Prod.fst = [3, 5, 2, 5, 5] := by
  have a1 : askF s.M 0 1 = 5 := bad_ask hz (by decide)
  have a2 : wordF s.M 24 0 = 2 := by unfold wordF; rw [if_pos hz]; rfl
  have a3 : entF s.M 5 0 0 = 5 := by
    have : fuelF s.M 5 2 0 = 5 := by
      have q : askF s.M 5 2 = 5 := bad_ask hz (by decide)
      unfold fuelF; rw [q]; rfl
    unfold entF; rw [this]; rfl
  have a4 : entD s.M 5 0 0 = 0 := by unfold entD; rw [a3]; rfl
  have a5 : chkE s.M s.C (-1) = 5 := by unfold chkE; rw [if_neg (by omega)]
  unfold badL
  refine bad_one ?_ ?_ ?_ _ _ (bad_one ?_ ?_ ?_ _ _ (bad_one ?_ ?_ ?_ _ _ (bad_one ?_ ?_ ?_ _ _ (bad_one ?_ ?_ ?_ _ _ ⟨rfl, rfl⟩))))
  · unfold actM
    dsimp only
    rw [if_neg (by omega), if_neg (by omega), if_neg (by omega), if_neg (by omega), if_neg (by omega), if_neg (by omega), if_neg (by omega), if_neg (by omega)]
  · unfold actD
    dsimp only
    rw [if_neg (by omega), if_neg (by omega)]
  · unfold actC
    dsimp only
    rw [if_neg (by omega), if_neg (by omega), if_neg (by omega), if_neg (by omega), if_neg (by omega), if_neg (by omega), if_neg (by omega), if_neg (by omega), if_neg (by omega), if_neg (by omega), if_neg (by omega)]
  · show (if askF s.M 0 1 = 0 then startM s.M 0 else s.M) = s.M
    rw [a1]; rfl
  · rfl
  · exact a1
  · rfl
  · rfl
  · exact a2
  · rfl
  · show chkD s.M s.C (-1) = s.C
    unfold chkD; rw [a5]; rfl
  · exact a5
  · show (if entF s.M 5 0 0 = 0 then entM s.M 5 0 0 else s.M) = s.M
    rw [a3]; rfl
  · rfl
  · show ranC (entD s.M 5 0 0) (entF s.M 5 0 0) = 5
    rw [a3, a4]; rfl

end Go.Proofs.YtdngbojbpmdegaaGreatDoor

namespace Go.Proofs.YtdngbojbpmdegaaGreatDoor
open Go.RowKit

end Go.Proofs.YtdngbojbpmdegaaGreatDoor
