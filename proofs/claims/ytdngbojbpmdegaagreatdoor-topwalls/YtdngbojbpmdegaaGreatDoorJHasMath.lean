/-
  A variable that holds a machine of its own in memory, and one that holds an outcome (own work): what a store into them makes of them. No condition beside the cells. Variables for a machine and for an outcome that a statement makes ahead of its own call (own work): they are still empty behind it. No condition. What slices.Equal answers at two lists of enclaves, or of quotes, that hold the same (own work): true; nothing that was in memory turns. The condition: the machines' cells are there. What the call has (riddletop) answers: whether an enclave has just the pages of an image. It turns nothing that was in memory. The conditions: the cells are there, and no frame and no page has too many words. What an enclave has, of a machine that holds the same as another one (own work). No condition.
-/
import Derived.Test.YtdngbojbpmdegaaGreatDoorJHostRan
import Derived.Test.YtdngbojbpmdegaaGreatDoorRunResume
import Derived.Test.YtdngbojbpmdegaaGreatDoorJSameM
import Derived.BigQuiet
import Derived.Test.YtdngbojbpmdegaaGreatDoorJRunMath
import Derived.Test.YtdngbojbpmdegaaGreatDoorJActs
import Derived.Deep.RegionHeld3
import Derived.Deep.DeepCutAuto
import Derived.Test.YtdngbojbpmdegaaGreatDoorJTopRun
namespace Go.Proofs.YtdngbojbpmdegaaGreatDoor
open Go.RowKit
set_option maxRecDepth 100000
set_option linter.unusedVariables false

theorem boxes2 (X : World) (a b c d e : Value) (t s : TypeId) : Below X.heap.size X ((X.alloc (.cells #[a, b, c] t)).alloc (.cells #[d, e] s)) ∧ ((X.alloc (.cells #[a, b, c] t)).alloc (.cells #[d, e] s)).heap[X.heap.size]? = some (.cells #[a, b, c] t (0, 0)) ∧ ((X.alloc (.cells #[a, b, c] t)).alloc (.cells #[d, e] s)).heap[X.heap.size + 1]? = some (.cells #[d, e] s (0, 0)) := by
  refine ⟨below_allocR (below_allocR (Below.refl _ _) _) _, ?_, ?_⟩
  · rw [Below.heap_alloc _ _ _ (by simp)]; exact Go.Deep.blk_alloc_new _ _
  · have := Go.Deep.blk_alloc_new (X.alloc (.cells #[a, b, c] t)) (.cells #[d, e] s)
    simpa using this

/-- a variable that holds a machine of its own -/
structure MBox (n0 : Nat) (w : World) (b : Nat) (M : Mv) : Prop where
  c0 : w.cell? ⟨b, 0, none⟩ = some (.slice M.fa M.frs.length M.fcap)
  c1 : w.cell? ⟨b, 1, none⟩ = some (.slice M.ea M.ens.length M.ecap)
  c2 : w.cell? ⟨b, 2, none⟩ = some (.slice M.qa M.qus.length M.qcap)
  fz : ∀ o, w.frozen? ⟨b, o, none⟩ = false
  lt : b < w.heap.size
  own : Owned n0 w M
  off : ¬ Mine M b
theorem MBox.keepH {n0 : Nat} {w w' : World} {b : Nat} {M : Mv} (h : MBox n0 w b M) (hw : ∀ c, c = b ∨ Mine M c → w'.heap[c]? = w.heap[c]?) (hs : w.heap.size ≤ w'.heap.size) : MBox n0 w' b M := by
  have hc : ∀ o, w'.cell? ⟨b, o, none⟩ = w.cell? ⟨b, o, none⟩ := fun o => World.cell?_of_block (hw b (.inl rfl))
  exact ⟨(hc 0).trans h.c0, (hc 1).trans h.c1, (hc 2).trans h.c2, fun o => (World.frozen?_of_block (hw b (.inl rfl))).trans (h.fz o), Nat.lt_of_lt_of_le h.lt hs, h.own.keepM (fun c hc => hw c (.inr hc)) hs, h.off⟩
theorem MBox.old {n0 : Nat} {w : World} {b : Nat} {M : Mv} (h : MBox n0 w b M) {c : Nat} (hc : c = b ∨ Mine M c) : c < w.heap.size := by
  rcases hc with rfl | hc
  · exact h.lt
  · exact (Mine.fresh h.own hc).2
theorem MBox.keep {n0 : Nat} {w w' : World} {b : Nat} {M : Mv} (h : MBox n0 w b M) (hb : Below w.heap.size w w') : MBox n0 w' b M :=
  h.keepH (fun c hc => hb.block c (h.old hc)) hb.size
theorem MBox.far {n0 : Nat} {w : World} {b : Nat} {M : Mv} (h : MBox n0 w b M) {c : Nat} (hc : ¬ (c = b ∨ Mine M c)) (o : Nat) (v : Value) : MBox n0 (w.setCell ⟨c, o, none⟩ v) b M :=
  h.keepH (fun d hd => set_heap _ _ _ _ _ (fun e => hc (e ▸ hd))) (by simp [World.setCell])
theorem MBox.mono {n0 n1 : Nat} {w : World} {b : Nat} {M : Mv} (h : MBox n0 w b M) (hn : n1 ≤ n0) : MBox n1 w b M := ⟨h.c0, h.c1, h.c2, h.fz, h.lt, h.own.mono hn, h.off⟩
theorem MBox.of_block {n0 : Nat} {w : World} {b : Nat} {M : Mv} {t : TypeId} (hO : Owned n0 w M) (hb : w.heap[b]? = some (.cells #[.slice M.fa M.frs.length M.fcap, .slice M.ea M.ens.length M.ecap, .slice M.qa M.qus.length M.qcap] t (0, 0))) (off : ¬ Mine M b) : MBox n0 w b M :=
  ⟨by simp [World.cell?, hb], by simp [World.cell?, hb], by simp [World.cell?, hb], fun o => by simp [World.frozen?, hb], (Array.getElem?_eq_some_iff.1 hb).1, hO, off⟩
/-- a machine is taken over -/
theorem MBox.putM {n0 n1 : Nat} {w : World} {b : Nat} {M N : Mv} (h : MBox n0 w b M) (hO : Owned n1 w N) (off : ¬ Mine N b) :
    MBox n1 (((w.setCell ⟨b, 0, none⟩ (.slice N.fa N.frs.length N.fcap)).setCell ⟨b, 1, none⟩ (.slice N.ea N.ens.length N.ecap)).setCell ⟨b, 2, none⟩ (.slice N.qa N.qus.length N.qcap)) b N := by
  obtain ⟨k0, k1, k2⟩ := blk3 (v0 := .slice N.fa N.frs.length N.fcap) (v1 := .slice N.ea N.ens.length N.ecap) (v2 := .slice N.qa N.qus.length N.qcap) h.c0 h.c1 h.c2
  have hf : ∀ o, (((w.setCell ⟨b, 0, none⟩ (.slice N.fa N.frs.length N.fcap)).setCell ⟨b, 1, none⟩ (.slice N.ea N.ens.length N.ecap)).setCell ⟨b, 2, none⟩ (.slice N.qa N.qus.length N.qcap)).frozen? ⟨b, o, none⟩ = false := fun o => by rw [World.frozen?_setCell, World.frozen?_setCell, World.frozen?_setCell]; exact h.fz o
  have hh := fun c hc => blk3_heap (w := w) (b := b) (v0 := .slice N.fa N.frs.length N.fcap) (v1 := .slice N.ea N.ens.length N.ecap) (v2 := .slice N.qa N.qus.length N.qcap) c hc
  have hz : (((w.setCell ⟨b, 0, none⟩ (.slice N.fa N.frs.length N.fcap)).setCell ⟨b, 1, none⟩ (.slice N.ea N.ens.length N.ecap)).setCell ⟨b, 2, none⟩ (.slice N.qa N.qus.length N.qcap)).heap.size = w.heap.size := blk3_size
  generalize ((w.setCell ⟨b, 0, none⟩ (.slice N.fa N.frs.length N.fcap)).setCell ⟨b, 1, none⟩ (.slice N.ea N.ens.length N.ecap)).setCell ⟨b, 2, none⟩ (.slice N.qa N.qus.length N.qcap) = V at k0 k1 k2 hf hh hz
  exact ⟨k0, k1, k2, hf, by rw [hz]; exact h.lt, hO.keepM (fun c hc => hh c (fun q => off (q ▸ hc))) (by rw [hz]; exact Nat.le_refl _), off⟩
/-- a variable that holds an outcome -/
structure OBox (w : World) (b : Nat) (nd v : Int) : Prop where
  c0 : w.cell? ⟨b, 0, none⟩ = some (.int .i64 nd)
  c1 : w.cell? ⟨b, 1, none⟩ = some (.int .i64 v)
  fz : ∀ o, w.frozen? ⟨b, o, none⟩ = false
  lt : b < w.heap.size
theorem OBox.keepH {w w' : World} {b : Nat} {nd v : Int} (h : OBox w b nd v) (hw : w'.heap[b]? = w.heap[b]?) (hs : w.heap.size ≤ w'.heap.size) : OBox w' b nd v :=
  ⟨(World.cell?_of_block hw).trans h.c0, (World.cell?_of_block hw).trans h.c1, fun o => (World.frozen?_of_block hw).trans (h.fz o), Nat.lt_of_lt_of_le h.lt hs⟩
theorem OBox.keep {w w' : World} {b : Nat} {nd v : Int} (h : OBox w b nd v) (hb : Below w.heap.size w w') : OBox w' b nd v := h.keepH (hb.block b h.lt) hb.size
theorem OBox.far {w : World} {b : Nat} {nd v : Int} (h : OBox w b nd v) {c : Nat} (hc : c ≠ b) (o : Nat) (x : Value) : OBox (w.setCell ⟨c, o, none⟩ x) b nd v :=
  h.keepH (set_heap _ _ _ _ _ (Ne.symm hc)) (by simp [World.setCell])
theorem OBox.of_block {w : World} {b : Nat} {nd v : Int} {t : TypeId} (hb : w.heap[b]? = some (.cells #[.int .i64 nd, .int .i64 v] t (0, 0))) : OBox w b nd v :=
  ⟨by simp [World.cell?, hb], by simp [World.cell?, hb], fun o => by simp [World.frozen?, hb], (Array.getElem?_eq_some_iff.1 hb).1⟩
theorem OBox.put {w : World} {b : Nat} {nd v : Int} (h : OBox w b nd v) (nd' v' : Int) : OBox ((w.setCell ⟨b, 0, none⟩ (.int .i64 nd')).setCell ⟨b, 1, none⟩ (.int .i64 v')) b nd' v' := by
  have oth : ∀ (V : World) (i j : Nat) (x : Value), i ≠ j → (V.setCell ⟨b, i, none⟩ x).cell? ⟨b, j, none⟩ = V.cell? ⟨b, j, none⟩ := fun V i j x hij => World.cell?_setCell_other _ _ _ _ (by intro q; simp only [Addr.mk.injEq, true_and, and_true] at q; exact hij q)
  exact ⟨(oth _ 1 0 _ (by omega)).trans (World.cell?_setCell_same _ _ _ h.c0), World.cell?_setCell_same _ _ _ ((oth w 0 1 _ (by omega)).trans h.c1), fun o => by rw [World.frozen?_setCell, World.frozen?_setCell]; exact h.fz o, by simp [World.setCell]; exact h.lt⟩
/-- both variables take over what a call of package run answers -/
theorem both_put {n0 n1 : Nat} {w V : World} {b c : Nat} {M N : Mv} {nd v nd' v' : Int} (h : MBox n0 w b M) (k : OBox w c nd v) (hO : Owned n1 w N) (ob : ¬ Mine N b) (oc : ¬ Mine N c) (hbc : b ≠ c)
    (hV : V = ((((w.setCell ⟨b, 0, none⟩ (.slice N.fa N.frs.length N.fcap)).setCell ⟨b, 1, none⟩ (.slice N.ea N.ens.length N.ecap)).setCell ⟨b, 2, none⟩ (.slice N.qa N.qus.length N.qcap)).setCell ⟨c, 0, none⟩ (.int .i64 nd')).setCell ⟨c, 1, none⟩ (.int .i64 v')) :
    MBox n1 V b N ∧ OBox V c nd' v' ∧ (∀ n, n ≤ b → n ≤ c → Below n w V) := by
  subst hV
  refine ⟨((h.putM hO ob).far (by rintro (q | q); exact hbc q.symm; exact oc q) _ _).far (by rintro (q | q); exact hbc q.symm; exact oc q) _ _, (((k.far hbc _ _).far hbc _ _).far hbc _ _).put _ _, fun n h1 h2 => ?_⟩
  exact (((((Below.refl n w).setCell (p := ⟨b, 0, none⟩) h1 _).setCell (p := ⟨b, 1, none⟩) h1 _).setCell (p := ⟨b, 2, none⟩) h1 _).setCell (p := ⟨c, 0, none⟩) h2 _).setCell (p := ⟨c, 1, none⟩) h2 _

end Go.Proofs.YtdngbojbpmdegaaGreatDoor

namespace Go.Proofs.YtdngbojbpmdegaaGreatDoor
open Go.RowKit
set_option linter.unusedVariables false

/-- an empty machine's variable -/
structure ZM (w : World) (g : Nat) : Prop where
  c0 : w.cell? ⟨g, 0, none⟩ = some (.slice none 0 0)
  c1 : w.cell? ⟨g, 1, none⟩ = some (.slice none 0 0)
  c2 : w.cell? ⟨g, 2, none⟩ = some (.slice none 0 0)
  fz : ∀ o, w.frozen? ⟨g, o, none⟩ = false
  lt : g < w.heap.size
theorem ZM.of {w X : World} {g : Nat} {t : TypeId} (hX : X.heap[g]? = some (.cells #[.slice none 0 0, .slice none 0 0, .slice none 0 0] t (0, 0))) (hb : Below X.heap.size X w) : ZM w g := by
  have h := (hb.block g (Array.getElem?_eq_some_iff.1 hX).1).trans hX
  exact ⟨by simp [World.cell?, h], by simp [World.cell?, h], by simp [World.cell?, h], fun o => by simp [World.frozen?, h], (Array.getElem?_eq_some_iff.1 h).1⟩
/-- an empty outcome's variable -/
structure ZO (w : World) (g : Nat) : Prop where
  c0 : w.cell? ⟨g, 0, none⟩ = some (.int .i64 0)
  c1 : w.cell? ⟨g, 1, none⟩ = some (.int .i64 0)
  fz : ∀ o, w.frozen? ⟨g, o, none⟩ = false
  lt : g < w.heap.size
theorem ZO.of {w X : World} {g : Nat} {t : TypeId} (hX : X.heap[g]? = some (.cells #[.int .i64 0, .int .i64 0] t (0, 0))) (hb : Below X.heap.size X w) : ZO w g := by
  have h := (hb.block g (Array.getElem?_eq_some_iff.1 hX).1).trans hX
  exact ⟨by simp [World.cell?, h], by simp [World.cell?, h], fun o => by simp [World.frozen?, h], (Array.getElem?_eq_some_iff.1 h).1⟩
theorem zAB {V w : World} {t s : TypeId} (hb : Below ((V.alloc (.cells #[.slice none 0 0, .slice none 0 0, .slice none 0 0] t)).alloc (.cells #[.int .i64 0, .int .i64 0] s)).drew.heap.size ((V.alloc (.cells #[.slice none 0 0, .slice none 0 0, .slice none 0 0] t)).alloc (.cells #[.int .i64 0, .int .i64 0] s)).drew w) : ZM w V.heap.size ∧ ZO w (V.heap.size + 1) := by
  have h1 : ((V.alloc (.cells #[.slice none 0 0, .slice none 0 0, .slice none 0 0] t)).alloc (.cells #[.int .i64 0, .int .i64 0] s)).drew.heap[V.heap.size]? = some (.cells #[.slice none 0 0, .slice none 0 0, .slice none 0 0] t (0, 0)) := by
    show ((V.alloc _).alloc _).heap[V.heap.size]? = _
    rw [Below.heap_alloc _ _ _ (by simp)]; exact Go.Deep.blk_alloc_new _ _
  have h2 : ((V.alloc (.cells #[.slice none 0 0, .slice none 0 0, .slice none 0 0] t)).alloc (.cells #[.int .i64 0, .int .i64 0] s)).drew.heap[V.heap.size + 1]? = some (.cells #[.int .i64 0, .int .i64 0] s (0, 0)) := by
    show ((V.alloc _).alloc _).heap[V.heap.size + 1]? = _
    have := Go.Deep.blk_alloc_new (V.alloc (.cells #[.slice none 0 0, .slice none 0 0, .slice none 0 0] t)) (.cells #[.int .i64 0, .int .i64 0] s)
    simpa using this
  exact ⟨ZM.of h1 hb, ZO.of h2 hb⟩
theorem zBA {V w : World} {t s : TypeId} (hb : Below ((V.alloc (.cells #[.int .i64 0, .int .i64 0] s)).alloc (.cells #[.slice none 0 0, .slice none 0 0, .slice none 0 0] t)).drew.heap.size ((V.alloc (.cells #[.int .i64 0, .int .i64 0] s)).alloc (.cells #[.slice none 0 0, .slice none 0 0, .slice none 0 0] t)).drew w) : ZO w V.heap.size ∧ ZM w (V.heap.size + 1) := by
  have h1 : ((V.alloc (.cells #[.int .i64 0, .int .i64 0] s)).alloc (.cells #[.slice none 0 0, .slice none 0 0, .slice none 0 0] t)).drew.heap[V.heap.size]? = some (.cells #[.int .i64 0, .int .i64 0] s (0, 0)) := by
    show ((V.alloc _).alloc _).heap[V.heap.size]? = _
    rw [Below.heap_alloc _ _ _ (by simp)]; exact Go.Deep.blk_alloc_new _ _
  have h2 : ((V.alloc (.cells #[.int .i64 0, .int .i64 0] s)).alloc (.cells #[.slice none 0 0, .slice none 0 0, .slice none 0 0] t)).drew.heap[V.heap.size + 1]? = some (.cells #[.slice none 0 0, .slice none 0 0, .slice none 0 0] t (0, 0)) := by
    show ((V.alloc _).alloc _).heap[V.heap.size + 1]? = _
    have := Go.Deep.blk_alloc_new (V.alloc (.cells #[.int .i64 0, .int .i64 0] s)) (.cells #[.slice none 0 0, .slice none 0 0, .slice none 0 0] t)
    simpa using this
  exact ⟨ZO.of h1 hb, ZM.of h2 hb⟩
theorem zA {V w : World} {t : TypeId} (hb : Below (V.alloc (.cells #[.slice none 0 0, .slice none 0 0, .slice none 0 0] t)).drew.heap.size (V.alloc (.cells #[.slice none 0 0, .slice none 0 0, .slice none 0 0] t)).drew w) : ZM w V.heap.size :=
  ZM.of (X := (V.alloc (.cells #[.slice none 0 0, .slice none 0 0, .slice none 0 0] t)).drew) (t := t) (show (V.alloc _).heap[V.heap.size]? = _ from Go.Deep.blk_alloc_new _ _) hb
theorem zB {V w : World} {s : TypeId} (hb : Below (V.alloc (.cells #[.int .i64 0, .int .i64 0] s)).drew.heap.size (V.alloc (.cells #[.int .i64 0, .int .i64 0] s)).drew w) : ZO w V.heap.size :=
  ZO.of (X := (V.alloc (.cells #[.int .i64 0, .int .i64 0] s)).drew) (t := s) (show (V.alloc _).heap[V.heap.size]? = _ from Go.Deep.blk_alloc_new _ _) hb

/-- what a statement makes that takes over what a call of package run answers: two variables -/
def MadeR (n0 : Nat) (W wx : World) (X : Mv) (g1 g2 : Nat) (nd v : Int) : Prop := MBox n0 wx g1 X ∧ OBox wx g2 nd v ∧ Below W.heap.size W wx
theorem no_mine {b : Nat} : ¬ Mine noM b := by
  rintro (⟨o, s, e⟩ | ⟨o, s, e⟩ | ⟨o, s, e⟩ | ⟨j, hj, _⟩)
  · cases e
  · cases e
  · cases e
  · simp [noM] at hj
theorem ZM.box {w : World} {g : Nat} (h : ZM w g) : MBox 0 w g noM := ⟨h.c0, h.c1, h.c2, h.fz, h.lt, noM_own _ _, no_mine⟩
theorem ZO.box {w : World} {g : Nat} (h : ZO w g) : OBox w g 0 0 := ⟨h.c0, h.c1, h.fz, h.lt⟩
section
variable {n0 : Nat} {W w7 : World} {X : Mv} {g1 g2 : Nat} {nd v : Int}
theorem madeR1 (zm : ZM w7 g1) (zo : ZO w7 g2) (hO : Owned n0 w7 X) (h1 : ¬ Mine X g1) (h2 : ¬ Mine X g2) (hne : g1 ≠ g2) (hB : Below W.heap.size W w7) (b1 : W.heap.size ≤ g1) (b2 : W.heap.size ≤ g2) :
    MadeR n0 W (((((w7.setCell ⟨g1, 0, none⟩ (.slice X.fa X.frs.length X.fcap)).setCell ⟨g1, 1, none⟩ (.slice X.ea X.ens.length X.ecap)).setCell ⟨g1, 2, none⟩ (.slice X.qa X.qus.length X.qcap)).setCell ⟨g2, 0, none⟩ (.int .i64 nd)).setCell ⟨g2, 1, none⟩ (.int .i64 v)) X g1 g2 nd v := by
  obtain ⟨a, b, c⟩ := both_put (nd' := nd) (v' := v) zm.box zo.box hO h1 h2 hne rfl
  exact ⟨a, b, hB.trans (c _ b1 b2)⟩
theorem madeR3 {s : TypeId} (zm : ZM w7 g1) (hO : Owned n0 w7 X) (h1 : ¬ Mine X g1) (hB : Below W.heap.size W w7) (b1 : W.heap.size ≤ g1) :
    MadeR n0 W ((((w7.setCell ⟨g1, 0, none⟩ (.slice X.fa X.frs.length X.fcap)).setCell ⟨g1, 1, none⟩ (.slice X.ea X.ens.length X.ecap)).setCell ⟨g1, 2, none⟩ (.slice X.qa X.qus.length X.qcap)).alloc (.cells #[.int .i64 nd, .int .i64 v] s)) X g1 w7.heap.size nd v := by
  have h := zm.box.putM hO h1
  have hz : (((w7.setCell ⟨g1, 0, none⟩ (.slice X.fa X.frs.length X.fcap)).setCell ⟨g1, 1, none⟩ (.slice X.ea X.ens.length X.ecap)).setCell ⟨g1, 2, none⟩ (.slice X.qa X.qus.length X.qcap)).heap.size = w7.heap.size := blk3_size
  have hb : Below W.heap.size W (((w7.setCell ⟨g1, 0, none⟩ (.slice X.fa X.frs.length X.fcap)).setCell ⟨g1, 1, none⟩ (.slice X.ea X.ens.length X.ecap)).setCell ⟨g1, 2, none⟩ (.slice X.qa X.qus.length X.qcap)) := ((hB.setCell (p := ⟨g1, 0, none⟩) b1 _).setCell (p := ⟨g1, 1, none⟩) b1 _).setCell (p := ⟨g1, 2, none⟩) b1 _
  generalize ((w7.setCell ⟨g1, 0, none⟩ (.slice X.fa X.frs.length X.fcap)).setCell ⟨g1, 1, none⟩ (.slice X.ea X.ens.length X.ecap)).setCell ⟨g1, 2, none⟩ (.slice X.qa X.qus.length X.qcap) = V at h hz hb
  rw [← hz]
  exact ⟨h.keep ((Below.refl _ _).alloc (Nat.le_refl _) _), OBox.of_block (t := s) (Go.Deep.blk_alloc_new _ _), below_allocR hb _⟩
theorem madeR4 {t : TypeId} (zo : ZO w7 g2) (hO : Owned n0 w7 X) (h2 : ¬ Mine X g2) (hB : Below W.heap.size W w7) (b2 : W.heap.size ≤ g2) :
    MadeR n0 W (((w7.setCell ⟨g2, 0, none⟩ (.int .i64 nd)).setCell ⟨g2, 1, none⟩ (.int .i64 v)).alloc (.cells #[.slice X.fa X.frs.length X.fcap, .slice X.ea X.ens.length X.ecap, .slice X.qa X.qus.length X.qcap] t)) X w7.heap.size g2 nd v := by
  have h := zo.box.put nd v
  have hz : ((w7.setCell ⟨g2, 0, none⟩ (.int .i64 nd)).setCell ⟨g2, 1, none⟩ (.int .i64 v)).heap.size = w7.heap.size := by simp [World.setCell]
  have hb : Below W.heap.size W ((w7.setCell ⟨g2, 0, none⟩ (.int .i64 nd)).setCell ⟨g2, 1, none⟩ (.int .i64 v)) := (hB.setCell (p := ⟨g2, 0, none⟩) b2 _).setCell (p := ⟨g2, 1, none⟩) b2 _
  have ho : Owned n0 ((w7.setCell ⟨g2, 0, none⟩ (.int .i64 nd)).setCell ⟨g2, 1, none⟩ (.int .i64 v)) X := hO.keepM (fun c hc => (have hn : c ≠ g2 := (fun e => h2 (e ▸ hc)); (set_heap _ _ _ _ _ hn).trans (set_heap _ _ _ _ _ hn))) (by rw [hz]; exact Nat.le_refl _)
  generalize (w7.setCell ⟨g2, 0, none⟩ (.int .i64 nd)).setCell ⟨g2, 1, none⟩ (.int .i64 v) = V at h hz hb ho
  rw [← hz]
  have ha : Below V.heap.size V (V.alloc (.cells #[.slice X.fa X.frs.length X.fcap, .slice X.ea X.ens.length X.ecap, .slice X.qa X.qus.length X.qcap] t)) := (Below.refl _ _).alloc (Nat.le_refl _) _
  exact ⟨MBox.of_block (t := t) (ho.below ha) (Go.Deep.blk_alloc_new _ _) (fun q => by have := (Mine.fresh ho q).2; omega), h.keep ha, below_allocR hb _⟩
theorem madeR5 {t s : TypeId} (hO : Owned n0 w7 X) (hB : Below W.heap.size W w7) :
    MadeR n0 W ((w7.alloc (.cells #[.slice X.fa X.frs.length X.fcap, .slice X.ea X.ens.length X.ecap, .slice X.qa X.qus.length X.qcap] t)).alloc (.cells #[.int .i64 nd, .int .i64 v] s)) X w7.heap.size (w7.heap.size + 1) nd v := by
  obtain ⟨bx, aB, oB⟩ := boxes2 w7 (.slice X.fa X.frs.length X.fcap) (.slice X.ea X.ens.length X.ecap) (.slice X.qa X.qus.length X.qcap) (.int .i64 nd) (.int .i64 v) t s
  exact ⟨MBox.of_block (t := t) (hO.below bx) aB (fun q => by have := (Mine.fresh hO q).2; omega), OBox.of_block oB, hB.trans (bx.mono hB.size)⟩
theorem madeR6 {t s : TypeId} (hO : Owned n0 w7 X) (hB : Below W.heap.size W w7) :
    MadeR n0 W ((w7.alloc (.cells #[.int .i64 nd, .int .i64 v] s)).alloc (.cells #[.slice X.fa X.frs.length X.fcap, .slice X.ea X.ens.length X.ecap, .slice X.qa X.qus.length X.qcap] t)) X (w7.heap.size + 1) w7.heap.size nd v := by
  have bx : Below w7.heap.size w7 ((w7.alloc (.cells #[.int .i64 nd, .int .i64 v] s)).alloc (.cells #[.slice X.fa X.frs.length X.fcap, .slice X.ea X.ens.length X.ecap, .slice X.qa X.qus.length X.qcap] t)) := below_allocR (below_allocR (Below.refl _ _) _) _
  have oB : ((w7.alloc (.cells #[.int .i64 nd, .int .i64 v] s)).alloc (.cells #[.slice X.fa X.frs.length X.fcap, .slice X.ea X.ens.length X.ecap, .slice X.qa X.qus.length X.qcap] t)).heap[w7.heap.size]? = some (.cells #[.int .i64 nd, .int .i64 v] s (0, 0)) := by
    rw [Below.heap_alloc _ _ _ (by simp)]; exact Go.Deep.blk_alloc_new _ _
  have aB : ((w7.alloc (.cells #[.int .i64 nd, .int .i64 v] s)).alloc (.cells #[.slice X.fa X.frs.length X.fcap, .slice X.ea X.ens.length X.ecap, .slice X.qa X.qus.length X.qcap] t)).heap[w7.heap.size + 1]? = some (.cells #[.slice X.fa X.frs.length X.fcap, .slice X.ea X.ens.length X.ecap, .slice X.qa X.qus.length X.qcap] t (0, 0)) := by
    have := Go.Deep.blk_alloc_new (w7.alloc (.cells #[.int .i64 nd, .int .i64 v] s)) (.cells #[.slice X.fa X.frs.length X.fcap, .slice X.ea X.ens.length X.ecap, .slice X.qa X.qus.length X.qcap] t)
    simpa using this
  exact ⟨MBox.of_block (t := t) (hO.below bx) aB (fun q => by have := (Mine.fresh hO q).2; omega), OBox.of_block oB, hB.trans (bx.mono hB.size)⟩
end

end Go.Proofs.YtdngbojbpmdegaaGreatDoor

namespace Go.Proofs.YtdngbojbpmdegaaGreatDoor
open Go.RowKit
set_option maxRecDepth 100000
set_option linter.unusedVariables false

end Go.Proofs.YtdngbojbpmdegaaGreatDoor

namespace Go.Proofs.YtdngbojbpmdegaaGreatDoor
open Go.RowKit
set_option maxRecDepth 100000
set_option linter.unusedVariables false

/-- has the enclave this page? -/
def hasP (frs : List Fr) (e : Int) (p : Pg) : Bool := decide (0 ≤ placeOf frs e p.at_) && ((frs.getD (placeOf frs e p.at_).toNat default).r == p.r) && decide ((frs.getD (placeOf frs e p.at_).toNat default).ws = p.ws)
def hasB (frs : List Fr) (e : Int) (ps : List Pg) : Bool := ps.all (hasP frs e) && (frs.countP (fun f => f.o == e) == ps.length)
theorem count_succ (l : List Fr) (e : Int) (k : Nat) (hk : k < l.length) : (l.take (k + 1)).countP (fun f => f.o == e) = (l.take k).countP (fun f => f.o == e) + if (l.getD k default).o = e then 1 else 0 := by
  rw [List.take_succ_eq_append_getElem hk, List.countP_append]
  have : l[k] = l.getD k default := by simp [List.getD_eq_getElem?_getD, hk]
  rw [this]
  rw [List.countP_cons, List.countP_nil]
  by_cases h : (l.getD k default).o = e
  · rw [if_pos h, if_pos (beq_iff_eq.2 h)]
  · rw [if_neg h, if_neg (fun q => h (beq_iff_eq.1 q))]

theorem all_succ (l : List Pg) (q : Pg → Bool) (k : Nat) (hk : k < l.length) : (l.take (k + 1)).all q = ((l.take k).all q && q (l.getD k default)) := by
  rw [List.take_succ_eq_append_getElem hk, List.all_append]
  have : l[k] = l.getD k default := by simp [List.getD_eq_getElem?_getD, hk]
  rw [this]
  simp
theorem all_bad (l : List Pg) (q : Pg → Bool) (k : Nat) (hk : k < l.length) (h : q (l.getD k default) = false) : l.all q = false := by
  rw [List.all_eq_false]
  exact ⟨l.getD k default, by simp [List.getD_eq_getElem?_getD, hk], by rw [h]; decide⟩
theorem place_lt2 (frs : List Fr) (e a : Int) : placeOf frs e a = -1 ∨ ∃ k : Nat, placeOf frs e a = (k : Int) ∧ k < frs.length := by
  unfold placeOf idxOf
  cases h : frs.findIdx? (plB e a) with
  | none => left; rfl
  | some i => exact .inr ⟨i, rfl, (List.findIdx?_eq_some_iff_getElem.1 h).1⟩

set_option maxHeartbeats 8000000 in
theorem has_any (M : Mv) (e : Int) (a : Option Addr) (ps : List Pg) (cap : Nat) (w : World) (hM : MachAt w M) (hl24 : M.frs.length = 24) (hl : ps.length ≤ 1000) (hx : PagesAt w a ps) :
    Calls Tryz.prog 34 #[M.val, .int .i64 e, .slice a ps.length cap] w fun x w' => x = .returned (.bool (hasB M.frs e ps)) ∧ Below w.heap.size w w' := by
  have HPl0 := fun (w' : World) (at_ : Int) (hb : Below w.heap.size w w') => place_any M e at_ w' (hM.below hb)
  unfold Mv.val at HPl0 ⊢
  obtain ⟨fa, frs, fcap, ea, ens, ecap, qa, qus, qcap⟩ := M
  dsimp only at hl24 HPl0 ⊢
  have HL24 : Hid (frs.length = 24) := hl24
  rw [hl24] at HPl0 ⊢
  have HMw : Hid (MachAt w ⟨fa, frs, fcap, ea, ens, ecap, qa, qus, qcap⟩) := hM
  clear hM hl24
  generalize ens.length = ne at *
  generalize qus.length = nq at *
  obtain ⟨W1, hW1⟩ : ∃ W1, Hid (W1 = w.alloc (.cells #[.slice fa 24 fcap, .slice ea ne ecap, .slice qa nq qcap] 29)) := ⟨_, rfl⟩
  obtain ⟨P, hP⟩ : ∃ P, Hid (P = w.heap.size) := ⟨_, rfl⟩
  have p0 : Hid (W1.cell? ⟨P, 0, none⟩ = some (.slice fa 24 fcap)) := show _ = _ by rw [hW1.out, hP.out]; exact World.cell?_alloc_at _ _ _ _ rfl
  have p1 : Hid (W1.cell? ⟨P, 1, none⟩ = some (.slice ea ne ecap)) := show _ = _ by rw [hW1.out, hP.out]; exact World.cell?_alloc_at _ _ _ _ rfl
  have p2 : Hid (W1.cell? ⟨P, 2, none⟩ = some (.slice qa nq qcap)) := show _ = _ by rw [hW1.out, hP.out]; exact World.cell?_alloc_at _ _ _ _ rfl
  have BW : Hid (Below w.heap.size w W1) := show Below _ _ _ by rw [hW1.out]; exact (Below.refl _ _).alloc (Nat.le_refl _) _
  have HM1 : Hid (MachAt W1 ⟨fa, frs, fcap, ea, ens, ecap, qa, qus, qcap⟩) := HMw.out.below BW.out
  have HX1 : Hid (PagesAt W1 a ps) := hx.below BW.out
  have HPl : Hid (_) := HPl0
  have hlP : Hid (P < W1.heap.size) := show _ < _ by rw [hW1.out, hP.out]; simp
  clear hx HMw HPl0
  go_enter Tryz.func34, Tryz.ntmps34
  go_upto_region 2 with fail
  rw [← hW1.out, ← hP.out]
  clear hW1 hP
  have q0 := p0.out
  have lP := hlP.out
  go_wp2
  clear q0 lP
  go_loopw [7, 16] (fun v i wr => ∃ k : Nat, k ≤ 24 ∧ i = .int .i64 k ∧ v = .int .i64 (((frs.take k).countP (fun f => f.o == e) : Nat) : Int) ∧ Below W1.heap.size W1 wr) (fun _ i _ => 24 - (intOf i).toNat)
  case atStart => exact ⟨0, by omega, rfl, rfl, Below.refl _ _⟩
  case round =>
    obtain ⟨k, hk, rfl, rfl, hbel⟩ := hrel
    by_cases hlt : k < 24
    · obtain ⟨fb, fo, hfa, c0, c1, c2, c3⟩ := (HM1.out.below hbel).frame (j := k) (by dsimp only; rw [HL24.out]; exact hlt)
      dsimp only at hfa c0 c1 c2 c3
      subst hfa
      have HS : Hid _ := count_succ frs e k (by rw [HL24.out]; exact hlt)
      have hcl : (frs.take k).countP (fun f => f.o == e) ≤ 24 := Nat.le_trans List.countP_le_length (by simp; omega)
      generalize frs.getD k default = F at c0 c1 c2 c3 HS
      obtain ⟨o, fat, r, wa, ws, wcap⟩ := F
      dsimp only at c0 c1 c2 c3 HS
      generalize (frs.take k).countP (fun f => f.o == e) = n at *
      have hbb : fb < wr.heap.size := lt_of_cell c0
      generalize ws.length = nw at *
      have hkI : (k : Int) < 24 := by omega
      by_cases ho : o = e
      · have HS1 : Hid _ := HS.out.trans (by rw [if_pos ho])
        clear HS
        have to_ : (o == e) = true := by simpa using ho
        clear ho
        go_wp2
        go_roundw
        case rel => exact ⟨k + 1, by omega, by go_num, by rw [HS1.out]; go_num, hbel.alloc hbel.size _⟩
        case measure => simp [intOf]; omega
      · have HS1 : Hid _ := HS.out.trans (by rw [if_neg ho])
        clear HS
        have to_ : (o == e) = false := by simpa using ho
        clear ho
        go_wp2
        go_roundw
        case rel => exact ⟨k + 1, by omega, by go_num, by rw [HS1.out]; rfl, hbel.alloc hbel.size _⟩
        case measure => simp [intOf]; omega
    · have hge : ¬ ((k : Int) < 24) := by omega
      have hk24 : k = 24 := by omega
      have HT : Hid (frs.take k = frs) := show _ = _ by rw [hk24]; exact List.take_of_length_le (by rw [HL24.out]; omega)
      rw [HT.out]
      clear hk hlt hk24
      rename World => Wa
      have hlps : (ps.length : Int) ≤ 1000 := by omega
      obtain ⟨cn, hcn⟩ : ∃ cn, Hid (cn = frs.countP (fun f => f.o == e)) := ⟨_, rfl⟩
      rw [← hcn.out]
      go_wp2
      go_loopw [29] (fun i wr => ∃ j : Nat, j ≤ ps.length ∧ i = .int .i64 j ∧ Below W1.heap.size W1 wr ∧ Hid ((ps.take j).all (hasP frs e) = true)) (fun i _ => ps.length - (intOf i).toNat)
      case atStart => exact ⟨0, Nat.zero_le _, rfl, hbel, rfl⟩
      case round =>
        clear hbel
        obtain ⟨j, hj, rfl, hbel, hall⟩ := hrel
        by_cases hlt : j < ps.length
        · have hX := HX1.out.below hbel
          rcases HX1.out.at_ with rfl | ⟨b, off, rfl, _⟩
          · simp at hlt
          · obtain ⟨c0, c1, c2⟩ := hX.cells hlt
            have okp := hX.ok j hlt
            have HS : Hid _ := all_succ ps (hasP frs e) j hlt
            have HBD : Hid (hasP frs e (ps.getD j default) = false → hasB frs e ps = false) := fun h => by unfold hasB; rw [all_bad ps _ j hlt h]; rfl
            generalize ps.getD j default = Q at c0 c1 c2 okp HS HBD
            obtain ⟨pat, pr, pa, pws, pcap⟩ := Q
            dsimp only at c0 c1 c2
            have HI : Hid (Ints wr pa pws) := okp.ints
            have HIL : Hid (pws.length ≤ maxLen) := okp.len
            have lta := lt_of_cell c0
            have hkI : (j : Int) < (ps.length : Int) := by omega
            obtain ⟨W2, hW2⟩ : ∃ W2, Hid (W2 = wr.alloc (.cells #[.int .i64 pat, .int .i64 pr, .slice pa pws.length pcap] 116)) := ⟨_, rfl⟩
            have B2 : Hid (Below wr.heap.size wr W2) := show Below _ _ _ by rw [hW2.out]; exact (Below.refl _ _).alloc (Nat.le_refl _) _
            have HBP : Hid (Below W1.heap.size W1 W2) := show Below _ _ _ from hbel.trans (B2.out.mono hbel.size)
            obtain ⟨G, hG⟩ : ∃ G, Hid (G = wr.heap.size) := ⟨_, rfl⟩
            have g0 : W2.cell? ⟨G, 0, none⟩ = some (.int .i64 pat) := by rw [hW2.out, hG.out]; exact World.cell?_alloc_at _ _ _ _ rfl
            have g1 : W2.cell? ⟨G, 1, none⟩ = some (.int .i64 pr) := by rw [hW2.out, hG.out]; exact World.cell?_alloc_at _ _ _ _ rfl
            have g2 : W2.cell? ⟨G, 2, none⟩ = some (.slice pa pws.length pcap) := by rw [hW2.out, hG.out]; exact World.cell?_alloc_at _ _ _ _ rfl
            have m0 := (HBP.out.cell (p := ⟨P, 0, none⟩) hlP.out).trans p0.out
            have m1 := (HBP.out.cell (p := ⟨P, 1, none⟩) hlP.out).trans p1.out
            have m2 := (HBP.out.cell (p := ⟨P, 2, none⟩) hlP.out).trans p2.out
            have lG := lt_of_cell g0
            have lP := lt_of_cell m0
            go_upto_region 11 with fail
            rw [← hW2.out, ← hG.out]
            clear hW2 c0 c1 c2 hX okp
            have G0 : Hid (_) := And.intro g1 g2
            have hPl := HPl.out W2 pat (BW.out.trans (HBP.out.mono BW.out.size))
            have hcase := place_lt2 frs e pat
            have HB3 : Hid (hasP frs e ⟨pat, pr, pa, pws, pcap⟩ = (decide (0 ≤ placeOf frs e pat) && ((frs.getD (placeOf frs e pat).toNat default).r == pr) && decide ((frs.getD (placeOf frs e pat).toNat default).ws = pws))) := rfl
            rcases hcase with hp | ⟨k, hp, hk⟩
            · rw [hp] at hPl HB3
              have HF : Hid (hasB frs e ps = false) := HBD.out (by rw [HB3.out]; rfl)
              clear hp HB3
              go_upto_region 12 with (go_at_call 22; refine hPl.mono ?_; clear hPl; rintro x w3 ⟨rfl, hb3⟩)
              go_quiet (fail)
              go_wp2
              go_ret
              exact ⟨ret_bool HF.out.symm, below_drewN (BW.out.trans (HBP.out.mono BW.out.size) |>.trans (hb3.mono (BW.out.trans (HBP.out.mono BW.out.size)).size)) _⟩
            · rw [hp] at hPl HB3
              rw [Int.toNat_natCast] at HB3
              clear hp
              go_upto_region 12 with (go_at_call 22; refine hPl.mono ?_; clear hPl; rintro x w3 ⟨rfl, hb3⟩)
              have HBA : Hid (Below W1.heap.size W1 w3) := show Below _ _ _ from HBP.out.trans (hb3.mono HBP.out.size)
              obtain ⟨fb, fo, hfa, f0, f1, f2, f3⟩ := (HM1.out.below HBA.out).frame (j := k) hk
              have okf := (HM1.out.below HBA.out).frok k hk
              dsimp only at hfa f0 f1 f2 f3 okf
              subst hfa
              generalize frs.getD k default = F at f0 f1 f2 f3 okf HB3
              obtain ⟨o, fat, r, wa, ws, wcap⟩ := F
              dsimp only at f0 f1 f2 f3 HB3
              have hE := fun n => equal_any wa pa ws pws wcap pcap (w3.drewN n) okf.len HIL.out (okf.ints.below (below_drewN (Below.refl _ _) n)) (HI.out.below (below_drewN (B2.out.trans (hb3.mono B2.out.size)) n))
              have e0 := (hb3.cell (p := ⟨P, 0, none⟩) lP).trans m0
              have e1 := (hb3.cell (p := ⟨G, 1, none⟩) lG).trans g1
              have e2 := (hb3.cell (p := ⟨G, 2, none⟩) lG).trans g2
              have l1 := lt_of_cell e0
              have l2 := lt_of_cell e1
              have l3 := lt_of_cell f0
              have hk24 : (k : Int) < 24 := by have := HL24.out; omega
              have tk0 : decide ((k : Int) < 0) = false := decide_eq_false (by omega)
              have tk1 : decide ((k : Int) ≥ 24) = false := decide_eq_false (by omega)
              have tk2 : decide (24 ≤ (k : Int)) = false := decide_eq_false (by omega)
              clear okf m0 m1 m2 g0 g1 g2 hb3
              by_cases hr : r = pr
              · have tr : (r != pr) = false := by simpa using hr
                have tr2 : (r == pr) = true := by simpa using hr
                rw [tr2] at HB3
                clear hr tr2
                obtain ⟨z, hz⟩ : ∃ z, z = decide (ws = pws) := ⟨_, rfl⟩
                rw [← hz] at hE HB3
                clear hz
                generalize pws.length = np at *
                generalize ws.length = nw at *
                cases z with
                | true =>
                  have HT : Hid ((ps.take (j + 1)).all (hasP frs e) = true) := show _ = _ by rw [HS.out, hall.out, HB3.out]; simp
                  go_quiet ((go_at_call 30; exact Calls.quiet_of (hE _)))
                  go_wp2
                  go_roundw
                  case rel => exact ⟨j + 1, by omega, by go_num, below_drewN HBA.out _, HT⟩
                  case measure => simp [intOf]; omega
                | false =>
                  have HF : Hid (hasB frs e ps = false) := HBD.out (by rw [HB3.out]; simp)
                  go_quiet ((go_at_call 30; exact Calls.quiet_of (hE _)))
                  go_wp2
                  go_ret
                  exact ⟨ret_bool HF.out.symm, BW.out.trans ((below_drewN HBA.out _).mono BW.out.size)⟩
              · have tr : (r != pr) = true := by simpa using hr
                have tr2 : (r == pr) = false := by simpa using hr
                rw [tr2] at HB3
                have HF : Hid (hasB frs e ps = false) := HBD.out (by rw [HB3.out]; simp)
                clear hr tr2 hE
                go_quiet (fail)
                go_wp2
                go_ret
                exact ⟨ret_bool HF.out.symm, BW.out.trans ((below_drewN HBA.out _).mono BW.out.size)⟩
        · have hgj : ¬ ((j : Int) < (ps.length : Int)) := by omega
          have hjl : j = ps.length := by omega
          have HA : Hid (ps.all (hasP frs e) = true) := show _ = _ by
            have := hall.out
            rw [hjl, List.take_of_length_le (Nat.le_refl _)] at this
            exact this
          have HF : Hid (hasB frs e ps = ((cn : Int) == (ps.length : Int))) := show _ = _ by
            unfold hasB
            rw [HA.out, ← hcn.out, Bool.true_and]
            by_cases q : cn = ps.length
            · rw [q]; simp
            · rw [beq_eq_false_iff_ne.2 q, beq_eq_false_iff_ne.2 (by omega)]
          clear hall HA hjl hlt HPl
          go_wp2
          go_ret
          exact ⟨ret_bool HF.out.symm, BW.out.trans (hbel.mono BW.out.size)⟩

end Go.Proofs.YtdngbojbpmdegaaGreatDoor

namespace Go.Proofs.YtdngbojbpmdegaaGreatDoor
open Go.RowKit

theorem hasB_same {M N : Mv} (h : M.Same N) {e : Int} {ps : List Pg} (k : hasM N e ps) : hasB M.frs e ps = true := by
  unfold hasB
  rw [Bool.and_eq_true]
  refine ⟨List.all_eq_true.2 fun p hp => ?_, beq_iff_eq.2 ((countP_upto h.len fun j hj => (by unfold ownB; rw [(h.fr j hj).1])).trans k.1)⟩
  obtain ⟨i, hi, q1, q2, q3⟩ := k.2 p hp
  unfold hasP
  rw [placeOf_same h, q1, Int.toNat_natCast, same_r h, ws_same h, q2, q3]
  simp

end Go.Proofs.YtdngbojbpmdegaaGreatDoor
