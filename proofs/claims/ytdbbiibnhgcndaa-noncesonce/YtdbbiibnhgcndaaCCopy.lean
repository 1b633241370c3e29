/-
  What the call ChallengerCopy (riddleref) answers for every challenger: one that holds the same, in memory of its own; nothing that was in memory turns. The condition: the lists are within the reach of the form.
-/
import Derived.Test.YtdbbiibnhgcndaaCopyC
namespace Go.Proofs.Ytdbbiibnhgcndaa
open Go.RowKit

theorem bp_gen {P : Program} {f : Func} {Q : Ending → World → Prop} {ex : Exit} {a : Act} {W : World} (h : ∀ W9, W9 = W → bodyPost P f Q ex a W9) : bodyPost P f Q ex a W := h W rfl
theorem row_made {n0 g cap n : Nat} {w : World} {e : TypeId} {xs zs : List Value} (hn : n0 ≤ g) (hg : w.heap[g]? = some (.cells (xs ++ zs).toArray e (0, 0))) (hx : xs.length = n) (hc : n ≤ cap ∧ (xs ++ zs).length = cap * 1 ∧ cap ≤ maxLen) : w.ownsRow n0 e 1 (.slice (some ⟨g, 0, none⟩) n cap) n xs :=
  row_of_block hn hg hx hc.1 hc.2.2 (by have := hc.2.1; omega)
theorem drew2 {W : World} : W.drew.heap = W.heap := rfl
def sets (W : World) (R : Nat) (v0 v1 : Value) : World := (W.setCell ⟨R, 0, none⟩ v0).setCell ⟨R, 1, none⟩ v1
theorem sets_size (W : World) (R : Nat) (v0 v1 : Value) : (sets W R v0 v1).heap.size = W.heap.size := by simp [sets, World.setCell]
theorem sets_cells {W : World} {R : Nat} {v0 v1 x0 x1 : Value} (h0 : W.cell? ⟨R, 0, none⟩ = some x0) (h1 : W.cell? ⟨R, 1, none⟩ = some x1) : (sets W R v0 v1).cell? ⟨R, 0, none⟩ = some v0 ∧ (sets W R v0 v1).cell? ⟨R, 1, none⟩ = some v1 := by
  refine ⟨?_, ?_⟩
  · unfold sets
    rw [World.cell?_setCell_other _ _ _ _ (by simp)]
    exact World.cell?_setCell_same _ _ _ h0
  · exact World.cell?_setCell_same _ _ _ ((World.cell?_setCell_other _ _ _ _ (by simp)).trans h1)
theorem blk2 {w : World} {b : Nat} {v0 v1 x0 x1 : Value} (h0 : w.cell? ⟨b, 0, none⟩ = some x0) (h1 : w.cell? ⟨b, 1, none⟩ = some x1) :
    ((w.setCell ⟨b, 0, none⟩ v0).setCell ⟨b, 1, none⟩ v1).cell? ⟨b, 0, none⟩ = some v0 ∧ ((w.setCell ⟨b, 0, none⟩ v0).setCell ⟨b, 1, none⟩ v1).cell? ⟨b, 1, none⟩ = some v1 := sets_cells h0 h1
theorem sets_below {w W : World} {B R : Nat} {v0 v1 : Value} (hR : B ≤ R) (h : Below B w W) : Below B w (sets W R v0 v1) := (h.setCell (by simpa using hR) _).setCell (by simpa using hR) _
theorem heap_cell {W W' : World} (h : W'.heap = W.heap) (a : Addr) : W'.cell? a = W.cell? a := by simp only [World.cell?, h]
theorem two0 {w W W9 : World} {R : Nat} {v0 v1 x0 x1 : Value} (hR : w.heap.size ≤ R) (h0 : W.cell? ⟨R, 0, none⟩ = some x0) (h1 : W.cell? ⟨R, 1, none⟩ = some x1) (hb : Below w.heap.size w W) (h9 : W9 = (sets W R v0 v1).drew) :
    W9.cell? ⟨R, 0, none⟩ = some v0 ∧ W9.cell? ⟨R, 1, none⟩ = some v1 ∧ Below w.heap.size w W9 := by
  subst h9
  exact ⟨(sets_cells h0 h1).1, (sets_cells h0 h1).2, (sets_below hR hb).drew⟩
theorem two1 {w W W9 : World} {R : Nat} {v0 v1 x0 x1 : Value} {o1 : Obj} (hR : w.heap.size ≤ R) (h0 : W.cell? ⟨R, 0, none⟩ = some x0) (h1 : W.cell? ⟨R, 1, none⟩ = some x1) (hb : Below w.heap.size w W) (h9 : W9 = ((sets W R v0 v1).alloc o1).drew.drew) :
    W9.cell? ⟨R, 0, none⟩ = some v0 ∧ W9.cell? ⟨R, 1, none⟩ = some v1 ∧ W9.heap[W.heap.size]? = some o1 ∧ Below w.heap.size w W9 := by
  subst h9
  have lt : R < (sets W R v0 v1).heap.size := by rw [sets_size]; exact lt_of_cell h0
  refine ⟨(World.cell?_alloc_past _ _ _ lt).trans (sets_cells h0 h1).1, (World.cell?_alloc_past _ _ _ lt).trans (sets_cells h0 h1).2, ?_, (((sets_below hR hb).alloc (by rw [sets_size]; exact hb.size) _).drew).drew⟩
  have := a11 (sets W R v0 v1) o1
  rw [sets_size] at this
  exact this
theorem two2 {w W W9 : World} {R : Nat} {v0 v1 x0 x1 : Value} {o1 o2 : Obj} (hR : w.heap.size ≤ R) (h0 : W.cell? ⟨R, 0, none⟩ = some x0) (h1 : W.cell? ⟨R, 1, none⟩ = some x1) (hb : Below w.heap.size w W) (h9 : W9 = (((sets W R v0 v1).alloc o1).alloc o2).drew.drew.drew) :
    W9.cell? ⟨R, 0, none⟩ = some v0 ∧ W9.cell? ⟨R, 1, none⟩ = some v1 ∧ W9.heap[W.heap.size]? = some o1 ∧ W9.heap[W.heap.size + 1]? = some o2 ∧ Below w.heap.size w W9 := by
  subst h9
  have lt : R < (sets W R v0 v1).heap.size := by rw [sets_size]; exact lt_of_cell h0
  refine ⟨(World.cell?_alloc_past _ _ _ (by simp; omega)).trans ((World.cell?_alloc_past _ _ _ lt).trans (sets_cells h0 h1).1), (World.cell?_alloc_past _ _ _ (by simp; omega)).trans ((World.cell?_alloc_past _ _ _ lt).trans (sets_cells h0 h1).2), ?_, ?_, ((((sets_below hR hb).alloc (by rw [sets_size]; exact hb.size) _).alloc (by have := hb.size; simp [sets_size]; omega) _).drew.drew).drew⟩
  · have := a21 (sets W R v0 v1) o1 o2
    rw [sets_size] at this
    exact this
  · have := a22 (sets W R v0 v1) o1 o2
    rw [sets_size] at this
    exact this

set_option maxRecDepth 100000 in
set_option maxHeartbeats 4000000 in
theorem ccopy_any (C : Cv) (w : World) (hC : ChalAt w C) (hF : C.Fits) :
    Calls Try.prog 53 #[C.val] w fun e w' => ∃ N : Cv, e = .returned N.val ∧ N.Same C ∧ COwn w.heap.size w' N ∧ Below w.heap.size w w' := by
  have hl1 := hC.ok.trl
  have hl2 := hC.ok.nsl
  unfold maxLen at hl1 hl2
  obtain ⟨iE, hiE, hzE⟩ := Option.map_eq_some_iff.1 info_s
  simp only [Prod.mk.injEq] at hzE
  obtain ⟨zE, sE, bE⟩ := hzE
  obtain ⟨iQ, hiQ, hzQ⟩ := Option.map_eq_some_iff.1 info_n
  simp only [Prod.mk.injEq] at hzQ
  obtain ⟨zQ, sQ, bQ⟩ := hzQ
  have IE : Hid (_) := hiE
  have ZE : Hid (_) := zE
  have SE : Hid (_) := sE
  have YE : Hid (_) := bE
  have IQ : Hid (_) := hiQ
  have ZQ : Hid (_) := zQ
  have SQ : Hid (_) := sQ
  have YQ : Hid (_) := bQ
  clear hiE zE sE bE hiQ zQ sQ bQ
  obtain ⟨ta, tr, tcap, na, ns, ncap⟩ := C
  unfold Cv.val
  have HFE : Hid (_) := hF.tr
  have HFQ : Hid (_) := hF.ns
  have HOK : Hid (_) := hC.ok
  dsimp only at *
  obtain ⟨W2, hW2⟩ : ∃ W2, Hid (W2 = (w.alloc (.cells #[.slice ta tr.length tcap, .slice na ns.length ncap] 61)).alloc (.cells #[.slice none 0 0, .slice none 0 0] 61)) := ⟨_, rfl⟩
  have BW : Hid (Below w.heap.size w W2) := by show Below _ _ _; rw [hW2.out]; exact ((Below.refl _ _).alloc (Nat.le_refl _) _).alloc (by simp) _
  have hM2 := hC.below BW.out
  have p0 : W2.cell? ⟨w.heap.size, 0, none⟩ = some (.slice ta tr.length tcap) := by rw [hW2.out, World.cell?_alloc_past _ _ _ (by simp), World.cell?_alloc_at _ _ _ _ rfl]; rfl
  have p1 : W2.cell? ⟨w.heap.size, 1, none⟩ = some (.slice na ns.length ncap) := by rw [hW2.out, World.cell?_alloc_past _ _ _ (by simp), World.cell?_alloc_at _ _ _ _ rfl]; rfl
  have v0 : W2.cell? ⟨w.heap.size + 1, 0, none⟩ = some (.slice none 0 0) := by rw [hW2.out, World.cell?_alloc_at _ _ _ _ (by simp)]; rfl
  have v1 : W2.cell? ⟨w.heap.size + 1, 1, none⟩ = some (.slice none 0 0) := by rw [hW2.out, World.cell?_alloc_at _ _ _ _ (by simp)]; rfl
  have vf0 : W2.frozen? ⟨w.heap.size + 1, 0, none⟩ = false := by rw [hW2.out]; exact World.frozen?_alloc_at _ _ _ _ (by simp)
  have vf1 : W2.frozen? ⟨w.heap.size + 1, 1, none⟩ = false := by rw [hW2.out]; exact World.frozen?_alloc_at _ _ _ _ (by simp)
  have RE : Hid (RowsAt W2 1 tcell ta tr) := texts_rows hM2.tr
  have RQ : Hid (RowsAt W2 1 (fun n : Int => [Value.int .i64 n]) na ns) := ints_rows hM2.ns
  have s2 : w.heap.size < W2.heap.size := lt_of_cell p0
  have s3 : w.heap.size < W2.heap.size + 1 := by omega
  have s4 : w.heap.size < W2.heap.size + 1 + 1 := by omega
  have t2 : w.heap.size + 1 < W2.heap.size := lt_of_cell v0
  have t3 : w.heap.size + 1 < W2.heap.size + 1 := by omega
  have t4 : w.heap.size + 1 < W2.heap.size + 1 + 1 := by omega
  clear hC hM2 hF
  go_enter Try.func53, Try.ntmps53
  go_upto_region 1 with fail
  rw [← hW2.out]
  by_cases he : tr = []
  · subst he
    by_cases hq : ns = []
    · subst hq
      simp only [List.length_nil] at *
      go_region_law (first
        | (refine step_append_none rfl (.tmp 4) 59 rfl 9 iE Try.underlying59 IE.out ta tcap (by simp [Act.eval]) ?_)
        | (refine step_append_none rfl (.tmp 7) 22 rfl 3 iQ Try.underlying22 IQ.out na ncap (by simp [Act.eval]) ?_)
        | fail)
      all_goals
        go_wp2_with fail
        refine bp_gen fun W9 hW9 => ?_
        obtain ⟨k0, k1, bb⟩ := two0 (by simp) v0 v1 BW.out hW9
        (try simp only [Exit.inBlock, Exit.then])
        refine bodyPost_ret (by simp [results, Try.results53, go_sem, k0, k1]; try rfl) rfl ?_
        exact ⟨⟨none, [], 0, none, [], 0⟩, rfl, ⟨rfl, rfl⟩, ⟨World.ownsRow_nil _ _ _ _, World.ownsRow_nil _ _ _ _, off_none, HOK.out.same ⟨rfl, rfl⟩⟩, bb⟩
    · simp only [List.length_nil] at *
      go_region_law (first
        | (refine step_append_none rfl (.tmp 4) 59 rfl 9 iE Try.underlying59 IE.out ta tcap (by simp [Act.eval]) ?_)
        | (refine step_append_new (cells := fun n : Int => [Value.int .i64 n]) (c := 1) (fun _ => rfl) (by omega) rfl (.tmp 7) 22 rfl 3 iQ _ 8 Try.underlying22 IQ.out ZQ.out SQ.out YQ.out na ncap ns (by simp [Act.eval]) W2 RQ.out (by repeat (first | exact Below.refl _ _ | refine Below.drew ?_ | refine Below.alloc ?_ (by simp) _ | refine Below.alloc ?_ (by simp; omega) _)) hq (by omega) HFQ.out rfl (fun q v hv => by simp at hv; subst hv; rfl) (by first | assumption | (unfold maxLen; omega)) ?_; intro capQ zsQ hcQ)
        | fail)
      all_goals
        go_wp2_with fail
        rw [wvals_flat] at hcQ
        (try rw [wvals_flat])
        refine bp_gen fun W9 hW9 => ?_
        obtain ⟨k0, k1, b1, bb⟩ := two1 (by simp) v0 v1 BW.out hW9
        (try simp only [Exit.inBlock, Exit.then])
        refine bodyPost_ret (by simp [results, Try.results53, go_sem, k0, k1]; try rfl) rfl ?_
        exact ⟨⟨none, [], 0, _, ns, capQ⟩, rfl, ⟨rfl, rfl⟩, ⟨World.ownsRow_nil _ _ _ _, by first | exact row_made (by omega) b1 (wvals_len _) hcQ, off_none, HOK.out.same ⟨rfl, rfl⟩⟩, bb⟩
  · by_cases hq : ns = []
    · subst hq
      simp only [List.length_nil] at *
      go_region_law (first
        | (refine step_append_new (cells := tcell) (c := 1) (fun _ => rfl) (by omega) rfl (.tmp 4) 59 rfl 9 iE _ 16 Try.underlying59 IE.out ZE.out SE.out YE.out ta tcap tr (by simp [Act.eval]) W2 RE.out (by repeat (first | exact Below.refl _ _ | refine Below.drew ?_ | refine Below.alloc ?_ (by simp) _ | refine Below.alloc ?_ (by simp; omega) _)) he (by omega) HFE.out rfl tcell_one (by first | assumption | (unfold maxLen; omega)) ?_; intro capE zsE hcE)
        | (refine step_append_none rfl (.tmp 7) 22 rfl 3 iQ Try.underlying22 IQ.out na ncap (by simp [Act.eval]) ?_)
        | fail)
      all_goals
        go_wp2_with fail
        refine bp_gen fun W9 hW9 => ?_
        obtain ⟨k0, k1, b1, bb⟩ := two1 (by simp) v0 v1 BW.out hW9
        (try simp only [Exit.inBlock, Exit.then])
        refine bodyPost_ret (by simp [results, Try.results53, go_sem, k0, k1]; try rfl) rfl ?_
        exact ⟨⟨_, tr, capE, none, [], 0⟩, rfl, ⟨rfl, rfl⟩, ⟨by first | exact row_made (by omega) b1 (texts_len _) hcE, World.ownsRow_nil _ _ _ _, none_off, HOK.out.same ⟨rfl, rfl⟩⟩, bb⟩
    · skip
      go_region_law (first
        | (refine step_append_new (cells := tcell) (c := 1) (fun _ => rfl) (by omega) rfl (.tmp 4) 59 rfl 9 iE _ 16 Try.underlying59 IE.out ZE.out SE.out YE.out ta tcap tr (by simp [Act.eval]) W2 RE.out (by repeat (first | exact Below.refl _ _ | refine Below.drew ?_ | refine Below.alloc ?_ (by simp) _ | refine Below.alloc ?_ (by simp; omega) _)) he (by omega) HFE.out rfl tcell_one (by first | assumption | (unfold maxLen; omega)) ?_; intro capE zsE hcE)
        | (refine step_append_new (cells := fun n : Int => [Value.int .i64 n]) (c := 1) (fun _ => rfl) (by omega) rfl (.tmp 7) 22 rfl 3 iQ _ 8 Try.underlying22 IQ.out ZQ.out SQ.out YQ.out na ncap ns (by simp [Act.eval]) W2 RQ.out (by repeat (first | exact Below.refl _ _ | refine Below.drew ?_ | refine Below.alloc ?_ (by simp) _ | refine Below.alloc ?_ (by simp; omega) _)) hq (by omega) HFQ.out rfl (fun q v hv => by simp at hv; subst hv; rfl) (by first | assumption | (unfold maxLen; omega)) ?_; intro capQ zsQ hcQ)
        | fail)
      all_goals
        go_wp2_with fail
        rw [wvals_flat] at hcQ
        (try rw [wvals_flat])
        refine bp_gen fun W9 hW9 => ?_
        obtain ⟨k0, k1, b1, b2, bb⟩ := two2 (by simp) v0 v1 BW.out hW9
        (try simp only [Exit.inBlock, Exit.then])
        refine bodyPost_ret (by simp [results, Try.results53, go_sem, k0, k1]; try rfl) rfl ?_
        exact ⟨⟨_, tr, capE, _, ns, capQ⟩, rfl, ⟨rfl, rfl⟩, ⟨by first | exact row_made (by omega) b1 (texts_len _) hcE | exact row_made (by omega) b2 (texts_len _) hcE, by first | exact row_made (by omega) b1 (wvals_len _) hcQ | exact row_made (by omega) b2 (wvals_len _) hcQ, off_some (by omega), HOK.out.same ⟨rfl, rfl⟩⟩, bb⟩

end Go.Proofs.Ytdbbiibnhgcndaa
