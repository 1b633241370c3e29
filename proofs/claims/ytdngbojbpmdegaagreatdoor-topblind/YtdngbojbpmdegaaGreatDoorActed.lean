/-
  What an act of who owns the machine makes of it (own work): riddletop.acted, each of six kinds. No condition but that the machine is within the reach of the form and that the library's tables are as the program's text lays them.
-/
import Derived.Test.YtdngbojbpmdegaaGreatDoorJMBox
import Derived.Test.YtdngbojbpmdegaaGreatDoorHostDo
import Derived.Test.YtdngbojbpmdegaaGreatDoorActsOf
namespace Go.Proofs.YtdngbojbpmdegaaGreatDoor
open Go.RowKit
set_option linter.unusedVariables false

theorem three_objs (X : World) (o p q : Obj) : Below X.heap.size X (((X.alloc o).alloc p).alloc q) ∧ (((X.alloc o).alloc p).alloc q).heap[X.heap.size]? = some o ∧ (((X.alloc o).alloc p).alloc q).heap[X.heap.size + 1]? = some p ∧ (((X.alloc o).alloc p).alloc q).heap[X.heap.size + 1 + 1]? = some q ∧ (((X.alloc o).alloc p).alloc q).heap.size = X.heap.size + 3 := by
  refine ⟨below_allocR (below_allocR (below_allocR (Below.refl _ _) _) _) _, ?_, ?_, ?_, by simp⟩
  · rw [Below.heap_alloc _ _ _ (by simp; omega), Below.heap_alloc _ _ _ (by simp)]; exact Go.Deep.blk_alloc_new _ _
  · rw [Below.heap_alloc _ _ _ (by simp)]
    have := Go.Deep.blk_alloc_new (X.alloc o) p
    simpa using this
  · have := Go.Deep.blk_alloc_new ((X.alloc o).alloc p) q
    simpa using this
theorem far3 {w : World} {P R : Nat} {a b c : Value} {o : Nat} (h : ¬ R = P) : (((w.setCell ⟨P, 0, none⟩ a).setCell ⟨P, 1, none⟩ b).setCell ⟨P, 2, none⟩ c).cell? ⟨R, o, none⟩ = w.cell? ⟨R, o, none⟩ :=
  World.cell?_of_block ((set_heap _ _ _ _ _ h).trans ((set_heap _ _ _ _ _ h).trans (set_heap _ _ _ _ _ h)))
/-- what acted says -/
def ActedSaid (M : Mv) (x : Ac) (w : World) (y : Ending) (w' : World) : Prop := ∃ N : Mv, y = .returned (.tuple #[N.val, .int .i64 (outN M x), .int .i64 (outE M x)]) ∧ N.Same (outM M x) ∧ Owned 0 w' N ∧ (∀ b, Mine N b → Mine M b ∨ w.heap.size ≤ b) ∧ Below w.heap.size w w'
theorem acted_end {w w4 : World} {N : Mv} {P R : Nat} {a b c a' b' c' : Value} (hO : Owned 0 w4 N) (hP : ¬ Mine N P) (hR : ¬ Mine N R) (hb : Below w.heap.size w w4) (bP : w.heap.size ≤ P) (bR : w.heap.size ≤ R) :
    Owned 0 ((((((w4.setCell ⟨P, 0, none⟩ a).setCell ⟨P, 1, none⟩ b).setCell ⟨P, 2, none⟩ c).setCell ⟨R, 0, none⟩ a').setCell ⟨R, 1, none⟩ b').setCell ⟨R, 2, none⟩ c') N ∧
      Below w.heap.size w ((((((w4.setCell ⟨P, 0, none⟩ a).setCell ⟨P, 1, none⟩ b).setCell ⟨P, 2, none⟩ c).setCell ⟨R, 0, none⟩ a').setCell ⟨R, 1, none⟩ b').setCell ⟨R, 2, none⟩ c') :=
  ⟨hO.keepM (fun d hd => (have n1 : d ≠ P := (fun e => hP (e ▸ hd)); have n2 : d ≠ R := (fun e => hR (e ▸ hd)); (set_heap _ _ _ _ _ n2).trans ((set_heap _ _ _ _ _ n2).trans ((set_heap _ _ _ _ _ n2).trans ((set_heap _ _ _ _ _ n1).trans ((set_heap _ _ _ _ _ n1).trans (set_heap _ _ _ _ _ n1))))))) (by simp [World.setCell]),
    (((((hb.setCell (p := ⟨P, 0, none⟩) bP _).setCell (p := ⟨P, 1, none⟩) bP _).setCell (p := ⟨P, 2, none⟩) bP _).setCell (p := ⟨R, 0, none⟩) bR _).setCell (p := ⟨R, 1, none⟩) bR _).setCell (p := ⟨R, 2, none⟩) bR _⟩
theorem acted_end0 {w w4 : World} {N : Mv} {R : Nat} {a' b' c' : Value} (hO : Owned 0 w4 N) (hR : ¬ Mine N R) (hb : Below w.heap.size w w4) (bR : w.heap.size ≤ R) :
    Owned 0 (((w4.setCell ⟨R, 0, none⟩ a').setCell ⟨R, 1, none⟩ b').setCell ⟨R, 2, none⟩ c') N ∧ Below w.heap.size w (((w4.setCell ⟨R, 0, none⟩ a').setCell ⟨R, 1, none⟩ b').setCell ⟨R, 2, none⟩ c') :=
  ⟨hO.keepM (fun d hd => (have n2 : d ≠ R := (fun e => hR (e ▸ hd)); (set_heap _ _ _ _ _ n2).trans ((set_heap _ _ _ _ _ n2).trans (set_heap _ _ _ _ _ n2)))) (by simp [World.setCell]),
    ((hb.setCell (p := ⟨R, 0, none⟩) bR _).setCell (p := ⟨R, 1, none⟩) bR _).setCell (p := ⟨R, 2, none⟩) bR _⟩

set_option maxRecDepth 100000 in
set_option maxHeartbeats 4000000 in
theorem acted_create {M : Mv} {w : World} (hO : Owned 0 w M) (hF : M.Fits) (ht : Tab w) (x : Ac) (hx : x.Ok) (hk : x.k = 1) :
    Calls Tryz.prog 38 #[M.val, .agg #[.int .i64 x.k, .int .i64 x.e, .int .i64 x.f, .int .i64 x.at_, .int .i64 x.r, .int .i64 x.n, .int .i64 x.fuel]] w (ActedSaid M x w) := by
  obtain ⟨W3, hW3⟩ : ∃ W3, Hid (W3 = ((w.alloc (.cells #[.slice M.fa M.frs.length M.fcap, .slice M.ea M.ens.length M.ecap, .slice M.qa M.qus.length M.qcap] 29)).alloc (.cells #[.int .i64 1, .int .i64 x.e, .int .i64 x.f, .int .i64 x.at_, .int .i64 x.r, .int .i64 x.n, .int .i64 x.fuel] 68)).alloc (.cells #[.slice none 0 0, .slice none 0 0, .slice none 0 0] 29)) := ⟨_, rfl⟩
  obtain ⟨b3, zP, zQ, zR, sz⟩ := three_objs w (.cells #[.slice M.fa M.frs.length M.fcap, .slice M.ea M.ens.length M.ecap, .slice M.qa M.qus.length M.qcap] 29) (.cells #[.int .i64 1, .int .i64 x.e, .int .i64 x.f, .int .i64 x.at_, .int .i64 x.r, .int .i64 x.n, .int .i64 x.fuel] 68) (.cells #[.slice none 0 0, .slice none 0 0, .slice none 0 0] 29)
  rw [← hW3.out] at b3 zP zQ zR sz
  have eN : outN M x = creN M := by unfold outN; simp [hk]
  have eE : outE M x = creF M := by unfold outE; simp [hk]
  have eM : outM M x = creM M := by unfold outM; simp [hk]
  unfold ActedSaid
  rw [eN, eE, eM]
  rw [hk]
  have HOM : Hid (Owned 0 w M) := hO
  have c1 := fun w' (hb : Below W3.heap.size W3 w') => create_any M w' ((hO.below b3).below hb).at_ hF ((ht.below b3).below hb)
  obtain ⟨P, hP⟩ : ∃ P, Hid (P = w.heap.size) := ⟨_, rfl⟩
  obtain ⟨Q, hQ⟩ : ∃ Q, Hid (Q = w.heap.size + 1) := ⟨_, rfl⟩
  obtain ⟨R, hR⟩ : ∃ R, Hid (R = w.heap.size + 1 + 1) := ⟨_, rfl⟩
  have HW : Hid (W3.heap.size = w.heap.size + 3 ∧ Below w.heap.size w W3) := ⟨sz, b3⟩
  rw [← hP.out] at zP
  rw [← hQ.out] at zQ
  rw [← hR.out] at zR
  have HZ : Hid (W3.heap[P]? = some (.cells #[.slice M.fa M.frs.length M.fcap, .slice M.ea M.ens.length M.ecap, .slice M.qa M.qus.length M.qcap] 29) ∧ W3.heap[R]? = some (.cells #[.slice none 0 0, .slice none 0 0, .slice none 0 0] 29)) := ⟨zP, zR⟩
  have nPR : ¬ P = R := by have := hP.out; have := hR.out; omega
  have nRP : ¬ R = P := fun e => nPR e.symm
  have nQP : ¬ Q = P := by have := hP.out; have := hQ.out; omega
  have nQR : ¬ Q = R := by have := hR.out; have := hQ.out; omega
  clear hO hF ht hx b3 sz eN eE eM hk
  unfold Mv.val at c1 ⊢
  go_enter Tryz.func38, Tryz.ntmps38
  go_upto_region 1 with fail
  rw [← hW3.out, ← hR.out, ← hQ.out, ← hP.out]
  clear hW3
  have m0 : W3.cell? ⟨P, 0, none⟩ = some (.slice M.fa M.frs.length M.fcap) := by simp [World.cell?, zP]
  have m1 : W3.cell? ⟨P, 1, none⟩ = some (.slice M.ea M.ens.length M.ecap) := by simp [World.cell?, zP]
  have m2 : W3.cell? ⟨P, 2, none⟩ = some (.slice M.qa M.qus.length M.qcap) := by simp [World.cell?, zP]
  have a0 : W3.cell? ⟨Q, 0, none⟩ = some (.int .i64 1) := by simp [World.cell?, zQ]
  have a1 : W3.cell? ⟨Q, 1, none⟩ = some (.int .i64 x.e) := by simp [World.cell?, zQ]
  have a2 : W3.cell? ⟨Q, 2, none⟩ = some (.int .i64 x.f) := by simp [World.cell?, zQ]
  have a3 : W3.cell? ⟨Q, 3, none⟩ = some (.int .i64 x.at_) := by simp [World.cell?, zQ]
  have a4 : W3.cell? ⟨Q, 4, none⟩ = some (.int .i64 x.r) := by simp [World.cell?, zQ]
  have a5 : W3.cell? ⟨Q, 5, none⟩ = some (.int .i64 x.n) := by simp [World.cell?, zQ]
  have a6 : W3.cell? ⟨Q, 6, none⟩ = some (.int .i64 x.fuel) := by simp [World.cell?, zQ]
  have lP := lt_of_cell m0
  have lQ := lt_of_cell a0
  have lR := (Array.getElem?_eq_some_iff.1 zR).1
  clear zP zQ zR
  go_wp2_with (go_at_call 92; refine (c1 _ (by first | exact Below.refl _ _ | exact (Below.refl _ _).drew)).mono ?_; clear c1; rintro e w4 ⟨N, rfl, hS, hON, hb4⟩; (have HB4 : Hid (Below W3.heap.size W3 w4) := hb4); (have zP4 := (hb4.block P lP).trans HZ.out.1); (have zR4 := (hb4.block R lR).trans HZ.out.2); (have HSN : Hid (_) := hS); (have HON : Hid (Owned W3.heap.size w4 N) := hON); (have p0 : w4.cell? ⟨P, 0, none⟩ = some (.slice M.fa M.frs.length M.fcap) := by simp [World.cell?, zP4]); (have pf0 := frozen_of_block zP4 0); (have r0 : w4.cell? ⟨R, 0, none⟩ = some (.slice none 0 0) := by simp [World.cell?, zR4]); (have rf0 := frozen_of_block zR4 0); (have p1 : w4.cell? ⟨P, 1, none⟩ = some (.slice M.ea M.ens.length M.ecap) := by simp [World.cell?, zP4]); (have pf1 := frozen_of_block zP4 1); (have r1 : w4.cell? ⟨R, 1, none⟩ = some (.slice none 0 0) := by simp [World.cell?, zR4]); (have rf1 := frozen_of_block zR4 1); (have p2 : w4.cell? ⟨P, 2, none⟩ = some (.slice M.qa M.qus.length M.qcap) := by simp [World.cell?, zP4]); (have pf2 := frozen_of_block zP4 2); (have r2 : w4.cell? ⟨R, 2, none⟩ = some (.slice none 0 0) := by simp [World.cell?, zR4]); (have rf2 := frozen_of_block zR4 2); (have lp4 := lt_of_cell p0); (have lr4 := lt_of_cell r0); clear zP4 zR4 hb4 hS hON; (have RC : Hid ((((((((w4).setCell ⟨P, 0, none⟩ (.slice N.fa N.frs.length N.fcap)).setCell ⟨P, 1, none⟩ (.slice N.ea N.ens.length N.ecap)).setCell ⟨P, 2, none⟩ (.slice N.qa N.qus.length N.qcap)).setCell ⟨R, 0, none⟩ (.slice N.fa N.frs.length N.fcap)).setCell ⟨R, 1, none⟩ (.slice N.ea N.ens.length N.ecap)).setCell ⟨R, 2, none⟩ (.slice N.qa N.qus.length N.qcap)).cell? ⟨R, 0, none⟩ = some (.slice N.fa N.frs.length N.fcap) ∧ (((((((w4).setCell ⟨P, 0, none⟩ (.slice N.fa N.frs.length N.fcap)).setCell ⟨P, 1, none⟩ (.slice N.ea N.ens.length N.ecap)).setCell ⟨P, 2, none⟩ (.slice N.qa N.qus.length N.qcap)).setCell ⟨R, 0, none⟩ (.slice N.fa N.frs.length N.fcap)).setCell ⟨R, 1, none⟩ (.slice N.ea N.ens.length N.ecap)).setCell ⟨R, 2, none⟩ (.slice N.qa N.qus.length N.qcap)).cell? ⟨R, 1, none⟩ = some (.slice N.ea N.ens.length N.ecap) ∧ (((((((w4).setCell ⟨P, 0, none⟩ (.slice N.fa N.frs.length N.fcap)).setCell ⟨P, 1, none⟩ (.slice N.ea N.ens.length N.ecap)).setCell ⟨P, 2, none⟩ (.slice N.qa N.qus.length N.qcap)).setCell ⟨R, 0, none⟩ (.slice N.fa N.frs.length N.fcap)).setCell ⟨R, 1, none⟩ (.slice N.ea N.ens.length N.ecap)).setCell ⟨R, 2, none⟩ (.slice N.qa N.qus.length N.qcap)).cell? ⟨R, 2, none⟩ = some (.slice N.qa N.qus.length N.qcap)) := blk3 ((far3 nRP).trans r0) ((far3 nRP).trans r1) ((far3 nRP).trans r2)))
  refine bodyPost_ret (by simp [results, Tryz.results38, go_sem, RC.out]; try rfl) rfl ?_
  have h4 := HW.out.2.trans (HB4.out.mono HW.out.2.size)
  have hp := hP.out
  have hr := hR.out
  have hw := HW.out.1
  obtain ⟨k1, k2⟩ := acted_end (w := w) (a := .slice N.fa N.frs.length N.fcap) (b := .slice N.ea N.ens.length N.ecap) (c := .slice N.qa N.qus.length N.qcap) (a' := .slice N.fa N.frs.length N.fcap) (b' := .slice N.ea N.ens.length N.ecap) (c' := .slice N.qa N.qus.length N.qcap) (P := P) (R := R) (HON.out.mono (Nat.zero_le _)) (fun q => by have := (Mine.fresh HON.out q).1; omega) (fun q => by have := (Mine.fresh HON.out q).1; omega) h4 (by omega) (by omega)
  exact ⟨N, rfl, HSN.out, k1, fun b hb => .inr (by have := (Mine.fresh HON.out hb).1; omega), k2⟩

set_option maxRecDepth 100000 in
set_option maxHeartbeats 4000000 in
theorem acted_put {M : Mv} {w : World} (hO : Owned 0 w M) (hF : M.Fits) (ht : Tab w) (x : Ac) (hx : x.Ok) (hk : x.k = 2) :
    Calls Tryz.prog 38 #[M.val, .agg #[.int .i64 x.k, .int .i64 x.e, .int .i64 x.f, .int .i64 x.at_, .int .i64 x.r, .int .i64 x.n, .int .i64 x.fuel]] w (ActedSaid M x w) := by
  obtain ⟨W3, hW3⟩ : ∃ W3, Hid (W3 = ((w.alloc (.cells #[.slice M.fa M.frs.length M.fcap, .slice M.ea M.ens.length M.ecap, .slice M.qa M.qus.length M.qcap] 29)).alloc (.cells #[.int .i64 2, .int .i64 x.e, .int .i64 x.f, .int .i64 x.at_, .int .i64 x.r, .int .i64 x.n, .int .i64 x.fuel] 68)).alloc (.cells #[.slice none 0 0, .slice none 0 0, .slice none 0 0] 29)) := ⟨_, rfl⟩
  obtain ⟨b3, zP, zQ, zR, sz⟩ := three_objs w (.cells #[.slice M.fa M.frs.length M.fcap, .slice M.ea M.ens.length M.ecap, .slice M.qa M.qus.length M.qcap] 29) (.cells #[.int .i64 2, .int .i64 x.e, .int .i64 x.f, .int .i64 x.at_, .int .i64 x.r, .int .i64 x.n, .int .i64 x.fuel] 68) (.cells #[.slice none 0 0, .slice none 0 0, .slice none 0 0] 29)
  rw [← hW3.out] at b3 zP zQ zR sz
  have eN : outN M x = 0 := by unfold outN; simp [hk]
  have eE : outE M x = putF M x.e x.f x.at_ x.r := by unfold outE; simp [hk]
  have eM : outM M x = putM M x.e x.f x.at_ x.r := by unfold outM; simp [hk]
  unfold ActedSaid
  rw [eN, eE, eM]
  rw [hk]
  have HOM : Hid (Owned 0 w M) := hO
  have c1 := fun w' (hb : Below W3.heap.size W3 w') => put_any M x.e x.f x.at_ x.r w' ((hO.below b3).below hb).at_ hF hx.wat hx.wr ((ht.below b3).below hb)
  obtain ⟨P, hP⟩ : ∃ P, Hid (P = w.heap.size) := ⟨_, rfl⟩
  obtain ⟨Q, hQ⟩ : ∃ Q, Hid (Q = w.heap.size + 1) := ⟨_, rfl⟩
  obtain ⟨R, hR⟩ : ∃ R, Hid (R = w.heap.size + 1 + 1) := ⟨_, rfl⟩
  have HW : Hid (W3.heap.size = w.heap.size + 3 ∧ Below w.heap.size w W3) := ⟨sz, b3⟩
  rw [← hP.out] at zP
  rw [← hQ.out] at zQ
  rw [← hR.out] at zR
  have HZ : Hid (W3.heap[P]? = some (.cells #[.slice M.fa M.frs.length M.fcap, .slice M.ea M.ens.length M.ecap, .slice M.qa M.qus.length M.qcap] 29) ∧ W3.heap[R]? = some (.cells #[.slice none 0 0, .slice none 0 0, .slice none 0 0] 29)) := ⟨zP, zR⟩
  have nPR : ¬ P = R := by have := hP.out; have := hR.out; omega
  have nRP : ¬ R = P := fun e => nPR e.symm
  have nQP : ¬ Q = P := by have := hP.out; have := hQ.out; omega
  have nQR : ¬ Q = R := by have := hR.out; have := hQ.out; omega
  clear hO hF ht hx b3 sz eN eE eM hk
  unfold Mv.val at c1 ⊢
  go_enter Tryz.func38, Tryz.ntmps38
  go_upto_region 1 with fail
  rw [← hW3.out, ← hR.out, ← hQ.out, ← hP.out]
  clear hW3
  have m0 : W3.cell? ⟨P, 0, none⟩ = some (.slice M.fa M.frs.length M.fcap) := by simp [World.cell?, zP]
  have m1 : W3.cell? ⟨P, 1, none⟩ = some (.slice M.ea M.ens.length M.ecap) := by simp [World.cell?, zP]
  have m2 : W3.cell? ⟨P, 2, none⟩ = some (.slice M.qa M.qus.length M.qcap) := by simp [World.cell?, zP]
  have a0 : W3.cell? ⟨Q, 0, none⟩ = some (.int .i64 2) := by simp [World.cell?, zQ]
  have a1 : W3.cell? ⟨Q, 1, none⟩ = some (.int .i64 x.e) := by simp [World.cell?, zQ]
  have a2 : W3.cell? ⟨Q, 2, none⟩ = some (.int .i64 x.f) := by simp [World.cell?, zQ]
  have a3 : W3.cell? ⟨Q, 3, none⟩ = some (.int .i64 x.at_) := by simp [World.cell?, zQ]
  have a4 : W3.cell? ⟨Q, 4, none⟩ = some (.int .i64 x.r) := by simp [World.cell?, zQ]
  have a5 : W3.cell? ⟨Q, 5, none⟩ = some (.int .i64 x.n) := by simp [World.cell?, zQ]
  have a6 : W3.cell? ⟨Q, 6, none⟩ = some (.int .i64 x.fuel) := by simp [World.cell?, zQ]
  have lP := lt_of_cell m0
  have lQ := lt_of_cell a0
  have lR := (Array.getElem?_eq_some_iff.1 zR).1
  clear zP zQ zR
  go_wp2_with (go_at_call 93; refine (c1 _ (by first | exact Below.refl _ _ | exact (Below.refl _ _).drew)).mono ?_; clear c1; rintro e w4 ⟨N, rfl, hS, hON, hb4⟩; (have HB4 : Hid (Below W3.heap.size W3 w4) := hb4); (have zP4 := (hb4.block P lP).trans HZ.out.1); (have zR4 := (hb4.block R lR).trans HZ.out.2); (have HSN : Hid (_) := hS); (have HON : Hid (Owned W3.heap.size w4 N) := hON); (have p0 : w4.cell? ⟨P, 0, none⟩ = some (.slice M.fa M.frs.length M.fcap) := by simp [World.cell?, zP4]); (have pf0 := frozen_of_block zP4 0); (have r0 : w4.cell? ⟨R, 0, none⟩ = some (.slice none 0 0) := by simp [World.cell?, zR4]); (have rf0 := frozen_of_block zR4 0); (have p1 : w4.cell? ⟨P, 1, none⟩ = some (.slice M.ea M.ens.length M.ecap) := by simp [World.cell?, zP4]); (have pf1 := frozen_of_block zP4 1); (have r1 : w4.cell? ⟨R, 1, none⟩ = some (.slice none 0 0) := by simp [World.cell?, zR4]); (have rf1 := frozen_of_block zR4 1); (have p2 : w4.cell? ⟨P, 2, none⟩ = some (.slice M.qa M.qus.length M.qcap) := by simp [World.cell?, zP4]); (have pf2 := frozen_of_block zP4 2); (have r2 : w4.cell? ⟨R, 2, none⟩ = some (.slice none 0 0) := by simp [World.cell?, zR4]); (have rf2 := frozen_of_block zR4 2); (have lp4 := lt_of_cell p0); (have lr4 := lt_of_cell r0); clear zP4 zR4 hb4 hS hON; (have RC : Hid ((((((((w4).setCell ⟨P, 0, none⟩ (.slice N.fa N.frs.length N.fcap)).setCell ⟨P, 1, none⟩ (.slice N.ea N.ens.length N.ecap)).setCell ⟨P, 2, none⟩ (.slice N.qa N.qus.length N.qcap)).setCell ⟨R, 0, none⟩ (.slice N.fa N.frs.length N.fcap)).setCell ⟨R, 1, none⟩ (.slice N.ea N.ens.length N.ecap)).setCell ⟨R, 2, none⟩ (.slice N.qa N.qus.length N.qcap)).cell? ⟨R, 0, none⟩ = some (.slice N.fa N.frs.length N.fcap) ∧ (((((((w4).setCell ⟨P, 0, none⟩ (.slice N.fa N.frs.length N.fcap)).setCell ⟨P, 1, none⟩ (.slice N.ea N.ens.length N.ecap)).setCell ⟨P, 2, none⟩ (.slice N.qa N.qus.length N.qcap)).setCell ⟨R, 0, none⟩ (.slice N.fa N.frs.length N.fcap)).setCell ⟨R, 1, none⟩ (.slice N.ea N.ens.length N.ecap)).setCell ⟨R, 2, none⟩ (.slice N.qa N.qus.length N.qcap)).cell? ⟨R, 1, none⟩ = some (.slice N.ea N.ens.length N.ecap) ∧ (((((((w4).setCell ⟨P, 0, none⟩ (.slice N.fa N.frs.length N.fcap)).setCell ⟨P, 1, none⟩ (.slice N.ea N.ens.length N.ecap)).setCell ⟨P, 2, none⟩ (.slice N.qa N.qus.length N.qcap)).setCell ⟨R, 0, none⟩ (.slice N.fa N.frs.length N.fcap)).setCell ⟨R, 1, none⟩ (.slice N.ea N.ens.length N.ecap)).setCell ⟨R, 2, none⟩ (.slice N.qa N.qus.length N.qcap)).cell? ⟨R, 2, none⟩ = some (.slice N.qa N.qus.length N.qcap)) := blk3 ((far3 nRP).trans r0) ((far3 nRP).trans r1) ((far3 nRP).trans r2)))
  refine bodyPost_ret (by simp [results, Tryz.results38, go_sem, RC.out]; try rfl) rfl ?_
  have h4 := HW.out.2.trans (HB4.out.mono HW.out.2.size)
  have hp := hP.out
  have hr := hR.out
  have hw := HW.out.1
  obtain ⟨k1, k2⟩ := acted_end (w := w) (a := .slice N.fa N.frs.length N.fcap) (b := .slice N.ea N.ens.length N.ecap) (c := .slice N.qa N.qus.length N.qcap) (a' := .slice N.fa N.frs.length N.fcap) (b' := .slice N.ea N.ens.length N.ecap) (c' := .slice N.qa N.qus.length N.qcap) (P := P) (R := R) (HON.out.mono (Nat.zero_le _)) (fun q => by have := (Mine.fresh HON.out q).1; omega) (fun q => by have := (Mine.fresh HON.out q).1; omega) h4 (by omega) (by omega)
  exact ⟨N, rfl, HSN.out, k1, fun b hb => .inr (by have := (Mine.fresh HON.out hb).1; omega), k2⟩

set_option maxRecDepth 100000 in
set_option maxHeartbeats 4000000 in
theorem acted_start {M : Mv} {w : World} (hO : Owned 0 w M) (hF : M.Fits) (ht : Tab w) (x : Ac) (hx : x.Ok) (hk : x.k = 4) :
    Calls Tryz.prog 38 #[M.val, .agg #[.int .i64 x.k, .int .i64 x.e, .int .i64 x.f, .int .i64 x.at_, .int .i64 x.r, .int .i64 x.n, .int .i64 x.fuel]] w (ActedSaid M x w) := by
  obtain ⟨W3, hW3⟩ : ∃ W3, Hid (W3 = ((w.alloc (.cells #[.slice M.fa M.frs.length M.fcap, .slice M.ea M.ens.length M.ecap, .slice M.qa M.qus.length M.qcap] 29)).alloc (.cells #[.int .i64 4, .int .i64 x.e, .int .i64 x.f, .int .i64 x.at_, .int .i64 x.r, .int .i64 x.n, .int .i64 x.fuel] 68)).alloc (.cells #[.slice none 0 0, .slice none 0 0, .slice none 0 0] 29)) := ⟨_, rfl⟩
  obtain ⟨b3, zP, zQ, zR, sz⟩ := three_objs w (.cells #[.slice M.fa M.frs.length M.fcap, .slice M.ea M.ens.length M.ecap, .slice M.qa M.qus.length M.qcap] 29) (.cells #[.int .i64 4, .int .i64 x.e, .int .i64 x.f, .int .i64 x.at_, .int .i64 x.r, .int .i64 x.n, .int .i64 x.fuel] 68) (.cells #[.slice none 0 0, .slice none 0 0, .slice none 0 0] 29)
  rw [← hW3.out] at b3 zP zQ zR sz
  have eN : outN M x = 0 := by unfold outN; simp [hk]
  have eE : outE M x = askF M x.e 1 := by unfold outE; simp [hk]
  have eM : outM M x = startM M x.e := by unfold outM; simp [hk]
  unfold ActedSaid
  rw [eN, eE, eM]
  rw [hk]
  have HOM : Hid (Owned 0 w M) := hO
  have c1 := fun w' (hb : Below W3.heap.size W3 w') => start_any M x.e w' ((hO.below b3).below hb).at_ hF
  obtain ⟨P, hP⟩ : ∃ P, Hid (P = w.heap.size) := ⟨_, rfl⟩
  obtain ⟨Q, hQ⟩ : ∃ Q, Hid (Q = w.heap.size + 1) := ⟨_, rfl⟩
  obtain ⟨R, hR⟩ : ∃ R, Hid (R = w.heap.size + 1 + 1) := ⟨_, rfl⟩
  have HW : Hid (W3.heap.size = w.heap.size + 3 ∧ Below w.heap.size w W3) := ⟨sz, b3⟩
  rw [← hP.out] at zP
  rw [← hQ.out] at zQ
  rw [← hR.out] at zR
  have HZ : Hid (W3.heap[P]? = some (.cells #[.slice M.fa M.frs.length M.fcap, .slice M.ea M.ens.length M.ecap, .slice M.qa M.qus.length M.qcap] 29) ∧ W3.heap[R]? = some (.cells #[.slice none 0 0, .slice none 0 0, .slice none 0 0] 29)) := ⟨zP, zR⟩
  have nPR : ¬ P = R := by have := hP.out; have := hR.out; omega
  have nRP : ¬ R = P := fun e => nPR e.symm
  have nQP : ¬ Q = P := by have := hP.out; have := hQ.out; omega
  have nQR : ¬ Q = R := by have := hR.out; have := hQ.out; omega
  clear hO hF ht hx b3 sz eN eE eM hk
  unfold Mv.val at c1 ⊢
  go_enter Tryz.func38, Tryz.ntmps38
  go_upto_region 1 with fail
  rw [← hW3.out, ← hR.out, ← hQ.out, ← hP.out]
  clear hW3
  have m0 : W3.cell? ⟨P, 0, none⟩ = some (.slice M.fa M.frs.length M.fcap) := by simp [World.cell?, zP]
  have m1 : W3.cell? ⟨P, 1, none⟩ = some (.slice M.ea M.ens.length M.ecap) := by simp [World.cell?, zP]
  have m2 : W3.cell? ⟨P, 2, none⟩ = some (.slice M.qa M.qus.length M.qcap) := by simp [World.cell?, zP]
  have a0 : W3.cell? ⟨Q, 0, none⟩ = some (.int .i64 4) := by simp [World.cell?, zQ]
  have a1 : W3.cell? ⟨Q, 1, none⟩ = some (.int .i64 x.e) := by simp [World.cell?, zQ]
  have a2 : W3.cell? ⟨Q, 2, none⟩ = some (.int .i64 x.f) := by simp [World.cell?, zQ]
  have a3 : W3.cell? ⟨Q, 3, none⟩ = some (.int .i64 x.at_) := by simp [World.cell?, zQ]
  have a4 : W3.cell? ⟨Q, 4, none⟩ = some (.int .i64 x.r) := by simp [World.cell?, zQ]
  have a5 : W3.cell? ⟨Q, 5, none⟩ = some (.int .i64 x.n) := by simp [World.cell?, zQ]
  have a6 : W3.cell? ⟨Q, 6, none⟩ = some (.int .i64 x.fuel) := by simp [World.cell?, zQ]
  have lP := lt_of_cell m0
  have lQ := lt_of_cell a0
  have lR := (Array.getElem?_eq_some_iff.1 zR).1
  clear zP zQ zR
  go_wp2_with (go_at_call 94; refine (c1 _ (by first | exact Below.refl _ _ | exact (Below.refl _ _).drew)).mono ?_; clear c1; rintro e w4 ⟨N, rfl, hS, hON, hb4⟩; (have HB4 : Hid (Below W3.heap.size W3 w4) := hb4); (have zP4 := (hb4.block P lP).trans HZ.out.1); (have zR4 := (hb4.block R lR).trans HZ.out.2); (have HSN : Hid (_) := hS); (have HON : Hid (Owned W3.heap.size w4 N) := hON); (have p0 : w4.cell? ⟨P, 0, none⟩ = some (.slice M.fa M.frs.length M.fcap) := by simp [World.cell?, zP4]); (have pf0 := frozen_of_block zP4 0); (have r0 : w4.cell? ⟨R, 0, none⟩ = some (.slice none 0 0) := by simp [World.cell?, zR4]); (have rf0 := frozen_of_block zR4 0); (have p1 : w4.cell? ⟨P, 1, none⟩ = some (.slice M.ea M.ens.length M.ecap) := by simp [World.cell?, zP4]); (have pf1 := frozen_of_block zP4 1); (have r1 : w4.cell? ⟨R, 1, none⟩ = some (.slice none 0 0) := by simp [World.cell?, zR4]); (have rf1 := frozen_of_block zR4 1); (have p2 : w4.cell? ⟨P, 2, none⟩ = some (.slice M.qa M.qus.length M.qcap) := by simp [World.cell?, zP4]); (have pf2 := frozen_of_block zP4 2); (have r2 : w4.cell? ⟨R, 2, none⟩ = some (.slice none 0 0) := by simp [World.cell?, zR4]); (have rf2 := frozen_of_block zR4 2); (have lp4 := lt_of_cell p0); (have lr4 := lt_of_cell r0); clear zP4 zR4 hb4 hS hON; (have RC : Hid ((((((((w4).setCell ⟨P, 0, none⟩ (.slice N.fa N.frs.length N.fcap)).setCell ⟨P, 1, none⟩ (.slice N.ea N.ens.length N.ecap)).setCell ⟨P, 2, none⟩ (.slice N.qa N.qus.length N.qcap)).setCell ⟨R, 0, none⟩ (.slice N.fa N.frs.length N.fcap)).setCell ⟨R, 1, none⟩ (.slice N.ea N.ens.length N.ecap)).setCell ⟨R, 2, none⟩ (.slice N.qa N.qus.length N.qcap)).cell? ⟨R, 0, none⟩ = some (.slice N.fa N.frs.length N.fcap) ∧ (((((((w4).setCell ⟨P, 0, none⟩ (.slice N.fa N.frs.length N.fcap)).setCell ⟨P, 1, none⟩ (.slice N.ea N.ens.length N.ecap)).setCell ⟨P, 2, none⟩ (.slice N.qa N.qus.length N.qcap)).setCell ⟨R, 0, none⟩ (.slice N.fa N.frs.length N.fcap)).setCell ⟨R, 1, none⟩ (.slice N.ea N.ens.length N.ecap)).setCell ⟨R, 2, none⟩ (.slice N.qa N.qus.length N.qcap)).cell? ⟨R, 1, none⟩ = some (.slice N.ea N.ens.length N.ecap) ∧ (((((((w4).setCell ⟨P, 0, none⟩ (.slice N.fa N.frs.length N.fcap)).setCell ⟨P, 1, none⟩ (.slice N.ea N.ens.length N.ecap)).setCell ⟨P, 2, none⟩ (.slice N.qa N.qus.length N.qcap)).setCell ⟨R, 0, none⟩ (.slice N.fa N.frs.length N.fcap)).setCell ⟨R, 1, none⟩ (.slice N.ea N.ens.length N.ecap)).setCell ⟨R, 2, none⟩ (.slice N.qa N.qus.length N.qcap)).cell? ⟨R, 2, none⟩ = some (.slice N.qa N.qus.length N.qcap)) := blk3 ((far3 nRP).trans r0) ((far3 nRP).trans r1) ((far3 nRP).trans r2)))
  refine bodyPost_ret (by simp [results, Tryz.results38, go_sem, RC.out]; try rfl) rfl ?_
  have h4 := HW.out.2.trans (HB4.out.mono HW.out.2.size)
  have hp := hP.out
  have hr := hR.out
  have hw := HW.out.1
  obtain ⟨k1, k2⟩ := acted_end (w := w) (a := .slice N.fa N.frs.length N.fcap) (b := .slice N.ea N.ens.length N.ecap) (c := .slice N.qa N.qus.length N.qcap) (a' := .slice N.fa N.frs.length N.fcap) (b' := .slice N.ea N.ens.length N.ecap) (c' := .slice N.qa N.qus.length N.qcap) (P := P) (R := R) (HON.out.mono (Nat.zero_le _)) (fun q => by have := (Mine.fresh HON.out q).1; omega) (fun q => by have := (Mine.fresh HON.out q).1; omega) h4 (by omega) (by omega)
  exact ⟨N, rfl, HSN.out, k1, fun b hb => .inr (by have := (Mine.fresh HON.out hb).1; omega), k2⟩

set_option maxRecDepth 100000 in
set_option maxHeartbeats 4000000 in
theorem acted_remove {M : Mv} {w : World} (hO : Owned 0 w M) (hF : M.Fits) (ht : Tab w) (x : Ac) (hx : x.Ok) (hk : x.k = 5) :
    Calls Tryz.prog 38 #[M.val, .agg #[.int .i64 x.k, .int .i64 x.e, .int .i64 x.f, .int .i64 x.at_, .int .i64 x.r, .int .i64 x.n, .int .i64 x.fuel]] w (ActedSaid M x w) := by
  obtain ⟨W3, hW3⟩ : ∃ W3, Hid (W3 = ((w.alloc (.cells #[.slice M.fa M.frs.length M.fcap, .slice M.ea M.ens.length M.ecap, .slice M.qa M.qus.length M.qcap] 29)).alloc (.cells #[.int .i64 5, .int .i64 x.e, .int .i64 x.f, .int .i64 x.at_, .int .i64 x.r, .int .i64 x.n, .int .i64 x.fuel] 68)).alloc (.cells #[.slice none 0 0, .slice none 0 0, .slice none 0 0] 29)) := ⟨_, rfl⟩
  obtain ⟨b3, zP, zQ, zR, sz⟩ := three_objs w (.cells #[.slice M.fa M.frs.length M.fcap, .slice M.ea M.ens.length M.ecap, .slice M.qa M.qus.length M.qcap] 29) (.cells #[.int .i64 5, .int .i64 x.e, .int .i64 x.f, .int .i64 x.at_, .int .i64 x.r, .int .i64 x.n, .int .i64 x.fuel] 68) (.cells #[.slice none 0 0, .slice none 0 0, .slice none 0 0] 29)
  rw [← hW3.out] at b3 zP zQ zR sz
  have eN : outN M x = 0 := by unfold outN; simp [hk]
  have eE : outE M x = askF M x.e (-1) := by unfold outE; simp [hk]
  have eM : outM M x = remM M x.e := by unfold outM; simp [hk]
  unfold ActedSaid
  rw [eN, eE, eM]
  rw [hk]
  have HOM : Hid (Owned 0 w M) := hO
  have c1 := fun w' (hb : Below W3.heap.size W3 w') => remove_any M x.e w' ((hO.below b3).below hb).at_ hF
  obtain ⟨P, hP⟩ : ∃ P, Hid (P = w.heap.size) := ⟨_, rfl⟩
  obtain ⟨Q, hQ⟩ : ∃ Q, Hid (Q = w.heap.size + 1) := ⟨_, rfl⟩
  obtain ⟨R, hR⟩ : ∃ R, Hid (R = w.heap.size + 1 + 1) := ⟨_, rfl⟩
  have HW : Hid (W3.heap.size = w.heap.size + 3 ∧ Below w.heap.size w W3) := ⟨sz, b3⟩
  rw [← hP.out] at zP
  rw [← hQ.out] at zQ
  rw [← hR.out] at zR
  have HZ : Hid (W3.heap[P]? = some (.cells #[.slice M.fa M.frs.length M.fcap, .slice M.ea M.ens.length M.ecap, .slice M.qa M.qus.length M.qcap] 29) ∧ W3.heap[R]? = some (.cells #[.slice none 0 0, .slice none 0 0, .slice none 0 0] 29)) := ⟨zP, zR⟩
  have nPR : ¬ P = R := by have := hP.out; have := hR.out; omega
  have nRP : ¬ R = P := fun e => nPR e.symm
  have nQP : ¬ Q = P := by have := hP.out; have := hQ.out; omega
  have nQR : ¬ Q = R := by have := hR.out; have := hQ.out; omega
  clear hO hF ht hx b3 sz eN eE eM hk
  unfold Mv.val at c1 ⊢
  go_enter Tryz.func38, Tryz.ntmps38
  go_upto_region 1 with fail
  rw [← hW3.out, ← hR.out, ← hQ.out, ← hP.out]
  clear hW3
  have m0 : W3.cell? ⟨P, 0, none⟩ = some (.slice M.fa M.frs.length M.fcap) := by simp [World.cell?, zP]
  have m1 : W3.cell? ⟨P, 1, none⟩ = some (.slice M.ea M.ens.length M.ecap) := by simp [World.cell?, zP]
  have m2 : W3.cell? ⟨P, 2, none⟩ = some (.slice M.qa M.qus.length M.qcap) := by simp [World.cell?, zP]
  have a0 : W3.cell? ⟨Q, 0, none⟩ = some (.int .i64 5) := by simp [World.cell?, zQ]
  have a1 : W3.cell? ⟨Q, 1, none⟩ = some (.int .i64 x.e) := by simp [World.cell?, zQ]
  have a2 : W3.cell? ⟨Q, 2, none⟩ = some (.int .i64 x.f) := by simp [World.cell?, zQ]
  have a3 : W3.cell? ⟨Q, 3, none⟩ = some (.int .i64 x.at_) := by simp [World.cell?, zQ]
  have a4 : W3.cell? ⟨Q, 4, none⟩ = some (.int .i64 x.r) := by simp [World.cell?, zQ]
  have a5 : W3.cell? ⟨Q, 5, none⟩ = some (.int .i64 x.n) := by simp [World.cell?, zQ]
  have a6 : W3.cell? ⟨Q, 6, none⟩ = some (.int .i64 x.fuel) := by simp [World.cell?, zQ]
  have lP := lt_of_cell m0
  have lQ := lt_of_cell a0
  have lR := (Array.getElem?_eq_some_iff.1 zR).1
  clear zP zQ zR
  go_wp2_with (go_at_call 95; refine (c1 _ (by first | exact Below.refl _ _ | exact (Below.refl _ _).drew)).mono ?_; clear c1; rintro e w4 ⟨N, rfl, hS, hON, hb4⟩; (have HB4 : Hid (Below W3.heap.size W3 w4) := hb4); (have zP4 := (hb4.block P lP).trans HZ.out.1); (have zR4 := (hb4.block R lR).trans HZ.out.2); (have HSN : Hid (_) := hS); (have HON : Hid (Owned W3.heap.size w4 N) := hON); (have p0 : w4.cell? ⟨P, 0, none⟩ = some (.slice M.fa M.frs.length M.fcap) := by simp [World.cell?, zP4]); (have pf0 := frozen_of_block zP4 0); (have r0 : w4.cell? ⟨R, 0, none⟩ = some (.slice none 0 0) := by simp [World.cell?, zR4]); (have rf0 := frozen_of_block zR4 0); (have p1 : w4.cell? ⟨P, 1, none⟩ = some (.slice M.ea M.ens.length M.ecap) := by simp [World.cell?, zP4]); (have pf1 := frozen_of_block zP4 1); (have r1 : w4.cell? ⟨R, 1, none⟩ = some (.slice none 0 0) := by simp [World.cell?, zR4]); (have rf1 := frozen_of_block zR4 1); (have p2 : w4.cell? ⟨P, 2, none⟩ = some (.slice M.qa M.qus.length M.qcap) := by simp [World.cell?, zP4]); (have pf2 := frozen_of_block zP4 2); (have r2 : w4.cell? ⟨R, 2, none⟩ = some (.slice none 0 0) := by simp [World.cell?, zR4]); (have rf2 := frozen_of_block zR4 2); (have lp4 := lt_of_cell p0); (have lr4 := lt_of_cell r0); clear zP4 zR4 hb4 hS hON; (have RC : Hid ((((((((w4).setCell ⟨P, 0, none⟩ (.slice N.fa N.frs.length N.fcap)).setCell ⟨P, 1, none⟩ (.slice N.ea N.ens.length N.ecap)).setCell ⟨P, 2, none⟩ (.slice N.qa N.qus.length N.qcap)).setCell ⟨R, 0, none⟩ (.slice N.fa N.frs.length N.fcap)).setCell ⟨R, 1, none⟩ (.slice N.ea N.ens.length N.ecap)).setCell ⟨R, 2, none⟩ (.slice N.qa N.qus.length N.qcap)).cell? ⟨R, 0, none⟩ = some (.slice N.fa N.frs.length N.fcap) ∧ (((((((w4).setCell ⟨P, 0, none⟩ (.slice N.fa N.frs.length N.fcap)).setCell ⟨P, 1, none⟩ (.slice N.ea N.ens.length N.ecap)).setCell ⟨P, 2, none⟩ (.slice N.qa N.qus.length N.qcap)).setCell ⟨R, 0, none⟩ (.slice N.fa N.frs.length N.fcap)).setCell ⟨R, 1, none⟩ (.slice N.ea N.ens.length N.ecap)).setCell ⟨R, 2, none⟩ (.slice N.qa N.qus.length N.qcap)).cell? ⟨R, 1, none⟩ = some (.slice N.ea N.ens.length N.ecap) ∧ (((((((w4).setCell ⟨P, 0, none⟩ (.slice N.fa N.frs.length N.fcap)).setCell ⟨P, 1, none⟩ (.slice N.ea N.ens.length N.ecap)).setCell ⟨P, 2, none⟩ (.slice N.qa N.qus.length N.qcap)).setCell ⟨R, 0, none⟩ (.slice N.fa N.frs.length N.fcap)).setCell ⟨R, 1, none⟩ (.slice N.ea N.ens.length N.ecap)).setCell ⟨R, 2, none⟩ (.slice N.qa N.qus.length N.qcap)).cell? ⟨R, 2, none⟩ = some (.slice N.qa N.qus.length N.qcap)) := blk3 ((far3 nRP).trans r0) ((far3 nRP).trans r1) ((far3 nRP).trans r2)))
  refine bodyPost_ret (by simp [results, Tryz.results38, go_sem, RC.out]; try rfl) rfl ?_
  have h4 := HW.out.2.trans (HB4.out.mono HW.out.2.size)
  have hp := hP.out
  have hr := hR.out
  have hw := HW.out.1
  obtain ⟨k1, k2⟩ := acted_end (w := w) (a := .slice N.fa N.frs.length N.fcap) (b := .slice N.ea N.ens.length N.ecap) (c := .slice N.qa N.qus.length N.qcap) (a' := .slice N.fa N.frs.length N.fcap) (b' := .slice N.ea N.ens.length N.ecap) (c' := .slice N.qa N.qus.length N.qcap) (P := P) (R := R) (HON.out.mono (Nat.zero_le _)) (fun q => by have := (Mine.fresh HON.out q).1; omega) (fun q => by have := (Mine.fresh HON.out q).1; omega) h4 (by omega) (by omega)
  exact ⟨N, rfl, HSN.out, k1, fun b hb => .inr (by have := (Mine.fresh HON.out hb).1; omega), k2⟩

set_option maxRecDepth 100000 in
set_option maxHeartbeats 4000000 in
theorem acted_peek {M : Mv} {w : World} (hO : Owned 0 w M) (hF : M.Fits) (ht : Tab w) (x : Ac) (hx : x.Ok) (hk : x.k = 6) :
    Calls Tryz.prog 38 #[M.val, .agg #[.int .i64 x.k, .int .i64 x.e, .int .i64 x.f, .int .i64 x.at_, .int .i64 x.r, .int .i64 x.n, .int .i64 x.fuel]] w (ActedSaid M x w) := by
  obtain ⟨W3, hW3⟩ : ∃ W3, Hid (W3 = ((w.alloc (.cells #[.slice M.fa M.frs.length M.fcap, .slice M.ea M.ens.length M.ecap, .slice M.qa M.qus.length M.qcap] 29)).alloc (.cells #[.int .i64 6, .int .i64 x.e, .int .i64 x.f, .int .i64 x.at_, .int .i64 x.r, .int .i64 x.n, .int .i64 x.fuel] 68)).alloc (.cells #[.slice none 0 0, .slice none 0 0, .slice none 0 0] 29)) := ⟨_, rfl⟩
  obtain ⟨b3, zP, zQ, zR, sz⟩ := three_objs w (.cells #[.slice M.fa M.frs.length M.fcap, .slice M.ea M.ens.length M.ecap, .slice M.qa M.qus.length M.qcap] 29) (.cells #[.int .i64 6, .int .i64 x.e, .int .i64 x.f, .int .i64 x.at_, .int .i64 x.r, .int .i64 x.n, .int .i64 x.fuel] 68) (.cells #[.slice none 0 0, .slice none 0 0, .slice none 0 0] 29)
  rw [← hW3.out] at b3 zP zQ zR sz
  have eN : outN M x = peekN M x.f x.at_ := by unfold outN; simp [hk]
  have eE : outE M x = wordF M x.f x.at_ := by unfold outE; simp [hk]
  have eM : outM M x = M := by unfold outM; simp [hk]
  unfold ActedSaid
  rw [eN, eE, eM]
  rw [hk]
  have HOM : Hid (Owned 0 w M) := hO
  have c1 := fun w' (hb : Below W3.heap.size W3 w') => peek_any M x.f x.at_ w' ((hO.below b3).below hb).at_
  obtain ⟨P, hP⟩ : ∃ P, Hid (P = w.heap.size) := ⟨_, rfl⟩
  obtain ⟨Q, hQ⟩ : ∃ Q, Hid (Q = w.heap.size + 1) := ⟨_, rfl⟩
  obtain ⟨R, hR⟩ : ∃ R, Hid (R = w.heap.size + 1 + 1) := ⟨_, rfl⟩
  have HW : Hid (W3.heap.size = w.heap.size + 3 ∧ Below w.heap.size w W3) := ⟨sz, b3⟩
  rw [← hP.out] at zP
  rw [← hQ.out] at zQ
  rw [← hR.out] at zR
  have HZ : Hid (W3.heap[P]? = some (.cells #[.slice M.fa M.frs.length M.fcap, .slice M.ea M.ens.length M.ecap, .slice M.qa M.qus.length M.qcap] 29) ∧ W3.heap[R]? = some (.cells #[.slice none 0 0, .slice none 0 0, .slice none 0 0] 29)) := ⟨zP, zR⟩
  have nPR : ¬ P = R := by have := hP.out; have := hR.out; omega
  have nRP : ¬ R = P := fun e => nPR e.symm
  have nQP : ¬ Q = P := by have := hP.out; have := hQ.out; omega
  have nQR : ¬ Q = R := by have := hR.out; have := hQ.out; omega
  clear hO hF ht hx b3 sz eN eE eM hk
  unfold Mv.val at c1 ⊢
  go_enter Tryz.func38, Tryz.ntmps38
  go_upto_region 1 with fail
  rw [← hW3.out, ← hR.out, ← hQ.out, ← hP.out]
  clear hW3
  have m0 : W3.cell? ⟨P, 0, none⟩ = some (.slice M.fa M.frs.length M.fcap) := by simp [World.cell?, zP]
  have m1 : W3.cell? ⟨P, 1, none⟩ = some (.slice M.ea M.ens.length M.ecap) := by simp [World.cell?, zP]
  have m2 : W3.cell? ⟨P, 2, none⟩ = some (.slice M.qa M.qus.length M.qcap) := by simp [World.cell?, zP]
  have a0 : W3.cell? ⟨Q, 0, none⟩ = some (.int .i64 6) := by simp [World.cell?, zQ]
  have a1 : W3.cell? ⟨Q, 1, none⟩ = some (.int .i64 x.e) := by simp [World.cell?, zQ]
  have a2 : W3.cell? ⟨Q, 2, none⟩ = some (.int .i64 x.f) := by simp [World.cell?, zQ]
  have a3 : W3.cell? ⟨Q, 3, none⟩ = some (.int .i64 x.at_) := by simp [World.cell?, zQ]
  have a4 : W3.cell? ⟨Q, 4, none⟩ = some (.int .i64 x.r) := by simp [World.cell?, zQ]
  have a5 : W3.cell? ⟨Q, 5, none⟩ = some (.int .i64 x.n) := by simp [World.cell?, zQ]
  have a6 : W3.cell? ⟨Q, 6, none⟩ = some (.int .i64 x.fuel) := by simp [World.cell?, zQ]
  have lP := lt_of_cell m0
  have lQ := lt_of_cell a0
  have lR := (Array.getElem?_eq_some_iff.1 zR).1
  clear zP zQ zR
  go_wp2_with (go_at_call 96; refine (c1 _ (by first | exact Below.refl _ _ | exact (Below.refl _ _).drew)).mono ?_; clear c1; rintro e w4 ⟨rfl, hb4⟩; (have HB4 : Hid (Below W3.heap.size W3 w4) := hb4); (have zP4 := (hb4.block P lP).trans HZ.out.1); (have zR4 := (hb4.block R lR).trans HZ.out.2); (have p0 : w4.cell? ⟨P, 0, none⟩ = some (.slice M.fa M.frs.length M.fcap) := by simp [World.cell?, zP4]); (have pf0 := frozen_of_block zP4 0); (have r0 : w4.cell? ⟨R, 0, none⟩ = some (.slice none 0 0) := by simp [World.cell?, zR4]); (have rf0 := frozen_of_block zR4 0); (have p1 : w4.cell? ⟨P, 1, none⟩ = some (.slice M.ea M.ens.length M.ecap) := by simp [World.cell?, zP4]); (have pf1 := frozen_of_block zP4 1); (have r1 : w4.cell? ⟨R, 1, none⟩ = some (.slice none 0 0) := by simp [World.cell?, zR4]); (have rf1 := frozen_of_block zR4 1); (have p2 : w4.cell? ⟨P, 2, none⟩ = some (.slice M.qa M.qus.length M.qcap) := by simp [World.cell?, zP4]); (have pf2 := frozen_of_block zP4 2); (have r2 : w4.cell? ⟨R, 2, none⟩ = some (.slice none 0 0) := by simp [World.cell?, zR4]); (have rf2 := frozen_of_block zR4 2); (have lp4 := lt_of_cell p0); (have lr4 := lt_of_cell r0); clear zP4 zR4 hb4; (have RC : Hid (((((w4).setCell ⟨R, 0, none⟩ (.slice M.fa M.frs.length M.fcap)).setCell ⟨R, 1, none⟩ (.slice M.ea M.ens.length M.ecap)).setCell ⟨R, 2, none⟩ (.slice M.qa M.qus.length M.qcap)).cell? ⟨R, 0, none⟩ = some (.slice M.fa M.frs.length M.fcap) ∧ ((((w4).setCell ⟨R, 0, none⟩ (.slice M.fa M.frs.length M.fcap)).setCell ⟨R, 1, none⟩ (.slice M.ea M.ens.length M.ecap)).setCell ⟨R, 2, none⟩ (.slice M.qa M.qus.length M.qcap)).cell? ⟨R, 1, none⟩ = some (.slice M.ea M.ens.length M.ecap) ∧ ((((w4).setCell ⟨R, 0, none⟩ (.slice M.fa M.frs.length M.fcap)).setCell ⟨R, 1, none⟩ (.slice M.ea M.ens.length M.ecap)).setCell ⟨R, 2, none⟩ (.slice M.qa M.qus.length M.qcap)).cell? ⟨R, 2, none⟩ = some (.slice M.qa M.qus.length M.qcap)) := blk3 r0 r1 r2))
  refine bodyPost_ret (by simp [results, Tryz.results38, go_sem, RC.out]; try rfl) rfl ?_
  have h4 := HW.out.2.trans (HB4.out.mono HW.out.2.size)
  have hp := hP.out
  have hr := hR.out
  obtain ⟨k1, k2⟩ := acted_end0 (w := w) (a' := .slice M.fa M.frs.length M.fcap) (b' := .slice M.ea M.ens.length M.ecap) (c' := .slice M.qa M.qus.length M.qcap) (R := R) (HOM.out.below h4) (fun q => by have := (Mine.fresh HOM.out q).2; omega) h4 (by omega)
  exact ⟨M, rfl, Mv.Same.refl _, k1, fun b hb => .inl hb, k2⟩

set_option maxRecDepth 100000 in
set_option maxHeartbeats 4000000 in
theorem acted_poke {M : Mv} {w : World} (hO : Owned 0 w M) (hF : M.Fits) (ht : Tab w) (x : Ac) (hx : x.Ok) (h1 : ¬ x.k = 1) (h2 : ¬ x.k = 2) (h4 : ¬ x.k = 4) (h5 : ¬ x.k = 5) (h6 : ¬ x.k = 6) :
    Calls Tryz.prog 38 #[M.val, .agg #[.int .i64 x.k, .int .i64 x.e, .int .i64 x.f, .int .i64 x.at_, .int .i64 x.r, .int .i64 x.n, .int .i64 x.fuel]] w (ActedSaid M x w) := by
  obtain ⟨W3, hW3⟩ : ∃ W3, Hid (W3 = ((w.alloc (.cells #[.slice M.fa M.frs.length M.fcap, .slice M.ea M.ens.length M.ecap, .slice M.qa M.qus.length M.qcap] 29)).alloc (.cells #[.int .i64 x.k, .int .i64 x.e, .int .i64 x.f, .int .i64 x.at_, .int .i64 x.r, .int .i64 x.n, .int .i64 x.fuel] 68)).alloc (.cells #[.slice none 0 0, .slice none 0 0, .slice none 0 0] 29)) := ⟨_, rfl⟩
  obtain ⟨b3, zP, zQ, zR, sz⟩ := three_objs w (.cells #[.slice M.fa M.frs.length M.fcap, .slice M.ea M.ens.length M.ecap, .slice M.qa M.qus.length M.qcap] 29) (.cells #[.int .i64 x.k, .int .i64 x.e, .int .i64 x.f, .int .i64 x.at_, .int .i64 x.r, .int .i64 x.n, .int .i64 x.fuel] 68) (.cells #[.slice none 0 0, .slice none 0 0, .slice none 0 0] 29)
  rw [← hW3.out] at b3 zP zQ zR sz
  have eN : outN M x = 0 := by unfold outN; rw [if_neg h1, if_neg h6]
  have eE : outE M x = pokeF M x.f x.at_ x.n := by unfold outE; rw [if_neg h1, if_neg h2, if_neg h4, if_neg h5, if_neg h6]
  have eM : outM M x = pokeM M x.f x.at_ x.n := by unfold outM; rw [if_neg h1, if_neg h2, if_neg h4, if_neg h5, if_neg h6]
  unfold ActedSaid
  rw [eN, eE, eM]
  have HOM : Hid (Owned 0 w M) := hO
  have c1 := fun w' (hb : Below W3.heap.size W3 w') => poke_any M x.f x.at_ x.n w' ((hO.below b3).below hb).at_ hF hx.wn
  obtain ⟨P, hP⟩ : ∃ P, Hid (P = w.heap.size) := ⟨_, rfl⟩
  obtain ⟨Q, hQ⟩ : ∃ Q, Hid (Q = w.heap.size + 1) := ⟨_, rfl⟩
  obtain ⟨R, hR⟩ : ∃ R, Hid (R = w.heap.size + 1 + 1) := ⟨_, rfl⟩
  have HW : Hid (W3.heap.size = w.heap.size + 3 ∧ Below w.heap.size w W3) := ⟨sz, b3⟩
  rw [← hP.out] at zP
  rw [← hQ.out] at zQ
  rw [← hR.out] at zR
  have HZ : Hid (W3.heap[P]? = some (.cells #[.slice M.fa M.frs.length M.fcap, .slice M.ea M.ens.length M.ecap, .slice M.qa M.qus.length M.qcap] 29) ∧ W3.heap[R]? = some (.cells #[.slice none 0 0, .slice none 0 0, .slice none 0 0] 29)) := ⟨zP, zR⟩
  have nPR : ¬ P = R := by have := hP.out; have := hR.out; omega
  have nRP : ¬ R = P := fun e => nPR e.symm
  have nQP : ¬ Q = P := by have := hP.out; have := hQ.out; omega
  have nQR : ¬ Q = R := by have := hR.out; have := hQ.out; omega
  clear hO hF ht hx b3 sz eN eE eM
  unfold Mv.val at c1 ⊢
  go_enter Tryz.func38, Tryz.ntmps38
  go_upto_region 1 with fail
  rw [← hW3.out, ← hR.out, ← hQ.out, ← hP.out]
  clear hW3
  have m0 : W3.cell? ⟨P, 0, none⟩ = some (.slice M.fa M.frs.length M.fcap) := by simp [World.cell?, zP]
  have m1 : W3.cell? ⟨P, 1, none⟩ = some (.slice M.ea M.ens.length M.ecap) := by simp [World.cell?, zP]
  have m2 : W3.cell? ⟨P, 2, none⟩ = some (.slice M.qa M.qus.length M.qcap) := by simp [World.cell?, zP]
  have a0 : W3.cell? ⟨Q, 0, none⟩ = some (.int .i64 x.k) := by simp [World.cell?, zQ]
  have a1 : W3.cell? ⟨Q, 1, none⟩ = some (.int .i64 x.e) := by simp [World.cell?, zQ]
  have a2 : W3.cell? ⟨Q, 2, none⟩ = some (.int .i64 x.f) := by simp [World.cell?, zQ]
  have a3 : W3.cell? ⟨Q, 3, none⟩ = some (.int .i64 x.at_) := by simp [World.cell?, zQ]
  have a4 : W3.cell? ⟨Q, 4, none⟩ = some (.int .i64 x.r) := by simp [World.cell?, zQ]
  have a5 : W3.cell? ⟨Q, 5, none⟩ = some (.int .i64 x.n) := by simp [World.cell?, zQ]
  have a6 : W3.cell? ⟨Q, 6, none⟩ = some (.int .i64 x.fuel) := by simp [World.cell?, zQ]
  have lP := lt_of_cell m0
  have lQ := lt_of_cell a0
  have lR := (Array.getElem?_eq_some_iff.1 zR).1
  clear zP zQ zR
  have t1 : (x.k == 1) = false := by simpa using h1
  have t2 : (x.k == 2) = false := by simpa using h2
  have t4 : (x.k == 4) = false := by simpa using h4
  have t5 : (x.k == 5) = false := by simpa using h5
  have t6 : (x.k == 6) = false := by simpa using h6
  go_wp2_with (go_at_call 97; refine (c1 _ (by first | exact Below.refl _ _ | exact (Below.refl _ _).drew)).mono ?_; clear c1; rintro e w4 ⟨N, rfl, hS, hON, hb4⟩; (have HB4 : Hid (Below W3.heap.size W3 w4) := hb4); (have zP4 := (hb4.block P lP).trans HZ.out.1); (have zR4 := (hb4.block R lR).trans HZ.out.2); (have HSN : Hid (_) := hS); (have HON : Hid (Owned W3.heap.size w4 N) := hON); (have p0 : w4.cell? ⟨P, 0, none⟩ = some (.slice M.fa M.frs.length M.fcap) := by simp [World.cell?, zP4]); (have pf0 := frozen_of_block zP4 0); (have r0 : w4.cell? ⟨R, 0, none⟩ = some (.slice none 0 0) := by simp [World.cell?, zR4]); (have rf0 := frozen_of_block zR4 0); (have p1 : w4.cell? ⟨P, 1, none⟩ = some (.slice M.ea M.ens.length M.ecap) := by simp [World.cell?, zP4]); (have pf1 := frozen_of_block zP4 1); (have r1 : w4.cell? ⟨R, 1, none⟩ = some (.slice none 0 0) := by simp [World.cell?, zR4]); (have rf1 := frozen_of_block zR4 1); (have p2 : w4.cell? ⟨P, 2, none⟩ = some (.slice M.qa M.qus.length M.qcap) := by simp [World.cell?, zP4]); (have pf2 := frozen_of_block zP4 2); (have r2 : w4.cell? ⟨R, 2, none⟩ = some (.slice none 0 0) := by simp [World.cell?, zR4]); (have rf2 := frozen_of_block zR4 2); (have lp4 := lt_of_cell p0); (have lr4 := lt_of_cell r0); clear zP4 zR4 hb4 hS hON; (have RC : Hid ((((((((w4).setCell ⟨P, 0, none⟩ (.slice N.fa N.frs.length N.fcap)).setCell ⟨P, 1, none⟩ (.slice N.ea N.ens.length N.ecap)).setCell ⟨P, 2, none⟩ (.slice N.qa N.qus.length N.qcap)).setCell ⟨R, 0, none⟩ (.slice N.fa N.frs.length N.fcap)).setCell ⟨R, 1, none⟩ (.slice N.ea N.ens.length N.ecap)).setCell ⟨R, 2, none⟩ (.slice N.qa N.qus.length N.qcap)).cell? ⟨R, 0, none⟩ = some (.slice N.fa N.frs.length N.fcap) ∧ (((((((w4).setCell ⟨P, 0, none⟩ (.slice N.fa N.frs.length N.fcap)).setCell ⟨P, 1, none⟩ (.slice N.ea N.ens.length N.ecap)).setCell ⟨P, 2, none⟩ (.slice N.qa N.qus.length N.qcap)).setCell ⟨R, 0, none⟩ (.slice N.fa N.frs.length N.fcap)).setCell ⟨R, 1, none⟩ (.slice N.ea N.ens.length N.ecap)).setCell ⟨R, 2, none⟩ (.slice N.qa N.qus.length N.qcap)).cell? ⟨R, 1, none⟩ = some (.slice N.ea N.ens.length N.ecap) ∧ (((((((w4).setCell ⟨P, 0, none⟩ (.slice N.fa N.frs.length N.fcap)).setCell ⟨P, 1, none⟩ (.slice N.ea N.ens.length N.ecap)).setCell ⟨P, 2, none⟩ (.slice N.qa N.qus.length N.qcap)).setCell ⟨R, 0, none⟩ (.slice N.fa N.frs.length N.fcap)).setCell ⟨R, 1, none⟩ (.slice N.ea N.ens.length N.ecap)).setCell ⟨R, 2, none⟩ (.slice N.qa N.qus.length N.qcap)).cell? ⟨R, 2, none⟩ = some (.slice N.qa N.qus.length N.qcap)) := blk3 ((far3 nRP).trans r0) ((far3 nRP).trans r1) ((far3 nRP).trans r2)))
  refine bodyPost_ret (by simp [results, Tryz.results38, go_sem, RC.out]; try rfl) rfl ?_
  have h4 := HW.out.2.trans (HB4.out.mono HW.out.2.size)
  have hp := hP.out
  have hr := hR.out
  have hw := HW.out.1
  obtain ⟨k1, k2⟩ := acted_end (w := w) (a := .slice N.fa N.frs.length N.fcap) (b := .slice N.ea N.ens.length N.ecap) (c := .slice N.qa N.qus.length N.qcap) (a' := .slice N.fa N.frs.length N.fcap) (b' := .slice N.ea N.ens.length N.ecap) (c' := .slice N.qa N.qus.length N.qcap) (P := P) (R := R) (HON.out.mono (Nat.zero_le _)) (fun q => by have := (Mine.fresh HON.out q).1; omega) (fun q => by have := (Mine.fresh HON.out q).1; omega) h4 (by omega) (by omega)
  exact ⟨N, rfl, HSN.out, k1, fun b hb => .inr (by have := (Mine.fresh HON.out hb).1; omega), k2⟩

theorem acted_any {M : Mv} {w : World} (hO : Owned 0 w M) (hF : M.Fits) (ht : Tab w) (x : Ac) (hx : x.Ok) :
    Calls Tryz.prog 38 #[M.val, .agg #[.int .i64 x.k, .int .i64 x.e, .int .i64 x.f, .int .i64 x.at_, .int .i64 x.r, .int .i64 x.n, .int .i64 x.fuel]] w (ActedSaid M x w) := by
  by_cases h1 : x.k = 1
  · exact acted_create hO hF ht x hx h1
  · by_cases h2 : x.k = 2
    · exact acted_put hO hF ht x hx h2
    · by_cases h4 : x.k = 4
      · exact acted_start hO hF ht x hx h4
      · by_cases h5 : x.k = 5
        · exact acted_remove hO hF ht x hx h5
        · by_cases h6 : x.k = 6
          · exact acted_peek hO hF ht x hx h6
          · exact acted_poke hO hF ht x hx h1 h2 h4 h5 h6

end Go.Proofs.YtdngbojbpmdegaaGreatDoor
