/-
  What the call Look (trust) answers: the nonce is back, or what is refused, in memory of its own; it turns nothing that was in memory. The condition: the lists are within the reach of the form.
-/
import Derived.Test.YtdbbiibnhgcndaaLookChk
namespace Go.Proofs.Ytdbbiibnhgcndaa
open Go.RowKit

/-- what the boxes of Look hold behind a call that makes memory -/
theorem boxes_look {w w1 : World} {c0 c1 l d : Value} {t0 t1 t2 : TypeId} (hb : Below (((w.alloc (.cells #[c0, c1] t0)).alloc (.cells #[l, d] t1)).alloc (.cells #[.slice none 0 0, .slice none 0 0] t2)).heap.size (((w.alloc (.cells #[c0, c1] t0)).alloc (.cells #[l, d] t1)).alloc (.cells #[.slice none 0 0, .slice none 0 0] t2)) w1) :
    w1.cell? ⟨w.heap.size, 0, none⟩ = some c0 ∧ w1.cell? ⟨w.heap.size, 1, none⟩ = some c1 ∧ w1.cell? ⟨w.heap.size + 1, 0, none⟩ = some l ∧ w1.cell? ⟨w.heap.size + 1, 1, none⟩ = some d ∧
      w1.cell? ⟨w.heap.size + 1 + 1, 0, none⟩ = some (.slice none 0 0) ∧ w1.cell? ⟨w.heap.size + 1 + 1, 1, none⟩ = some (.slice none 0 0) ∧ (∀ o, w1.frozen? ⟨w.heap.size + 1 + 1, o, none⟩ = false) ∧ w.heap.size + 1 + 1 < w1.heap.size := by
  refine ⟨(hb.cell (p := ⟨w.heap.size, 0, none⟩) (by first | (simp; done) | (simp; omega))).trans ?_, (hb.cell (p := ⟨w.heap.size, 1, none⟩) (by first | (simp; done) | (simp; omega))).trans ?_, (hb.cell (p := ⟨w.heap.size + 1, 0, none⟩) (by first | (simp; done) | (simp; omega))).trans ?_, (hb.cell (p := ⟨w.heap.size + 1, 1, none⟩) (by first | (simp; done) | (simp; omega))).trans ?_, (hb.cell (p := ⟨w.heap.size + 1 + 1, 0, none⟩) (by simp)).trans ?_, (hb.cell (p := ⟨w.heap.size + 1 + 1, 1, none⟩) (by simp)).trans ?_,
    fun o => (hb.frozen (p := ⟨w.heap.size + 1 + 1, o, none⟩) (by simp)).trans (World.frozen?_alloc_at _ _ _ _ (by simp)), by have := hb.size; simp at this; omega⟩
  · rw [World.cell?_alloc_past _ _ _ (by first | (simp; done) | (simp; omega)), World.cell?_alloc_past _ _ _ (by simp), World.cell?_alloc_at _ _ _ _ rfl]; rfl
  · rw [World.cell?_alloc_past _ _ _ (by first | (simp; done) | (simp; omega)), World.cell?_alloc_past _ _ _ (by simp), World.cell?_alloc_at _ _ _ _ rfl]; rfl
  · rw [World.cell?_alloc_past _ _ _ (by simp), World.cell?_alloc_at _ _ _ _ (by simp)]; rfl
  · rw [World.cell?_alloc_past _ _ _ (by simp), World.cell?_alloc_at _ _ _ _ (by simp)]; rfl
  · rw [World.cell?_alloc_at _ _ _ _ (by simp)]; rfl
  · rw [World.cell?_alloc_at _ _ _ _ (by simp)]; rfl
/-- the last stores: a copy in a variable, its nonce, the answer -/
theorem look_end {w1 w2 : World} {N : Cv} {g m R : Nat} (hO : COwn w1.heap.size w2 N) (hna : N.na = some ⟨g, 0, none⟩) (hm : m < N.ns.length) (hRlt : R < w1.heap.size) {ob : Obj} {v0 v1 x0 x1 : Value}
    (r0 : w2.cell? ⟨R, 0, none⟩ = some x0) (r1 : w2.cell? ⟨R, 1, none⟩ = some x1) {w : World} (hR : w.heap.size ≤ R) (hb : Below w.heap.size w w2) {V9 : World} (h9 : V9 = ((((w2.setCell ⟨g, m, none⟩ (.int .i64 1)).setCell ⟨R, 0, none⟩ v0).setCell ⟨R, 1, none⟩ v1).alloc ob)) :
    V9.cell? ⟨R, 0, none⟩ = some v0 ∧ V9.cell? ⟨R, 1, none⟩ = some v1 ∧ COwn w1.heap.size V9 { N with ns := N.ns.set m 1 } ∧ Below w.heap.size w V9 := by
  have lN := ownsRow_block hO.ns g 0 none hna
  have lT := ownsRow_block hO.tr
  have hO2 := hO.setN hna hm (n := 1) (by decide)
  rw [Nat.zero_add] at hO2
  have q0 : (w2.setCell ⟨g, m, none⟩ (.int .i64 1)).cell? ⟨R, 0, none⟩ = some x0 := by
    rw [World.cell?_setCell_other _ _ _ _ (by intro q; simp only [Addr.mk.injEq] at q; have := lN.1; omega)]; exact r0
  have q1 : (w2.setCell ⟨g, m, none⟩ (.int .i64 1)).cell? ⟨R, 1, none⟩ = some x1 := by
    rw [World.cell?_setCell_other _ _ _ _ (by intro q; simp only [Addr.mk.injEq] at q; have := lN.1; omega)]; exact r1
  obtain ⟨k0, k1⟩ := blk2 (v0 := v0) (v1 := v1) q0 q1
  have sz : (((w2.setCell ⟨g, m, none⟩ (.int .i64 1)).setCell ⟨R, 0, none⟩ v0).setCell ⟨R, 1, none⟩ v1).heap.size = w2.heap.size := by simp [World.setCell]
  have K0 : V9.cell? ⟨R, 0, none⟩ = some v0 := by rw [h9, World.cell?_alloc_past _ _ _ (by omega)]; exact k0
  have K1 : V9.cell? ⟨R, 1, none⟩ = some v1 := by rw [h9, World.cell?_alloc_past _ _ _ (by omega)]; exact k1
  have H9 : ∀ b, b ≠ R → b < w2.heap.size → V9.heap[b]? = (w2.setCell ⟨g, m, none⟩ (.int .i64 1)).heap[b]? := fun b hb hl => by rw [h9, Below.heap_alloc _ _ _ (by omega), Below.heap_setCell _ _ _ _ hb, Below.heap_setCell _ _ _ _ hb]
  refine ⟨K0, K1, ⟨ownsRow_keep hO2.tr fun b o s e => H9 b (by have := (lT b o s e).1; omega) (lT b o s e).2.1, ownsRow_keep hO2.ns fun b o s e => ?_, hO2.off, hO2.ok⟩, ?_⟩
  · dsimp only at e
    rw [hna] at e
    simp only [Option.some.injEq, Addr.mk.injEq] at e
    have := lN.1
    have := lN.2.1
    exact H9 b (by omega) (by omega)
  · rw [h9]
    exact (((hb.setCell (by have := lN.1; dsimp only; omega) _).setCell hR _).setCell hR _).alloc (by rw [sz]; exact hb.size) _

set_option maxRecDepth 100000 in
set_option maxHeartbeats 4000000 in
theorem look_any (C : Cv) (ma : Option Addr) (made : List Qu) (mcap : Nat) (q : Qu) (w : World) (hC : ChalAt w C) (hF : C.Fits) (hml : made.length ≤ maxLen) (hm : RowsAt w 2 Qu.cells ma made) (hq : q.Ok) :
    Calls Try.prog 56 #[C.val, .slice ma made.length mcap, .agg #[.string q.log, .int .i64 q.data]] w fun x w' => ∃ N : Cv, x = .returned (.tuple #[N.val, .int .i64 (lookE C made q)]) ∧ N.Same (lookC C made q) ∧ COwn w.heap.size w' N ∧ Below w.heap.size w w' := by
  have h1 := fun w' (h : Below w.heap.size w w') => checkQuote_any C ma made mcap q w' (hC.below h) hml (RowsAt.below (cells := Qu.cells) (fun _ => rfl) hm h) hq
  have h2 := fun w' (h : Below w.heap.size w w') => copyC_any C w' (hC.below h) hF
  have HZ : Hid (lookE C made q = 0 → 1 ≤ q.data ∧ q.data ≤ (C.ns.length : Int)) := fun h => (lookE_zero h).2
  unfold lookC backC
  obtain ⟨E, hE⟩ : ∃ E, Hid (lookE C made q = E) := ⟨_, rfl⟩
  rw [hE.out] at HZ h1 ⊢
  have hl := hC.ok.nsl
  unfold maxLen at hl
  unfold Cv.val at *
  obtain ⟨ta, tr, tcap, na, ns, ncap⟩ := C
  obtain ⟨ql, qd⟩ := q
  dsimp only at *
  clear hC hm hE hq
  have B3 : ∀ o1 o2 o3, Hid (Below w.heap.size w (((w.alloc o1).alloc o2).alloc o3)) := fun o1 o2 o3 => a3B _ _ _ _
  have HX : ∀ o1 o2 o3 w1, Hid (Below (((w.alloc o1).alloc o2).alloc o3).heap.size (((w.alloc o1).alloc o2).alloc o3) w1 → Below w.heap.size w w1) := fun o1 o2 o3 w1 h => (B3 o1 o2 o3).out.trans (h.mono (by first | (simp; done) | (simp; omega)))
  by_cases hz : E = 0
  · subst hz
    obtain ⟨z1, z2⟩ := HZ.out rfl
    clear HZ
    rw [if_pos rfl]
    obtain ⟨m, rfl⟩ : ∃ m : Nat, qd = (m : Int) + 1 := ⟨(qd - 1).toNat, by omega⟩
    rw [show ((m : Int) + 1 - 1).toNat = m by omega]
    have HMN : Hid (m < ns.length) := by show m < _; omega
    have hwm : IntKind.i64.wrap ((m : Int) + 1 - 1) = (m : Int) := by rw [IntKind.wrap_i64]; omega
    clear z1 z2
    go_enter Try.func56, Try.ntmps56
    go_wp2_with (first
      | (go_at_call 88; refine (h1 _ (B3 _ _ _).out).mono ?_; rintro x w1 ⟨rfl, hb1⟩; obtain ⟨m0, m1, u0, u1, r0, r1, rf, rl⟩ := boxes_look hb1; have HB1 : Hid (Below w.heap.size w w1) := (HX _ _ _ _).out hb1; clear hb1)
      | (go_at_call 51; refine (h2 _ HB1.out).mono ?_; rintro x w2 ⟨N, rfl, hS, hO, hb2⟩; obtain ⟨nta, ntr, ntcap, nna, nns, nncap⟩ := N
         obtain ⟨eT, eN⟩ := hS
         dsimp only at eT eN
         subst eT eN
         obtain ⟨g, cp, hv, hg1, hg2⟩ := hO.ns.form (by dsimp only; have := HMN.out; omega)
         simp only [Value.slice.injEq] at hv
         obtain ⟨hv1, _, hv3⟩ := hv
         subst hv1 hv3
         have HON : Hid (_) := hO
         have HB2 : Hid (_) := hb2
         have nlt : (m : Int) < (nns.length : Int) := by have := HMN.out; omega
         have g0 : ∃ y, w2.cell? ⟨g, m, none⟩ = some y := by
           have := hO.at_.ns
           rcases this with e | ⟨b, off, e, hc⟩
           · dsimp only at e; have := HMN.out; rw [e] at this; simp at this
           · simp only [Option.some.injEq, Addr.mk.injEq, and_true] at e
             obtain ⟨rfl, rfl⟩ := e
             have := hc m HMN.out
             rw [Nat.zero_add] at this
             exact ⟨_, this⟩
         obtain ⟨y, g0⟩ := g0
         have gf : w2.frozen? ⟨g, m, none⟩ = false := (ownsRow_block hO.ns g 0 none rfl).2.2 m
         have R0 : w2.cell? ⟨w.heap.size + 1 + 1, 0, none⟩ = some (.slice none 0 0) := (hb2.cell (p := ⟨w.heap.size + 1 + 1, 0, none⟩) rl).trans r0
         have R1 : w2.cell? ⟨w.heap.size + 1 + 1, 1, none⟩ = some (.slice none 0 0) := (hb2.cell (p := ⟨w.heap.size + 1 + 1, 1, none⟩) rl).trans r1
         have RF0 : w2.frozen? ⟨w.heap.size + 1 + 1, 0, none⟩ = false := (hb2.frozen (p := ⟨w.heap.size + 1 + 1, 0, none⟩) rl).trans (rf 0)
         have RF1 : w2.frozen? ⟨w.heap.size + 1 + 1, 1, none⟩ = false := (hb2.frozen (p := ⟨w.heap.size + 1 + 1, 1, none⟩) rl).trans (rf 1)
         have U1 : w2.cell? ⟨w.heap.size + 1, 1, none⟩ = some (.int .i64 ((m : Int) + 1)) := (hb2.cell (p := ⟨w.heap.size + 1, 1, none⟩) (by dsimp only; omega)).trans u1
         have RL : w.heap.size + 1 + 1 < w2.heap.size := lt_of_cell R0
         have UL : w.heap.size + 1 < w2.heap.size := lt_of_cell U1
         have hgl : g < w2.heap.size := hg2
         have hgne : g ≠ w.heap.size + 1 + 1 := by omega
         have hgne' : g ≠ w2.heap.size := by omega
         clear hO hb2 m0 m1 u0 u1 r0 r1 rf hg1 hg2; dsimp only)
      | fail)
    refine bp_gen fun V9 hV9 => ?_
    obtain ⟨k0, k1, hO9, hB9⟩ := look_end HON.out rfl HMN.out (by have := HB1.out.size; omega) R0 R1 (by omega) (HB1.out.trans (HB2.out.mono HB1.out.size)) hV9
    clear hV9
    (try simp only [Exit.inBlock, Exit.then])
    refine bodyPost_ret (by simp [results, Try.results56, go_sem, k0, k1]; try rfl) rfl ?_
    exact ⟨⟨nta, ntr, ntcap, some ⟨g, 0, none⟩, nns.set m 1, nncap⟩, by simp, ⟨rfl, rfl⟩, hO9.mono HB1.out.size, hB9⟩
  · have hz1 : (E != 0) = true := by simpa using hz
    rw [if_neg hz]
    clear hz h2 HZ
    go_enter Try.func56, Try.ntmps56
    go_wp2_with (go_at_call 88; refine (h1 _ (B3 _ _ _).out).mono ?_; rintro x w1 ⟨rfl, hb1⟩; obtain ⟨m0, m1, u0, u1, r0, r1, rf, rl⟩ := boxes_look hb1; have HB1 : Hid (Below w.heap.size w w1) := (HX _ _ _ _).out hb1; have rf0 := rf 0; have rf1 := rf 1; clear hb1)
    obtain ⟨k0, k1⟩ := blk2 (v0 := .slice none 0 0) (v1 := .slice none 0 0) r0 r1
    (try simp only [Exit.inBlock, Exit.then])
    refine bodyPost_ret (by simp [results, Try.results56, go_sem, k0, k1]; try rfl) rfl ?_
    exact ⟨noC, rfl, Cv.Same.refl _, noC_own _ _, (HB1.out.setCell (by dsimp only; omega) _).setCell (by dsimp only; omega) _⟩

end Go.Proofs.Ytdbbiibnhgcndaa
