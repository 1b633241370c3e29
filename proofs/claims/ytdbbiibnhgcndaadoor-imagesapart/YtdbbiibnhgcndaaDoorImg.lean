/-
  Lists of pages that a call itself makes (own work): page behind page, each with its words in memory of integers; and that such a list, its places from 0 on, is an image that may be. No condition.
-/
import Derived.Test.YtdbbiibnhgcndaaDoorCode
namespace Go.Proofs.YtdbbiibnhgcndaaDoor
open Go.RowKit
set_option maxRecDepth 100000

def Pg.cells (p : Pg) : List Value := [.int .i64 p.at_, .int .i64 p.r, .slice p.a p.ws.length p.cap]
def rowP (l : List Pg) : List Value := l.flatMap Pg.cells
theorem rowP_append (a b : List Pg) : rowP (a ++ b) = rowP a ++ rowP b := by simp [rowP]
theorem rowP_one (x : Pg) : rowP [x] = x.cells := by simp [rowP]
theorem pcells_one (x : Pg) : ∀ u ∈ rowP [x], u.oneCell' = true := by
  intro u hu
  rw [rowP_one] at hu
  simp [Pg.cells] at hu
  rcases hu with rfl | rfl | rfl <;> rfl
theorem page_info : (Tryd.prog.info? 44).map (fun i => (i.zero, i.size, i.bytes)) = some (some (.agg #[.int .i64 0, .int .i64 0, .slice none 0 0]), 3, 40) := by kernel_rfl
def OwnsP (w : World) (B : Nat) (v : Value) (l : List Pg) : Prop := w.ownsRow B 44 3 v l.length (rowP l)
theorem page_cells (w : World) (x : Pg) : ∀ j u, (rowP [x])[j]? = some u → (w.alloc (.cells #[.int .i64 x.at_, .int .i64 x.r, .slice x.a x.ws.length x.cap] 44)).cell? ((⟨w.heap.size, 0, none⟩ : Addr).add j) = some u := by
  intro j u hj
  rw [add_at, World.cell?_alloc_at _ _ _ _ rfl]
  rw [rowP_one] at hj
  simpa [Pg.cells] using hj

/-- a page whose eight words lie in a block of integers -/
structure WordsAt (w : World) (p : Pg) : Prop where
  at_ : ∃ g off c fr, p.a = some ⟨g, off, none⟩ ∧ w.heap[g]? = some (.cells c 3 fr) ∧ ∀ j, j < p.ws.length → w.cell? ⟨g, off + j, none⟩ = some (.int .i64 (p.ws.getD j 0))
  len : p.ws.length = 8
  small : Small16 p.ws
theorem WordsAt.block {w w' : World} {p : Pg} (h : WordsAt w p) (hb : ∀ (g : Nat) (c : Array Value) (fr : Nat × Nat), w.heap[g]? = some (Obj.cells c 3 fr) → w'.heap[g]? = w.heap[g]?) : WordsAt w' p := by
  obtain ⟨g, off, c, fr, h1, h2, h3⟩ := h.at_
  exact ⟨⟨g, off, c, fr, h1, (hb g c fr h2).trans h2, fun j hj => (World.cell?_of_block (w := w) (hb g c fr h2)).trans (h3 j hj)⟩, h.len, h.small⟩
theorem lt_of_block {w : World} {g : Nat} {o : Obj} (h : w.heap[g]? = some o) : g < w.heap.size := by
  obtain ⟨hlt, _⟩ := Array.getElem?_eq_some_iff.1 h
  exact hlt
theorem WordsAt.below {w w' : World} {p : Pg} (h : WordsAt w p) (hb : Below w.heap.size w w') : WordsAt w' p := h.block fun g _ _ e => hb.block g (lt_of_block e)
theorem WordsAt.ok {w : World} {p : Pg} (h : WordsAt w p) (h1 : (Lit.int .i64 p.at_).wf = true) (h2 : (Lit.int .i64 p.r).wf = true) : p.Ok w := by
  obtain ⟨g, off, c, fr, e1, e2, e3⟩ := h.at_
  exact ⟨h1, h2, by rw [h.len]; unfold maxLen; omega, .inr ⟨g, off, e1, e3⟩, fun n hn => wf_of (h.small n hn)⟩

/-- a list of pages that the call has made -/
structure ImgAt (w : World) (B : Nat) (v : Value) (ps : List Pg) : Prop where
  own : OwnsP w B v ps
  words : ∀ p ∈ ps, WordsAt w p
theorem ownsP_below {w w' : World} {B : Nat} {v : Value} {l : List Pg} (h : OwnsP w B v l) (hb : Below w.heap.size w w') : OwnsP w' B v l :=
  h.kept (row := none) ⟨hb.os, hb.tape, hb.output, hb.size, fun k hk _ => hb.block k hk⟩ (by cases hv : v.ownBlock <;> simp)
theorem ImgAt.below {w w' : World} {B : Nat} {v : Value} {l : List Pg} (h : ImgAt w B v l) (hb : Below w.heap.size w w') : ImgAt w' B v l :=
  ⟨ownsP_below h.own hb, fun p hp => (h.words p hp).below hb⟩
theorem ImgAt.alloc {w : World} {B : Nat} {v : Value} {l : List Pg} (h : ImgAt w B v l) (o : Obj) : ImgAt (w.alloc o) B v l := h.below ((Below.refl _ _).alloc (Nat.le_refl _) o)
theorem img_next {w0 w1 w2 : World} {B : Nat} {v v' : Value} {l : List Pg} {p : Pg} {o : Obj} (h : ImgAt w1 B v l) (hp : WordsAt w1 p) (hown' : w2.ownsRow B 44 3 v' (l.length + 1) (rowP l ++ rowP [p])) (hgrow : (w1.alloc o).grownBy w2 v.ownBlock) (hb : Below B w0 w1) (hB : B ≤ w1.heap.size) :
    ImgAt w2 B v' (l ++ [p]) ∧ Below B w0 w2 ∧ B ≤ w2.heap.size := by
  have hs := hgrow.size
  have key : ∀ (g : Nat) (c : Array Value) (fr : Nat × Nat), w1.heap[g]? = some (Obj.cells c 3 fr) → w2.heap[g]? = w1.heap[g]? := fun g c fr e => by
    have hlt := lt_of_block e
    have hne : some g ≠ v.ownBlock := fun e2 => by
      rcases h.own.2 with ⟨hv, _⟩ | ⟨g', cap, cur, hv, _, hg, _⟩
      · rw [hv] at e2; simp [Value.ownBlock] at e2
      · rw [hv] at e2
        simp [Value.ownBlock] at e2
        subst e2
        rw [e] at hg
        simp at hg
    rw [hgrow.block g (by simp; omega) hne, Below.heap_alloc _ _ _ hlt]
  refine ⟨⟨by unfold OwnsP; rw [List.length_append, rowP_append]; exact hown', fun q hq => ?_⟩, (hb.alloc hB o).grown hgrow (by simp; omega) (fun k hk => (h.own.lt k hk).1), by simp at hs; omega⟩
  rcases List.mem_append.1 hq with hq | hq
  · exact (h.words q hq).block key
  · simp at hq; subst hq; exact hp.block key

theorem rowP_get : ∀ (l : List Pg) (j i : Nat), j < l.length → i < 3 → (rowP l)[j * 3 + i]? = (l.getD j default).cells[i]?
  | [], j, i, h, _ => by simp at h
  | x :: l, 0, i, _, hi => by
    simp only [rowP, List.flatMap_cons, Nat.zero_mul, Nat.zero_add]
    rw [List.getElem?_append_left (by simp [Pg.cells]; omega)]
    rfl
  | x :: l, j + 1, i, h, hi => by
    simp only [rowP, List.flatMap_cons]
    rw [List.getElem?_append_right (by simp [Pg.cells]; omega)]
    have : (j + 1) * 3 + i - x.cells.length = j * 3 + i := by simp [Pg.cells]; omega
    rw [this]
    have := rowP_get l j i (by simp at h; omega) hi
    simpa [rowP] using this
theorem img_pages {w : World} {B : Nat} {v : Value} {l : List Pg} (h : ImgAt w B v l) (hf : ∀ p ∈ l, p.f = 0) : ∃ a cap, v = .slice a l.length cap ∧ PagesAt w a l := by
  have hok : ∀ j, j < l.length → (l.getD j default).Ok w := fun j hj => by
    have hm : l.getD j default ∈ l := by simp [List.getD_eq_getElem?_getD, hj]
    obtain ⟨q1, q2, _⟩ := Pg.f_zero (hf _ hm)
    have b1 := inB_iff.1 q1
    have b2 := inB_iff.1 q2
    exact (h.words _ hm).ok (wf_of (by omega)) (wf_of (by omega))
  rcases h.own.2 with ⟨hv, h0⟩ | ⟨g, cap, cur, hv, _, hg, hc, _, hs, ht⟩
  · exact ⟨none, 0, by rw [hv, h0], ⟨.inl (List.eq_nil_of_length_eq_zero h0), hok⟩⟩
  · refine ⟨_, cap, hv, ⟨.inr ⟨g, 0, rfl, fun j hj => ?_⟩, hok⟩⟩
    have key : ∀ i, i < 3 → w.cell? ⟨g, j * 3 + i, none⟩ = (l.getD j default).cells[i]? := fun i hi => by
      have e := rowP_get l j i hj hi
      rw [← ht, List.getElem?_take_of_lt (by omega)] at e
      simpa [World.cell?, hg] using e
    simp only [Nat.zero_add]
    exact ⟨key 0 (by omega), key 1 (by omega), key 2 (by omega)⟩

/-- the places go from 0 on -/
def Placed (ps : List Pg) : Prop := ∀ j, j < ps.length → (ps.getD j default).at_ = (j : Int) ∧ (ps.getD j default).f = 0
theorem placed_snoc {ps : List Pg} {p : Pg} (h : Placed ps) (h1 : p.at_ = (ps.length : Int)) (h2 : p.f = 0) : Placed (ps ++ [p]) := fun j hj => by
  by_cases e : j < ps.length
  · have : (ps ++ [p]).getD j default = ps.getD j default := by simp [List.getD_eq_getElem?_getD, List.getElem?_append_left e]
    rw [this]; exact h j e
  · have hj' : j = ps.length := by simp at hj; omega
    subst hj'
    have : (ps ++ [p]).getD ps.length default = p := by simp [List.getD_eq_getElem?_getD]
    rw [this]; exact ⟨h1, h2⟩
theorem placed_all {ps : List Pg} (h : Placed ps) : ∀ p ∈ ps, p.f = 0 := fun p hp => by
  obtain ⟨i, hi, rfl⟩ := List.getElem_of_mem hp
  have := (h i hi).2
  simpa [List.getD_eq_getElem?_getD, hi] using this
theorem placed_some : ∀ (ps : List Pg) (q : Int), (∀ j, j < ps.length → (ps.getD j default).at_ = q + 1 + (j : Int) ∧ (ps.getD j default).f = 0) → imgF (some q) ps = 0
  | [], q, _ => rfl
  | p :: l, q, h => by
    have h0 := h 0 (by simp)
    simp at h0
    have hn : ¬ p.at_ ≤ q := by omega
    simp only [imgF, if_pos h0.2, if_neg hn]
    apply placed_some l
    intro j hj
    have := h (j + 1) (by simp; omega)
    simp at this ⊢
    exact ⟨by omega, this.2⟩
theorem placed_image {ps : List Pg} (h : Placed ps) : imageF ps = 0 := by
  unfold imageF
  cases ps with
  | nil => rfl
  | cons p l =>
    have h0 := h 0 (by simp)
    simp at h0
    simp only [imgF, if_pos h0.2]
    apply placed_some l
    intro j hj
    have := h (j + 1) (by simp; omega)
    simp at this ⊢
    exact ⟨by omega, this.2⟩

end Go.Proofs.YtdbbiibnhgcndaaDoor
