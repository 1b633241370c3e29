/-
  How an argument that is a page, or a list of pages, is read out of memory (own work): for every such reading there are its numbers, its words, and their cells. No condition.
-/
import Derived.Test.YtdbbiibnhgcndaaDoorOpenCells
import Derived.Lib.SmallJoins
import Derived.Deep.Slices
import Derived.Deep.Strs
import Derived.SizedLaws
namespace Go.Proofs.YtdbbiibnhgcndaaDoor
open Go.ChangeShapes Go.WideShapes Go.ChangeAt Go.RowKit Go.Joins
set_option maxRecDepth 100000

theorem open_page {H : Type} {enc : TypeId × Value → H} {W : World} {r : Reach} {b0 base : Nat} {sp : Nat → Bool} {full : Bool} {v : Value} {d : DataW H} {p : List MemPlace}
    (hv : Value.okWide Tryd.prog W r b0 44 v) (h : DataW.Trod enc Tryd.prog W base sp full 44 v d p) :
    ∃ n1 n2 a xs cap, v = .agg #[.int .i64 n1, .int .i64 n2, .slice a xs.length cap] ∧ (Lit.int .i64 n1).wf = true ∧ (Lit.int .i64 n2).wf = true ∧ xs.length ≤ maxLen ∧ Ints W a xs ∧ ∀ n ∈ xs, (Lit.int .i64 n).wf = true := by
  obtain ⟨c0, c1, c2, y0, y1, y2, m, rfl, rfl, rfl, hy0, hy1, hy2⟩ := open_agg3 Tryd.underlying44 (by kernel_rfl) (by kernel_rfl) hv h
  obtain ⟨n1, rfl, w1⟩ := open_int_cell hy0
  obtain ⟨n2, rfl, w2⟩ := open_int_cell hy1
  obtain ⟨a, cap, xs, rfl, hm, hx, hw, _⟩ := open_row_cells hy2
  exact ⟨n1, n2, a, xs, cap, rfl, w1, w2, hm, hx, hw⟩

/-- A page that came in: its numbers, and where its words are. -/
structure Pg where
  at_ : Int
  r : Int
  a : Option Addr
  ws : List Int
  cap : Nat
instance : Inhabited Pg := ⟨⟨0, 0, none, [], 0⟩⟩
def Pg.val (p : Pg) : Value := .agg #[.int .i64 p.at_, .int .i64 p.r, .slice p.a p.ws.length p.cap]
structure Pg.Ok (w : World) (p : Pg) : Prop where
  wat : (Lit.int .i64 p.at_).wf = true
  wr : (Lit.int .i64 p.r).wf = true
  len : p.ws.length ≤ maxLen
  ints : Ints w p.a p.ws
  wws : ∀ n ∈ p.ws, (Lit.int .i64 n).wf = true
/-- A list of pages that came in: where it has elements it leads to their cells, three a page. -/
structure PagesAt (w : World) (a : Option Addr) (ps : List Pg) : Prop where
  at_ : ps = [] ∨ ∃ b off, a = some ⟨b, off, none⟩ ∧ ∀ j, j < ps.length → w.cell? ⟨b, off + j * 3, none⟩ = some (.int .i64 (ps.getD j default).at_) ∧
    w.cell? ⟨b, off + j * 3 + 1, none⟩ = some (.int .i64 (ps.getD j default).r) ∧ w.cell? ⟨b, off + j * 3 + 2, none⟩ = some (.slice (ps.getD j default).a (ps.getD j default).ws.length (ps.getD j default).cap)
  ok : ∀ j, j < ps.length → (ps.getD j default).Ok w

theorem cells3 {w : World} {base : Nat} {a : Addr} {cs : List Value} (h : w.cells? base a 3 = some cs) :
    ∃ x y z, cs = [x, y, z] ∧ w.cell? a = some x ∧ w.cell? (a.add 1) = some y ∧ w.cell? (a.add 2) = some z := by
  obtain ⟨_, h2, h3⟩ := World.cells?_some h
  match cs, h2 with
  | [x, y, z], _ => exact ⟨x, y, z, rfl, by simpa [Addr.add] using h3 0 (by omega), by simpa using h3 1 (by omega), by simpa using h3 2 (by omega)⟩

theorem open_pages {H : Type} {enc : TypeId × Value → H} {W : World} {base : Nat} {sp : Nat → Bool} {full : Bool} {a : Option Addr} {len cap : Nat} {d : DataW H} {p : List MemPlace}
    (h : DataW.Trod enc Tryd.prog W base sp full 31 (.slice a len cap) d p) : ∃ ps : List Pg, ps.length = len ∧ ps.length ≤ maxLen ∧ PagesAt W a ps ∧
      ((∀ n ∈ d.weights Tryd.prog 31, n ≤ reachBytes) → ps.length * 40 ≤ 140737488351232 ∧ ∀ j, j < ps.length → (ps.getD j default).ws.length * 8 ≤ 140737488351232) := by
  obtain ⟨fuel, hf⟩ := h
  rcases Go.Deep.open_slice Tryd.underlying31 hf with ⟨hcs, _⟩ | ⟨x, l, c, m, n, D, Pl, hcs, _, hl, hm, hmm, hxd, hx⟩
  · simp [Value.cells] at hcs
    obtain ⟨rfl, rfl, rfl⟩ := hcs
    exact ⟨[], rfl, Nat.zero_le _, ⟨.inl rfl, fun j hj => absurd hj (by simp)⟩, fun _ => ⟨by simp, fun j hj => absurd hj (by simp)⟩⟩
  · simp [Value.cells] at hcs
    obtain ⟨rfl, rfl, rfl⟩ := hcs
    have hlm : len ≤ m := by rw [hmm]; split <;> omega
    have ce : Tryd.prog.cellsOf 44 = 3 := by kernel_rfl
    have each : ∀ i, i < len → ∃ q : Pg, (W.cell? (x.add (i * 3)) = some (.int .i64 q.at_) ∧ W.cell? ((x.add (i * 3)).add 1) = some (.int .i64 q.r) ∧ W.cell? ((x.add (i * 3)).add 2) = some (.slice q.a q.ws.length q.cap)) ∧ q.Ok W ∧ ((∀ n ∈ (D i).weights Tryd.prog 44, n ≤ reachBytes) → q.ws.length * 8 ≤ 140737488351232) := by
      intro i hi
      obtain ⟨cs', h1, h2⟩ := hx i (by omega)
      rw [ce] at h1
      obtain ⟨v0, v1, v2, rfl, e0, e1, e2⟩ := cells3 h1
      obtain ⟨y0, y1, y2, k, hD, _, g0, g1, g2⟩ := Go.Deep.trod_struct3 Tryd.underlying44 h2
      have o1 : Tryd.prog.cellsOf 3 = 1 := by kernel_rfl
      have o2 : Tryd.prog.cellsOf 28 = 1 := by kernel_rfl
      simp [o1, o2] at g0 g1 g2
      obtain ⟨n1, rfl, w1⟩ := open_int_cell g0
      obtain ⟨n2, rfl, w2⟩ := open_int_cell g1
      obtain ⟨a', cap', xs, rfl, hm', hx', hw, hwt⟩ := open_row_cells g2
      refine ⟨⟨n1, n2, a', xs, cap'⟩, ⟨e0, e1, e2⟩, ⟨w1, w2, hm', hx', hw⟩, fun hb => hwt fun n hn => hb n ?_⟩
      simp only [Prod.mk.injEq] at hD
      rw [hD.1]
      simp only [DataW.weights, Tryd.underlying44]
      exact DataW.weights_mem_each (j := 2) rfl rfl n hn
    obtain ⟨F, hF⟩ := Go.Deep.choose_lt each
    refine ⟨(List.range len).map F, by simp, by simp; omega, ⟨?_, fun j hj => ?_⟩, fun hb => ⟨?_, fun j hj => ?_⟩⟩
    · by_cases h0 : len = 0
      · left; simp [h0]
      · right
        obtain ⟨b, off, spot⟩ := x
        have h := (hF 0 (by omega)).1.1
        have hspot : spot = none := by simpa [Addr.add] using World.cell?_spot h
        subst hspot
        refine ⟨b, off, rfl, fun j hj => ?_⟩
        have hj' : j < len := by simpa using hj
        have := (hF j hj').1
        rw [add_at, add_at, add_at] at this
        simpa [List.getD_eq_getElem?_getD, hj'] using this
    · have hj' : j < len := by simpa using hj
      have := (hF j hj').2.1
      simpa [List.getD_eq_getElem?_getD, hj'] using this
    · have hi40 : Tryd.prog.bytesOf 44 = 40 := by kernel_rfl
      simp only [Prod.mk.injEq] at hxd
      have := hb ((len + (m - len)) * 40) (by rw [hxd.1]; simp only [DataW.weights, Tryd.underlying31, hi40]; simp)
      unfold reachBytes at this
      simp
      omega
    · have hj' : j < len := by simpa using hj
      have := (hF j hj').2.2 fun n hn => hb n (by
        simp only [Prod.mk.injEq] at hxd
        rw [hxd.1]
        simp only [DataW.weights, Tryd.underlying31, List.mem_cons, List.mem_append]
        exact .inr (.inl (weightsAll_mem (d := D j) (by simp; exact ⟨j, hj', rfl⟩) n hn)))
      simpa [List.getD_eq_getElem?_getD, hj'] using this

end Go.Proofs.YtdbbiibnhgcndaaDoor
