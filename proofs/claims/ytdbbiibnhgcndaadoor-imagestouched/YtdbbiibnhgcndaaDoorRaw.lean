/-
  How arguments that are raw things, or lists of them, are read out of memory (own work): each is four numbers. No condition.
-/
import Derived.Test.YtdbbiibnhgcndaaDoorOpenPage
import Derived.Test.YtdbbiibnhgcndaaDoorSmall
import Derived.Test.YtdbbiibnhgcndaaDoorPick
namespace Go.Proofs.YtdbbiibnhgcndaaDoor
open Go.ChangeShapes Go.WideShapes Go.ChangeAt Go.RowKit Go.Joins
set_option maxRecDepth 100000

structure Rw where
  k : Int
  a : Int
  b : Int
  c : Int
instance : Inhabited Rw := ⟨⟨0, 0, 0, 0⟩⟩
def Rw.val (r : Rw) : Value := .agg #[.int .i64 r.k, .int .i64 r.a, .int .i64 r.b, .int .i64 r.c]
structure Rw.Ok (r : Rw) : Prop where
  k : (Lit.int .i64 r.k).wf = true
  a : (Lit.int .i64 r.a).wf = true
  b : (Lit.int .i64 r.b).wf = true
  c : (Lit.int .i64 r.c).wf = true
structure RawsAt (w : World) (a : Option Addr) (rs : List Rw) : Prop where
  at_ : rs = [] ∨ ∃ b off, a = some ⟨b, off, none⟩ ∧ ∀ j, j < rs.length → w.cell? ⟨b, off + j * 4, none⟩ = some (.int .i64 (rs.getD j default).k) ∧
    w.cell? ⟨b, off + j * 4 + 1, none⟩ = some (.int .i64 (rs.getD j default).a) ∧ w.cell? ⟨b, off + j * 4 + 2, none⟩ = some (.int .i64 (rs.getD j default).b) ∧ w.cell? ⟨b, off + j * 4 + 3, none⟩ = some (.int .i64 (rs.getD j default).c)
  ok : ∀ j, j < rs.length → (rs.getD j default).Ok

theorem open_raw {H : Type} {enc : TypeId × Value → H} {W : World} {r : Reach} {b0 base : Nat} {sp : Nat → Bool} {full : Bool} {v : Value} {d : DataW H} {p : List MemPlace}
    (hv : Value.okWide Tryd.prog W r b0 36 v) (h : DataW.Trod enc Tryd.prog W base sp full 36 v d p) : ∃ x : Rw, v = x.val ∧ x.Ok := by
  obtain ⟨c0, c1, c2, c3, y0, y1, y2, y3, m, rfl, rfl, rfl, hy0, hy1, hy2, hy3⟩ := open_agg4 Tryd.underlying36 (by kernel_rfl) (by kernel_rfl) hv h
  obtain ⟨n0, rfl, w0⟩ := open_int_cell hy0
  obtain ⟨n1, rfl, w1⟩ := open_int_cell hy1
  obtain ⟨n2, rfl, w2⟩ := open_int_cell hy2
  obtain ⟨n3, rfl, w3⟩ := open_int_cell hy3
  exact ⟨⟨n0, n1, n2, n3⟩, rfl, ⟨w0, w1, w2, w3⟩⟩

theorem cells4 {w : World} {base : Nat} {a : Addr} {cs : List Value} (h : w.cells? base a 4 = some cs) :
    ∃ x y z u, cs = [x, y, z, u] ∧ w.cell? a = some x ∧ w.cell? (a.add 1) = some y ∧ w.cell? (a.add 2) = some z ∧ w.cell? (a.add 3) = some u := by
  obtain ⟨_, h2, h3⟩ := World.cells?_some h
  match cs, h2 with
  | [x, y, z, u], _ => exact ⟨x, y, z, u, rfl, by simpa [Addr.add] using h3 0 (by omega), by simpa using h3 1 (by omega), by simpa using h3 2 (by omega), by simpa using h3 3 (by omega)⟩

theorem open_raws {H : Type} {enc : TypeId × Value → H} {W : World} {base : Nat} {sp : Nat → Bool} {full : Bool} {a : Option Addr} {len cap : Nat} {d : DataW H} {p : List MemPlace}
    (h : DataW.Trod enc Tryd.prog W base sp full 34 (.slice a len cap) d p) : ∃ rs : List Rw, rs.length = len ∧ rs.length ≤ maxLen ∧ RawsAt W a rs := by
  obtain ⟨fuel, hf⟩ := h
  rcases Go.Deep.open_slice Tryd.underlying34 hf with ⟨hcs, _⟩ | ⟨x, l, c, m, n, D, Pl, hcs, _, hl, hm, hmm, hxd, hx⟩
  · simp [Value.cells] at hcs
    obtain ⟨rfl, rfl, rfl⟩ := hcs
    exact ⟨[], rfl, Nat.zero_le _, ⟨.inl rfl, fun j hj => absurd hj (by simp)⟩⟩
  · simp [Value.cells] at hcs
    obtain ⟨rfl, rfl, rfl⟩ := hcs
    have hlm : len ≤ m := by rw [hmm]; split <;> omega
    have ce : Tryd.prog.cellsOf 36 = 4 := by kernel_rfl
    have each : ∀ i, i < len → ∃ q : Rw, (W.cell? (x.add (i * 4)) = some (.int .i64 q.k) ∧ W.cell? ((x.add (i * 4)).add 1) = some (.int .i64 q.a) ∧ W.cell? ((x.add (i * 4)).add 2) = some (.int .i64 q.b) ∧ W.cell? ((x.add (i * 4)).add 3) = some (.int .i64 q.c)) ∧ q.Ok := by
      intro i hi
      obtain ⟨cs', h1, h2⟩ := hx i (by omega)
      rw [ce] at h1
      obtain ⟨v0, v1, v2, v3, rfl, e0, e1, e2, e3⟩ := cells4 h1
      obtain ⟨xs, k, hk, hxy, _, hxl, hff⟩ := DataW.trod_struct Tryd.underlying36 h2
      have o1 : Tryd.prog.cellsOf 3 = 1 := by kernel_rfl
      match xs, hxl with
      | [y0, y1, y2, y3], _ =>
        have g0 := hff 0 _ rfl
        have g1 := hff 1 _ rfl
        have g2 := hff 2 _ rfl
        have g3 := hff 3 _ rfl
        simp [o1] at g0 g1 g2 g3
        obtain ⟨n0, rfl, w0⟩ := open_int_cell g0
        obtain ⟨n1, rfl, w1⟩ := open_int_cell g1
        obtain ⟨n2, rfl, w2⟩ := open_int_cell g2
        obtain ⟨n3, rfl, w3⟩ := open_int_cell g3
        exact ⟨⟨n0, n1, n2, n3⟩, ⟨e0, e1, e2, e3⟩, ⟨w0, w1, w2, w3⟩⟩
    obtain ⟨F, hF⟩ := Go.Deep.choose_lt each
    refine ⟨(List.range len).map F, by simp, by simp; omega, ⟨?_, fun j hj => ?_⟩⟩
    · by_cases h0 : len = 0
      · left; simp [h0]
      · right
        obtain ⟨b, off, spot⟩ := x
        have h := (hF 0 (by omega)).1.1
        have hspot : spot = none := by simpa [Addr.add] using World.cell?_spot h
        subst hspot
        refine ⟨b, off, rfl, fun j hj => ?_⟩
        have hj' : j < len := by simpa using hj
        have := (hF j hj').1
        rw [add_at, add_at, add_at, add_at] at this
        simpa [List.getD_eq_getElem?_getD, hj'] using this
    · have hj' : j < len := by simpa using hj
      have := (hF j hj').2
      simpa [List.getD_eq_getElem?_getD, hj'] using this

theorem RawsAt.below {w w' : World} {a : Option Addr} {rs : List Rw} (h : RawsAt w a rs) (hb : Below w.heap.size w w') : RawsAt w' a rs := by
  refine ⟨?_, h.ok⟩
  rcases h.at_ with h | ⟨b, off, h1, h2⟩
  · exact .inl h
  · refine .inr ⟨b, off, h1, fun j hj => ?_⟩
    obtain ⟨c0, c1, c2, c3⟩ := h2 j hj
    exact ⟨(hb.cell (p := ⟨b, _, none⟩) (lt_of_cell c0)).trans c0, (hb.cell (p := ⟨b, _, none⟩) (lt_of_cell c1)).trans c1, (hb.cell (p := ⟨b, _, none⟩) (lt_of_cell c2)).trans c2, (hb.cell (p := ⟨b, _, none⟩) (lt_of_cell c3)).trans c3⟩

end Go.Proofs.YtdbbiibnhgcndaaDoor
