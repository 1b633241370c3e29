/-
  An act of a script in memory (own work). No condition.
-/
import Derived.Test.YtdbbiibnhgcndaaOpen
import Derived.Deep.Heap
namespace Go.Proofs.Ytdbbiibnhgcndaa
open Go.RowKit

/-- an act of a script -/
structure Ac where
  k : Int
  e : Int
  f : Int
  at_ : Int
  r : Int
  n : Int
  fuel : Int
instance : Inhabited Ac := ⟨⟨0, 0, 0, 0, 0, 0, 0⟩⟩
def Ac.cells (x : Ac) : List Value := [.int .i64 x.k, .int .i64 x.e, .int .i64 x.f, .int .i64 x.at_, .int .i64 x.r, .int .i64 x.n, .int .i64 x.fuel]
def rowA (l : List Ac) : List Value := l.flatMap Ac.cells
theorem rowA_append (a b : List Ac) : rowA (a ++ b) = rowA a ++ rowA b := by simp [rowA]
theorem rowA_one (x : Ac) : rowA [x] = x.cells := by simp [rowA]
theorem rowA_len (l : List Ac) : (rowA l).length = l.length * 7 := by
  induction l with
  | nil => rfl
  | cons x l ih => simp only [rowA, List.flatMap_cons, List.length_append, List.length_cons] at ih ⊢; rw [ih]; simp [Ac.cells]; omega
theorem cells_one (x : Ac) : ∀ u ∈ x.cells, u.oneCell' = true := by
  intro u hu
  simp [Ac.cells] at hu
  rcases hu with rfl | rfl | rfl | rfl | rfl | rfl | rfl <;> rfl
theorem rowA_cells_one (l : List Ac) : ∀ u ∈ rowA l, u.oneCell' = true := by
  intro u hu
  simp only [rowA, List.mem_flatMap] at hu
  obtain ⟨x, _, hx⟩ := hu
  exact cells_one x u hx
theorem act_info : (Try.prog.info? 81).map (fun i => (i.zero, i.size, i.bytes)) = some (some (.agg #[.int .i64 0, .int .i64 0, .int .i64 0, .int .i64 0, .int .i64 0, .int .i64 0, .int .i64 0]), 7, 56) := by kernel_rfl

/-- the value owns the list -/
def Owns (w : World) (B : Nat) (v : Value) (l : List Ac) : Prop := w.ownsRow B 81 7 v l.length (rowA l)

end Go.Proofs.Ytdbbiibnhgcndaa
