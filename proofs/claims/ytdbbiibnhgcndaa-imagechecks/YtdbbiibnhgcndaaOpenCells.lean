/-
  How single cells are read out of memory (own work): a number, a slice of integers in a cell; the weights of a list's element are among the list's. No condition.
-/
import Derived.Test.YtdbbiibnhgcndaaOpen
import Derived.Lib.SmallJoins
import Derived.Deep.Slices
import Derived.Deep.Strs
import Derived.SizedLaws
namespace Go.Proofs.Ytdbbiibnhgcndaa
open Go.ChangeShapes Go.WideShapes Go.ChangeAt Go.RowKit Go.Joins

theorem open_row_cells {H : Type} {enc : TypeId × Value → H} {W : World} {base fuel : Nat} {sp : Nat → Bool} {full : Bool} {v : Value} {x : DataW H × List MemPlace}
    (h : DataW.trod enc Try.prog W base sp full fuel 22 [v] = some x) : ∃ a cap, ∃ xs : List Int, v = .slice a xs.length cap ∧ xs.length ≤ maxLen ∧ Ints W a xs ∧ (∀ n ∈ xs, (Lit.int .i64 n).wf = true) ∧
      ((∀ n ∈ x.1.weights Try.prog 22, n ≤ reachBytes) → xs.length * 8 ≤ 140737488351232) := by
  rcases open_ints Try.underlying22 Try.underlying3 (by kernel_rfl) h with ⟨hcs, _⟩ | ⟨y, l, c, zs, hcs, _, hl, hm, hz, hxd, hcell, hwz⟩
  · simp at hcs
    subst hcs
    exact ⟨_, _, [], rfl, Nat.zero_le _, .inl rfl, fun n h => absurd h (by simp), fun _ => by simp⟩
  · simp at hcs
    subst hcs
    have hz' : l ≤ zs.length := by rw [hz]; split <;> omega
    refine ⟨some y, c, zs.take l, by simp; omega, by simp; omega, ints_of hz' hcell, fun n hn => hwz n (List.mem_of_mem_take hn), fun hb => ?_⟩
    have hi8 : Try.prog.bytesOf 3 = 8 := by kernel_rfl
    have := hb ((l + (zs.length - l)) * 8) (by rw [hxd]; simp only [DataW.weights, Try.underlying22, hi8]; simp [lits, Nat.min_eq_left hz'])
    unfold reachBytes at this
    simp
    omega

theorem open_int_cell {H : Type} {enc : TypeId × Value → H} {W : World} {base fuel : Nat} {sp : Nat → Bool} {full : Bool} {v : Value} {x : DataW H × List MemPlace}
    (h : DataW.trod enc Try.prog W base sp full fuel 3 [v] = some x) : ∃ n, v = .int .i64 n ∧ (Lit.int .i64 n).wf = true := by
  obtain ⟨n, e0, _, wn⟩ := DataW.trod_int Try.underlying3 h
  simp at e0
  exact ⟨n, e0, wn⟩

theorem weightsAll_mem {H : Type} {P : Program} {e : TypeId} : ∀ {l : List (DataW H)} {d : DataW H}, d ∈ l → ∀ n ∈ d.weights P e, n ∈ DataW.weightsAll P e l
  | [], d, h, n, hn => by simp at h
  | x :: l, d, h, n, hn => by
    simp only [DataW.weightsAll, List.mem_append]
    rcases List.mem_cons.1 h with rfl | h
    · exact .inl hn
    · exact .inr (weightsAll_mem h n hn)

end Go.Proofs.Ytdbbiibnhgcndaa
