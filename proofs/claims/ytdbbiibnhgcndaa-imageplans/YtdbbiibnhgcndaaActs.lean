/-
  Lists of acts in memory (own work): a list that the call itself makes, act behind act; the acts that build an image. No condition.
-/
import Derived.Test.YtdbbiibnhgcndaaChecks
import Derived.Test.YtdbbiibnhgcndaaAc
import Derived.Deep.Heap
namespace Go.Proofs.Ytdbbiibnhgcndaa
open Go.RowKit

/-- the pokes of one page's words -/
def pokeP (f : Int) (ws : List Int) (j : Nat) : List Ac := (List.range j).map fun (i : Nat) => ⟨7, 0, f, (i : Int), 0, ws.getD i 0, 0⟩
/-- the pokes of the first k pages -/
def pokeK (ps : List Pg) (f : Int) (k : Nat) : List Ac := (List.range k).flatMap fun (i : Nat) => pokeP (f + i) (ps.getD i default).ws (ps.getD i default).ws.length
/-- the puts and measures of the first k pages -/
def putK (ps : List Pg) (e f : Int) (k : Nat) : List Ac := (List.range k).flatMap fun (i : Nat) => [⟨2, e, f + i, (ps.getD i default).at_, (ps.getD i default).r, 0, 0⟩, ⟨3, e, 0, (ps.getD i default).at_, 0, 0, 0⟩]
def planL (ps : List Pg) (e f : Int) : List Ac := pokeK ps f ps.length ++ [⟨1, 0, 0, 0, 0, 0, 0⟩] ++ putK ps e f ps.length ++ [⟨4, e, 0, 0, 0, 0, 0⟩]

theorem pokeP_succ (f : Int) (ws : List Int) (j : Nat) : pokeP f ws (j + 1) = pokeP f ws j ++ [⟨7, 0, f, (j : Int), 0, ws.getD j 0, 0⟩] := by
  simp [pokeP, List.range_succ]
theorem pokeK_succ (ps : List Pg) (f : Int) (k : Nat) : pokeK ps f (k + 1) = pokeK ps f k ++ pokeP (f + k) (ps.getD k default).ws (ps.getD k default).ws.length := by
  simp [pokeK, List.range_succ]
theorem putK_succ (ps : List Pg) (e f : Int) (k : Nat) : putK ps e f (k + 1) = putK ps e f k ++ [⟨2, e, f + k, (ps.getD k default).at_, (ps.getD k default).r, 0, 0⟩, ⟨3, e, 0, (ps.getD k default).at_, 0, 0, 0⟩] := by
  simp [putK, List.range_succ]
theorem pokeP_len (f : Int) (ws : List Int) (j : Nat) : (pokeP f ws j).length = j := by simp [pokeP]
theorem pokeK_len (ps : List Pg) (f : Int) : ∀ k, (∀ j, j < k → (ps.getD j default).ws.length = 8) → (pokeK ps f k).length = 8 * k
  | 0, _ => by simp [pokeK]
  | k + 1, h => by
    rw [pokeK_succ, List.length_append, pokeK_len ps f k fun j hj => h j (by omega), pokeP_len, h k (by omega)]
    omega
theorem putK_len (ps : List Pg) (e f : Int) : ∀ k, (putK ps e f k).length = 2 * k
  | 0 => by simp [putK]
  | k + 1 => by rw [putK_succ, List.length_append, putK_len ps e f k]; simp; omega

end Go.Proofs.Ytdbbiibnhgcndaa
