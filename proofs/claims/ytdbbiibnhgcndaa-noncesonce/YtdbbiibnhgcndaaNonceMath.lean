/-
  What Look refuses of the quotes of NoncesOnce (own work): plain facts of lists. No condition beside the numbers' bounds.
-/
import Derived.Test.YtdbbiibnhgcndaaChalBox
import Derived.Test.YtdbbiibnhgcndaaPick
namespace Go.Proofs.Ytdbbiibnhgcndaa

def tGood : ByteArray := ⟨#[103, 111, 111, 100]⟩
def tBad : ByteArray := ⟨#[98, 97, 100]⟩
def cvN (n : Nat) : Cv := ⟨none, [tGood], 0, none, List.replicate n 0, 0⟩
def cvB (n j : Nat) : Cv := ⟨none, [tGood], 0, none, (List.replicate n 0).set j 1, 0⟩
def madeQ (n j : Nat) : List Qu := [⟨tGood, (j : Int) + 1⟩, ⟨tBad, (j : Int) + 1⟩, ⟨tGood, (n : Int) + 1⟩]
theorem good_bad : (tBad.toList == tGood.toList) = false := by decide +kernel
theorem long_good : tooLong tGood = false := by decide +kernel
theorem chF_N {n : Nat} (h : n ≤ 20) : chF (cvN n).tr (cvN n).ns = 0 := by
  have h1 : (List.replicate n (0 : Int)).any noNonce = false := by
    rw [List.any_eq_false]
    intro x hx
    obtain ⟨_, rfl⟩ := List.mem_replicate.1 hx
    decide
  show chF [tGood] (List.replicate n 0) = 0
  unfold chF
  rw [if_neg (by simp; omega), if_neg (by rw [h1]; simp [long_good])]
theorem chF_B {n j : Nat} (h : n ≤ 20) : chF (cvB n j).tr (cvB n j).ns = 0 := by
  have h1 : ((List.replicate n (0 : Int)).set j 1).any noNonce = false := by
    rw [List.any_eq_false]
    intro x hx
    rcases List.mem_or_eq_of_mem_set hx with hx | rfl
    · obtain ⟨_, rfl⟩ := List.mem_replicate.1 hx
      decide
    · decide
  show chF [tGood] ((List.replicate n 0).set j 1) = 0
  unfold chF
  rw [if_neg (by simp; omega), if_neg (by rw [h1]; simp [long_good])]
theorem look0 {n j : Nat} (h : n ≤ 20) (hj : j < n) : lookE (cvN n) (madeQ n j) ⟨tGood, (j : Int) + 1⟩ = 0 := by
  unfold lookE
  rw [if_pos (chF_N h), if_pos (by simp [madeQ, qeq]), if_pos (by simp [cvN]; omega)]
  rw [show ((j : Int) + 1 - 1).toNat = j by omega]
  rw [if_neg (by simp [cvN, List.getD_eq_getElem?_getD, hj]), if_pos (by simp [cvN, teq])]
theorem lookC0 {n j : Nat} (h : n ≤ 20) (hj : j < n) : (lookC (cvN n) (madeQ n j) ⟨tGood, (j : Int) + 1⟩).Same (cvB n j) := by
  unfold lookC
  rw [if_pos (look0 h hj)]
  exact ⟨rfl, by simp [backC, cvN, cvB]⟩
theorem look1 {n j : Nat} (h : n ≤ 20) (hj : j < n) : lookE (cvB n j) (madeQ n j) ⟨tGood, (j : Int) + 1⟩ = 6 := by
  unfold lookE
  rw [if_pos (chF_B h), if_pos (by simp [madeQ, qeq]), if_pos (by simp [cvB]; omega)]
  rw [show ((j : Int) + 1 - 1).toNat = j by omega]
  rw [if_pos (by simp [cvB, List.getD_eq_getElem?_getD, hj])]
theorem look2 {n j : Nat} (h : n ≤ 20) (hj : j < n) : lookE (cvN n) (madeQ n j) ⟨tBad, (j : Int) + 1⟩ = 11 := by
  unfold lookE
  rw [if_pos (chF_N h), if_pos (by simp [madeQ, qeq]), if_pos (by simp [cvN]; omega)]
  rw [show ((j : Int) + 1 - 1).toNat = j by omega]
  have e : (tGood.toList == tBad.toList) = false := by decide +kernel
  rw [if_neg (by simp [cvN, List.getD_eq_getElem?_getD, hj]), if_neg (by simp [cvN, teq, e])]
theorem look3 {n j : Nat} (h : n ≤ 20) : lookE (cvN n) (madeQ n j) ⟨tGood, (n : Int) + 1⟩ = 5 := by
  unfold lookE
  rw [if_pos (chF_N h), if_pos (by simp [madeQ, qeq]), if_neg (by simp [cvN]; omega)]
theorem look4 {n : Nat} (h : n ≤ 20) (q : Qu) : lookE (cvN n) [] q = 4 := by
  unfold lookE
  rw [if_pos (chF_N h), if_neg (by simp)]
theorem ask_ok {n : Nat} (h : n < 20) : askE (cvN n) = 0 ∧ askN (cvN n) = (n : Int) + 1 ∧ (askC (cvN n)).Same (cvN (n + 1)) := by
  have e : askE (cvN n) = 0 := by
    unfold askE
    rw [if_pos (chF_N (by omega)), if_neg (by simp [cvN]; omega)]
  refine ⟨e, ?_, ?_⟩
  · unfold askN
    rw [if_pos e]
    simp [cvN]
  · unfold askC
    rw [if_pos e]
    exact ⟨rfl, by simp [moreC, cvN, List.replicate_succ']⟩

end Go.Proofs.Ytdbbiibnhgcndaa
