/-
  A number of 64 bits has no other bits than 1, 2 and 4 just if it is from 0 to 7 (own work). The condition: the number fits 64 bits.
-/
import Derived.Test.YtdbbiibnhgcndaaMath
import Derived.WalkKit
import Derived.Laws.BitsAllLaws
namespace Go.Proofs.Ytdbbiibnhgcndaa

theorem and_high (x : Nat) (hx : x < 18446744073709551616) : x &&& 18446744073709551608 = 8 * (x / 8) := by
  apply Nat.eq_of_testBit_eq
  intro i
  rw [Nat.testBit_and, show (18446744073709551608 : Nat) = 2 ^ 3 * (2 ^ 61 - 1) by decide, show (8 : Nat) = 2 ^ 3 by decide, Nat.testBit_two_pow_mul, Nat.testBit_two_pow_mul, Nat.testBit_two_pow_sub_one, Nat.testBit_div_two_pow]
  by_cases h3 : 3 ≤ i
  · have e' : i - 3 + 3 = i := by omega
    simp only [ge_iff_le, h3, decide_true, Bool.true_and, e']
    by_cases hi : i - 3 < 61
    · simp [hi]
    · have : x.testBit i = false := Nat.testBit_lt_two_pow (Nat.lt_of_lt_of_le hx (by
        have : 2 ^ 64 ≤ 2 ^ i := Nat.pow_le_pow_right (by omega) (by omega)
        simpa using this))
      simp [this]
  · simp [h3]

theorem i64_wf {r : Int} (h : (Lit.int .i64 r).wf = true) : -9223372036854775808 ≤ r ∧ r ≤ 9223372036854775807 := by
  simp [Lit.wf, IntKind.min, IntKind.max, IntKind.bits, IntKind.signed] at h
  omega

theorem rights_eq (r : Int) (h : (Lit.int .i64 r).wf = true) : (bits .andNot .i64 r 7 == 0) = inB r 0 7 := by
  obtain ⟨h1, h2⟩ := i64_wf h
  have e : bits .andNot .i64 r 7 = IntKind.i64.wrap ((BitVec.ofInt 64 r &&& ~~~BitVec.ofInt 64 7).toNat : Int) := rfl
  have h7 : (BitVec.ofInt 64 7).toNat = 7 := by decide
  have hX : (BitVec.ofInt 64 r).toNat = (r % 18446744073709551616).toNat := by rw [BitVec.toNat_ofInt]; rfl
  rw [e, BitVec.toNat_and, BitVec.toNat_not, h7, show 2 ^ 64 - 1 - 7 = 18446744073709551608 by decide, and_high _ (by rw [hX]; omega), hX]
  rw [Bool.eq_iff_iff, inB_iff, beq_iff_eq]
  simp only [IntKind.wrap, IntKind.bits, IntKind.signed]
  constructor
  · intro q
    simp at q
    omega
  · rintro ⟨a, b⟩
    simp
    omega

end Go.Proofs.Ytdbbiibnhgcndaa
