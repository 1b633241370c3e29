/-
  What the reference's dec answers: a number's decimal digits; nothing that was in memory turns. The condition: the number is not below 0 and fits.
-/
import Derived.Test.YtdbbiibnhgcndaaDoorEntry
import Derived.Laws.BytesString
import Derived.Laws.BytesArg
import Derived.Laws.Concat
import Derived.Outline
namespace Go.Proofs.YtdbbiibnhgcndaaDoor
open Go.RowKit

/-- a text of bytes -/
def txt (l : List UInt8) : ByteArray := ⟨l.toArray⟩
theorem txt_size (l : List UInt8) : (txt l).size = l.length := by simp [txt, ByteArray.size]
theorem txt_append (a b : List UInt8) : txt a ++ txt b = txt (a ++ b) := ByteArray.mk_append_mk a b
theorem txt_inj {a b : List UInt8} (h : txt a = txt b) : a = b := by
  have := congrArg (fun s : ByteArray => s.data.toList) h
  simpa [txt] using this
theorem txt_of (s : ByteArray) : s = txt s.data.toList := by simp [txt]
/-- a number's decimal digits -/
def decB (n : Nat) : ByteArray := txt (Lib.decDigits n)
theorem decB_small {n : Nat} (h : n < 10) : strOfNums [48 + (n : Int)] = decB n := by
  have hd : Lib.decDigits n = [UInt8.ofNat (48 + n)] := by rw [Lib.decDigits, dif_pos h]
  unfold decB txt
  rw [hd]
  unfold strOfNums
  have : (48 + (n : Int)).toNat = 48 + n := by omega
  simp only [List.map_cons, List.map_nil, this]
theorem decB_big {n : Nat} (h : ¬ n < 10) : decB (n / 10) ++ decB (n % 10) = decB n := by
  unfold decB
  rw [txt_append]
  congr 1
  conv => rhs; rw [Lib.decDigits, dif_neg h]
  conv => lhs; rhs; rw [Lib.decDigits, dif_pos (by omega)]
theorem decB_size (n : Nat) (h : n < 18446744073709551616) : (decB n).size ≤ 20 := by
  unfold decB; rw [txt_size, Lib.decDigits_length]; exact Lib.nDigits_le20 n h
theorem ret_str {a b : ByteArray} (h : a = b) : Ending.returned (.string a) = .returned (.string b) := by rw [h]

set_option maxRecDepth 100000 in
set_option maxHeartbeats 1000000 in
theorem dec_any : ∀ (n : Nat), n ≤ 1000000000000000000 → ∀ w : World, Calls Tryd.prog 36 #[.int .i64 (n : Int)] w fun e w' => e = .returned (.string (decB n)) ∧ Below w.heap.size w w' := by
  intro n
  induction n using Nat.strongRecOn with
  | ind n ih =>
    intro hn w
    by_cases h10 : n < 10
    · have hcv := run_convert_bytes_arg (P := Tryd.prog) (w.alloc (.cells #[.int .u8 (48 + (n : Int))] 5)) 88 5 Tryd.underlying88 Tryd.underlying5 w.heap.size 0 1 1 [48 + (n : Int)] rfl
        (fun i hi => by obtain rfl : i = 0 := by omega
                        simp) 9 Tryd.underlying9
      rw [decB_small h10] at hcv
      clear ih
      go_enter Tryd.func36, Tryd.ntmps36
      go_wp2
      go_ret
      exact ⟨rfl, (Below.refl _ _).alloc (Nat.le_refl _) _⟩
    · have h1 := ih (n / 10) (by omega) (by omega)
      have h2 := ih (n % 10) (by omega) (by omega)
      have e1 : ((n / 10 : Nat) : Int) = (n : Int) / 10 := by omega
      have e2 : ((n % 10 : Nat) : Int) = (n : Int) % 10 := by omega
      rw [e1] at h1
      rw [e2] at h2
      have s1 := decB_size (n / 10) (by omega)
      have s2 := decB_size (n % 10) (by omega)
      have HB : Hid (decB (n / 10) ++ decB (n % 10) = decB n) := decB_big h10
      generalize decB (n / 10) = A at h1 s1 HB
      generalize decB (n % 10) = B at h2 s2 HB
      clear e1 e2 ih
      go_enter Tryd.func36, Tryd.ntmps36
      go_wp2_with fail
      refine (h1 _).mono ?_
      rintro e w1 ⟨rfl, hb1⟩
      clear h1
      go_wp2_with fail
      refine (h2 _).mono ?_
      rintro e w2 ⟨rfl, hb2⟩
      clear h2
      go_wp2
      go_ret
      exact ⟨ret_str HB.out, hb1.trans (hb2.mono hb1.size)⟩

end Go.Proofs.YtdbbiibnhgcndaaDoor
