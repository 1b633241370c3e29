/-
  What the reference's dec answers: a number's decimal digits; nothing that was in memory turns. The condition: the number is not below 0 and fits.
-/
import Derived.Test.YteaabfnmnekbpaaDoorEntry
import Derived.Laws.BytesString
import Derived.Laws.BytesArg
import Derived.Laws.Concat
import Derived.Outline
namespace Go.Proofs.YteaabfnmnekbpaaDoor
open Go.RowKit

/-- a text of bytes -/
def txt (l : List UInt8) : ByteArray := ⟨l.toArray⟩
theorem txt_size (l : List UInt8) : (txt l).size = l.length := by simp [txt, ByteArray.size]
theorem txt_append (a b : List UInt8) : txt a ++ txt b = txt (a ++ b) := ByteArray.mk_append_mk a b
theorem txt_inj {a b : List UInt8} (h : txt a = txt b) : a = b := by
  have := congrArg (fun s : ByteArray => s.data.toList) h
  simpa [txt] using this
theorem txt_of (s : ByteArray) : s = txt s.data.toList := by simp [txt]
/-- a number's decimal digits -/
def decB (n : Nat) : ByteArray := txt (Lib.decDigits n)
theorem decB_small {n : Nat} (h : n < 10) : strOfNums [48 + (n : Int)] = decB n := by
  have hd : Lib.decDigits n = [UInt8.ofNat (48 + n)] := by rw [Lib.decDigits, dif_pos h]
  unfold decB txt
  rw [hd]
  unfold strOfNums
  have : (48 + (n : Int)).toNat = 48 + n := by omega
  simp only [List.map_cons, List.map_nil, this]
theorem decB_big {n : Nat} (h : ¬ n < 10) : decB (n / 10) ++ decB (n % 10) = decB n := by
  unfold decB
  rw [txt_append]
  congr 1
  conv => rhs; rw [Lib.decDigits, dif_neg h]
  conv => lhs; rhs; rw [Lib.decDigits, dif_pos (by omega)]
theorem decB_size (n : Nat) (h : n < 18446744073709551616) : (decB n).size ≤ 20 := by
  unfold decB; rw [txt_size, Lib.decDigits_length]; exact Lib.nDigits_le20 n h
theorem ret_str {a b : ByteArray} (h : a = b) : Ending.returned (.string a) = .returned (.string b) := by rw [h]

end Go.Proofs.YteaabfnmnekbpaaDoor
