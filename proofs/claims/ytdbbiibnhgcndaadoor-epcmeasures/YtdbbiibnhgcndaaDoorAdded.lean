/-
  What the calls Added (image) and PutText (riddleref) answer, for every place and every rights of 64 bits: both the same text and the same error number; nothing that was in memory turns.
-/
import Derived.Test.YtdbbiibnhgcndaaDoorDec
namespace Go.Proofs.YtdbbiibnhgcndaaDoor
open Go.RowKit

def sPage : List UInt8 := [112, 97, 103, 101]
/-- what is measured of a page that is put there -/
def putS (p r : Int) : ByteArray := txt (entryL sPage [p, r])
theorem itoa_nat (n : Nat) : Lib.itoa (n : Int) = Lib.decDigits n := Lib.itoa_nonneg n
theorem putS_eq (p r : Nat) : txt [112, 97, 103, 101, 32] ++ decB p ++ txt [32] ++ decB r ++ txt [59] = putS p r := by
  unfold putS decB
  simp only [txt_append]
  congr 1
  simp [entryL, numsL, itoa_nat, sPage]

set_option maxHeartbeats 1000000 in
theorem added_any (p r : Int) (w : World) (hp : (Lit.int .i64 p).wf = true) (hr : (Lit.int .i64 r).wf = true) (ht : Tab w) :
    Calls Tryd.prog 13 #[.int .i64 p, .int .i64 r] w fun e w' =>
      e = .returned (if (inB p 0 7 && inB r 0 7) = true then .tuple #[.string (putS p r), .int .i64 0] else .tuple #[.string ⟨#[]⟩, .int .i64 2]) ∧ Below w.heap.size w w' := by
  have hP := fun w => isPlace_any p w
  have hR := fun w => areRights_any r w hr
  have hE := entry_any ⟨#[112, 97, 103, 101]⟩ (some ⟨w.heap.size, 0, none⟩) [p, r] 2 (w.alloc (.cells #[.int .i64 p, .int .i64 r] 3)) (by decide) (by simp)
    (.inr ⟨_, _, rfl, fun j hj => by
      match j, hj with
      | 0, _ => simp
      | 1, _ => simp⟩) (fun n hn => by simp at hn; rcases hn with rfl | rfl <;> assumption) (ht.below ((Below.refl _ _).alloc (Nat.le_refl _) _))
  have hS : Hid (txt (entryL sPage [p, r]) = putS p r) := rfl
  have hE' : Calls Tryd.prog 32 #[.string ⟨#[112, 97, 103, 101]⟩, .slice (some ⟨w.heap.size, 0, none⟩) 2 2] (w.alloc (.cells #[.int .i64 p, .int .i64 r] 3)) fun e w' => e = .returned (.string (putS p r)) ∧ Below (w.alloc (.cells #[.int .i64 p, .int .i64 r] 3)).heap.size (w.alloc (.cells #[.int .i64 p, .int .i64 r] 3)) w' := hE
  clear hE hS ht hp hr
  generalize putS p r = S at hE' ⊢
  generalize inB p 0 7 = b1 at hP ⊢
  generalize inB r 0 7 = b2 at hR ⊢
  cases b1 <;> cases b2
  all_goals
    go_enter Tryd.func13, Tryd.ntmps13
    go_wp2_with (first | (go_at_call 33; refine (hP _).mono ?_; rintro e w' ⟨rfl, rfl⟩) | (go_at_call 34; refine (hR _).mono ?_; rintro e w' ⟨rfl, rfl⟩) | (go_at_call 32; go_must (refine hE'.mono ?_); rintro e w1 ⟨rfl, hb⟩))
    go_ret2
    first | exact ⟨rfl, Below.refl _ _⟩ | exact ⟨rfl, ((Below.refl _ _).alloc (Nat.le_refl _) _).trans (hb.mono (by simp))⟩

set_option maxHeartbeats 1000000 in
theorem putText_any (p r : Int) (w : World) :
    Calls Tryd.prog 14 #[.int .i64 p, .int .i64 r] w fun e w' =>
      e = .returned (if (inB p 0 7 && inB r 0 7) = true then .tuple #[.string (putS p r), .int .i64 0] else .tuple #[.string ⟨#[]⟩, .int .i64 2]) ∧ Below w.heap.size w w' := by
  cases h1 : inB p 0 7
  · go_enter Tryd.func14, Tryd.ntmps14
    go_wp2_with (go_at_call 35; refine (in_any _ _ _ _).mono ?_; rintro e w' ⟨rfl, rfl⟩)
    go_ret2
    exact ⟨rfl, Below.refl _ _⟩
  · cases h2 : inB r 0 7
    · go_enter Tryd.func14, Tryd.ntmps14
      go_wp2_with (go_at_call 35; refine (in_any _ _ _ _).mono ?_; rintro e w' ⟨rfl, rfl⟩)
      go_ret2
      exact ⟨rfl, Below.refl _ _⟩
    · have b1 := inB_iff.1 h1
      have b2 := inB_iff.1 h2
      obtain ⟨P, rfl⟩ : ∃ P : Nat, p = (P : Int) := ⟨p.toNat, by omega⟩
      obtain ⟨R, rfl⟩ : ∃ R : Nat, r = (R : Int) := ⟨r.toNat, by omega⟩
      have HS : Hid (txt [112, 97, 103, 101, 32] ++ decB P ++ txt [32] ++ decB R ++ txt [59] = putS P R) := putS_eq P R
      have g1 := fun w => dec_any P (by omega) w
      have g2 := fun w => dec_any R (by omega) w
      have s1 := decB_size P (by omega)
      have s2 := decB_size R (by omega)
      generalize putS (P : Int) (R : Int) = S at HS ⊢
      generalize decB P = A at g1 s1 HS
      generalize decB R = B at g2 s2 HS
      go_enter Tryd.func14, Tryd.ntmps14
      go_wp2_with (go_at_call 35; refine (in_any _ _ _ _).mono ?_; rintro e w' ⟨rfl, rfl⟩)
      refine (g1 _).mono ?_
      rintro e w1 ⟨rfl, hb1⟩
      clear g1
      go_wp2_with fail
      refine (g2 _).mono ?_
      rintro e w2 ⟨rfl, hb2⟩
      clear g2
      go_wp2
      go_ret2
      refine ⟨?_, hb1.trans (hb2.mono hb1.size)⟩
      rw [← HS.out]
      rfl

end Go.Proofs.YtdbbiibnhgcndaaDoor
