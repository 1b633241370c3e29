/-
  What the calls CheckPage (image) and PageFault (riddleref) answer for every page: both answer what the page is refused for, and turn nothing that was in memory. The condition: the rights fit 64 bits, the words' cells are there.
-/
import Derived.Test.YtkfjjloplfgbfaaWords
import Derived.Test.YtkfjjloplfgbfaaBits
namespace Go.Proofs.Ytkfjjloplfgbfaa
open Go.RowKit

theorem lt_of_cell {w : World} {a : Addr} {v : Value} (h : w.cell? a = some v) : a.block < w.heap.size := by
  by_cases hlt : a.block < w.heap.size
  · exact hlt
  · have : w.heap[a.block]? = none := by simp; omega
    simp [World.cell?, this] at h

theorem bcell {W w1 : World} (hb : Below W.heap.size W w1) : (∀ b o, b < W.heap.size → w1.cell? ⟨b, o, none⟩ = W.cell? ⟨b, o, none⟩) ∧ (∀ b o, b < W.heap.size → w1.frozen? ⟨b, o, none⟩ = W.frozen? ⟨b, o, none⟩) :=
  ⟨fun b o h => hb.cell (p := ⟨b, o, none⟩) h, fun b o h => hb.frozen (p := ⟨b, o, none⟩) h⟩

theorem Ints.below {w w' : World} {a : Option Addr} {xs : List Int} (h : Ints w a xs) (hb : Below w.heap.size w w') : Ints w' a xs := by
  rcases h with h | ⟨b, off, h1, h2⟩
  · exact .inl h
  · exact .inr ⟨b, off, h1, fun j hj => (hb.cell (p := ⟨b, off + j, none⟩) (lt_of_cell (h2 j hj))).trans (h2 j hj)⟩
theorem Ints.alloc {w : World} {a : Option Addr} {xs : List Int} (h : Ints w a xs) (o : Obj) : Ints (w.alloc o) a xs :=
  h.below ((Below.refl _ _).alloc (Nat.le_refl _) o)

theorem isPlace_any (n : Int) (w : World) : Calls Try.prog 18 #[.int .i64 n] w fun e w' => e = .returned (.bool (inB n 0 7)) ∧ w = w' := by
  by_cases h1 : 0 ≤ n
  · by_cases h2 : n < 8
    · rw [inB_true h1 (by omega)]
      go_enter Try.func18, Try.ntmps18
      go_wp2
      go_ret
      exact ⟨rfl, rfl⟩
    · rw [inB_high (by omega)]
      go_enter Try.func18, Try.ntmps18
      go_wp2
      go_ret
      exact ⟨rfl, rfl⟩
  · rw [inB_low h1]
    go_enter Try.func18, Try.ntmps18
    go_wp2
    go_ret
    exact ⟨rfl, rfl⟩

theorem areRights_any (n : Int) (w : World) (h : (Lit.int .i64 n).wf = true) : Calls Try.prog 19 #[.int .i64 n] w fun e w' => e = .returned (.bool (inB n 0 7)) ∧ w = w' := by
  have E := rights_eq n h
  clear h
  go_enter Try.func19, Try.ntmps19
  go_wp2
  go_ret
  exact ⟨ret_bool (by first | rfl | exact E), rfl⟩

set_option maxHeartbeats 400000 in
theorem checkPage_any (p r : Int) (a : Option Addr) (xs : List Int) (cap : Nat) (w : World) (hr : (Lit.int .i64 r).wf = true) (hl : xs.length ≤ maxLen) (hx : Ints w a xs) :
    Calls Try.prog 9 #[.agg #[.int .i64 p, .int .i64 r, .slice a xs.length cap]] w fun e w' => e = .returned (.int .i64 (pageF p r xs)) ∧ Below w.heap.size w w' := by
  have hI := fun o => words_any a xs cap (w.alloc o) hl (hx.alloc o)
  have hP := fun w => isPlace_any p w
  have hR := fun w => areRights_any r w hr
  unfold pageF
  clear hl hx hr
  generalize inB p 0 7 = b1 at hP ⊢
  generalize inB r 0 7 = b2 at hR ⊢
  generalize mayW xs = b3 at hI ⊢
  cases b1 <;> cases b2 <;> cases b3
  all_goals
    go_enter Try.func9, Try.ntmps9
    go_wp2_with (first | (go_at_call 18; refine (hP _).mono ?_; rintro e w' ⟨rfl, rfl⟩) | (go_at_call 19; refine (hR _).mono ?_; rintro e w' ⟨rfl, rfl⟩) | (go_at_call 7; refine (hI _).mono ?_; rintro e w' ⟨rfl, rfl⟩))
    go_ret
    exact ⟨rfl, (Below.refl _ _).alloc (Nat.le_refl _) _⟩

set_option maxHeartbeats 400000 in
theorem pageFault_any (p r : Int) (a : Option Addr) (xs : List Int) (cap : Nat) (w : World) (hl : xs.length ≤ maxLen) (hx : Ints w a xs) :
    Calls Try.prog 10 #[.agg #[.int .i64 p, .int .i64 r, .slice a xs.length cap]] w fun e w' => e = .returned (.int .i64 (pageF p r xs)) ∧ Below w.heap.size w w' := by
  have hI := fun o => wordsMay_any a xs cap (w.alloc o) hl (hx.alloc o)
  unfold pageF
  clear hl hx
  generalize mayW xs = b3 at hI ⊢
  cases h1 : inB p 0 7 <;> cases h2 : inB r 0 7 <;> cases b3
  all_goals
    go_enter Try.func10, Try.ntmps10
    go_wp2_with (first | (go_at_call 17; refine (in_any _ _ _ _).mono ?_; rintro e w' ⟨rfl, rfl⟩) | (go_at_call 8; refine (hI _).mono ?_; rintro e w' ⟨rfl, rfl⟩))
    go_ret
    exact ⟨rfl, (Below.refl _ _).alloc (Nat.le_refl _) _⟩

end Go.Proofs.Ytkfjjloplfgbfaa
