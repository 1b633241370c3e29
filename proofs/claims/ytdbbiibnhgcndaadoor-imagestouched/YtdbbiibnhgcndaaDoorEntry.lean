/-
  What the call entry (image) answers: the name, a blank and a decimal numeral for each number, and a semicolon; nothing that was in memory turns. The conditions: few and small numbers of 64 bits, a short name, the library's table of powers of ten as it is laid.
-/
import Derived.Test.YtdbbiibnhgcndaaDoorBuilder
import Derived.Test.YtdbbiibnhgcndaaDoorSmall
import Derived.Lib.ItoaLen
import Derived.Lib.AppendIntMem
namespace Go.Proofs.YtdbbiibnhgcndaaDoor
open Go.RowKit

/-- the library's table is as it is laid -/
abbrev Tab (w : World) : Prop := Lib.TabIs Tryd.prog w "internal/strconv.uint64pow10" .u64 Lib.pow10Tab
theorem Tab.below {w w' : World} (h : Tab w) (hb : Below w.heap.size w w') : Tab w' := Lib.tabBelow_of_tabIs h w' hb

/-- numbers as they are measured: a blank ahead of each -/
def numsL (xs : List Int) : List UInt8 := xs.flatMap fun n => 32 :: Lib.itoa n
/-- an entry of what is measured -/
def entryL (nm : List UInt8) (xs : List Int) : List UInt8 := nm ++ numsL xs ++ [59]

theorem numsL_le (xs : List Int) (h : ∀ n ∈ xs, (Lit.int .i64 n).wf = true) : (numsL xs).length ≤ 22 * xs.length := by
  induction xs with
  | nil => simp [numsL]
  | cons n xs ih =>
    have h1 := i64_wf (h n (by simp))
    have h2 := Lib.itoa_length_le n h1.1 h1.2
    have h3 := ih fun m hm => h m (by simp [hm])
    simp only [numsL, List.flatMap_cons, List.length_append, List.length_cons] at h3 ⊢
    omega

theorem bld_below {B b : Nat} {bs : List Value} {w w' : World} (h : Bld B b bs w) (hb : Below w.heap.size w w') : Bld B b bs w' := by
  have hlt := h.lt
  obtain ⟨hB, v, hbk, hown, hne⟩ := h
  exact ⟨hB, v, (hb.block b hlt).trans hbk, hown.kept (row := none) ⟨hb.os, hb.tape, hb.output, hb.size, fun k hk _ => hb.block k hk⟩ (by cases hv : v.ownBlock <;> simp), hne⟩

theorem bytes_snoc (l : List UInt8) (c : UInt8) : Lib.byteCells l ++ [Value.int .u8 (c.toNat : Int)] = Lib.byteCells (l ++ [c]) := by simp [Lib.byteCells]
theorem take_nums (xs : List Int) (k : Nat) (h : k < xs.length) : numsL (xs.take (k + 1)) = numsL (xs.take k) ++ (32 :: Lib.itoa (xs.getD k 0)) := by
  unfold numsL
  rw [List.take_succ_eq_append_getElem h, List.flatMap_append]
  simp [List.getD_eq_getElem?_getD, h]

theorem itoa_any (n : Int) (h : (Lit.int .i64 n).wf = true) (w : World) (ht : Tab w) :
    Calls Tryd.prog 59 #[.int .i64 n] w fun e w' => e = .returned (.string ⟨(Lib.itoa n).toArray⟩) ∧ Below w.heap.size w w' := by
  have hb := i64_wf h
  refine (Any.strconv_Itoa Tryd.laysM171 n hb.1 hb.2 w ht).mono ?_
  rintro e w' ⟨rfl, k, os, rfl⟩
  exact ⟨rfl, Lib.below_grow _ _ (Nat.le_refl _) _ _⟩

set_option maxHeartbeats 2000000 in
set_option maxRecDepth 100000 in
theorem entry_any (nm : ByteArray) (a : Option Addr) (xs : List Int) (cap : Nat) (w : World) (hn : nm.size ≤ 1000) (hl : xs.length ≤ 1000) (hx : Ints w a xs) (hwf : ∀ n ∈ xs, (Lit.int .i64 n).wf = true) (ht : Tab w) :
    Calls Tryd.prog 32 #[.string nm, .slice a xs.length cap] w fun e w' => e = .returned (.string ⟨(entryL nm.data.toList xs).toArray⟩) ∧ Below w.heap.size w w' := by
  have hfresh : IsBld w.heap.size w.heap.size [] (w.alloc (.cells #[.pointer none, .slice none 0 0] 90)) := Lib.fresh_isBuilder _ _ w
  have hw1 := writeString_any w.heap.size w.heap.size [] nm _ hfresh (by simp; omega) (by simp)
  go_enter Tryd.func32, Tryd.ntmps32
  go_wp2_with (go_at_call 57; go_must (refine hw1.mono ?_); rintro e w1 ⟨rfl, h1, hb1⟩)
  go_loopw [12] (fun i wr => ∃ k : Nat, k ≤ xs.length ∧ i = .int .i64 k ∧ Bld w.heap.size w.heap.size (Lib.byteCells (nm.data.toList ++ numsL (xs.take k))) wr ∧ Below w.heap.size w wr ∧ w.heap.size < wr.heap.size) (fun i _ => xs.length - (intOf i).toNat)
  case atStart =>
    have hs := hb1.size
    exact ⟨0, Nat.zero_le _, rfl, by simpa [numsL, Lib.strCells_eq] using h1, ((Below.refl _ _).alloc (Nat.le_refl _) _).trans hb1, by simp at hs; omega⟩
  case round =>
    obtain ⟨k, hk, rfl, hB, hbel, hsz⟩ := hrel
    clear hw1 hfresh h1 hb1
    have hlen : (nm.data.toList ++ numsL (xs.take k)).length ≤ 1000 + 22 * xs.length := by
      have h1 := numsL_le (xs.take k) fun n hn => hwf n (List.mem_of_mem_take hn)
      have h2 : nm.data.toList.length = nm.size := Array.length_toList
      simp only [List.length_append, List.length_take] at h1 ⊢
      omega
    by_cases hlt : k < xs.length
    · rcases (hx.below hbel) with h0 | ⟨b, off, rfl, hc⟩
      · simp [h0] at hlt
      · have hck := hc k hlt
        obtain ⟨z, hz⟩ : ∃ z, xs.getD k 0 = z := ⟨_, rfl⟩
        have hzwf : (Lit.int .i64 z).wf = true := by rw [← hz]; exact hwf _ (by simp [List.getD_eq_getElem?_getD, hlt])
        have HZ : Hid (numsL (xs.take (k + 1)) = numsL (xs.take k) ++ (32 :: Lib.itoa z)) := by rw [← hz]; exact take_nums xs k hlt
        rw [hz] at hck
        clear hz hc
        have g1 := writeByte_any w.heap.size w.heap.size (Lib.byteCells (nm.data.toList ++ numsL (xs.take k))) 32 wr (.inr hB) (by rw [Lib.byteCells_length]; omega) (by omega)
        have g2 := fun w' (h : Below w.heap.size wr w') => itoa_any z hzwf w' (ht.below (hbel.trans h))
        have g3 := fun w' (h : Bld w.heap.size w.heap.size (Lib.byteCells (nm.data.toList ++ numsL (xs.take k)) ++ [.int .u8 32]) w') (hz : w.heap.size ≤ w'.heap.size) => writeString_any w.heap.size w.heap.size _ ⟨(Lib.itoa z).toArray⟩ w' (.inr h) (by
          have := Lib.itoa_length_le z (i64_wf hzwf).1 (i64_wf hzwf).2
          have e : (ByteArray.mk (Lib.itoa z).toArray).size = (Lib.itoa z).length := by simp [ByteArray.size]
          rw [e]
          simp only [List.length_append, Lib.byteCells_length, List.length_cons, List.length_nil] at hlen ⊢
          omega) hz
        clear hx ht hwf hzwf
        go_wp2_with (first
          | (go_at_call 58; go_must (refine g1.mono ?_); rintro e w2 ⟨rfl, hB2, hb2⟩; have hs2 := hb2.size)
          | (go_at_call 59; go_must (refine (g2 _ hb2).mono ?_); rintro e w3 ⟨rfl, hb3⟩; have hs3 := hb3.size)
          | (go_at_call 57; go_must (refine (g3 _ (bld_below hB2 hb3) (by omega)).mono ?_); rintro e w4 ⟨rfl, hB4, hb4⟩; have hs4 := hb4.size))
        go_roundw
        case rel =>
          refine ⟨k + 1, by omega, by go_num, ?_, ((hbel.trans hb2).trans (hb3.mono (by omega))).trans hb4, by omega⟩
          rw [HZ.out]
          have e : Lib.byteCells (nm.data.toList ++ (numsL (xs.take k) ++ (32 :: Lib.itoa z))) = Lib.byteCells (nm.data.toList ++ numsL (xs.take k)) ++ [.int .u8 32] ++ Lib.strCells ⟨(Lib.itoa z).toArray⟩ := by
            simp [Lib.byteCells, Lib.strCells]
          rw [e]
          exact hB4
        case measure => simp [intOf]; omega
    · have hkl : k = xs.length := by omega
      subst hkl
      rw [List.take_of_length_le (Nat.le_refl _)] at hB hlen
      have g1 := writeByte_any w.heap.size w.heap.size (Lib.byteCells (nm.data.toList ++ numsL xs)) 59 wr (.inr hB) (by rw [Lib.byteCells_length]; omega) (by omega)
      have g2 := fun w' (h : Bld w.heap.size w.heap.size (Lib.byteCells (nm.data.toList ++ numsL xs) ++ [.int .u8 59]) w') => string_any w.heap.size w.heap.size (entryL nm.data.toList xs) w' (.inr (by simpa [entryL, Lib.byteCells] using h)) (by simp [entryL])
      clear hx ht hwf
      go_wp2_with (first
        | (go_at_call 58; go_must (refine g1.mono ?_); rintro e w2 ⟨rfl, hB2, hb2⟩)
        | (go_at_call 60; go_must (refine (g2 _ hB2).mono ?_); rintro e w3 ⟨rfl, hb3⟩))
      go_ret
      exact ⟨rfl, (hbel.trans hb2).trans hb3⟩

end Go.Proofs.YtdbbiibnhgcndaaDoor
