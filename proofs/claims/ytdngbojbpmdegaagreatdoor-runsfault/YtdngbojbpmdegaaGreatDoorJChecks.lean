/-
  What the call entry (image) answers: the name, a blank and a decimal numeral for each number, and a semicolon; nothing that was in memory turns. The conditions: few and small numbers of 64 bits, a short name, the library's table of powers of ten as it is laid. What the reference's dec answers: a number's decimal digits; nothing that was in memory turns. The condition: the number is not below 0 and fits. What the calls Added (image) and PutText (riddleref) answer, for every place and every rights of 64 bits: both the same text and the same error number; nothing that was in memory turns. What the calls Words (image) and WordsMay (riddleref) answer for every slice of integers: both answer whether the words may be a page's, and turn nothing in memory. What the calls Held (image) and HeldText (riddleref) answer, for every place and every list of words: both the same text and the same error number; nothing that was in memory turns. What the call CheckPage (image) answers for every page: what the page is refused for; it turns nothing that was in memory. The condition: the rights fit 64 bits, the words' cells are there. What the call PageFault (riddleref) answers for every page: what the page is refused for, as CheckPage (image); it turns nothing that was in memory. The condition: the words' cells are there. What the calls Check (image) and ImageFault (riddleref) answer for every list of pages: both answer what the image is refused for, and turn nothing that was in memory.
-/
import Derived.Test.YtdngbojbpmdegaaGreatDoorJBuilder
import Derived.Lib.ItoaLen
import Derived.Lib.AppendIntMem
import Derived.Laws.BytesString
import Derived.Laws.BytesArg
import Derived.Laws.Concat
import Derived.Outline
import Derived.Deep.Heap
import Derived.Deep.QuietTactic
import Derived.BigQuiet
namespace Go.Proofs.YtdngbojbpmdegaaGreatDoor
open Go.RowKit

/-- the library's table is as it is laid -/
abbrev Tab (w : World) : Prop := Lib.TabIs Tryz.prog w "internal/strconv.uint64pow10" .u64 Lib.pow10Tab
theorem Tab.below {w w' : World} (h : Tab w) (hb : Below w.heap.size w w') : Tab w' := Lib.tabBelow_of_tabIs h w' hb

/-- numbers as they are measured: a blank ahead of each -/
def numsL (xs : List Int) : List UInt8 := xs.flatMap fun n => 32 :: Lib.itoa n
/-- an entry of what is measured -/
def entryL (nm : List UInt8) (xs : List Int) : List UInt8 := nm ++ numsL xs ++ [59]

theorem numsL_le (xs : List Int) (h : ∀ n ∈ xs, (Lit.int .i64 n).wf = true) : (numsL xs).length ≤ 22 * xs.length := by
  induction xs with
  | nil => simp [numsL]
  | cons n xs ih =>
    have h1 := i64_wf (h n (by simp))
    have h2 := Lib.itoa_length_le n h1.1 h1.2
    have h3 := ih fun m hm => h m (by simp [hm])
    simp only [numsL, List.flatMap_cons, List.length_append, List.length_cons] at h3 ⊢
    omega

theorem bld_below {B b : Nat} {bs : List Value} {w w' : World} (h : Bld B b bs w) (hb : Below w.heap.size w w') : Bld B b bs w' := by
  have hlt := h.lt
  obtain ⟨hB, v, hbk, hown, hne⟩ := h
  exact ⟨hB, v, (hb.block b hlt).trans hbk, hown.kept (row := none) ⟨hb.os, hb.tape, hb.output, hb.size, fun k hk _ => hb.block k hk⟩ (by cases hv : v.ownBlock <;> simp), hne⟩

theorem take_nums (xs : List Int) (k : Nat) (h : k < xs.length) : numsL (xs.take (k + 1)) = numsL (xs.take k) ++ (32 :: Lib.itoa (xs.getD k 0)) := by
  unfold numsL
  rw [List.take_succ_eq_append_getElem h, List.flatMap_append]
  simp [List.getD_eq_getElem?_getD, h]

theorem itoa_any (n : Int) (h : (Lit.int .i64 n).wf = true) (w : World) (ht : Tab w) :
    Calls Tryz.prog 142 #[.int .i64 n] w fun e w' => e = .returned (.string ⟨(Lib.itoa n).toArray⟩) ∧ Below w.heap.size w w' := by
  have hb := i64_wf h
  refine (Any.strconv_Itoa Tryz.laysM171 n hb.1 hb.2 w ht).mono ?_
  rintro e w' ⟨rfl, k, os, rfl⟩
  exact ⟨rfl, Lib.below_grow _ _ (Nat.le_refl _) _ _⟩

set_option maxHeartbeats 2000000 in
set_option maxRecDepth 100000 in
theorem entry_any (nm : ByteArray) (a : Option Addr) (xs : List Int) (cap : Nat) (w : World) (hn : nm.size ≤ 1000) (hl : xs.length ≤ 1000) (hx : Ints w a xs) (hwf : ∀ n ∈ xs, (Lit.int .i64 n).wf = true) (ht : Tab w) :
    Calls Tryz.prog 123 #[.string nm, .slice a xs.length cap] w fun e w' => e = .returned (.string ⟨(entryL nm.data.toList xs).toArray⟩) ∧ Below w.heap.size w w' := by
  have hfresh : IsBld w.heap.size w.heap.size [] (w.alloc (.cells #[.pointer none, .slice none 0 0] 176)) := Lib.fresh_isBuilder _ _ w
  have hw1 := writeString_any w.heap.size w.heap.size [] nm _ hfresh (by simp; omega) (by simp)
  go_enter Tryz.func123, Tryz.ntmps123
  go_wp2_with (go_at_call 140; go_must (refine hw1.mono ?_); rintro e w1 ⟨rfl, h1, hb1⟩)
  go_loopw [12] (fun i wr => ∃ k : Nat, k ≤ xs.length ∧ i = .int .i64 k ∧ Bld w.heap.size w.heap.size (Lib.byteCells (nm.data.toList ++ numsL (xs.take k))) wr ∧ Below w.heap.size w wr ∧ w.heap.size < wr.heap.size) (fun i _ => xs.length - (intOf i).toNat)
  case atStart =>
    have hs := hb1.size
    exact ⟨0, Nat.zero_le _, rfl, by simpa [numsL, Lib.strCells_eq] using h1, ((Below.refl _ _).alloc (Nat.le_refl _) _).trans hb1, by simp at hs; omega⟩
  case round =>
    obtain ⟨k, hk, rfl, hB, hbel, hsz⟩ := hrel
    clear hw1 hfresh h1 hb1
    have hlen : (nm.data.toList ++ numsL (xs.take k)).length ≤ 1000 + 22 * xs.length := by
      have h1 := numsL_le (xs.take k) fun n hn => hwf n (List.mem_of_mem_take hn)
      have h2 : nm.data.toList.length = nm.size := Array.length_toList
      simp only [List.length_append, List.length_take] at h1 ⊢
      omega
    by_cases hlt : k < xs.length
    · rcases (hx.below hbel) with h0 | ⟨b, off, rfl, hc⟩
      · simp [h0] at hlt
      · have hck := hc k hlt
        obtain ⟨z, hz⟩ : ∃ z, xs.getD k 0 = z := ⟨_, rfl⟩
        have hzwf : (Lit.int .i64 z).wf = true := by rw [← hz]; exact hwf _ (by simp [List.getD_eq_getElem?_getD, hlt])
        have HZ : Hid (numsL (xs.take (k + 1)) = numsL (xs.take k) ++ (32 :: Lib.itoa z)) := by rw [← hz]; exact take_nums xs k hlt
        rw [hz] at hck
        clear hz hc
        have g1 := writeByte_any w.heap.size w.heap.size (Lib.byteCells (nm.data.toList ++ numsL (xs.take k))) 32 wr (.inr hB) (by rw [Lib.byteCells_length]; omega) (by omega)
        have g2 := fun w' (h : Below w.heap.size wr w') => itoa_any z hzwf w' (ht.below (hbel.trans h))
        have g3 := fun w' (h : Bld w.heap.size w.heap.size (Lib.byteCells (nm.data.toList ++ numsL (xs.take k)) ++ [.int .u8 32]) w') (hz : w.heap.size ≤ w'.heap.size) => writeString_any w.heap.size w.heap.size _ ⟨(Lib.itoa z).toArray⟩ w' (.inr h) (by
          have := Lib.itoa_length_le z (i64_wf hzwf).1 (i64_wf hzwf).2
          have e : (ByteArray.mk (Lib.itoa z).toArray).size = (Lib.itoa z).length := by simp [ByteArray.size]
          rw [e]
          simp only [List.length_append, Lib.byteCells_length, List.length_cons, List.length_nil] at hlen ⊢
          omega) hz
        clear hx ht hwf hzwf
        go_wp2_with (first
          | (go_at_call 141; go_must (refine g1.mono ?_); rintro e w2 ⟨rfl, hB2, hb2⟩; have hs2 := hb2.size)
          | (go_at_call 142; go_must (refine (g2 _ hb2).mono ?_); rintro e w3 ⟨rfl, hb3⟩; have hs3 := hb3.size)
          | (go_at_call 140; go_must (refine (g3 _ (bld_below hB2 hb3) (by omega)).mono ?_); rintro e w4 ⟨rfl, hB4, hb4⟩; have hs4 := hb4.size))
        go_roundw
        case rel =>
          refine ⟨k + 1, by omega, by go_num, ?_, ((hbel.trans hb2).trans (hb3.mono (by omega))).trans hb4, by omega⟩
          rw [HZ.out]
          have e : Lib.byteCells (nm.data.toList ++ (numsL (xs.take k) ++ (32 :: Lib.itoa z))) = Lib.byteCells (nm.data.toList ++ numsL (xs.take k)) ++ [.int .u8 32] ++ Lib.strCells ⟨(Lib.itoa z).toArray⟩ := by
            simp [Lib.byteCells, Lib.strCells]
          rw [e]
          exact hB4
        case measure => simp [intOf]; omega
    · have hkl : k = xs.length := by omega
      subst hkl
      rw [List.take_of_length_le (Nat.le_refl _)] at hB hlen
      have g1 := writeByte_any w.heap.size w.heap.size (Lib.byteCells (nm.data.toList ++ numsL xs)) 59 wr (.inr hB) (by rw [Lib.byteCells_length]; omega) (by omega)
      have g2 := fun w' (h : Bld w.heap.size w.heap.size (Lib.byteCells (nm.data.toList ++ numsL xs) ++ [.int .u8 59]) w') => string_any w.heap.size w.heap.size (entryL nm.data.toList xs) w' (.inr (by simpa [entryL, Lib.byteCells] using h)) (by simp [entryL])
      clear hx ht hwf
      go_wp2_with (first
        | (go_at_call 141; go_must (refine g1.mono ?_); rintro e w2 ⟨rfl, hB2, hb2⟩)
        | (go_at_call 143; go_must (refine (g2 _ hB2).mono ?_); rintro e w3 ⟨rfl, hb3⟩))
      go_ret
      exact ⟨rfl, (hbel.trans hb2).trans hb3⟩

end Go.Proofs.YtdngbojbpmdegaaGreatDoor

namespace Go.Proofs.YtdngbojbpmdegaaGreatDoor
open Go.RowKit

/-- a text of bytes -/
def txt (l : List UInt8) : ByteArray := ⟨l.toArray⟩
theorem txt_size (l : List UInt8) : (txt l).size = l.length := by simp [txt, ByteArray.size]
theorem txt_append (a b : List UInt8) : txt a ++ txt b = txt (a ++ b) := ByteArray.mk_append_mk a b
end Go.Proofs.YtdngbojbpmdegaaGreatDoor

namespace Go.Proofs.YtdngbojbpmdegaaGreatDoor
open Go.RowKit

def sPage : List UInt8 := [112, 97, 103, 101]
/-- what is measured of a page that is put there -/
def putS (p r : Int) : ByteArray := txt (entryL sPage [p, r])
set_option maxHeartbeats 1000000 in
theorem added_any (p r : Int) (w : World) (hp : (Lit.int .i64 p).wf = true) (hr : (Lit.int .i64 r).wf = true) (ht : Tab w) :
    Calls Tryz.prog 89 #[.int .i64 p, .int .i64 r] w fun e w' =>
      e = .returned (if (inB p 0 7 && inB r 0 7) = true then .tuple #[.string (putS p r), .int .i64 0] else .tuple #[.string ⟨#[]⟩, .int .i64 2]) ∧ Below w.heap.size w w' := by
  have hP := fun w => isPlace_any p w
  have hR := fun w => areRights_any r w hr
  have hE := entry_any ⟨#[112, 97, 103, 101]⟩ (some ⟨w.heap.size, 0, none⟩) [p, r] 2 (w.alloc (.cells #[.int .i64 p, .int .i64 r] 3)) (by decide) (by simp)
    (.inr ⟨_, _, rfl, fun j hj => by
      match j, hj with
      | 0, _ => simp
      | 1, _ => simp⟩) (fun n hn => by simp at hn; rcases hn with rfl | rfl <;> assumption) (ht.below ((Below.refl _ _).alloc (Nat.le_refl _) _))
  have hS : Hid (txt (entryL sPage [p, r]) = putS p r) := rfl
  have hE' : Calls Tryz.prog 123 #[.string ⟨#[112, 97, 103, 101]⟩, .slice (some ⟨w.heap.size, 0, none⟩) 2 2] (w.alloc (.cells #[.int .i64 p, .int .i64 r] 3)) fun e w' => e = .returned (.string (putS p r)) ∧ Below (w.alloc (.cells #[.int .i64 p, .int .i64 r] 3)).heap.size (w.alloc (.cells #[.int .i64 p, .int .i64 r] 3)) w' := hE
  clear hE hS ht hp hr
  generalize putS p r = S at hE' ⊢
  generalize inB p 0 7 = b1 at hP ⊢
  generalize inB r 0 7 = b2 at hR ⊢
  cases b1 <;> cases b2
  all_goals
    go_enter Tryz.func89, Tryz.ntmps89
    go_wp2_with (first | (go_at_call 124; refine (hP _).mono ?_; rintro e w' ⟨rfl, rfl⟩) | (go_at_call 125; refine (hR _).mono ?_; rintro e w' ⟨rfl, rfl⟩) | (go_at_call 123; go_must (refine hE'.mono ?_); rintro e w1 ⟨rfl, hb⟩))
    go_ret2
    first | exact ⟨rfl, Below.refl _ _⟩ | exact ⟨rfl, ((Below.refl _ _).alloc (Nat.le_refl _) _).trans (hb.mono (by simp))⟩

end Go.Proofs.YtdngbojbpmdegaaGreatDoor

namespace Go.Proofs.YtdngbojbpmdegaaGreatDoor
open Go.RowKit

theorem noWord_any (n : Int) (w : World) : Calls Tryz.prog 144 #[.int .i64 n] w fun e w' => e = .returned (.bool (!inB n 0 65535)) ∧ w = w' := by
  by_cases h1 : n < 0
  · rw [inB_low (by omega)]
    go_enter Tryz.func144, Tryz.ntmps144
    go_wp2
    go_ret
    exact ⟨rfl, rfl⟩
  · by_cases h2 : 65535 < n
    · rw [inB_high (by omega)]
      go_enter Tryz.func144, Tryz.ntmps144
      go_wp2
      go_ret
      exact ⟨rfl, rfl⟩
    · rw [inB_true (by omega) (by omega)]
      go_enter Tryz.func144, Tryz.ntmps144
      go_wp2
      go_ret
      exact ⟨rfl, rfl⟩

theorem hid_snoc {xs : List Int} {k : Nat} (h : Hid (∀ j, j < k → inB (xs.getD j 0) 0 65535 = true)) (hg : inB (xs.getD k 0) 0 65535 = true) :
    Hid (∀ j, j < k + 1 → inB (xs.getD j 0) 0 65535 = true) := fun j hj => by
  by_cases e : j < k
  · exact h.out j e
  · have : j = k := by omega
    subst this; exact hg

theorem any_of (xs : List Int) (k : Nat) (hk : k < xs.length) (hg : inB (xs.getD k 0) 0 65535 = false) :
    decide ((0 : Int) ≤ (k : Int)) = !(xs.all fun n => inB n 0 65535) := by rw [not_all xs k hk hg]; simp
theorem none_of (xs : List Int) (h : ∀ j, j < xs.length → inB (xs.getD j 0) 0 65535 = true) :
    decide ((0 : Int) ≤ -1) = !(xs.all fun n => inB n 0 65535) := by rw [all_upto xs h]; rfl

set_option maxHeartbeats 400000 in
theorem index_any (a : Option Addr) (xs : List Int) (cap : Nat) (w : World) (hl : xs.length ≤ maxLen) (hx : Ints w a xs) :
    Calls Tryz.prog 121 #[.slice a xs.length cap, .func (.func 144) #[] #[]] w fun e w' =>
      ∃ n : Int, e = .returned (.int .i64 n) ∧ (decide (0 ≤ n) = !(xs.all fun n => inB n 0 65535)) ∧ w = w' := by
  unfold maxLen at hl
  rcases hx with rfl | ⟨b, off, rfl, hc⟩
  · go_enter Tryz.func121, Tryz.ntmps121
    go_wp2
    refine wp_loop_rounds 1 ?_
    rw [rounds_succ]
    go_wp2
    go_ret
    exact ⟨_, rfl, rfl, rfl⟩
  · go_enter Tryz.func121, Tryz.ntmps121
    go_wp2
    go_loop [8] (fun i => ∃ k : Nat, k ≤ xs.length ∧ i = .int .i64 k ∧ Hid (∀ j, j < k → inB (xs.getD j 0) 0 65535 = true)) (fun i => xs.length - (intOf i).toNat)
    case atStart => exact ⟨0, Nat.zero_le _, rfl, fun j hj => absurd hj (by omega)⟩
    case round =>
      obtain ⟨k, hk, rfl, hid⟩ := hrel
      by_cases hlt : k < xs.length
      · have hck := hc k hlt
        obtain ⟨z, hz⟩ : ∃ z, xs.getD k 0 = z := ⟨_, rfl⟩
        rw [hz] at hck
        clear hc
        cases hg : inB z 0 65535 with
        | true =>
          have HG : Hid (inB (xs.getD k 0) 0 65535 = true) := by rw [hz]; exact hg
          clear hz
          go_wp2_with (go_at_call 144; refine (noWord_any _ _).mono ?_; rintro e w' ⟨rfl, rfl⟩)
          go_round
          case rel => exact ⟨k + 1, by omega, by go_num, hid_snoc hid HG.out⟩
          case measure => simp [intOf]; omega
        | false =>
          have HG : Hid (inB (xs.getD k 0) 0 65535 = false) := by rw [hz]; exact hg
          clear hz
          go_wp2_with (go_at_call 144; refine (noWord_any _ _).mono ?_; rintro e w' ⟨rfl, rfl⟩)
          go_ret
          exact ⟨_, rfl, any_of xs k hlt HG.out, rfl⟩
      · have hkl : k = xs.length := by omega
        subst hkl
        go_wp2
        go_ret
        exact ⟨_, rfl, none_of xs hid.out, rfl⟩

theorem contains_any (a : Option Addr) (xs : List Int) (cap : Nat) (w : World) (hl : xs.length ≤ maxLen) (hx : Ints w a xs) :
    Calls Tryz.prog 85 #[.slice a xs.length cap, .func (.func 144) #[] #[]] w fun e w' =>
      e = .returned (.bool (!(xs.all fun n => inB n 0 65535))) ∧ w = w' := by
  have hI := index_any a xs cap w hl hx
  clear hx hl
  go_enter Tryz.func85, Tryz.ntmps85
  go_wp2_with (go_at_call 121; refine hI.mono ?_; rintro e w' ⟨n, rfl, hn, rfl⟩)
  go_ret
  exact ⟨ret_bool (by first | exact hn | (rw [← hn])), rfl⟩

theorem words_any (a : Option Addr) (xs : List Int) (cap : Nat) (w : World) (hl : xs.length ≤ maxLen) (hx : Ints w a xs) :
    Calls Tryz.prog 126 #[.slice a xs.length cap] w fun e w' => e = .returned (.bool (mayW xs)) ∧ w = w' := by
  have hI := contains_any a xs cap w hl hx
  clear hx hl
  by_cases h8 : xs.length = 8
  · have ha : mayW xs = xs.all fun n => inB n 0 65535 := by simp [mayW, h8]
    rw [ha]
    generalize (xs.all fun n => inB n 0 65535) = r at hI
    rw [h8] at hI ⊢
    clear ha h8
    cases r
    all_goals
      go_enter Tryz.func126, Tryz.ntmps126
      go_wp2_with (go_at_call 85; refine hI.mono ?_; rintro e w' ⟨rfl, rfl⟩)
      go_ret
      exact ⟨rfl, rfl⟩
  · rw [mayW_len h8]
    have h9 : ((xs.length : Int) == 8) = false := by simp; omega
    clear h8 hI
    go_enter Tryz.func126, Tryz.ntmps126
    go_wp2
    go_ret
    exact ⟨rfl, rfl⟩

end Go.Proofs.YtdngbojbpmdegaaGreatDoor

namespace Go.Proofs.YtdngbojbpmdegaaGreatDoor
open Go.RowKit

def sWords : List UInt8 := [119, 111, 114, 100, 115]
/-- what is measured of the words of a page -/
def heldS (p : Int) (ws : List Int) : ByteArray := txt (entryL sWords (p :: ws))
/-- the text, or what it is refused for -/
def heldV (p : Int) (ws : List Int) : Value :=
  if inB p 0 7 = true then (if mayW ws = true then .tuple #[.string (heldS p ws), .int .i64 0] else .tuple #[.string ⟨#[]⟩, .int .i64 4]) else .tuple #[.string ⟨#[]⟩, .int .i64 2]

theorem held_info : (Tryz.prog.info? 3).map (fun i => (i.zero, i.size, i.bytes)) = some (some (.int .i64 0), 1, 8) := by kernel_rfl
/-- the words of a page as cells -/
def icells (ws : List Int) : List Value := ws.map (Value.int .i64)
theorem icells_get (ws : List Int) (j : Nat) (h : j < ws.length) : (icells ws)[j]? = some (.int .i64 (ws.getD j 0)) := by
  simp [icells, h, List.getD_eq_getElem?_getD]
theorem icells_one (xs : List Int) : ∀ v ∈ icells xs, v.oneCell' = true := by
  intro v hv
  simp [icells] at hv
  obtain ⟨n, _, rfl⟩ := hv
  rfl
theorem owned_ints {w : World} {B : Nat} {v : Value} {n : Nat} {xs : List Int} (h : w.ownsRow B 3 1 v n (icells xs)) : ∃ a cap, v = .slice a xs.length cap ∧ Ints w a xs := by
  have hn : xs.length = n := by have := h.1; simpa [icells] using this
  rcases h.2 with ⟨hv, h0⟩ | ⟨g, cap, cur, hv, _, hg, hc, _, hs, ht⟩
  · refine ⟨none, 0, by rw [hv, hn, h0], .inl (List.eq_nil_of_length_eq_zero (by omega))⟩
  · refine ⟨_, cap, by rw [hv, hn], .inr ⟨g, 0, rfl, fun j hj => ?_⟩⟩
    have e := icells_get xs j hj
    rw [← ht] at e
    rw [List.getElem?_take_of_lt (by omega)] at e
    simpa [World.cell?, hg] using e

theorem held_next {w w1 : World} {p : Int} {xs : List Int} {v' : Value} (hown' : w1.ownsRow w.heap.size 3 1 v' (1 + xs.length) (icells [p] ++ icells xs))
    (hgrow : (w.alloc (.cells #[.int .i64 p] 3)).grownBy w1 (some w.heap.size)) : ∃ a cap, v' = .slice a (p :: xs).length cap ∧ Ints w1 a (p :: xs) ∧ Below w.heap.size w w1 := by
  have hown2 : w1.ownsRow w.heap.size 3 1 v' (1 + xs.length) (icells (p :: xs)) := hown'
  obtain ⟨a', cap', hv, hI⟩ := owned_ints hown2
  exact ⟨a', cap', hv, hI, ((Below.refl _ _).alloc (Nat.le_refl _) _).grown hgrow (by simp) (fun k hk => by simp at hk; omega)⟩

set_option maxRecDepth 100000 in
set_option maxHeartbeats 2000000 in
theorem held_any (p : Int) (a : Option Addr) (xs : List Int) (cap : Nat) (w : World) (hp : (Lit.int .i64 p).wf = true) (hl : xs.length ≤ maxLen) (hx : Ints w a xs) (ht : Tab w) :
    Calls Tryz.prog 90 #[.int .i64 p, .slice a xs.length cap] w fun e w' => e = .returned (heldV p xs) ∧ Below w.heap.size w w' := by
  have hP := fun w => isPlace_any p w
  have hW := words_any a xs cap w hl hx
  unfold heldV
  cases h1 : inB p 0 7
  · rw [h1] at hP
    clear hx hl ht hp h1
    go_enter Tryz.func90, Tryz.ntmps90
    go_wp2_with (go_at_call 124; refine (hP _).mono ?_; rintro e w' ⟨rfl, rfl⟩)
    go_ret2
    exact ⟨rfl, Below.refl _ _⟩
  · rw [h1] at hP
    cases h2 : mayW xs
    · rw [h2] at hW
      clear hx hl ht hp h1 h2
      go_enter Tryz.func90, Tryz.ntmps90
      go_wp2_with (first | (go_at_call 124; refine (hP _).mono ?_; rintro e w' ⟨rfl, rfl⟩) | (go_at_call 126; refine hW.mono ?_; rintro e w' ⟨rfl, rfl⟩))
      go_ret2
      exact ⟨rfl, Below.refl _ _⟩
    · obtain ⟨hlen, hall⟩ := mayW_iff.1 h2
      rcases hx with rfl | ⟨b, off, rfl, hc⟩
      · simp at hlen
      · rw [h2] at hW
        have HL : Hid (xs.length = 8) := hlen
        obtain ⟨i0, hi, hz0, hz1, hz2⟩ := info_parts held_info
        have hown : (w.alloc (.cells #[.int .i64 p] 3)).ownsRow w.heap.size 3 1 (.slice (some ⟨w.heap.size, 0, none⟩) 1 1) 1 (icells [p]) :=
          ⟨by simp [icells], .inr ⟨w.heap.size, 1, #[.int .i64 p], rfl, Nat.le_refl _, Go.Deep.blk_alloc_new w _, Nat.le_refl _, by unfold maxLen; omega, rfl, rfl⟩⟩
        have hnews : Hid (∀ j u, (icells xs)[j]? = some u → (w.alloc (.cells #[.int .i64 p] 3)).cell? ((⟨b, off, none⟩ : Addr).add j) = some u) := fun j u hj => by
          have hj' : j < xs.length := by
            have := (List.getElem?_eq_some_iff.1 hj).1
            simpa [icells] using this
          rw [icells_get xs j hj'] at hj
          rw [add_at, World.cell?_alloc_past _ _ _ (by simpa using lt_of_cell (hc j hj')), hc j hj']
          exact hj
        have hE := fun a cap w1 (h : Ints w1 a (p :: xs)) (hb : Below w.heap.size w w1) => entry_any ⟨#[119, 111, 114, 100, 115]⟩ a (p :: xs) cap w1 (by decide) (by simp; omega) h (fun n hn => by
            rcases List.mem_cons.1 hn with rfl | hn
            · exact hp
            · have := hall n hn
              simp [Lit.wf, IntKind.min, IntKind.max, IntKind.bits, IntKind.signed]; omega) (ht.below hb)
        have hE' : ∀ a cap w1, Ints w1 a (p :: xs) → Below w.heap.size w w1 → Calls Tryz.prog 123 #[.string ⟨#[119, 111, 114, 100, 115]⟩, .slice a (p :: xs).length cap] w1 fun e w' => e = .returned (.string (heldS p xs)) ∧ Below w1.heap.size w1 w' := hE
        generalize heldS p xs = S at hE' ⊢
        clear hE ht hp h1 h2 hc hall hlen hl
        go_enter Tryz.func90, Tryz.ntmps90
        go_wp2_with (first | (go_at_call 124; refine (hP _).mono ?_; rintro e w' ⟨rfl, rfl⟩) | (go_at_call 126; refine hW.mono ?_; rintro e w' ⟨rfl, rfl⟩) | (at_builtin; refine wpList_append_own _ rfl _ _ 30 rfl w.heap.size 3 i0 (.int .i64 0) 1 8 Tryz.underlying30 hi hz0 hz1 hz2 rfl (by decide) _ _ _ rfl hown ⟨b, off, none⟩ xs.length cap (icells xs) rfl (by simp [icells]) hnews.out (icells_one xs) (by have := HL.out; unfold maxLen; omega) (by have := HL.out; omega) (by simp) ?_))
        intro v' w1 hown' hgrow _
        obtain ⟨a', cap', hv, hI, hb1⟩ := held_next hown' hgrow
        rw [hv]
        have hE2 := hE' a' cap' w1 hI hb1
        clear hE' hown hown' hgrow hnews hI hv
        go_wp2_with (go_at_call 123; go_must (refine hE2.mono ?_); rintro e w2 ⟨rfl, hb⟩)
        go_ret2
        exact ⟨rfl, hb1.trans (hb.mono hb1.size)⟩

theorem wf_of {n : Int} (h : 0 ≤ n ∧ n ≤ 65535) : (Lit.int .i64 n).wf = true := by
  simp [Lit.wf, IntKind.min, IntKind.max, IntKind.bits, IntKind.signed]; omega

end Go.Proofs.YtdngbojbpmdegaaGreatDoor

namespace Go.Proofs.YtdngbojbpmdegaaGreatDoor
open Go.RowKit

set_option maxHeartbeats 400000 in
theorem checkPage_any (p r : Int) (a : Option Addr) (xs : List Int) (cap : Nat) (w : World) (hr : (Lit.int .i64 r).wf = true) (hl : xs.length ≤ maxLen) (hx : Ints w a xs) :
    Calls Tryz.prog 115 #[.agg #[.int .i64 p, .int .i64 r, .slice a xs.length cap]] w fun e w' => e = .returned (.int .i64 (pageF p r xs)) ∧ Below w.heap.size w w' := by
  have hI := fun o => words_any a xs cap (w.alloc o) hl (hx.alloc o)
  have hP := fun w => isPlace_any p w
  have hR := fun w => areRights_any r w hr
  unfold pageF
  clear hl hx hr
  generalize inB p 0 7 = b1 at hP ⊢
  generalize inB r 0 7 = b2 at hR ⊢
  generalize mayW xs = b3 at hI ⊢
  cases b1 <;> cases b2 <;> cases b3
  all_goals
    go_enter Tryz.func115, Tryz.ntmps115
    go_wp2_with (first | (go_at_call 124; refine (hP _).mono ?_; rintro e w' ⟨rfl, rfl⟩) | (go_at_call 125; refine (hR _).mono ?_; rintro e w' ⟨rfl, rfl⟩) | (go_at_call 126; refine (hI _).mono ?_; rintro e w' ⟨rfl, rfl⟩))
    go_ret
    exact ⟨rfl, (Below.refl _ _).alloc (Nat.le_refl _) _⟩

end Go.Proofs.YtdngbojbpmdegaaGreatDoor

namespace Go.Proofs.YtdngbojbpmdegaaGreatDoor
open Go.RowKit

end Go.Proofs.YtdngbojbpmdegaaGreatDoor

namespace Go.Proofs.YtdngbojbpmdegaaGreatDoor
open Go.RowKit

/-- what a page is refused for -/
def Pg.f (p : Pg) : Int := pageF p.at_ p.r p.ws
/-- what is wrong with the rest of an image (0: nothing), behind a page at a place -/
def imgF : Option Int → List Pg → Int
  | _, [] => 0
  | none, p :: l => if p.f = 0 then imgF (some p.at_) l else p.f
  | some q, p :: l => if p.f = 0 then (if p.at_ ≤ q then 12 else imgF (some p.at_) l) else p.f
/-- the place of the page ahead of number k -/
def prev (ps : List Pg) (k : Nat) : Option Int := if k = 0 then none else some (ps.getD (k - 1) default).at_
def imageF (ps : List Pg) : Int := imgF none ps

theorem drop_at (ps : List Pg) (k : Nat) (h : k < ps.length) : ps.drop k = ps.getD k default :: ps.drop (k + 1) := by
  rw [List.drop_eq_getElem_cons h]; simp [List.getD_eq_getElem?_getD, h]
theorem imgF_bad (ps : List Pg) (k : Nat) (h : k < ps.length) (hz : ¬ (ps.getD k default).f = 0) : imgF (prev ps k) (ps.drop k) = (ps.getD k default).f := by
  rw [drop_at ps k h]
  cases prev ps k <;> simp only [imgF, if_neg hz]
theorem imgF_first (ps : List Pg) (h : 0 < ps.length) (hz : (ps.getD 0 default).f = 0) : imgF (prev ps 0) (ps.drop 0) = imgF (prev ps (0 + 1)) (ps.drop (0 + 1)) := by
  rw [drop_at ps 0 h]
  simp only [prev, imgF, if_pos hz, if_true]
  simp
theorem imgF_order (ps : List Pg) (k : Nat) (h : k < ps.length) (h0 : 0 < k) (hz : (ps.getD k default).f = 0) (hq : (ps.getD k default).at_ ≤ (ps.getD (k - 1) default).at_) : imgF (prev ps k) (ps.drop k) = 12 := by
  rw [drop_at ps k h, prev, if_neg (by omega)]
  simp only [imgF, if_pos hz, if_pos hq]
theorem imgF_next (ps : List Pg) (k : Nat) (h : k < ps.length) (h0 : 0 < k) (hz : (ps.getD k default).f = 0) (hq : ¬ (ps.getD k default).at_ ≤ (ps.getD (k - 1) default).at_) : imgF (prev ps k) (ps.drop k) = imgF (prev ps (k + 1)) (ps.drop (k + 1)) := by
  rw [drop_at ps k h, prev, if_neg (by omega)]
  simp only [imgF, if_pos hz, if_neg hq]
  simp [prev]
theorem imgF_end (ps : List Pg) : imgF (prev ps ps.length) (ps.drop ps.length) = 0 := by
  rw [List.drop_length]
  cases prev ps ps.length <;> rfl

theorem Pg.Ok.below {w w' : World} {p : Pg} (h : p.Ok w) (hb : Below w.heap.size w w') : p.Ok w' := ⟨h.wat, h.wr, h.len, h.ints.below hb, h.wws⟩
theorem PagesAt.below {w w' : World} {a : Option Addr} {ps : List Pg} (h : PagesAt w a ps) (hb : Below w.heap.size w w') : PagesAt w' a ps := by
  refine ⟨?_, fun j hj => (h.ok j hj).below hb⟩
  rcases h.at_ with h | ⟨b, off, h1, h2⟩
  · exact .inl h
  · refine .inr ⟨b, off, h1, fun j hj => ?_⟩
    obtain ⟨c0, c1, c2⟩ := h2 j hj
    exact ⟨(hb.cell (p := ⟨b, _, none⟩) (lt_of_cell c0)).trans c0, (hb.cell (p := ⟨b, _, none⟩) (lt_of_cell c1)).trans c1, (hb.cell (p := ⟨b, _, none⟩) (lt_of_cell c2)).trans c2⟩

theorem PagesAt.cells {w : World} {b off : Nat} {ps : List Pg} (h : PagesAt w (some ⟨b, off, none⟩) ps) {j : Nat} (hj : j < ps.length) :
    w.cell? ⟨b, off + j * 3, none⟩ = some (.int .i64 (ps.getD j default).at_) ∧ w.cell? ⟨b, off + j * 3 + 1, none⟩ = some (.int .i64 (ps.getD j default).r) ∧
      w.cell? ⟨b, off + j * 3 + 2, none⟩ = some (.slice (ps.getD j default).a (ps.getD j default).ws.length (ps.getD j default).cap) := by
  rcases h.at_ with rfl | ⟨b', off', h1, h2⟩
  · simp at hj
  · simp at h1
    obtain ⟨rfl, rfl⟩ := h1
    exact h2 j hj

theorem round_below {w wr w1 : World} {o : Obj} (h : Below w.heap.size w wr) (hb : Below (wr.alloc o).heap.size (wr.alloc o) w1) (n : Nat) : Below w.heap.size w (w1.drewN n) :=
  below_drewN (h.trans ((((Below.refl _ _).alloc (Nat.le_refl _) _).trans (hb.mono (by simp))).mono h.size)) n

set_option maxHeartbeats 800000 in
theorem check_any (a : Option Addr) (ps : List Pg) (cap : Nat) (w : World) (hl : ps.length ≤ maxLen) (hx : PagesAt w a ps) :
    Calls Tryz.prog 68 #[.slice a ps.length cap] w fun e w' => e = .returned (.int .i64 (imageF ps)) ∧ Below w.heap.size w w' := by
  unfold maxLen at hl
  rcases hx.at_ with rfl | ⟨b, off, rfl, hc⟩
  · clear hx
    go_enter Tryz.func68, Tryz.ntmps68
    go_wp2
    refine wp_loop_rounds 1 ?_
    rw [rounds_succ]
    go_wp2
    go_ret
    exact ⟨rfl, Below.refl _ _⟩
  · clear hc
    go_enter Tryz.func68, Tryz.ntmps68
    go_wp2
    go_loopw [8] (fun i wr => ∃ k : Nat, k ≤ ps.length ∧ i = .int .i64 k ∧ Below w.heap.size w wr ∧ Hid (imageF ps = imgF (prev ps k) (ps.drop k))) (fun i _ => ps.length - (intOf i).toNat)
    case atStart => exact ⟨0, Nat.zero_le _, rfl, Below.refl _ _, rfl⟩
    case round =>
      obtain ⟨k, hk, rfl, hbel, hid⟩ := hrel
      have hX := hx.below hbel
      by_cases hlt : k < ps.length
      · rcases hX.at_ with rfl | ⟨b', off', hab, hc⟩
        · simp at hlt
        · simp at hab
          obtain ⟨rfl, rfl⟩ := hab
          obtain ⟨c0, c1, c2⟩ := hc k hlt
          have hpre : 0 < k → wr.cell? ⟨b, off + (k - 1) * 3, none⟩ = some (.int .i64 (ps.getD (k - 1) default).at_) := fun _ => (hc (k - 1) (by omega)).1
          have hok := hX.ok k hlt
          obtain ⟨P, hP⟩ : ∃ P, ps.getD k default = P := ⟨_, rfl⟩
          obtain ⟨q, hq⟩ : ∃ q, (ps.getD (k - 1) default).at_ = q := ⟨_, rfl⟩
          rw [hP] at c0 c1 c2 hok
          rw [hq] at hpre
          have HP : Hid (ps.getD k default = P) := hP
          have HQ : Hid ((ps.getD (k - 1) default).at_ = q) := hq
          clear hP hq hc hx hX
          obtain ⟨pat, pr, pa, pws, pcap⟩ := P
          have hcall := fun w' (h : Below wr.heap.size wr w') => checkPage_any pat pr pa pws pcap w' hok.wr hok.len (hok.ints.below h)
          have HF : Hid ((Pg.mk pat pr pa pws pcap).f = pageF pat pr pws) := rfl
          clear hok
          dsimp only at c0 c1 c2
          generalize pageF pat pr pws = z at hcall HF
          by_cases hz : z = 0
          · subst hz
            by_cases hk0 : k = 0
            · subst hk0
              clear hpre
              simp at c0 c1 c2
              go_wp2_with (go_at_call 115; go_must (refine (hcall _ ((Below.refl _ _).alloc (Nat.le_refl _) _)).mono ?_); rintro e w1 ⟨rfl, hb⟩; obtain ⟨hc, hf⟩ := bcell hb)
              go_quiet (fail)
              go_wp2
              go_roundw
              case rel => exact ⟨0 + 1, by omega, by go_num, round_below hbel hb _, by rw [hid.out, imgF_first ps hlt (by rw [HP.out]; exact HF.out)]; exact rfl⟩
              case measure => simp [intOf]; omega
            · have hk1 : (0 : Int) < (k : Int) := by omega
              have hk2 : 0 < k := by omega
              have hp := hpre hk2
              clear hpre
              go_wp2_with (go_at_call 115; go_must (refine (hcall _ ((Below.refl _ _).alloc (Nat.le_refl _) _)).mono ?_); rintro e w1 ⟨rfl, hb⟩; obtain ⟨hc, hf⟩ := bcell hb)
              have hpw : w1.cell? ⟨b, off + (k - 1) * 3, none⟩ = some (.int .i64 q) := by
                rw [hc _ _ (by have := lt_of_cell hp; simp at this; simp; omega), World.cell?_alloc_past _ _ _ (by have := lt_of_cell hp; simpa using this)]; exact hp
              by_cases hle : pat ≤ q
              · go_quiet (fail)
                go_wp2
                go_ret
                exact ⟨ret_int (by rw [hid.out, imgF_order ps k hlt hk2 (by rw [HP.out]; exact HF.out) (by rw [HP.out, HQ.out]; exact hle)]), round_below hbel hb _⟩
              · go_quiet (fail)
                go_wp2
                go_roundw
                case rel => exact ⟨k + 1, by omega, by go_num, round_below hbel hb _, by rw [hid.out, imgF_next ps k hlt hk2 (by rw [HP.out]; exact HF.out) (by rw [HP.out, HQ.out]; exact hle)]; exact rfl⟩
                case measure => simp [intOf]; omega
          · have hz1 : (z != 0) = true := by simpa using hz
            clear hpre
            go_wp2_with (go_at_call 115; go_must (refine (hcall _ ((Below.refl _ _).alloc (Nat.le_refl _) _)).mono ?_); rintro e w1 ⟨rfl, hb⟩; obtain ⟨hc, hf⟩ := bcell hb)
            go_ret
            exact ⟨ret_int (by rw [hid.out, imgF_bad ps k hlt (by rw [HP.out, HF.out]; exact hz), HP.out, HF.out]), round_below hbel hb 0⟩
      · have hkl : k = ps.length := by omega
        subst hkl
        go_wp2
        go_ret
        exact ⟨ret_int (by rw [hid.out, imgF_end]), hbel⟩

end Go.Proofs.YtdngbojbpmdegaaGreatDoor
