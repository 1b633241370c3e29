/-
  What the calls Held (image) and HeldText (riddleref) answer, for every place and every list of words: both the same text and the same error number; nothing that was in memory turns.
-/
import Derived.Test.YteaabfnmnekbpaaDoorAdded
import Derived.Test.YteaabfnmnekbpaaDoorWords
import Derived.Deep.Heap
namespace Go.Proofs.YteaabfnmnekbpaaDoor
open Go.RowKit

def sWords : List UInt8 := [119, 111, 114, 100, 115]
/-- what is measured of the words of a page -/
def heldS (p : Int) (ws : List Int) : ByteArray := txt (entryL sWords (p :: ws))
/-- the text, or what it is refused for -/
def heldV (p : Int) (ws : List Int) : Value :=
  if inB p 0 7 = true then (if mayW ws = true then .tuple #[.string (heldS p ws), .int .i64 0] else .tuple #[.string ⟨#[]⟩, .int .i64 4]) else .tuple #[.string ⟨#[]⟩, .int .i64 2]

theorem held_info : (Tryd.prog.info? 3).map (fun i => (i.zero, i.size, i.bytes)) = some (some (.int .i64 0), 1, 8) := by kernel_rfl
/-- the words of a page as cells -/
def icells (ws : List Int) : List Value := ws.map (Value.int .i64)
theorem icells_get (ws : List Int) (j : Nat) (h : j < ws.length) : (icells ws)[j]? = some (.int .i64 (ws.getD j 0)) := by
  simp [icells, h, List.getD_eq_getElem?_getD]
theorem icells_one (xs : List Int) : ∀ v ∈ icells xs, v.oneCell' = true := by
  intro v hv
  simp [icells] at hv
  obtain ⟨n, _, rfl⟩ := hv
  rfl
theorem owned_ints {w : World} {B : Nat} {v : Value} {n : Nat} {xs : List Int} (h : w.ownsRow B 3 1 v n (icells xs)) : ∃ a cap, v = .slice a xs.length cap ∧ Ints w a xs := by
  have hn : xs.length = n := by have := h.1; simpa [icells] using this
  rcases h.2 with ⟨hv, h0⟩ | ⟨g, cap, cur, hv, _, hg, hc, _, hs, ht⟩
  · refine ⟨none, 0, by rw [hv, hn, h0], .inl (List.eq_nil_of_length_eq_zero (by omega))⟩
  · refine ⟨_, cap, by rw [hv, hn], .inr ⟨g, 0, rfl, fun j hj => ?_⟩⟩
    have e := icells_get xs j hj
    rw [← ht] at e
    rw [List.getElem?_take_of_lt (by omega)] at e
    simpa [World.cell?, hg] using e

theorem held_next {w w1 : World} {p : Int} {xs : List Int} {v' : Value} (hown' : w1.ownsRow w.heap.size 3 1 v' (1 + xs.length) (icells [p] ++ icells xs))
    (hgrow : (w.alloc (.cells #[.int .i64 p] 3)).grownBy w1 (some w.heap.size)) : ∃ a cap, v' = .slice a (p :: xs).length cap ∧ Ints w1 a (p :: xs) ∧ Below w.heap.size w w1 := by
  have hown2 : w1.ownsRow w.heap.size 3 1 v' (1 + xs.length) (icells (p :: xs)) := hown'
  obtain ⟨a', cap', hv, hI⟩ := owned_ints hown2
  exact ⟨a', cap', hv, hI, ((Below.refl _ _).alloc (Nat.le_refl _) _).grown hgrow (by simp) (fun k hk => by simp at hk; omega)⟩

set_option maxRecDepth 100000 in
set_option maxHeartbeats 2000000 in
theorem held_any (p : Int) (a : Option Addr) (xs : List Int) (cap : Nat) (w : World) (hp : (Lit.int .i64 p).wf = true) (hl : xs.length ≤ maxLen) (hx : Ints w a xs) (ht : Tab w) :
    Calls Tryd.prog 21 #[.int .i64 p, .slice a xs.length cap] w fun e w' => e = .returned (heldV p xs) ∧ Below w.heap.size w w' := by
  have hP := fun w => isPlace_any p w
  have hW := words_any a xs cap w hl hx
  unfold heldV
  cases h1 : inB p 0 7
  · rw [h1] at hP
    clear hx hl ht hp h1
    go_enter Tryd.func21, Tryd.ntmps21
    go_wp2_with (go_at_call 34; refine (hP _).mono ?_; rintro e w' ⟨rfl, rfl⟩)
    go_ret2
    exact ⟨rfl, Below.refl _ _⟩
  · rw [h1] at hP
    cases h2 : mayW xs
    · rw [h2] at hW
      clear hx hl ht hp h1 h2
      go_enter Tryd.func21, Tryd.ntmps21
      go_wp2_with (first | (go_at_call 34; refine (hP _).mono ?_; rintro e w' ⟨rfl, rfl⟩) | (go_at_call 38; refine hW.mono ?_; rintro e w' ⟨rfl, rfl⟩))
      go_ret2
      exact ⟨rfl, Below.refl _ _⟩
    · obtain ⟨hlen, hall⟩ := mayW_iff.1 h2
      rcases hx with rfl | ⟨b, off, rfl, hc⟩
      · simp at hlen
      · rw [h2] at hW
        have HL : Hid (xs.length = 8) := hlen
        obtain ⟨i0, hi, hz0, hz1, hz2⟩ := info_parts held_info
        have hown : (w.alloc (.cells #[.int .i64 p] 3)).ownsRow w.heap.size 3 1 (.slice (some ⟨w.heap.size, 0, none⟩) 1 1) 1 (icells [p]) :=
          ⟨by simp [icells], .inr ⟨w.heap.size, 1, #[.int .i64 p], rfl, Nat.le_refl _, Go.Deep.blk_alloc_new w _, Nat.le_refl _, by unfold maxLen; omega, rfl, rfl⟩⟩
        have hnews : Hid (∀ j u, (icells xs)[j]? = some u → (w.alloc (.cells #[.int .i64 p] 3)).cell? ((⟨b, off, none⟩ : Addr).add j) = some u) := fun j u hj => by
          have hj' : j < xs.length := by
            have := (List.getElem?_eq_some_iff.1 hj).1
            simpa [icells] using this
          rw [icells_get xs j hj'] at hj
          rw [add_at, World.cell?_alloc_past _ _ _ (by simpa using lt_of_cell (hc j hj')), hc j hj']
          exact hj
        have hE := fun a cap w1 (h : Ints w1 a (p :: xs)) (hb : Below w.heap.size w w1) => entry_any ⟨#[119, 111, 114, 100, 115]⟩ a (p :: xs) cap w1 (by decide) (by simp; omega) h (fun n hn => by
            rcases List.mem_cons.1 hn with rfl | hn
            · exact hp
            · have := hall n hn
              simp [Lit.wf, IntKind.min, IntKind.max, IntKind.bits, IntKind.signed]; omega) (ht.below hb)
        have hE' : ∀ a cap w1, Ints w1 a (p :: xs) → Below w.heap.size w w1 → Calls Tryd.prog 32 #[.string ⟨#[119, 111, 114, 100, 115]⟩, .slice a (p :: xs).length cap] w1 fun e w' => e = .returned (.string (heldS p xs)) ∧ Below w1.heap.size w1 w' := hE
        generalize heldS p xs = S at hE' ⊢
        clear hE ht hp h1 h2 hc hall hlen hl
        go_enter Tryd.func21, Tryd.ntmps21
        go_wp2_with (first | (go_at_call 34; refine (hP _).mono ?_; rintro e w' ⟨rfl, rfl⟩) | (go_at_call 38; refine hW.mono ?_; rintro e w' ⟨rfl, rfl⟩) | (at_builtin; refine wpList_append_own _ rfl _ _ 45 rfl w.heap.size 3 i0 (.int .i64 0) 1 8 Tryd.underlying45 hi hz0 hz1 hz2 rfl (by decide) _ _ _ rfl hown ⟨b, off, none⟩ xs.length cap (icells xs) rfl (by simp [icells]) hnews.out (icells_one xs) (by have := HL.out; unfold maxLen; omega) (by have := HL.out; omega) (by simp) ?_))
        intro v' w1 hown' hgrow _
        obtain ⟨a', cap', hv, hI, hb1⟩ := held_next hown' hgrow
        rw [hv]
        have hE2 := hE' a' cap' w1 hI hb1
        clear hE' hown hown' hgrow hnews hI hv
        go_wp2_with (go_at_call 32; go_must (refine hE2.mono ?_); rintro e w2 ⟨rfl, hb⟩)
        go_ret2
        exact ⟨rfl, hb1.trans (hb.mono hb1.size)⟩

/-- what the reference has gathered of the first k words -/
def heldK (p : Int) (ws : List Int) (k : Nat) : ByteArray := txt (sWords ++ numsL (p :: ws.take k))
theorem heldK_zero (p : Nat) (ws : List Int) : txt [119, 111, 114, 100, 115, 32] ++ decB p = heldK p ws 0 := by
  unfold heldK decB
  rw [txt_append]
  simp [numsL, itoa_nat, sWords]
theorem heldK_succ (p : Int) (ws : List Int) (k z : Nat) (hk : k < ws.length) (hz : ws.getD k 0 = (z : Int)) : heldK p ws k ++ txt [32] ++ decB z = heldK p ws (k + 1) := by
  unfold heldK decB
  rw [txt_append, txt_append]
  congr 1
  have e := take_nums ws k hk
  rw [hz, itoa_nat] at e
  simp only [numsL, List.flatMap_cons] at e ⊢
  rw [e]
  simp [sWords]
theorem heldK_end (p : Int) (ws : List Int) : heldK p ws ws.length ++ txt [59] = heldS p ws := by
  unfold heldK heldS entryL
  rw [txt_append, List.take_of_length_le (Nat.le_refl _)]
theorem heldK_size (p : Int) (ws : List Int) (k : Nat) (hp : (Lit.int .i64 p).wf = true) (hw : ∀ n ∈ ws, (Lit.int .i64 n).wf = true) : (heldK p ws k).size ≤ 5 + 22 * (ws.length + 1) := by
  unfold heldK
  rw [txt_size, List.length_append]
  have := numsL_le (p :: ws.take k) fun n hn => by
    rcases List.mem_cons.1 hn with rfl | hn
    · exact hp
    · exact hw n (List.mem_of_mem_take hn)
  simp only [List.length_cons, List.length_take] at this
  simp only [sWords, List.length_cons, List.length_nil]
  omega
theorem wf_of {n : Int} (h : 0 ≤ n ∧ n ≤ 65535) : (Lit.int .i64 n).wf = true := by
  simp [Lit.wf, IntKind.min, IntKind.max, IntKind.bits, IntKind.signed]; omega

end Go.Proofs.YteaabfnmnekbpaaDoor
