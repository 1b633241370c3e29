/-
  What the calls Held (image) and HeldText (riddleref) answer, for every place and every list of words: both the same text and the same error number; nothing that was in memory turns.
-/
import Derived.Test.YtdbbiibnhgcndaaDoorAdded
import Derived.Test.YtdbbiibnhgcndaaDoorWords
import Derived.Deep.Heap
namespace Go.Proofs.YtdbbiibnhgcndaaDoor
open Go.RowKit

def sWords : List UInt8 := [119, 111, 114, 100, 115]
/-- what is measured of the words of a page -/
def heldS (p : Int) (ws : List Int) : ByteArray := txt (entryL sWords (p :: ws))
/-- the text, or what it is refused for -/
def heldV (p : Int) (ws : List Int) : Value :=
  if inB p 0 7 = true then (if mayW ws = true then .tuple #[.string (heldS p ws), .int .i64 0] else .tuple #[.string ⟨#[]⟩, .int .i64 4]) else .tuple #[.string ⟨#[]⟩, .int .i64 2]

theorem held_info : (Tryd.prog.info? 3).map (fun i => (i.zero, i.size, i.bytes)) = some (some (.int .i64 0), 1, 8) := by kernel_rfl
/-- the words of a page as cells -/
def icells (ws : List Int) : List Value := ws.map (Value.int .i64)
theorem icells_get (ws : List Int) (j : Nat) (h : j < ws.length) : (icells ws)[j]? = some (.int .i64 (ws.getD j 0)) := by
  simp [icells, h, List.getD_eq_getElem?_getD]
theorem icells_one (xs : List Int) : ∀ v ∈ icells xs, v.oneCell' = true := by
  intro v hv
  simp [icells] at hv
  obtain ⟨n, _, rfl⟩ := hv
  rfl
theorem owned_ints {w : World} {B : Nat} {v : Value} {n : Nat} {xs : List Int} (h : w.ownsRow B 3 1 v n (icells xs)) : ∃ a cap, v = .slice a xs.length cap ∧ Ints w a xs := by
  have hn : xs.length = n := by have := h.1; simpa [icells] using this
  rcases h.2 with ⟨hv, h0⟩ | ⟨g, cap, cur, hv, _, hg, hc, _, hs, ht⟩
  · refine ⟨none, 0, by rw [hv, hn, h0], .inl (List.eq_nil_of_length_eq_zero (by omega))⟩
  · refine ⟨_, cap, by rw [hv, hn], .inr ⟨g, 0, rfl, fun j hj => ?_⟩⟩
    have e := icells_get xs j hj
    rw [← ht] at e
    rw [List.getElem?_take_of_lt (by omega)] at e
    simpa [World.cell?, hg] using e

theorem held_next {w w1 : World} {p : Int} {xs : List Int} {v' : Value} (hown' : w1.ownsRow w.heap.size 3 1 v' (1 + xs.length) (icells [p] ++ icells xs))
    (hgrow : (w.alloc (.cells #[.int .i64 p] 3)).grownBy w1 (some w.heap.size)) : ∃ a cap, v' = .slice a (p :: xs).length cap ∧ Ints w1 a (p :: xs) ∧ Below w.heap.size w w1 := by
  have hown2 : w1.ownsRow w.heap.size 3 1 v' (1 + xs.length) (icells (p :: xs)) := hown'
  obtain ⟨a', cap', hv, hI⟩ := owned_ints hown2
  exact ⟨a', cap', hv, hI, ((Below.refl _ _).alloc (Nat.le_refl _) _).grown hgrow (by simp) (fun k hk => by simp at hk; omega)⟩

set_option maxRecDepth 100000 in
set_option maxHeartbeats 2000000 in
theorem held_any (p : Int) (a : Option Addr) (xs : List Int) (cap : Nat) (w : World) (hp : (Lit.int .i64 p).wf = true) (hl : xs.length ≤ maxLen) (hx : Ints w a xs) (ht : Tab w) :
    Calls Tryd.prog 15 #[.int .i64 p, .slice a xs.length cap] w fun e w' => e = .returned (heldV p xs) ∧ Below w.heap.size w w' := by
  have hP := fun w => isPlace_any p w
  have hW := words_any a xs cap w hl hx
  unfold heldV
  cases h1 : inB p 0 7
  · rw [h1] at hP
    clear hx hl ht hp h1
    go_enter Tryd.func15, Tryd.ntmps15
    go_wp2_with (go_at_call 33; refine (hP _).mono ?_; rintro e w' ⟨rfl, rfl⟩)
    go_ret2
    exact ⟨rfl, Below.refl _ _⟩
  · rw [h1] at hP
    cases h2 : mayW xs
    · rw [h2] at hW
      clear hx hl ht hp h1 h2
      go_enter Tryd.func15, Tryd.ntmps15
      go_wp2_with (first | (go_at_call 33; refine (hP _).mono ?_; rintro e w' ⟨rfl, rfl⟩) | (go_at_call 37; refine hW.mono ?_; rintro e w' ⟨rfl, rfl⟩))
      go_ret2
      exact ⟨rfl, Below.refl _ _⟩
    · obtain ⟨hlen, hall⟩ := mayW_iff.1 h2
      rcases hx with rfl | ⟨b, off, rfl, hc⟩
      · simp at hlen
      · rw [h2] at hW
        have HL : Hid (xs.length = 8) := hlen
        obtain ⟨i0, hi, hz0, hz1, hz2⟩ := info_parts held_info
        have hown : (w.alloc (.cells #[.int .i64 p] 3)).ownsRow w.heap.size 3 1 (.slice (some ⟨w.heap.size, 0, none⟩) 1 1) 1 (icells [p]) :=
          ⟨by simp [icells], .inr ⟨w.heap.size, 1, #[.int .i64 p], rfl, Nat.le_refl _, Go.Deep.blk_alloc_new w _, Nat.le_refl _, by unfold maxLen; omega, rfl, rfl⟩⟩
        have hnews : Hid (∀ j u, (icells xs)[j]? = some u → (w.alloc (.cells #[.int .i64 p] 3)).cell? ((⟨b, off, none⟩ : Addr).add j) = some u) := fun j u hj => by
          have hj' : j < xs.length := by
            have := (List.getElem?_eq_some_iff.1 hj).1
            simpa [icells] using this
          rw [icells_get xs j hj'] at hj
          rw [add_at, World.cell?_alloc_past _ _ _ (by simpa using lt_of_cell (hc j hj')), hc j hj']
          exact hj
        have hE := fun a cap w1 (h : Ints w1 a (p :: xs)) (hb : Below w.heap.size w w1) => entry_any ⟨#[119, 111, 114, 100, 115]⟩ a (p :: xs) cap w1 (by decide) (by simp; omega) h (fun n hn => by
            rcases List.mem_cons.1 hn with rfl | hn
            · exact hp
            · have := hall n hn
              simp [Lit.wf, IntKind.min, IntKind.max, IntKind.bits, IntKind.signed]; omega) (ht.below hb)
        have hE' : ∀ a cap w1, Ints w1 a (p :: xs) → Below w.heap.size w w1 → Calls Tryd.prog 32 #[.string ⟨#[119, 111, 114, 100, 115]⟩, .slice a (p :: xs).length cap] w1 fun e w' => e = .returned (.string (heldS p xs)) ∧ Below w1.heap.size w1 w' := hE
        generalize heldS p xs = S at hE' ⊢
        clear hE ht hp h1 h2 hc hall hlen hl
        go_enter Tryd.func15, Tryd.ntmps15
        go_wp2_with (first | (go_at_call 33; refine (hP _).mono ?_; rintro e w' ⟨rfl, rfl⟩) | (go_at_call 37; refine hW.mono ?_; rintro e w' ⟨rfl, rfl⟩) | (at_builtin; refine wpList_append_own _ rfl _ _ 28 rfl w.heap.size 3 i0 (.int .i64 0) 1 8 Tryd.underlying28 hi hz0 hz1 hz2 rfl (by decide) _ _ _ rfl hown ⟨b, off, none⟩ xs.length cap (icells xs) rfl (by simp [icells]) hnews.out (icells_one xs) (by have := HL.out; unfold maxLen; omega) (by have := HL.out; omega) (by simp) ?_))
        intro v' w1 hown' hgrow _
        obtain ⟨a', cap', hv, hI, hb1⟩ := held_next hown' hgrow
        rw [hv]
        have hE2 := hE' a' cap' w1 hI hb1
        clear hE' hown hown' hgrow hnews hI hv
        go_wp2_with (go_at_call 32; go_must (refine hE2.mono ?_); rintro e w2 ⟨rfl, hb⟩)
        go_ret2
        exact ⟨rfl, hb1.trans (hb.mono hb1.size)⟩

/-- what the reference has gathered of the first k words -/
def heldK (p : Int) (ws : List Int) (k : Nat) : ByteArray := txt (sWords ++ numsL (p :: ws.take k))
theorem heldK_zero (p : Nat) (ws : List Int) : txt [119, 111, 114, 100, 115, 32] ++ decB p = heldK p ws 0 := by
  unfold heldK decB
  rw [txt_append]
  simp [numsL, itoa_nat, sWords]
theorem heldK_succ (p : Int) (ws : List Int) (k z : Nat) (hk : k < ws.length) (hz : ws.getD k 0 = (z : Int)) : heldK p ws k ++ txt [32] ++ decB z = heldK p ws (k + 1) := by
  unfold heldK decB
  rw [txt_append, txt_append]
  congr 1
  have e := take_nums ws k hk
  rw [hz, itoa_nat] at e
  simp only [numsL, List.flatMap_cons] at e ⊢
  rw [e]
  simp [sWords]
theorem heldK_end (p : Int) (ws : List Int) : heldK p ws ws.length ++ txt [59] = heldS p ws := by
  unfold heldK heldS entryL
  rw [txt_append, List.take_of_length_le (Nat.le_refl _)]
theorem heldK_size (p : Int) (ws : List Int) (k : Nat) (hp : (Lit.int .i64 p).wf = true) (hw : ∀ n ∈ ws, (Lit.int .i64 n).wf = true) : (heldK p ws k).size ≤ 5 + 22 * (ws.length + 1) := by
  unfold heldK
  rw [txt_size, List.length_append]
  have := numsL_le (p :: ws.take k) fun n hn => by
    rcases List.mem_cons.1 hn with rfl | hn
    · exact hp
    · exact hw n (List.mem_of_mem_take hn)
  simp only [List.length_cons, List.length_take] at this
  simp only [sWords, List.length_cons, List.length_nil]
  omega
theorem wf_of {n : Int} (h : 0 ≤ n ∧ n ≤ 65535) : (Lit.int .i64 n).wf = true := by
  simp [Lit.wf, IntKind.min, IntKind.max, IntKind.bits, IntKind.signed]; omega

set_option maxRecDepth 100000 in
set_option maxHeartbeats 2000000 in
theorem heldText_any (p : Int) (a : Option Addr) (xs : List Int) (cap : Nat) (w : World) (hl : xs.length ≤ maxLen) (hx : Ints w a xs) :
    Calls Tryd.prog 16 #[.int .i64 p, .slice a xs.length cap] w fun e w' => e = .returned (heldV p xs) ∧ Below w.heap.size w w' := by
  have hW := wordsMay_any a xs cap w hl hx
  unfold heldV
  cases h1 : inB p 0 7
  · clear hx hl
    go_enter Tryd.func16, Tryd.ntmps16
    go_wp2_with (go_at_call 35; refine (in_any _ _ _ _).mono ?_; rintro e w' ⟨rfl, rfl⟩)
    go_ret2
    exact ⟨rfl, Below.refl _ _⟩
  · cases h2 : mayW xs
    · rw [h2] at hW
      clear hx hl h2
      go_enter Tryd.func16, Tryd.ntmps16
      go_wp2_with (first | (go_at_call 35; refine (in_any _ _ _ _).mono ?_; rintro e w' ⟨rfl, rfl⟩) | (go_at_call 38; refine hW.mono ?_; rintro e w' ⟨rfl, rfl⟩))
      go_ret2
      exact ⟨rfl, Below.refl _ _⟩
    · obtain ⟨hlen, hall⟩ := mayW_iff.1 h2
      rw [h2] at hW
      have hbp := inB_iff.1 h1
      obtain ⟨P, rfl⟩ : ∃ P : Nat, p = (P : Int) := ⟨p.toNat, by omega⟩
      have HL : Hid (xs.length = 8) := hlen
      have HA : Hid (∀ n ∈ xs, 0 ≤ n ∧ n ≤ 65535) := hall
      have HX : Hid (Ints w a xs) := hx
      have g1 := fun w => dec_any P (by omega) w
      have s1 := decB_size P (by omega)
      have HS0 : Hid (txt [119, 111, 114, 100, 115, 32] ++ decB P = heldK P xs 0) := heldK_zero P xs
      have HSz : Hid (∀ k, (heldK P xs k).size ≤ 5 + 22 * (xs.length + 1)) := fun k => heldK_size P xs k (wf_of (by omega)) fun n hn => wf_of (hall n hn)
      generalize decB P = A at g1 s1 HS0
      clear hx hl h2 hlen hall
      go_enter Tryd.func16, Tryd.ntmps16
      go_wp2_with (first | (go_at_call 35; refine (in_any _ _ _ _).mono ?_; rintro e w' ⟨rfl, rfl⟩) | (go_at_call 38; refine hW.mono ?_; rintro e w' ⟨rfl, rfl⟩))
      refine (g1 _).mono ?_
      rintro e w1 ⟨rfl, hb1⟩
      clear g1 hW
      go_wp2
      go_loopw [6, 7] (fun s i wr => ∃ k : Nat, k ≤ 8 ∧ i = .int .i64 k ∧ s = .string (heldK P xs k) ∧ Below w.heap.size w wr) (fun _ i _ => 8 - (intOf i).toNat)
      case atStart => exact ⟨0, by omega, rfl, by rw [← HS0.out]; rfl, hb1⟩
      case round =>
        obtain ⟨k, hk, rfl, rfl, hbel⟩ := hrel
        clear HS0 hb1
        have hsz : (heldK P xs k).size ≤ 203 := by have := HSz.out k; have := HL.out; omega
        by_cases hlt : k < 8
        · have hkx : k < xs.length := by have := HL.out; omega
          rcases (HX.out.below hbel) with h0 | ⟨b, off, rfl, hc⟩
          · simp [h0] at hkx
          · have hck := hc k hkx
            obtain ⟨z, hz⟩ : ∃ z, xs.getD k 0 = z := ⟨_, rfl⟩
            have hzb : 0 ≤ z ∧ z ≤ 65535 := by rw [← hz]; exact HA.out _ (by simp [List.getD_eq_getElem?_getD, hkx])
            obtain ⟨Z, rfl⟩ : ∃ Z : Nat, z = (Z : Int) := ⟨z.toNat, by omega⟩
            rw [hz] at hck
            have HN : Hid (heldK P xs k ++ txt [32] ++ decB Z = heldK P xs (k + 1)) := heldK_succ P xs k Z hkx hz
            have g2 := fun w => dec_any Z (by omega) w
            have s2 := decB_size Z (by omega)
            generalize heldK (P : Int) xs k = S at HN hsz ⊢
            generalize decB Z = D at g2 s2 HN
            have hlx : (k : Int) < (xs.length : Int) := by omega
            clear hc hz HA HX HSz
            go_wp2_with fail
            refine (g2 _).mono ?_
            rintro e w2 ⟨rfl, hb2⟩
            clear g2
            go_wp2
            go_roundw
            case rel => exact ⟨k + 1, by omega, by go_num, by rw [← HN.out]; rfl, hbel.trans (hb2.mono hbel.size)⟩
            case measure => simp [intOf]; omega
        · have hk8 : k = 8 := by omega
          subst hk8
          have HE : Hid (heldK P xs 8 ++ txt [59] = heldS P xs) := by have := heldK_end P xs; rw [HL.out] at this; exact this
          generalize heldK (P : Int) xs 8 = S at HE hsz ⊢
          clear HA HX HSz
          go_wp2
          go_ret2
          exact ⟨by rw [← HE.out]; rfl, hbel⟩

end Go.Proofs.YtdbbiibnhgcndaaDoor
