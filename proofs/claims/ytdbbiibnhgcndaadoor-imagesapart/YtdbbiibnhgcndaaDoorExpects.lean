/-
  What the calls Expect (image) and ExpectedOf (riddleref) answer, for every list of pages: both the same text and the same error number; nothing that was in memory turns.
-/
import Derived.Test.YtdbbiibnhgcndaaDoorHeld
import Derived.Test.YtdbbiibnhgcndaaDoorImageMath
import Derived.Deep.RegionHeld3
namespace Go.Proofs.YtdbbiibnhgcndaaDoor
open Go.RowKit

/-- what is measured of one page -/
def pageL (p : Pg) : List UInt8 := entryL sPage [p.at_, p.r] ++ entryL sWords (p.at_ :: p.ws)
def sOpen : List UInt8 := [111, 112, 101, 110, 59]
/-- what is measured of an image -/
def expL (ps : List Pg) : List UInt8 := sOpen ++ ps.flatMap pageL
def expK (ps : List Pg) (k : Nat) : ByteArray := txt (expL (ps.take k))
/-- the text, or what it is refused for -/
def expV (ps : List Pg) : Value := if imageF ps = 0 then .tuple #[.string (txt (expL ps)), .int .i64 0] else .tuple #[.string ⟨#[]⟩, .int .i64 (imageF ps)]

theorem wf_small {n : Int} (h : 0 ≤ n ∧ n ≤ 65535) : (Lit.int .i64 n).wf = true := wf_of h
theorem entryL_len (nm : List UInt8) (xs : List Int) (h : ∀ n ∈ xs, (Lit.int .i64 n).wf = true) : (entryL nm xs).length ≤ nm.length + 22 * xs.length + 1 := by
  have := numsL_le xs h
  simp only [entryL, List.length_append, List.length_cons, List.length_nil]
  omega
theorem pageL_len {p : Pg} (h : p.f = 0) : (pageL p).length ≤ 253 := by
  obtain ⟨h1, h2, h3⟩ := Pg.f_zero h
  have b1 := inB_iff.1 h1
  have b2 := inB_iff.1 h2
  obtain ⟨hl, ha⟩ := mayW_iff.1 h3
  have e1 := entryL_len sPage [p.at_, p.r] fun n hn => by
    simp at hn
    rcases hn with rfl | rfl <;> exact wf_of (by omega)
  have e2 := entryL_len sWords (p.at_ :: p.ws) fun n hn => by
    rcases List.mem_cons.1 hn with rfl | hn
    · exact wf_of (by omega)
    · exact wf_of (ha n hn)
  simp only [sPage, sWords, List.length_cons, List.length_nil] at e1 e2
  unfold pageL
  rw [List.length_append]
  simp only [sPage, sWords]
  omega
theorem flat_lenX : ∀ (l : List Pg), (∀ p ∈ l, p.f = 0) → (l.flatMap pageL).length ≤ 253 * l.length
  | [], _ => by simp
  | p :: l, h => by
    have h1 := pageL_len (h p (by simp))
    have h2 := flat_lenX l fun q hq => h q (by simp [hq])
    simp only [List.flatMap_cons, List.length_append, List.length_cons]
    omega
theorem expK_size {ps : List Pg} (h : imageF ps = 0) (k : Nat) : (expK ps k).size ≤ 3000 := by
  unfold expK expL
  rw [txt_size, List.length_append]
  have h1 := flat_lenX (ps.take k) fun p hp => imgF_all ps none h p (List.mem_of_mem_take hp)
  have h2 := image_len h
  have h3 := List.length_take_le k ps
  have h4 : (ps.take k).length ≤ ps.length := by simp; omega
  simp only [sOpen, List.length_cons, List.length_nil]
  omega
theorem expK_succ (ps : List Pg) (k : Nat) (hk : k < ps.length) : expK ps k ++ (putS (ps.getD k default).at_ (ps.getD k default).r ++ heldS (ps.getD k default).at_ (ps.getD k default).ws) = expK ps (k + 1) := by
  unfold expK expL putS heldS
  rw [txt_append, txt_append, List.take_succ_eq_append_getElem hk, List.flatMap_append]
  have e : ps[k] = ps.getD k default := by simp [List.getD_eq_getElem?_getD, hk]
  rw [e]
  simp [pageL]
theorem expK_end (ps : List Pg) : expK ps ps.length = txt (expL ps) := by
  unfold expK; rw [List.take_of_length_le (Nat.le_refl _)]
theorem put_size (p r : Int) (h1 : inB p 0 7 = true) (h2 : inB r 0 7 = true) : (putS p r).size ≤ 49 := by
  unfold putS; rw [txt_size]
  have b1 := inB_iff.1 h1
  have b2 := inB_iff.1 h2
  have := entryL_len sPage [p, r] fun n hn => by
    simp at hn
    rcases hn with rfl | rfl <;> exact wf_of (by omega)
  simpa [sPage] using this
theorem held_size (p : Int) (ws : List Int) (h1 : inB p 0 7 = true) (h2 : mayW ws = true) : (heldS p ws).size ≤ 204 := by
  unfold heldS; rw [txt_size]
  have b1 := inB_iff.1 h1
  obtain ⟨hl, ha⟩ := mayW_iff.1 h2
  have := entryL_len sWords (p :: ws) fun n hn => by
    rcases List.mem_cons.1 hn with rfl | hn
    · exact wf_of (by omega)
    · exact wf_of (ha n hn)
  simp only [sWords, List.length_cons, List.length_nil] at this
  simp only [sWords]
  omega

theorem append3 (a b c : ByteArray) : a ++ b ++ c = a ++ (b ++ c) := by
  apply ByteArray.ext
  simp [ByteArray.data_append]
theorem opened_anyX (w : World) (ht : Tab w) : Calls Tryd.prog 12 #[] w fun e w' => e = .returned (.string ⟨#[111, 112, 101, 110, 59]⟩) ∧ Below w.heap.size w w' := by
  have h := entry_any ⟨#[111, 112, 101, 110]⟩ none [] 0 w (by decide) (by decide) (.inl rfl) (fun n hn => absurd hn (by simp)) ht
  go_enter Tryd.func12, Tryd.ntmps12
  go_wp2_with (go_at_call 32; go_must (refine h.mono ?_); rintro e w1 ⟨rfl, hb⟩)
  go_ret
  exact ⟨rfl, hb⟩

set_option maxHeartbeats 4000000 in
theorem expect_any (a : Option Addr) (ps : List Pg) (cap : Nat) (w : World) (hl : ps.length ≤ maxLen) (hx : PagesAt w a ps) (ht : Tab w) :
    Calls Tryd.prog 17 #[.slice a ps.length cap] w fun e w' => e = .returned (expV ps) ∧ Below w.heap.size w w' := by
  have hC := check_any a ps cap w hl hx
  unfold expV
  by_cases hz : imageF ps = 0
  · rw [if_pos hz]
    rw [hz] at hC
    have hO := fun w' (h : Below w.heap.size w w') => opened_anyX w' (ht.below h)
    have HZ : Hid (imageF ps = 0) := hz
    have HX : Hid (PagesAt w a ps) := hx
    have HT : Hid (Tab w) := ht
    have hlen : ps.length ≤ 8 := image_len hz
    clear hx ht hl hz
    go_enter Tryd.func17, Tryd.ntmps17
    go_wp2_with (first | (go_at_call 20; go_must (refine hC.mono ?_); rintro e w1 ⟨rfl, hb1⟩) | (go_at_call 12; go_must (refine (hO _ hb1).mono ?_); rintro e w2 ⟨rfl, hb2⟩))
    clear hC hO
    go_loopw [5, 20] (fun s i wr => ∃ k : Nat, k ≤ ps.length ∧ i = .int .i64 k ∧ s = .string (expK ps k) ∧ Below w.heap.size w wr) (fun _ i _ => ps.length - (intOf i).toNat)
    case atStart => exact ⟨0, Nat.zero_le _, rfl, rfl, hb1.trans (hb2.mono hb1.size)⟩
    case round =>
      obtain ⟨k, hk, rfl, rfl, hbel⟩ := hrel
      clear hb1 hb2
      have hsz := expK_size HZ.out k
      by_cases hlt : k < ps.length
      · have hX := HX.out.below hbel
        rcases HX.out.at_ with rfl | ⟨b, off, rfl, _⟩
        · simp at hlt
        · obtain ⟨c0, c1, c2⟩ := hX.cells hlt
          have hok := hX.ok k hlt
          have hf := imgF_all ps none HZ.out (ps.getD k default) (by simp [List.getD_eq_getElem?_getD, hlt])
          have HN : Hid _ := expK_succ ps k hlt
          obtain ⟨P, hP⟩ : ∃ P, ps.getD k default = P := ⟨_, rfl⟩
          rw [hP] at c0 c1 c2 hok hf HN
          obtain ⟨pat, pr, pa, pws, pcap⟩ := P
          obtain ⟨f1, f2, f3⟩ := Pg.f_zero hf
          dsimp only at c0 c1 c2 f1 f2 f3 HN
          have gA := fun w' (h : Below wr.heap.size wr w') => added_any pat pr w' hok.wat hok.wr (HT.out.below (hbel.trans (h.mono hbel.size)))
          have gH := fun w' (h : Below wr.heap.size wr w') => held_any pat pa pws pcap w' hok.wat hok.len (hok.ints.below h) (HT.out.below (hbel.trans (h.mono hbel.size)))
          simp only [f1, f2, f3, heldV, Bool.and_self, if_true] at gA gH
          have s1 := put_size pat pr f1 f2
          have s2 := held_size pat pws f1 f3
          generalize putS pat pr = SP at gA s1 HN
          generalize heldS pat pws = SH at gH s2 HN
          generalize expK ps k = SE at hsz HN ⊢
          clear hP hf hok hX f1 f2 f3 HX
          go_wp2_with (first
            | (go_at_call 13; go_must (refine (gA _ ((Below.refl _ _).alloc (Nat.le_refl _) _)).mono ?_); rintro e w3 ⟨rfl, hb3⟩; obtain ⟨hc3, hf3⟩ := bcell hb3)
            | (go_at_call 15; go_must (refine (gH _ (((Below.refl _ _).alloc (Nat.le_refl _) _).trans (hb3.mono (by simp)))).mono ?_); rintro e w4 ⟨rfl, hb4⟩))
          go_roundw
          case rel =>
            have hs3 := hb3.size
            refine ⟨k + 1, by omega, by go_num, by rw [← HN.out], hbel.trans (((((Below.refl _ _).alloc (Nat.le_refl _) _).trans (hb3.mono (by simp))).trans (hb4.mono (by simp at hs3; omega))).mono hbel.size)⟩
          case measure => simp [intOf]; omega
      · have hkl : k = ps.length := by omega
        subst hkl
        have HE : Hid (expK ps ps.length = txt (expL ps)) := expK_end ps
        generalize expK ps ps.length = T at HE hsz ⊢
        clear HX
        go_wp2
        go_ret2
        exact ⟨by rw [← HE.out]; rfl, hbel⟩
  · rw [if_neg hz]
    have hz1 : (imageF ps != 0) = true := by simpa using hz
    generalize imageF ps = z at hC hz hz1 ⊢
    clear hx ht hl
    go_enter Tryd.func17, Tryd.ntmps17
    go_wp2_with (go_at_call 20; go_must (refine hC.mono ?_); rintro e w1 ⟨rfl, hb1⟩)
    go_ret2
    exact ⟨rfl, hb1⟩

set_option maxHeartbeats 4000000 in
theorem expectedOf_any (a : Option Addr) (ps : List Pg) (cap : Nat) (w : World) (hl : ps.length ≤ maxLen) (hx : PagesAt w a ps) :
    Calls Tryd.prog 18 #[.slice a ps.length cap] w fun e w' => e = .returned (expV ps) ∧ Below w.heap.size w w' := by
  have hC := imageFault_any a ps cap w hl hx
  unfold expV
  by_cases hz : imageF ps = 0
  · rw [if_pos hz]
    rw [hz] at hC
    have HZ : Hid (imageF ps = 0) := hz
    have HX : Hid (PagesAt w a ps) := hx
    have hlen : ps.length ≤ 8 := image_len hz
    clear hx hl hz
    go_enter Tryd.func18, Tryd.ntmps18
    go_wp2_with (go_at_call 39; go_must (refine hC.mono ?_); rintro e w1 ⟨rfl, hb1⟩)
    clear hC
    go_loopw [5, 6] (fun s i wr => ∃ k : Nat, k ≤ ps.length ∧ i = .int .i64 k ∧ s = .string (expK ps k) ∧ Below w.heap.size w wr) (fun _ i _ => ps.length - (intOf i).toNat)
    case atStart => exact ⟨0, Nat.zero_le _, rfl, rfl, hb1⟩
    case round =>
      obtain ⟨k, hk, rfl, rfl, hbel⟩ := hrel
      clear hb1
      have hsz := expK_size HZ.out k
      by_cases hlt : k < ps.length
      · have hX := HX.out.below hbel
        rcases HX.out.at_ with rfl | ⟨b, off, rfl, _⟩
        · simp at hlt
        · obtain ⟨c0, c1, c2⟩ := hX.cells hlt
          have hok := hX.ok k hlt
          have hf := imgF_all ps none HZ.out (ps.getD k default) (by simp [List.getD_eq_getElem?_getD, hlt])
          have HN : Hid _ := expK_succ ps k hlt
          obtain ⟨P, hP⟩ : ∃ P, ps.getD k default = P := ⟨_, rfl⟩
          rw [hP] at c0 c1 c2 hok hf HN
          obtain ⟨pat, pr, pa, pws, pcap⟩ := P
          obtain ⟨f1, f2, f3⟩ := Pg.f_zero hf
          dsimp only at c0 c1 c2 f1 f2 f3 HN
          have gA := fun w' => putText_any pat pr w'
          have gH := fun w' (h : Below wr.heap.size wr w') => heldText_any pat pa pws pcap w' hok.len (hok.ints.below h)
          simp only [f1, f2, f3, heldV, Bool.and_self, if_true] at gA gH
          have s1 := put_size pat pr f1 f2
          have s2 := held_size pat pws f1 f3
          generalize putS pat pr = SP at gA s1 HN
          generalize heldS pat pws = SH at gH s2 HN
          generalize expK ps k = SE at hsz HN ⊢
          have hkx : (k : Int) < (ps.length : Int) := by omega
          have hk0 : (0 : Int) ≤ (k : Int) := by omega
          have hbw : b < wr.heap.size := lt_of_cell c0
          clear hP hf hok hX f1 f2 f3 HX
          go_wp2
          go_region_held3 (fun w' => w'.cell? ⟨b, off + k * 3, none⟩ = some (.int .i64 pat) ∧ w'.cell? ⟨b, off + k * 3 + 1, none⟩ = some (.int .i64 pr)) (first | exact ⟨k0, k1⟩ | go_keep) (first | (go_at_call 14; refine (gA _).mono ?_; rintro e w3 ⟨rfl, hb3⟩; have k0 := keep_cell hb3 c0; have k1 := keep_cell hb3 c1; have k2 := keep_cell hb3 c2))
          have hb3' : Below wr.heap.size wr w3 := (Below.refl _ wr).drew.trans hb3
          have hs3 := hb3'.size
          clear gA hb3 c0 c1 c2 k1
          go_wp2
          go_region_held3 (fun w' => w'.cell? ⟨b, off + k * 3, none⟩ = some (.int .i64 pat) ∧ w'.cell? ⟨b, off + k * 3 + 2, none⟩ = some (.slice pa pws.length pcap)) (first | exact ⟨m0, m2⟩ | go_keep) (first | (go_at_call 16; refine (gH _ hb3'.drew).mono ?_; rintro e w4 ⟨rfl, hb4⟩; have m0 := keep_cell hb4 k0; have m2 := keep_cell hb4 k2))
          have hb4' : Below w.heap.size w w4 := hbel.trans ((hb3'.trans ((Below.refl _ w3).drew.trans (hb4.mono hs3))).mono hbel.size)
          clear gH hb4 k0 k2 m0 m2 hb3'
          go_wp2
          go_roundw
          case rel => exact ⟨k + 1, by omega, by go_num, by rw [← HN.out]; exact congrArg Value.string (append3 _ _ _), hb4'⟩
          case measure => simp [intOf]; omega
      · have hkl : k = ps.length := by omega
        subst hkl
        have HE : Hid (expK ps ps.length = txt (expL ps)) := expK_end ps
        generalize expK ps ps.length = T at HE hsz ⊢
        clear HX
        go_wp2
        go_ret2
        exact ⟨by rw [← HE.out]; rfl, hbel⟩
  · rw [if_neg hz]
    have hz1 : (imageF ps != 0) = true := by simpa using hz
    generalize imageF ps = z at hC hz hz1 ⊢
    clear hx hl
    go_enter Tryd.func18, Tryd.ntmps18
    go_wp2_with (go_at_call 39; go_must (refine hC.mono ?_); rintro e w1 ⟨rfl, hb1⟩)
    go_ret2
    exact ⟨rfl, hb1⟩

end Go.Proofs.YtdbbiibnhgcndaaDoor
