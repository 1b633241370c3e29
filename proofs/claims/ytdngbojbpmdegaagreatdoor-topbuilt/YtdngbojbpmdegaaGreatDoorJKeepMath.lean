/-
  What the calls Expect (image) and ExpectedOf (riddleref) answer, for every list of pages: both the same text and the same error number; nothing that was in memory turns. Two images that may be are measured the same only if their pages hold the same (own work, plain mathematics of the measured text). The condition: nothing is wrong with either. What becomes of a new machine (own work): the steps of PagesApart and of StartsClose, reckoned. No condition but the numbers' bounds.
-/
import Derived.Test.YtdngbojbpmdegaaGreatDoorJPutMath
import Derived.Test.YtdngbojbpmdegaaGreatDoorJImageMath
import Derived.Deep.RegionHeld3
import Derived.Test.YtdngbojbpmdegaaGreatDoorJHostMath
namespace Go.Proofs.YtdngbojbpmdegaaGreatDoor
open Go.RowKit

/-- what is measured of one page -/
def pageL (p : Pg) : List UInt8 := entryL sPage [p.at_, p.r] ++ entryL sWords (p.at_ :: p.ws)
def sOpen : List UInt8 := [111, 112, 101, 110, 59]
/-- what is measured of an image -/
def expL (ps : List Pg) : List UInt8 := sOpen ++ ps.flatMap pageL
def expK (ps : List Pg) (k : Nat) : ByteArray := txt (expL (ps.take k))
/-- the text, or what it is refused for -/
def expV (ps : List Pg) : Value := if imageF ps = 0 then .tuple #[.string (txt (expL ps)), .int .i64 0] else .tuple #[.string ⟨#[]⟩, .int .i64 (imageF ps)]

theorem entryL_len (nm : List UInt8) (xs : List Int) (h : ∀ n ∈ xs, (Lit.int .i64 n).wf = true) : (entryL nm xs).length ≤ nm.length + 22 * xs.length + 1 := by
  have := numsL_le xs h
  simp only [entryL, List.length_append, List.length_cons, List.length_nil]
  omega
theorem pageL_len {p : Pg} (h : p.f = 0) : (pageL p).length ≤ 253 := by
  obtain ⟨h1, h2, h3⟩ := Pg.f_zero h
  have b1 := inB_iff.1 h1
  have b2 := inB_iff.1 h2
  obtain ⟨hl, ha⟩ := mayW_iff.1 h3
  have e1 := entryL_len sPage [p.at_, p.r] fun n hn => by
    simp at hn
    rcases hn with rfl | rfl <;> exact wf_of (by omega)
  have e2 := entryL_len sWords (p.at_ :: p.ws) fun n hn => by
    rcases List.mem_cons.1 hn with rfl | hn
    · exact wf_of (by omega)
    · exact wf_of (ha n hn)
  simp only [sPage, sWords, List.length_cons, List.length_nil] at e1 e2
  unfold pageL
  rw [List.length_append]
  simp only [sPage, sWords]
  omega
theorem flat_lenX : ∀ (l : List Pg), (∀ p ∈ l, p.f = 0) → (l.flatMap pageL).length ≤ 253 * l.length
  | [], _ => by simp
  | p :: l, h => by
    have h1 := pageL_len (h p (by simp))
    have h2 := flat_lenX l fun q hq => h q (by simp [hq])
    simp only [List.flatMap_cons, List.length_append, List.length_cons]
    omega
theorem expK_size {ps : List Pg} (h : imageF ps = 0) (k : Nat) : (expK ps k).size ≤ 3000 := by
  unfold expK expL
  rw [txt_size, List.length_append]
  have h1 := flat_lenX (ps.take k) fun p hp => imgF_all ps none h p (List.mem_of_mem_take hp)
  have h2 := image_len h
  have h3 := List.length_take_le k ps
  have h4 : (ps.take k).length ≤ ps.length := by simp; omega
  simp only [sOpen, List.length_cons, List.length_nil]
  omega
theorem expK_succ (ps : List Pg) (k : Nat) (hk : k < ps.length) : expK ps k ++ (putS (ps.getD k default).at_ (ps.getD k default).r ++ heldS (ps.getD k default).at_ (ps.getD k default).ws) = expK ps (k + 1) := by
  unfold expK expL putS heldS
  rw [txt_append, txt_append, List.take_succ_eq_append_getElem hk, List.flatMap_append]
  have e : ps[k] = ps.getD k default := by simp [List.getD_eq_getElem?_getD, hk]
  rw [e]
  simp [pageL]
theorem expK_end (ps : List Pg) : expK ps ps.length = txt (expL ps) := by
  unfold expK; rw [List.take_of_length_le (Nat.le_refl _)]
theorem put_size (p r : Int) (h1 : inB p 0 7 = true) (h2 : inB r 0 7 = true) : (putS p r).size ≤ 49 := by
  unfold putS; rw [txt_size]
  have b1 := inB_iff.1 h1
  have b2 := inB_iff.1 h2
  have := entryL_len sPage [p, r] fun n hn => by
    simp at hn
    rcases hn with rfl | rfl <;> exact wf_of (by omega)
  simpa [sPage] using this
theorem held_size (p : Int) (ws : List Int) (h1 : inB p 0 7 = true) (h2 : mayW ws = true) : (heldS p ws).size ≤ 204 := by
  unfold heldS; rw [txt_size]
  have b1 := inB_iff.1 h1
  obtain ⟨hl, ha⟩ := mayW_iff.1 h2
  have := entryL_len sWords (p :: ws) fun n hn => by
    rcases List.mem_cons.1 hn with rfl | hn
    · exact wf_of (by omega)
    · exact wf_of (ha n hn)
  simp only [sWords, List.length_cons, List.length_nil] at this
  simp only [sWords]
  omega

theorem append3 (a b c : ByteArray) : a ++ b ++ c = a ++ (b ++ c) := by
  apply ByteArray.ext
  simp [ByteArray.data_append]
theorem opened_anyX (w : World) (ht : Tab w) : Calls Tryz.prog 88 #[] w fun e w' => e = .returned (.string ⟨#[111, 112, 101, 110, 59]⟩) ∧ Below w.heap.size w w' := by
  have h := entry_any ⟨#[111, 112, 101, 110]⟩ none [] 0 w (by decide) (by decide) (.inl rfl) (fun n hn => absurd hn (by simp)) ht
  go_enter Tryz.func88, Tryz.ntmps88
  go_wp2_with (go_at_call 123; go_must (refine h.mono ?_); rintro e w1 ⟨rfl, hb⟩)
  go_ret
  exact ⟨rfl, hb⟩

set_option maxHeartbeats 4000000 in
theorem expect_any (a : Option Addr) (ps : List Pg) (cap : Nat) (w : World) (hl : ps.length ≤ maxLen) (hx : PagesAt w a ps) (ht : Tab w) :
    Calls Tryz.prog 33 #[.slice a ps.length cap] w fun e w' => e = .returned (expV ps) ∧ Below w.heap.size w w' := by
  have hC := check_any a ps cap w hl hx
  unfold expV
  by_cases hz : imageF ps = 0
  · rw [if_pos hz]
    rw [hz] at hC
    have hO := fun w' (h : Below w.heap.size w w') => opened_anyX w' (ht.below h)
    have HZ : Hid (imageF ps = 0) := hz
    have HX : Hid (PagesAt w a ps) := hx
    have HT : Hid (Tab w) := ht
    have hlen : ps.length ≤ 8 := image_len hz
    clear hx ht hl hz
    go_enter Tryz.func33, Tryz.ntmps33
    go_wp2_with (first | (go_at_call 68; go_must (refine hC.mono ?_); rintro e w1 ⟨rfl, hb1⟩) | (go_at_call 88; go_must (refine (hO _ hb1).mono ?_); rintro e w2 ⟨rfl, hb2⟩))
    clear hC hO
    go_loopw [5, 20] (fun s i wr => ∃ k : Nat, k ≤ ps.length ∧ i = .int .i64 k ∧ s = .string (expK ps k) ∧ Below w.heap.size w wr) (fun _ i _ => ps.length - (intOf i).toNat)
    case atStart => exact ⟨0, Nat.zero_le _, rfl, rfl, hb1.trans (hb2.mono hb1.size)⟩
    case round =>
      obtain ⟨k, hk, rfl, rfl, hbel⟩ := hrel
      clear hb1 hb2
      have hsz := expK_size HZ.out k
      by_cases hlt : k < ps.length
      · have hX := HX.out.below hbel
        rcases HX.out.at_ with rfl | ⟨b, off, rfl, _⟩
        · simp at hlt
        · obtain ⟨c0, c1, c2⟩ := hX.cells hlt
          have hok := hX.ok k hlt
          have hf := imgF_all ps none HZ.out (ps.getD k default) (by simp [List.getD_eq_getElem?_getD, hlt])
          have HN : Hid _ := expK_succ ps k hlt
          obtain ⟨P, hP⟩ : ∃ P, ps.getD k default = P := ⟨_, rfl⟩
          rw [hP] at c0 c1 c2 hok hf HN
          obtain ⟨pat, pr, pa, pws, pcap⟩ := P
          obtain ⟨f1, f2, f3⟩ := Pg.f_zero hf
          dsimp only at c0 c1 c2 f1 f2 f3 HN
          have gA := fun w' (h : Below wr.heap.size wr w') => added_any pat pr w' hok.wat hok.wr (HT.out.below (hbel.trans (h.mono hbel.size)))
          have gH := fun w' (h : Below wr.heap.size wr w') => held_any pat pa pws pcap w' hok.wat hok.len (hok.ints.below h) (HT.out.below (hbel.trans (h.mono hbel.size)))
          simp only [f1, f2, f3, heldV, Bool.and_self, if_true] at gA gH
          have s1 := put_size pat pr f1 f2
          have s2 := held_size pat pws f1 f3
          generalize putS pat pr = SP at gA s1 HN
          generalize heldS pat pws = SH at gH s2 HN
          generalize expK ps k = SE at hsz HN ⊢
          clear hP hf hok hX f1 f2 f3 HX
          go_wp2_with (first
            | (go_at_call 89; go_must (refine (gA _ ((Below.refl _ _).alloc (Nat.le_refl _) _)).mono ?_); rintro e w3 ⟨rfl, hb3⟩; obtain ⟨hc3, hf3⟩ := bcell hb3)
            | (go_at_call 90; go_must (refine (gH _ (((Below.refl _ _).alloc (Nat.le_refl _) _).trans (hb3.mono (by simp)))).mono ?_); rintro e w4 ⟨rfl, hb4⟩))
          go_roundw
          case rel =>
            have hs3 := hb3.size
            refine ⟨k + 1, by omega, by go_num, by rw [← HN.out], hbel.trans (((((Below.refl _ _).alloc (Nat.le_refl _) _).trans (hb3.mono (by simp))).trans (hb4.mono (by simp at hs3; omega))).mono hbel.size)⟩
          case measure => simp [intOf]; omega
      · have hkl : k = ps.length := by omega
        subst hkl
        have HE : Hid (expK ps ps.length = txt (expL ps)) := expK_end ps
        generalize expK ps ps.length = T at HE hsz ⊢
        clear HX
        go_wp2
        go_ret2
        exact ⟨by rw [← HE.out]; rfl, hbel⟩
  · rw [if_neg hz]
    have hz1 : (imageF ps != 0) = true := by simpa using hz
    generalize imageF ps = z at hC hz hz1 ⊢
    clear hx ht hl
    go_enter Tryz.func33, Tryz.ntmps33
    go_wp2_with (go_at_call 68; go_must (refine hC.mono ?_); rintro e w1 ⟨rfl, hb1⟩)
    go_ret2
    exact ⟨rfl, hb1⟩

end Go.Proofs.YtdngbojbpmdegaaGreatDoor

namespace Go.Proofs.YtdngbojbpmdegaaGreatDoor
open Go.RowKit

def isDig (c : UInt8) : Prop := 48 ≤ c.toNat ∧ c.toNat ≤ 57
theorem dec_digits (n : Nat) : ∀ c ∈ Lib.decDigits n, isDig c := by
  induction n using Nat.strongRecOn with
  | ind n ih =>
    intro c hc
    rw [Lib.decDigits] at hc
    by_cases h : n < 10
    · rw [dif_pos h] at hc
      simp at hc
      subst hc
      unfold isDig
      simp
      omega
    · rw [dif_neg h] at hc
      rcases List.mem_append.1 hc with hc | hc
      · exact ih (n / 10) (by omega) c hc
      · simp at hc
        subst hc
        unfold isDig
        simp
        omega
/-- the number that digits tell -/
def val (l : List UInt8) : Nat := l.foldl (fun a c => 10 * a + (c.toNat - 48)) 0
theorem val_snoc (l : List UInt8) (c : UInt8) : val (l ++ [c]) = 10 * val l + (c.toNat - 48) := by simp [val, List.foldl_append]
theorem val_dec (n : Nat) : val (Lib.decDigits n) = n := by
  induction n using Nat.strongRecOn with
  | ind n ih =>
    rw [Lib.decDigits]
    by_cases h : n < 10
    · rw [dif_pos h]
      simp [val]
      omega
    · rw [dif_neg h, val_snoc, ih (n / 10) (by omega)]
      simp
      omega
theorem dec_inj {m n : Nat} (h : Lib.decDigits m = Lib.decDigits n) : m = n := by
  have := congrArg val h
  rwa [val_dec, val_dec] at this

/-- a text that opens with no digit -/
def NoDig (s : List UInt8) : Prop := ∃ c t, s = c :: t ∧ ¬ isDig c
theorem split_digits : ∀ (d1 d2 s1 s2 : List UInt8), (∀ c ∈ d1, isDig c) → (∀ c ∈ d2, isDig c) → NoDig s1 → NoDig s2 → d1 ++ s1 = d2 ++ s2 → d1 = d2 ∧ s1 = s2
  | [], [], s1, s2, _, _, _, _, h => ⟨rfl, by simpa using h⟩
  | [], c :: d2, s1, s2, _, h2, ⟨x, t, e, hx⟩, _, h => by
    subst e
    simp at h
    exact absurd (h.1 ▸ h2 c (by simp)) hx
  | c :: d1, [], s1, s2, h1, _, _, ⟨x, t, e, hx⟩, h => by
    subst e
    simp at h
    exact absurd (h.1 ▸ h1 c (by simp)) hx
  | c :: d1, d :: d2, s1, s2, h1, h2, n1, n2, h => by
    simp at h
    obtain ⟨rfl, h⟩ := h
    obtain ⟨e1, e2⟩ := split_digits d1 d2 s1 s2 (fun x hx => h1 x (by simp [hx])) (fun x hx => h2 x (by simp [hx])) n1 n2 h
    exact ⟨by rw [e1], e2⟩

theorem nums_open (xs : List Int) (r : List UInt8) : NoDig (numsL xs ++ 59 :: r) := by
  cases xs with
  | nil => exact ⟨59, r, rfl, by simp [isDig]⟩
  | cons x xs => exact ⟨32, _, by simp [numsL]; rfl, by simp [isDig]⟩
theorem itoa_dig {x : Int} (h : 0 ≤ x) : Lib.itoa x = Lib.decDigits x.toNat := by
  obtain ⟨n, rfl⟩ : ∃ n : Nat, x = (n : Int) := ⟨x.toNat, by omega⟩
  rw [Lib.itoa_nonneg]; rfl
theorem nums_inj : ∀ (xs ys : List Int) (r s : List UInt8), (∀ n ∈ xs, 0 ≤ n) → (∀ n ∈ ys, 0 ≤ n) → numsL xs ++ 59 :: r = numsL ys ++ 59 :: s → xs = ys ∧ r = s
  | [], [], r, s, _, _, h => ⟨rfl, by simpa [numsL] using h⟩
  | [], y :: ys, r, s, _, _, h => by simp [numsL] at h
  | x :: xs, [], r, s, _, _, h => by simp [numsL] at h
  | x :: xs, y :: ys, r, s, hx, hy, h => by
    have hx0 := hx x (by simp)
    have hy0 := hy y (by simp)
    have h' : Lib.decDigits x.toNat ++ (numsL xs ++ 59 :: r) = Lib.decDigits y.toNat ++ (numsL ys ++ 59 :: s) := by
      simp only [numsL, List.flatMap_cons, List.cons_append, List.append_assoc, List.cons.injEq, true_and] at h ⊢
      rwa [itoa_dig hx0, itoa_dig hy0] at h
    obtain ⟨e1, e2⟩ := split_digits _ _ _ _ (dec_digits _) (dec_digits _) (nums_open xs r) (nums_open ys s) h'
    have e3 := dec_inj e1
    have e4 : x = y := by omega
    obtain ⟨e5, e6⟩ := nums_inj xs ys r s (fun n hn => hx n (by simp [hn])) (fun n hn => hy n (by simp [hn])) e2
    exact ⟨by rw [e4, e5], e6⟩
theorem entry_inj {nm : List UInt8} {xs ys : List Int} {r s : List UInt8} (hx : ∀ n ∈ xs, 0 ≤ n) (hy : ∀ n ∈ ys, 0 ≤ n) (h : entryL nm xs ++ r = entryL nm ys ++ s) : xs = ys ∧ r = s := by
  unfold entryL at h
  simp only [List.append_assoc, List.append_cancel_left_eq, List.cons_append, List.nil_append] at h
  exact nums_inj xs ys r s hx hy h
theorem page_pos {p : Pg} (h : p.f = 0) : 0 ≤ p.at_ ∧ 0 ≤ p.r ∧ ∀ n ∈ p.ws, 0 ≤ n := by
  obtain ⟨h1, h2, h3⟩ := Pg.f_zero h
  exact ⟨(inB_iff.1 h1).1, (inB_iff.1 h2).1, fun n hn => ((mayW_iff.1 h3).2 n hn).1⟩
end Go.Proofs.YtdngbojbpmdegaaGreatDoor

namespace Go.Proofs.YtdngbojbpmdegaaGreatDoor
open Go.RowKit

theorem place_at {frs : List Fr} {e a : Int} {k : Nat} (hk : k < frs.length) (h : plB e a (frs.getD k default) = true) (hu : ∀ j, j < frs.length → j ≠ k → plB e a (frs.getD j default) = false) : placeOf frs e a = (k : Int) := by
  rcases place_cases frs e a with hp | ⟨j, hp, hj, hb⟩
  · exfalso
    have := place_none (show placeOf frs e a < 0 by omega) (frs.getD k default) (by simp [List.getD_eq_getElem?_getD, hk])
    rw [h] at this; cases this
  · by_cases e1 : j = k
    · rw [hp, e1]
    · rw [hu j hj e1] at hb; cases hb
theorem place_not {frs : List Fr} {e a : Int} (hu : ∀ j, j < frs.length → plB e a (frs.getD j default) = false) : placeOf frs e a = -1 := by
  rcases place_cases frs e a with hp | ⟨j, hp, hj, hb⟩
  · exact hp
  · rw [hu j hj] at hb; cases hb
theorem askF_of {M : Mv} {m : Nat} {s : Int} (hz : machF M = 0) (hm : m < 4) (h0 : (M.ens.getD m default).st ≠ 0) (hs : 0 ≤ s → (M.ens.getD m default).st = s) : askF M ((m : Int) + 1) s = 0 := by
  unfold askF
  rw [if_pos hz, if_pos (inB_iff.2 ⟨by omega, by omega⟩), show ((m : Int) + 1 - 1).toNat = m by omega, if_neg h0, if_neg (fun hh => hh.2 (hs hh.1))]
theorem wordF_of {M : Mv} {k p : Nat} (hz : machF M = 0) (hk : k < 24) (hp : p < 8) : wordF M k p = 0 := by
  unfold wordF
  rw [if_pos hz, if_pos]
  rw [Bool.and_eq_true]
  exact ⟨inB_iff.2 ⟨by omega, by omega⟩, inB_iff.2 ⟨by omega, by omega⟩⟩
theorem pokeF_of {M : Mv} {k p : Nat} {v : Int} (hz : machF M = 0) (hk : k < 24) (hp : p < 8) (hv : inB v 0 65535 = true) : pokeF M k p v = 0 := by
  unfold pokeF
  rw [if_pos (wordF_of hz hk hp), if_pos hv]
theorem putF_of {M : Mv} {m k : Nat} {a r : Int} (hz : machF M = 0) (hm : m < 4) (hs : (M.ens.getD m default).st = 1) (hk : k < 24) (ha : inB a 0 7 = true) (hr : inB r 0 7 = true) (ho : (M.frs.getD k default).o = 0) (hp : placeOf M.frs ((m : Int) + 1) a < 0) (hl : (M.ens.getD m default).log.size ≤ 900) :
    putF M ((m : Int) + 1) k a r = 0 ∧ machF (putM M ((m : Int) + 1) k a r) = 0 ∧ putM M ((m : Int) + 1) k a r = { M with frs := M.frs.set k (putFr M k ((m : Int) + 1) a r), ens := M.ens.set m ((M.ens.getD m default).withLog (putS a r)) } := by
  have hai := inB_iff.1 ha
  have hri := inB_iff.1 hr
  have hlog : logF M m (putS a r) = 0 := by
    unfold logF
    have := putS_size a r (wf_of (by omega)) (wf_of (by omega))
    rw [if_neg (by omega)]
  have h1 : putF M ((m : Int) + 1) k a r = 0 := by
    unfold putF
    rw [if_pos (askF_of hz hm (by omega) (fun _ => hs)), if_pos (inB_iff.2 ⟨by omega, by omega⟩), if_pos (by rw [ha, hr]; rfl), show ((k : Int)).toNat = k from Int.toNat_natCast k, if_pos ho, if_pos hp, show ((m : Int) + 1 - 1).toNat = m by omega, hlog]
  refine ⟨h1, put_good h1, ?_⟩
  unfold putM
  rw [if_pos h1, show ((m : Int) + 1 - 1).toNat = m by omega, show ((k : Int)).toNat = k from Int.toNat_natCast k]
end Go.Proofs.YtdngbojbpmdegaaGreatDoor
