import Derived.Test.YtdngbojbpmdegaaGreatDoorJPutMath
import Derived.Test.YtdngbojbpmdegaaGreatDoorJImageMath
import Derived.Deep.RegionHeld3
import Derived.Test.YtdngbojbpmdegaaGreatDoorJHostMath
namespace Go.Proofs.YtdngbojbpmdegaaGreatDoor
open Go.RowKit
def pageL (p : Pg) : List UInt8 := entryL sPage [p.at_, p.r] ++ entryL sWords (p.at_ :: p.ws)
def sOpen : List UInt8 := [111, 112, 101, 110, 59]
def expL (ps : List Pg) : List UInt8 := sOpen ++ ps.flatMap pageL
def expK (ps : List Pg) (k : Nat) : ByteArray := txt (expL (ps.take k))
def expV (ps : List Pg) : Value := if imageF ps = 0 then .tuple #[.string (txt (expL ps)), .int .i64 0] else .tuple #[.string ⟨#[]⟩, .int .i64 (imageF ps)]
theorem entryL_len (nm : List UInt8) (xs : List Int) (h : ∀ n ∈ xs, (Lit.int .i64 n).wf = true) : (entryL nm xs).length <= nm.length + 22 * xs.length + 1 := by
  have := numsL_le xs h
  simp only [entryL, List.length_append, List.length_cons, List.length_nil]
  omega
theorem pageL_len {p : Pg} (h : p.f = 0) : (pageL p).length <= 253 := by
  obtain ⟨h1, h2, h3⟩ := Pg.f_zero h
  have b1 := inB_iff.1 h1
  have b2 := inB_iff.1 h2
  obtain ⟨hl, ha⟩ := mayW_iff.1 h3
  have e1 := entryL_len sPage [p.at_, p.r] fun n hn => by
    simp at hn
    rcases hn with rfl | rfl <;> exact wf_of (by omega)
  have e2 := entryL_len sWords (p.at_ :: p.ws) fun n hn => by
    rcases List.mem_cons.1 hn with rfl | hn
    · exact wf_of (by omega)
    · exact wf_of (ha n hn)
  simp only [sPage, sWords, List.length_cons, List.length_nil] at e1 e2
  unfold pageL
  rw [List.length_append]
  simp only [sPage, sWords]
  omega
theorem flat_lenX : ∀ (l : List Pg), (∀ p ∈ l, p.f = 0) -> (l.flatMap pageL).length <= 253 * l.length
  | [], _ => by simp
  | p :: l, h => by
    have h1 := pageL_len (h p (by simp))
    have h2 := flat_lenX l fun q hq => h q (by simp [hq])
    simp only [List.flatMap_cons, List.length_append, List.length_cons]
    omega
theorem expK_size {ps : List Pg} (h : imageF ps = 0) (k : Nat) : (expK ps k).size <= 3000 := by
  unfold expK expL
  rw [txt_size, List.length_append]
  have h1 := flat_lenX (ps.take k) fun p hp => imgF_all ps none h p (List.mem_of_mem_take hp)
  have h2 := image_len h
  have h3 := List.length_take_le k ps
  have h4 : (ps.take k).length <= ps.length := by simp; omega
  simp only [sOpen, List.length_cons, List.length_nil]
  omega
theorem expK_succ (ps : List Pg) (k : Nat) (hk : k < ps.length) : expK ps k ++ (putS (ps.getD k default).at_ (ps.getD k default).r ++ heldS (ps.getD k default).at_ (ps.getD k default).ws) = expK ps (k + 1) := by
  unfold expK expL putS heldS
  rw [txt_append, txt_append, List.take_succ_eq_append_getElem hk, List.flatMap_append]
  have e : ps[k] = ps.getD k default := by simp [List.getD_eq_getElem?_getD, hk]
  rw [e]
  simp [pageL]
theorem expK_end (ps : List Pg) : expK ps ps.length = txt (expL ps) := by
  unfold expK; rw [List.take_of_length_le (Nat.le_refl _)]
theorem put_size (p r : Int) (h1 : inB p 0 7 = true) (h2 : inB r 0 7 = true) : (putS p r).size <= 49 := by
  unfold putS; rw [txt_size]
  have b1 := inB_iff.1 h1
  have b2 := inB_iff.1 h2
  have := entryL_len sPage [p, r] fun n hn => by
    simp at hn
    rcases hn with rfl | rfl <;> exact wf_of (by omega)
  simpa [sPage] using this
theorem held_size (p : Int) (ws : List Int) (h1 : inB p 0 7 = true) (h2 : mayW ws = true) : (heldS p ws).size <= 204 := by
  unfold heldS; rw [txt_size]
  have b1 := inB_iff.1 h1
  obtain ⟨hl, ha⟩ := mayW_iff.1 h2
  have := entryL_len sWords (p :: ws) fun n hn => by
    rcases List.mem_cons.1 hn with rfl | hn
    · exact wf_of (by omega)
    · exact wf_of (ha n hn)
  simp only [sWords, List.length_cons, List.length_nil] at this
  simp only [sWords]
  omega
theorem opened_anyX (w : World) (ht : Tab w) : Calls Tryz.prog 88 #[] w fun e w' => e = .returned (.string ⟨#[111, 112, 101, 110, 59]⟩) /\ Below w.heap.size w w' := by
  have h := entry_any ⟨#[111, 112, 101, 110]⟩ none [] 0 w (by decide) (by decide) (.inl rfl) (fun n hn => absurd hn (by simp)) ht
  go_enter Tryz.func88, Tryz.ntmps88
  go_wp2_with (go_at_call 123; go_must (refine h.mono ?_); rintro e w1 ⟨rfl, hb⟩)
  go_ret
  exact ⟨rfl, hb⟩
set_option maxHeartbeats 4000000 in
theorem expect_any (a : Option Addr) (ps : List Pg) (cap : Nat) (w : World) (hl : ps.length <= maxLen) (hx : PagesAt w a ps) (ht : Tab w) :
    Calls Tryz.prog 33 #[.slice a ps.length cap] w fun e w' => e = .returned (expV ps) /\ Below w.heap.size w w' := by
  have hC := check_any a ps cap w hl hx
  unfold expV
  by_cases hz : imageF ps = 0
  · rw [if_pos hz]
    rw [hz] at hC
    have hO := fun w' (h : Below w.heap.size w w') => opened_anyX w' (ht.below h)
    have HZ : Hid (imageF ps = 0) := hz
    have HX : Hid (PagesAt w a ps) := hx
    have HT : Hid (Tab w) := ht
    have hlen : ps.length <= 8 := image_len hz
    clear hx ht hl hz
    go_enter Tryz.func33, Tryz.ntmps33
    go_wp2_with (first | (go_at_call 68; go_must (refine hC.mono ?_); rintro e w1 ⟨rfl, hb1⟩) | (go_at_call 88; go_must (refine (hO _ hb1).mono ?_); rintro e w2 ⟨rfl, hb2⟩))
    clear hC hO
    go_loopw [5, 20] (fun s i wr => ∃ k : Nat, k <= ps.length /\ i = .int .i64 k /\ s = .string (expK ps k) /\ Below w.heap.size w wr) (fun _ i _ => ps.length - (intOf i).toNat)
    case atStart => exact ⟨0, Nat.zero_le _, rfl, rfl, hb1.trans (hb2.mono hb1.size)⟩
    case round =>
      obtain ⟨k, hk, rfl, rfl, hbel⟩ := hrel
      clear hb1 hb2
      have hsz := expK_size HZ.out k
      by_cases hlt : k < ps.length
      · have hX := HX.out.below hbel
        rcases HX.out.at_ with rfl | ⟨b, off, rfl, _⟩
        · simp at hlt
        · obtain ⟨c0, c1, c2⟩ := hX.cells hlt
          have hok := hX.ok k hlt
          have hf := imgF_all ps none HZ.out (ps.getD k default) (by simp [List.getD_eq_getElem?_getD, hlt])
          have HN : Hid _ := expK_succ ps k hlt
          obtain ⟨P, hP⟩ : ∃ P, ps.getD k default = P := ⟨_, rfl⟩
          rw [hP] at c0 c1 c2 hok hf HN
          obtain ⟨pat, pr, pa, pws, pcap⟩ := P
          obtain ⟨f1, f2, f3⟩ := Pg.f_zero hf
          dsimp only at c0 c1 c2 f1 f2 f3 HN
          have gA := fun w' (h : Below wr.heap.size wr w') => added_any pat pr w' hok.wat hok.wr (HT.out.below (hbel.trans (h.mono hbel.size)))
          have gH := fun w' (h : Below wr.heap.size wr w') => held_any pat pa pws pcap w' hok.wat hok.len (hok.ints.below h) (HT.out.below (hbel.trans (h.mono hbel.size)))
          simp only [f1, f2, f3, heldV, Bool.and_self, if_true] at gA gH
          have s1 := put_size pat pr f1 f2
          have s2 := held_size pat pws f1 f3
          generalize putS pat pr = SP at gA s1 HN
          generalize heldS pat pws = SH at gH s2 HN
          generalize expK ps k = SE at hsz HN ⊢
          clear hP hf hok hX f1 f2 f3 HX
          go_wp2_with (first
            | (go_at_call 89; go_must (refine (gA _ ((Below.refl _ _).alloc (Nat.le_refl _) _)).mono ?_); rintro e w3 ⟨rfl, hb3⟩; obtain ⟨hc3, hf3⟩ := bcell hb3)
            | (go_at_call 90; go_must (refine (gH _ (((Below.refl _ _).alloc (Nat.le_refl _) _).trans (hb3.mono (by simp)))).mono ?_); rintro e w4 ⟨rfl, hb4⟩))
          go_roundw
          case rel =>
            have hs3 := hb3.size
            refine ⟨k + 1, by omega, by go_num, by rw [<- HN.out], hbel.trans (((((Below.refl _ _).alloc (Nat.le_refl _) _).trans (hb3.mono (by simp))).trans (hb4.mono (by simp at hs3; omega))).mono hbel.size)⟩
          case measure => simp [intOf]; omega
      · have hkl : k = ps.length := by omega
        subst hkl
        have HE : Hid (expK ps ps.length = txt (expL ps)) := expK_end ps
        generalize expK ps ps.length = T at HE hsz ⊢
        clear HX
        go_wp2
        go_ret2
        exact ⟨by rw [<- HE.out]; rfl, hbel⟩
  · rw [if_neg hz]
    have hz1 : (imageF ps != 0) = true := by simpa using hz
    generalize imageF ps = z at hC hz hz1 ⊢
    clear hx ht hl
    go_enter Tryz.func33, Tryz.ntmps33
    go_wp2_with (go_at_call 68; go_must (refine hC.mono ?_); rintro e w1 ⟨rfl, hb1⟩)
    go_ret2
    exact ⟨rfl, hb1⟩
end Go.Proofs.YtdngbojbpmdegaaGreatDoor

namespace Go.Proofs.YtdngbojbpmdegaaGreatDoor
open Go.RowKit
def isDig (c : UInt8) : Prop := 48 <= c.toNat /\ c.toNat <= 57
theorem dec_digits (n : Nat) : ∀ c ∈ Lib.decDigits n, isDig c := by
  induction n using Nat.strongRecOn with
  | ind n ih =>
    intro c hc
    rw [Lib.decDigits] at hc
    by_cases h : n < 10
    · rw [dif_pos h] at hc
      simp at hc
      subst hc
      unfold isDig
      simp
      omega
    · rw [dif_neg h] at hc
      rcases List.mem_append.1 hc with hc | hc
      · exact ih (n / 10) (by omega) c hc
      · simp at hc
        subst hc
        unfold isDig
        simp
        omega
def val (l : List UInt8) : Nat := l.foldl (fun a c => 10 * a + (c.toNat - 48)) 0
theorem val_snoc (l : List UInt8) (c : UInt8) : val (l ++ [c]) = 10 * val l + (c.toNat - 48) := by simp [val, List.foldl_append]
theorem val_dec (n : Nat) : val (Lib.decDigits n) = n := by
  induction n using Nat.strongRecOn with
  | ind n ih =>
    rw [Lib.decDigits]
    by_cases h : n < 10
    · rw [dif_pos h]
      simp [val]
      omega
    · rw [dif_neg h, val_snoc, ih (n / 10) (by omega)]
      simp
      omega
theorem dec_inj {m n : Nat} (h : Lib.decDigits m = Lib.decDigits n) : m = n := by
  have := congrArg val h
  rwa [val_dec, val_dec] at this
def NoDig (s : List UInt8) : Prop := ∃ c t, s = c :: t /\ ¬ isDig c
theorem split_digits : ∀ (d1 d2 s1 s2 : List UInt8), (∀ c ∈ d1, isDig c) -> (∀ c ∈ d2, isDig c) -> NoDig s1 -> NoDig s2 -> d1 ++ s1 = d2 ++ s2 -> d1 = d2 /\ s1 = s2
  | [], [], s1, s2, _, _, _, _, h => ⟨rfl, by simpa using h⟩
  | [], c :: d2, s1, s2, _, h2, ⟨x, t, e, hx⟩, _, h => by
    subst e
    simp at h
    exact absurd (h.1 ▸ h2 c (by simp)) hx
  | c :: d1, [], s1, s2, h1, _, _, ⟨x, t, e, hx⟩, h => by
    subst e
    simp at h
    exact absurd (h.1 ▸ h1 c (by simp)) hx
  | c :: d1, d :: d2, s1, s2, h1, h2, n1, n2, h => by
    simp at h
    obtain ⟨rfl, h⟩ := h
    obtain ⟨e1, e2⟩ := split_digits d1 d2 s1 s2 (fun x hx => h1 x (by simp [hx])) (fun x hx => h2 x (by simp [hx])) n1 n2 h
    exact ⟨by rw [e1], e2⟩
theorem nums_open (xs : List Int) (r : List UInt8) : NoDig (numsL xs ++ 59 :: r) := by
  cases xs with
  | nil => exact ⟨59, r, rfl, by simp [isDig]⟩
  | cons x xs => exact ⟨32, _, by simp [numsL]; rfl, by simp [isDig]⟩
theorem itoa_dig {x : Int} (h : 0 <= x) : Lib.itoa x = Lib.decDigits x.toNat := by
  obtain ⟨n, rfl⟩ : ∃ n : Nat, x = (n : Int) := ⟨x.toNat, by omega⟩
  rw [Lib.itoa_nonneg]; rfl
theorem nums_inj : ∀ (xs ys : List Int) (r s : List UInt8), (∀ n ∈ xs, 0 <= n) -> (∀ n ∈ ys, 0 <= n) -> numsL xs ++ 59 :: r = numsL ys ++ 59 :: s -> xs = ys /\ r = s
  | [], [], r, s, _, _, h => ⟨rfl, by simpa [numsL] using h⟩
  | [], y :: ys, r, s, _, _, h => by simp [numsL] at h
  | x :: xs, [], r, s, _, _, h => by simp [numsL] at h
  | x :: xs, y :: ys, r, s, hx, hy, h => by
    have hx0 := hx x (by simp)
    have hy0 := hy y (by simp)
    have h' : Lib.decDigits x.toNat ++ (numsL xs ++ 59 :: r) = Lib.decDigits y.toNat ++ (numsL ys ++ 59 :: s) := by
      simp only [numsL, List.flatMap_cons, List.cons_append, List.append_assoc, List.cons.injEq, true_and] at h ⊢
      rwa [itoa_dig hx0, itoa_dig hy0] at h
    obtain ⟨e1, e2⟩ := split_digits _ _ _ _ (dec_digits _) (dec_digits _) (nums_open xs r) (nums_open ys s) h'
    have e3 := dec_inj e1
    have e4 : x = y := by omega
    obtain ⟨e5, e6⟩ := nums_inj xs ys r s (fun n hn => hx n (by simp [hn])) (fun n hn => hy n (by simp [hn])) e2
    exact ⟨by rw [e4, e5], e6⟩
theorem entry_inj {nm : List UInt8} {xs ys : List Int} {r s : List UInt8} (hx : ∀ n ∈ xs, 0 <= n) (hy : ∀ n ∈ ys, 0 <= n) (h : entryL nm xs ++ r = entryL nm ys ++ s) : xs = ys /\ r = s := by
  unfold entryL at h
  simp only [List.append_assoc, List.append_cancel_left_eq, List.cons_append, List.nil_append] at h
  exact nums_inj xs ys r s hx hy h
theorem page_pos {p : Pg} (h : p.f = 0) : 0 <= p.at_ /\ 0 <= p.r /\ ∀ n ∈ p.ws, 0 <= n := by
  obtain ⟨h1, h2, h3⟩ := Pg.f_zero h
  exact ⟨(inB_iff.1 h1).1, (inB_iff.1 h2).1, fun n hn => ((mayW_iff.1 h3).2 n hn).1⟩
end Go.Proofs.YtdngbojbpmdegaaGreatDoor

namespace Go.Proofs.YtdngbojbpmdegaaGreatDoor
open Go.RowKit
theorem place_at {frs : List Fr} {e a : Int} {k : Nat} (hk : k < frs.length) (h : plB e a (frs.getD k default) = true) (hu : ∀ j, j < frs.length -> j ≠ k -> plB e a (frs.getD j default) = false) : placeOf frs e a = (k : Int) := by
  rcases place_cases frs e a with hp | ⟨j, hp, hj, hb⟩
  · exfalso
    have := place_none (show placeOf frs e a < 0 by omega) (frs.getD k default) (by simp [List.getD_eq_getElem?_getD, hk])
    rw [h] at this; cases this
  · by_cases e1 : j = k
    · rw [hp, e1]
    · rw [hu j hj e1] at hb; cases hb
end Go.Proofs.YtdngbojbpmdegaaGreatDoor

namespace Go.Proofs.YtdngbojbpmdegaaGreatDoor
open Go.RowKit
inductive Lg where
  | pg (a r : Int)
  | wd (a : Int) (ws : List Int)
def Lg.bytes : Lg -> List UInt8
  | .pg a r => entryL sPage [a, r]
  | .wd a ws => entryL sWords (a :: ws)
def Lg.Pos : Lg -> Prop
  | .pg a r => 0 <= a /\ 0 <= r
  | .wd a ws => 0 <= a /\ ∀ n ∈ ws, 0 <= n
def Lg.isPg : Lg -> Bool
  | .pg _ _ => true
  | .wd _ _ => false
def pageLg (p : Pg) : List Lg := [.pg p.at_ p.r, .wd p.at_ p.ws]
theorem pageLg_bytes (p : Pg) : (pageLg p).flatMap Lg.bytes = pageL p := by simp [pageLg, Lg.bytes, pageL]
theorem imgLg_bytes (ps : List Pg) : (ps.flatMap pageLg).flatMap Lg.bytes = ps.flatMap pageL := by
  induction ps with
  | nil => rfl
  | cons p ps ih => simp only [List.flatMap_cons, List.flatMap_append, pageLg_bytes, ih]
theorem imgLg_pos {ps : List Pg} (h : ∀ p ∈ ps, p.f = 0) : ∀ x ∈ ps.flatMap pageLg, x.Pos := by
  intro x hx
  obtain ⟨p, hp, hx⟩ := List.mem_flatMap.1 hx
  obtain ⟨h1, h2, h3⟩ := page_pos (h p hp)
  simp only [pageLg, List.mem_cons, List.not_mem_nil, or_false] at hx
  rcases hx with rfl | rfl
  · exact ⟨h1, h2⟩
  · exact ⟨h1, h3⟩
theorem imgLg_count (ps : List Pg) : (ps.flatMap pageLg).countP Lg.isPg = ps.length := by
  induction ps with
  | nil => rfl
  | cons p ps ih =>
    have h1 : (pageLg p).countP Lg.isPg = 1 := rfl
    simp only [List.flatMap_cons, List.countP_append, ih, List.length_cons, h1]; omega
theorem lg_one {x y : Lg} {r s : List UInt8} (hx : x.Pos) (hy : y.Pos) (h : x.bytes ++ r = y.bytes ++ s) : x = y /\ r = s := by
  cases x with
  | pg a b =>
    cases y with
    | pg c d =>
      obtain ⟨e1, e2⟩ := entry_inj (fun n hn => by simp at hn; rcases hn with rfl | rfl; exact hx.1; exact hx.2) (fun n hn => by simp at hn; rcases hn with rfl | rfl; exact hy.1; exact hy.2) h
      simp at e1
      exact ⟨by rw [e1.1, e1.2], e2⟩
    | wd c d => exact absurd h (by simp [Lg.bytes, entryL, sPage, sWords])
  | wd a b =>
    cases y with
    | pg c d => exact absurd h (by simp [Lg.bytes, entryL, sPage, sWords])
    | wd c d =>
      obtain ⟨e1, e2⟩ := entry_inj (fun n hn => by rcases List.mem_cons.1 hn with rfl | hn; exact hx.1; exact hx.2 n hn) (fun n hn => by rcases List.mem_cons.1 hn with rfl | hn; exact hy.1; exact hy.2 n hn) h
      simp at e1
      exact ⟨by rw [e1.1, e1.2], e2⟩
theorem lg_ne (x : Lg) (s : List UInt8) : x.bytes ++ s ≠ [] := by cases x <;> simp [Lg.bytes, entryL, sPage, sWords]
theorem lg_inj : ∀ (L K : List Lg), (∀ x ∈ L, x.Pos) -> (∀ x ∈ K, x.Pos) -> L.flatMap Lg.bytes = K.flatMap Lg.bytes -> L = K
  | [], [], _, _, _ => rfl
  | [], y :: K, _, _, h => by simp only [List.flatMap_nil, List.flatMap_cons] at h; exact absurd h.symm (lg_ne y _)
  | x :: L, [], _, _, h => by simp only [List.flatMap_nil, List.flatMap_cons] at h; exact absurd h (lg_ne x _)
  | x :: L, y :: K, hx, hy, h => by
    simp only [List.flatMap_cons] at h
    obtain ⟨e1, e2⟩ := lg_one (hx x (by simp)) (hy y (by simp)) h
    rw [e1, lg_inj L K (fun z hz => hx z (by simp [hz])) (fun z hz => hy z (by simp [hz])) e2]
def ownB (e : Int) (f : Fr) : Bool := f.o == e
theorem countP_upto {p q : Fr -> Bool} {xs ys : List Fr} (hl : xs.length = ys.length) (h : ∀ j, j < xs.length -> p (xs.getD j default) = q (ys.getD j default)) : xs.countP p = ys.countP q := by
  have e : xs.map p = ys.map q := by
    apply List.ext_getElem (by simpa using hl)
    intro j h1 h2
    have h3 : j < xs.length := by simpa using h1
    have h4 : j < ys.length := by simpa using h2
    have := h j h3
    simpa [List.getD_eq_getElem?_getD, h3, h4] using this
  have e1 : ∀ (zs : List Fr) (r : Fr -> Bool), zs.countP r = (zs.map r).countP id := fun zs r => by rw [List.countP_map]; rfl
  rw [e1 xs p, e1 ys q, e]
structure Logs (M : Mv) (m : Nat) (L : List Lg) : Prop where
  log : (M.ens.getD m default).log = txt (sOpen ++ L.flatMap Lg.bytes)
  pos : ∀ x ∈ L, x.Pos
  pg : ∀ a r, Lg.pg a r ∈ L -> ∃ j, j < 24 /\ (M.frs.getD j default).o = (m : Int) + 1 /\ (M.frs.getD j default).at_ = a /\ (M.frs.getD j default).r = r
  wd : ∀ a ws, Lg.wd a ws ∈ L -> ∃ j, j < 24 /\ (M.frs.getD j default).o = (m : Int) + 1 /\ (M.frs.getD j default).at_ = a /\ (M.frs.getD j default).ws = ws
  cnt : M.frs.countP (ownB ((m : Int) + 1)) = L.countP Lg.isPg
def Kept (M M' : Mv) (m : Nat) : Prop := ∀ j, j < 24 -> (M.frs.getD j default).o = (m : Int) + 1 ∨ (M'.frs.getD j default).o = (m : Int) + 1 -> M'.frs.getD j default = M.frs.getD j default
theorem kept_count {M M' : Mv} {m : Nat} (h1 : M.frs.length = 24) (h2 : M'.frs.length = 24) (hk : Kept M M' m) : M'.frs.countP (ownB ((m : Int) + 1)) = M.frs.countP (ownB ((m : Int) + 1)) := by
  refine countP_upto (by rw [h1, h2]) fun j hj => ?_
  have hk' := hk j (by omega)
  unfold ownB
  by_cases c : (M.frs.getD j default).o = (m : Int) + 1
  · rw [hk' (.inl c)]
  · by_cases c' : (M'.frs.getD j default).o = (m : Int) + 1
    · rw [hk' (.inr c')]
    · rw [beq_eq_false_iff_ne.2 c, beq_eq_false_iff_ne.2 c']
theorem Logs.keep {M M' : Mv} {m : Nat} {L : List Lg} (h : Logs M m L) (h1 : M.frs.length = 24) (h2 : M'.frs.length = 24) (hl : (M'.ens.getD m default).log = (M.ens.getD m default).log) (hk : Kept M M' m) : Logs M' m L := by
  refine ⟨hl.trans h.log, h.pos, fun a r hx => ?_, fun a ws hx => ?_, (kept_count h1 h2 hk).trans h.cnt⟩
  · obtain ⟨j, hj, e1, e2, e3⟩ := h.pg a r hx
    have e := hk j hj (.inl e1)
    exact ⟨j, hj, by rw [e]; exact e1, by rw [e]; exact e2, by rw [e]; exact e3⟩
  · obtain ⟨j, hj, e1, e2, e3⟩ := h.wd a ws hx
    have e := hk j hj (.inl e1)
    exact ⟨j, hj, by rw [e]; exact e1, by rw [e]; exact e2, by rw [e]; exact e3⟩
def Told (M : Mv) : Prop := ∀ m, m < 4 -> (M.ens.getD m default).st = 0 ∨ (((M.ens.getD m default).st = 1 ∨ (M.ens.getD m default).st = 2) /\ ∃ L, Logs M m L)
theorem told_new : Told newM := fun m hm => by
  left
  show ((List.replicate 4 (default : En)).getD m default).st = 0
  rw [rep_getD _ _ _ hm]; rfl
theorem told_keep {M M' : Mv} {m : Nat} (h1 : M.frs.length = 24) (h2 : M'.frs.length = 24) (hl : M'.ens.getD m default = M.ens.getD m default) (hk : Kept M M' m)
    (h : (M.ens.getD m default).st = 0 ∨ (((M.ens.getD m default).st = 1 ∨ (M.ens.getD m default).st = 2) /\ ∃ L, Logs M m L)) : (M'.ens.getD m default).st = 0 ∨ (((M'.ens.getD m default).st = 1 ∨ (M'.ens.getD m default).st = 2) /\ ∃ L, Logs M' m L) := by
  rw [hl]
  rcases h with h | ⟨h, L, hL⟩
  · exact .inl h
  · exact .inr ⟨h, L, hL.keep h1 h2 (by rw [hl]) hk⟩
theorem kept_refl (M M' : Mv) (m : Nat) (h : M'.frs = M.frs) : Kept M M' m := fun j _ _ => by rw [h]
theorem told_create {M : Mv} (hg : Good M) (h : Told M) (hF : creF M = 0) : Told (creM M) := by
  intro m hm
  unfold creM
  rw [if_pos hF]
  have hz : machF M = 0 := good_iff.2 hg
  unfold creF at hF
  rw [if_pos hz] at hF
  rcases idxOf_cases emptyB M.ens with ⟨e, _⟩ | ⟨k, e, hk, hb, _⟩
  · rw [if_pos (by unfold creI; omega)] at hF; omega
  · have ek : (creI M).toNat = k := by unfold creI; rw [e]; omega
    rw [ek]
    have s2 := hg.s2
    by_cases c : m = k
    · right
      subst c
      have st0 : (M.ens.getD m default).st = 0 := by simpa [emptyB] using hb
      have eE : ((M.ens.set m openE).getD m default) = openE := by rw [getD_set_any, if_pos ⟨rfl, hk⟩]
      refine ⟨.inl (by show ((M.ens.set m openE).getD m default).st = 1; rw [eE]; rfl), [], ?_, (fun x hx => by cases hx), (fun a r hx => by cases hx), (fun a r hx => by cases hx), ?_⟩
      · show ((M.ens.set m openE).getD m default).log = _
        rw [eE]; rfl
      · show M.frs.countP _ = 0
        rw [List.countP_eq_zero]
        intro f hf hb
        obtain ⟨j, hj, ej⟩ := List.mem_iff_getElem.1 hf
        have hj24 : j < 24 := by have := hg.s1; omega
        have hfr := goodFr_iff.1 (hg.fr j hj24)
        have ef : M.frs.getD j default = f := by simp [List.getD_eq_getElem?_getD, hj, ej]
        rw [ef] at hfr
        have ho : f.o = (m : Int) + 1 := by simpa [ownB] using hb
        have := hfr.2.2.2.2.2 (by omega)
        rw [ho, show ((m : Int) + 1 - 1).toNat = m by omega] at this
        exact this st0
    · exact told_keep hg.s1 hg.s1 (by show (M.ens.set k openE).getD m default = _; rw [getD_set_any, if_neg (fun q => c q.1)]) (kept_refl _ _ _ rfl) (h m hm)
theorem told_put {M : Mv} {e f a r : Int} (hg : Good M) (h : Told M) (hF : putF M e f a r = 0) : Told (putM M e f a r) := by
  intro m hm
  unfold putM
  rw [if_pos hF]
  unfold putF at hF
  split at hF
  · rename_i hz
    obtain ⟨hz0, m0, rfl, hm4, hst, hs1⟩ := askF_zero hz
    have st1 := hs1 (by omega)
    rw [show ((m0 : Int) + 1 - 1).toNat = m0 by omega] at hF ⊢
    split at hF
    · rename_i hf
      have hfi := inB_iff.1 hf
      split at hF
      · rename_i ha
        rw [Bool.and_eq_true] at ha
        have a1 := inB_iff.1 ha.1
        have a2 := inB_iff.1 ha.2
        split at hF
        · rename_i ho
          have l1 := hg.s1
          have l2 := hg.s2
          obtain ⟨k, hk, hk24⟩ : ∃ k : Nat, f.toNat = k /\ k < 24 := ⟨_, rfl, by omega⟩
          rw [hk] at ho ⊢
          have hset : ∀ j, j ≠ k -> (M.frs.set k (putFr M k ((m0 : Int) + 1) a r)).getD j default = M.frs.getD j default := fun j hj => by rw [getD_set_any, if_neg (fun q => hj q.1)]
          have hsk : (M.frs.set k (putFr M k ((m0 : Int) + 1) a r)).getD k default = putFr M k ((m0 : Int) + 1) a r := by rw [getD_set_any, if_pos ⟨rfl, by omega⟩]
          by_cases c : m = m0
          · subst c
            rcases h m hm with q | ⟨_, L, hL⟩
            · exact absurd q hst
            · right
              have eE : (M.ens.set m ((M.ens.getD m default).withLog (putS a r))).getD m default = (M.ens.getD m default).withLog (putS a r) := by rw [getD_set_any, if_pos ⟨rfl, by omega⟩]
              refine ⟨.inl (by show ((M.ens.set m ((M.ens.getD m default).withLog (putS a r))).getD m default).st = 1; rw [eE]; exact st1), L ++ [.pg a r], ?_, ?_, ?_, ?_, ?_⟩
              · show ((M.ens.set m ((M.ens.getD m default).withLog (putS a r))).getD m default).log = _
                rw [eE]
                show (M.ens.getD m default).log ++ putS a r = _
                rw [hL.log]
                unfold putS
                rw [txt_append]
                simp [Lg.bytes]
              · intro x hx
                rcases List.mem_append.1 hx with hx | hx
                · exact hL.pos x hx
                · simp only [List.mem_cons, List.not_mem_nil, or_false] at hx
                  subst hx
                  exact ⟨a1.1, a2.1⟩
              · intro a' r' hx
                rcases List.mem_append.1 hx with hx | hx
                · obtain ⟨j, hj, e1, e2, e3⟩ := hL.pg a' r' hx
                  have hjk : j ≠ k := by intro q; rw [q, ho] at e1; omega
                  refine ⟨j, hj, ?_⟩
                  show ((M.frs.set k (putFr M k ((m : Int) + 1) a r)).getD j default).o = _ /\ _
                  rw [hset j hjk]
                  exact ⟨e1, e2, e3⟩
                · simp only [List.mem_cons, List.not_mem_nil, or_false, Lg.pg.injEq] at hx
                  obtain ⟨rfl, rfl⟩ := hx
                  refine ⟨k, hk24, ?_⟩
                  show ((M.frs.set k (putFr M k ((m : Int) + 1) a' r')).getD k default).o = _ /\ _
                  rw [hsk]
                  exact ⟨rfl, rfl, rfl⟩
              · intro a' ws hx
                rcases List.mem_append.1 hx with hx | hx
                · obtain ⟨j, hj, e1, e2, e3⟩ := hL.wd a' ws hx
                  have hjk : j ≠ k := by intro q; rw [q, ho] at e1; omega
                  refine ⟨j, hj, ?_⟩
                  show ((M.frs.set k (putFr M k ((m : Int) + 1) a r)).getD j default).o = _ /\ _
                  rw [hset j hjk]
                  exact ⟨e1, e2, e3⟩
                · simp only [List.mem_cons, List.not_mem_nil, or_false] at hx
                  cases hx
              · show (M.frs.set k _).countP _ = _
                have hkl : k < M.frs.length := by omega
                rw [List.countP_set hkl, List.countP_append, <- hL.cnt]
                have e1 : M.frs[k] = M.frs.getD k default := by simp [List.getD_eq_getElem?_getD, hkl]
                have e2 : ownB ((m : Int) + 1) M.frs[k] = false := by rw [e1]; unfold ownB; rw [ho]; exact beq_eq_false_iff_ne.2 (by omega)
                have e3 : ownB ((m : Int) + 1) (putFr M k ((m : Int) + 1) a r) = true := beq_self_eq_true _
                rw [e2, e3]
                simp [Lg.isPg]
          · refine told_keep l1 (by simpa using l1) (by show (M.ens.set m0 _).getD m default = _; rw [getD_set_any, if_neg (fun q => c q.1)]) (fun j hj q => ?_) (h m hm)
            by_cases cj : j = k
            · subst cj
              exfalso
              rcases q with q | q
              · omega
              · have q' : ((M.frs.set j (putFr M j ((m0 : Int) + 1) a r)).getD j default).o = (m : Int) + 1 := q
                rw [hsk] at q'
                have : (m0 : Int) + 1 = (m : Int) + 1 := q'
                omega
            · exact hset j cj
        · omega
      · omega
    · omega
  · rename_i hz; exact absurd hF hz
theorem told_measure {M : Mv} {e a : Int} (hg : Good M) (h : Told M) (hF : meaF M e a = 0) : Told (meaM M e a) := by
  intro m hm
  unfold meaM
  rw [if_pos hF]
  unfold meaF at hF
  split at hF
  · rename_i hz
    obtain ⟨hz0, m0, rfl, hm4, hst, hs1⟩ := askF_zero hz
    have st1 := hs1 (by omega)
    rw [show ((m0 : Int) + 1 - 1).toNat = m0 by omega] at hF ⊢
    split at hF
    · omega
    · rename_i hp
      have l1 := hg.s1
      have l2 := hg.s2
      by_cases c : m = m0
      · subst c
        rcases h m hm with q | ⟨_, L, hL⟩
        · exact absurd q hst
        · right
          rcases place_cases M.frs ((m : Int) + 1) a with q | ⟨k, hk, hkl, hb⟩
          · exact absurd (by omega) hp
          · have eE : (M.ens.set m ((M.ens.getD m default).withLog (meaS M ((m : Int) + 1) a))).getD m default = (M.ens.getD m default).withLog (meaS M ((m : Int) + 1) a) := by rw [getD_set_any, if_pos ⟨rfl, by omega⟩]
            have eS : meaS M ((m : Int) + 1) a = txt (Lg.wd a (M.frs.getD k default).ws).bytes := by unfold meaS heldS; rw [hk, Int.toNat_natCast]; rfl
            simp only [plB, Bool.and_eq_true, beq_iff_eq] at hb
            have hfr := goodFr_iff.1 (hg.fr k (by omega))
            refine ⟨.inl (by show ((M.ens.set m ((M.ens.getD m default).withLog (meaS M ((m : Int) + 1) a))).getD m default).st = 1; rw [eE]; exact st1), L ++ [.wd a (M.frs.getD k default).ws], ?_, ?_, ?_, ?_, ?_⟩
            · show ((M.ens.set m ((M.ens.getD m default).withLog (meaS M ((m : Int) + 1) a))).getD m default).log = _
              rw [eE]
              show (M.ens.getD m default).log ++ meaS M ((m : Int) + 1) a = _
              rw [hL.log, eS, txt_append]
              simp
            · intro x hx
              rcases List.mem_append.1 hx with hx | hx
              · exact hL.pos x hx
              · simp only [List.mem_cons, List.not_mem_nil, or_false] at hx
                subst hx
                have h3 := inB_iff.1 hfr.2.2.1
                rw [hb.2] at h3
                exact ⟨h3.1, fun n hn => ((mayW_iff.1 hfr.1).2 n hn).1⟩
            · intro a' r' hx
              rcases List.mem_append.1 hx with hx | hx
              · exact hL.pg a' r' hx
              · simp only [List.mem_cons, List.not_mem_nil, or_false] at hx
                cases hx
            · intro a' ws hx
              rcases List.mem_append.1 hx with hx | hx
              · exact hL.wd a' ws hx
              · simp only [List.mem_cons, List.not_mem_nil, or_false, Lg.wd.injEq] at hx
                obtain ⟨rfl, rfl⟩ := hx
                exact ⟨k, by omega, hb.1.2, hb.2, rfl⟩
            · show M.frs.countP _ = _
              rw [List.countP_append, hL.cnt]
              simp [Lg.isPg]
      · exact told_keep l1 l1 (by show (M.ens.set m0 _).getD m default = _; rw [getD_set_any, if_neg (fun q => c q.1)]) (kept_refl _ _ _ rfl) (h m hm)
  · rename_i hz; exact absurd hF hz
theorem told_start {M : Mv} {e : Int} (hg : Good M) (h : Told M) (hF : askF M e 1 = 0) : Told (startM M e) := by
  intro m hm
  unfold startM
  rw [if_pos hF]
  obtain ⟨hz0, m0, rfl, hm4, hst, hs1⟩ := askF_zero hF
  rw [show ((m0 : Int) + 1 - 1).toNat = m0 by omega]
  have l2 := hg.s2
  by_cases c : m = m0
  · subst c
    rcases h m hm with q | ⟨_, L, hL⟩
    · exact absurd q hst
    · right
      have eE : (M.ens.set m { M.ens.getD m default with st := 2 }).getD m default = { M.ens.getD m default with st := 2 } := by rw [getD_set_any, if_pos ⟨rfl, by omega⟩]
      exact ⟨.inr (by show ((M.ens.set m { M.ens.getD m default with st := 2 }).getD m default).st = 2; rw [eE]), L, hL.keep hg.s1 hg.s1 (by show ((M.ens.set m { M.ens.getD m default with st := 2 }).getD m default).log = _; rw [eE]) (kept_refl _ _ _ rfl)⟩
  · exact told_keep hg.s1 hg.s1 (by show (M.ens.set m0 _).getD m default = _; rw [getD_set_any, if_neg (fun q => c q.1)]) (kept_refl _ _ _ rfl) (h m hm)
theorem told_remove {M : Mv} {e : Int} (hg : Good M) (h : Told M) (hF : askF M e (-1) = 0) : Told (remM M e) := by
  intro m hm
  unfold remM
  rw [if_pos hF]
  obtain ⟨hz0, m0, rfl, hm4, hst, hs1⟩ := askF_zero hF
  rw [show ((m0 : Int) + 1 - 1).toNat = m0 by omega]
  have l1 := hg.s1
  have l2 := hg.s2
  by_cases c : m = m0
  · left
    subst c
    show ((M.ens.set m default).getD m default).st = 0
    rw [getD_set_any, if_pos ⟨rfl, by omega⟩]; rfl
  · refine told_keep l1 (by simpa using l1) (by show (M.ens.set m0 _).getD m default = _; rw [getD_set_any, if_neg (fun q => c q.1)]) (fun j hj q => ?_) (h m hm)
    show (M.frs.map (remFr ((m0 : Int) + 1))).getD j default = _
    have q' : (M.frs.getD j default).o = (m : Int) + 1 ∨ ((M.frs.map (remFr ((m0 : Int) + 1))).getD j default).o = (m : Int) + 1 := q
    rw [frmap_getD _ (by omega)] at q' ⊢
    unfold remFr at q' ⊢
    split
    · rename_i ho
      exfalso
      rw [if_pos ho] at q'
      rcases q' with q' | q'
      · omega
      · have : (0 : Int) = (m : Int) + 1 := q'
        omega
    · rfl
theorem told_poke {M : Mv} {f a n : Int} (hg : Good M) (h : Told M) (hF : pokeF M f a n = 0) : Told (pokeM M f a n) := by
  intro m hm
  unfold pokeM
  rw [if_pos hF]
  split
  · rename_i ho
    have l1 := hg.s1
    refine told_keep l1 (by simpa using l1) rfl (fun j hj q => ?_) (h m hm)
    show (M.frs.set f.toNat _).getD j default = _
    have q' : (M.frs.getD j default).o = (m : Int) + 1 ∨ ((M.frs.set f.toNat { M.frs.getD f.toNat default with ws := (M.frs.getD f.toNat default).ws.set a.toNat n }).getD j default).o = (m : Int) + 1 := q
    rw [getD_set_any] at q' ⊢
    split
    · rename_i cj
      exfalso
      rw [if_pos cj, cj.1] at q'
      rcases q' with q' | q'
      · omega
      · have : (M.frs.getD f.toNat default).o = (m : Int) + 1 := q'
        omega
    · rfl
  · exact h m hm
def Ac.outer (x : Ac) : Prop := x.k ≠ 8 /\ x.k ≠ 9
theorem ite_told {c : Prop} [Decidable c] {A B : Mv} (h1 : c -> Told A) (h2 : ¬ c -> Told B) : Told (if c then A else B) := by
  split
  · rename_i h; exact h1 h
  · rename_i h; exact h2 h
theorem told_act {M : Mv} (hz : machF M = 0) (h : Told M) (C : Cv) (x : Ac) (hx : x.outer) : Told (actM M C x) := by
  have hg := good_iff.1 hz
  unfold actM
  exact ite_told (fun _ => ite_told (fun q => told_create hg h q) (fun _ => h)) (fun _ => ite_told (fun _ => ite_told (fun q => told_put hg h q) (fun _ => h)) (fun _ => ite_told (fun _ => ite_told (fun q => told_measure hg h q) (fun _ => h)) (fun _ => ite_told (fun _ => ite_told (fun q => told_start hg h q) (fun _ => h)) (fun _ =>
    ite_told (fun _ => ite_told (fun q => told_remove hg h q) (fun _ => h)) (fun _ => ite_told (fun _ => ite_told (fun q => told_poke hg h q) (fun _ => h)) (fun _ => ite_told (fun q => absurd q hx.1) (fun _ => ite_told (fun q => absurd q hx.2) (fun _ => h))))))))
theorem told_hst : ∀ (l : List Ac) (s : Hs), machF s.M = 0 -> Told s.M -> (∀ x ∈ l, x.outer) -> Told (hst s l).M
  | [], _, _, h, _ => h
  | x :: l, s, hz, h, ho => told_hst l (hstep s x) (act_good s.C x hz) (told_act hz h s.C x (ho x (by simp))) fun y hy => ho y (by simp [hy])
def hasM (M : Mv) (e : Int) (ps : List Pg) : Prop := M.frs.countP (ownB e) = ps.length /\ ∀ p ∈ ps, ∃ k : Nat, k < 24 /\ placeOf M.frs e p.at_ = (k : Int) /\ (M.frs.getD k default).r = p.r /\ (M.frs.getD k default).ws = p.ws
theorem good_place {M : Mv} (hg : Good M) {m j : Nat} (hj : j < 24) {a : Int} (ho : (M.frs.getD j default).o = (m : Int) + 1) (ha : (M.frs.getD j default).at_ = a) : placeOf M.frs ((m : Int) + 1) a = (j : Int) := by
  have l1 := hg.s1
  refine place_at (by omega) (by simp only [plB, ho, ha, beq_self_eq_true, Bool.and_true, decide_eq_true_eq]; omega) fun i hi hij => ?_
  cases hb : plB ((m : Int) + 1) a (M.frs.getD i default) with
  | false => rfl
  | true =>
    simp only [plB, Bool.and_eq_true, beq_iff_eq] at hb
    exfalso
    rcases Nat.lt_or_gt_of_ne hij with q | q
    · exact hg.tw i j q hj (by omega) ⟨by rw [hb.1.2, ho], by rw [hb.2, ha]⟩
    · exact hg.tw j i q (by omega) (by omega) ⟨by rw [hb.1.2, ho], by rw [hb.2, ha]⟩
theorem told_has {M : Mv} (hz : machF M = 0) (h : Told M) {m : Nat} (hm : m < 4) {ps : List Pg} (hi : imageF ps = 0) (hs : (M.ens.getD m default).st = 2) (hl : (M.ens.getD m default).log = txt (expL ps)) : hasM M ((m : Int) + 1) ps := by
  have hg := good_iff.1 hz
  rcases h m hm with q | ⟨_, L, hL⟩
  · omega
  · have e1 := txt_inj (hL.log.symm.trans hl)
    unfold expL at e1
    rw [List.append_cancel_left_eq, <- imgLg_bytes] at e1
    have hps := imgF_all ps none hi
    have e2 := lg_inj _ _ hL.pos (imgLg_pos hps) e1
    subst e2
    refine ⟨by rw [hL.cnt, imgLg_count], fun p hp => ?_⟩
    obtain ⟨j, hj, o1, a1, r1⟩ := hL.pg p.at_ p.r (List.mem_flatMap.2 ⟨p, hp, by simp [pageLg]⟩)
    obtain ⟨i, hi, o2, a2, w2⟩ := hL.wd p.at_ p.ws (List.mem_flatMap.2 ⟨p, hp, by simp [pageLg]⟩)
    have p1 := good_place hg hj o1 a1
    have p2 := good_place hg hi o2 a2
    have : i = j := by omega
    subst this
    exact ⟨i, hi, p1, r1, w2⟩
end Go.Proofs.YtdngbojbpmdegaaGreatDoor
