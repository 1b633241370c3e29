/-
  Two images that may be are measured the same only if their pages hold the same (own work, plain mathematics of the measured text). The condition: nothing is wrong with either.
-/
import Derived.Test.YtdbbiibnhgcndaaDoorExpects
namespace Go.Proofs.YtdbbiibnhgcndaaDoor
open Go.RowKit

/-- what a page holds -/
def Pg.dat (p : Pg) : Int × Int × List Int := (p.at_, p.r, p.ws)

def isDig (c : UInt8) : Prop := 48 ≤ c.toNat ∧ c.toNat ≤ 57
theorem dec_digits (n : Nat) : ∀ c ∈ Lib.decDigits n, isDig c := by
  induction n using Nat.strongRecOn with
  | ind n ih =>
    intro c hc
    rw [Lib.decDigits] at hc
    by_cases h : n < 10
    · rw [dif_pos h] at hc
      simp at hc
      subst hc
      unfold isDig
      simp
      omega
    · rw [dif_neg h] at hc
      rcases List.mem_append.1 hc with hc | hc
      · exact ih (n / 10) (by omega) c hc
      · simp at hc
        subst hc
        unfold isDig
        simp
        omega
/-- the number that digits tell -/
def val (l : List UInt8) : Nat := l.foldl (fun a c => 10 * a + (c.toNat - 48)) 0
theorem val_snoc (l : List UInt8) (c : UInt8) : val (l ++ [c]) = 10 * val l + (c.toNat - 48) := by simp [val, List.foldl_append]
theorem val_dec (n : Nat) : val (Lib.decDigits n) = n := by
  induction n using Nat.strongRecOn with
  | ind n ih =>
    rw [Lib.decDigits]
    by_cases h : n < 10
    · rw [dif_pos h]
      simp [val]
      omega
    · rw [dif_neg h, val_snoc, ih (n / 10) (by omega)]
      simp
      omega
theorem dec_inj {m n : Nat} (h : Lib.decDigits m = Lib.decDigits n) : m = n := by
  have := congrArg val h
  rwa [val_dec, val_dec] at this

/-- a text that opens with no digit -/
def NoDig (s : List UInt8) : Prop := ∃ c t, s = c :: t ∧ ¬ isDig c
theorem split_digits : ∀ (d1 d2 s1 s2 : List UInt8), (∀ c ∈ d1, isDig c) → (∀ c ∈ d2, isDig c) → NoDig s1 → NoDig s2 → d1 ++ s1 = d2 ++ s2 → d1 = d2 ∧ s1 = s2
  | [], [], s1, s2, _, _, _, _, h => ⟨rfl, by simpa using h⟩
  | [], c :: d2, s1, s2, _, h2, ⟨x, t, e, hx⟩, _, h => by
    subst e
    simp at h
    exact absurd (h.1 ▸ h2 c (by simp)) hx
  | c :: d1, [], s1, s2, h1, _, _, ⟨x, t, e, hx⟩, h => by
    subst e
    simp at h
    exact absurd (h.1 ▸ h1 c (by simp)) hx
  | c :: d1, d :: d2, s1, s2, h1, h2, n1, n2, h => by
    simp at h
    obtain ⟨rfl, h⟩ := h
    obtain ⟨e1, e2⟩ := split_digits d1 d2 s1 s2 (fun x hx => h1 x (by simp [hx])) (fun x hx => h2 x (by simp [hx])) n1 n2 h
    exact ⟨by rw [e1], e2⟩

theorem nums_open (xs : List Int) (r : List UInt8) : NoDig (numsL xs ++ 59 :: r) := by
  cases xs with
  | nil => exact ⟨59, r, rfl, by simp [isDig]⟩
  | cons x xs => exact ⟨32, _, by simp [numsL]; rfl, by simp [isDig]⟩
theorem itoa_dig {x : Int} (h : 0 ≤ x) : Lib.itoa x = Lib.decDigits x.toNat := by
  obtain ⟨n, rfl⟩ : ∃ n : Nat, x = (n : Int) := ⟨x.toNat, by omega⟩
  rw [Lib.itoa_nonneg]; rfl
theorem nums_inj : ∀ (xs ys : List Int) (r s : List UInt8), (∀ n ∈ xs, 0 ≤ n) → (∀ n ∈ ys, 0 ≤ n) → numsL xs ++ 59 :: r = numsL ys ++ 59 :: s → xs = ys ∧ r = s
  | [], [], r, s, _, _, h => ⟨rfl, by simpa [numsL] using h⟩
  | [], y :: ys, r, s, _, _, h => by simp [numsL] at h
  | x :: xs, [], r, s, _, _, h => by simp [numsL] at h
  | x :: xs, y :: ys, r, s, hx, hy, h => by
    have hx0 := hx x (by simp)
    have hy0 := hy y (by simp)
    have h' : Lib.decDigits x.toNat ++ (numsL xs ++ 59 :: r) = Lib.decDigits y.toNat ++ (numsL ys ++ 59 :: s) := by
      simp only [numsL, List.flatMap_cons, List.cons_append, List.append_assoc, List.cons.injEq, true_and] at h ⊢
      rwa [itoa_dig hx0, itoa_dig hy0] at h
    obtain ⟨e1, e2⟩ := split_digits _ _ _ _ (dec_digits _) (dec_digits _) (nums_open xs r) (nums_open ys s) h'
    have e3 := dec_inj e1
    have e4 : x = y := by omega
    obtain ⟨e5, e6⟩ := nums_inj xs ys r s (fun n hn => hx n (by simp [hn])) (fun n hn => hy n (by simp [hn])) e2
    exact ⟨by rw [e4, e5], e6⟩
theorem entry_inj {nm : List UInt8} {xs ys : List Int} {r s : List UInt8} (hx : ∀ n ∈ xs, 0 ≤ n) (hy : ∀ n ∈ ys, 0 ≤ n) (h : entryL nm xs ++ r = entryL nm ys ++ s) : xs = ys ∧ r = s := by
  unfold entryL at h
  simp only [List.append_assoc, List.append_cancel_left_eq, List.cons_append, List.nil_append] at h
  exact nums_inj xs ys r s hx hy h
theorem page_pos {p : Pg} (h : p.f = 0) : 0 ≤ p.at_ ∧ 0 ≤ p.r ∧ ∀ n ∈ p.ws, 0 ≤ n := by
  obtain ⟨h1, h2, h3⟩ := Pg.f_zero h
  exact ⟨(inB_iff.1 h1).1, (inB_iff.1 h2).1, fun n hn => ((mayW_iff.1 h3).2 n hn).1⟩
theorem page_inj {p q : Pg} (hp : p.f = 0) (hq : q.f = 0) {r s : List UInt8} (h : pageL p ++ r = pageL q ++ s) : p.dat = q.dat ∧ r = s := by
  obtain ⟨p1, p2, p3⟩ := page_pos hp
  obtain ⟨q1, q2, q3⟩ := page_pos hq
  unfold pageL at h
  rw [List.append_assoc, List.append_assoc] at h
  obtain ⟨e1, e2⟩ := entry_inj (fun n hn => by simp at hn; rcases hn with rfl | rfl <;> assumption) (fun n hn => by simp at hn; rcases hn with rfl | rfl <;> assumption) h
  obtain ⟨e3, e4⟩ := entry_inj (fun n hn => by rcases List.mem_cons.1 hn with rfl | hn; exact p1; exact p3 n hn) (fun n hn => by rcases List.mem_cons.1 hn with rfl | hn; exact q1; exact q3 n hn) e2
  simp at e1 e3
  exact ⟨by unfold Pg.dat; rw [e1.1, e1.2, e3.2], e4⟩
theorem pageL_ne (p : Pg) (s : List UInt8) : pageL p ++ s ≠ [] := by simp [pageL, entryL, sPage]
theorem flat_inj : ∀ (ps qs : List Pg), (∀ p ∈ ps, p.f = 0) → (∀ q ∈ qs, q.f = 0) → ps.flatMap pageL = qs.flatMap pageL → ps.map Pg.dat = qs.map Pg.dat
  | [], [], _, _, _ => rfl
  | [], q :: qs, _, _, h => by simp only [List.flatMap_nil, List.flatMap_cons] at h; exact absurd h.symm (pageL_ne q _)
  | p :: ps, [], _, _, h => by simp only [List.flatMap_nil, List.flatMap_cons] at h; exact absurd h (pageL_ne p _)
  | p :: ps, q :: qs, hp, hq, h => by
    simp only [List.flatMap_cons] at h
    obtain ⟨e1, e2⟩ := page_inj (hp p (by simp)) (hq q (by simp)) h
    have e3 := flat_inj ps qs (fun x hx => hp x (by simp [hx])) (fun x hx => hq x (by simp [hx])) e2
    simp [e1, e3]
/-- TWO IMAGES THAT MAY BE ARE MEASURED THE SAME JUST IF THEIR PAGES HOLD THE SAME -/
theorem exp_inj {ps qs : List Pg} (hp : imageF ps = 0) (hq : imageF qs = 0) : txt (expL ps) = txt (expL qs) ↔ ps.map Pg.dat = qs.map Pg.dat := by
  constructor
  · intro h
    have h1 := txt_inj h
    unfold expL at h1
    simp only [List.append_cancel_left_eq] at h1
    exact flat_inj ps qs (imgF_all ps none hp) (imgF_all qs none hq) h1
  · intro h
    have e : ∀ (l m : List Pg), l.map Pg.dat = m.map Pg.dat → l.flatMap pageL = m.flatMap pageL := by
      intro l
      induction l with
      | nil => intro m hm; cases m with
        | nil => rfl
        | cons q m => simp at hm
      | cons p l ih => intro m hm; cases m with
        | nil => simp at hm
        | cons q m =>
          simp only [List.map_cons, List.cons.injEq] at hm
          have h1 : pageL p = pageL q := by
            have := hm.1
            simp only [Pg.dat, Prod.mk.injEq] at this
            unfold pageL
            rw [this.1, this.2.1, this.2.2]
          simp only [List.flatMap_cons, h1, ih m hm.2]
    unfold expL
    rw [e ps qs h]

end Go.Proofs.YtdbbiibnhgcndaaDoor
