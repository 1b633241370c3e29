/-
  Of images that are touched (own work): a word, a right or the last page is another one, and the image may still be; but it holds something else. No condition.
-/
import Derived.Test.YtdbbiibnhgcndaaDoorCopyOwn
import Derived.Test.YtdbbiibnhgcndaaDoorSameKeep
namespace Go.Proofs.YtdbbiibnhgcndaaDoor
open Go.RowKit

theorem xor_eq (n : Nat) (hn : n ≤ 16) (a b : Int) (ha : 0 ≤ a) (ha' : a < (2 ^ n : Nat)) (hb : 0 < b) (hb' : b < (2 ^ n : Nat)) :
    0 ≤ bits .xor .i64 a b ∧ bits .xor .i64 a b < (2 ^ n : Nat) ∧ bits .xor .i64 a b ≠ a := by
  obtain ⟨x, rfl⟩ := Int.eq_ofNat_of_zero_le ha
  obtain ⟨y, rfl⟩ := Int.eq_ofNat_of_zero_le (Int.le_of_lt hb)
  have hp : 2 ^ n ≤ 2 ^ 16 := Nat.pow_le_pow_right (by omega) hn
  have hx : x < 2 ^ n := by omega
  have hy : y < 2 ^ n := by omega
  have hz : x ^^^ y < 2 ^ n := Nat.xor_lt_two_pow hx hy
  have e : bits .xor .i64 (x : Int) (y : Int) = ((x ^^^ y : Nat) : Int) := by
    have e0 : bits .xor .i64 (x : Int) (y : Int) = IntKind.i64.wrap ((BitVec.ofInt 64 (x : Int) ^^^ BitVec.ofInt 64 (y : Int)).toNat : Int) := rfl
    have h1 : (BitVec.ofInt 64 (x : Int)).toNat = x := by rw [BitVec.toNat_ofInt]; omega
    have h2 : (BitVec.ofInt 64 (y : Int)).toNat = y := by rw [BitVec.toNat_ofInt]; omega
    rw [e0, BitVec.toNat_xor, h1, h2, IntKind.wrap_i64]
    omega
  rw [e]
  refine ⟨by omega, by omega, fun q => ?_⟩
  have q' : x ^^^ y = x := by omega
  have : y = 0 := by
    have h := congrArg (x ^^^ ·) q'
    simpa [← Nat.xor_assoc] using h
  omega

theorem imgF_step {p : Pg} {l : List Pg} {o : Option Int} (h : imgF o (p :: l) = 0) : p.f = 0 ∧ (∀ q, o = some q → ¬ p.at_ ≤ q) ∧ imgF (some p.at_) l = 0 := by
  have hp := imgF_all _ _ h p (by simp)
  refine ⟨hp, fun q hq => ?_, ?_⟩
  · subst hq
    intro e
    simp [imgF, hp, e] at h
  · cases o with
    | none => simpa [imgF, hp] using h
    | some z =>
      by_cases e : p.at_ ≤ z
      · simp [imgF, hp, e] at h
      · simpa [imgF, hp, e] using h
theorem imgF_mk {p : Pg} {l : List Pg} {o : Option Int} (hp : p.f = 0) (ho : ∀ q, o = some q → ¬ p.at_ ≤ q) (hl : imgF (some p.at_) l = 0) : imgF o (p :: l) = 0 := by
  cases o with
  | none => simpa [imgF, hp] using hl
  | some z => simpa [imgF, hp, ho z rfl] using hl
theorem imgF_swap : ∀ (ps qs : List Pg) (o : Option Int), qs.length = ps.length → (∀ j, j < ps.length → (qs.getD j default).at_ = (ps.getD j default).at_ ∧ (qs.getD j default).f = 0) → imgF o ps = 0 → imgF o qs = 0
  | [], qs, o, hl, _, _ => by
    have : qs = [] := List.eq_nil_of_length_eq_zero hl
    subst this
    cases o <;> rfl
  | p :: l, [], o, hl, _, _ => by simp at hl
  | p :: l, q :: m, o, hl, hj, h => by
    obtain ⟨h1, h2, h3⟩ := imgF_step h
    have e := hj 0 (by simp)
    simp at e
    refine imgF_mk e.2 (fun z hz => by rw [e.1]; exact h2 z hz) ?_
    rw [e.1]
    exact imgF_swap l m _ (by simpa using hl) (fun j hj' => by simpa using hj (j + 1) (by simpa using hj')) h3
theorem imgF_take : ∀ (ps : List Pg) (o : Option Int) (k : Nat), imgF o ps = 0 → imgF o (ps.take k) = 0
  | [], o, k, _ => by cases o <;> simp [imgF]
  | p :: l, o, 0, _ => by cases o <;> rfl
  | p :: l, o, k + 1, h => by
    obtain ⟨h1, h2, h3⟩ := imgF_step h
    exact imgF_mk h1 h2 (imgF_take l _ k h3)
theorem same_f {p q : Pg} (h : q.Same p) : q.f = p.f := by
  obtain ⟨h1, h2, h3⟩ := h
  unfold Pg.f
  rw [h1, h2, h3]
theorem mem_getD {ps : List Pg} {j : Nat} (hj : j < ps.length) : ps.getD j default ∈ ps := by simp [List.getD_eq_getElem?_getD, hj]

/-- the list with one page another, of the same place, that may be -/
theorem swap_one {ps qs : List Pg} (hl : qs.length = ps.length) (hs : ∀ j, j < ps.length → (qs.getD j default).Same (ps.getD j default)) (h : imageF ps = 0) (j : Nat) (_hj : j < ps.length) (p : Pg) (hp : p.at_ = (ps.getD j default).at_) (hf : p.f = 0) : imageF (qs.set j p) = 0 := by
  refine imgF_swap ps _ none (by simpa using hl) (fun i hi => ?_) h
  by_cases e : i = j
  · subst e
    rw [getD_set_eq _ _ _ (by omega)]
    exact ⟨hp, hf⟩
  · rw [getD_set_ne _ _ _ _ e]
    have hh := hs i hi
    exact ⟨hh.1, (same_f hh).trans (imgF_all ps none h _ (mem_getD hi))⟩
theorem swap_ne {ps qs : List Pg} (hl : qs.length = ps.length) {j : Nat} (hj : j < ps.length) {p : Pg} (hp : p.dat ≠ (ps.getD j default).dat) : ¬ ps.map Pg.dat = (qs.set j p).map Pg.dat :=
  map_ne (k := j) hj (by simpa using hl.symm) (by rw [getD_set_eq _ _ _ (by omega)]; exact fun e => hp e.symm)
theorem take_pages {w : World} {a : Option Addr} {qs : List Pg} (h : PagesAt w a qs) (k : Nat) : PagesAt w a (qs.take k) := by
  have key : ∀ j, j < (qs.take k).length → j < qs.length ∧ (qs.take k).getD j default = qs.getD j default := fun j hj => by
    have hj' : j < k ∧ j < qs.length := by simpa [Nat.lt_min] using hj
    exact ⟨hj'.2, by simp [List.getD_eq_getElem?_getD, hj'.1]⟩
  refine ⟨?_, fun j hj => by rw [(key j hj).2]; exact h.ok j (key j hj).1⟩
  rcases h.at_ with rfl | ⟨b, off, h1, h2⟩
  · left; simp
  · exact .inr ⟨b, off, h1, fun j hj => by rw [(key j hj).2]; exact h2 j (key j hj).1⟩
theorem take_ne {ps qs : List Pg} (hl : qs.length = ps.length) (h0 : 0 < ps.length) : ¬ ps.map Pg.dat = (qs.take (ps.length - 1)).map Pg.dat := fun e => by
  have := congrArg List.length e
  simp at this
  omega
theorem take_f {ps qs : List Pg} (hl : qs.length = ps.length) (hs : ∀ j, j < ps.length → (qs.getD j default).Same (ps.getD j default)) (h : imageF ps = 0) (k : Nat) : imageF (qs.take k) = 0 :=
  imgF_take qs none k (imgF_swap ps qs none hl (fun i hi => ⟨(hs i hi).1, (same_f (hs i hi)).trans (imgF_all ps none h _ (mem_getD hi))⟩) h)

theorem word_small {p : Pg} (h : p.f = 0) (k : Nat) (_hk : k < p.ws.length) : 0 ≤ p.ws.getD k 0 ∧ p.ws.getD k 0 ≤ 65535 := by
  obtain ⟨_, _, h3⟩ := Pg.f_zero h
  exact (mayW_iff.1 h3).2 _ (by simp [List.getD_eq_getElem?_getD, _hk])
theorem word_touch {p : Pg} (h : p.f = 0) (k : Nat) (hk : k < p.ws.length) (x : Int) (hx : 0 ≤ x ∧ x ≤ 65535) (hne : x ≠ p.ws.getD k 0) (a : Option Addr) (c : Nat) : (Pg.mk p.at_ p.r a (p.ws.set k x) c).f = 0 ∧ (Pg.mk p.at_ p.r a (p.ws.set k x) c).dat ≠ p.dat := by
  obtain ⟨h1, h2, h3⟩ := Pg.f_zero h
  obtain ⟨h4, h5⟩ := mayW_iff.1 h3
  have : mayW (p.ws.set k x) = true := mayW_iff.2 ⟨by simpa using h4, fun n hn => by
    rcases List.mem_or_eq_of_mem_set hn with hn | rfl
    · exact h5 n hn
    · exact hx⟩
  refine ⟨by unfold Pg.f pageF; rw [h1, h2, this]; rfl, fun e => hne ?_⟩
  have e2 : p.ws.set k x = p.ws := congrArg (·.2.2) e
  have : (p.ws.set k x).getD k 0 = x := by simp [List.getD_eq_getElem?_getD, hk]
  rw [← this, e2]
theorem right_touch {p : Pg} (h : p.f = 0) (r : Int) (hr : 0 ≤ r ∧ r ≤ 7) (hne : r ≠ p.r) (a : Option Addr) (c : Nat) : (Pg.mk p.at_ r a p.ws c).f = 0 ∧ (Pg.mk p.at_ r a p.ws c).dat ≠ p.dat := by
  obtain ⟨h1, h2, h3⟩ := Pg.f_zero h
  have : inB r 0 7 = true := inB_iff.2 hr
  refine ⟨by unfold Pg.f pageF; rw [h1, this, h3]; rfl, fun e => hne ?_⟩
  exact congrArg (·.2.1) e

end Go.Proofs.YtdbbiibnhgcndaaDoor
