/-
  What an image that may be is like (own work): its pages may be, it has at most eight, each of eight words. The condition: nothing is wrong with it.
-/
import Derived.Test.YtdbbiibnhgcndaaDoorChecks
namespace Go.Proofs.YtdbbiibnhgcndaaDoor
open Go.RowKit

theorem pf_zero {a b c : Bool} (h : pf a b c = 0) : a = true ∧ b = true ∧ c = true := by
  cases a <;> cases b <;> cases c <;> simp [pf] at h ⊢
theorem Pg.f_zero {p : Pg} (h : p.f = 0) : inB p.at_ 0 7 = true ∧ inB p.r 0 7 = true ∧ mayW p.ws = true := pf_zero h
theorem imgF_all : ∀ (ps : List Pg) (o : Option Int), imgF o ps = 0 → ∀ p ∈ ps, p.f = 0
  | [], _, _, p, hp => by simp at hp
  | q :: l, o, h, p, hp => by
    have hq : q.f = 0 := by
      cases o with
      | none => by_cases e : q.f = 0; exact e; simp [imgF, e] at h
      | some z => by_cases e : q.f = 0; exact e; simp [imgF, e] at h
    have hl : imgF (some q.at_) l = 0 := by
      cases o with
      | none => simpa [imgF, hq] using h
      | some z =>
        by_cases e : q.at_ ≤ z
        · simp [imgF, hq, e] at h
        · simpa [imgF, hq, e] using h
    rcases List.mem_cons.1 hp with rfl | hp
    · exact hq
    · exact imgF_all l _ hl p hp
theorem imgF_len_some : ∀ (l : List Pg) (q : Int), q ≤ 7 → imgF (some q) l = 0 → (l.length : Int) ≤ 7 - q
  | [], q, hq, _ => by simp; omega
  | p :: l, q, hq, h => by
    have hp := imgF_all (p :: l) _ h p (by simp)
    have hb := inB_iff.1 (Pg.f_zero hp).1
    by_cases e : p.at_ ≤ q
    · simp [imgF, hp, e] at h
    · have hl : imgF (some p.at_) l = 0 := by simpa [imgF, hp, e] using h
      have := imgF_len_some l p.at_ hb.2 hl
      simp
      omega
theorem image_len {ps : List Pg} (h : imageF ps = 0) : ps.length ≤ 8 := by
  unfold imageF at h
  match ps, h with
  | [], _ => simp
  | p :: l, h =>
    have hp := imgF_all (p :: l) _ h p (by simp)
    have hb := inB_iff.1 (Pg.f_zero hp).1
    have hl : imgF (some p.at_) l = 0 := by simpa [imgF, hp] using h
    have := imgF_len_some l p.at_ hb.2 hl
    simp
    omega
theorem image_words {ps : List Pg} (h : imageF ps = 0) (j : Nat) (hj : j < ps.length) : (ps.getD j default).ws.length = 8 := by
  have := imgF_all ps none h (ps.getD j default) (by simp [List.getD_eq_getElem?_getD, hj])
  exact (mayW_iff.1 (Pg.f_zero this).2.2).1

theorem keep_cell {w w' : World} {a : Addr} {v : Value} (hb : Below w.heap.size w w') (h : w.cell? a = some v) : w'.cell? a = some v := (hb.cell (p := a) (lt_of_cell h)).trans h

end Go.Proofs.YtdbbiibnhgcndaaDoor
