/-
  What the calls of package run answer that only read a core (own work): sharedFrame, frame, touch, fetch. The conditions: the core holds a machine that may be; the address is not below 0.
-/
import Derived.Test.YtjccpjfcdolafaaRunMath
import Derived.Handy
import Derived.Outline
import Derived.Deep.CutRange
import Derived.Deep.RegionLaw
namespace Go.Proofs.Ytjccpjfcdolafaa
open Go.RowKit

/-- a core in memory -/
structure CoreAt (w : World) (cb : Nat) (M : Mv) (e pc : Int) (rs : List Int) : Prop where
  c0 : w.cell? ⟨cb, 0, none⟩ = some (.slice M.fa M.frs.length M.fcap)
  c1 : w.cell? ⟨cb, 1, none⟩ = some (.slice M.ea M.ens.length M.ecap)
  c2 : w.cell? ⟨cb, 2, none⟩ = some (.slice M.qa M.qus.length M.qcap)
  c3 : w.cell? ⟨cb, 3, none⟩ = some (.int .i64 e)
  c4 : w.cell? ⟨cb, 4, none⟩ = some (.int .i64 pc)
  cr : ∀ i, i < 4 → w.cell? ⟨cb, 5 + i, none⟩ = some (.int .i64 (rs.getD i 0))
  fz : ∀ o, w.frozen? ⟨cb, o, none⟩ = false
  lt : cb < w.heap.size
theorem CoreAt.below {w w' : World} {cb : Nat} {M : Mv} {e pc : Int} {rs : List Int} (h : CoreAt w cb M e pc rs) (hb : Below w.heap.size w w') : CoreAt w' cb M e pc rs :=
  ⟨(hb.cell (p := ⟨cb, 0, none⟩) h.lt).trans h.c0, (hb.cell (p := ⟨cb, 1, none⟩) h.lt).trans h.c1, (hb.cell (p := ⟨cb, 2, none⟩) h.lt).trans h.c2, (hb.cell (p := ⟨cb, 3, none⟩) h.lt).trans h.c3, (hb.cell (p := ⟨cb, 4, none⟩) h.lt).trans h.c4, fun i hi => (hb.cell (p := ⟨cb, 5 + i, none⟩) h.lt).trans (h.cr i hi), fun o => (hb.frozen (p := ⟨cb, o, none⟩) h.lt).trans (h.fz o), Nat.lt_of_lt_of_le h.lt hb.size⟩

theorem place_cases' (frs : List Fr) (e a : Int) : placeOf frs e a = -1 ∨ ∃ k : Nat, placeOf frs e a = (k : Int) ∧ k < frs.length := by
  have h1 := place_lt frs e a
  have h2 := place_ge frs e a
  rcases Int.lt_or_le (placeOf frs e a) 0 with h | h
  · left; omega
  · right; exact ⟨(placeOf frs e a).toNat, by omega, by omega⟩

set_option maxHeartbeats 2000000 in
theorem sharedFrame_run (M : Mv) (e pc n right : Int) (rs : List Int) (cb : Nat) (w : World) (hC : CoreAt w cb M e pc rs) (hM : MachAt w M) (hl : M.frs.length = 24) (h64 : 64 ≤ n) (hn : n ≤ 1000000) :
    Calls Try.prog 57 #[.pointer (some ⟨cb, 0, none⟩), .int .i64 n, .int .i64 right] w fun x w' => x = .returned (.int .i64 (shF M.frs n right)) ∧ w = w' := by
  have hS : shF M.frs n right = if right = 4 then -1 else if 24 ≤ (n - 64) / 8 then -1 else if (M.frs.getD ((n - 64) / 8).toNat default).o = 0 then (n - 64) / 8 else -1 := rfl
  have c0 := hC.c0
  rw [hl] at c0
  have hw : IntKind.i64.wrap (n - 64) = n - 64 := by rw [IntKind.wrap_i64]; omega
  have hq : Int.tdiv (n - 64) 8 = (n - 64) / 8 := Int.tdiv_eq_ediv_of_nonneg (by omega)
  have hq2 : IntKind.i64.wrap ((n - 64) / 8) = (n - 64) / 8 := by rw [IntKind.wrap_i64]; omega
  obtain ⟨k, hk⟩ : ∃ k : Nat, (n - 64) / 8 = (k : Int) := ⟨((n - 64) / 8).toNat, by omega⟩
  rw [hk] at hS hq hq2
  by_cases h4 : right = 4
  · rw [if_pos h4] at hS
    rw [hS]
    subst h4
    clear hM hC hS
    go_enter Try.func57, Try.ntmps57
    go_wp2
    go_ret
    exact ⟨rfl, rfl⟩
  · rw [if_neg h4] at hS
    have h4' : (right == 4) = false := by simpa using h4
    by_cases hb : 24 ≤ (k : Int)
    · rw [if_pos hb] at hS
      rw [hS]
      clear hM hC hS
      go_enter Try.func57, Try.ntmps57
      go_wp2
      go_ret
      exact ⟨rfl, rfl⟩
    · rw [if_neg hb, Int.toNat_natCast] at hS
      have hb' : (k : Int) < 24 := by omega
      obtain ⟨fb, fo, hfa, t0, _⟩ := hM.frame (j := k) (by omega)
      rw [hfa] at c0
      obtain ⟨ow, how⟩ : ∃ ow, (M.frs.getD k default).o = ow := ⟨_, rfl⟩
      rw [how] at hS t0
      by_cases ho : ow = 0
      · rw [if_pos ho] at hS
        rw [hS]
        subst ho
        clear hM hC hS
        go_enter Try.func57, Try.ntmps57
        go_wp2
        go_ret
        exact ⟨rfl, rfl⟩
      · rw [if_neg ho] at hS
        rw [hS]
        have ho' : (ow != 0) = true := by simpa using ho
        clear hM hC hS
        go_enter Try.func57, Try.ntmps57
        go_wp2
        go_ret
        exact ⟨rfl, rfl⟩

end Go.Proofs.Ytjccpjfcdolafaa
