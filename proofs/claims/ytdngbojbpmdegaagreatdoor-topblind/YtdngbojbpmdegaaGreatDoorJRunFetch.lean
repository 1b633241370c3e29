/-
  What the calls of package run answer that only read a core (own work): sharedFrame, frame, touch, fetch. The conditions: the core holds a machine that may be; the address is not below 0. What the calls frame and touch of package run answer (own work): the frame in which a word stands, and where the word is. The conditions: the core holds a machine that may be; the address is not below 0. What the call fetch of package run answers (own work): the instruction at the address, or that it must not be run. The conditions: the core holds a machine that may be; the address is from 0 to 65535.
-/
import Derived.Test.YtdngbojbpmdegaaGreatDoorJRunMath
import Derived.Handy
import Derived.Outline
import Derived.Deep.CutRange
import Derived.Deep.RegionLaw
import Derived.Deep.RegionHeld3
namespace Go.Proofs.YtdngbojbpmdegaaGreatDoor
open Go.RowKit

/-- a core in memory -/
structure CoreAt (w : World) (cb : Nat) (M : Mv) (e pc : Int) (rs : List Int) : Prop where
  c0 : w.cell? ⟨cb, 0, none⟩ = some (.slice M.fa M.frs.length M.fcap)
  c1 : w.cell? ⟨cb, 1, none⟩ = some (.slice M.ea M.ens.length M.ecap)
  c2 : w.cell? ⟨cb, 2, none⟩ = some (.slice M.qa M.qus.length M.qcap)
  c3 : w.cell? ⟨cb, 3, none⟩ = some (.int .i64 e)
  c4 : w.cell? ⟨cb, 4, none⟩ = some (.int .i64 pc)
  cr : ∀ i, i < 4 → w.cell? ⟨cb, 5 + i, none⟩ = some (.int .i64 (rs.getD i 0))
  fz : ∀ o, w.frozen? ⟨cb, o, none⟩ = false
  lt : cb < w.heap.size
theorem CoreAt.below {w w' : World} {cb : Nat} {M : Mv} {e pc : Int} {rs : List Int} (h : CoreAt w cb M e pc rs) (hb : Below w.heap.size w w') : CoreAt w' cb M e pc rs :=
  ⟨(hb.cell (p := ⟨cb, 0, none⟩) h.lt).trans h.c0, (hb.cell (p := ⟨cb, 1, none⟩) h.lt).trans h.c1, (hb.cell (p := ⟨cb, 2, none⟩) h.lt).trans h.c2, (hb.cell (p := ⟨cb, 3, none⟩) h.lt).trans h.c3, (hb.cell (p := ⟨cb, 4, none⟩) h.lt).trans h.c4, fun i hi => (hb.cell (p := ⟨cb, 5 + i, none⟩) h.lt).trans (h.cr i hi), fun o => (hb.frozen (p := ⟨cb, o, none⟩) h.lt).trans (h.fz o), Nat.lt_of_lt_of_le h.lt hb.size⟩

theorem place_cases' (frs : List Fr) (e a : Int) : placeOf frs e a = -1 ∨ ∃ k : Nat, placeOf frs e a = (k : Int) ∧ k < frs.length := by
  have h1 := place_lt frs e a
  have h2 := place_ge frs e a
  rcases Int.lt_or_le (placeOf frs e a) 0 with h | h
  · left; omega
  · right; exact ⟨(placeOf frs e a).toNat, by omega, by omega⟩

set_option maxHeartbeats 2000000 in
theorem sharedFrame_run (M : Mv) (e pc n right : Int) (rs : List Int) (cb : Nat) (w : World) (hC : CoreAt w cb M e pc rs) (hM : MachAt w M) (hl : M.frs.length = 24) (h64 : 64 ≤ n) (hn : n ≤ 1000000) :
    Calls Tryz.prog 164 #[.pointer (some ⟨cb, 0, none⟩), .int .i64 n, .int .i64 right] w fun x w' => x = .returned (.int .i64 (shF M.frs n right)) ∧ w = w' := by
  have hS : shF M.frs n right = if right = 4 then -1 else if 24 ≤ (n - 64) / 8 then -1 else if (M.frs.getD ((n - 64) / 8).toNat default).o = 0 then (n - 64) / 8 else -1 := rfl
  have c0 := hC.c0
  rw [hl] at c0
  have hw : IntKind.i64.wrap (n - 64) = n - 64 := by rw [IntKind.wrap_i64]; omega
  have hq : Int.tdiv (n - 64) 8 = (n - 64) / 8 := Int.tdiv_eq_ediv_of_nonneg (by omega)
  have hq2 : IntKind.i64.wrap ((n - 64) / 8) = (n - 64) / 8 := by rw [IntKind.wrap_i64]; omega
  obtain ⟨k, hk⟩ : ∃ k : Nat, (n - 64) / 8 = (k : Int) := ⟨((n - 64) / 8).toNat, by omega⟩
  rw [hk] at hS hq hq2
  by_cases h4 : right = 4
  · rw [if_pos h4] at hS
    rw [hS]
    subst h4
    clear hM hC hS
    go_enter Tryz.func164, Tryz.ntmps164
    go_wp2
    go_ret
    exact ⟨rfl, rfl⟩
  · rw [if_neg h4] at hS
    have h4' : (right == 4) = false := by simpa using h4
    by_cases hb : 24 ≤ (k : Int)
    · rw [if_pos hb] at hS
      rw [hS]
      clear hM hC hS
      go_enter Tryz.func164, Tryz.ntmps164
      go_wp2
      go_ret
      exact ⟨rfl, rfl⟩
    · rw [if_neg hb, Int.toNat_natCast] at hS
      have hb' : (k : Int) < 24 := by omega
      obtain ⟨fb, fo, hfa, t0, _⟩ := hM.frame (j := k) (by omega)
      rw [hfa] at c0
      obtain ⟨ow, how⟩ : ∃ ow, (M.frs.getD k default).o = ow := ⟨_, rfl⟩
      rw [how] at hS t0
      by_cases ho : ow = 0
      · rw [if_pos ho] at hS
        rw [hS]
        subst ho
        clear hM hC hS
        go_enter Tryz.func164, Tryz.ntmps164
        go_wp2
        go_ret
        exact ⟨rfl, rfl⟩
      · rw [if_neg ho] at hS
        rw [hS]
        have ho' : (ow != 0) = true := by simpa using ho
        clear hM hC hS
        go_enter Tryz.func164, Tryz.ntmps164
        go_wp2
        go_ret
        exact ⟨rfl, rfl⟩

end Go.Proofs.YtdngbojbpmdegaaGreatDoor

namespace Go.Proofs.YtdngbojbpmdegaaGreatDoor
open Go.RowKit

theorem and_has {r right : Int} (h0 : 0 ≤ r) (h7 : r ≤ 7) (hr : right = 1 ∨ right = 2 ∨ right = 4) : (bits .and .i64 r right == 0) = !hasR r right := by
  have : r = 0 ∨ r = 1 ∨ r = 2 ∨ r = 3 ∨ r = 4 ∨ r = 5 ∨ r = 6 ∨ r = 7 := by omega
  rcases this with rfl | rfl | rfl | rfl | rfl | rfl | rfl | rfl <;> rcases hr with rfl | rfl | rfl <;> decide +kernel

set_option maxRecDepth 100000 in
set_option maxHeartbeats 4000000 in
theorem frame_run (M : Mv) (e pc n right : Int) (rs : List Int) (cb : Nat) (w : World) (hC : CoreAt w cb M e pc rs) (hM : MachAt w M) (hG : Good M) (h0 : 0 ≤ n) (hn : n ≤ 1000000) (hr : right = 1 ∨ right = 2 ∨ right = 4) :
    Calls Tryz.prog 159 #[.pointer (some ⟨cb, 0, none⟩), .int .i64 n, .int .i64 right] w fun x w' => x = .returned (.int .i64 (frmF M.frs e n right)) ∧ Below w.heap.size w w' := by
  have hS : frmF M.frs e n right = if 64 ≤ n then shF M.frs n right else if placeOf M.frs e (n / 8) < 0 then -1 else if hasR (M.frs.getD (placeOf M.frs e (n / 8)).toNat default).r right = true then placeOf M.frs e (n / 8) else -1 := rfl
  by_cases h64 : 64 ≤ n
  · rw [if_pos h64] at hS
    rw [hS]
    have h1 := sharedFrame_run M e pc n right rs cb w hC hM hG.s1 h64 hn
    clear hC hM hG hS
    generalize shF M.frs n right = z at h1
    go_enter Tryz.func159, Tryz.ntmps159
    go_wp2_with (go_at_call 164; refine h1.mono ?_; rintro x w' ⟨rfl, rfl⟩)
    go_ret
    exact ⟨rfl, Below.refl _ _⟩
  · rw [if_neg h64] at hS
    have h64' : n < 64 := by omega
    have hq : Int.tdiv n 8 = n / 8 := Int.tdiv_eq_ediv_of_nonneg h0
    have hq2 : IntKind.i64.wrap (n / 8) = n / 8 := by rw [IntKind.wrap_i64]; omega
    have h1 := fun w' (h : Below w.heap.size w w') => place_any M e (n / 8) w' (hM.below h)
    unfold Mv.val at h1
    have c0 := hC.c0
    have c1 := hC.c1
    have c2 := hC.c2
    have c3 := hC.c3
    have HC : Hid (_) := hC
    have hl := hG.s1
    rw [hl] at c0 h1
    rcases place_cases' M.frs e (n / 8) with hp | ⟨k, hp, hk⟩
    · rw [hp, if_pos (by omega)] at hS
      rw [hS]
      rw [hp] at h1
      clear hM hG hC hS hl
      go_enter Tryz.func159, Tryz.ntmps159
      go_upto_region 3 with fail
      go_region_law (go_simp; go_at_call 22; refine (h1 _ (Below.refl _ _).drew).mono ?_; clear h1; rintro x w1 ⟨rfl, hb⟩; have HB : Hid (Below w.heap.size w w1) := (Below.refl _ _).drew.trans hb; clear hb; dsimp only)
      all_goals
        go_wp2
        go_ret
        exact ⟨rfl, HB.out⟩
    · rw [hp, if_neg (by omega), Int.toNat_natCast] at hS
      rw [hp] at h1
      obtain ⟨fb, fo, hfa, _, _, t2, _⟩ := hM.frame (j := k) hk
      obtain ⟨r, hrr⟩ : ∃ r, (M.frs.getD k default).r = r := ⟨_, rfl⟩
      have hg := goodFr_iff.1 (hG.fr k (by omega))
      have r7 := inB_iff.1 hg.2.2.2.1
      rw [hrr] at hS t2 r7
      have hki : (k : Int) < 24 := by omega
      rw [hfa] at c0 h1
      have hge : ¬ ((k : Int) < 0) := by omega
      have HT2 : Hid (_) := t2
      clear hM hG hC hg hl
      have hand := and_has r7.1 r7.2 hr
      cases hh : hasR r right with
      | true =>
        rw [hh, if_pos rfl] at hS
        rw [hS]
        rw [hh] at hand
        clear hS
        go_enter Tryz.func159, Tryz.ntmps159
        go_upto_region 3 with fail
        go_region_law (go_simp; go_at_call 22; refine (h1 _ (Below.refl _ _).drew).mono ?_; clear h1; rintro x w1 ⟨rfl, hb⟩; have HB : Hid (Below w.heap.size w w1) := (Below.refl _ _).drew.trans hb; have d0 : w1.cell? ⟨cb, 0, none⟩ = some (.slice (some ⟨fb, fo, none⟩) 24 M.fcap) := (HB.out.cell (p := ⟨cb, 0, none⟩) HC.out.lt).trans c0; have d2 := (HB.out.cell (p := ⟨fb, fo + k * 4 + 2, none⟩) (lt_of_cell HT2.out)).trans HT2.out; clear hb; dsimp only)
        all_goals
          go_wp2
          go_ret
          exact ⟨rfl, HB.out⟩
      | false =>
        rw [hh, if_neg (by simp)] at hS
        rw [hS]
        rw [hh] at hand
        clear hS
        go_enter Tryz.func159, Tryz.ntmps159
        go_upto_region 3 with fail
        go_region_law (go_simp; go_at_call 22; refine (h1 _ (Below.refl _ _).drew).mono ?_; clear h1; rintro x w1 ⟨rfl, hb⟩; have HB : Hid (Below w.heap.size w w1) := (Below.refl _ _).drew.trans hb; have d0 : w1.cell? ⟨cb, 0, none⟩ = some (.slice (some ⟨fb, fo, none⟩) 24 M.fcap) := (HB.out.cell (p := ⟨cb, 0, none⟩) HC.out.lt).trans c0; have d2 := (HB.out.cell (p := ⟨fb, fo + k * 4 + 2, none⟩) (lt_of_cell HT2.out)).trans HT2.out; clear hb; dsimp only)
        all_goals
          go_wp2
          go_ret
          exact ⟨rfl, HB.out⟩

set_option maxRecDepth 100000 in
set_option maxHeartbeats 4000000 in
theorem touch_none (M : Mv) (e pc n right : Int) (rs : List Int) (cb : Nat) (w : World) (hC : CoreAt w cb M e pc rs) (hM : MachAt w M) (hG : Good M) (h0 : 0 ≤ n) (hn : n ≤ 1000000) (hr : right = 1 ∨ right = 2 ∨ right = 4) (hf : frmF M.frs e n right = -1) :
    Calls Tryz.prog 156 #[.pointer (some ⟨cb, 0, none⟩), .int .i64 n, .int .i64 right] w fun x w' => x = .returned (.pointer none) ∧ Below w.heap.size w w' := by
  have h1 := frame_run M e pc n right rs cb w hC hM hG h0 hn hr
  rw [hf] at h1
  clear hC hM hG hf
  go_enter Tryz.func156, Tryz.ntmps156
  go_wp2_with (go_at_call 159; refine h1.mono ?_; clear h1; rintro x w1 ⟨rfl, hb⟩)
  go_ret
  exact ⟨rfl, hb⟩
set_option maxRecDepth 100000 in
set_option maxHeartbeats 4000000 in
theorem touch_some (M : Mv) (e pc n right : Int) (rs : List Int) (cb k : Nat) (w : World) (hC : CoreAt w cb M e pc rs) (hM : MachAt w M) (hG : Good M) (h0 : 0 ≤ n) (hn : n ≤ 1000000) (hr : right = 1 ∨ right = 2 ∨ right = 4) (hf : frmF M.frs e n right = (k : Int)) (hk : k < 24) :
    Calls Tryz.prog 156 #[.pointer (some ⟨cb, 0, none⟩), .int .i64 n, .int .i64 right] w fun x w' => ∃ b o, (M.frs.getD k default).a = some ⟨b, o, none⟩ ∧ x = .returned (.pointer (some ⟨b, o + (n % 8).toNat, none⟩)) ∧ Below w.heap.size w w' := by
  have h1 := frame_run M e pc n right rs cb w hC hM hG h0 hn hr
  rw [hf] at h1
  have hl := hG.s1
  obtain ⟨fb, fo, hfa, _, _, _, t3⟩ := hM.frame (j := k) (by omega)
  have hg := goodFr_iff.1 (hG.fr k hk)
  have hw8 : (M.frs.getD k default).ws.length = 8 := (mayW_iff.1 hg.1).1
  obtain ⟨b, o, ha⟩ : ∃ b o, (M.frs.getD k default).a = some ⟨b, o, none⟩ := by
    rcases (hM.frok k (by omega)).ints with e | ⟨b, o, e, _⟩
    · rw [e] at hw8; simp at hw8
    · exact ⟨b, o, e⟩
  have HA : Hid (_) := ha
  rw [ha, hw8] at t3
  obtain ⟨i, hi⟩ : ∃ i : Nat, n % 8 = (i : Int) := ⟨(n % 8).toNat, by omega⟩
  have hi8 : (i : Int) < 8 := by omega
  have hq : Int.tmod n 8 = (i : Int) := by rw [Int.tmod_eq_emod_of_nonneg h0, hi]
  have hq2 : IntKind.i64.wrap (i : Int) = (i : Int) := by rw [IntKind.wrap_i64]; omega
  have HI : Hid ((n % 8).toNat = i) := by show _ = _; rw [hi]; omega
  have c0 := hC.c0
  rw [hl, hfa] at c0
  have hk24 : (k : Int) < 24 := by omega
  have hge : ¬ ((k : Int) < 0) := by omega
  have lc := hC.lt
  have lf : fb < w.heap.size := lt_of_cell t3
  have C0 : Hid (_) := c0
  have T3 : Hid (_) := t3
  clear hC hM hG hf hg hw8 ha hi hl hfa c0 t3
  go_enter Tryz.func156, Tryz.ntmps156
  go_wp2_with (go_at_call 159; refine h1.mono ?_; clear h1; rintro x w1 ⟨rfl, hb⟩; have HB : Hid (_) := hb; have c0 := (hb.cell (p := ⟨cb, 0, none⟩) lc).trans C0.out; have t3 := (hb.cell (p := ⟨fb, fo + k * 4 + 3, none⟩) lf).trans T3.out; clear hb)
  go_ret
  exact ⟨b, o, HA.out, by rw [HI.out]; rfl, HB.out⟩

end Go.Proofs.YtdngbojbpmdegaaGreatDoor

namespace Go.Proofs.YtdngbojbpmdegaaGreatDoor
open Go.RowKit

theorem below_allocR {a w : World} (h : Below a.heap.size a w) (o : Obj) : Below a.heap.size a (w.alloc o) := h.alloc h.size o
/-- where a word is, if it may be touched so -/
def wAddr (M : Mv) (e n right : Int) : Option Addr := if frmF M.frs e n right < 0 then none else match (M.frs.getD (frmF M.frs e n right).toNat default).a with | some a => some ⟨a.block, a.off + (n % 8).toNat, none⟩ | none => none
theorem touch_run (M : Mv) (e pc n right : Int) (rs : List Int) (cb : Nat) (w : World) (hC : CoreAt w cb M e pc rs) (hM : MachAt w M) (hG : Good M) (h0 : 0 ≤ n) (hn : n ≤ 1000000) (hr : right = 1 ∨ right = 2 ∨ right = 4) :
    Calls Tryz.prog 156 #[.pointer (some ⟨cb, 0, none⟩), .int .i64 n, .int .i64 right] w fun x w' => x = .returned (.pointer (wAddr M e n right)) ∧ Below w.heap.size w w' := by
  rcases frmF_cases hG.s1 e n right h0 with h | ⟨k, hk, h⟩
  · have : wAddr M e n right = none := by unfold wAddr; rw [h, if_pos (by omega)]
    rw [this]
    exact touch_none M e pc n right rs cb w hC hM hG h0 hn hr h
  · refine (touch_some M e pc n right rs cb k w hC hM hG h0 hn hr h hk).mono ?_
    rintro x w' ⟨b, o, ha, rfl, hb⟩
    refine ⟨?_, hb⟩
    have : wAddr M e n right = some ⟨b, o + (n % 8).toNat, none⟩ := by unfold wAddr; rw [h, if_neg (by omega), Int.toNat_natCast, ha]
    rw [this]
/-- what the word is -/
theorem wAddr_word {M : Mv} {w : World} (hM : MachAt w M) (hG : Good M) {e n right : Int} (h0 : 0 ≤ n) {a : Addr} (h : wAddr M e n right = some a) :
    a.spot = none ∧ w.cell? a = some (.int .i64 (wordAt M (frmF M.frs e n right) n)) ∧ ¬ frmF M.frs e n right < 0 ∧ ∃ k : Nat, k < 24 ∧ frmF M.frs e n right = (k : Int) ∧ ∃ o, (M.frs.getD k default).a = some ⟨a.block, o, none⟩ ∧ a = ⟨a.block, o + (n % 8).toNat, none⟩ := by
  rcases frmF_cases hG.s1 e n right h0 with hf | ⟨k, hk, hf⟩
  · unfold wAddr at h
    rw [hf, if_pos (by omega)] at h
    cases h
  · unfold wAddr at h
    rw [hf, if_neg (by omega), Int.toNat_natCast] at h
    have hg := goodFr_iff.1 (hG.fr k hk)
    have hw8 : (M.frs.getD k default).ws.length = 8 := (mayW_iff.1 hg.1).1
    rcases (hM.frok k (by have := hG.s1; omega)).ints with q | ⟨b, o, q, hc⟩
    · rw [q] at hw8; simp at hw8
    · rw [q] at h
      simp only [Option.some.injEq] at h
      subst h
      have := hc (n % 8).toNat (by rw [hw8]; omega)
      refine ⟨rfl, ?_, by omega, k, hk, hf, o, q, rfl⟩
      unfold wordAt
      rw [hf, Int.toNat_natCast]
      exact this
theorem wAddr_none {M : Mv} {w : World} (hM : MachAt w M) (hG : Good M) {e n right : Int} (h0 : 0 ≤ n) (h : wAddr M e n right = none) : frmF M.frs e n right < 0 := by
  rcases frmF_cases hG.s1 e n right h0 with hf | ⟨k, hk, hf⟩
  · omega
  · unfold wAddr at h
    rw [hf, if_neg (by omega), Int.toNat_natCast] at h
    have hg := goodFr_iff.1 (hG.fr k hk)
    have hw8 : (M.frs.getD k default).ws.length = 8 := (mayW_iff.1 hg.1).1
    rcases (hM.frok k (by have := hG.s1; omega)).ints with q | ⟨b, o, q, hc⟩
    · rw [q] at hw8; simp at hw8
    · rw [q] at h; cases h

theorem blk4 {w : World} {b : Nat} {v0 v1 v2 v3 x0 x1 x2 x3 : Value} (h0 : w.cell? ⟨b, 0, none⟩ = some x0) (h1 : w.cell? ⟨b, 1, none⟩ = some x1) (h2 : w.cell? ⟨b, 2, none⟩ = some x2) (h3 : w.cell? ⟨b, 3, none⟩ = some x3) :
    ((((w.setCell ⟨b, 0, none⟩ v0).setCell ⟨b, 1, none⟩ v1).setCell ⟨b, 2, none⟩ v2).setCell ⟨b, 3, none⟩ v3).cell? ⟨b, 0, none⟩ = some v0 ∧ ((((w.setCell ⟨b, 0, none⟩ v0).setCell ⟨b, 1, none⟩ v1).setCell ⟨b, 2, none⟩ v2).setCell ⟨b, 3, none⟩ v3).cell? ⟨b, 1, none⟩ = some v1 ∧
      ((((w.setCell ⟨b, 0, none⟩ v0).setCell ⟨b, 1, none⟩ v1).setCell ⟨b, 2, none⟩ v2).setCell ⟨b, 3, none⟩ v3).cell? ⟨b, 2, none⟩ = some v2 ∧ ((((w.setCell ⟨b, 0, none⟩ v0).setCell ⟨b, 1, none⟩ v1).setCell ⟨b, 2, none⟩ v2).setCell ⟨b, 3, none⟩ v3).cell? ⟨b, 3, none⟩ = some v3 := by
  have o : ∀ (w : World) (i j : Nat) (v : Value), i ≠ j → (w.setCell ⟨b, i, none⟩ v).cell? ⟨b, j, none⟩ = w.cell? ⟨b, j, none⟩ := fun w i j v h => World.cell?_setCell_other _ _ _ _ (by intro q; simp only [Addr.mk.injEq, true_and, and_true] at q; exact h q)
  refine ⟨?_, ?_, ?_, ?_⟩
  · rw [o _ 3 0 _ (by omega), o _ 2 0 _ (by omega), o _ 1 0 _ (by omega)]; exact World.cell?_setCell_same _ _ _ h0
  · rw [o _ 3 1 _ (by omega), o _ 2 1 _ (by omega)]; exact World.cell?_setCell_same _ _ _ ((o _ 0 1 _ (by omega)).trans h1)
  · rw [o _ 3 2 _ (by omega)]; exact World.cell?_setCell_same _ _ _ ((o _ 1 2 _ (by omega)).trans ((o _ 0 2 _ (by omega)).trans h2))
  · exact World.cell?_setCell_same _ _ _ ((o _ 2 3 _ (by omega)).trans ((o _ 1 3 _ (by omega)).trans ((o _ 0 3 _ (by omega)).trans h3)))

set_option maxRecDepth 100000 in
set_option maxHeartbeats 4000000 in
theorem fetch_none (M : Mv) (e pc : Int) (rs : List Int) (cb : Nat) (w : World) (hC : CoreAt w cb M e pc rs) (hM : MachAt w M) (hG : Good M) (h0 : 0 ≤ pc) (hn : pc ≤ 65535) (hf : wAddr M e pc 4 = none ∨ wAddr M e (pc + 1) 4 = none) :
    Calls Tryz.prog 146 #[.pointer (some ⟨cb, 0, none⟩)] w fun x w' => x = .returned (.tuple #[.agg #[.int .i64 0, .int .i64 0, .int .i64 0, .int .i64 0], .bool false]) ∧ Below w.heap.size w w' := by
  obtain ⟨W2, hW2⟩ : ∃ W2, Hid (W2 = w.alloc (.cells #[.int .i64 0, .int .i64 0, .int .i64 0, .int .i64 0] 184)) := ⟨_, rfl⟩
  have BW : Hid (Below w.heap.size w W2) := by show Below _ _ _; rw [hW2.out]; exact (Below.refl _ _).alloc (Nat.le_refl _) _
  have hC2 := hC.below BW.out
  have hM2 := hM.below BW.out
  have hT := fun (n' : Int) w' (h : Below W2.heap.size W2 w') (hn' : n' = pc ∨ n' = pc + 1) => touch_run M e pc n' 4 rs cb w' (hC2.below h) (hM2.below h) hG (by omega) (by omega) (by omega)
  have c4 := hC2.c4
  have lc := hC2.lt
  have hblk : W2.heap[w.heap.size]? = some (.cells #[.int .i64 0, .int .i64 0, .int .i64 0, .int .i64 0] 184 (0, 0)) := by rw [hW2.out]; exact Go.Deep.blk_alloc_new _ _
  have rl : w.heap.size < W2.heap.size := (Array.getElem?_eq_some_iff.1 hblk).1
  have RB : Hid (∀ w', Below W2.heap.size W2 w' → w'.heap[w.heap.size]? = some (.cells #[.int .i64 0, .int .i64 0, .int .i64 0, .int .i64 0] 184 (0, 0))) := fun w' h => (h.block _ rl).trans hblk
  have hw1 : IntKind.i64.wrap (pc + 1) = pc + 1 := by rw [IntKind.wrap_i64]; omega
  have HC2 : Hid (_) := hC2
  have HM2 : Hid (_) := hM2
  have C4 : Hid (_) := c4
  clear hC hM hC2 hM2 hblk
  go_enter Tryz.func146, Tryz.ntmps146
  go_upto_region 1 with fail
  rw [← hW2.out]
  go_cut [4, 5] from 7 to 19 (fun s4 s5 wx => s4 = .pointer (wAddr M e pc 4) ∧ s5 = .pointer (wAddr M e (pc + 1) 4) ∧ Below W2.heap.size W2 wx)
  case first =>
    go_region_held3 (fun w' => w'.cell? ⟨cb, 4, none⟩ = some (.int .i64 pc)) (first | exact g4 | go_keep) (first
      | (go_at_call 156; refine (hT _ _ (by first | exact HBx.out | (repeat (first | (with_reducible exact Below.refl _ _) | (with_reducible refine Below.drew ?_) | (with_reducible refine below_allocR ?_ _)))) (by first | exact .inl rfl | exact .inr rfl)).mono ?_; rintro x w1 ⟨rfl, hb⟩; have HBn : Hid (Below W2.heap.size W2 w1) := Below.trans (by first | exact HBx.out | (repeat (first | (with_reducible exact Below.refl _ _) | (with_reducible refine Below.drew ?_) | (with_reducible refine below_allocR ?_ _)))) (hb.mono (by first | exact HBx.out.size | exact Nat.le_refl _)); have g4 : w1.cell? ⟨cb, 4, none⟩ = some (.int .i64 pc) := (HBn.out.cell (p := ⟨cb, 4, none⟩) lc).trans C4.out; clear hb; (try clear HBx); have HBx : Hid (_) := HBn; clear HBn; dsimp only)
      | fail)
    all_goals
      go_wp2_with fail
      go_meet
      case rel => exact ⟨rfl, rfl, HBx.out⟩
  case rest =>
  obtain ⟨rfl, rfl, hbw⟩ := hcut
  have HBW : Hid (Below W2.heap.size W2 wc) := hbw
  have hblk := RB.out wc hbw
  have r0 : wc.cell? ⟨w.heap.size, 0, none⟩ = some (.int .i64 0) := by simp [World.cell?, hblk]
  have r1 : wc.cell? ⟨w.heap.size, 1, none⟩ = some (.int .i64 0) := by simp [World.cell?, hblk]
  have r2 : wc.cell? ⟨w.heap.size, 2, none⟩ = some (.int .i64 0) := by simp [World.cell?, hblk]
  have r3 : wc.cell? ⟨w.heap.size, 3, none⟩ = some (.int .i64 0) := by simp [World.cell?, hblk]
  have f0 := frozen_of_block hblk 0
  have f1 := frozen_of_block hblk 1
  have f2 := frozen_of_block hblk 2
  have f3 := frozen_of_block hblk 3
  have rl2 := lt_of_cell r0
  dsimp only at rl2
  clear hT hbw hblk RB C4 c4 lc
  have HF : Hid (_) := hf
  clear hf HC2 HM2
  cases h1 : wAddr M e pc 4 with
  | none =>
    clear HF
    go_wp2
    obtain ⟨k0, k1, k2, k3⟩ := blk4 (v0 := .int .i64 0) (v1 := .int .i64 0) (v2 := .int .i64 0) (v3 := .int .i64 0) r0 r1 r2 r3
    (try simp only [Exit.inBlock, Exit.then])
    refine bodyPost_ret (by simp [results, Tryz.results146, go_sem, k0, k1, k2, k3]; try rfl) rfl ?_
    exact ⟨rfl, BW.out.trans ((((((HBW.out.mono BW.out.size).setCell (by simp) _).setCell (by simp) _).setCell (by simp) _).setCell (by simp) _))⟩
  | some a =>
    have h2 : wAddr M e (pc + 1) 4 = none := by
      rcases HF.out with q | q
      · rw [h1] at q; cases q
      · exact q
    rw [h2]
    clear h2 HF
    go_wp2
    obtain ⟨k0, k1, k2, k3⟩ := blk4 (v0 := .int .i64 0) (v1 := .int .i64 0) (v2 := .int .i64 0) (v3 := .int .i64 0) r0 r1 r2 r3
    (try simp only [Exit.inBlock, Exit.then])
    refine bodyPost_ret (by simp [results, Tryz.results146, go_sem, k0, k1, k2, k3]; try rfl) rfl ?_
    exact ⟨rfl, BW.out.trans ((((((HBW.out.mono BW.out.size).setCell (by simp) _).setCell (by simp) _).setCell (by simp) _).setCell (by simp) _))⟩

set_option maxRecDepth 100000 in
set_option maxHeartbeats 4000000 in
theorem fetch_some (M : Mv) (e pc x n : Int) (rs : List Int) (cb : Nat) (w : World) (hC : CoreAt w cb M e pc rs) (hM : MachAt w M) (hG : Good M) (h0 : 0 ≤ pc) (hn : pc ≤ 65535) {a1 a2 : Addr} (hf1 : wAddr M e pc 4 = some a1) (hf2 : wAddr M e (pc + 1) 4 = some a2)
    (hx : wordAt M (frmF M.frs e pc 4) pc = x) (hx2 : wordAt M (frmF M.frs e (pc + 1) 4) (pc + 1) = n) :
    Calls Tryz.prog 146 #[.pointer (some ⟨cb, 0, none⟩)] w fun y w' => y = .returned (.tuple #[.agg #[.int .i64 (x % 16), .int .i64 (x / 16 % 4), .int .i64 (x / 256 % 4), .int .i64 n], .bool true]) ∧ Below w.heap.size w w' := by
  have HF1 : Hid (wAddr M e pc 4 = some a1) := hf1
  have HF2 : Hid (wAddr M e (pc + 1) 4 = some a2) := hf2
  have HX1 : Hid (wordAt M (frmF M.frs e pc 4) pc = x) := hx
  have HX2 : Hid (wordAt M (frmF M.frs e (pc + 1) 4) (pc + 1) = n) := hx2
  clear hf1 hf2 hx hx2
  obtain ⟨W2, hW2⟩ : ∃ W2, Hid (W2 = w.alloc (.cells #[.int .i64 0, .int .i64 0, .int .i64 0, .int .i64 0] 184)) := ⟨_, rfl⟩
  have BW : Hid (Below w.heap.size w W2) := by show Below _ _ _; rw [hW2.out]; exact (Below.refl _ _).alloc (Nat.le_refl _) _
  have hC2 := hC.below BW.out
  have hM2 := hM.below BW.out
  have hT := fun (n' : Int) w' (h : Below W2.heap.size W2 w') (hn' : n' = pc ∨ n' = pc + 1) => touch_run M e pc n' 4 rs cb w' (hC2.below h) (hM2.below h) hG (by omega) (by omega) (by omega)
  have c4 := hC2.c4
  have lc := hC2.lt
  have hblk : W2.heap[w.heap.size]? = some (.cells #[.int .i64 0, .int .i64 0, .int .i64 0, .int .i64 0] 184 (0, 0)) := by rw [hW2.out]; exact Go.Deep.blk_alloc_new _ _
  have rl : w.heap.size < W2.heap.size := (Array.getElem?_eq_some_iff.1 hblk).1
  have RB : Hid (∀ w', Below W2.heap.size W2 w' → w'.heap[w.heap.size]? = some (.cells #[.int .i64 0, .int .i64 0, .int .i64 0, .int .i64 0] 184 (0, 0))) := fun w' h => (h.block _ rl).trans hblk
  have hw1 : IntKind.i64.wrap (pc + 1) = pc + 1 := by rw [IntKind.wrap_i64]; omega
  have HC2 : Hid (_) := hC2
  have HM2 : Hid (_) := hM2
  have C4 : Hid (_) := c4
  clear hC hM hC2 hM2 hblk
  go_enter Tryz.func146, Tryz.ntmps146
  go_upto_region 1 with fail
  rw [← hW2.out]
  go_cut [4, 5] from 7 to 19 (fun s4 s5 wx => s4 = .pointer (wAddr M e pc 4) ∧ s5 = .pointer (wAddr M e (pc + 1) 4) ∧ Below W2.heap.size W2 wx)
  case first =>
    go_region_held3 (fun w' => w'.cell? ⟨cb, 4, none⟩ = some (.int .i64 pc)) (first | exact g4 | go_keep) (first
      | (go_at_call 156; refine (hT _ _ (by first | exact HBx.out | (repeat (first | (with_reducible exact Below.refl _ _) | (with_reducible refine Below.drew ?_) | (with_reducible refine below_allocR ?_ _)))) (by first | exact .inl rfl | exact .inr rfl)).mono ?_; rintro x w1 ⟨rfl, hb⟩; have HBn : Hid (Below W2.heap.size W2 w1) := Below.trans (by first | exact HBx.out | (repeat (first | (with_reducible exact Below.refl _ _) | (with_reducible refine Below.drew ?_) | (with_reducible refine below_allocR ?_ _)))) (hb.mono (by first | exact HBx.out.size | exact Nat.le_refl _)); have g4 : w1.cell? ⟨cb, 4, none⟩ = some (.int .i64 pc) := (HBn.out.cell (p := ⟨cb, 4, none⟩) lc).trans C4.out; clear hb; (try clear HBx); have HBx : Hid (_) := HBn; clear HBn; dsimp only)
      | fail)
    all_goals
      go_wp2_with fail
      go_meet
      case rel => exact ⟨rfl, rfl, HBx.out⟩
  case rest =>
  obtain ⟨rfl, rfl, hbw⟩ := hcut
  have HBW : Hid (Below W2.heap.size W2 wc) := hbw
  have hblk := RB.out wc hbw
  have r0 : wc.cell? ⟨w.heap.size, 0, none⟩ = some (.int .i64 0) := by simp [World.cell?, hblk]
  have r1 : wc.cell? ⟨w.heap.size, 1, none⟩ = some (.int .i64 0) := by simp [World.cell?, hblk]
  have r2 : wc.cell? ⟨w.heap.size, 2, none⟩ = some (.int .i64 0) := by simp [World.cell?, hblk]
  have r3 : wc.cell? ⟨w.heap.size, 3, none⟩ = some (.int .i64 0) := by simp [World.cell?, hblk]
  have f0 := frozen_of_block hblk 0
  have f1 := frozen_of_block hblk 1
  have f2 := frozen_of_block hblk 2
  have f3 := frozen_of_block hblk 3
  have rl2 := lt_of_cell r0
  dsimp only at rl2
  clear hT hbw hblk RB C4 c4 lc
  have hf1 := HF1.out
  have hf2 := HF2.out
  have hx := HX1.out
  have hx2 := HX2.out
  have hM3 := HM2.out.below HBW.out
  obtain ⟨s1, x1, _, k, hk, hfk, _⟩ := wAddr_word hM3 hG h0 hf1
  obtain ⟨s2, x2, _⟩ := wAddr_word hM3 hG (n := pc + 1) (by omega) hf2
  have hxb := wordAt_in hG hk pc
  rw [← hfk, hx] at hxb
  rw [hx] at x1
  rw [hx2] at x2
  rw [hf1, hf2]
  have d1 : Int.tmod x 16 = x % 16 := Int.tmod_eq_emod_of_nonneg hxb.1
  have d2 : Int.tdiv x 16 = x / 16 := Int.tdiv_eq_ediv_of_nonneg hxb.1
  have d3 : Int.tmod (x / 16) 4 = x / 16 % 4 := Int.tmod_eq_emod_of_nonneg (by omega)
  have d4 : Int.tdiv x 256 = x / 256 := Int.tdiv_eq_ediv_of_nonneg hxb.1
  have d5 : Int.tmod (x / 256) 4 = x / 256 % 4 := Int.tmod_eq_emod_of_nonneg (by omega)
  have e1 : IntKind.i64.wrap (x % 16) = x % 16 := by rw [IntKind.wrap_i64]; omega
  have e2 : IntKind.i64.wrap (x / 16) = x / 16 := by rw [IntKind.wrap_i64]; omega
  have e3 : IntKind.i64.wrap (x / 16 % 4) = x / 16 % 4 := by rw [IntKind.wrap_i64]; omega
  have e4 : IntKind.i64.wrap (x / 256) = x / 256 := by rw [IntKind.wrap_i64]; omega
  have e5 : IntKind.i64.wrap (x / 256 % 4) = x / 256 % 4 := by rw [IntKind.wrap_i64]; omega
  obtain ⟨b1, o1, p1⟩ := a1
  obtain ⟨b2, o2, p2⟩ := a2
  dsimp only at s1 s2
  subst s1 s2
  clear hM3 HM2 HC2 hf1 hf2 hx hx2 hG hfk HF1 HF2 HX1 HX2
  go_wp2
  obtain ⟨k0, k1, k2, k3⟩ := blk4 (v0 := .int .i64 (x % 16)) (v1 := .int .i64 (x / 16 % 4)) (v2 := .int .i64 (x / 256 % 4)) (v3 := .int .i64 n) r0 r1 r2 r3
  (try simp only [Exit.inBlock, Exit.then])
  refine bodyPost_ret (by simp [results, Tryz.results146, go_sem, k0, k1, k2, k3]; try rfl) rfl ?_
  exact ⟨rfl, BW.out.trans ((((((HBW.out.mono BW.out.size).setCell (by simp) _).setCell (by simp) _).setCell (by simp) _).setCell (by simp) _))⟩

end Go.Proofs.YtdngbojbpmdegaaGreatDoor
