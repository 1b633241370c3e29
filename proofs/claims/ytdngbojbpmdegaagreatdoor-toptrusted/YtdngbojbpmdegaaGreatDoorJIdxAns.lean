/-
  Variables for a machine and for an outcome that a statement makes ahead of its own call (own work): they are still empty behind it. No condition. Two texts are the same just if their bytes are (own work). No condition. What slices.Contains answers at a machine's quotes, where the quote is one of them (own work): true; nothing that was in memory turns. The condition: the machine's cells are there. What a run changes, and that a run in pieces is the run in one (own work). No condition but that the machine may be. A nonce comes back only in a quote that was made (own work): whatever the script, the nonces that came back are as many as the quotes that were taken, each in a quote of who is trusted, and there still. No condition. What slices.IndexFunc and slices.ContainsFunc answer at the answers of a script: the first element, or whether there is one, of which the function that is handed in answers true. The condition: what that function answers.
-/
import Derived.Test.YtdngbojbpmdegaaGreatDoorJMBox
import Derived.Test.YtdngbojbpmdegaaGreatDoorJOpenCells
import Derived.Test.YtdngbojbpmdegaaGreatDoorJSameM
import Derived.Deep.RegionHeld3
import Derived.Deep.DeepCutAuto
import Derived.BigQuiet
import Derived.Test.YtdngbojbpmdegaaGreatDoorJPokes
import Derived.Test.YtdngbojbpmdegaaGreatDoorHostRun
import Derived.Test.YtdngbojbpmdegaaGreatDoorJIdxBase
namespace Go.Proofs.YtdngbojbpmdegaaGreatDoor
open Go.RowKit
set_option linter.unusedVariables false

/-- an empty machine's variable -/
structure ZM (w : World) (g : Nat) : Prop where
  c0 : w.cell? ⟨g, 0, none⟩ = some (.slice none 0 0)
  c1 : w.cell? ⟨g, 1, none⟩ = some (.slice none 0 0)
  c2 : w.cell? ⟨g, 2, none⟩ = some (.slice none 0 0)
  fz : ∀ o, w.frozen? ⟨g, o, none⟩ = false
  lt : g < w.heap.size
theorem ZM.of {w X : World} {g : Nat} {t : TypeId} (hX : X.heap[g]? = some (.cells #[.slice none 0 0, .slice none 0 0, .slice none 0 0] t (0, 0))) (hb : Below X.heap.size X w) : ZM w g := by
  have h := (hb.block g (Array.getElem?_eq_some_iff.1 hX).1).trans hX
  exact ⟨by simp [World.cell?, h], by simp [World.cell?, h], by simp [World.cell?, h], fun o => by simp [World.frozen?, h], (Array.getElem?_eq_some_iff.1 h).1⟩
/-- an empty outcome's variable -/
structure ZO (w : World) (g : Nat) : Prop where
  c0 : w.cell? ⟨g, 0, none⟩ = some (.int .i64 0)
  c1 : w.cell? ⟨g, 1, none⟩ = some (.int .i64 0)
  fz : ∀ o, w.frozen? ⟨g, o, none⟩ = false
  lt : g < w.heap.size
theorem ZO.of {w X : World} {g : Nat} {t : TypeId} (hX : X.heap[g]? = some (.cells #[.int .i64 0, .int .i64 0] t (0, 0))) (hb : Below X.heap.size X w) : ZO w g := by
  have h := (hb.block g (Array.getElem?_eq_some_iff.1 hX).1).trans hX
  exact ⟨by simp [World.cell?, h], by simp [World.cell?, h], fun o => by simp [World.frozen?, h], (Array.getElem?_eq_some_iff.1 h).1⟩
theorem no_mine {b : Nat} : ¬ Mine noM b := by
  rintro (⟨o, s, e⟩ | ⟨o, s, e⟩ | ⟨o, s, e⟩ | ⟨j, hj, _⟩)
  · cases e
  · cases e
  · cases e
  · simp [noM] at hj
theorem ZM.box {w : World} {g : Nat} (h : ZM w g) : MBox 0 w g noM := ⟨h.c0, h.c1, h.c2, h.fz, h.lt, noM_own _ _, no_mine⟩
theorem ZO.box {w : World} {g : Nat} (h : ZO w g) : OBox w g 0 0 := ⟨h.c0, h.c1, h.fz, h.lt⟩
section
variable {n0 : Nat} {W w7 : World} {X : Mv} {g1 g2 : Nat} {nd v : Int}
end

end Go.Proofs.YtdngbojbpmdegaaGreatDoor

namespace Go.Proofs.YtdngbojbpmdegaaGreatDoor


theorem bb_loop (bs : ByteArray) : ∀ (n i : Nat) (r : List UInt8), bs.size - i = n → ByteArray.toList.loop bs i r = r.reverse ++ bs.data.toList.drop i := by
  have hs : bs.data.toList.length = bs.size := by rw [Array.length_toList]; rfl
  intro n
  induction n with
  | zero =>
    intro i r h
    unfold ByteArray.toList.loop
    have : ¬ i < bs.size := by omega
    rw [if_neg this, List.drop_eq_nil_of_le (by omega)]
    simp
  | succ n ih =>
    intro i r h
    unfold ByteArray.toList.loop
    have hi : i < bs.size := by omega
    rw [if_pos hi, ih (i + 1) _ (by omega), List.drop_eq_getElem_cons (i := i) (by omega)]
    have hi2 : i < bs.data.size := hi
    have : bs.get! i = bs.data.toList[i]'(by omega) := by
      rw [Array.getElem_toList]
      show bs.data[i]! = _
      exact getElem!_pos bs.data i hi2
    rw [this]; simp
theorem bb_toList (bs : ByteArray) : bs.toList = bs.data.toList := by
  unfold ByteArray.toList
  rw [bb_loop bs _ 0 [] rfl]; simp
theorem bb_beq (X Y : ByteArray) : (X.toList == Y.toList) = decide (X = Y) := by
  rw [Bool.eq_iff_iff, beq_iff_eq, decide_eq_true_iff, bb_toList, bb_toList]
  constructor
  · intro h
    cases X; cases Y
    simpa using h
  · rintro rfl; rfl
end Go.Proofs.YtdngbojbpmdegaaGreatDoor

namespace Go.Proofs.YtdngbojbpmdegaaGreatDoor
open Go.RowKit
set_option maxRecDepth 100000
set_option linter.unusedVariables false

set_option maxHeartbeats 2000000 in
theorem index_quote (M : Mv) (t : ByteArray) (d : Int) (w : World) (hM : MachAt w M) (hq : ∃ q ∈ M.qus, q.log = t ∧ q.data = d) :
    Calls Tryz.prog 98 #[.slice M.qa M.qus.length M.qcap, .agg #[.string t, .int .i64 d]] w fun e w' => ∃ k : Nat, e = .returned (.int .i64 (k : Int)) ∧ Below w.heap.size w w' := by
  have hl := hM.qul
  unfold maxLen at hl
  obtain ⟨nn, hnn⟩ : ∃ nn, Hid (nn = M.qus.length) := ⟨_, rfl⟩
  rw [← hnn.out] at hl ⊢
  obtain ⟨W1, hW1⟩ : ∃ W1, Hid (W1 = w.alloc (.cells #[.string t, .int .i64 d] 90)) := ⟨_, rfl⟩
  have BW : Hid (Below w.heap.size w W1) := show Below _ _ _ by rw [hW1.out]; exact (Below.refl _ _).alloc (Nat.le_refl _) _
  have HM : Hid (MachAt W1 M) := hM.below BW.out
  have HQ : Hid (∃ q ∈ M.qus, q.log = t ∧ q.data = d) := hq
  have k0 : W1.cell? ⟨w.heap.size, 0, none⟩ = some (.string t) := by rw [hW1.out, World.cell?_alloc_at _ _ _ _ rfl]; rfl
  have k1 : W1.cell? ⟨w.heap.size, 1, none⟩ = some (.int .i64 d) := by rw [hW1.out, World.cell?_alloc_at _ _ _ _ rfl]; rfl
  have lk := lt_of_cell k0
  clear hM hq
  obtain ⟨fa, frs, fcap, ea, ens, ecap, qa, qus, qcap⟩ := M
  dsimp only at *
  go_enter Tryz.func98, Tryz.ntmps98
  go_upto_region 1 with fail
  rw [← hW1.out]
  clear hW1
  go_upto_region 2 with fail
  go_loopw [8] (fun i wr => ∃ k : Nat, k ≤ nn ∧ i = .int .i64 k ∧ Hid (∀ j, j < k → ¬ ((qus.getD j default).log = t ∧ (qus.getD j default).data = d)) ∧ ∃ n, wr = W1.drewN n) (fun i _ => nn - (intOf i).toNat)
  case atStart => exact ⟨0, Nat.zero_le _, rfl, (fun j hj => absurd hj (by omega)), 0, rfl⟩
  case round =>
    obtain ⟨k, hk, rfl, hno, n, rfl⟩ := hrel
    by_cases hlt : k < nn
    · obtain ⟨xb, xo, hxa, c0, c1⟩ := HM.out.quote (j := k) (by dsimp only; rw [← hnn.out]; exact hlt)
      dsimp only at hxa c0 c1
      subst hxa
      have hkI : (k : Int) < (nn : Int) := by omega
      have lx := lt_of_cell c0
      by_cases hy : (qus.getD k default).log = t ∧ (qus.getD k default).data = d
      · rw [hy.1] at c0
        rw [hy.2] at c1
        have hE : ∀ w', (Op.equalIn 10000 90 (.agg #[.string t, .int .i64 d]) (.agg #[.string t, .int .i64 d])).run Tryz.prog w' = .ok true w' := fun w' => by
          have := eq_quote 9998 t t d d w'
          simpa using this
        clear hy
        go_wp2
        go_quiet (fail)
        go_wp2
        go_ret
        exact ⟨k, rfl, below_drewN (below_drewN BW.out _) _⟩
      · have HN : Hid (∀ j, j < k + 1 → ¬ ((qus.getD j default).log = t ∧ (qus.getD j default).data = d)) := fun j hj => by
          by_cases e : j < k
          · exact hno.out j e
          · have : j = k := by omega
            subst this; exact hy
        generalize qus.getD k default = F at c0 c1 hy
        obtain ⟨lg, da⟩ := F
        dsimp only at c0 c1 hy
        have hE : ∀ w', (Op.equalIn 10000 90 (.agg #[.string t, .int .i64 d]) (.agg #[.string lg, .int .i64 da])).run Tryz.prog w' = .ok false w' := fun w' => by
          have h := eq_quote 9998 t lg d da w'
          have e : ((t.toList == lg.toList) && (d == da)) = false := by
            rw [bb_beq, Bool.and_eq_false_iff]
            by_cases h1 : t = lg
            · right
              simp only [beq_eq_false_iff_ne]
              intro h2; exact hy ⟨h1.symm, h2.symm⟩
            · left; exact decide_eq_false h1
          rw [e] at h
          exact h
        clear hy
        go_wp2
        go_quiet (fail)
        go_wp2
        go_roundw
        case rel => exact ⟨k + 1, by omega, by go_num, HN, _, rfl⟩
        case measure => simp [intOf]; omega
    · exfalso
      obtain ⟨q, hqm, h1, h2⟩ := HQ.out
      obtain ⟨j, hj, hjq⟩ := List.getElem_of_mem hqm
      have hjk : j < k := by have := hnn.out; omega
      refine hno.out j hjk ?_
      have e : qus.getD j default = q := by simp [List.getD_eq_getElem?_getD, hj, hjq]
      rw [e]; exact ⟨h1, h2⟩

theorem contains_quote (M : Mv) (t : ByteArray) (d : Int) (w : World) (hM : MachAt w M) (hq : ∃ q ∈ M.qus, q.log = t ∧ q.data = d) :
    Calls Tryz.prog 40 #[.slice M.qa M.qus.length M.qcap, .agg #[.string t, .int .i64 d]] w fun e w' => e = .returned (.bool true) ∧ Below w.heap.size w w' := by
  obtain ⟨W1, hW1⟩ : ∃ W1, Hid (W1 = w.alloc (.cells #[.string t, .int .i64 d] 90)) := ⟨_, rfl⟩
  have BW : Hid (Below w.heap.size w W1) := show Below _ _ _ by rw [hW1.out]; exact (Below.refl _ _).alloc (Nat.le_refl _) _
  have h := index_quote M t d W1 (hM.below BW.out) hq
  have k0 : W1.cell? ⟨w.heap.size, 0, none⟩ = some (.string t) := by rw [hW1.out, World.cell?_alloc_at _ _ _ _ rfl]; rfl
  have k1 : W1.cell? ⟨w.heap.size, 1, none⟩ = some (.int .i64 d) := by rw [hW1.out, World.cell?_alloc_at _ _ _ _ rfl]; rfl
  have lk := lt_of_cell k0
  clear hM hq
  go_enter Tryz.func40, Tryz.ntmps40
  go_upto_region 1 with fail
  rw [← hW1.out]
  clear hW1
  go_wp2_with (go_at_call 98; refine h.mono ?_; clear h; rintro e w2 ⟨k, rfl, hb2⟩)
  have hb := BW.out.trans (hb2.mono BW.out.size)
  go_ret
  exact ⟨ret_bool (by simp), hb⟩

end Go.Proofs.YtdngbojbpmdegaaGreatDoor

namespace Go.Proofs.YtdngbojbpmdegaaGreatDoor
open Go.RowKit

/-- what a run of the enclave m leaves as it was -/
structure Walled (m : Nat) (M N : Mv) : Prop where
  len : N.frs.length = M.frs.length
  ens : N.ens = M.ens
  own : ∀ j, (N.frs.getD j default).o = (M.frs.getD j default).o ∧ (N.frs.getD j default).at_ = (M.frs.getD j default).at_ ∧ (N.frs.getD j default).r = (M.frs.getD j default).r
  ws : ∀ j, (M.frs.getD j default).o ≠ 0 → ((M.frs.getD j default).o ≠ (m : Int) + 1 ∨ ¬ (M.frs.getD j default).r / 2 % 2 = 1) → (N.frs.getD j default).ws = (M.frs.getD j default).ws
  qus : ∃ l, N.qus = M.qus ++ l
theorem Walled.refl (m : Nat) (M : Mv) : Walled m M M := ⟨rfl, rfl, fun _ => ⟨rfl, rfl, rfl⟩, fun _ _ _ => rfl, [], by simp⟩
theorem Walled.trans {m : Nat} {M N K : Mv} (h : Walled m M N) (g : Walled m N K) : Walled m M K := by
  refine ⟨g.len.trans h.len, g.ens.trans h.ens, fun j => ?_, fun j h0 hc => ?_, ?_⟩
  · obtain ⟨a, b, c⟩ := h.own j
    obtain ⟨a', b', c'⟩ := g.own j
    exact ⟨a'.trans a, b'.trans b, c'.trans c⟩
  · obtain ⟨a, b, c⟩ := h.own j
    rw [g.ws j (by rw [a]; exact h0) (by rw [a, c]; exact hc), h.ws j h0 hc]
  · obtain ⟨l, hl⟩ := h.qus
    obtain ⟨k, hk⟩ := g.qus
    exact ⟨l ++ k, by rw [hk, hl, List.append_assoc]⟩
theorem walled_word {M : Mv} (hl : M.frs.length = 24) (m : Nat) {n v : Int} (h0 : 0 ≤ n) (hf : ¬ frmF M.frs ((m : Int) + 1) n 2 < 0) : Walled m M (putWord M (frmF M.frs ((m : Int) + 1) n 2) n v) := by
  rcases frmF_cases hl ((m : Int) + 1) n 2 h0 with e | ⟨k, hk, e⟩
  · omega
  · have hown : (M.frs.getD k default).o = 0 ∨ ((M.frs.getD k default).o = (m : Int) + 1 ∧ (M.frs.getD k default).r / 2 % 2 = 1) := by
      unfold frmF at e
      split at e
      · unfold shF at e
        rw [if_neg (by decide)] at e
        split at e
        · omega
        · split at e
          · rename_i q
            rw [e, Int.toNat_natCast] at q
            exact .inl q
          · omega
      · split at e
        · omega
        · split at e
          · rename_i q
            rw [e, Int.toNat_natCast] at q
            rcases place_cases M.frs ((m : Int) + 1) (n / 8) with p | ⟨i, p, _, hb⟩
            · omega
            · have : i = k := by omega
              subst this
              simp only [plB, Bool.and_eq_true, beq_iff_eq] at hb
              refine .inr ⟨hb.1.2, ?_⟩
              unfold hasR at q
              rw [if_neg (by decide), if_pos rfl] at q
              simpa using q
          · omega
    rw [e]
    unfold putWord
    rw [Int.toNat_natCast]
    have hs : ∀ j, ((M.frs.set k { M.frs.getD k default with ws := (M.frs.getD k default).ws.set (n % 8).toNat v }).getD j default) = if j = k then { M.frs.getD k default with ws := (M.frs.getD k default).ws.set (n % 8).toNat v } else M.frs.getD j default := fun j => getD_set _ _ _ _ (by omega)
    refine ⟨by simp, rfl, fun j => ?_, fun j q0 q1 => ?_, [], by simp⟩
    · show ((M.frs.set k _).getD j default).o = _ ∧ ((M.frs.set k _).getD j default).at_ = _ ∧ ((M.frs.set k _).getD j default).r = _
      rw [hs]
      split
      · rename_i q; subst q; exact ⟨rfl, rfl, rfl⟩
      · exact ⟨rfl, rfl, rfl⟩
    · show ((M.frs.set k _).getD j default).ws = _
      rw [hs]
      split
      · rename_i q
        subst q
        rcases hown with o | ⟨o, r⟩
        · exact absurd o q0
        · rcases q1 with q1 | q1
          · exact absurd o q1
          · exact absurd r q1
      · rfl
theorem walled_say (M : Mv) (m : Nat) (v : Int) : Walled m M (sayM M m v) := ⟨rfl, rfl, fun _ => ⟨rfl, rfl, rfl⟩, fun _ _ _ => rfl, _, rfl⟩
theorem walled_step {M : Mv} {m : Nat} {pc : Int} {rs : List Int} (h : RunOk M m pc rs) : Walled m M (stepR M m pc rs xorR).M := by
  unfold stepR
  split
  · exact Walled.refl _ _
  · unfold doR
    repeat' split
    all_goals first
      | exact Walled.refl _ _
      | exact walled_say _ _ _
      | (rename_i q; exact walled_word h.good.s1 m (h.rs _).1 q)
theorem walled_run : ∀ (k : Nat) {M : Mv} {m : Nat} {pc : Int} {rs : List Int} (_ : RunOk M m pc rs), Walled m M (runR k M m pc rs xorR).M
  | 0, M, m, _, _, _ => Walled.refl m M
  | k + 1, M, m, pc, rs, h => by
    by_cases hn : (stepR M m pc rs xorR).nd = 0
    · rw [runR_more hn]
      exact (walled_step h).trans (walled_run k (step_ok h (fun a b => xor_in a b) hn))
    · rw [runR_stop hn]; exact walled_step h

end Go.Proofs.YtdngbojbpmdegaaGreatDoor

namespace Go.Proofs.YtdngbojbpmdegaaGreatDoor
open Go.RowKit

/-- what holds of the challenger at any time -/
structure Back (t : ByteArray) (M : Mv) (C : Cv) (n : Nat) : Prop where
  tr : C.tr = [t]
  cnt : C.ns.countP (fun x => x == 1) = n
  there : ∀ i, i < C.ns.length → C.ns.getD i 0 = 1 → ∃ q ∈ M.qus, q.log = t ∧ q.data = (i : Int) + 1
theorem ite_qus {c : Prop} [Decidable c] {A B : Mv} {q : Qu} (h1 : c → q ∈ A.qus) (h2 : ¬ c → q ∈ B.qus) : q ∈ (if c then A else B).qus := by
  split
  · rename_i h; exact h1 h
  · rename_i h; exact h2 h
theorem qus_ent {M : Mv} {e word fuel : Int} (h : entF M e word fuel = 0) {q : Qu} (hq : q ∈ M.qus) : q ∈ (entM M e word fuel).qus := by
  obtain ⟨m, f, e1, e2, _, ho⟩ := ent_ok h
  obtain ⟨l, hl⟩ := (walled_run f ho).qus
  unfold entM entR
  rw [if_pos h, e1, e2, show ((m : Int) + 1 - 1).toNat = m by omega, Int.toNat_natCast]
  show q ∈ (runR f M m 0 _ xorR).M.qus
  rw [hl]
  exact List.mem_append_left _ hq
theorem qus_res {M : Mv} {e fuel : Int} (h : fuelF M e 3 fuel = 0) {q : Qu} (hq : q ∈ M.qus) : q ∈ (resM M e fuel).qus := by
  obtain ⟨m, f, e1, e2, _, ho⟩ := res_ok h
  obtain ⟨l, hl⟩ := (walled_run f ho).qus
  unfold resM resR
  rw [if_pos h, e1, e2, show ((m : Int) + 1 - 1).toNat = m by omega, Int.toNat_natCast]
  show q ∈ (runR f M m _ _ xorR).M.qus
  rw [hl]
  exact List.mem_append_left _ hq
theorem qus_act {M : Mv} (_hz : machF M = 0) (C : Cv) (x : Ac) : ∀ q ∈ M.qus, q ∈ (actM M C x).qus := by
  intro q hq
  unfold actM
  exact ite_qus (fun _ => ite_qus (fun h => by unfold creM; rw [if_pos h]; exact hq) (fun _ => hq)) (fun _ => ite_qus (fun _ => ite_qus (fun h => by unfold putM; rw [if_pos h]; exact hq) (fun _ => hq)) (fun _ => ite_qus (fun _ => ite_qus (fun h => by unfold meaM; rw [if_pos h]; exact hq) (fun _ => hq)) (fun _ => ite_qus (fun _ => ite_qus (fun h => by unfold startM; rw [if_pos h]; exact hq) (fun _ => hq)) (fun _ =>
    ite_qus (fun _ => ite_qus (fun h => by unfold remM; rw [if_pos h]; exact hq) (fun _ => hq)) (fun _ => ite_qus (fun _ => ite_qus (fun h => by unfold pokeM; rw [if_pos h]; exact ite_qus (fun _ => hq) (fun _ => hq)) (fun _ => hq)) (fun _ => ite_qus (fun _ => ite_qus (fun h => qus_ent h hq) (fun _ => hq)) (fun _ => ite_qus (fun _ => ite_qus (fun h => qus_res h hq) (fun _ => hq)) (fun _ => hq))))))))
theorem teq_eq {a b : ByteArray} (h : teq a b = true) : a = b := by
  unfold teq at h
  rw [bb_beq] at h
  simpa using h
/-- is it a quote that is taken? -/
def taken (p : Ac × (Int × Int)) : Bool := (p.1.k == 11) && (p.2.1 == 0)
theorem back_act {t : ByteArray} {M : Mv} {C : Cv} {n : Nat} (hz : machF M = 0) (h : Back t M C n) (x : Ac) : Back t (actM M C x) (actD M C x) (n + if taken (x, (actC M C x, actN M C x)) = true then 1 else 0) := by
  have keep : ∀ {D : Cv}, D = C → taken (x, (actC M C x, actN M C x)) = false → Back t (actM M C x) D (n + if taken (x, (actC M C x, actN M C x)) = true then 1 else 0) := by
    intro D hD ht
    rw [ht, hD]
    refine ⟨h.tr, by simpa using h.cnt, fun i hi h1 => ?_⟩
    obtain ⟨q, hq, e1, e2⟩ := h.there i hi h1
    exact ⟨q, qus_act hz C x q hq, e1, e2⟩
  unfold actD
  split
  · rename_i c
    have ht : taken (x, (actC M C x, actN M C x)) = false := by unfold taken; rw [c]; rfl
    split
    · rename_i ha
      unfold askC
      rw [if_pos ha, ht]
      refine ⟨h.tr, ?_, fun i hi h1 => ?_⟩
      · show (C.ns ++ [0]).countP _ = _
        rw [List.countP_append, h.cnt]; rfl
      · have hi' : i < (C.ns ++ [0]).length := hi
        have h1' : (C.ns ++ [0]).getD i 0 = 1 := h1
        by_cases hl : i < C.ns.length
        · rw [List.getD_eq_getElem?_getD, List.getElem?_append_left hl, ← List.getD_eq_getElem?_getD] at h1'
          obtain ⟨q, hq, e1, e2⟩ := h.there i hl h1'
          exact ⟨q, qus_act hz C x q hq, e1, e2⟩
        · exfalso
          have : i = C.ns.length := by simp at hi'; omega
          subst this
          simp at h1'
    · exact keep rfl ht
  · split
    · rename_i c
      unfold chkD
      have ac : actC M C x = chkE M C x.at_ := by
        unfold actC
        rw [c]
        rfl
      split
      · rename_i hc
        have ht : taken (x, (actC M C x, actN M C x)) = true := by unfold taken; rw [c, ac, hc]; rfl
        rw [ht]
        unfold chkE at hc
        split at hc
        · rename_i hr
          generalize hq : M.qus.getD x.at_.toNat default = q at hc
          have hqm : q ∈ M.qus := by rw [← hq, List.getD_eq_getElem?_getD, List.getElem?_eq_getElem (by omega)]; exact List.getElem_mem _
          obtain ⟨z0, z1, z2⟩ := lookE_zero hc
          unfold lookC
          rw [if_pos hc]
          unfold lookE at hc
          rw [if_pos z0] at hc
          split at hc
          · rw [if_pos ⟨z1, z2⟩] at hc
            split at hc
            · omega
            · rename_i hn1
              split at hc
              · rename_i htr
                have hlog : q.log = t := by
                  rw [h.tr] at htr
                  simp only [List.any_cons, List.any_nil, Bool.or_false] at htr
                  exact (teq_eq htr).symm
                obtain ⟨j, hj⟩ : ∃ j : Nat, (q.data - 1).toNat = j := ⟨_, rfl⟩
                have hjl : j < C.ns.length := by omega
                rw [hj] at hn1
                unfold backC
                rw [hj]
                have e1 : C.ns[j] = C.ns.getD j 0 := by simp [List.getD_eq_getElem?_getD, hjl]
                refine ⟨h.tr, ?_, fun i hi h1 => ?_⟩
                · show (C.ns.set j 1).countP _ = _
                  rw [List.countP_set hjl, h.cnt, e1, if_neg (by simpa using hn1)]
                  simp
                · have h1' : (C.ns.set j 1).getD i 0 = 1 := h1
                  have hi' : i < C.ns.length := by
                    have : i < (C.ns.set j 1).length := hi
                    simpa using this
                  by_cases e : i = j
                  · subst e
                    exact ⟨q, qus_act hz C x q hqm, hlog, by omega⟩
                  · have : C.ns.getD i 0 = 1 := by
                      rw [List.getD_eq_getElem?_getD, List.getElem?_set_ne (Ne.symm e), ← List.getD_eq_getElem?_getD] at h1'
                      exact h1'
                    obtain ⟨q', hq', e1, e2⟩ := h.there i hi' this
                    exact ⟨q', qus_act hz C x q' hq', e1, e2⟩
              · omega
          · omega
        · omega
      · rename_i hc
        exact keep rfl (by unfold taken; rw [ac]; simp [hc])
    · rename_i c
      exact keep rfl (by unfold taken; simp [c])
/-- the quotes that were taken, of a script and of what was answered -/
def tookN (l : List Ac) (z : List (Int × Int)) : Nat := (l.zip z).countP taken
theorem back_hst (t : ByteArray) : ∀ (l : List Ac) (s : Hs) (n : Nat), machF s.M = 0 → Back t s.M s.C n → Back t (hst s l).M (hst s l).C (n + tookN l (hans s l))
  | [], s, n, _, h => by simpa [tookN, hans, hst] using h
  | x :: l, s, n, hz, h => by
    have h1 := back_act hz h x
    have h2 := back_hst t l (hstep s x) _ (act_good s.C x hz) h1
    have e : n + tookN (x :: l) (hans s (x :: l)) = (n + if taken (x, (actC s.M s.C x, actN s.M s.C x)) = true then 1 else 0) + tookN l (hans (hstep s x) l) := by
      unfold tookN
      simp only [hans, List.zip_cons_cons, List.countP_cons]
      omega
    rw [e]
    exact h2

end Go.Proofs.YtdngbojbpmdegaaGreatDoor

namespace Go.Proofs.YtdngbojbpmdegaaGreatDoor
open Go.RowKit

end Go.Proofs.YtdngbojbpmdegaaGreatDoor
