/-
  Methods of a site (own work). The conditions: those of a site. What the calls Check (trust) and ChallengerFault (riddleref) answer for every challenger: what it is refused for. They turn nothing. No condition. What the call ChallengerCopy (riddleref) answers for every challenger: one that holds the same, in memory of its own; nothing that was in memory turns. The condition: the lists are within the reach of the form.
-/
import Derived.Test.YtdngbojbpmdegaaGreatDoorJHostRan
import Derived.Test.YtdngbojbpmdegaaGreatDoorCreate
import Derived.Test.YtdngbojbpmdegaaGreatDoorJAc
import Derived.Test.YtdngbojbpmdegaaGreatDoorJIdxBase
import Derived.Handy
import Derived.Outline
import Derived.Deep.CutRange
namespace Go.Proofs.YtdngbojbpmdegaaGreatDoor
open Go.RowKit
set_option linter.unusedVariables false

set_option maxRecDepth 100000 in
set_option maxHeartbeats 2000000 in
theorem create_site {n0 : Nat} {w : World} {b : Nat} {M : Mv} {C : Cv} (h : Site n0 w b M C) (hF : M.Fits) (ht : Tab w) :
    Calls Tryz.prog 100 #[.pointer (some ⟨b, 0, none⟩)] w (DoSaid n0 w b M C (creF M) (creN M) (if creF M = 0 then creM M else M) C) := by
  obtain ⟨W1, hW1⟩ : ∃ W1, Hid (W1 = w.alloc (.cells #[.int .i64 0, .int .i64 0] 39)) := ⟨_, rfl⟩
  obtain ⟨bw, q1⟩ := al1w w (.cells #[.int .i64 0, .int .i64 0] 39)
  rw [← hW1.out] at bw q1
  have BW : Hid (_) := bw
  have QR : Hid (_) := q1
  have HST : Hid (Site n0 W1 b M C) := h.keep bw
  have c1 := create_any M W1 HST.out.own.at_ hF (ht.below bw)
  obtain ⟨z, hz⟩ : ∃ z, Hid (z = creF M) := ⟨_, rfl⟩
  obtain ⟨n, hn⟩ : ∃ n, Hid (n = creN M) := ⟨_, rfl⟩
  obtain ⟨T, hT⟩ : ∃ T, Hid (T = creM M) := ⟨_, rfl⟩
  obtain ⟨TM, hTM⟩ : ∃ TM, Hid (TM = if creF M = 0 then creM M else M) := ⟨_, rfl⟩
  rw [← hTM.out, ← hz.out, ← hn.out]
  rw [← hz.out, ← hT.out] at hTM
  rw [← hz.out, ← hn.out, ← hT.out] at c1
  unfold Mv.val at c1
  have HBL : Hid (b < w.heap.size) := h.lt
  have OLD : Hid (_) := h
  have s0 := HST.out.c0
  have sf0 := HST.out.fz 0
  have s1 := HST.out.c1
  have sf1 := HST.out.fz 1
  have s2 := HST.out.c2
  have sf2 := HST.out.fz 2
  have sl := HST.out.lt
  clear h hF ht bw q1 hz hn hT
  go_enter Tryz.func100, Tryz.ntmps100
  go_upto_region 1 with fail
  rw [← hW1.out]
  clear hW1
  go_upto_region 2 with (go_at_call 92; refine c1.mono ?_; clear c1; rintro x w1 ⟨N, rfl, hS, hO, hb⟩; have HS : Hid (_) := hS; have HO : Hid (_) := hO; have HB : Hid (_) := hb; clear hS hO hb)
  obtain ⟨V1, hV1⟩ : ∃ V1, Hid (V1 = w1.alloc (.cells #[.slice N.fa N.frs.length N.fcap, .slice N.ea N.ens.length N.ecap, .slice N.qa N.qus.length N.qcap] 29)) := ⟨_, rfl⟩
  obtain ⟨bv, q2⟩ := al1w w1 (.cells #[.slice N.fa N.frs.length N.fcap, .slice N.ea N.ens.length N.ecap, .slice N.qa N.qus.length N.qcap] 29)
  rw [← hV1.out] at bv q2
  rw [← hV1.out]
  have BV : Hid (Below W1.heap.size W1 V1) := HB.out.trans (bv.mono HB.out.size)
  have HST1 : Hid (Site n0 V1 b M C) := HST.out.keep BV.out
  have c2 := changed_any HST1.out ((HO.out.below bv).mono HST.out.ge) (fun q => by have h1 := (Mine.fresh HO.out q).1; have h2 := BW.out.size; have h3 := HBL.out; omega) z
  unfold Mv.val at c2
  have p0 : V1.cell? ⟨w1.heap.size, 0, none⟩ = some (.slice N.fa N.frs.length N.fcap) := by simp [World.cell?, q2]
  have p1 : V1.cell? ⟨w1.heap.size, 1, none⟩ = some (.slice N.ea N.ens.length N.ecap) := by simp [World.cell?, q2]
  have p2 : V1.cell? ⟨w1.heap.size, 2, none⟩ = some (.slice N.qa N.qus.length N.qcap) := by simp [World.cell?, q2]
  have pl : w1.heap.size < V1.heap.size := lt_of_cell p0
  clear hV1 bv q2 s0 s1 s2 sf0 sf1 sf2 sl
  go_upto_region 3 with (go_at_call 101; refine c2.mono ?_; clear c2; rintro x w2 ⟨M', hM', rfl, hS, hF⟩; have HM' : Hid (_) := hM'; have HS2 : Hid (_) := hS; have HF2 : Hid (_) := hF; clear hM' hS hF)
  obtain ⟨V2, hV2⟩ : ∃ V2, Hid (V2 = w2.alloc (.cells #[.int .i64 z, .int .i64 0] 39)) := ⟨_, rfl⟩
  obtain ⟨bv, q3⟩ := al1w w2 (.cells #[.int .i64 z, .int .i64 0] 39)
  rw [← hV2.out] at bv q3
  rw [← hV2.out]
  have HST2 : Hid (Site n0 V2 b M' C) := HS2.out.keep bv
  have F2 : Hid (Far b w V2) := (((Far.of_below BW.out).trans (Far.of_below BV.out)).trans HF2.out).trans (Far.of_below bv)
  have sz1 := BW.out.size
  have lR : w.heap.size < W1.heap.size := (Array.getElem?_eq_some_iff.1 QR.out).1
  have sz2 := BV.out.size
  have sz3 := HF2.out.size
  have sz4 := bv.size
  have nb : w.heap.size ≠ b := by have := HBL.out; omega
  have q4 := (bv.block w.heap.size (by omega)).trans ((HF2.out.block w.heap.size (by omega) nb).trans ((BV.out.block w.heap.size lR).trans QR.out))
  have r0 : V2.cell? ⟨w.heap.size, 0, none⟩ = some (.int .i64 0) := by simp [World.cell?, q4]
  have r1 : V2.cell? ⟨w.heap.size, 1, none⟩ = some (.int .i64 0) := by simp [World.cell?, q4]
  have rl : w.heap.size < V2.heap.size := lt_of_cell r0
  have rf0 := frozen_of_block q4 0
  have rf1 := frozen_of_block q4 1
  have t0 : V2.cell? ⟨w2.heap.size, 0, none⟩ = some (.int .i64 z) := by simp [World.cell?, q3]
  have t1 : V2.cell? ⟨w2.heap.size, 1, none⟩ = some (.int .i64 0) := by simp [World.cell?, q3]
  have tl : w2.heap.size < V2.heap.size := lt_of_cell t0
  have tf0 := frozen_of_block q3 0
  have tf1 := frozen_of_block q3 1
  have nRT : w.heap.size ≠ w2.heap.size := by omega
  have NEW : Hid (¬ (w2.heap.size = b ∨ Mine M' w2.heap.size ∨ MineC C w2.heap.size) ∧ ¬ (w.heap.size = b ∨ Mine M' w.heap.size ∨ MineC C w.heap.size)) := by
    refine ⟨HS2.out.new (Nat.le_refl _), ?_⟩
    rintro (q | q | q)
    · exact nb q
    · rw [HM'.out] at q
      split at q
      · have := (Mine.fresh HO.out q).1; omega
      · have := (Mine.fresh (show Owned n0 w M from OLD.out.own) q).2; omega
    · have := (MineC.fresh (show COwn n0 w C from OLD.out.cown) q).2; omega
  clear hV2 bv q3 q4 p0 p1 p2 pl
  go_wp2
  refine bp_genR fun V9 hV9 => ?_
  have s3 := HST2.out.far NEW.out.1 1 (.int .i64 n)
  have F3 : Far b w (V2.setCell ⟨w2.heap.size, 1, none⟩ (.int .i64 n)) := F2.out.set (.inr (by omega)) 1 _
  have r0' := (cell_offH nRT 1 0 (.int .i64 n)).trans r0
  have r1' := (cell_offH nRT 1 1 (.int .i64 n)).trans r1
  generalize V2.setCell ⟨w2.heap.size, 1, none⟩ (.int .i64 n) = V3 at hV9 s3 F3 r0' r1'
  obtain ⟨k9, k0, k1⟩ := s3.ans NEW.out.2 r0' r1' hV9
  have F9 : Far b w V9 := by rw [hV9]; exact (F3.set (.inr (Nat.le_refl _)) 0 _).set (.inr (Nat.le_refl _)) 1 _
  clear hV9
  (try simp only [Exit.inBlock, Exit.then])
  refine bodyPost_ret (by simp [results, Tryz.results100, go_sem, k0, k1]; try rfl) rfl ?_
  refine ⟨M', C, rfl, ?_, Cv.Same.refl _, k9, F9, fun c hc q => ?_⟩
  · rw [HM'.out, hTM.out]
    split
    · exact HS.out
    · exact Mv.Same.refl _
  · rcases q with q | q
    · rw [HM'.out] at q
      split at q
      · have h1 := (Mine.fresh HO.out q).1; have h2 := BW.out.size; omega
      · exact .inl q
    · exact .inr q

end Go.Proofs.YtdngbojbpmdegaaGreatDoor

namespace Go.Proofs.YtdngbojbpmdegaaGreatDoor
open Go.RowKit

def tooLong (s : ByteArray) : Bool := decide (1000 < (s.size : Int))
def noNonce (n : Int) : Bool := !inB n 0 1
/-- what a challenger is refused for (0: nothing) -/
def chF (tr : List ByteArray) (ns : List Int) : Int := if 4 < tr.length ∨ 20 < ns.length then 1 else if tr.any tooLong || ns.any noNonce then 8 else 0
theorem chF_zero {tr : List ByteArray} {ns : List Int} (h : chF tr ns = 0) : tr.length ≤ 4 ∧ ns.length ≤ 20 ∧ tr.any tooLong = false ∧ ns.any noNonce = false := by
  unfold chF at h
  split at h
  · omega
  · rename_i h1
    split at h
    · omega
    · rename_i h2
      simp only [Bool.or_eq_true, not_or, Bool.not_eq_true] at h2
      exact ⟨by omega, by omega, h2.1, h2.2⟩

set_option maxHeartbeats 400000 in
theorem tooLong_any (s : ByteArray) (w : World) : Calls Tryz.prog 82 #[.string s] w fun e w' => e = .returned (.bool (tooLong s)) ∧ Below w.heap.size w w' := by
  unfold tooLong
  go_enter Tryz.func82, Tryz.ntmps82
  go_wp2
  go_ret
  exact ⟨rfl, Below.refl _ _⟩
theorem noNonce_any (n : Int) (w : World) : Calls Tryz.prog 83 #[.int .i64 n] w fun e w' => e = .returned (.bool (noNonce n)) ∧ Below w.heap.size w w' := by
  have hE : noNonce n = (n != 0 && n != 1) := by
    unfold noNonce inB
    rw [Bool.eq_iff_iff]
    simp
    omega
  rw [hE]
  by_cases h0 : n = 0
  · subst h0
    go_enter Tryz.func83, Tryz.ntmps83
    go_wp2
    go_ret
    exact ⟨rfl, Below.refl _ _⟩
  · have h1 : (n != 0) = true := by simpa using h0
    rw [h1]
    clear h0 hE
    go_enter Tryz.func83, Tryz.ntmps83
    go_wp2
    go_ret
    exact ⟨rfl, Below.refl _ _⟩

set_option maxHeartbeats 800000 in
theorem tooLong_index (a : Option Addr) (xs : List ByteArray) (cap : Nat) (p : ByteArray → Bool) (w : World) (hl : xs.length ≤ maxLen) (hx : Texts w a xs)
    (hp : ∀ x w', Below w.heap.size w w' → Calls Tryz.prog 82 #[.string x] w' fun e w'' => e = .returned (.bool (p x)) ∧ Below w'.heap.size w' w'') :
    Calls Tryz.prog 120 #[.slice a xs.length cap, .func (.func 82) #[] #[]] w fun e w' => e = .returned (.int .i64 (idxOf p xs)) ∧ Below w.heap.size w w' := by
  unfold maxLen at hl
  rcases hx with rfl | ⟨b, off, rfl, hc⟩
  · clear hp
    go_enter Tryz.func120, Tryz.ntmps120
    go_wp2
    refine wp_loop_rounds 1 ?_
    rw [rounds_succ]
    go_wp2
    go_ret
    exact ⟨rfl, Below.refl _ _⟩
  · go_enter Tryz.func120, Tryz.ntmps120
    go_wp2
    go_loopw [8] (fun i wr => ∃ k : Nat, k ≤ xs.length ∧ i = .int .i64 k ∧ Below w.heap.size w wr ∧ Hid (∀ j, j < k → p (xs.getD j default) = false)) (fun i _ => xs.length - (intOf i).toNat)
    case atStart => exact ⟨0, Nat.zero_le _, rfl, Below.refl _ _, fun j hj => absurd hj (by omega)⟩
    case round =>
      obtain ⟨k, hk, rfl, hbel, hid⟩ := hrel
      by_cases hlt : k < xs.length
      · have k0 := hc k hlt
        obtain ⟨P, hP⟩ : ∃ P, xs.getD k default = P := ⟨_, rfl⟩
        rw [hP] at k0
        have HP : Hid (xs.getD k default = P) := hP
        have hcall := hp P
        clear hP hc hp
        have bl : b < w.heap.size := lt_of_cell k0
        have l0 : wr.cell? ⟨b, off + k, none⟩ = some (.string P) := (hbel.cell (p := ⟨b, _, none⟩) bl).trans k0
        clear k0 bl
        obtain ⟨z, hz⟩ : ∃ z, p P = z := ⟨_, rfl⟩
        rw [hz] at hcall
        have HZ : Hid (p (xs.getD k default) = z) := by rw [HP.out]; exact hz
        clear hz
        cases z with
        | false =>
          go_wp2_with (go_at_call 82; refine (hcall _ hbel).mono ?_; rintro e w1 ⟨rfl, hb1⟩)
          go_roundw
          case rel => exact ⟨k + 1, by omega, by go_num, hbel.trans (hb1.mono hbel.size), snoc_false hid HZ.out⟩
          case measure => simp [intOf]; omega
        | true =>
          go_wp2_with (go_at_call 82; refine (hcall _ hbel).mono ?_; rintro e w1 ⟨rfl, hb1⟩)
          go_ret
          exact ⟨ret_int (idxOf_at hlt hid.out HZ.out).symm, hbel.trans (hb1.mono hbel.size)⟩
      · have hkl : k = xs.length := by omega
        subst hkl
        clear hp hc
        go_wp2
        go_ret
        exact ⟨ret_int (idxOf_none hid.out).symm, hbel⟩

theorem tooLong_contains (a : Option Addr) (xs : List ByteArray) (cap : Nat) (p : ByteArray → Bool) (w : World) (hl : xs.length ≤ maxLen) (hx : Texts w a xs)
    (hp : ∀ x w', Below w.heap.size w w' → Calls Tryz.prog 82 #[.string x] w' fun e w'' => e = .returned (.bool (p x)) ∧ Below w'.heap.size w' w'') :
    Calls Tryz.prog 84 #[.slice a xs.length cap, .func (.func 82) #[] #[]] w fun e w' => e = .returned (.bool (xs.any p)) ∧ Below w.heap.size w w' := by
  have hI := tooLong_index a xs cap  p w hl hx hp
  have E := idxOf_any p xs
  generalize idxOf p xs = z at hI E
  rw [← E]
  clear hx hl hp E
  go_enter Tryz.func84, Tryz.ntmps84
  go_wp2_with (go_at_call 120; refine hI.mono ?_; rintro e w' ⟨rfl, hb⟩)
  go_ret
  exact ⟨rfl, hb⟩

set_option maxHeartbeats 800000 in
theorem noNonce_index (a : Option Addr) (xs : List Int) (cap : Nat) (p : Int → Bool) (w : World) (hl : xs.length ≤ maxLen) (hx : Ints w a xs)
    (hp : ∀ x w', Below w.heap.size w w' → Calls Tryz.prog 83 #[.int .i64 x] w' fun e w'' => e = .returned (.bool (p x)) ∧ Below w'.heap.size w' w'') :
    Calls Tryz.prog 121 #[.slice a xs.length cap, .func (.func 83) #[] #[]] w fun e w' => e = .returned (.int .i64 (idxOf p xs)) ∧ Below w.heap.size w w' := by
  unfold maxLen at hl
  rcases hx with rfl | ⟨b, off, rfl, hc⟩
  · clear hp
    go_enter Tryz.func121, Tryz.ntmps121
    go_wp2
    refine wp_loop_rounds 1 ?_
    rw [rounds_succ]
    go_wp2
    go_ret
    exact ⟨rfl, Below.refl _ _⟩
  · go_enter Tryz.func121, Tryz.ntmps121
    go_wp2
    go_loopw [8] (fun i wr => ∃ k : Nat, k ≤ xs.length ∧ i = .int .i64 k ∧ Below w.heap.size w wr ∧ Hid (∀ j, j < k → p (xs.getD j default) = false)) (fun i _ => xs.length - (intOf i).toNat)
    case atStart => exact ⟨0, Nat.zero_le _, rfl, Below.refl _ _, fun j hj => absurd hj (by omega)⟩
    case round =>
      obtain ⟨k, hk, rfl, hbel, hid⟩ := hrel
      by_cases hlt : k < xs.length
      · have k0 := hc k hlt
        obtain ⟨P, hP⟩ : ∃ P, xs.getD k 0 = P := ⟨_, rfl⟩
        rw [hP] at k0
        have HP : Hid (xs.getD k default = P) := hP
        have hcall := hp P
        clear hP hc hp
        have bl : b < w.heap.size := lt_of_cell k0
        have l0 : wr.cell? ⟨b, off + k, none⟩ = some (.int .i64 P) := (hbel.cell (p := ⟨b, _, none⟩) bl).trans k0
        clear k0 bl
        obtain ⟨z, hz⟩ : ∃ z, p P = z := ⟨_, rfl⟩
        rw [hz] at hcall
        have HZ : Hid (p (xs.getD k default) = z) := by rw [HP.out]; exact hz
        clear hz
        cases z with
        | false =>
          go_wp2_with (go_at_call 83; refine (hcall _ hbel).mono ?_; rintro e w1 ⟨rfl, hb1⟩)
          go_roundw
          case rel => exact ⟨k + 1, by omega, by go_num, hbel.trans (hb1.mono hbel.size), snoc_false hid HZ.out⟩
          case measure => simp [intOf]; omega
        | true =>
          go_wp2_with (go_at_call 83; refine (hcall _ hbel).mono ?_; rintro e w1 ⟨rfl, hb1⟩)
          go_ret
          exact ⟨ret_int (idxOf_at hlt hid.out HZ.out).symm, hbel.trans (hb1.mono hbel.size)⟩
      · have hkl : k = xs.length := by omega
        subst hkl
        clear hp hc
        go_wp2
        go_ret
        exact ⟨ret_int (idxOf_none hid.out).symm, hbel⟩

theorem noNonce_contains (a : Option Addr) (xs : List Int) (cap : Nat) (p : Int → Bool) (w : World) (hl : xs.length ≤ maxLen) (hx : Ints w a xs)
    (hp : ∀ x w', Below w.heap.size w w' → Calls Tryz.prog 83 #[.int .i64 x] w' fun e w'' => e = .returned (.bool (p x)) ∧ Below w'.heap.size w' w'') :
    Calls Tryz.prog 85 #[.slice a xs.length cap, .func (.func 83) #[] #[]] w fun e w' => e = .returned (.bool (xs.any p)) ∧ Below w.heap.size w w' := by
  have hI := noNonce_index a xs cap  p w hl hx hp
  have E := idxOf_any p xs
  generalize idxOf p xs = z at hI E
  rw [← E]
  clear hx hl hp E
  go_enter Tryz.func85, Tryz.ntmps85
  go_wp2_with (go_at_call 121; refine hI.mono ?_; rintro e w' ⟨rfl, hb⟩)
  go_ret
  exact ⟨rfl, hb⟩

theorem box2 {x v : World} {a b : Value} {t : TypeId} (h : Below (x.alloc (.cells #[a, b] t)).heap.size (x.alloc (.cells #[a, b] t)) v) :
    v.cell? ⟨x.heap.size, 0, none⟩ = some a ∧ v.cell? ⟨x.heap.size, 1, none⟩ = some b ∧ x.heap.size < v.heap.size := by
  refine ⟨(h.cell (p := ⟨x.heap.size, 0, none⟩) (by simp)).trans ?_, (h.cell (p := ⟨x.heap.size, 1, none⟩) (by simp)).trans ?_, by have := h.size; simp at this; omega⟩
  · rw [World.cell?_alloc_at _ _ _ _ rfl]; rfl
  · rw [World.cell?_alloc_at _ _ _ _ rfl]; rfl

set_option maxRecDepth 100000 in
set_option maxHeartbeats 1600000 in
theorem checkC_any (C : Cv) (w : World) (hC : ChalAt w C) :
    Calls Tryz.prog 29 #[C.val] w fun x w' => x = .returned (.int .i64 (chF C.tr C.ns)) ∧ Below w.heap.size w w' := by
  have h1 := fun w' (h : Below w.heap.size w w') => tooLong_contains C.ta C.tr C.tcap tooLong w' hC.ok.trl (hC.tr.below h) (fun s w'' _ => tooLong_any s w'')
  have h2 := fun w' (h : Below w.heap.size w w') => noNonce_contains C.na C.ns C.ncap noNonce w' hC.ok.nsl (hC.ns.below h) (fun s w'' _ => noNonce_any s w'')
  have B1 : ∀ o, Hid (Below w.heap.size w (w.alloc o)) := fun o => (Below.refl _ _).alloc (Nat.le_refl _) _
  have hl1 := hC.ok.trl
  have hl2 := hC.ok.nsl
  unfold maxLen at hl1 hl2
  unfold Cv.val chF
  clear hC
  obtain ⟨ta, tr, tcap, na, ns, ncap⟩ := C
  dsimp only at *
  by_cases k1 : 4 < tr.length
  · rw [if_pos (.inl k1)]
    clear h1 h2
    go_enter Tryz.func29, Tryz.ntmps29
    go_wp2
    go_ret
    exact ⟨rfl, (B1 _).out⟩
  · by_cases k2 : 20 < ns.length
    · rw [if_pos (.inr k2)]
      clear h1 h2
      go_enter Tryz.func29, Tryz.ntmps29
      go_wp2
      go_ret
      exact ⟨rfl, (B1 _).out⟩
    · rw [if_neg (by omega)]
      generalize tr.any tooLong = z1 at h1
      generalize ns.any noNonce = z2 at h2
      cases z1 with
      | true =>
        clear h2
        go_enter Tryz.func29, Tryz.ntmps29
        go_wp2_with (go_at_call 84; refine (h1 _ (B1 _).out).mono ?_; rintro x w1 ⟨rfl, hb1⟩)
        go_ret
        exact ⟨rfl, (B1 _).out.trans (hb1.mono (by simp))⟩
      | false =>
        cases z2
        all_goals
          go_enter Tryz.func29, Tryz.ntmps29
          go_wp2_with (first
            | (go_at_call 84; refine (h1 _ (B1 _).out).mono ?_; rintro x w1 ⟨rfl, hb1⟩; obtain ⟨m0, m1, ml⟩ := box2 hb1; have HB1 : Hid (Below w.heap.size w w1) := (B1 _).out.trans (hb1.mono (by simp)); clear hb1)
            | (go_at_call 85; refine (h2 _ HB1.out).mono ?_; rintro x w2 ⟨rfl, hb2⟩)
            | fail)
          go_ret
          exact ⟨rfl, HB1.out.trans (hb2.mono HB1.out.size)⟩

end Go.Proofs.YtdngbojbpmdegaaGreatDoor

namespace Go.Proofs.YtdngbojbpmdegaaGreatDoor
open Go.RowKit

theorem bp_gen {P : Program} {f : Func} {Q : Ending → World → Prop} {ex : Exit} {a : Act} {W : World} (h : ∀ W9, W9 = W → bodyPost P f Q ex a W9) : bodyPost P f Q ex a W := h W rfl
def sets (W : World) (R : Nat) (v0 v1 : Value) : World := (W.setCell ⟨R, 0, none⟩ v0).setCell ⟨R, 1, none⟩ v1
theorem sets_cells {W : World} {R : Nat} {v0 v1 x0 x1 : Value} (h0 : W.cell? ⟨R, 0, none⟩ = some x0) (h1 : W.cell? ⟨R, 1, none⟩ = some x1) : (sets W R v0 v1).cell? ⟨R, 0, none⟩ = some v0 ∧ (sets W R v0 v1).cell? ⟨R, 1, none⟩ = some v1 := by
  refine ⟨?_, ?_⟩
  · unfold sets
    rw [World.cell?_setCell_other _ _ _ _ (by simp)]
    exact World.cell?_setCell_same _ _ _ h0
  · exact World.cell?_setCell_same _ _ _ ((World.cell?_setCell_other _ _ _ _ (by simp)).trans h1)
theorem blk2 {w : World} {b : Nat} {v0 v1 x0 x1 : Value} (h0 : w.cell? ⟨b, 0, none⟩ = some x0) (h1 : w.cell? ⟨b, 1, none⟩ = some x1) :
    ((w.setCell ⟨b, 0, none⟩ v0).setCell ⟨b, 1, none⟩ v1).cell? ⟨b, 0, none⟩ = some v0 ∧ ((w.setCell ⟨b, 0, none⟩ v0).setCell ⟨b, 1, none⟩ v1).cell? ⟨b, 1, none⟩ = some v1 := sets_cells h0 h1
theorem sets_below {w W : World} {B R : Nat} {v0 v1 : Value} (hR : B ≤ R) (h : Below B w W) : Below B w (sets W R v0 v1) := (h.setCell (by simpa using hR) _).setCell (by simpa using hR) _
theorem two0 {w W W9 : World} {R : Nat} {v0 v1 x0 x1 : Value} (hR : w.heap.size ≤ R) (h0 : W.cell? ⟨R, 0, none⟩ = some x0) (h1 : W.cell? ⟨R, 1, none⟩ = some x1) (hb : Below w.heap.size w W) (h9 : W9 = (sets W R v0 v1).drew) :
    W9.cell? ⟨R, 0, none⟩ = some v0 ∧ W9.cell? ⟨R, 1, none⟩ = some v1 ∧ Below w.heap.size w W9 := by
  subst h9
  exact ⟨(sets_cells h0 h1).1, (sets_cells h0 h1).2, (sets_below hR hb).drew⟩
end Go.Proofs.YtdngbojbpmdegaaGreatDoor
