/-
  What the call has (riddletop) answers: whether an enclave has just the pages of an image. It turns nothing that was in memory. The conditions: the cells are there, and no frame and no page has too many words. For every list of raw things, every raw thing and every number, TopBuilt answers true: an image that is built as it is planned is measured as it is expected, wherever it is put. No condition but that the library's tables are as the program's text lays them, which the card ties.
-/
import Derived.Test.YtdngbojbpmdegaaGreatDoorJRunMath
import Derived.Test.YtdngbojbpmdegaaGreatDoorJActs
import Derived.Deep.RegionHeld3
import Derived.Deep.DeepCutAuto
import Derived.BigQuiet
import Derived.Test.YtdngbojbpmdegaaGreatDoorJStarted
import Derived.Test.YtdngbojbpmdegaaGreatDoorJKeepMath
import Derived.Test.YtdngbojbpmdegaaGreatDoorJOpens
namespace Go.Proofs.YtdngbojbpmdegaaGreatDoor
open Go.RowKit
set_option maxRecDepth 100000
set_option linter.unusedVariables false

/-- has the enclave this page? -/
def hasP (frs : List Fr) (e : Int) (p : Pg) : Bool := decide (0 ≤ placeOf frs e p.at_) && ((frs.getD (placeOf frs e p.at_).toNat default).r == p.r) && decide ((frs.getD (placeOf frs e p.at_).toNat default).ws = p.ws)
def hasB (frs : List Fr) (e : Int) (ps : List Pg) : Bool := ps.all (hasP frs e) && (frs.countP (fun f => f.o == e) == ps.length)
theorem count_succ (l : List Fr) (e : Int) (k : Nat) (hk : k < l.length) : (l.take (k + 1)).countP (fun f => f.o == e) = (l.take k).countP (fun f => f.o == e) + if (l.getD k default).o = e then 1 else 0 := by
  rw [List.take_succ_eq_append_getElem hk, List.countP_append]
  have : l[k] = l.getD k default := by simp [List.getD_eq_getElem?_getD, hk]
  rw [this]
  rw [List.countP_cons, List.countP_nil]
  by_cases h : (l.getD k default).o = e
  · rw [if_pos h, if_pos (beq_iff_eq.2 h)]
  · rw [if_neg h, if_neg (fun q => h (beq_iff_eq.1 q))]

theorem all_succ (l : List Pg) (q : Pg → Bool) (k : Nat) (hk : k < l.length) : (l.take (k + 1)).all q = ((l.take k).all q && q (l.getD k default)) := by
  rw [List.take_succ_eq_append_getElem hk, List.all_append]
  have : l[k] = l.getD k default := by simp [List.getD_eq_getElem?_getD, hk]
  rw [this]
  simp
theorem all_bad (l : List Pg) (q : Pg → Bool) (k : Nat) (hk : k < l.length) (h : q (l.getD k default) = false) : l.all q = false := by
  rw [List.all_eq_false]
  exact ⟨l.getD k default, by simp [List.getD_eq_getElem?_getD, hk], by rw [h]; decide⟩
theorem place_lt2 (frs : List Fr) (e a : Int) : placeOf frs e a = -1 ∨ ∃ k : Nat, placeOf frs e a = (k : Int) ∧ k < frs.length := by
  unfold placeOf idxOf
  cases h : frs.findIdx? (plB e a) with
  | none => left; rfl
  | some i => exact .inr ⟨i, rfl, (List.findIdx?_eq_some_iff_getElem.1 h).1⟩

set_option maxHeartbeats 8000000 in
theorem has_any (M : Mv) (e : Int) (a : Option Addr) (ps : List Pg) (cap : Nat) (w : World) (hM : MachAt w M) (hl24 : M.frs.length = 24) (hl : ps.length ≤ 1000) (hx : PagesAt w a ps) :
    Calls Tryz.prog 34 #[M.val, .int .i64 e, .slice a ps.length cap] w fun x w' => x = .returned (.bool (hasB M.frs e ps)) ∧ Below w.heap.size w w' := by
  have HPl0 := fun (w' : World) (at_ : Int) (hb : Below w.heap.size w w') => place_any M e at_ w' (hM.below hb)
  unfold Mv.val at HPl0 ⊢
  obtain ⟨fa, frs, fcap, ea, ens, ecap, qa, qus, qcap⟩ := M
  dsimp only at hl24 HPl0 ⊢
  have HL24 : Hid (frs.length = 24) := hl24
  rw [hl24] at HPl0 ⊢
  have HMw : Hid (MachAt w ⟨fa, frs, fcap, ea, ens, ecap, qa, qus, qcap⟩) := hM
  clear hM hl24
  generalize ens.length = ne at *
  generalize qus.length = nq at *
  obtain ⟨W1, hW1⟩ : ∃ W1, Hid (W1 = w.alloc (.cells #[.slice fa 24 fcap, .slice ea ne ecap, .slice qa nq qcap] 29)) := ⟨_, rfl⟩
  obtain ⟨P, hP⟩ : ∃ P, Hid (P = w.heap.size) := ⟨_, rfl⟩
  have p0 : Hid (W1.cell? ⟨P, 0, none⟩ = some (.slice fa 24 fcap)) := show _ = _ by rw [hW1.out, hP.out]; exact World.cell?_alloc_at _ _ _ _ rfl
  have p1 : Hid (W1.cell? ⟨P, 1, none⟩ = some (.slice ea ne ecap)) := show _ = _ by rw [hW1.out, hP.out]; exact World.cell?_alloc_at _ _ _ _ rfl
  have p2 : Hid (W1.cell? ⟨P, 2, none⟩ = some (.slice qa nq qcap)) := show _ = _ by rw [hW1.out, hP.out]; exact World.cell?_alloc_at _ _ _ _ rfl
  have BW : Hid (Below w.heap.size w W1) := show Below _ _ _ by rw [hW1.out]; exact (Below.refl _ _).alloc (Nat.le_refl _) _
  have HM1 : Hid (MachAt W1 ⟨fa, frs, fcap, ea, ens, ecap, qa, qus, qcap⟩) := HMw.out.below BW.out
  have HX1 : Hid (PagesAt W1 a ps) := hx.below BW.out
  have HPl : Hid (_) := HPl0
  have hlP : Hid (P < W1.heap.size) := show _ < _ by rw [hW1.out, hP.out]; simp
  clear hx HMw HPl0
  go_enter Tryz.func34, Tryz.ntmps34
  go_upto_region 2 with fail
  rw [← hW1.out, ← hP.out]
  clear hW1 hP
  have q0 := p0.out
  have lP := hlP.out
  go_wp2
  clear q0 lP
  go_loopw [7, 16] (fun v i wr => ∃ k : Nat, k ≤ 24 ∧ i = .int .i64 k ∧ v = .int .i64 (((frs.take k).countP (fun f => f.o == e) : Nat) : Int) ∧ Below W1.heap.size W1 wr) (fun _ i _ => 24 - (intOf i).toNat)
  case atStart => exact ⟨0, by omega, rfl, rfl, Below.refl _ _⟩
  case round =>
    obtain ⟨k, hk, rfl, rfl, hbel⟩ := hrel
    by_cases hlt : k < 24
    · obtain ⟨fb, fo, hfa, c0, c1, c2, c3⟩ := (HM1.out.below hbel).frame (j := k) (by dsimp only; rw [HL24.out]; exact hlt)
      dsimp only at hfa c0 c1 c2 c3
      subst hfa
      have HS : Hid _ := count_succ frs e k (by rw [HL24.out]; exact hlt)
      have hcl : (frs.take k).countP (fun f => f.o == e) ≤ 24 := Nat.le_trans List.countP_le_length (by simp; omega)
      generalize frs.getD k default = F at c0 c1 c2 c3 HS
      obtain ⟨o, fat, r, wa, ws, wcap⟩ := F
      dsimp only at c0 c1 c2 c3 HS
      generalize (frs.take k).countP (fun f => f.o == e) = n at *
      have hbb : fb < wr.heap.size := lt_of_cell c0
      generalize ws.length = nw at *
      have hkI : (k : Int) < 24 := by omega
      by_cases ho : o = e
      · have HS1 : Hid _ := HS.out.trans (by rw [if_pos ho])
        clear HS
        have to_ : (o == e) = true := by simpa using ho
        clear ho
        go_wp2
        go_roundw
        case rel => exact ⟨k + 1, by omega, by go_num, by rw [HS1.out]; go_num, hbel.alloc hbel.size _⟩
        case measure => simp [intOf]; omega
      · have HS1 : Hid _ := HS.out.trans (by rw [if_neg ho])
        clear HS
        have to_ : (o == e) = false := by simpa using ho
        clear ho
        go_wp2
        go_roundw
        case rel => exact ⟨k + 1, by omega, by go_num, by rw [HS1.out]; rfl, hbel.alloc hbel.size _⟩
        case measure => simp [intOf]; omega
    · have hge : ¬ ((k : Int) < 24) := by omega
      have hk24 : k = 24 := by omega
      have HT : Hid (frs.take k = frs) := show _ = _ by rw [hk24]; exact List.take_of_length_le (by rw [HL24.out]; omega)
      rw [HT.out]
      clear hk hlt hk24
      rename World => Wa
      have hlps : (ps.length : Int) ≤ 1000 := by omega
      obtain ⟨cn, hcn⟩ : ∃ cn, Hid (cn = frs.countP (fun f => f.o == e)) := ⟨_, rfl⟩
      rw [← hcn.out]
      go_wp2
      go_loopw [29] (fun i wr => ∃ j : Nat, j ≤ ps.length ∧ i = .int .i64 j ∧ Below W1.heap.size W1 wr ∧ Hid ((ps.take j).all (hasP frs e) = true)) (fun i _ => ps.length - (intOf i).toNat)
      case atStart => exact ⟨0, Nat.zero_le _, rfl, hbel, rfl⟩
      case round =>
        clear hbel
        obtain ⟨j, hj, rfl, hbel, hall⟩ := hrel
        by_cases hlt : j < ps.length
        · have hX := HX1.out.below hbel
          rcases HX1.out.at_ with rfl | ⟨b, off, rfl, _⟩
          · simp at hlt
          · obtain ⟨c0, c1, c2⟩ := hX.cells hlt
            have okp := hX.ok j hlt
            have HS : Hid _ := all_succ ps (hasP frs e) j hlt
            have HBD : Hid (hasP frs e (ps.getD j default) = false → hasB frs e ps = false) := fun h => by unfold hasB; rw [all_bad ps _ j hlt h]; rfl
            generalize ps.getD j default = Q at c0 c1 c2 okp HS HBD
            obtain ⟨pat, pr, pa, pws, pcap⟩ := Q
            dsimp only at c0 c1 c2
            have HI : Hid (Ints wr pa pws) := okp.ints
            have HIL : Hid (pws.length ≤ maxLen) := okp.len
            have lta := lt_of_cell c0
            have hkI : (j : Int) < (ps.length : Int) := by omega
            obtain ⟨W2, hW2⟩ : ∃ W2, Hid (W2 = wr.alloc (.cells #[.int .i64 pat, .int .i64 pr, .slice pa pws.length pcap] 116)) := ⟨_, rfl⟩
            have B2 : Hid (Below wr.heap.size wr W2) := show Below _ _ _ by rw [hW2.out]; exact (Below.refl _ _).alloc (Nat.le_refl _) _
            have HBP : Hid (Below W1.heap.size W1 W2) := show Below _ _ _ from hbel.trans (B2.out.mono hbel.size)
            obtain ⟨G, hG⟩ : ∃ G, Hid (G = wr.heap.size) := ⟨_, rfl⟩
            have g0 : W2.cell? ⟨G, 0, none⟩ = some (.int .i64 pat) := by rw [hW2.out, hG.out]; exact World.cell?_alloc_at _ _ _ _ rfl
            have g1 : W2.cell? ⟨G, 1, none⟩ = some (.int .i64 pr) := by rw [hW2.out, hG.out]; exact World.cell?_alloc_at _ _ _ _ rfl
            have g2 : W2.cell? ⟨G, 2, none⟩ = some (.slice pa pws.length pcap) := by rw [hW2.out, hG.out]; exact World.cell?_alloc_at _ _ _ _ rfl
            have m0 := (HBP.out.cell (p := ⟨P, 0, none⟩) hlP.out).trans p0.out
            have m1 := (HBP.out.cell (p := ⟨P, 1, none⟩) hlP.out).trans p1.out
            have m2 := (HBP.out.cell (p := ⟨P, 2, none⟩) hlP.out).trans p2.out
            have lG := lt_of_cell g0
            have lP := lt_of_cell m0
            go_upto_region 11 with fail
            rw [← hW2.out, ← hG.out]
            clear hW2 c0 c1 c2 hX okp
            have G0 : Hid (_) := And.intro g1 g2
            have hPl := HPl.out W2 pat (BW.out.trans (HBP.out.mono BW.out.size))
            have hcase := place_lt2 frs e pat
            have HB3 : Hid (hasP frs e ⟨pat, pr, pa, pws, pcap⟩ = (decide (0 ≤ placeOf frs e pat) && ((frs.getD (placeOf frs e pat).toNat default).r == pr) && decide ((frs.getD (placeOf frs e pat).toNat default).ws = pws))) := rfl
            rcases hcase with hp | ⟨k, hp, hk⟩
            · rw [hp] at hPl HB3
              have HF : Hid (hasB frs e ps = false) := HBD.out (by rw [HB3.out]; rfl)
              clear hp HB3
              go_upto_region 12 with (go_at_call 22; refine hPl.mono ?_; clear hPl; rintro x w3 ⟨rfl, hb3⟩)
              go_quiet (fail)
              go_wp2
              go_ret
              exact ⟨ret_bool HF.out.symm, below_drewN (BW.out.trans (HBP.out.mono BW.out.size) |>.trans (hb3.mono (BW.out.trans (HBP.out.mono BW.out.size)).size)) _⟩
            · rw [hp] at hPl HB3
              rw [Int.toNat_natCast] at HB3
              clear hp
              go_upto_region 12 with (go_at_call 22; refine hPl.mono ?_; clear hPl; rintro x w3 ⟨rfl, hb3⟩)
              have HBA : Hid (Below W1.heap.size W1 w3) := show Below _ _ _ from HBP.out.trans (hb3.mono HBP.out.size)
              obtain ⟨fb, fo, hfa, f0, f1, f2, f3⟩ := (HM1.out.below HBA.out).frame (j := k) hk
              have okf := (HM1.out.below HBA.out).frok k hk
              dsimp only at hfa f0 f1 f2 f3 okf
              subst hfa
              generalize frs.getD k default = F at f0 f1 f2 f3 okf HB3
              obtain ⟨o, fat, r, wa, ws, wcap⟩ := F
              dsimp only at f0 f1 f2 f3 HB3
              have hE := fun n => equal_any wa pa ws pws wcap pcap (w3.drewN n) okf.len HIL.out (okf.ints.below (below_drewN (Below.refl _ _) n)) (HI.out.below (below_drewN (B2.out.trans (hb3.mono B2.out.size)) n))
              have e0 := (hb3.cell (p := ⟨P, 0, none⟩) lP).trans m0
              have e1 := (hb3.cell (p := ⟨G, 1, none⟩) lG).trans g1
              have e2 := (hb3.cell (p := ⟨G, 2, none⟩) lG).trans g2
              have l1 := lt_of_cell e0
              have l2 := lt_of_cell e1
              have l3 := lt_of_cell f0
              have hk24 : (k : Int) < 24 := by have := HL24.out; omega
              have tk0 : decide ((k : Int) < 0) = false := decide_eq_false (by omega)
              have tk1 : decide ((k : Int) ≥ 24) = false := decide_eq_false (by omega)
              have tk2 : decide (24 ≤ (k : Int)) = false := decide_eq_false (by omega)
              clear okf m0 m1 m2 g0 g1 g2 hb3
              by_cases hr : r = pr
              · have tr : (r != pr) = false := by simpa using hr
                have tr2 : (r == pr) = true := by simpa using hr
                rw [tr2] at HB3
                clear hr tr2
                obtain ⟨z, hz⟩ : ∃ z, z = decide (ws = pws) := ⟨_, rfl⟩
                rw [← hz] at hE HB3
                clear hz
                generalize pws.length = np at *
                generalize ws.length = nw at *
                cases z with
                | true =>
                  have HT : Hid ((ps.take (j + 1)).all (hasP frs e) = true) := show _ = _ by rw [HS.out, hall.out, HB3.out]; simp
                  go_quiet ((go_at_call 30; exact Calls.quiet_of (hE _)))
                  go_wp2
                  go_roundw
                  case rel => exact ⟨j + 1, by omega, by go_num, below_drewN HBA.out _, HT⟩
                  case measure => simp [intOf]; omega
                | false =>
                  have HF : Hid (hasB frs e ps = false) := HBD.out (by rw [HB3.out]; simp)
                  go_quiet ((go_at_call 30; exact Calls.quiet_of (hE _)))
                  go_wp2
                  go_ret
                  exact ⟨ret_bool HF.out.symm, BW.out.trans ((below_drewN HBA.out _).mono BW.out.size)⟩
              · have tr : (r != pr) = true := by simpa using hr
                have tr2 : (r == pr) = false := by simpa using hr
                rw [tr2] at HB3
                have HF : Hid (hasB frs e ps = false) := HBD.out (by rw [HB3.out]; simp)
                clear hr tr2 hE
                go_quiet (fail)
                go_wp2
                go_ret
                exact ⟨ret_bool HF.out.symm, BW.out.trans ((below_drewN HBA.out _).mono BW.out.size)⟩
        · have hgj : ¬ ((j : Int) < (ps.length : Int)) := by omega
          have hjl : j = ps.length := by omega
          have HA : Hid (ps.all (hasP frs e) = true) := show _ = _ by
            have := hall.out
            rw [hjl, List.take_of_length_le (Nat.le_refl _)] at this
            exact this
          have HF : Hid (hasB frs e ps = ((cn : Int) == (ps.length : Int))) := show _ = _ by
            unfold hasB
            rw [HA.out, ← hcn.out, Bool.true_and]
            by_cases q : cn = ps.length
            · rw [q]; simp
            · rw [beq_eq_false_iff_ne.2 q, beq_eq_false_iff_ne.2 (by omega)]
          clear hall HA hjl hlt HPl
          go_wp2
          go_ret
          exact ⟨ret_bool HF.out.symm, BW.out.trans (hbel.mono BW.out.size)⟩

end Go.Proofs.YtdngbojbpmdegaaGreatDoor

namespace Go.Proofs.YtdngbojbpmdegaaGreatDoor
open Go.ChangeShapes Go.WideShapes Go.ChangeAt Go.RowKit
set_option linter.unusedVariables false


theorem hasM_same {M N : Mv} (h : M.Same N) {e : Int} {ps : List Pg} (k : hasM N e ps) : hasM M e ps := by
  refine ⟨(countP_upto h.len fun j hj => ?_).trans k.1, fun p hp => ?_⟩
  · unfold ownB; rw [(h.fr j hj).1]
  · obtain ⟨i, hi, q1, q2, q3⟩ := k.2 p hp
    exact ⟨i, hi, by rw [placeOf_same h]; exact q1, by rw [same_r h]; exact q2, by rw [ws_same h]; exact q3⟩
theorem hasB_of {M : Mv} {e : Int} {ps : List Pg} (k : hasM M e ps) : hasB M.frs e ps = true := by
  unfold hasB
  rw [Bool.and_eq_true]
  refine ⟨List.all_eq_true.2 fun p hp => ?_, beq_iff_eq.2 k.1⟩
  obtain ⟨i, hi, q1, q2, q3⟩ := k.2 p hp
  unfold hasP
  rw [q1, Int.toNat_natCast, q2, q3]
  simp

set_option maxRecDepth 100000 in
set_option maxHeartbeats 8000000 in
theorem topBuilt_walk (a : Option Addr) (rs : List Rw) (cap : Nat) (R : Rw) (f : Int) (w : World) (hl : rs.length ≤ maxLen) (hx : RawsAt w a rs) (hR : R.Ok) (wf : (Lit.int .i64 f).wf = true) (ht : Tab w) :
    Calls Tryz.prog 7 #[.slice a rs.length cap, R.val, .int .i64 f] w fun e w' => e = .returned (.bool true) ∧ Below w.heap.size w w' := by
  obtain ⟨rk, ra, rb, rc⟩ := R
  obtain ⟨W2, hW2⟩ : ∃ W2, Hid (W2 = w.alloc (.cells #[.int .i64 rk, .int .i64 ra, .int .i64 rb, .int .i64 rc] 61)) := ⟨_, rfl⟩
  have B2 : Hid (Below w.heap.size w W2) := show Below _ _ _ by rw [hW2.out]; exact (Below.refl _ _).alloc (Nat.le_refl _) _
  have hS := started_ok a rs cap ⟨rk, ra, rb, rc⟩ f W2 hl (hx.below B2.out) hR wf (ht.below B2.out)
  unfold Rw.val at hS ⊢
  dsimp only at hS ⊢
  have r0 : W2.cell? ⟨w.heap.size, 0, none⟩ = some (.int .i64 rk) := by rw [hW2.out, World.cell?_alloc_at _ _ _ _ rfl]; rfl
  have r1 : W2.cell? ⟨w.heap.size, 1, none⟩ = some (.int .i64 ra) := by rw [hW2.out, World.cell?_alloc_at _ _ _ _ rfl]; rfl
  have r2 : W2.cell? ⟨w.heap.size, 2, none⟩ = some (.int .i64 rb) := by rw [hW2.out, World.cell?_alloc_at _ _ _ _ rfl]; rfl
  have r3 : W2.cell? ⟨w.heap.size, 3, none⟩ = some (.int .i64 rc) := by rw [hW2.out, World.cell?_alloc_at _ _ _ _ rfl]; rfl
  have lt0 := lt_of_cell r0
  have HT : Hid (Tab w) := ht
  clear hx hR ht wf
  unfold StartSaid at hS
  go_enter Tryz.func7, Tryz.ntmps7
  go_upto_region 1 with fail
  rw [← hW2.out]
  clear hW2
  go_upto_region 2 with (go_at_call 32; refine hS.mono ?_; clear hS; rintro e w3 ⟨b, ps, c, M, N, rfl, hpa, hif, h4, hMs, hPN, hTN, hO, hb3⟩; unfold Mv.val)
  have hg := good_iff.1 hPN.good
  have h8 := image_len hif
  have hE : N.ens.getD 0 default = ⟨2, txt (expL ps), 0, 0, 0, 0, 0⟩ := by rw [hPN.ens]; rfl
  have hHas := hasB_of (hasM_same hMs (told_has hPN.good hTN (m := 0) (by omega) hif (by rw [hE]) (by rw [hE])))
  have hHas' : hasB M.frs 1 ps = true := hHas
  have h24 : M.frs.length = 24 := hMs.len.trans hg.s1
  have h4e : M.ens.length = 4 := (congrArg List.length hMs.en).trans hg.s2
  have hEM : M.ens.getD 0 default = ⟨2, txt (expL ps), 0, 0, 0, 0, 0⟩ := by rw [hMs.en]; exact hE
  obtain ⟨fa, frs, fcap, ea, ens, ecap, qa, qus, qcap⟩ := M
  dsimp only at hMs hO hHas' h24 h4e hEM ⊢
  rw [h24, h4e]
  obtain ⟨W4, hW4⟩ : ∃ W4, Hid (W4 = w3.alloc (.cells #[.slice fa 24 fcap, .slice ea 4 ecap, .slice qa qus.length qcap] 29)) := ⟨_, rfl⟩
  have c0 : W4.cell? ⟨w3.heap.size, 0, none⟩ = some (.slice fa 24 fcap) := by rw [hW4.out, World.cell?_alloc_at _ _ _ _ rfl]; rfl
  have c1 : W4.cell? ⟨w3.heap.size, 1, none⟩ = some (.slice ea 4 ecap) := by rw [hW4.out, World.cell?_alloc_at _ _ _ _ rfl]; rfl
  have c2 : W4.cell? ⟨w3.heap.size, 2, none⟩ = some (.slice qa qus.length qcap) := by rw [hW4.out, World.cell?_alloc_at _ _ _ _ rfl]; rfl
  have ltP := lt_of_cell c0
  have B4 : Hid (Below w3.heap.size w3 W4) := show Below _ _ _ by rw [hW4.out]; exact (Below.refl _ _).alloc (Nat.le_refl _) _
  have BW : Hid (Below w.heap.size w W4) := show Below _ _ _ from (B2.out.trans (hb3.mono B2.out.size)).trans (B4.out.mono (Nat.le_trans B2.out.size hb3.size))
  have hX := expect_any b ps c W4 (by unfold maxLen; omega) (hpa.below B4.out) (HT.out.below BW.out)
  unfold expV at hX
  rw [if_pos hif] at hX
  have HM4 : Hid (MachAt W4 ⟨fa, frs, fcap, ea, ens, ecap, qa, qus, qcap⟩) := (hO.below B4.out).at_
  have HP4 : Hid (_) := hpa.below B4.out
  have HEM : Hid (_) := hEM
  have HHB : Hid (_) := hHas'
  have H24 : Hid (_) := And.intro h24 h4e
  obtain ⟨tx, htx⟩ : ∃ tx, Hid (tx = txt (expL ps)) := ⟨_, rfl⟩
  rw [← htx.out] at hX HEM
  rw [← hW4.out]
  obtain ⟨P, hP⟩ : ∃ P, Hid (P = w3.heap.size) := ⟨_, rfl⟩
  rw [← hP.out] at c0 c1 c2 ltP ⊢
  clear hW4 hP hMs hO hHas hHas' h24 h4e hEM hE hg hPN hTN hpa hb3 htx r0 r1 r2 r3
  go_upto_region 3 with (go_at_call 33; refine hX.mono ?_; clear hX; rintro e w5 ⟨rfl, hb5⟩)
  obtain ⟨eb, eo, hea, k0, k1, _⟩ := (HM4.out.below hb5).enclave (j := 0) (by dsimp only; rw [H24.out.2]; omega)
  dsimp only at hea
  rw [HEM.out] at k0 k1
  subst hea
  dsimp only at k0 k1
  simp only [Nat.zero_mul, Nat.add_zero] at k0 k1
  have d0 := (hb5.cell (p := ⟨P, 0, none⟩) ltP).trans c0
  have d1 := (hb5.cell (p := ⟨P, 1, none⟩) ltP).trans c1
  have d2 := (hb5.cell (p := ⟨P, 2, none⟩) ltP).trans c2
  have ltQ := lt_of_cell d0
  have leb := lt_of_cell k0
  have hq : (tx.toList == tx.toList) = true := beq_self_eq_true _
  have hH := fun w' (hb : Below w5.heap.size w5 w') => has_any ⟨fa, frs, fcap, some ⟨eb, eo, none⟩, ens, ecap, qa, qus, qcap⟩ 1 b ps c w' ((HM4.out.below hb5).below hb) H24.out.1 (by omega) ((HP4.out.below hb5).below hb)
  unfold Mv.val at hH
  dsimp only at hH
  rw [HHB.out, H24.out.1, H24.out.2] at hH
  clear c0 c1 c2 ltP
  go_wp2_with (go_at_call 34; refine (hH _ (by first | exact Below.refl _ _ | exact (Below.refl _ _).drew)).mono ?_; clear hH; rintro e w6 ⟨rfl, hb6⟩)
  go_ret
  exact ⟨rfl, (BW.out.trans (hb5.mono BW.out.size)).trans (hb6.mono (BW.out.trans (hb5.mono BW.out.size)).size)⟩

set_option maxRecDepth 100000 in
theorem topBuilt_contract (H : Type) (enc : TypeId × Value → H) (W : World) (base : Nat) (args : Array Value) (ds gs : List (DataW H)) (before : List MemPlace)
    (hval0 : ∀ (j : Nat) t v, Tryz.f7.params[j]? = some t → args[j]? = some v → Value.okWide Tryz.prog W .any base t v)
    (hW : DataW.Whole enc Tryz.prog Tryz.f7.params.toList Rows.topBuiltSpec.vars false W args.toList ds gs before) (hL : laidMetH Tryz.prog listed W)
    (hsz0 : (DataW.weightsEach Tryz.prog (Tryz.f7.params.toList ++ []) (ds ++ gs)).all (· ≤ reachBytes) = true) :
    Calls Tryz.prog 7 args W fun e W' => ∃ v, e = .returned v ∧ Rows.topBuiltSpec.post enc Tryz.prog Tryz.f7 false true false false W args v W' := by
  have hval := hval0
  have hsz := hsz0
  have hW' := hW
  obtain ⟨p, q, hA0, hV, rfl, hfz, hnd⟩ := hW
  have hA : DataW.TrodAll enc Tryz.prog W 0 (fun _ => true) true Tryz.f7.params.toList args.toList ds p := hA0
  rw [Tryz.params7] at hA hval hsz
  obtain ⟨v0, vs0, d0, ds0, p0, q0, hargs, rfl, rfl, h0, r0⟩ := trodAll_cons hA
  obtain ⟨v1, vs1, d1, ds1, p1, q1, rfl, rfl, rfl, h1, r1⟩ := trodAll_cons r0
  obtain ⟨v2, vs2, d2, ds2, p2, q2, rfl, rfl, rfl, h2, r2⟩ := trodAll_cons r1
  obtain ⟨rfl, rfl, rfl⟩ := trodAll_nil r2
  obtain rfl : args = #[v0, v1, v2] := by cases args; simp_all
  obtain ⟨rfl, rfl⟩ := trodVars_none hV
  have k0 := h0
  have lt0 : ∀ x ∈ p0, x.block < W.heap.size := by obtain ⟨m, hm⟩ := k0; exact DataW.trod_lt m _ _ _ hm
  obtain ⟨a0, len0, cap0, rfl⟩ := okWide_slice Tryz.underlying59 (hval 0 59 v0 rfl rfl)
  obtain ⟨rs0, hlen0, hmax0, hx0⟩ := open_raws h0
  subst hlen0
  have k1 := h1
  have lt1 : ∀ x ∈ p1, x.block < W.heap.size := by obtain ⟨m, hm⟩ := k1; exact DataW.trod_lt m _ _ _ hm
  obtain ⟨rw1, rfl, hr1⟩ := open_raw (hval 1 61 v1 rfl rfl) h1
  have k2 := h2
  have lt2 : ∀ x ∈ p2, x.block < W.heap.size := by obtain ⟨m, hm⟩ := k2; exact DataW.trod_lt m _ _ _ hm
  obtain ⟨x2, rfl, rfl, rfl, wx2⟩ := open_int Tryz.underlying3 (hval 2 3 v2 rfl rfl) h2
  clear hA0 hval0
  refine (topBuilt_walk a0 rs0 cap0 rw1 x2 W hmax0 hx0 hr1 wx2 (tab_of hL)).mono fun e W' ⟨he, bel⟩ => ?_
  subst he
  exact ⟨_, rfl, _, _, _, [], _, [], hW', trodAll_mk1 (shut_bool Tryz.underlying4 _), (trodAll_cons_mk (Below.trod laidOut (by kernel_rfl) (of_decide_eq_true (by kernel_rfl)) k0 bel lt0) (trodAll_cons_mk (Below.trod laidOut (by kernel_rfl) (of_decide_eq_true (by kernel_rfl)) k1 bel lt1) (trodAll_cons_mk (Below.trod laidOut (by kernel_rfl) (of_decide_eq_true (by kernel_rfl)) k2 bel lt2) trodAll_mk0))), rfl, bel.frame _, fun h => by cases h⟩

theorem topBuilt_laid (os : Os) : laidMet Tryz.prog listed ((laidWorld os).forCall (fun _ _ => 0) ⟨#[], #[.slice none 0 0, .agg #[.int .i64 0, .int .i64 0, .int .i64 0, .int .i64 0], .int .i64 0], []⟩).memory :=
  laidMet_of_run' 8 (by kernel_rfl) (by kernel_rfl)
theorem topBuilt_reads (os : Os) {H : Type} (enc : TypeId × Value → H) : ∃ places, DataW.whole enc Tryz.prog ((laidWorld os).forCall (fun _ _ => 0) ⟨#[], #[.slice none 0 0, .agg #[.int .i64 0, .int .i64 0, .int .i64 0, .int .i64 0], .int .i64 0], []⟩).memory Tryz.f7.params.toList Rows.topBuiltSpec.vars false (#[.slice none 0 0, .agg #[.int .i64 0, .int .i64 0, .int .i64 0, .int .i64 0], .int .i64 0] : Array Value).toList 8 = some ([.nil, .agg [.lit (.int .i64 0), .lit (.int .i64 0), .lit (.int .i64 0), .lit (.int .i64 0)], .lit (.int .i64 0)], [], places) :=
  ⟨[], by kernel_rfl⟩

set_option maxRecDepth 100000 in
theorem topBuilt_lifted (os : Os) (started : os.Started) (H : Type) (enc : TypeId × Value → H) (F : Stop.Interp) :
    ReturnsInHanded {} Tryz.checked os 7 .any ((OpenSpec.ofChange Rows.topBuiltSpec).preRow enc Tryz.prog Tryz.f7 Rows.topBuiltRow.domain false Rows.topBuiltRow.laid) (((OpenSpec.ofChange Rows.topBuiltSpec).at F).post enc Tryz.prog Tryz.f7 false true false false) := by
  obtain ⟨places, hx⟩ := topBuilt_reads os enc
  refine returnsInHanded_of_row (C := Tryz.checked) (s := (OpenSpec.ofChange Rows.topBuiltSpec)) own started (by kernel_rfl) Tryz.func7
    (witness_row_at (enc := enc) (C := Tryz.checked) false (laidWorld os) #[.slice none 0 0, .agg #[.int .i64 0, .int .i64 0, .int .i64 0, .int .i64 0], .int .i64 0] rfl (by kernel_rfl) (by kernel_rfl) (by kernel_rfl)
      (OpenSpec.preRow_of_cond 8 hx (by kernel_rfl) (fun k hk => by cases hk) (by kernel_rfl) (topBuilt_laid os))) ?_
  intro W base args ds gs before hval hW _ hcond hsz hL _ _
  exact topBuilt_contract H enc W base args ds gs before hval hW hL hsz

theorem topBuilt_said : Rows.TopBuiltSaid :=
  OpenClaim.holds_of_cond 7 Tryz.f7 rfl rfl rfl rfl rfl rfl rfl ⟨rfl, rfl, rfl, rfl, rfl⟩ rfl rfl rfl rfl rfl (by kernel_rfl) Tryz.func7 (by kernel_rfl)
    (of_decide_eq_true (by kernel_rfl)) (by unfold Func.isWrapper; first | (rw [if_pos (by decide +kernel)]; kernel_rfl) | (rw [if_neg (by decide +kernel)]; exact ⟨rfl, rfl⟩))
    (fun os started H enc _ F => by rw [OpenClaim.pre_eq_preRow]; exact topBuilt_lifted os started H enc F)

theorem topBuilt_plain (f : FuncId) (fn : Func) (hf : Tryz.pinned.checked.prog.funcNamed "riddle/riddletop.TopBuilt" = some f) (hfn : Tryz.pinned.checked.prog.funcs[f]? = some fn) :
    false = Tryz.pinned.checked.prog.looks [] ∧ ∀ (j : Nat) t, fn.params[j]? = some t → Tryz.pinned.checked.prog.wantsStandIn t = false := by
  obtain rfl : f = 7 := Option.some.inj ((show Tryz.prog.funcNamed "riddle/riddletop.TopBuilt" = some 7 by kernel_rfl).symm.trans hf) |>.symm
  obtain rfl : fn = Tryz.f7 := (Option.some.inj (Tryz.func7.symm.trans hfn)).symm
  refine ⟨by kernel_rfl, fun j t ht => ?_⟩
  rw [Tryz.params7] at ht
  have hm : t = 59 ∨ t = 61 ∨ t = 3 := by simpa using Array.mem_of_getElem? ht
  rcases hm with rfl | rfl | rfl
  · exact (show Tryz.prog.wantsStandIn 59 = false by kernel_rfl)
  · exact (show Tryz.prog.wantsStandIn 61 = false by kernel_rfl)
  · exact (show Tryz.prog.wantsStandIn 3 = false by kernel_rfl)

theorem topBuilt_card : Rows.TopBuiltCardSaid :=
  Claim7.holds_tied_plain_at .later [] _ _ _ _ topBuilt_said (fun _ h => by cases h) (by kernel_rfl) (fun _ h => by cases h) topBuilt_row_tie rfl ⟨rfl, rfl⟩ (by kernel_rfl) rfl topBuilt_plain (by kernel_rfl)
#print axioms topBuilt_card

end Go.Proofs.YtdngbojbpmdegaaGreatDoor
