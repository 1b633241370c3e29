/-
  What the call MachineFault (riddleref) answers for every machine: its walk. The condition: the machine's cells are there.
-/
import Derived.Test.YtdbbiibnhgcndaaRefChk
namespace Go.Proofs.Ytdbbiibnhgcndaa
open Go.RowKit

theorem good_eq (ens : List En) (o fat r : Int) (fa : Option Addr) (ws : List Int) (fcap : Nat) :
    Fr.good ens ⟨o, fat, r, fa, ws, fcap⟩ = (mayW ws && inB o 0 4 && inB fat 0 7 && inB r 0 7 && (if o = 0 then (fat == 0) && (r == 0) else (ens.getD (o - 1).toNat default).st != 0)) := by
  unfold Fr.good pageF
  dsimp only
  generalize (if o = 0 then (fat == 0) && (r == 0) else (ens.getD (o - 1).toNat default).st != 0) = q
  cases inB fat 0 7 <;> cases inB r 0 7 <;> cases mayW ws <;> cases inB o 0 4 <;> cases q <;> rfl
theorem frOk_eq {ens : List En} {frs : List Fr} {k : Nat} {o fat r : Int} {fa : Option Addr} {ws : List Int} {fcap : Nat} (hP : frs.getD k default = ⟨o, fat, r, fa, ws, fcap⟩) :
    frOk ens frs k = (mayW ws && inB o 0 4 && inB fat 0 7 && inB r 0 7 && (if o = 0 then (fat == 0) && (r == 0) else ((ens.getD (o - 1).toNat default).st != 0) && !(frs.take k).any (twB o fat))) := by
  unfold frOk twAt
  rw [hP, good_eq]
  dsimp only
  by_cases h : o = 0
  · subst h; simp
  · rw [if_neg h, if_neg h]
    have : (o != 0) = true := by simpa using h
    rw [this]
    simp only [Bool.true_and, Bool.and_assoc]

set_option maxRecDepth 100000 in
set_option maxHeartbeats 8000000 in
theorem machineFault_any (M : Mv) (w : World) (hM : MachAt w M) :
    Calls Try.prog 36 #[M.val] w fun e w' => e = .returned (.int .i64 (machF M)) ∧ Below w.heap.size w w' := by
  have B1 : ∀ o, Hid (Below w.heap.size w (w.alloc o)) := fun o => (Below.refl _ _).alloc (Nat.le_refl _) _
  have hl1 := hM.frl
  have hl2 := hM.enl
  have hl3 := hM.qul
  unfold maxLen at hl1 hl2 hl3
  unfold Mv.val
  by_cases s1 : M.frs.length = 24
  · by_cases s2 : M.ens.length = 4
    · by_cases s3 : M.qus.length ≤ 40
      · rw [machF_eq s1 s2 s3, s1, s2]
        obtain ⟨eb, eo, hea, _⟩ := hM.enclave (j := 0) (by omega)
        obtain ⟨fb, fo, hfa, _⟩ := hM.frame (j := 0) (by omega)
        obtain ⟨fa, frs, fcap, ea, ens, ecap, qa, qus, qcap⟩ := M
        dsimp only at *
        subst hea
        subst hfa
        have s3' : ¬ ((40 : Int) < (qus.length : Int)) := by omega
        obtain ⟨W0, hW0⟩ : ∃ W0, W0 = w.alloc (.cells #[.slice (some ⟨fb, fo, none⟩) 24 fcap, .slice (some ⟨eb, eo, none⟩) 4 ecap, .slice qa qus.length qcap] 43) := ⟨_, rfl⟩
        have BW : Hid (Below w.heap.size w W0) := by rw [hW0]; exact (B1 _)
        have m0 : Hid (W0.cell? ⟨w.heap.size, 0, none⟩ = some (.slice (some ⟨fb, fo, none⟩) 24 fcap)) := by show W0.cell? _ = _; rw [hW0, World.cell?_alloc_at _ _ _ _ rfl]; rfl
        have m1 : Hid (W0.cell? ⟨w.heap.size, 1, none⟩ = some (.slice (some ⟨eb, eo, none⟩) 4 ecap)) := by show W0.cell? _ = _; rw [hW0, World.cell?_alloc_at _ _ _ _ rfl]; rfl
        have m2 : Hid (W0.cell? ⟨w.heap.size, 2, none⟩ = some (.slice qa qus.length qcap)) := by show W0.cell? _ = _; rw [hW0, World.cell?_alloc_at _ _ _ _ rfl]; rfl
        have hM0 := hM.below BW.out
        have HEN : Hid (ens.take 4 = ens) := by show ens.take 4 = _; rw [← s2]; exact List.take_length
        have S1 : Hid (frs.length = 24) := s1
        have S2 : Hid (ens.length = 4) := s2
        clear s1 s2 hl1 hl2
        obtain ⟨EF, hEF⟩ : ∃ EF, Hid (EF = (ens.all En.good && (List.range 24).all (frOk ens frs))) := ⟨_, rfl⟩
        rw [← hEF.out]
        obtain ⟨zz, hzz⟩ : ∃ zz : Int, Hid (zz = if (EF && qus.all Qu.good) = true then 0 else 8) := ⟨_, rfl⟩
        rw [← hzz.out]
        go_enter Try.func36, Try.ntmps36
        have hW0' : Hid (W0 = w.alloc (.cells #[.slice (some ⟨fb, fo, none⟩) 24 fcap, .slice (some ⟨eb, eo, none⟩) 4 ecap, .slice qa qus.length qcap] 43)) := hW0
        clear hW0
        go_wp2
        rw [← hW0'.out]
        clear hW0'
        go_loopw [3, 4] (fun ok i wr => ∃ k : Nat, k ≤ 4 ∧ i = .int .i64 k ∧ ∃ b, ok = .bool b ∧ Hid (b = (ens.take k).all En.good) ∧ Below W0.heap.size W0 wr) (fun _ i _ => 4 - (intOf i).toNat)
        case atStart => exact ⟨0, Nat.zero_le _, rfl, true, rfl, by simp [Hid], Below.refl _ _⟩
        case round =>
          obtain ⟨k, hk, rfl, b, rfl, hok, hbel⟩ := hrel
          have BX : ∀ o, Hid (Below W0.heap.size W0 (wr.alloc o)) := fun o => hbel.alloc hbel.size o
          by_cases hlt : k < 4
          · obtain ⟨_, _, hea, c0, c1, c2, c3, c4, c5, c6⟩ := (hM0.below hbel).enclave (j := k) (by have := S2.out; dsimp only; omega)
            dsimp only at hea c0 c1 c2 c3 c4 c5 c6
            simp only [Option.some.injEq, Addr.mk.injEq, and_true] at hea
            obtain ⟨rfl, rfl⟩ := hea
            have hm1 : wr.cell? ⟨w.heap.size, 1, none⟩ = some (.slice (some ⟨eb, eo, none⟩) 4 ecap) := (hbel.cell (p := ⟨w.heap.size, 1, none⟩) (lt_of_cell m1.out)).trans m1.out
            obtain ⟨T, hT⟩ : ∃ T, Hid (T = (ens.take (k + 1)).all En.good) := ⟨_, rfl⟩
            have HA : Hid (T = (b && En.good (ens.getD k default))) := by show _ = _; rw [hT.out, all_take _ _ _ (by rw [S2.out]; exact hlt), hok.out]
            have hlen := (hM0.enok k (by have := S2.out; dsimp only; omega)).len
            dsimp only at hlen
            unfold maxLen at hlen
            generalize ens.getD k default = P at c0 c1 c2 c3 c4 c5 c6 HA hlen
            obtain ⟨st, lg, pc, g0, g1, g2, g3⟩ := P
            dsimp only at c0 c1 c2 c3 c4 c5 c6 hlen
            have hR := fun w' => eq_regs 9998 g0 g1 g2 g3 0 0 0 0 w'
            have hG := fun w' => regsMay_any g0 g1 g2 g3 w'
            have bl1 : w.heap.size < wr.heap.size := lt_of_cell hm1
            have bl2 : eb < wr.heap.size := lt_of_cell c0
            clear hM0 hM m0 m1 m2 hok
            unfold En.good En.words En.zeros at HA
            dsimp only at HA
            cases b with
            | false =>
              by_cases c : st = 3
              · subst c
                go_wp2
                go_roundw
                case rel => exact ⟨k + 1, by omega, by go_num, false, rfl, by show _ = _; rw [← hT.out, HA.out]; simp, (BX _).out⟩
                case measure => simp [intOf]; omega
              · have c' : (st == 3) = false := by simpa using c
                go_wp2
                go_roundw
                case rel => exact ⟨k + 1, by omega, by go_num, false, rfl, by show _ = _; rw [← hT.out, HA.out]; simp, (BX _).out⟩
                case measure => simp [intOf]; omega
            | true =>
              cases hst : inB st 0 4 with
              | false =>
                have c : ¬ st = 3 := by rintro rfl; simp [inB] at hst
                have c' : (st == 3) = false := by simpa using c
                rw [hst] at HA
                go_wp2_with (go_at_call 61; refine (in_any _ _ _ _).mono ?_; rintro e w' ⟨rfl, rfl⟩)
                go_roundw
                case rel => exact ⟨k + 1, by omega, by go_num, false, rfl, by show _ = _; rw [← hT.out, HA.out]; simp, (BX _).out⟩
                case measure => simp [intOf]; omega
              | true =>
                rw [hst] at HA
                by_cases c3 : lg.size ≤ 1000
                · have c3' : (lg.size : Int) ≤ 1000 := by omega
                  rw [decide_eq_true c3] at HA
                  by_cases cs0 : st = 0
                  · subst cs0
                    by_cases ce : lg.size = 0
                    · obtain rfl := ba_empty ce
                      by_cases cp : pc = 0
                      · subst cp
                        go_wp2_with (go_at_call 61; refine (in_any _ _ _ _).mono ?_; rintro e w' ⟨rfl, rfl⟩)
                        go_roundw
                        case rel => exact ⟨k + 1, by omega, by go_num, _, rfl, by show _ = _; rw [← hT.out, HA.out]; simp, (BX _).out⟩
                        case measure => simp [intOf]; omega
                      · have cp' : (pc == 0) = false := by simpa using cp
                        go_wp2_with (go_at_call 61; refine (in_any _ _ _ _).mono ?_; rintro e w' ⟨rfl, rfl⟩)
                        go_roundw
                        case rel => exact ⟨k + 1, by omega, by go_num, false, rfl, by show _ = _; rw [← hT.out, HA.out]; simp [cp], (BX _).out⟩
                        case measure => simp [intOf]; omega
                    · have ce' := text_empty ce
                      go_wp2_with (go_at_call 61; refine (in_any _ _ _ _).mono ?_; rintro e w' ⟨rfl, rfl⟩)
                      go_roundw
                      case rel => exact ⟨k + 1, by omega, by go_num, false, rfl, by show _ = _; rw [← hT.out, HA.out]; simp [ce], (BX _).out⟩
                      case measure => simp [intOf]; omega
                  · have cs0' : (st != 0) = true := by simpa using cs0
                    by_cases c : st = 3
                    · subst c
                      cases hpc : inB pc 0 65535 with
                      | false =>
                        rw [hpc] at HA
                        go_wp2_with (go_at_call 61; refine (in_any _ _ _ _).mono ?_; rintro e w' ⟨rfl, rfl⟩)
                        go_roundw
                        case rel => exact ⟨k + 1, by omega, by go_num, false, rfl, by show _ = _; rw [← hT.out, HA.out]; simp, (BX _).out⟩
                        case measure => simp [intOf]; omega
                      | true =>
                        rw [hpc] at HA
                        generalize (inB g0 0 65535 && inB g1 0 65535 && inB g2 0 65535 && inB g3 0 65535) = qq at hG HA
                        go_wp2_with (first | (go_at_call 61; refine (in_any _ _ _ _).mono ?_; rintro e w' ⟨rfl, rfl⟩) | (go_at_call 78; refine (hG _).mono ?_; rintro e w1 ⟨rfl, hb1⟩) | fail)
                        go_roundw
                        case rel => exact ⟨k + 1, by omega, by go_num, qq, rfl, by show _ = _; rw [← hT.out, HA.out]; simp, (BX _).out.trans (hb1.mono (BX _).out.size)⟩
                        case measure => simp [intOf]; omega
                    · have c' : (st == 3) = false := by simpa using c
                      rw [if_neg c] at HA
                      by_cases cp : pc = 0
                      · subst cp
                        go_wp2_with (go_at_call 61; refine (in_any _ _ _ _).mono ?_; rintro e w' ⟨rfl, rfl⟩)
                        go_roundw
                        case rel => exact ⟨k + 1, by omega, by go_num, _, rfl, by show _ = _; rw [← hT.out, HA.out, cs0']; simp, (BX _).out⟩
                        case measure => simp [intOf]; omega
                      · have cp' : (pc == 0) = false := by simpa using cp
                        go_wp2_with (go_at_call 61; refine (in_any _ _ _ _).mono ?_; rintro e w' ⟨rfl, rfl⟩)
                        go_roundw
                        case rel => exact ⟨k + 1, by omega, by go_num, false, rfl, by show _ = _; rw [← hT.out, HA.out, cp']; simp, (BX _).out⟩
                        case measure => simp [intOf]; omega
                · have c3' : ¬ ((lg.size : Int) ≤ 1000) := by omega
                  rw [decide_eq_false c3] at HA
                  by_cases c : st = 3
                  · subst c
                    go_wp2_with (go_at_call 61; refine (in_any _ _ _ _).mono ?_; rintro e w' ⟨rfl, rfl⟩)
                    go_roundw
                    case rel => exact ⟨k + 1, by omega, by go_num, false, rfl, by show _ = _; rw [← hT.out, HA.out]; simp, (BX _).out⟩
                    case measure => simp [intOf]; omega
                  · have c' : (st == 3) = false := by simpa using c
                    go_wp2_with (go_at_call 61; refine (in_any _ _ _ _).mono ?_; rintro e w' ⟨rfl, rfl⟩)
                    go_roundw
                    case rel => exact ⟨k + 1, by omega, by go_num, false, rfl, by show _ = _; rw [← hT.out, HA.out]; simp, (BX _).out⟩
                    case measure => simp [intOf]; omega
          · have HE : Hid (b = ens.all En.good) := by show _ = _; rw [hok.out, show k = 4 by omega, HEN.out]
            have hge : ¬ ((k : Int) < 4) := by omega
            clear hok hlt hk
            rename World => wa
            go_wp2
            go_loopw [3, 6] (fun ok i wr => ∃ k : Nat, k ≤ 24 ∧ i = .int .i64 k ∧ ∃ c, ok = .bool c ∧ Hid (c = (ens.all En.good && (List.range k).all (frOk ens frs))) ∧ Below W0.heap.size W0 wr) (fun _ i _ => 24 - (intOf i).toNat)
            case atStart => exact ⟨0, Nat.zero_le _, rfl, b, rfl, by show _ = _; rw [HE.out]; simp, hbel⟩
            case round =>
              clear BX HE hbel
              obtain ⟨k, hk, rfl, c, rfl, hok, hbel⟩ := hrel
              have BX : ∀ o, Hid (Below W0.heap.size W0 (wr.alloc o)) := fun o => hbel.alloc hbel.size o
              have BZ : ∀ o, Hid (Below wr.heap.size wr (wr.alloc o)) := fun o => (Below.refl _ _).alloc (Nat.le_refl _) o
              have hMr := hM0.below hbel
              by_cases hlt : k < 24 ∧ c = true
              · obtain ⟨hlt, rfl⟩ := hlt
                have hkl : k < frs.length := by rw [S1.out]; exact hlt
                obtain ⟨_, _, hfa, c0, c1, c2, c3⟩ := hMr.frame (j := k) hkl
                dsimp only at hfa c0 c1 c2 c3
                simp only [Option.some.injEq, Addr.mk.injEq, and_true] at hfa
                obtain ⟨rfl, rfl⟩ := hfa
                have hm0 : wr.cell? ⟨w.heap.size, 0, none⟩ = some (.slice (some ⟨fb, fo, none⟩) 24 fcap) := (hbel.cell (p := ⟨w.heap.size, 0, none⟩) (lt_of_cell m0.out)).trans m0.out
                have hm1 : wr.cell? ⟨w.heap.size, 1, none⟩ = some (.slice (some ⟨eb, eo, none⟩) 4 ecap) := (hbel.cell (p := ⟨w.heap.size, 1, none⟩) (lt_of_cell m1.out)).trans m1.out
                have hfr := hMr.frok k hkl
                obtain ⟨T, hT⟩ : ∃ T, Hid (T = (ens.all En.good && (List.range (k + 1)).all (frOk ens frs))) := ⟨_, rfl⟩
                have HA : Hid (T = frOk ens frs k) := by show _ = _; rw [hT.out, range_all, ← Bool.and_assoc, ← hok.out, Bool.true_and]
                obtain ⟨P, hP⟩ : ∃ P, frs.getD k default = P := ⟨_, rfl⟩
                dsimp only at hfr
                rw [hP] at c0 c1 c2 c3 hfr
                obtain ⟨o, fat, r, wa', ws, wcap⟩ := P
                rw [frOk_eq hP] at HA
                dsimp only at c0 c1 c2 c3
                have hW := fun w' (h : Below wr.heap.size wr w') => wordsMay_any wa' ws wcap w' hfr.len (hfr.ints.below h)
                have bl1 : w.heap.size < wr.heap.size := lt_of_cell hm1
                have bl2 : fb < wr.heap.size := lt_of_cell c0
                clear hP hfr hok m0 m1 m2 hM
                cases hmw : mayW ws with
                | false =>
                  rw [hmw] at HA hW
                  clear hMr hM0
                  go_wp2_with (first | (go_at_call 61; refine (in_any _ _ _ _).mono ?_; rintro e w' ⟨rfl, rfl⟩) | (go_at_call 22; refine (hW _ (BZ _).out).mono ?_; rintro e w' ⟨rfl, rfl⟩) | fail)
                  go_roundw
                  case rel => exact ⟨k + 1, by omega, by go_num, false, rfl, by show _ = _; rw [← hT.out, HA.out]; simp, (BX _).out⟩
                  case measure => simp [intOf]; omega
                | true =>
                  rw [hmw] at HA hW
                  cases ho : inB o 0 4 with
                  | false =>
                    rw [ho] at HA
                    clear hMr hM0
                    go_wp2_with (first | (go_at_call 61; refine (in_any _ _ _ _).mono ?_; rintro e w' ⟨rfl, rfl⟩) | (go_at_call 22; refine (hW _ (BZ _).out).mono ?_; rintro e w' ⟨rfl, rfl⟩) | fail)
                    go_roundw
                    case rel => exact ⟨k + 1, by omega, by go_num, false, rfl, by show _ = _; rw [← hT.out, HA.out]; simp, (BX _).out⟩
                    case measure => simp [intOf]; omega
                  | true =>
                    rw [ho] at HA
                    cases hat : inB fat 0 7 with
                    | false =>
                      rw [hat] at HA
                      clear hMr hM0
                      go_wp2_with (first | (go_at_call 61; refine (in_any _ _ _ _).mono ?_; rintro e w' ⟨rfl, rfl⟩) | (go_at_call 22; refine (hW _ (BZ _).out).mono ?_; rintro e w' ⟨rfl, rfl⟩) | fail)
                      go_roundw
                      case rel => exact ⟨k + 1, by omega, by go_num, false, rfl, by show _ = _; rw [← hT.out, HA.out]; simp, (BX _).out⟩
                      case measure => simp [intOf]; omega
                    | true =>
                      rw [hat] at HA
                      cases hr : inB r 0 7 with
                      | false =>
                        rw [hr] at HA
                        clear hMr hM0
                        go_wp2_with (first | (go_at_call 61; refine (in_any _ _ _ _).mono ?_; rintro e w' ⟨rfl, rfl⟩) | (go_at_call 22; refine (hW _ (BZ _).out).mono ?_; rintro e w' ⟨rfl, rfl⟩) | fail)
                        go_roundw
                        case rel => exact ⟨k + 1, by omega, by go_num, false, rfl, by show _ = _; rw [← hT.out, HA.out]; simp, (BX _).out⟩
                        case measure => simp [intOf]; omega
                      | true =>
                        rw [hr] at HA
                        by_cases c0z : o = 0
                        · subst c0z
                          rw [if_pos rfl] at HA
                          clear hMr hM0
                          by_cases cf : fat = 0
                          · subst cf
                            by_cases cr : r = 0
                            · subst cr
                              go_wp2_with (first | (go_at_call 61; refine (in_any _ _ _ _).mono ?_; rintro e w' ⟨rfl, rfl⟩) | (go_at_call 22; refine (hW _ (BZ _).out).mono ?_; rintro e w' ⟨rfl, rfl⟩) | fail)
                              go_roundw
                              case rel => exact ⟨k + 1, by omega, by go_num, true, rfl, by show _ = _; rw [← hT.out, HA.out]; simp, (BX _).out⟩
                              case measure => simp [intOf]; omega
                            · have cr' : (r == 0) = false := by simpa using cr
                              go_wp2_with (first | (go_at_call 61; refine (in_any _ _ _ _).mono ?_; rintro e w' ⟨rfl, rfl⟩) | (go_at_call 22; refine (hW _ (BZ _).out).mono ?_; rintro e w' ⟨rfl, rfl⟩) | fail)
                              go_roundw
                              case rel => exact ⟨k + 1, by omega, by go_num, false, rfl, by show _ = _; rw [← hT.out, HA.out]; simp [cr], (BX _).out⟩
                              case measure => simp [intOf]; omega
                          · have cf' : (fat == 0) = false := by simpa using cf
                            go_wp2_with (first | (go_at_call 61; refine (in_any _ _ _ _).mono ?_; rintro e w' ⟨rfl, rfl⟩) | (go_at_call 22; refine (hW _ (BZ _).out).mono ?_; rintro e w' ⟨rfl, rfl⟩) | fail)
                            go_roundw
                            case rel => exact ⟨k + 1, by omega, by go_num, false, rfl, by show _ = _; rw [← hT.out, HA.out]; simp [cf], (BX _).out⟩
                            case measure => simp [intOf]; omega
                        · have oB := inB_iff.1 ho
                          obtain ⟨m, rfl⟩ : ∃ m : Nat, o = (m : Int) + 1 := ⟨(o - 1).toNat, by omega⟩
                          have hm4 : m < 4 := by omega
                          rw [if_neg c0z, show ((m : Int) + 1 - 1).toNat = m by omega] at HA
                          obtain ⟨_, _, hea, e0, _⟩ := hMr.enclave (j := m) (by have := S2.out; dsimp only; omega)
                          dsimp only at hea e0
                          simp only [Option.some.injEq, Addr.mk.injEq, and_true] at hea
                          obtain ⟨rfl, rfl⟩ := hea
                          generalize (ens.getD m default).st = s at e0 HA
                          have bl3 : eb < wr.heap.size := lt_of_cell e0
                          have hwm : IntKind.i64.wrap ((m : Int) + 1 - 1) = (m : Int) := by rw [IntKind.wrap_i64]; omega
                          have hpos : (0 : Int) < (m : Int) + 1 := by omega
                          have hnz : (((m : Int) + 1) == 0) = false := by simp; omega
                          clear c0z
                          rename World => wb
                          go_wp2_with (first | (go_at_call 61; refine (in_any _ _ _ _).mono ?_; rintro e w' ⟨rfl, rfl⟩) | (go_at_call 22; refine (hW _ (BZ _).out).mono ?_; rintro e w' ⟨rfl, rfl⟩) | fail)
                          obtain ⟨WF, hWF⟩ : ∃ WF, Hid (WF = wb.alloc (.cells #[.int .i64 ((m : Int) + 1), .int .i64 fat, .int .i64 r, .slice wa' ws.length wcap] 83)) := ⟨_, rfl⟩
                          rw [← hWF.out]
                          have BF : Hid (Below W0.heap.size W0 WF) := by show Below _ _ _; rw [hWF.out]; exact (BX _).out
                          have hMf := hM0.below BF.out
                          have mf0 : Hid (WF.cell? ⟨w.heap.size, 0, none⟩ = some (.slice (some ⟨fb, fo, none⟩) 24 fcap)) := by show _ = _; rw [hWF.out, World.cell?_alloc_past _ _ _ bl1]; exact hm0
                          have q0 : Hid (WF.cell? ⟨wb.heap.size, 0, none⟩ = some (.int .i64 ((m : Int) + 1))) := by show _ = _; rw [hWF.out, World.cell?_alloc_at _ _ _ _ rfl]; rfl
                          have q1 : Hid (WF.cell? ⟨wb.heap.size, 1, none⟩ = some (.int .i64 fat)) := by show _ = _; rw [hWF.out, World.cell?_alloc_at _ _ _ _ rfl]; rfl
                          clear hWF hMr hM0 c0 c1 c2 c3 hm0 hm1 e0 hW BZ hmw ho hr hat
                          go_loopw [3, 8] (fun ok i wr => ∃ j : Nat, j ≤ k ∧ i = .int .i64 j ∧ ∃ c, ok = .bool c ∧ Hid (c = ((s != 0) && !(frs.take j).any (twB ((m : Int) + 1) fat))) ∧ ∃ n, wr = WF.drewN n) (fun _ i _ => k - (intOf i).toNat)
                          case atStart => exact ⟨0, Nat.zero_le _, rfl, _, rfl, by simp [Hid], 0, rfl⟩
                          case round =>
                            obtain ⟨j, hj, rfl, c, rfl, hc, n, rfl⟩ := hrel
                            by_cases hjl : j < k
                            · obtain ⟨_, _, hfa, c0, c1, _⟩ := hMf.frame (j := j) (by have := S1.out; dsimp only; omega)
                              dsimp only at hfa c0 c1
                              simp only [Option.some.injEq, Addr.mk.injEq, and_true] at hfa
                              obtain ⟨rfl, rfl⟩ := hfa
                              obtain ⟨T', hT'⟩ : ∃ T', Hid (T' = ((s != 0) && !(frs.take (j + 1)).any (twB ((m : Int) + 1) fat))) := ⟨_, rfl⟩
                              have HB : Hid (T' = (c && !twB ((m : Int) + 1) fat (frs.getD j default))) := by show _ = _; rw [hT'.out, any_take _ _ _ (by rw [S1.out]; omega), hc.out, Bool.not_or, Bool.and_assoc]
                              generalize frs.getD j default = Pj at c0 c1 HB
                              obtain ⟨oj, atj, _, _, _, _⟩ := Pj
                              dsimp only at c0 c1
                              unfold twB at HB
                              dsimp only at HB
                              have mf := mf0.out
                              have qq0 := q0.out
                              have qq1 := q1.out
                              have hj24 : (j : Int) < 24 := by omega
                              clear hc hMf mf0 q0 q1
                              cases c with
                              | false =>
                                go_wp2
                                go_quiet (fail)
                                go_wp2
                                go_roundw
                                case rel => exact ⟨j + 1, by omega, by go_num, false, rfl, by show _ = _; rw [← hT'.out, HB.out]; simp, _, rfl⟩
                                case measure => simp [intOf]; omega
                              | true =>
                                by_cases co : oj = (m : Int) + 1
                                · subst co
                                  by_cases ca : atj = fat
                                  · subst ca
                                    go_wp2
                                    go_quiet (fail)
                                    go_wp2
                                    go_roundw
                                    case rel => exact ⟨j + 1, by omega, by go_num, false, rfl, by show _ = _; rw [← hT'.out, HB.out]; simp, _, rfl⟩
                                    case measure => simp [intOf]; omega
                                  · have ca' : (atj != fat) = true := by simpa using ca
                                    go_wp2
                                    go_quiet (fail)
                                    go_wp2
                                    go_roundw
                                    case rel => exact ⟨j + 1, by omega, by go_num, true, rfl, by show _ = _; rw [← hT'.out, HB.out]; simp [ca], _, rfl⟩
                                    case measure => simp [intOf]; omega
                                · have co' : (oj != (m : Int) + 1) = true := by simpa using co
                                  go_wp2
                                  go_quiet (fail)
                                  go_wp2
                                  go_roundw
                                  case rel => exact ⟨j + 1, by omega, by go_num, true, rfl, by show _ = _; rw [← hT'.out, HB.out]; simp [co], _, rfl⟩
                                  case measure => simp [intOf]; omega
                            · have hjk : j = k := by omega
                              subst hjk
                              go_wp2
                              go_roundw
                              case rel => exact ⟨j + 1, by omega, by go_num, c, rfl, by show _ = _; rw [← hT.out, HA.out, hc.out]; simp, below_drewN BF.out n⟩
                              case measure => simp [intOf]; omega
              · have HK : Hid (c = EF) := by
                  show _ = _
                  rw [hEF.out]
                  by_cases h24 : k = 24
                  · rw [hok.out, h24]
                  · have hc : c = false := by
                      cases c with
                      | false => rfl
                      | true => exact absurd ⟨show k < 24 by omega, rfl⟩ hlt
                    rw [hc]
                    have := hok.out
                    rw [hc] at this
                    cases he : ens.all En.good with
                    | false => rfl
                    | true => rw [he, Bool.true_and] at this; rw [range_all_le _ hk this.symm]; rfl
                clear hok
                have hm2 : wr.cell? ⟨w.heap.size, 2, none⟩ = some (.slice qa qus.length qcap) := (hbel.cell (p := ⟨w.heap.size, 2, none⟩) (lt_of_cell m2.out)).trans m2.out
                have HB0 : Hid (Below w.heap.size w wr) := BW.out.trans (hbel.mono BW.out.size)
                have hcase : ((k : Int) < 24 ∧ c = false) ∨ ¬ ((k : Int) < 24) := by
                  by_cases h24 : k < 24
                  · left
                    refine ⟨by omega, ?_⟩
                    cases c with
                    | false => rfl
                    | true => exact absurd ⟨h24, rfl⟩ hlt
                  · right; omega
                clear hlt m0 m1 m2 hM hM0 hEF
                rename World => wb
                rcases hcase with ⟨h24, rfl⟩ | h24
                all_goals
                  go_wp2
                  go_loop [3, 9] (fun ok i => ∃ j : Nat, j ≤ qus.length ∧ i = .int .i64 j ∧ ∃ d, ok = .bool d ∧ Hid (d = (EF && (qus.take j).all Qu.good))) (fun _ i => qus.length - (intOf i).toNat)
                  case atStart => exact ⟨0, Nat.zero_le _, rfl, _, rfl, by show _ = _; rw [← HK.out]; simp⟩
                  case round =>
                    obtain ⟨j, hj, rfl, d, rfl, hd⟩ := hrel
                    by_cases hjl : j < qus.length
                    · obtain ⟨qb, qo, hqa, c0, c1⟩ := hMr.quote (j := j) hjl
                      dsimp only at hqa c0 c1
                      subst hqa
                      obtain ⟨T, hT⟩ : ∃ T, Hid (T = (EF && (qus.take (j + 1)).all Qu.good)) := ⟨_, rfl⟩
                      have HA : Hid (T = (d && Qu.good (qus.getD j default))) := by show _ = _; rw [hT.out, all_take _ _ _ hjl, hd.out, Bool.and_assoc]
                      generalize qus.getD j default = P at c0 c1 HA
                      obtain ⟨lg, da⟩ := P
                      dsimp only at c0 c1
                      unfold Qu.good at HA
                      dsimp only at HA
                      have bl4 : qb < wb.heap.size := lt_of_cell c0
                      clear hd hMr
                      cases d with
                      | false =>
                        go_wp2
                        go_round
                        case rel => exact ⟨j + 1, by omega, by go_num, false, rfl, by show _ = _; rw [← hT.out, HA.out]; simp⟩
                        case measure => simp [intOf]; omega
                      | true =>
                        by_cases cl : lg.size ≤ 1000
                        · have cl' : (lg.size : Int) ≤ 1000 := by omega
                          rw [decide_eq_true cl] at HA
                          go_wp2_with (go_at_call 61; refine (in_any _ _ _ _).mono ?_; rintro e w' ⟨rfl, rfl⟩)
                          go_round
                          case rel => exact ⟨j + 1, by omega, by go_num, _, rfl, by show _ = _; rw [← hT.out, HA.out]; simp⟩
                          case measure => simp [intOf]; omega
                        · have cl' : ¬ ((lg.size : Int) ≤ 1000) := by omega
                          rw [decide_eq_false cl] at HA
                          go_wp2
                          go_round
                          case rel => exact ⟨j + 1, by omega, by go_num, false, rfl, by show _ = _; rw [← hT.out, HA.out]; simp⟩
                          case measure => simp [intOf]; omega
                    · have hjk : j = qus.length := by omega
                      subst hjk
                      have HD : Hid (d = (EF && qus.all Qu.good)) := by show _ = _; rw [hd.out, List.take_length]
                      clear hd
                      cases d with
                      | false =>
                        go_wp2
                        go_ret
                        exact ⟨ret_int (by rw [hzz.out, ← HD.out]; rfl), HB0.out⟩
                      | true =>
                        go_wp2
                        go_ret
                        exact ⟨ret_int (by rw [hzz.out, ← HD.out]; rfl), HB0.out⟩
      · have s3' : (40 : Int) < (M.qus.length : Int) := by omega
        have E : machF M = 1 := by unfold machF; rw [if_neg (by omega)]
        rw [E, s1, s2]
        clear hM E
        go_enter Try.func36, Try.ntmps36
        go_wp2
        go_ret
        exact ⟨rfl, (B1 _).out⟩
    · have s2' : ((M.ens.length : Int) != 4) = true := by simp; omega
      have E : machF M = 1 := by unfold machF; rw [if_neg (by omega)]
      rw [E, s1]
      clear hM E
      go_enter Try.func36, Try.ntmps36
      go_wp2
      go_ret
      exact ⟨rfl, (B1 _).out⟩
  · have s1' : ((M.frs.length : Int) != 24) = true := by simp; omega
    have E : machF M = 1 := by unfold machF; rw [if_neg (by omega)]
    rw [E]
    clear hM E
    go_enter Try.func36, Try.ntmps36
    go_wp2
    go_ret
    exact ⟨rfl, (B1 _).out⟩

end Go.Proofs.Ytdbbiibnhgcndaa
