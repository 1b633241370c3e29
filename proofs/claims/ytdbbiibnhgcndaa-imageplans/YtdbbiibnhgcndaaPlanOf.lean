/-
  What the reference's PlanOf answers, for every list of pages, enclave and frame: the same error number and the same acts as Plan; nothing that was in memory turns.
-/
import Derived.Test.YtdbbiibnhgcndaaPlan
import Derived.Deep.RegionHeld3
import Derived.Deep.AppendLies
namespace Go.Proofs.Ytdbbiibnhgcndaa
open Go.RowKit
set_option maxRecDepth 100000

theorem grown_drew {w w' : World} {r : Option Nat} (h : w.drew.grownBy w' r) : w.grownBy w' r := ⟨h.os, h.tape, h.output, h.size, h.block⟩
set_option maxHeartbeats 4000000 in
theorem planOf_bad (a : Option Addr) (ps : List Pg) (cap : Nat) (e f : Int) (w : World) (hl : ps.length ≤ maxLen) (hx : PagesAt w a ps) (hz : ¬ planE ps e f = 0) :
    Calls Try.prog 30 #[.slice a ps.length cap, .int .i64 e, .int .i64 f] w fun r w' => r = .returned (.tuple #[.slice none 0 0, .int .i64 (planE ps e f)]) ∧ Below w.heap.size w w' := by
  have hC := imageFault_any a ps cap w hl hx
  unfold planE at hz ⊢
  by_cases hi : imageF ps = 0
  · rw [if_pos hi] at hz ⊢
    rw [hi] at hC
    have hn := image_len hi
    clear hx hl hi
    cases h1 : inB e 1 4
    · clear hz
      go_enter Try.func30, Try.ntmps30
      go_wp2_with (first | (go_at_call 26; go_must (refine hC.mono ?_); rintro r w1 ⟨rfl, hb1⟩) | (go_at_call 61; refine (in_any _ _ _ _).mono ?_; rintro r w2 ⟨rfl, rfl⟩))
      go_ret2
      exact ⟨rfl, hb1⟩
    · rw [h1] at hz
      have h4 : inB f 0 (24 - ps.length) = false := by
        cases h : inB f 0 (24 - ps.length)
        · rfl
        · rw [h] at hz; simp at hz
      rw [h4]
      clear hz
      go_enter Try.func30, Try.ntmps30
      go_wp2_with (first | (go_at_call 26; go_must (refine hC.mono ?_); rintro r w1 ⟨rfl, hb1⟩) | (go_at_call 61; refine (in_any _ _ _ _).mono ?_; rintro r w2 ⟨rfl, rfl⟩))
      go_ret2
      exact ⟨rfl, hb1⟩
  · rw [if_neg hi]
    have hi1 : (imageF ps != 0) = true := by simpa using hi
    have hi2 : (imageF ps == 0) = false := by simpa using hi
    generalize imageF ps = z at hC hi hi1 hi2 ⊢
    clear hx hl hz
    go_enter Try.func30, Try.ntmps30
    go_wp2_with (go_at_call 26; go_must (refine hC.mono ?_); rintro r w1 ⟨rfl, hb1⟩)
    go_ret2
    exact ⟨rfl, hb1⟩

set_option maxHeartbeats 8000000 in
theorem planOf_good (a : Option Addr) (ps : List Pg) (cap : Nat) (e f : Int) (w : World) (hl : ps.length ≤ maxLen) (hx : PagesAt w a ps) (hz : planE ps e f = 0) :
    Calls Try.prog 30 #[.slice a ps.length cap, .int .i64 e, .int .i64 f] w fun r w' => ∃ v, r = .returned (.tuple #[v, .int .i64 0]) ∧ Owns w' w.heap.size v (planL ps e f) ∧ Below w.heap.size w w' := by
  obtain ⟨i0, hi, hz0, hz1, hz2⟩ := info_parts act_info
  obtain ⟨q1, q2, q3⟩ := planE_zero hz
  have hC := imageFault_any a ps cap w hl hx
  rw [q1] at hC
  have hn := image_len q1
  have be := inB_iff.1 q2
  have bf := inB_iff.1 q3
  have h8 := image_words q1
  have HX : Hid (PagesAt w a ps) := hx
  have H8 : Hid (∀ j, j < ps.length → (ps.getD j default).ws.length = 8) := h8
  have HPL : Hid (pokeK ps f ps.length ++ [⟨1, 0, 0, 0, 0, 0, 0⟩] ++ putK ps e f ps.length ++ [⟨4, e, 0, 0, 0, 0, 0⟩] = planL ps e f) := rfl
  clear hx hl hz q1 h8
  go_enter Try.func30, Try.ntmps30
  go_wp2_with (first | (go_at_call 26; go_must (refine hC.mono ?_); rintro r w1 ⟨rfl, hb1⟩) | (go_at_call 61; refine (in_any _ _ _ _).mono ?_; rintro r w2 ⟨rfl, rfl⟩))
  have hs1 := hb1.size
  clear hC q2 q3
  go_loopw [9, 10] (fun v i wr => ∃ k : Nat, k ≤ ps.length ∧ i = .int .i64 k ∧ Owns wr w.heap.size v (pokeK ps f k) ∧ Below w.heap.size w wr ∧ w.heap.size ≤ wr.heap.size) (fun _ i _ => ps.length - (intOf i).toNat)
  case atStart => exact ⟨0, Nat.zero_le _, rfl, World.ownsRow_nil _ _ _ _, hb1, hs1⟩
  case round =>
    obtain ⟨k, hk, rfl, hown, hbel, hsz⟩ := hrel
    clear hb1 hs1
    by_cases hlt : k < ps.length
    · rcases HX.out.at_ with rfl | ⟨b, off, rfl, hc⟩
      · simp at hlt
      · obtain ⟨c0, c1, c2⟩ := HX.out.cells hlt
        have hok := HX.out.ok k hlt
        have hw8 := H8.out k hlt
        have HN : Hid _ := pokeK_succ ps f k
        have hpl : (pokeK ps f k).length = 8 * k := pokeK_len ps f k fun j hj => H8.out j (by omega)
        obtain ⟨P, hP⟩ : ∃ P, ps.getD k default = P := ⟨_, rfl⟩
        rw [hP] at c0 c1 c2 hok hw8 HN
        obtain ⟨pat, pr, pa, pws, pcap⟩ := P
        dsimp only at c0 c1 c2 hw8 HN
        have HI : Hid (Ints w pa pws) := hok.ints
        have HW : Hid (pws.length = 8) := hw8
        rw [hw8] at c2
        have HC2 : Hid (w.cell? ⟨b, off + k * 3 + 2, none⟩ = some (.slice pa 8 pcap)) := c2
        clear hP hok hw8 hc c0 c1 c2
        generalize pokeK ps f k = L at hown HN hpl
        have hkx : (k : Int) < (ps.length : Int) := by omega
        go_wp2
        go_loopw [9, 11] (fun v i wr2 => ∃ j : Nat, j ≤ 8 ∧ i = .int .i64 j ∧ Owns wr2 w.heap.size v (L ++ pokeP (f + k) pws j) ∧ Below w.heap.size w wr2 ∧ w.heap.size ≤ wr2.heap.size) (fun _ i _ => 8 - (intOf i).toNat)
        case atStart => exact ⟨0, by omega, rfl, by simpa [pokeP] using hown, hbel, hsz⟩
        case round =>
          obtain ⟨j, hj, rfl, hown2, hbel2, hsz2⟩ := hrel
          clear hown hbel hsz
          by_cases hlj : j < 8
          · rcases HI.out.below hbel2 with h0 | ⟨pb, po, rfl, hcw⟩
            · have := HW.out; rw [h0] at this; simp at this
            · have hcj := hcw j (by have := HW.out; omega)
              have hc2 := keep_cell hbel2 HC2.out
              have HP : Hid _ := pokeP_succ (f + k) pws j
              obtain ⟨z, hz⟩ : ∃ z, pws.getD j 0 = z := ⟨_, rfl⟩
              rw [hz] at hcj HP
              have HLL : Hid ((L ++ pokeP (f + k) pws j).length = 8 * k + j) := show (L ++ pokeP (f + k) pws j).length = 8 * k + j by rw [List.length_append, pokeP_len, hpl]
              have hcells := new_cells wr ⟨7, 0, f + k, j, 0, z, 0⟩
              have HA : Hid (∀ v' w2, w2.ownsRow w.heap.size 81 7 v' ((L ++ pokeP (f + k) pws j).length + 1) (rowA (L ++ pokeP (f + k) pws j) ++ rowA [⟨7, 0, f + k, j, 0, z, 0⟩]) → (wr.alloc (.cells #[.int .i64 7, .int .i64 0, .int .i64 (f + k), .int .i64 j, .int .i64 0, .int .i64 z, .int .i64 0] 81)).grownBy w2 u9.ownBlock →
                  Owns w2 w.heap.size v' (L ++ pokeP (f + k) pws (j + 1)) ∧ Below w.heap.size w w2 ∧ w.heap.size ≤ w2.heap.size) := fun v' w2 g1 g2 => by
                have := owns_next (new := [⟨7, 0, f + k, j, 0, z, 0⟩]) hown2 g1 g2 hbel2 hsz2
                rw [HP.out, ← List.append_assoc]
                exact this
              have hownA := owns_alloc hown2 (.cells #[.int .i64 7, .int .i64 0, .int .i64 (f + k), .int .i64 j, .int .i64 0, .int .i64 z, .int .i64 0] 81)
              generalize L ++ pokeP (f + k) pws j = M at hownA HA HLL
              clear hcw hz hown2 HX H8 HN HI HP hbel2
              go_wp2_with (at_builtin; refine wpList_append_own _ rfl _ _ 34 rfl w.heap.size 81 i0 _ 7 56 Try.underlying34 hi hz0 hz1 hz2 rfl (by decide) _ _ _ rfl hownA ⟨wr.heap.size, 0, none⟩ 1 1 (rowA [⟨7, 0, f + k, j, 0, z, 0⟩]) rfl rfl hcells (rowA_cells_one _) (by have := HLL.out; unfold maxLen; omega) (by have := HLL.out; omega) (by simp; omega) ?_)
              intro v' w2 g1 g2 _
              have R := HA.out v' w2 g1 g2
              clear HA g1 g2 hownA hcells
              go_wp2
              go_roundw
              case rel => exact ⟨j + 1, by omega, by go_num, R.1, R.2.1, R.2.2⟩
              case measure => simp [intOf]; omega
          · have hj8 : j = 8 := by omega
            subst hj8
            have HN' : Hid (pokeK ps f (k + 1) = L ++ pokeP (f + k) pws 8) := by have := HN.out; rw [HW.out] at this; exact this
            clear HI HN HX H8
            go_wp2
            go_roundw
            case rel => exact ⟨k + 1, by omega, by go_num, by rw [HN'.out]; exact hown2, hbel2, hsz2⟩
            case measure => simp [intOf]; omega
    · have hkl : k = ps.length := by omega
      subst hkl
      have HLL : Hid ((pokeK ps f ps.length).length = 8 * ps.length) := pokeK_len ps f _ H8.out
      have HA : Hid _ := app (new := [⟨1, 0, 0, 0, 0, 0, 0⟩]) (o := .cells #[.int .i64 1, .int .i64 0, .int .i64 0, .int .i64 0, .int .i64 0, .int .i64 0, .int .i64 0] 81) hown hbel hsz
      have hownA := owns_alloc hown (.cells #[.int .i64 1, .int .i64 0, .int .i64 0, .int .i64 0, .int .i64 0, .int .i64 0, .int .i64 0] 81)
      have hcells := new_cells wr ⟨1, 0, 0, 0, 0, 0, 0⟩
      generalize pokeK ps f ps.length = L0 at HA hownA HLL HPL
      clear hown hbel H8
      go_wp2_with (at_builtin; refine wpList_append_own _ rfl _ _ 34 rfl w.heap.size 81 i0 _ 7 56 Try.underlying34 hi hz0 hz1 hz2 rfl (by decide) _ _ _ rfl hownA ⟨wr.heap.size, 0, none⟩ 1 1 (rowA [⟨1, 0, 0, 0, 0, 0, 0⟩]) rfl rfl hcells (rowA_cells_one _) (by have := HLL.out; unfold maxLen; omega) (by have := HLL.out; omega) (by simp; omega) ?_)
      intro v4 w4 g1 g2 _
      have R4 := HA.out v4 w4 g1 g2
      clear HA hownA hcells g1 g2
      go_wp2
      go_loopw [9, 12] (fun v i wr => ∃ k : Nat, k ≤ ps.length ∧ i = .int .i64 k ∧ Owns wr w.heap.size v (L0 ++ [⟨1, 0, 0, 0, 0, 0, 0⟩] ++ putK ps e f k) ∧ Below w.heap.size w wr ∧ w.heap.size ≤ wr.heap.size) (fun _ i _ => ps.length - (intOf i).toNat)
      case atStart => exact ⟨0, Nat.zero_le _, rfl, by simpa [putK] using R4.1, R4.2.1, R4.2.2⟩
      case round =>
        obtain ⟨k, hk2, rfl, hown, hbel, hsz⟩ := hrel
        clear R4
        by_cases hlt : k < ps.length
        · rcases HX.out.at_ with rfl | ⟨b, off, rfl, hc⟩
          · simp at hlt
          · obtain ⟨c0, c1, c2⟩ := HX.out.cells hlt
            have HN : Hid _ := putK_succ ps e f k
            have hpk := putK_len ps e f k
            obtain ⟨P, hP⟩ : ∃ P, ps.getD k default = P := ⟨_, rfl⟩
            rw [hP] at c0 c1 c2 HN
            obtain ⟨pat, pr, pa, pws, pcap⟩ := P
            dsimp only at c0 c1 c2 HN
            have C0 : Hid (w.cell? ⟨b, off + k * 3, none⟩ = some (.int .i64 pat)) := c0
            have C1 : Hid (w.cell? ⟨b, off + k * 3 + 1, none⟩ = some (.int .i64 pr)) := c1
            have d0 := keep_cell hbel c0
            have d1 := keep_cell hbel c1
            have HLM : Hid ((L0 ++ [(⟨1, 0, 0, 0, 0, 0, 0⟩ : Ac)] ++ putK ps e f k).length = 8 * ps.length + 1 + 2 * k) := show (L0 ++ [(⟨1, 0, 0, 0, 0, 0, 0⟩ : Ac)] ++ putK ps e f k).length = 8 * ps.length + 1 + 2 * k by
              rw [List.length_append, List.length_append, HLL.out, hpk]; rfl
            have HA : Hid _ := app (new := [⟨2, e, f + k, pat, pr, 0, 0⟩]) (o := .cells #[.int .i64 2, .int .i64 e, .int .i64 (f + k), .int .i64 pat, .int .i64 pr, .int .i64 0, .int .i64 0] 81) hown hbel hsz
            have hownA := owns_alloc hown (.cells #[.int .i64 2, .int .i64 e, .int .i64 (f + k), .int .i64 pat, .int .i64 pr, .int .i64 0, .int .i64 0] 81)
            have hcells := new_cells wr ⟨2, e, f + k, pat, pr, 0, 0⟩
            have HNN : Hid (L0 ++ [⟨1, 0, 0, 0, 0, 0, 0⟩] ++ putK ps e f (k + 1) = L0 ++ [⟨1, 0, 0, 0, 0, 0, 0⟩] ++ putK ps e f k ++ [⟨2, e, f + k, pat, pr, 0, 0⟩] ++ [⟨3, e, 0, pat, 0, 0, 0⟩]) := show _ = _ by rw [HN.out]; simp
            generalize L0 ++ [(⟨1, 0, 0, 0, 0, 0, 0⟩ : Ac)] ++ putK ps e f k = M at HA hownA HLM HNN
            have hkx : (k : Int) < (ps.length : Int) := by omega
            have hk0 : (0 : Int) ≤ (k : Int) := by omega
            have hwr : IntKind.i64.wrap (f + (k : Int)) = f + (k : Int) := by rw [IntKind.wrap_i64]; omega
            have SM : Hid (M.length + 1 ≤ maxLen) := show M.length + 1 ≤ maxLen by have := HLM.out; unfold maxLen; omega
            have SB : Hid ((M.length + 1) * 56 ≤ 140737488355328) := show (M.length + 1) * 56 ≤ 140737488355328 by have := HLM.out; omega
            have SH : Hid (w.heap.size ≤ (wr.alloc (.cells #[.int .i64 2, .int .i64 e, .int .i64 (f + k), .int .i64 pat, .int .i64 pr, .int .i64 0, .int .i64 0] 81)).heap.size) := show w.heap.size ≤ (wr.alloc (.cells #[.int .i64 2, .int .i64 e, .int .i64 (f + k), .int .i64 pat, .int .i64 pr, .int .i64 0, .int .i64 0] 81)).heap.size by simp; omega
            have S1 : Hid (0 < 1) := Nat.zero_lt_one
            have S7 : Hid (0 < 7) := show 0 < 7 by decide
            have hn0 := World.new_ne wr _ d0
            have hn1 := World.new_ne wr _ d1
            clear hP hc hown hbel HX HN hpk c0 c1 c2
            go_wp2
            go_region_held3 (fun w' => w'.cell? ⟨b, off + k * 3, none⟩ = some (.int .i64 pat) ∧ w'.cell? ⟨b, off + k * 3 + 1, none⟩ = some (.int .i64 pr)) (first | exact ⟨k0, k1⟩ | go_keep)
              ((refine step_append_lies _ (by rfl) (.tmp 69) (.tmp 85) 34 (by rfl) w.heap.size 81 i0 _ 7 56 Try.underlying34 hi hz0 hz1 hz2 rfl S7.out u9 M.length (rowA M) (by first | rfl | simp [Act.eval] | simp [Act.eval, Act.put]) hownA ⟨wr.heap.size, 0, none⟩ 1 1 (rowA [⟨2, e, f + k, pat, pr, 0, 0⟩]) (by first | rfl | simp [Act.eval] | simp [Act.eval, Act.put]) rfl hcells (rowA_cells_one _) S1.out SM.out SB.out SH.out _ rfl ?_; intro g cp w5 g1 g2 _ _; have R5 := HA.out _ _ g1 (grown_drew g2); have k0 := keep_cell R5.2.1 C0.out; have k1 := keep_cell R5.2.1 C1.out))
            have hs5 := R5.2.2
            have HA2 : Hid _ := app (new := [⟨3, e, 0, pat, 0, 0, 0⟩]) (o := .cells #[.int .i64 3, .int .i64 e, .int .i64 0, .int .i64 pat, .int .i64 0, .int .i64 0, .int .i64 0] 81) R5.1 R5.2.1 hs5
            have hownA2 := owns_alloc R5.1 (.cells #[.int .i64 3, .int .i64 e, .int .i64 0, .int .i64 pat, .int .i64 0, .int .i64 0, .int .i64 0] 81)
            have hcells2 := new_cells w5 ⟨3, e, 0, pat, 0, 0, 0⟩
            have HL5 : Hid ((M ++ [(⟨2, e, f + k, pat, pr, 0, 0⟩ : Ac)]).length = 8 * ps.length + 1 + 2 * k + 1) := show (M ++ [(⟨2, e, f + k, pat, pr, 0, 0⟩ : Ac)]).length = 8 * ps.length + 1 + 2 * k + 1 by
              rw [List.length_append, HLM.out]; rfl
            have hv5 : Hid (M.length + 1 = (M ++ [(⟨2, e, f + k, pat, pr, 0, 0⟩ : Ac)]).length) := show M.length + 1 = (M ++ [(⟨2, e, f + k, pat, pr, 0, 0⟩ : Ac)]).length by simp
            generalize M ++ [(⟨2, e, f + k, pat, pr, 0, 0⟩ : Ac)] = M5 at HA2 hownA2 HL5 HNN hv5
            clear HA hownA hcells g1 g2 R5 d0 d1 hn0 hn1 SM SB SH S1 S7 C0 C1 k1
            go_wp2_with (at_builtin; refine wpList_append_own _ rfl _ _ 34 rfl w.heap.size 81 i0 _ 7 56 Try.underlying34 hi hz0 hz1 hz2 rfl (by decide) _ _ _ rfl hownA2 ⟨w5.heap.size, 0, none⟩ 1 1 (rowA [⟨3, e, 0, pat, 0, 0, 0⟩]) rfl rfl hcells2 (rowA_cells_one _) (by have := HL5.out; unfold maxLen; omega) (by have := HL5.out; omega) (by simp; omega) ?_)
            intro v6 w6 g1 g2 _
            have R6 := HA2.out v6 w6 g1 g2
            clear HA2 hownA2 hcells2 g1 g2 k0
            go_wp2
            go_roundw
            case rel => exact ⟨k + 1, by omega, by go_num, by rw [HNN.out]; exact R6.1, R6.2.1, R6.2.2⟩
            case measure => simp [intOf]; omega
        · have hkl : k = ps.length := by omega
          subst hkl
          have hpk := putK_len ps e f ps.length
          have HLM : Hid ((L0 ++ [(⟨1, 0, 0, 0, 0, 0, 0⟩ : Ac)] ++ putK ps e f ps.length).length = 8 * ps.length + 1 + 2 * ps.length) := show (L0 ++ [(⟨1, 0, 0, 0, 0, 0, 0⟩ : Ac)] ++ putK ps e f ps.length).length = 8 * ps.length + 1 + 2 * ps.length by
            rw [List.length_append, List.length_append, HLL.out, hpk]; rfl
          have HA : Hid _ := app (new := [⟨4, e, 0, 0, 0, 0, 0⟩]) (o := .cells #[.int .i64 4, .int .i64 e, .int .i64 0, .int .i64 0, .int .i64 0, .int .i64 0, .int .i64 0] 81) hown hbel hsz
          have hownA := owns_alloc hown (.cells #[.int .i64 4, .int .i64 e, .int .i64 0, .int .i64 0, .int .i64 0, .int .i64 0, .int .i64 0] 81)
          have hcells := new_cells wr ⟨4, e, 0, 0, 0, 0, 0⟩
          generalize L0 ++ [(⟨1, 0, 0, 0, 0, 0, 0⟩ : Ac)] ++ putK ps e f ps.length = M at HA hownA HLM HPL
          clear hown hbel HX hpk
          go_wp2_with (at_builtin; refine wpList_append_own _ rfl _ _ 34 rfl w.heap.size 81 i0 _ 7 56 Try.underlying34 hi hz0 hz1 hz2 rfl (by decide) _ _ _ rfl hownA ⟨wr.heap.size, 0, none⟩ 1 1 (rowA [⟨4, e, 0, 0, 0, 0, 0⟩]) rfl rfl hcells (rowA_cells_one _) (by have := HLM.out; unfold maxLen; omega) (by have := HLM.out; omega) (by simp; omega) ?_)
          intro v6 w6 g1 g2 _
          have R6 := HA.out v6 w6 g1 g2
          clear HA hownA hcells g1 g2
          go_wp2
          go_ret2
          exact ⟨_, rfl, by rw [← HPL.out]; exact R6.1, R6.2.1⟩

end Go.Proofs.Ytdbbiibnhgcndaa
