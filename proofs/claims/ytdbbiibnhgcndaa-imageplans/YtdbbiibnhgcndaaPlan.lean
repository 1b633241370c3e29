/-
  What the call Plan (image) answers, for every list of pages, enclave and frame: the error number that P1.5 says, and a new list of the acts that build the image; nothing that was in memory turns.
-/
import Derived.Test.YtdbbiibnhgcndaaPokes
import Derived.Test.YtdbbiibnhgcndaaImageMath
namespace Go.Proofs.Ytdbbiibnhgcndaa
open Go.RowKit
set_option maxRecDepth 100000

/-- what a plan is refused for (0: nothing) -/
def planE (ps : List Pg) (e f : Int) : Int := if imageF ps = 0 then (if (inB e 1 4 && inB f 0 (24 - ps.length)) = true then 0 else 2) else imageF ps
/-- its acts -/
def planA (ps : List Pg) (e f : Int) : List Ac := if planE ps e f = 0 then planL ps e f else []

theorem areFrames_any (f : Int) (n : Nat) (w : World) (hn : n ≤ 8) : Calls Try.prog 65 #[.int .i64 f, .int .i64 (n : Int)] w fun e w' => e = .returned (.bool (inB f 0 (24 - n))) ∧ w = w' := by
  by_cases h1 : 0 ≤ f
  · by_cases h2 : f ≤ 24 - (n : Int)
    · rw [inB_true h1 h2]
      go_enter Try.func65, Try.ntmps65
      go_wp2
      go_ret
      exact ⟨rfl, rfl⟩
    · rw [inB_high h2]
      go_enter Try.func65, Try.ntmps65
      go_wp2
      go_ret
      exact ⟨rfl, rfl⟩
  · rw [inB_low h1]
    go_enter Try.func65, Try.ntmps65
    go_wp2
    go_ret
    exact ⟨rfl, rfl⟩

theorem new_cells2 (w : World) (x y : Ac) : ∀ j u, (rowA [x, y])[j]? = some u → (w.alloc (.cells #[.int .i64 x.k, .int .i64 x.e, .int .i64 x.f, .int .i64 x.at_, .int .i64 x.r, .int .i64 x.n, .int .i64 x.fuel, .int .i64 y.k, .int .i64 y.e, .int .i64 y.f, .int .i64 y.at_, .int .i64 y.r, .int .i64 y.n, .int .i64 y.fuel] 81)).cell? ((⟨w.heap.size, 0, none⟩ : Addr).add j) = some u := by
  intro j u hj
  rw [add_at, World.cell?_alloc_at _ _ _ _ rfl]
  simpa [rowA, Ac.cells] using hj

theorem owns_alloc {w : World} {B : Nat} {v : Value} {l : List Ac} (h : Owns w B v l) (o : Obj) : Owns (w.alloc o) B v l := World.ownsRow.alloc h o

theorem owns_mono {w : World} {B B' : Nat} {v : Value} {l : List Ac} (h : Owns w B v l) (hB : B' ≤ B) : Owns w B' v l := by
  refine ⟨h.1, ?_⟩
  rcases h.2 with h0 | ⟨g, cap, cur, h1, h2, h3⟩
  · exact .inl h0
  · exact .inr ⟨g, cap, cur, h1, by omega, h3⟩
/-- the append of some acts, told by what it does -/
theorem app {w0 w1 : World} {B : Nat} {v : Value} {l new : List Ac} {o : Obj} (hown : Owns w1 B v l) (hb : Below B w0 w1) (hB : B ≤ w1.heap.size) :
    ∀ v' w2, w2.ownsRow B 81 7 v' (l.length + new.length) (rowA l ++ rowA new) → (w1.alloc o).grownBy w2 v.ownBlock → Owns w2 B v' (l ++ new) ∧ Below B w0 w2 ∧ B ≤ w2.heap.size :=
  fun _ _ g1 g2 => owns_next hown g1 g2 hb hB

set_option maxHeartbeats 4000000 in
theorem plan_bad (a : Option Addr) (ps : List Pg) (cap : Nat) (e f : Int) (w : World) (hl : ps.length ≤ maxLen) (hx : PagesAt w a ps) (hz : ¬ planE ps e f = 0) :
    Calls Try.prog 29 #[.slice a ps.length cap, .int .i64 e, .int .i64 f] w fun r w' => r = .returned (.tuple #[.slice none 0 0, .int .i64 (planE ps e f)]) ∧ Below w.heap.size w w' := by
  have hC := check_any a ps cap w hl hx
  unfold planE at hz ⊢
  by_cases hi : imageF ps = 0
  · rw [if_pos hi] at hz ⊢
    rw [hi] at hC
    have hn := image_len hi
    have hF := fun w => areFrames_any f ps.length w hn
    clear hx hl hi
    by_cases h1 : e < 1
    · rw [inB_low (by omega)]
      go_enter Try.func29, Try.ntmps29
      go_wp2_with (first | (go_at_call 25; go_must (refine hC.mono ?_); rintro r w1 ⟨rfl, hb1⟩) | (go_at_call 65; go_must (refine (hF _).mono ?_); rintro r w2 ⟨rfl, rfl⟩))
      go_ret2
      exact ⟨rfl, hb1⟩
    · by_cases h2 : 4 < e
      · rw [inB_high (by omega)]
        go_enter Try.func29, Try.ntmps29
        go_wp2_with (first | (go_at_call 25; go_must (refine hC.mono ?_); rintro r w1 ⟨rfl, hb1⟩) | (go_at_call 65; go_must (refine (hF _).mono ?_); rintro r w2 ⟨rfl, rfl⟩))
        go_ret2
        exact ⟨rfl, hb1⟩
      · have h3 : inB e 1 4 = true := inB_true (by omega) (by omega)
        rw [h3] at hz ⊢
        have h4 : inB f 0 (24 - ps.length) = false := by
          cases h : inB f 0 (24 - ps.length)
          · rfl
          · rw [h] at hz; simp at hz
        rw [h4] at hF ⊢
        clear hz h3 h4
        go_enter Try.func29, Try.ntmps29
        go_wp2_with (first | (go_at_call 25; go_must (refine hC.mono ?_); rintro r w1 ⟨rfl, hb1⟩) | (go_at_call 65; go_must (refine (hF _).mono ?_); rintro r w2 ⟨rfl, rfl⟩))
        go_ret2
        exact ⟨rfl, hb1⟩
  · rw [if_neg hi]
    have hi1 : (imageF ps != 0) = true := by simpa using hi
    generalize imageF ps = z at hC hi hi1 ⊢
    clear hx hl hz
    go_enter Try.func29, Try.ntmps29
    go_wp2_with (go_at_call 25; go_must (refine hC.mono ?_); rintro r w1 ⟨rfl, hb1⟩)
    go_ret2
    exact ⟨rfl, hb1⟩

theorem planE_zero {ps : List Pg} {e f : Int} (h : planE ps e f = 0) : imageF ps = 0 ∧ inB e 1 4 = true ∧ inB f 0 (24 - ps.length) = true := by
  unfold planE at h
  by_cases hi : imageF ps = 0
  · rw [if_pos hi] at h
    by_cases hc : (inB e 1 4 && inB f 0 (24 - ps.length)) = true
    · simp at hc; exact ⟨hi, hc.1, hc.2⟩
    · rw [if_neg hc] at h; simp at h
  · rw [if_neg hi] at h; exact absurd h hi

set_option maxHeartbeats 8000000 in
theorem plan_good (a : Option Addr) (ps : List Pg) (cap : Nat) (e f : Int) (w : World) (hl : ps.length ≤ maxLen) (hx : PagesAt w a ps) (hz : planE ps e f = 0) :
    Calls Try.prog 29 #[.slice a ps.length cap, .int .i64 e, .int .i64 f] w fun r w' => ∃ v, r = .returned (.tuple #[v, .int .i64 0]) ∧ Owns w' w.heap.size v (planL ps e f) ∧ Below w.heap.size w w' := by
  obtain ⟨i0, hi, hz0, hz1, hz2⟩ := info_parts act_info
  obtain ⟨q1, q2, q3⟩ := planE_zero hz
  have hC := check_any a ps cap w hl hx
  rw [q1] at hC
  have hn := image_len q1
  have hF := fun w => areFrames_any f ps.length w hn
  rw [q3] at hF
  have be := inB_iff.1 q2
  have bf := inB_iff.1 q3
  have h8 := image_words q1
  have gP := fun w' (h : Below w.heap.size w w') => pokes_any a ps cap f w' hn (hx.below h) h8 (by omega) (by omega)
  have hpl : (pokeK ps f ps.length).length = 8 * ps.length := pokeK_len ps f _ h8
  have HX : Hid (PagesAt w a ps) := hx
  have H8 : Hid (∀ j, j < ps.length → (ps.getD j default).ws.length = 8) := h8
  have e1 : ¬ e < 1 := by omega
  have e2 : ¬ 4 < e := by omega
  clear hx hl hz q1 q2 q3 h8
  go_enter Try.func29, Try.ntmps29
  go_wp2_with (first | (go_at_call 25; go_must (refine hC.mono ?_); rintro r w1 ⟨rfl, hb1⟩; have hs1 := hb1.size) | (go_at_call 65; go_must (refine (hF _).mono ?_); rintro r w2 ⟨rfl, rfl⟩))
  refine (gP _ hb1).mono ?_
  rintro r w3 ⟨v3, rfl, ho3', hb3⟩
  have hs3 := hb3.size
  have ho3 := owns_mono ho3' hs1
  have hb3' : Below w.heap.size w w3 := hb1.trans (hb3.mono hs1)
  have hB3 : w.heap.size ≤ w3.heap.size := by omega
  have HA : Hid _ := app (new := [⟨1, 0, 0, 0, 0, 0, 0⟩]) (o := .cells #[.int .i64 1, .int .i64 0, .int .i64 0, .int .i64 0, .int .i64 0, .int .i64 0, .int .i64 0] 81) ho3 hb3' hB3
  have hownA := owns_alloc ho3 (.cells #[.int .i64 1, .int .i64 0, .int .i64 0, .int .i64 0, .int .i64 0, .int .i64 0, .int .i64 0] 81)
  have hcells := new_cells w3 ⟨1, 0, 0, 0, 0, 0, 0⟩
  have HLL : Hid ((pokeK ps f ps.length).length = 8 * ps.length) := hpl
  have HPL : Hid (pokeK ps f ps.length ++ [⟨1, 0, 0, 0, 0, 0, 0⟩] ++ putK ps e f ps.length ++ [⟨4, e, 0, 0, 0, 0, 0⟩] = planL ps e f) := rfl
  generalize pokeK ps f ps.length = L0 at HA hownA HLL HPL
  clear gP hF hC hpl ho3 ho3' hb3 hb3' hb1
  go_wp2_with (at_builtin; refine wpList_append_own _ rfl _ _ 34 rfl w.heap.size 81 i0 _ 7 56 Try.underlying34 hi hz0 hz1 hz2 rfl (by decide) _ _ _ rfl hownA ⟨w3.heap.size, 0, none⟩ 1 1 (rowA [⟨1, 0, 0, 0, 0, 0, 0⟩]) rfl rfl hcells (rowA_cells_one _) (by have := HLL.out; unfold maxLen; omega) (by have := HLL.out; omega) (by simp; omega) ?_)
  intro v4 w4 g1 g2 _
  have R4 := HA.out v4 w4 g1 g2
  clear HA hownA hcells g1 g2
  go_wp2
  go_loopw [9, 38] (fun v i wr => ∃ k : Nat, k ≤ ps.length ∧ i = .int .i64 k ∧ Owns wr w.heap.size v (L0 ++ [⟨1, 0, 0, 0, 0, 0, 0⟩] ++ putK ps e f k) ∧ Below w.heap.size w wr ∧ w.heap.size ≤ wr.heap.size) (fun _ i _ => ps.length - (intOf i).toNat)
  case atStart => exact ⟨0, Nat.zero_le _, rfl, by simpa [putK] using R4.1, R4.2.1, R4.2.2⟩
  case round =>
    obtain ⟨k, hk, rfl, hown, hbel, hsz⟩ := hrel
    clear R4
    by_cases hlt : k < ps.length
    · have hX := HX.out.below hbel
      rcases HX.out.at_ with rfl | ⟨b, off, rfl, hc⟩
      · simp at hlt
      · obtain ⟨c0, c1, c2⟩ := hX.cells hlt
        have HN : Hid _ := putK_succ ps e f k
        have hpk := putK_len ps e f k
        obtain ⟨P, hP⟩ : ∃ P, ps.getD k default = P := ⟨_, rfl⟩
        rw [hP] at c0 c1 c2 HN
        obtain ⟨pat, pr, pa, pws, pcap⟩ := P
        dsimp only at c0 c1 c2 HN
        have HLM : Hid ((L0 ++ [(⟨1, 0, 0, 0, 0, 0, 0⟩ : Ac)] ++ putK ps e f k).length = 8 * ps.length + 1 + 2 * k) := show (L0 ++ [(⟨1, 0, 0, 0, 0, 0, 0⟩ : Ac)] ++ putK ps e f k).length = 8 * ps.length + 1 + 2 * k by
          rw [List.length_append, List.length_append, HLL.out, hpk]; rfl
        have hbelA := hbel.alloc hsz (.cells #[.int .i64 pat, .int .i64 pr, .slice pa pws.length pcap] 25)
        have hszA : w.heap.size ≤ (wr.alloc (.cells #[.int .i64 pat, .int .i64 pr, .slice pa pws.length pcap] 25)).heap.size := by simp; omega
        have HA : Hid _ := app (new := [⟨2, e, f + k, pat, pr, 0, 0⟩, ⟨3, e, 0, pat, 0, 0, 0⟩]) (o := .cells #[.int .i64 2, .int .i64 e, .int .i64 (f + k), .int .i64 pat, .int .i64 pr, .int .i64 0, .int .i64 0, .int .i64 3, .int .i64 e, .int .i64 0, .int .i64 pat, .int .i64 0, .int .i64 0, .int .i64 0] 81)
          (owns_alloc hown (.cells #[.int .i64 pat, .int .i64 pr, .slice pa pws.length pcap] 25)) hbelA hszA
        have hownA := owns_alloc (owns_alloc hown (.cells #[.int .i64 pat, .int .i64 pr, .slice pa pws.length pcap] 25)) (.cells #[.int .i64 2, .int .i64 e, .int .i64 (f + k), .int .i64 pat, .int .i64 pr, .int .i64 0, .int .i64 0, .int .i64 3, .int .i64 e, .int .i64 0, .int .i64 pat, .int .i64 0, .int .i64 0, .int .i64 0] 81)
        have hcells := new_cells2 (wr.alloc (.cells #[.int .i64 pat, .int .i64 pr, .slice pa pws.length pcap] 25)) ⟨2, e, f + k, pat, pr, 0, 0⟩ ⟨3, e, 0, pat, 0, 0, 0⟩
        have HNN : Hid (L0 ++ [⟨1, 0, 0, 0, 0, 0, 0⟩] ++ putK ps e f (k + 1) = L0 ++ [⟨1, 0, 0, 0, 0, 0, 0⟩] ++ putK ps e f k ++ [⟨2, e, f + k, pat, pr, 0, 0⟩, ⟨3, e, 0, pat, 0, 0, 0⟩]) := show _ = _ by rw [HN.out, ← List.append_assoc]
        generalize L0 ++ [(⟨1, 0, 0, 0, 0, 0, 0⟩ : Ac)] ++ putK ps e f k = M at HA hownA HLM HNN
        clear hP hX hc hown hbel hbelA hszA HX H8 HN hpk
        go_wp2_with (at_builtin; refine wpList_append_own _ rfl _ _ 34 rfl w.heap.size 81 i0 _ 7 56 Try.underlying34 hi hz0 hz1 hz2 rfl (by decide) _ _ _ rfl hownA ⟨wr.heap.size + 1, 0, none⟩ 2 2 (rowA [⟨2, e, f + k, pat, pr, 0, 0⟩, ⟨3, e, 0, pat, 0, 0, 0⟩]) rfl rfl (by simpa using hcells) (rowA_cells_one _) (by have := HLM.out; unfold maxLen; omega) (by have := HLM.out; omega) (by simp; omega) ?_)
        intro v5 w5 g1 g2 _
        have R5 := HA.out v5 w5 g1 g2
        clear HA hownA hcells g1 g2
        go_wp2
        go_roundw
        case rel => exact ⟨k + 1, by omega, by go_num, by rw [HNN.out]; exact R5.1, R5.2.1, R5.2.2⟩
        case measure => simp [intOf]; omega
    · have hkl : k = ps.length := by omega
      subst hkl
      have hpk := putK_len ps e f ps.length
      have HLM : Hid ((L0 ++ [(⟨1, 0, 0, 0, 0, 0, 0⟩ : Ac)] ++ putK ps e f ps.length).length = 8 * ps.length + 1 + 2 * ps.length) := show (L0 ++ [(⟨1, 0, 0, 0, 0, 0, 0⟩ : Ac)] ++ putK ps e f ps.length).length = 8 * ps.length + 1 + 2 * ps.length by
        rw [List.length_append, List.length_append, HLL.out, hpk]; rfl
      have HA : Hid _ := app (new := [⟨4, e, 0, 0, 0, 0, 0⟩]) (o := .cells #[.int .i64 4, .int .i64 e, .int .i64 0, .int .i64 0, .int .i64 0, .int .i64 0, .int .i64 0] 81) hown hbel hsz
      have hownA := owns_alloc hown (.cells #[.int .i64 4, .int .i64 e, .int .i64 0, .int .i64 0, .int .i64 0, .int .i64 0, .int .i64 0] 81)
      have hcells := new_cells wr ⟨4, e, 0, 0, 0, 0, 0⟩
      generalize L0 ++ [(⟨1, 0, 0, 0, 0, 0, 0⟩ : Ac)] ++ putK ps e f ps.length = M at HA hownA HLM HPL
      clear hown hbel HX H8 hpk
      go_wp2_with (at_builtin; refine wpList_append_own _ rfl _ _ 34 rfl w.heap.size 81 i0 _ 7 56 Try.underlying34 hi hz0 hz1 hz2 rfl (by decide) _ _ _ rfl hownA ⟨wr.heap.size, 0, none⟩ 1 1 (rowA [⟨4, e, 0, 0, 0, 0, 0⟩]) rfl rfl hcells (rowA_cells_one _) (by have := HLM.out; unfold maxLen; omega) (by have := HLM.out; omega) (by simp; omega) ?_)
      intro v6 w6 g1 g2 _
      have R6 := HA.out v6 w6 g1 g2
      clear HA hownA hcells g1 g2
      go_wp2
      go_ret2
      exact ⟨_, rfl, by rw [← HPL.out]; exact R6.1, R6.2.1⟩

end Go.Proofs.Ytdbbiibnhgcndaa
