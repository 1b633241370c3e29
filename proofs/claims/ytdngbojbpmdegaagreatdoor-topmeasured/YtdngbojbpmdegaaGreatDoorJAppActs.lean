import Derived.Test.YtdngbojbpmdegaaGreatDoorJActRow
import Derived.Test.YtdngbojbpmdegaaGreatDoorJImageMath
import Derived.Test.YtdngbojbpmdegaaGreatDoorImgWalk
import Derived.Deep.RegionHeld3
import Derived.Deep.DeepCutAuto
import Derived.BigQuiet
import Derived.Test.YtdngbojbpmdegaaGreatDoorJQRow
import Derived.Test.YtdngbojbpmdegaaGreatDoorJAppRows
namespace Go.Proofs.YtdngbojbpmdegaaGreatDoor
open Go.RowKit
set_option maxRecDepth 100000
theorem owns_next {w0 w1 w2 : World} {B : Nat} {v v' : Value} {l new : List Ac} {o : Obj} (hown : Owns w1 B v l) (hown' : w2.ownsRow B 68 7 v' (l.length + new.length) (rowA l ++ rowA new)) (hgrow : (w1.alloc o).grownBy w2 v.ownBlock) (hb : Below B w0 w1) (hB : B <= w1.heap.size) :
    Owns w2 B v' (l ++ new) /\ Below B w0 w2 /\ B <= w2.heap.size := by
  have hs := hgrow.size
  refine ⟨by unfold Owns; rw [List.length_append, rowA_append]; exact hown', (hb.alloc hB o).grown hgrow (by simp; omega) (fun k hk => (hown.lt k hk).1), by simp at hs; omega⟩
theorem new_cells (w : World) (x : Ac) : ∀ j u, (rowA [x])[j]? = some u -> (w.alloc (.cells #[.int .i64 x.k, .int .i64 x.e, .int .i64 x.f, .int .i64 x.at_, .int .i64 x.r, .int .i64 x.n, .int .i64 x.fuel] 68)).cell? ((⟨w.heap.size, 0, none⟩ : Addr).add j) = some u := by
  intro j u hj
  rw [add_at, World.cell?_alloc_at _ _ _ _ rfl]
  rw [rowA_one] at hj
  simpa [Ac.cells] using hj
set_option maxHeartbeats 4000000 in
theorem pokes_any (a : Option Addr) (ps : List Pg) (cap : Nat) (f : Int) (w : World) (hl : ps.length <= 8) (hx : PagesAt w a ps) (h8 : ∀ j, j < ps.length -> (ps.getD j default).ws.length = 8) (hf0 : 0 <= f) (hf : f <= 24) :
    Calls Tryz.prog 70 #[.slice a ps.length cap, .int .i64 f] w fun e w' => ∃ v, e = .returned v /\ Owns w' w.heap.size v (pokeK ps f ps.length) /\ Below w.heap.size w w' := by
  obtain ⟨i0, hi, hz0, hz1, hz2⟩ := info_parts act_info
  have HX : Hid (PagesAt w a ps) := hx
  have H8 : Hid (∀ j, j < ps.length -> (ps.getD j default).ws.length = 8) := h8
  clear hx h8
  go_enter Tryz.func70, Tryz.ntmps70
  go_wp2
  go_loopw [5, 12] (fun v i wr => ∃ k : Nat, k <= ps.length /\ i = .int .i64 k /\ Owns wr w.heap.size v (pokeK ps f k) /\ Below w.heap.size w wr /\ w.heap.size <= wr.heap.size) (fun _ i _ => ps.length - (intOf i).toNat)
  case atStart => exact ⟨0, Nat.zero_le _, rfl, World.ownsRow_nil _ _ _ _, Below.refl _ _, Nat.le_refl _⟩
  case round =>
    obtain ⟨k, hk, rfl, hown, hbel, hsz⟩ := hrel
    by_cases hlt : k < ps.length
    · have hX := HX.out.below hbel
      rcases HX.out.at_ with rfl | ⟨b, off, rfl, hc⟩
      · simp at hlt
      · obtain ⟨c0, c1, c2⟩ := hX.cells hlt
        have hok := HX.out.ok k hlt
        have hw8 := H8.out k hlt
        have HN : Hid _ := pokeK_succ ps f k
        have hpl : (pokeK ps f k).length = 8 * k := pokeK_len ps f k fun j hj => H8.out j (by omega)
        obtain ⟨P, hP⟩ : ∃ P, ps.getD k default = P := ⟨_, rfl⟩
        rw [hP] at c0 c1 c2 hok hw8 HN
        obtain ⟨pat, pr, pa, pws, pcap⟩ := P
        dsimp only at c0 c1 c2 hw8 HN
        have HI : Hid (Ints w pa pws) := hok.ints
        have HW : Hid (pws.length = 8) := hw8
        rw [hw8] at c2
        clear hP hok hX hw8 hc
        generalize pokeK ps f k = L at hown HN hpl
        go_wp2
        go_loopw [5, 20] (fun v i wr2 => ∃ j : Nat, j <= 8 /\ i = .int .i64 j /\ Owns wr2 w.heap.size v (L ++ pokeP (f + k) pws j) /\ Below w.heap.size w wr2 /\ w.heap.size <= wr2.heap.size) (fun _ i _ => 8 - (intOf i).toNat)
        case atStart => exact ⟨0, by omega, rfl, by unfold Owns; simpa [pokeP] using World.ownsRow.alloc hown _, hbel.alloc hsz _, by simp; omega⟩
        case round =>
          obtain ⟨j, hj, rfl, hown2, hbel2, hsz2⟩ := hrel
          clear hown hbel hsz c0 c1 c2
          by_cases hlj : j < 8
          · rcases HI.out.below hbel2 with h0 | ⟨pb, po, rfl, hcw⟩
            · have := HW.out; rw [h0] at this; simp at this
            · have hcj := hcw j (by have := HW.out; omega)
              have HP : Hid _ := pokeP_succ (f + k) pws j
              obtain ⟨z, hz⟩ : ∃ z, pws.getD j 0 = z := ⟨_, rfl⟩
              rw [hz] at hcj HP
              have HLL : Hid ((L ++ pokeP (f + k) pws j).length = 8 * k + j) := show (L ++ pokeP (f + k) pws j).length = 8 * k + j by rw [List.length_append, pokeP_len, hpl]
              have hcells := new_cells wr ⟨7, 0, f + k, j, 0, z, 0⟩
              have HA : Hid (∀ v' w2, w2.ownsRow w.heap.size 68 7 v' ((L ++ pokeP (f + k) pws j).length + 1) (rowA (L ++ pokeP (f + k) pws j) ++ rowA [⟨7, 0, f + k, j, 0, z, 0⟩]) -> (wr.alloc (.cells #[.int .i64 7, .int .i64 0, .int .i64 (f + k), .int .i64 j, .int .i64 0, .int .i64 z, .int .i64 0] 68)).grownBy w2 u5.ownBlock ->
                  Owns w2 w.heap.size v' (L ++ pokeP (f + k) pws (j + 1)) /\ Below w.heap.size w w2 /\ w.heap.size <= w2.heap.size) := fun v' w2 g1 g2 => by
                have := owns_next (new := [⟨7, 0, f + k, j, 0, z, 0⟩]) hown2 g1 g2 hbel2 hsz2
                rw [HP.out, <- List.append_assoc]
                exact this
              have hownA := World.ownsRow.alloc hown2 (.cells #[.int .i64 7, .int .i64 0, .int .i64 (f + k), .int .i64 j, .int .i64 0, .int .i64 z, .int .i64 0] 68)
              generalize L ++ pokeP (f + k) pws j = M at hownA HA HLL
              clear hcw hz hown2 HX H8 HN HI HP hbel2
              go_wp2_with (at_builtin; refine wpList_append_own _ rfl _ _ 23 rfl w.heap.size 68 i0 _ 7 56 Tryz.underlying23 hi hz0 hz1 hz2 rfl (by decide) _ _ _ rfl hownA ⟨wr.heap.size, 0, none⟩ 1 1 (rowA [⟨7, 0, f + k, j, 0, z, 0⟩]) rfl rfl hcells (rowA_cells_one _) (by have := HLL.out; unfold maxLen; omega) (by have := HLL.out; omega) (by simp; omega) ?_)
              intro v' w2 g1 g2 _
              have R := HA.out v' w2 g1 g2
              clear HA g1 g2 hownA hcells
              go_wp2
              go_roundw
              case rel => exact ⟨j + 1, by omega, by go_num, R.1, R.2.1, R.2.2⟩
              case measure => simp [intOf]; omega
          · have hj8 : j = 8 := by omega
            subst hj8
            have HN' : Hid (pokeK ps f (k + 1) = L ++ pokeP (f + k) pws 8) := by have := HN.out; rw [HW.out] at this; exact this
            clear HI HN HX H8
            go_wp2
            go_roundw
            case rel => exact ⟨k + 1, by omega, by go_num, by rw [HN'.out]; exact hown2, hbel2, hsz2⟩
            case measure => simp [intOf]; omega
    · have hkl : k = ps.length := by omega
      subst hkl
      clear HX H8
      go_wp2
      go_ret
      exact ⟨_, rfl, hown, hbel⟩
end Go.Proofs.YtdngbojbpmdegaaGreatDoor

namespace Go.Proofs.YtdngbojbpmdegaaGreatDoor
open Go.RowKit
set_option maxRecDepth 100000
def planE (ps : List Pg) (e f : Int) : Int := if imageF ps = 0 then (if (inB e 1 4 && inB f 0 (24 - ps.length)) = true then 0 else 2) else imageF ps
theorem areFrames_any (f : Int) (n : Nat) (w : World) (hn : n <= 8) : Calls Tryz.prog 69 #[.int .i64 f, .int .i64 (n : Int)] w fun e w' => e = .returned (.bool (inB f 0 (24 - n))) /\ w = w' := by
  by_cases h1 : 0 <= f
  · by_cases h2 : f <= 24 - (n : Int)
    · rw [inB_true h1 h2]
      go_enter Tryz.func69, Tryz.ntmps69
      go_wp2
      go_ret
      exact ⟨rfl, rfl⟩
    · rw [inB_high h2]
      go_enter Tryz.func69, Tryz.ntmps69
      go_wp2
      go_ret
      exact ⟨rfl, rfl⟩
  · rw [inB_low h1]
    go_enter Tryz.func69, Tryz.ntmps69
    go_wp2
    go_ret
    exact ⟨rfl, rfl⟩
theorem new_cells2 (w : World) (x y : Ac) : ∀ j u, (rowA [x, y])[j]? = some u -> (w.alloc (.cells #[.int .i64 x.k, .int .i64 x.e, .int .i64 x.f, .int .i64 x.at_, .int .i64 x.r, .int .i64 x.n, .int .i64 x.fuel, .int .i64 y.k, .int .i64 y.e, .int .i64 y.f, .int .i64 y.at_, .int .i64 y.r, .int .i64 y.n, .int .i64 y.fuel] 68)).cell? ((⟨w.heap.size, 0, none⟩ : Addr).add j) = some u := by
  intro j u hj
  rw [add_at, World.cell?_alloc_at _ _ _ _ rfl]
  simpa [rowA, Ac.cells] using hj
theorem owns_alloc {w : World} {B : Nat} {v : Value} {l : List Ac} (h : Owns w B v l) (o : Obj) : Owns (w.alloc o) B v l := World.ownsRow.alloc h o
theorem owns_mono {w : World} {B B' : Nat} {v : Value} {l : List Ac} (h : Owns w B v l) (hB : B' <= B) : Owns w B' v l := by
  refine ⟨h.1, ?_⟩
  rcases h.2 with h0 | ⟨g, cap, cur, h1, h2, h3⟩
  · exact .inl h0
  · exact .inr ⟨g, cap, cur, h1, by omega, h3⟩
theorem app {w0 w1 : World} {B : Nat} {v : Value} {l new : List Ac} {o : Obj} (hown : Owns w1 B v l) (hb : Below B w0 w1) (hB : B <= w1.heap.size) :
    ∀ v' w2, w2.ownsRow B 68 7 v' (l.length + new.length) (rowA l ++ rowA new) -> (w1.alloc o).grownBy w2 v.ownBlock -> Owns w2 B v' (l ++ new) /\ Below B w0 w2 /\ B <= w2.heap.size :=
  fun _ _ g1 g2 => owns_next hown g1 g2 hb hB
theorem planE_zero {ps : List Pg} {e f : Int} (h : planE ps e f = 0) : imageF ps = 0 /\ inB e 1 4 = true /\ inB f 0 (24 - ps.length) = true := by
  unfold planE at h
  by_cases hi : imageF ps = 0
  · rw [if_pos hi] at h
    by_cases hc : (inB e 1 4 && inB f 0 (24 - ps.length)) = true
    · simp at hc; exact ⟨hi, hc.1, hc.2⟩
    · rw [if_neg hc] at h; simp at h
  · rw [if_neg hi] at h; exact absurd h hi
set_option maxHeartbeats 8000000 in
theorem plan_good (a : Option Addr) (ps : List Pg) (cap : Nat) (e f : Int) (w : World) (hl : ps.length <= maxLen) (hx : PagesAt w a ps) (hz : planE ps e f = 0) :
    Calls Tryz.prog 24 #[.slice a ps.length cap, .int .i64 e, .int .i64 f] w fun r w' => ∃ v, r = .returned (.tuple #[v, .int .i64 0]) /\ Owns w' w.heap.size v (planL ps e f) /\ Below w.heap.size w w' := by
  obtain ⟨i0, hi, hz0, hz1, hz2⟩ := info_parts act_info
  obtain ⟨q1, q2, q3⟩ := planE_zero hz
  have hC := check_any a ps cap w hl hx
  rw [q1] at hC
  have hn := image_len q1
  have hF := fun w => areFrames_any f ps.length w hn
  rw [q3] at hF
  have be := inB_iff.1 q2
  have bf := inB_iff.1 q3
  have h8 := image_words q1
  have gP := fun w' (h : Below w.heap.size w w') => pokes_any a ps cap f w' hn (hx.below h) h8 (by omega) (by omega)
  have hpl : (pokeK ps f ps.length).length = 8 * ps.length := pokeK_len ps f _ h8
  have HX : Hid (PagesAt w a ps) := hx
  have H8 : Hid (∀ j, j < ps.length -> (ps.getD j default).ws.length = 8) := h8
  have e1 : ¬ e < 1 := by omega
  have e2 : ¬ 4 < e := by omega
  clear hx hl hz q1 q2 q3 h8
  go_enter Tryz.func24, Tryz.ntmps24
  go_wp2_with (first | (go_at_call 68; go_must (refine hC.mono ?_); rintro r w1 ⟨rfl, hb1⟩; have hs1 := hb1.size) | (go_at_call 69; go_must (refine (hF _).mono ?_); rintro r w2 ⟨rfl, rfl⟩))
  refine (gP _ hb1).mono ?_
  rintro r w3 ⟨v3, rfl, ho3', hb3⟩
  have hs3 := hb3.size
  have ho3 := owns_mono ho3' hs1
  have hb3' : Below w.heap.size w w3 := hb1.trans (hb3.mono hs1)
  have hB3 : w.heap.size <= w3.heap.size := by omega
  have HA : Hid _ := app (new := [⟨1, 0, 0, 0, 0, 0, 0⟩]) (o := .cells #[.int .i64 1, .int .i64 0, .int .i64 0, .int .i64 0, .int .i64 0, .int .i64 0, .int .i64 0] 68) ho3 hb3' hB3
  have hownA := owns_alloc ho3 (.cells #[.int .i64 1, .int .i64 0, .int .i64 0, .int .i64 0, .int .i64 0, .int .i64 0, .int .i64 0] 68)
  have hcells := new_cells w3 ⟨1, 0, 0, 0, 0, 0, 0⟩
  have HLL : Hid ((pokeK ps f ps.length).length = 8 * ps.length) := hpl
  have HPL : Hid (pokeK ps f ps.length ++ [⟨1, 0, 0, 0, 0, 0, 0⟩] ++ putK ps e f ps.length ++ [⟨4, e, 0, 0, 0, 0, 0⟩] = planL ps e f) := rfl
  generalize pokeK ps f ps.length = L0 at HA hownA HLL HPL
  clear gP hF hC hpl ho3 ho3' hb3 hb3' hb1
  go_wp2_with (at_builtin; refine wpList_append_own _ rfl _ _ 23 rfl w.heap.size 68 i0 _ 7 56 Tryz.underlying23 hi hz0 hz1 hz2 rfl (by decide) _ _ _ rfl hownA ⟨w3.heap.size, 0, none⟩ 1 1 (rowA [⟨1, 0, 0, 0, 0, 0, 0⟩]) rfl rfl hcells (rowA_cells_one _) (by have := HLL.out; unfold maxLen; omega) (by have := HLL.out; omega) (by simp; omega) ?_)
  intro v4 w4 g1 g2 _
  have R4 := HA.out v4 w4 g1 g2
  clear HA hownA hcells g1 g2
  go_wp2
  go_loopw [9, 38] (fun v i wr => ∃ k : Nat, k <= ps.length /\ i = .int .i64 k /\ Owns wr w.heap.size v (L0 ++ [⟨1, 0, 0, 0, 0, 0, 0⟩] ++ putK ps e f k) /\ Below w.heap.size w wr /\ w.heap.size <= wr.heap.size) (fun _ i _ => ps.length - (intOf i).toNat)
  case atStart => exact ⟨0, Nat.zero_le _, rfl, by simpa [putK] using R4.1, R4.2.1, R4.2.2⟩
  case round =>
    obtain ⟨k, hk, rfl, hown, hbel, hsz⟩ := hrel
    clear R4
    by_cases hlt : k < ps.length
    · have hX := HX.out.below hbel
      rcases HX.out.at_ with rfl | ⟨b, off, rfl, hc⟩
      · simp at hlt
      · obtain ⟨c0, c1, c2⟩ := hX.cells hlt
        have HN : Hid _ := putK_succ ps e f k
        have hpk := putK_len ps e f k
        obtain ⟨P, hP⟩ : ∃ P, ps.getD k default = P := ⟨_, rfl⟩
        rw [hP] at c0 c1 c2 HN
        obtain ⟨pat, pr, pa, pws, pcap⟩ := P
        dsimp only at c0 c1 c2 HN
        have HLM : Hid ((L0 ++ [(⟨1, 0, 0, 0, 0, 0, 0⟩ : Ac)] ++ putK ps e f k).length = 8 * ps.length + 1 + 2 * k) := show (L0 ++ [(⟨1, 0, 0, 0, 0, 0, 0⟩ : Ac)] ++ putK ps e f k).length = 8 * ps.length + 1 + 2 * k by
          rw [List.length_append, List.length_append, HLL.out, hpk]; rfl
        have hbelA := hbel.alloc hsz (.cells #[.int .i64 pat, .int .i64 pr, .slice pa pws.length pcap] 116)
        have hszA : w.heap.size <= (wr.alloc (.cells #[.int .i64 pat, .int .i64 pr, .slice pa pws.length pcap] 116)).heap.size := by simp; omega
        have HA : Hid _ := app (new := [⟨2, e, f + k, pat, pr, 0, 0⟩, ⟨3, e, 0, pat, 0, 0, 0⟩]) (o := .cells #[.int .i64 2, .int .i64 e, .int .i64 (f + k), .int .i64 pat, .int .i64 pr, .int .i64 0, .int .i64 0, .int .i64 3, .int .i64 e, .int .i64 0, .int .i64 pat, .int .i64 0, .int .i64 0, .int .i64 0] 68)
          (owns_alloc hown (.cells #[.int .i64 pat, .int .i64 pr, .slice pa pws.length pcap] 116)) hbelA hszA
        have hownA := owns_alloc (owns_alloc hown (.cells #[.int .i64 pat, .int .i64 pr, .slice pa pws.length pcap] 116)) (.cells #[.int .i64 2, .int .i64 e, .int .i64 (f + k), .int .i64 pat, .int .i64 pr, .int .i64 0, .int .i64 0, .int .i64 3, .int .i64 e, .int .i64 0, .int .i64 pat, .int .i64 0, .int .i64 0, .int .i64 0] 68)
        have hcells := new_cells2 (wr.alloc (.cells #[.int .i64 pat, .int .i64 pr, .slice pa pws.length pcap] 116)) ⟨2, e, f + k, pat, pr, 0, 0⟩ ⟨3, e, 0, pat, 0, 0, 0⟩
        have HNN : Hid (L0 ++ [⟨1, 0, 0, 0, 0, 0, 0⟩] ++ putK ps e f (k + 1) = L0 ++ [⟨1, 0, 0, 0, 0, 0, 0⟩] ++ putK ps e f k ++ [⟨2, e, f + k, pat, pr, 0, 0⟩, ⟨3, e, 0, pat, 0, 0, 0⟩]) := show _ = _ by rw [HN.out, <- List.append_assoc]
        generalize L0 ++ [(⟨1, 0, 0, 0, 0, 0, 0⟩ : Ac)] ++ putK ps e f k = M at HA hownA HLM HNN
        clear hP hX hc hown hbel hbelA hszA HX H8 HN hpk
        go_wp2_with (at_builtin; refine wpList_append_own _ rfl _ _ 23 rfl w.heap.size 68 i0 _ 7 56 Tryz.underlying23 hi hz0 hz1 hz2 rfl (by decide) _ _ _ rfl hownA ⟨wr.heap.size + 1, 0, none⟩ 2 2 (rowA [⟨2, e, f + k, pat, pr, 0, 0⟩, ⟨3, e, 0, pat, 0, 0, 0⟩]) rfl rfl (by simpa using hcells) (rowA_cells_one _) (by have := HLM.out; unfold maxLen; omega) (by have := HLM.out; omega) (by simp; omega) ?_)
        intro v5 w5 g1 g2 _
        have R5 := HA.out v5 w5 g1 g2
        clear HA hownA hcells g1 g2
        go_wp2
        go_roundw
        case rel => exact ⟨k + 1, by omega, by go_num, by rw [HNN.out]; exact R5.1, R5.2.1, R5.2.2⟩
        case measure => simp [intOf]; omega
    · have hkl : k = ps.length := by omega
      subst hkl
      have hpk := putK_len ps e f ps.length
      have HLM : Hid ((L0 ++ [(⟨1, 0, 0, 0, 0, 0, 0⟩ : Ac)] ++ putK ps e f ps.length).length = 8 * ps.length + 1 + 2 * ps.length) := show (L0 ++ [(⟨1, 0, 0, 0, 0, 0, 0⟩ : Ac)] ++ putK ps e f ps.length).length = 8 * ps.length + 1 + 2 * ps.length by
        rw [List.length_append, List.length_append, HLL.out, hpk]; rfl
      have HA : Hid _ := app (new := [⟨4, e, 0, 0, 0, 0, 0⟩]) (o := .cells #[.int .i64 4, .int .i64 e, .int .i64 0, .int .i64 0, .int .i64 0, .int .i64 0, .int .i64 0] 68) hown hbel hsz
      have hownA := owns_alloc hown (.cells #[.int .i64 4, .int .i64 e, .int .i64 0, .int .i64 0, .int .i64 0, .int .i64 0, .int .i64 0] 68)
      have hcells := new_cells wr ⟨4, e, 0, 0, 0, 0, 0⟩
      generalize L0 ++ [(⟨1, 0, 0, 0, 0, 0, 0⟩ : Ac)] ++ putK ps e f ps.length = M at HA hownA HLM HPL
      clear hown hbel HX H8 hpk
      go_wp2_with (at_builtin; refine wpList_append_own _ rfl _ _ 23 rfl w.heap.size 68 i0 _ 7 56 Tryz.underlying23 hi hz0 hz1 hz2 rfl (by decide) _ _ _ rfl hownA ⟨wr.heap.size, 0, none⟩ 1 1 (rowA [⟨4, e, 0, 0, 0, 0, 0⟩]) rfl rfl hcells (rowA_cells_one _) (by have := HLM.out; unfold maxLen; omega) (by have := HLM.out; omega) (by simp; omega) ?_)
      intro v6 w6 g1 g2 _
      have R6 := HA.out v6 w6 g1 g2
      clear HA hownA hcells g1 g2
      go_wp2
      go_ret2
      exact ⟨_, rfl, by rw [<- HPL.out]; exact R6.1, R6.2.1⟩
end Go.Proofs.YtdngbojbpmdegaaGreatDoor

namespace Go.Proofs.YtdngbojbpmdegaaGreatDoor
open Go.RowKit
set_option maxRecDepth 100000
set_option linter.unusedVariables false
theorem outer_plan {ps : List Pg} {e f : Int} : ∀ x ∈ planL ps e f, x.outer := by
  intro x hx
  unfold planL at hx
  simp only [List.mem_append, List.mem_cons, List.not_mem_nil, or_false] at hx
  rcases hx with ((hx | rfl) | hx) | rfl
  · unfold pokeK at hx
    obtain ⟨i, _, hx⟩ := List.mem_flatMap.1 hx
    unfold pokeP at hx
    obtain ⟨j, _, rfl⟩ := List.mem_map.1 hx
    exact ⟨(by decide : ¬ (7 : Int) = 8), (by decide : ¬ (7 : Int) = 9)⟩
  · exact ⟨(by decide : ¬ (1 : Int) = 8), (by decide : ¬ (1 : Int) = 9)⟩
  · unfold putK at hx
    obtain ⟨i, _, hx⟩ := List.mem_flatMap.1 hx
    simp only [List.mem_cons, List.not_mem_nil, or_false] at hx
    rcases hx with rfl | rfl
    · exact ⟨(by decide : ¬ (2 : Int) = 8), (by decide : ¬ (2 : Int) = 9)⟩
    · exact ⟨(by decide : ¬ (3 : Int) = 8), (by decide : ¬ (3 : Int) = 9)⟩
  · exact ⟨(by decide : ¬ (4 : Int) = 8), (by decide : ¬ (4 : Int) = 9)⟩
end Go.Proofs.YtdngbojbpmdegaaGreatDoor

namespace Go.Proofs.YtdngbojbpmdegaaGreatDoor
open Go.RowKit
set_option maxRecDepth 100000
set_option linter.unusedVariables false
def hasP (frs : List Fr) (e : Int) (p : Pg) : Bool := decide (0 <= placeOf frs e p.at_) && ((frs.getD (placeOf frs e p.at_).toNat default).r == p.r) && decide ((frs.getD (placeOf frs e p.at_).toNat default).ws = p.ws)
def hasB (frs : List Fr) (e : Int) (ps : List Pg) : Bool := ps.all (hasP frs e) && (frs.countP (fun f => f.o == e) == ps.length)
theorem count_succ (l : List Fr) (e : Int) (k : Nat) (hk : k < l.length) : (l.take (k + 1)).countP (fun f => f.o == e) = (l.take k).countP (fun f => f.o == e) + if (l.getD k default).o = e then 1 else 0 := by
  rw [List.take_succ_eq_append_getElem hk, List.countP_append]
  have : l[k] = l.getD k default := by simp [List.getD_eq_getElem?_getD, hk]
  rw [this]
  rw [List.countP_cons, List.countP_nil]
  by_cases h : (l.getD k default).o = e
  · rw [if_pos h, if_pos (beq_iff_eq.2 h)]
  · rw [if_neg h, if_neg (fun q => h (beq_iff_eq.1 q))]
theorem all_succ (l : List Pg) (q : Pg -> Bool) (k : Nat) (hk : k < l.length) : (l.take (k + 1)).all q = ((l.take k).all q && q (l.getD k default)) := by
  rw [List.take_succ_eq_append_getElem hk, List.all_append]
  have : l[k] = l.getD k default := by simp [List.getD_eq_getElem?_getD, hk]
  rw [this]
  simp
theorem all_bad (l : List Pg) (q : Pg -> Bool) (k : Nat) (hk : k < l.length) (h : q (l.getD k default) = false) : l.all q = false := by
  rw [List.all_eq_false]
  exact ⟨l.getD k default, by simp [List.getD_eq_getElem?_getD, hk], by rw [h]; decide⟩
theorem place_lt2 (frs : List Fr) (e a : Int) : placeOf frs e a = -1 ∨ ∃ k : Nat, placeOf frs e a = (k : Int) /\ k < frs.length := by
  unfold placeOf idxOf
  cases h : frs.findIdx? (plB e a) with
  | none => left; rfl
  | some i => exact .inr ⟨i, rfl, (List.findIdx?_eq_some_iff_getElem.1 h).1⟩
set_option maxHeartbeats 8000000 in
theorem has_any (M : Mv) (e : Int) (a : Option Addr) (ps : List Pg) (cap : Nat) (w : World) (hM : MachAt w M) (hl24 : M.frs.length = 24) (hl : ps.length <= 1000) (hx : PagesAt w a ps) :
    Calls Tryz.prog 34 #[M.val, .int .i64 e, .slice a ps.length cap] w fun x w' => x = .returned (.bool (hasB M.frs e ps)) /\ Below w.heap.size w w' := by
  have HPl0 := fun (w' : World) (at_ : Int) (hb : Below w.heap.size w w') => place_any M e at_ w' (hM.below hb)
  unfold Mv.val at HPl0 ⊢
  obtain ⟨fa, frs, fcap, ea, ens, ecap, qa, qus, qcap⟩ := M
  dsimp only at hl24 HPl0 ⊢
  have HL24 : Hid (frs.length = 24) := hl24
  rw [hl24] at HPl0 ⊢
  have HMw : Hid (MachAt w ⟨fa, frs, fcap, ea, ens, ecap, qa, qus, qcap⟩) := hM
  clear hM hl24
  generalize ens.length = ne at *
  generalize qus.length = nq at *
  obtain ⟨W1, hW1⟩ : ∃ W1, Hid (W1 = w.alloc (.cells #[.slice fa 24 fcap, .slice ea ne ecap, .slice qa nq qcap] 29)) := ⟨_, rfl⟩
  obtain ⟨P, hP⟩ : ∃ P, Hid (P = w.heap.size) := ⟨_, rfl⟩
  have p0 : Hid (W1.cell? ⟨P, 0, none⟩ = some (.slice fa 24 fcap)) := show _ = _ by rw [hW1.out, hP.out]; exact World.cell?_alloc_at _ _ _ _ rfl
  have p1 : Hid (W1.cell? ⟨P, 1, none⟩ = some (.slice ea ne ecap)) := show _ = _ by rw [hW1.out, hP.out]; exact World.cell?_alloc_at _ _ _ _ rfl
  have p2 : Hid (W1.cell? ⟨P, 2, none⟩ = some (.slice qa nq qcap)) := show _ = _ by rw [hW1.out, hP.out]; exact World.cell?_alloc_at _ _ _ _ rfl
  have BW : Hid (Below w.heap.size w W1) := show Below _ _ _ by rw [hW1.out]; exact (Below.refl _ _).alloc (Nat.le_refl _) _
  have HM1 : Hid (MachAt W1 ⟨fa, frs, fcap, ea, ens, ecap, qa, qus, qcap⟩) := HMw.out.below BW.out
  have HX1 : Hid (PagesAt W1 a ps) := hx.below BW.out
  have HPl : Hid (_) := HPl0
  have hlP : Hid (P < W1.heap.size) := show _ < _ by rw [hW1.out, hP.out]; simp
  clear hx HMw HPl0
  go_enter Tryz.func34, Tryz.ntmps34
  go_upto_region 2 with fail
  rw [<- hW1.out, <- hP.out]
  clear hW1 hP
  have q0 := p0.out
  have lP := hlP.out
  go_wp2
  clear q0 lP
  go_loopw [7, 16] (fun v i wr => ∃ k : Nat, k <= 24 /\ i = .int .i64 k /\ v = .int .i64 (((frs.take k).countP (fun f => f.o == e) : Nat) : Int) /\ Below W1.heap.size W1 wr) (fun _ i _ => 24 - (intOf i).toNat)
  case atStart => exact ⟨0, by omega, rfl, rfl, Below.refl _ _⟩
  case round =>
    obtain ⟨k, hk, rfl, rfl, hbel⟩ := hrel
    by_cases hlt : k < 24
    · obtain ⟨fb, fo, hfa, c0, c1, c2, c3⟩ := (HM1.out.below hbel).frame (j := k) (by dsimp only; rw [HL24.out]; exact hlt)
      dsimp only at hfa c0 c1 c2 c3
      subst hfa
      have HS : Hid _ := count_succ frs e k (by rw [HL24.out]; exact hlt)
      have hcl : (frs.take k).countP (fun f => f.o == e) <= 24 := Nat.le_trans List.countP_le_length (by simp; omega)
      generalize frs.getD k default = F at c0 c1 c2 c3 HS
      obtain ⟨o, fat, r, wa, ws, wcap⟩ := F
      dsimp only at c0 c1 c2 c3 HS
      generalize (frs.take k).countP (fun f => f.o == e) = n at *
      have hbb : fb < wr.heap.size := lt_of_cell c0
      generalize ws.length = nw at *
      have hkI : (k : Int) < 24 := by omega
      by_cases ho : o = e
      · have HS1 : Hid _ := HS.out.trans (by rw [if_pos ho])
        clear HS
        have to_ : (o == e) = true := by simpa using ho
        clear ho
        go_wp2
        go_roundw
        case rel => exact ⟨k + 1, by omega, by go_num, by rw [HS1.out]; go_num, hbel.alloc hbel.size _⟩
        case measure => simp [intOf]; omega
      · have HS1 : Hid _ := HS.out.trans (by rw [if_neg ho])
        clear HS
        have to_ : (o == e) = false := by simpa using ho
        clear ho
        go_wp2
        go_roundw
        case rel => exact ⟨k + 1, by omega, by go_num, by rw [HS1.out]; rfl, hbel.alloc hbel.size _⟩
        case measure => simp [intOf]; omega
    · have hge : ¬ ((k : Int) < 24) := by omega
      have hk24 : k = 24 := by omega
      have HT : Hid (frs.take k = frs) := show _ = _ by rw [hk24]; exact List.take_of_length_le (by rw [HL24.out]; omega)
      rw [HT.out]
      clear hk hlt hk24
      rename World => Wa
      have hlps : (ps.length : Int) <= 1000 := by omega
      obtain ⟨cn, hcn⟩ : ∃ cn, Hid (cn = frs.countP (fun f => f.o == e)) := ⟨_, rfl⟩
      rw [<- hcn.out]
      go_wp2
      go_loopw [29] (fun i wr => ∃ j : Nat, j <= ps.length /\ i = .int .i64 j /\ Below W1.heap.size W1 wr /\ Hid ((ps.take j).all (hasP frs e) = true)) (fun i _ => ps.length - (intOf i).toNat)
      case atStart => exact ⟨0, Nat.zero_le _, rfl, hbel, rfl⟩
      case round =>
        clear hbel
        obtain ⟨j, hj, rfl, hbel, hall⟩ := hrel
        by_cases hlt : j < ps.length
        · have hX := HX1.out.below hbel
          rcases HX1.out.at_ with rfl | ⟨b, off, rfl, _⟩
          · simp at hlt
          · obtain ⟨c0, c1, c2⟩ := hX.cells hlt
            have okp := hX.ok j hlt
            have HS : Hid _ := all_succ ps (hasP frs e) j hlt
            have HBD : Hid (hasP frs e (ps.getD j default) = false -> hasB frs e ps = false) := fun h => by unfold hasB; rw [all_bad ps _ j hlt h]; rfl
            generalize ps.getD j default = Q at c0 c1 c2 okp HS HBD
            obtain ⟨pat, pr, pa, pws, pcap⟩ := Q
            dsimp only at c0 c1 c2
            have HI : Hid (Ints wr pa pws) := okp.ints
            have HIL : Hid (pws.length <= maxLen) := okp.len
            have lta := lt_of_cell c0
            have hkI : (j : Int) < (ps.length : Int) := by omega
            obtain ⟨W2, hW2⟩ : ∃ W2, Hid (W2 = wr.alloc (.cells #[.int .i64 pat, .int .i64 pr, .slice pa pws.length pcap] 116)) := ⟨_, rfl⟩
            have B2 : Hid (Below wr.heap.size wr W2) := show Below _ _ _ by rw [hW2.out]; exact (Below.refl _ _).alloc (Nat.le_refl _) _
            have HBP : Hid (Below W1.heap.size W1 W2) := show Below _ _ _ from hbel.trans (B2.out.mono hbel.size)
            obtain ⟨G, hG⟩ : ∃ G, Hid (G = wr.heap.size) := ⟨_, rfl⟩
            have g0 : W2.cell? ⟨G, 0, none⟩ = some (.int .i64 pat) := by rw [hW2.out, hG.out]; exact World.cell?_alloc_at _ _ _ _ rfl
            have g1 : W2.cell? ⟨G, 1, none⟩ = some (.int .i64 pr) := by rw [hW2.out, hG.out]; exact World.cell?_alloc_at _ _ _ _ rfl
            have g2 : W2.cell? ⟨G, 2, none⟩ = some (.slice pa pws.length pcap) := by rw [hW2.out, hG.out]; exact World.cell?_alloc_at _ _ _ _ rfl
            have m0 := (HBP.out.cell (p := ⟨P, 0, none⟩) hlP.out).trans p0.out
            have m1 := (HBP.out.cell (p := ⟨P, 1, none⟩) hlP.out).trans p1.out
            have m2 := (HBP.out.cell (p := ⟨P, 2, none⟩) hlP.out).trans p2.out
            have lG := lt_of_cell g0
            have lP := lt_of_cell m0
            go_upto_region 11 with fail
            rw [<- hW2.out, <- hG.out]
            clear hW2 c0 c1 c2 hX okp
            have G0 : Hid (_) := And.intro g1 g2
            have hPl := HPl.out W2 pat (BW.out.trans (HBP.out.mono BW.out.size))
            have hcase := place_lt2 frs e pat
            have HB3 : Hid (hasP frs e ⟨pat, pr, pa, pws, pcap⟩ = (decide (0 <= placeOf frs e pat) && ((frs.getD (placeOf frs e pat).toNat default).r == pr) && decide ((frs.getD (placeOf frs e pat).toNat default).ws = pws))) := rfl
            rcases hcase with hp | ⟨k, hp, hk⟩
            · rw [hp] at hPl HB3
              have HF : Hid (hasB frs e ps = false) := HBD.out (by rw [HB3.out]; rfl)
              clear hp HB3
              go_upto_region 12 with (go_at_call 22; refine hPl.mono ?_; clear hPl; rintro x w3 ⟨rfl, hb3⟩)
              go_quiet (fail)
              go_wp2
              go_ret
              exact ⟨ret_bool HF.out.symm, below_drewN (BW.out.trans (HBP.out.mono BW.out.size) |>.trans (hb3.mono (BW.out.trans (HBP.out.mono BW.out.size)).size)) _⟩
            · rw [hp] at hPl HB3
              rw [Int.toNat_natCast] at HB3
              clear hp
              go_upto_region 12 with (go_at_call 22; refine hPl.mono ?_; clear hPl; rintro x w3 ⟨rfl, hb3⟩)
              have HBA : Hid (Below W1.heap.size W1 w3) := show Below _ _ _ from HBP.out.trans (hb3.mono HBP.out.size)
              obtain ⟨fb, fo, hfa, f0, f1, f2, f3⟩ := (HM1.out.below HBA.out).frame (j := k) hk
              have okf := (HM1.out.below HBA.out).frok k hk
              dsimp only at hfa f0 f1 f2 f3 okf
              subst hfa
              generalize frs.getD k default = F at f0 f1 f2 f3 okf HB3
              obtain ⟨o, fat, r, wa, ws, wcap⟩ := F
              dsimp only at f0 f1 f2 f3 HB3
              have hE := fun n => equal_any wa pa ws pws wcap pcap (w3.drewN n) okf.len HIL.out (okf.ints.below (below_drewN (Below.refl _ _) n)) (HI.out.below (below_drewN (B2.out.trans (hb3.mono B2.out.size)) n))
              have e0 := (hb3.cell (p := ⟨P, 0, none⟩) lP).trans m0
              have e1 := (hb3.cell (p := ⟨G, 1, none⟩) lG).trans g1
              have e2 := (hb3.cell (p := ⟨G, 2, none⟩) lG).trans g2
              have l1 := lt_of_cell e0
              have l2 := lt_of_cell e1
              have l3 := lt_of_cell f0
              have hk24 : (k : Int) < 24 := by have := HL24.out; omega
              have tk0 : decide ((k : Int) < 0) = false := decide_eq_false (by omega)
              have tk1 : decide ((k : Int) ≥ 24) = false := decide_eq_false (by omega)
              have tk2 : decide (24 <= (k : Int)) = false := decide_eq_false (by omega)
              clear okf m0 m1 m2 g0 g1 g2 hb3
              by_cases hr : r = pr
              · have tr : (r != pr) = false := by simpa using hr
                have tr2 : (r == pr) = true := by simpa using hr
                rw [tr2] at HB3
                clear hr tr2
                obtain ⟨z, hz⟩ : ∃ z, z = decide (ws = pws) := ⟨_, rfl⟩
                rw [<- hz] at hE HB3
                clear hz
                generalize pws.length = np at *
                generalize ws.length = nw at *
                cases z with
                | true =>
                  have HT : Hid ((ps.take (j + 1)).all (hasP frs e) = true) := show _ = _ by rw [HS.out, hall.out, HB3.out]; simp
                  go_quiet ((go_at_call 30; exact Calls.quiet_of (hE _)))
                  go_wp2
                  go_roundw
                  case rel => exact ⟨j + 1, by omega, by go_num, below_drewN HBA.out _, HT⟩
                  case measure => simp [intOf]; omega
                | false =>
                  have HF : Hid (hasB frs e ps = false) := HBD.out (by rw [HB3.out]; simp)
                  go_quiet ((go_at_call 30; exact Calls.quiet_of (hE _)))
                  go_wp2
                  go_ret
                  exact ⟨ret_bool HF.out.symm, BW.out.trans ((below_drewN HBA.out _).mono BW.out.size)⟩
              · have tr : (r != pr) = true := by simpa using hr
                have tr2 : (r == pr) = false := by simpa using hr
                rw [tr2] at HB3
                have HF : Hid (hasB frs e ps = false) := HBD.out (by rw [HB3.out]; simp)
                clear hr tr2 hE
                go_quiet (fail)
                go_wp2
                go_ret
                exact ⟨ret_bool HF.out.symm, BW.out.trans ((below_drewN HBA.out _).mono BW.out.size)⟩
        · have hgj : ¬ ((j : Int) < (ps.length : Int)) := by omega
          have hjl : j = ps.length := by omega
          have HA : Hid (ps.all (hasP frs e) = true) := show _ = _ by
            have := hall.out
            rw [hjl, List.take_of_length_le (Nat.le_refl _)] at this
            exact this
          have HF : Hid (hasB frs e ps = ((cn : Int) == (ps.length : Int))) := show _ = _ by
            unfold hasB
            rw [HA.out, <- hcn.out, Bool.true_and]
            by_cases q : cn = ps.length
            · rw [q]; simp
            · rw [beq_eq_false_iff_ne.2 q, beq_eq_false_iff_ne.2 (by omega)]
          clear hall HA hjl hlt HPl
          go_wp2
          go_ret
          exact ⟨ret_bool HF.out.symm, BW.out.trans (hbel.mono BW.out.size)⟩
end Go.Proofs.YtdngbojbpmdegaaGreatDoor

namespace Go.Proofs.YtdngbojbpmdegaaGreatDoor
open Go.RowKit
structure Walled (m : Nat) (M N : Mv) : Prop where
  len : N.frs.length = M.frs.length
  ens : N.ens = M.ens
  own : ∀ j, (N.frs.getD j default).o = (M.frs.getD j default).o /\ (N.frs.getD j default).at_ = (M.frs.getD j default).at_ /\ (N.frs.getD j default).r = (M.frs.getD j default).r
  ws : ∀ j, (M.frs.getD j default).o ≠ 0 -> ((M.frs.getD j default).o ≠ (m : Int) + 1 ∨ ¬ (M.frs.getD j default).r / 2 % 2 = 1) -> (N.frs.getD j default).ws = (M.frs.getD j default).ws
  qus : ∃ l, N.qus = M.qus ++ l
theorem Walled.refl (m : Nat) (M : Mv) : Walled m M M := ⟨rfl, rfl, fun _ => ⟨rfl, rfl, rfl⟩, fun _ _ _ => rfl, [], by simp⟩
theorem Walled.trans {m : Nat} {M N K : Mv} (h : Walled m M N) (g : Walled m N K) : Walled m M K := by
  refine ⟨g.len.trans h.len, g.ens.trans h.ens, fun j => ?_, fun j h0 hc => ?_, ?_⟩
  · obtain ⟨a, b, c⟩ := h.own j
    obtain ⟨a', b', c'⟩ := g.own j
    exact ⟨a'.trans a, b'.trans b, c'.trans c⟩
  · obtain ⟨a, b, c⟩ := h.own j
    rw [g.ws j (by rw [a]; exact h0) (by rw [a, c]; exact hc), h.ws j h0 hc]
  · obtain ⟨l, hl⟩ := h.qus
    obtain ⟨k, hk⟩ := g.qus
    exact ⟨l ++ k, by rw [hk, hl, List.append_assoc]⟩
end Go.Proofs.YtdngbojbpmdegaaGreatDoor

namespace Go.Proofs.YtdngbojbpmdegaaGreatDoor
open Go.RowKit
theorem hasB_same {M N : Mv} (h : M.Same N) {e : Int} {ps : List Pg} (k : hasM N e ps) : hasB M.frs e ps = true := by
  unfold hasB
  rw [Bool.and_eq_true]
  refine ⟨List.all_eq_true.2 fun p hp => ?_, beq_iff_eq.2 ((countP_upto h.len fun j hj => (by unfold ownB; rw [(h.fr j hj).1])).trans k.1)⟩
  obtain ⟨i, hi, q1, q2, q3⟩ := k.2 p hp
  unfold hasP
  rw [placeOf_same h, q1, Int.toNat_natCast, same_r h, ws_same h, q2, q3]
  simp
end Go.Proofs.YtdngbojbpmdegaaGreatDoor

namespace Go.Proofs.YtdngbojbpmdegaaGreatDoor
open Go.RowKit
set_option maxRecDepth 100000
theorem append_empty {P : Program} (w : World) (t ty e : TypeId) (i : TypeInfo) (ht : P.underlying t = some (.slice e)) (hi : P.info? e = some i) (a : Addr) (n cap : Nat) (hn : n <= cap) (ap : Option Addr) (cap' : Nat) :
    (Builtin.append_ #[t, t] ty #[.slice (some a) n cap, .slice ap 0 cap']).run P w = .ok (.slice (some a) n cap) w := by
  cases ap <;> simp [Builtin.append_, run_underlying ht, sizeOf, typeInfo, hi, Builtin.lenOf, Builtin.firstCells, loadCells, loadCellsFrom, storeCells, hn]
theorem app_acts {w w0 : World} {B : Nat} {v : Value} {l : List Ac} (hown : Owns w B v l) (hb : Below B w0 w) (hB : B <= w.heap.size) (qa : Option Addr) (ql : List Ac) (qc : Nat) (hq : RowsAt w 7 Ac.cells qa ql) (hs : l.length + ql.length <= 20000) :
    ∃ v' w', (Builtin.append_ #[23, 23] 23 #[v, .slice qa ql.length qc]).run Tryz.prog w = .ok v' w' /\ Owns w' B v' (l ++ ql) /\ Below B w0 w' /\ B <= w'.heap.size := by
  obtain ⟨i0, hi, hz0, hz1, hz2⟩ := info_parts act_info
  by_cases h0 : ql = []
  · subst h0
    rw [List.append_nil]
    rcases hown.2 with ⟨hv, h1⟩ | ⟨g, cap, cur, hv, _, _, h1, _⟩
    · exact ⟨v, w, by rw [hv]; exact append_none w _ _ _ i0 Tryz.underlying23 hi qa qc, hown, hb, hB⟩
    · exact ⟨v, w, by rw [hv]; exact append_empty w _ _ _ i0 Tryz.underlying23 hi _ _ _ h1 qa qc, hown, hb, hB⟩
  · rcases hq with e | ⟨b, off, rfl, hc⟩
    · exact absurd e h0
    · have hpos : 0 < ql.length := List.length_pos_iff.2 h0
      obtain ⟨g, cap, w', h1, h2, h3, _, _⟩ := run_append_lies (P := Tryz.prog) (w := w) 23 23 B 68 i0 _ 7 56 Tryz.underlying23 hi hz0 hz1 hz2 rfl (by decide) v l.length (rowA l) hown ⟨b, off, none⟩ ql.length qc (rowA ql) (rowA_len ql) (src_of_rows (cells := Ac.cells) (c := 7) (fun _ => rfl) (by decide) hc) (rowA_cells_one ql) hpos (by unfold maxLen; omega) (by omega) hB _ rfl
      refine ⟨_, w', h1, by unfold Owns; rw [List.length_append, rowA_append]; exact h2, hb.grown h3 hB (fun k hk => (hown.lt k hk).1), ?_⟩
      have := h3.size
      omega
end Go.Proofs.YtdngbojbpmdegaaGreatDoor
