/-
  A list of acts that a call has made, as a row that may be read, and what host.Run says of a script without trusts (own work). No condition. What the call pokes (image) answers, for an image that may be: a new list that holds a poke for each word; nothing that was in memory turns. What the call Plan (image) answers, for every list of pages, enclave and frame: the error number that P1.5 says, and a new list of the acts that build the image; nothing that was in memory turns.
-/
import Derived.Test.YtdngbojbpmdegaaGreatDoorHostRun
import Derived.Test.YtdngbojbpmdegaaGreatDoorTopPlan
import Derived.Test.YtdngbojbpmdegaaGreatDoorJImageMath
import Derived.Test.YtdngbojbpmdegaaGreatDoorJActs
namespace Go.Proofs.YtdngbojbpmdegaaGreatDoor
open Go.RowKit
set_option maxRecDepth 100000

theorem acts_row {w : World} {B : Nat} {v : Value} {l : List Ac} (h : Owns w B v l) : ∃ a cap, v = .slice a l.length cap ∧ RowsAt w 7 Ac.cells a l := by
  rcases h.2 with ⟨hv, h0⟩ | ⟨g, cap, cur, hv, _, hg, _, _, _, h4⟩
  · exact ⟨none, 0, by rw [hv, h0], .inl (List.eq_nil_of_length_eq_zero h0)⟩
  · refine ⟨some ⟨g, 0, none⟩, cap, hv, ?_⟩
    have e : cur = (l.flatMap Ac.cells ++ cur.toList.drop (l.length * 7)).toArray := by
      have : (rowA l ++ cur.toList.drop (l.length * 7)).toArray = cur := by rw [← h4, List.take_append_drop]
      exact this.symm
    rw [e] at hg
    exact rows_of_block (cells := Ac.cells) (c := 7) (fun _ => rfl) hg
theorem runF_nil {l : List Ac} (h : l.length ≤ 200) : runF [] l = 0 := by
  unfold runF
  have : chF [] [] = 0 := rfl
  rw [if_pos this, if_neg (by omega)]
theorem Picked_any (n many : Int) (w : World) (hn : (Lit.int .i64 n).wf = true) (h0 : 0 < many) (h1 : many ≤ 1000000) :
    Calls Tryz.prog 35 #[.int .i64 n, .int .i64 many] w fun e w' => e = .returned (.int .i64 (pick n many)) ∧ w = w' := by
  have h := fun w' => picked_any n many w' hn h0 h1
  generalize pick n many = z at h ⊢
  go_enter Tryz.func35, Tryz.ntmps35
  go_wp2_with (go_at_call 17; refine (h _).mono ?_; rintro e w' ⟨rfl, rfl⟩)
  go_ret
  exact ⟨rfl, rfl⟩
theorem plan_len {ps : List Pg} (h : imageF ps = 0) (e f : Int) : (planL ps e f).length ≤ 82 := by
  have h8 := image_len h
  unfold planL
  rw [List.length_append, List.length_append, List.length_append, putK_len, pokeK_len ps f _ (image_words h)]
  simp only [List.length_cons, List.length_nil]
  omega
theorem plan_ok {ps : List Pg} (h : imageF ps = 0) {e f : Int} (he : 0 ≤ e ∧ e ≤ 65535) (hf : 0 ≤ f ∧ f ≤ 1000) : ∀ x ∈ planL ps e f, x.Ok := by
  have h8 := image_len h
  have hpf := imgF_all ps none h
  have wz : (Lit.int .i64 0).wf = true := by decide
  intro x hx
  unfold planL at hx
  simp only [List.mem_append, List.mem_cons, List.not_mem_nil, or_false] at hx
  rcases hx with ((hx | rfl) | hx) | rfl
  · unfold pokeK at hx
    obtain ⟨i, hi, hx⟩ := List.mem_flatMap.1 hx
    have hil : i < ps.length := by simpa using hi
    unfold pokeP at hx
    obtain ⟨j, hj, rfl⟩ := List.mem_map.1 hx
    have hjl : j < (ps.getD i default).ws.length := by simpa using hj
    have hw := mayW_iff.1 (Pg.f_zero (hpf _ (mem_getD hil))).2.2
    have hn := hw.2 _ (getD_mem hjl)
    have := hw.1
    exact ⟨(by decide : (Lit.int .i64 7).wf = true), wz, wf_of (by dsimp only; omega), wf_of (by dsimp only; omega), wz, wf_of (by dsimp only; omega), wz⟩
  · exact ⟨(by decide : (Lit.int .i64 1).wf = true), wz, wz, wz, wz, wz, wz⟩
  · unfold putK at hx
    obtain ⟨i, hi, hx⟩ := List.mem_flatMap.1 hx
    have hil : i < ps.length := by simpa using hi
    obtain ⟨b1, b2, _⟩ := Pg.f_zero (hpf _ (mem_getD hil))
    have b1 := inB_iff.1 b1
    have b2 := inB_iff.1 b2
    simp only [List.mem_cons, List.not_mem_nil, or_false] at hx
    rcases hx with rfl | rfl
    · exact ⟨(by decide : (Lit.int .i64 2).wf = true), wf_of (by dsimp only; omega), wf_of (by dsimp only; omega), wf_of (by dsimp only; omega), wf_of (by dsimp only; omega), wz, wz⟩
    · exact ⟨(by decide : (Lit.int .i64 3).wf = true), wf_of (by dsimp only; omega), wz, wf_of (by dsimp only; omega), wz, wz, wz⟩
  · exact ⟨(by decide : (Lit.int .i64 4).wf = true), wf_of (by dsimp only; omega), wz, wz, wz, wz, wz⟩

end Go.Proofs.YtdngbojbpmdegaaGreatDoor

namespace Go.Proofs.YtdngbojbpmdegaaGreatDoor
open Go.RowKit
set_option maxRecDepth 100000

theorem owns_next {w0 w1 w2 : World} {B : Nat} {v v' : Value} {l new : List Ac} {o : Obj} (hown : Owns w1 B v l) (hown' : w2.ownsRow B 68 7 v' (l.length + new.length) (rowA l ++ rowA new)) (hgrow : (w1.alloc o).grownBy w2 v.ownBlock) (hb : Below B w0 w1) (hB : B ≤ w1.heap.size) :
    Owns w2 B v' (l ++ new) ∧ Below B w0 w2 ∧ B ≤ w2.heap.size := by
  have hs := hgrow.size
  refine ⟨by unfold Owns; rw [List.length_append, rowA_append]; exact hown', (hb.alloc hB o).grown hgrow (by simp; omega) (fun k hk => (hown.lt k hk).1), by simp at hs; omega⟩

theorem new_cells (w : World) (x : Ac) : ∀ j u, (rowA [x])[j]? = some u → (w.alloc (.cells #[.int .i64 x.k, .int .i64 x.e, .int .i64 x.f, .int .i64 x.at_, .int .i64 x.r, .int .i64 x.n, .int .i64 x.fuel] 68)).cell? ((⟨w.heap.size, 0, none⟩ : Addr).add j) = some u := by
  intro j u hj
  rw [add_at, World.cell?_alloc_at _ _ _ _ rfl]
  rw [rowA_one] at hj
  simpa [Ac.cells] using hj

set_option maxHeartbeats 4000000 in
theorem pokes_any (a : Option Addr) (ps : List Pg) (cap : Nat) (f : Int) (w : World) (hl : ps.length ≤ 8) (hx : PagesAt w a ps) (h8 : ∀ j, j < ps.length → (ps.getD j default).ws.length = 8) (hf0 : 0 ≤ f) (hf : f ≤ 24) :
    Calls Tryz.prog 70 #[.slice a ps.length cap, .int .i64 f] w fun e w' => ∃ v, e = .returned v ∧ Owns w' w.heap.size v (pokeK ps f ps.length) ∧ Below w.heap.size w w' := by
  obtain ⟨i0, hi, hz0, hz1, hz2⟩ := info_parts act_info
  have HX : Hid (PagesAt w a ps) := hx
  have H8 : Hid (∀ j, j < ps.length → (ps.getD j default).ws.length = 8) := h8
  clear hx h8
  go_enter Tryz.func70, Tryz.ntmps70
  go_wp2
  go_loopw [5, 12] (fun v i wr => ∃ k : Nat, k ≤ ps.length ∧ i = .int .i64 k ∧ Owns wr w.heap.size v (pokeK ps f k) ∧ Below w.heap.size w wr ∧ w.heap.size ≤ wr.heap.size) (fun _ i _ => ps.length - (intOf i).toNat)
  case atStart => exact ⟨0, Nat.zero_le _, rfl, World.ownsRow_nil _ _ _ _, Below.refl _ _, Nat.le_refl _⟩
  case round =>
    obtain ⟨k, hk, rfl, hown, hbel, hsz⟩ := hrel
    by_cases hlt : k < ps.length
    · have hX := HX.out.below hbel
      rcases HX.out.at_ with rfl | ⟨b, off, rfl, hc⟩
      · simp at hlt
      · obtain ⟨c0, c1, c2⟩ := hX.cells hlt
        have hok := HX.out.ok k hlt
        have hw8 := H8.out k hlt
        have HN : Hid _ := pokeK_succ ps f k
        have hpl : (pokeK ps f k).length = 8 * k := pokeK_len ps f k fun j hj => H8.out j (by omega)
        obtain ⟨P, hP⟩ : ∃ P, ps.getD k default = P := ⟨_, rfl⟩
        rw [hP] at c0 c1 c2 hok hw8 HN
        obtain ⟨pat, pr, pa, pws, pcap⟩ := P
        dsimp only at c0 c1 c2 hw8 HN
        have HI : Hid (Ints w pa pws) := hok.ints
        have HW : Hid (pws.length = 8) := hw8
        rw [hw8] at c2
        clear hP hok hX hw8 hc
        generalize pokeK ps f k = L at hown HN hpl
        go_wp2
        go_loopw [5, 20] (fun v i wr2 => ∃ j : Nat, j ≤ 8 ∧ i = .int .i64 j ∧ Owns wr2 w.heap.size v (L ++ pokeP (f + k) pws j) ∧ Below w.heap.size w wr2 ∧ w.heap.size ≤ wr2.heap.size) (fun _ i _ => 8 - (intOf i).toNat)
        case atStart => exact ⟨0, by omega, rfl, by unfold Owns; simpa [pokeP] using World.ownsRow.alloc hown _, hbel.alloc hsz _, by simp; omega⟩
        case round =>
          obtain ⟨j, hj, rfl, hown2, hbel2, hsz2⟩ := hrel
          clear hown hbel hsz c0 c1 c2
          by_cases hlj : j < 8
          · rcases HI.out.below hbel2 with h0 | ⟨pb, po, rfl, hcw⟩
            · have := HW.out; rw [h0] at this; simp at this
            · have hcj := hcw j (by have := HW.out; omega)
              have HP : Hid _ := pokeP_succ (f + k) pws j
              obtain ⟨z, hz⟩ : ∃ z, pws.getD j 0 = z := ⟨_, rfl⟩
              rw [hz] at hcj HP
              have HLL : Hid ((L ++ pokeP (f + k) pws j).length = 8 * k + j) := show (L ++ pokeP (f + k) pws j).length = 8 * k + j by rw [List.length_append, pokeP_len, hpl]
              have hcells := new_cells wr ⟨7, 0, f + k, j, 0, z, 0⟩
              have HA : Hid (∀ v' w2, w2.ownsRow w.heap.size 68 7 v' ((L ++ pokeP (f + k) pws j).length + 1) (rowA (L ++ pokeP (f + k) pws j) ++ rowA [⟨7, 0, f + k, j, 0, z, 0⟩]) → (wr.alloc (.cells #[.int .i64 7, .int .i64 0, .int .i64 (f + k), .int .i64 j, .int .i64 0, .int .i64 z, .int .i64 0] 68)).grownBy w2 u5.ownBlock →
                  Owns w2 w.heap.size v' (L ++ pokeP (f + k) pws (j + 1)) ∧ Below w.heap.size w w2 ∧ w.heap.size ≤ w2.heap.size) := fun v' w2 g1 g2 => by
                have := owns_next (new := [⟨7, 0, f + k, j, 0, z, 0⟩]) hown2 g1 g2 hbel2 hsz2
                rw [HP.out, ← List.append_assoc]
                exact this
              have hownA := World.ownsRow.alloc hown2 (.cells #[.int .i64 7, .int .i64 0, .int .i64 (f + k), .int .i64 j, .int .i64 0, .int .i64 z, .int .i64 0] 68)
              generalize L ++ pokeP (f + k) pws j = M at hownA HA HLL
              clear hcw hz hown2 HX H8 HN HI HP hbel2
              go_wp2_with (at_builtin; refine wpList_append_own _ rfl _ _ 23 rfl w.heap.size 68 i0 _ 7 56 Tryz.underlying23 hi hz0 hz1 hz2 rfl (by decide) _ _ _ rfl hownA ⟨wr.heap.size, 0, none⟩ 1 1 (rowA [⟨7, 0, f + k, j, 0, z, 0⟩]) rfl rfl hcells (rowA_cells_one _) (by have := HLL.out; unfold maxLen; omega) (by have := HLL.out; omega) (by simp; omega) ?_)
              intro v' w2 g1 g2 _
              have R := HA.out v' w2 g1 g2
              clear HA g1 g2 hownA hcells
              go_wp2
              go_roundw
              case rel => exact ⟨j + 1, by omega, by go_num, R.1, R.2.1, R.2.2⟩
              case measure => simp [intOf]; omega
          · have hj8 : j = 8 := by omega
            subst hj8
            have HN' : Hid (pokeK ps f (k + 1) = L ++ pokeP (f + k) pws 8) := by have := HN.out; rw [HW.out] at this; exact this
            clear HI HN HX H8
            go_wp2
            go_roundw
            case rel => exact ⟨k + 1, by omega, by go_num, by rw [HN'.out]; exact hown2, hbel2, hsz2⟩
            case measure => simp [intOf]; omega
    · have hkl : k = ps.length := by omega
      subst hkl
      clear HX H8
      go_wp2
      go_ret
      exact ⟨_, rfl, hown, hbel⟩

end Go.Proofs.YtdngbojbpmdegaaGreatDoor

namespace Go.Proofs.YtdngbojbpmdegaaGreatDoor
open Go.RowKit
set_option maxRecDepth 100000

/-- what a plan is refused for (0: nothing) -/
def planE (ps : List Pg) (e f : Int) : Int := if imageF ps = 0 then (if (inB e 1 4 && inB f 0 (24 - ps.length)) = true then 0 else 2) else imageF ps
theorem areFrames_any (f : Int) (n : Nat) (w : World) (hn : n ≤ 8) : Calls Tryz.prog 69 #[.int .i64 f, .int .i64 (n : Int)] w fun e w' => e = .returned (.bool (inB f 0 (24 - n))) ∧ w = w' := by
  by_cases h1 : 0 ≤ f
  · by_cases h2 : f ≤ 24 - (n : Int)
    · rw [inB_true h1 h2]
      go_enter Tryz.func69, Tryz.ntmps69
      go_wp2
      go_ret
      exact ⟨rfl, rfl⟩
    · rw [inB_high h2]
      go_enter Tryz.func69, Tryz.ntmps69
      go_wp2
      go_ret
      exact ⟨rfl, rfl⟩
  · rw [inB_low h1]
    go_enter Tryz.func69, Tryz.ntmps69
    go_wp2
    go_ret
    exact ⟨rfl, rfl⟩

theorem new_cells2 (w : World) (x y : Ac) : ∀ j u, (rowA [x, y])[j]? = some u → (w.alloc (.cells #[.int .i64 x.k, .int .i64 x.e, .int .i64 x.f, .int .i64 x.at_, .int .i64 x.r, .int .i64 x.n, .int .i64 x.fuel, .int .i64 y.k, .int .i64 y.e, .int .i64 y.f, .int .i64 y.at_, .int .i64 y.r, .int .i64 y.n, .int .i64 y.fuel] 68)).cell? ((⟨w.heap.size, 0, none⟩ : Addr).add j) = some u := by
  intro j u hj
  rw [add_at, World.cell?_alloc_at _ _ _ _ rfl]
  simpa [rowA, Ac.cells] using hj

theorem owns_alloc {w : World} {B : Nat} {v : Value} {l : List Ac} (h : Owns w B v l) (o : Obj) : Owns (w.alloc o) B v l := World.ownsRow.alloc h o

theorem owns_mono {w : World} {B B' : Nat} {v : Value} {l : List Ac} (h : Owns w B v l) (hB : B' ≤ B) : Owns w B' v l := by
  refine ⟨h.1, ?_⟩
  rcases h.2 with h0 | ⟨g, cap, cur, h1, h2, h3⟩
  · exact .inl h0
  · exact .inr ⟨g, cap, cur, h1, by omega, h3⟩
/-- the append of some acts, told by what it does -/
theorem app {w0 w1 : World} {B : Nat} {v : Value} {l new : List Ac} {o : Obj} (hown : Owns w1 B v l) (hb : Below B w0 w1) (hB : B ≤ w1.heap.size) :
    ∀ v' w2, w2.ownsRow B 68 7 v' (l.length + new.length) (rowA l ++ rowA new) → (w1.alloc o).grownBy w2 v.ownBlock → Owns w2 B v' (l ++ new) ∧ Below B w0 w2 ∧ B ≤ w2.heap.size :=
  fun _ _ g1 g2 => owns_next hown g1 g2 hb hB

theorem planE_zero {ps : List Pg} {e f : Int} (h : planE ps e f = 0) : imageF ps = 0 ∧ inB e 1 4 = true ∧ inB f 0 (24 - ps.length) = true := by
  unfold planE at h
  by_cases hi : imageF ps = 0
  · rw [if_pos hi] at h
    by_cases hc : (inB e 1 4 && inB f 0 (24 - ps.length)) = true
    · simp at hc; exact ⟨hi, hc.1, hc.2⟩
    · rw [if_neg hc] at h; simp at h
  · rw [if_neg hi] at h; exact absurd h hi

set_option maxHeartbeats 8000000 in
theorem plan_good (a : Option Addr) (ps : List Pg) (cap : Nat) (e f : Int) (w : World) (hl : ps.length ≤ maxLen) (hx : PagesAt w a ps) (hz : planE ps e f = 0) :
    Calls Tryz.prog 24 #[.slice a ps.length cap, .int .i64 e, .int .i64 f] w fun r w' => ∃ v, r = .returned (.tuple #[v, .int .i64 0]) ∧ Owns w' w.heap.size v (planL ps e f) ∧ Below w.heap.size w w' := by
  obtain ⟨i0, hi, hz0, hz1, hz2⟩ := info_parts act_info
  obtain ⟨q1, q2, q3⟩ := planE_zero hz
  have hC := check_any a ps cap w hl hx
  rw [q1] at hC
  have hn := image_len q1
  have hF := fun w => areFrames_any f ps.length w hn
  rw [q3] at hF
  have be := inB_iff.1 q2
  have bf := inB_iff.1 q3
  have h8 := image_words q1
  have gP := fun w' (h : Below w.heap.size w w') => pokes_any a ps cap f w' hn (hx.below h) h8 (by omega) (by omega)
  have hpl : (pokeK ps f ps.length).length = 8 * ps.length := pokeK_len ps f _ h8
  have HX : Hid (PagesAt w a ps) := hx
  have H8 : Hid (∀ j, j < ps.length → (ps.getD j default).ws.length = 8) := h8
  have e1 : ¬ e < 1 := by omega
  have e2 : ¬ 4 < e := by omega
  clear hx hl hz q1 q2 q3 h8
  go_enter Tryz.func24, Tryz.ntmps24
  go_wp2_with (first | (go_at_call 68; go_must (refine hC.mono ?_); rintro r w1 ⟨rfl, hb1⟩; have hs1 := hb1.size) | (go_at_call 69; go_must (refine (hF _).mono ?_); rintro r w2 ⟨rfl, rfl⟩))
  refine (gP _ hb1).mono ?_
  rintro r w3 ⟨v3, rfl, ho3', hb3⟩
  have hs3 := hb3.size
  have ho3 := owns_mono ho3' hs1
  have hb3' : Below w.heap.size w w3 := hb1.trans (hb3.mono hs1)
  have hB3 : w.heap.size ≤ w3.heap.size := by omega
  have HA : Hid _ := app (new := [⟨1, 0, 0, 0, 0, 0, 0⟩]) (o := .cells #[.int .i64 1, .int .i64 0, .int .i64 0, .int .i64 0, .int .i64 0, .int .i64 0, .int .i64 0] 68) ho3 hb3' hB3
  have hownA := owns_alloc ho3 (.cells #[.int .i64 1, .int .i64 0, .int .i64 0, .int .i64 0, .int .i64 0, .int .i64 0, .int .i64 0] 68)
  have hcells := new_cells w3 ⟨1, 0, 0, 0, 0, 0, 0⟩
  have HLL : Hid ((pokeK ps f ps.length).length = 8 * ps.length) := hpl
  have HPL : Hid (pokeK ps f ps.length ++ [⟨1, 0, 0, 0, 0, 0, 0⟩] ++ putK ps e f ps.length ++ [⟨4, e, 0, 0, 0, 0, 0⟩] = planL ps e f) := rfl
  generalize pokeK ps f ps.length = L0 at HA hownA HLL HPL
  clear gP hF hC hpl ho3 ho3' hb3 hb3' hb1
  go_wp2_with (at_builtin; refine wpList_append_own _ rfl _ _ 23 rfl w.heap.size 68 i0 _ 7 56 Tryz.underlying23 hi hz0 hz1 hz2 rfl (by decide) _ _ _ rfl hownA ⟨w3.heap.size, 0, none⟩ 1 1 (rowA [⟨1, 0, 0, 0, 0, 0, 0⟩]) rfl rfl hcells (rowA_cells_one _) (by have := HLL.out; unfold maxLen; omega) (by have := HLL.out; omega) (by simp; omega) ?_)
  intro v4 w4 g1 g2 _
  have R4 := HA.out v4 w4 g1 g2
  clear HA hownA hcells g1 g2
  go_wp2
  go_loopw [9, 38] (fun v i wr => ∃ k : Nat, k ≤ ps.length ∧ i = .int .i64 k ∧ Owns wr w.heap.size v (L0 ++ [⟨1, 0, 0, 0, 0, 0, 0⟩] ++ putK ps e f k) ∧ Below w.heap.size w wr ∧ w.heap.size ≤ wr.heap.size) (fun _ i _ => ps.length - (intOf i).toNat)
  case atStart => exact ⟨0, Nat.zero_le _, rfl, by simpa [putK] using R4.1, R4.2.1, R4.2.2⟩
  case round =>
    obtain ⟨k, hk, rfl, hown, hbel, hsz⟩ := hrel
    clear R4
    by_cases hlt : k < ps.length
    · have hX := HX.out.below hbel
      rcases HX.out.at_ with rfl | ⟨b, off, rfl, hc⟩
      · simp at hlt
      · obtain ⟨c0, c1, c2⟩ := hX.cells hlt
        have HN : Hid _ := putK_succ ps e f k
        have hpk := putK_len ps e f k
        obtain ⟨P, hP⟩ : ∃ P, ps.getD k default = P := ⟨_, rfl⟩
        rw [hP] at c0 c1 c2 HN
        obtain ⟨pat, pr, pa, pws, pcap⟩ := P
        dsimp only at c0 c1 c2 HN
        have HLM : Hid ((L0 ++ [(⟨1, 0, 0, 0, 0, 0, 0⟩ : Ac)] ++ putK ps e f k).length = 8 * ps.length + 1 + 2 * k) := show (L0 ++ [(⟨1, 0, 0, 0, 0, 0, 0⟩ : Ac)] ++ putK ps e f k).length = 8 * ps.length + 1 + 2 * k by
          rw [List.length_append, List.length_append, HLL.out, hpk]; rfl
        have hbelA := hbel.alloc hsz (.cells #[.int .i64 pat, .int .i64 pr, .slice pa pws.length pcap] 116)
        have hszA : w.heap.size ≤ (wr.alloc (.cells #[.int .i64 pat, .int .i64 pr, .slice pa pws.length pcap] 116)).heap.size := by simp; omega
        have HA : Hid _ := app (new := [⟨2, e, f + k, pat, pr, 0, 0⟩, ⟨3, e, 0, pat, 0, 0, 0⟩]) (o := .cells #[.int .i64 2, .int .i64 e, .int .i64 (f + k), .int .i64 pat, .int .i64 pr, .int .i64 0, .int .i64 0, .int .i64 3, .int .i64 e, .int .i64 0, .int .i64 pat, .int .i64 0, .int .i64 0, .int .i64 0] 68)
          (owns_alloc hown (.cells #[.int .i64 pat, .int .i64 pr, .slice pa pws.length pcap] 116)) hbelA hszA
        have hownA := owns_alloc (owns_alloc hown (.cells #[.int .i64 pat, .int .i64 pr, .slice pa pws.length pcap] 116)) (.cells #[.int .i64 2, .int .i64 e, .int .i64 (f + k), .int .i64 pat, .int .i64 pr, .int .i64 0, .int .i64 0, .int .i64 3, .int .i64 e, .int .i64 0, .int .i64 pat, .int .i64 0, .int .i64 0, .int .i64 0] 68)
        have hcells := new_cells2 (wr.alloc (.cells #[.int .i64 pat, .int .i64 pr, .slice pa pws.length pcap] 116)) ⟨2, e, f + k, pat, pr, 0, 0⟩ ⟨3, e, 0, pat, 0, 0, 0⟩
        have HNN : Hid (L0 ++ [⟨1, 0, 0, 0, 0, 0, 0⟩] ++ putK ps e f (k + 1) = L0 ++ [⟨1, 0, 0, 0, 0, 0, 0⟩] ++ putK ps e f k ++ [⟨2, e, f + k, pat, pr, 0, 0⟩, ⟨3, e, 0, pat, 0, 0, 0⟩]) := show _ = _ by rw [HN.out, ← List.append_assoc]
        generalize L0 ++ [(⟨1, 0, 0, 0, 0, 0, 0⟩ : Ac)] ++ putK ps e f k = M at HA hownA HLM HNN
        clear hP hX hc hown hbel hbelA hszA HX H8 HN hpk
        go_wp2_with (at_builtin; refine wpList_append_own _ rfl _ _ 23 rfl w.heap.size 68 i0 _ 7 56 Tryz.underlying23 hi hz0 hz1 hz2 rfl (by decide) _ _ _ rfl hownA ⟨wr.heap.size + 1, 0, none⟩ 2 2 (rowA [⟨2, e, f + k, pat, pr, 0, 0⟩, ⟨3, e, 0, pat, 0, 0, 0⟩]) rfl rfl (by simpa using hcells) (rowA_cells_one _) (by have := HLM.out; unfold maxLen; omega) (by have := HLM.out; omega) (by simp; omega) ?_)
        intro v5 w5 g1 g2 _
        have R5 := HA.out v5 w5 g1 g2
        clear HA hownA hcells g1 g2
        go_wp2
        go_roundw
        case rel => exact ⟨k + 1, by omega, by go_num, by rw [HNN.out]; exact R5.1, R5.2.1, R5.2.2⟩
        case measure => simp [intOf]; omega
    · have hkl : k = ps.length := by omega
      subst hkl
      have hpk := putK_len ps e f ps.length
      have HLM : Hid ((L0 ++ [(⟨1, 0, 0, 0, 0, 0, 0⟩ : Ac)] ++ putK ps e f ps.length).length = 8 * ps.length + 1 + 2 * ps.length) := show (L0 ++ [(⟨1, 0, 0, 0, 0, 0, 0⟩ : Ac)] ++ putK ps e f ps.length).length = 8 * ps.length + 1 + 2 * ps.length by
        rw [List.length_append, List.length_append, HLL.out, hpk]; rfl
      have HA : Hid _ := app (new := [⟨4, e, 0, 0, 0, 0, 0⟩]) (o := .cells #[.int .i64 4, .int .i64 e, .int .i64 0, .int .i64 0, .int .i64 0, .int .i64 0, .int .i64 0] 68) hown hbel hsz
      have hownA := owns_alloc hown (.cells #[.int .i64 4, .int .i64 e, .int .i64 0, .int .i64 0, .int .i64 0, .int .i64 0, .int .i64 0] 68)
      have hcells := new_cells wr ⟨4, e, 0, 0, 0, 0, 0⟩
      generalize L0 ++ [(⟨1, 0, 0, 0, 0, 0, 0⟩ : Ac)] ++ putK ps e f ps.length = M at HA hownA HLM HPL
      clear hown hbel HX H8 hpk
      go_wp2_with (at_builtin; refine wpList_append_own _ rfl _ _ 23 rfl w.heap.size 68 i0 _ 7 56 Tryz.underlying23 hi hz0 hz1 hz2 rfl (by decide) _ _ _ rfl hownA ⟨wr.heap.size, 0, none⟩ 1 1 (rowA [⟨4, e, 0, 0, 0, 0, 0⟩]) rfl rfl hcells (rowA_cells_one _) (by have := HLM.out; unfold maxLen; omega) (by have := HLM.out; omega) (by simp; omega) ?_)
      intro v6 w6 g1 g2 _
      have R6 := HA.out v6 w6 g1 g2
      clear HA hownA hcells g1 g2
      go_wp2
      go_ret2
      exact ⟨_, rfl, by rw [← HPL.out]; exact R6.1, R6.2.1⟩

end Go.Proofs.YtdngbojbpmdegaaGreatDoor
