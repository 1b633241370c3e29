/-
  A list of acts that a call has made, as a row that may be read, and what host.Run says of a script without trusts (own work). No condition. What the call pokes (image) answers, for an image that may be: a new list that holds a poke for each word; nothing that was in memory turns. What the call Plan (image) answers, for every list of pages, enclave and frame: the error number that P1.5 says, and a new list of the acts that build the image; nothing that was in memory turns. What the call started (riddletop) answers: an image that may be, a machine with that image as its first enclave, and true: it is never refused. The conditions: the raw things are within the reach of the form; the library's tables are laid.
-/
import Derived.Test.YtdngbojbpmdegaaGreatDoorHostRun
import Derived.Test.YtdngbojbpmdegaaGreatDoorTopPlan
import Derived.Test.YtdngbojbpmdegaaGreatDoorJImageMath
import Derived.Test.YtdngbojbpmdegaaGreatDoorJActs
import Derived.Test.YtdngbojbpmdegaaGreatDoorImgWalk
import Derived.Deep.RegionHeld3
import Derived.Deep.DeepCutAuto
import Derived.BigQuiet
namespace Go.Proofs.YtdngbojbpmdegaaGreatDoor
open Go.RowKit
set_option maxRecDepth 100000

theorem acts_row {w : World} {B : Nat} {v : Value} {l : List Ac} (h : Owns w B v l) : ∃ a cap, v = .slice a l.length cap ∧ RowsAt w 7 Ac.cells a l := by
  rcases h.2 with ⟨hv, h0⟩ | ⟨g, cap, cur, hv, _, hg, _, _, _, h4⟩
  · exact ⟨none, 0, by rw [hv, h0], .inl (List.eq_nil_of_length_eq_zero h0)⟩
  · refine ⟨some ⟨g, 0, none⟩, cap, hv, ?_⟩
    have e : cur = (l.flatMap Ac.cells ++ cur.toList.drop (l.length * 7)).toArray := by
      have : (rowA l ++ cur.toList.drop (l.length * 7)).toArray = cur := by rw [← h4, List.take_append_drop]
      exact this.symm
    rw [e] at hg
    exact rows_of_block (cells := Ac.cells) (c := 7) (fun _ => rfl) hg
theorem runF_nil {l : List Ac} (h : l.length ≤ 200) : runF [] l = 0 := by
  unfold runF
  have : chF [] [] = 0 := rfl
  rw [if_pos this, if_neg (by omega)]
theorem Picked_any (n many : Int) (w : World) (hn : (Lit.int .i64 n).wf = true) (h0 : 0 < many) (h1 : many ≤ 1000000) :
    Calls Tryz.prog 35 #[.int .i64 n, .int .i64 many] w fun e w' => e = .returned (.int .i64 (pick n many)) ∧ w = w' := by
  have h := fun w' => picked_any n many w' hn h0 h1
  generalize pick n many = z at h ⊢
  go_enter Tryz.func35, Tryz.ntmps35
  go_wp2_with (go_at_call 17; refine (h _).mono ?_; rintro e w' ⟨rfl, rfl⟩)
  go_ret
  exact ⟨rfl, rfl⟩
theorem plan_len {ps : List Pg} (h : imageF ps = 0) (e f : Int) : (planL ps e f).length ≤ 82 := by
  have h8 := image_len h
  unfold planL
  rw [List.length_append, List.length_append, List.length_append, putK_len, pokeK_len ps f _ (image_words h)]
  simp only [List.length_cons, List.length_nil]
  omega
theorem plan_ok {ps : List Pg} (h : imageF ps = 0) {e f : Int} (he : 0 ≤ e ∧ e ≤ 65535) (hf : 0 ≤ f ∧ f ≤ 1000) : ∀ x ∈ planL ps e f, x.Ok := by
  have h8 := image_len h
  have hpf := imgF_all ps none h
  have wz : (Lit.int .i64 0).wf = true := by decide
  intro x hx
  unfold planL at hx
  simp only [List.mem_append, List.mem_cons, List.not_mem_nil, or_false] at hx
  rcases hx with ((hx | rfl) | hx) | rfl
  · unfold pokeK at hx
    obtain ⟨i, hi, hx⟩ := List.mem_flatMap.1 hx
    have hil : i < ps.length := by simpa using hi
    unfold pokeP at hx
    obtain ⟨j, hj, rfl⟩ := List.mem_map.1 hx
    have hjl : j < (ps.getD i default).ws.length := by simpa using hj
    have hw := mayW_iff.1 (Pg.f_zero (hpf _ (mem_getD hil))).2.2
    have hn := hw.2 _ (getD_mem hjl)
    have := hw.1
    exact ⟨(by decide : (Lit.int .i64 7).wf = true), wz, wf_of (by dsimp only; omega), wf_of (by dsimp only; omega), wz, wf_of (by dsimp only; omega), wz⟩
  · exact ⟨(by decide : (Lit.int .i64 1).wf = true), wz, wz, wz, wz, wz, wz⟩
  · unfold putK at hx
    obtain ⟨i, hi, hx⟩ := List.mem_flatMap.1 hx
    have hil : i < ps.length := by simpa using hi
    obtain ⟨b1, b2, _⟩ := Pg.f_zero (hpf _ (mem_getD hil))
    have b1 := inB_iff.1 b1
    have b2 := inB_iff.1 b2
    simp only [List.mem_cons, List.not_mem_nil, or_false] at hx
    rcases hx with rfl | rfl
    · exact ⟨(by decide : (Lit.int .i64 2).wf = true), wf_of (by dsimp only; omega), wf_of (by dsimp only; omega), wf_of (by dsimp only; omega), wf_of (by dsimp only; omega), wz, wz⟩
    · exact ⟨(by decide : (Lit.int .i64 3).wf = true), wf_of (by dsimp only; omega), wz, wf_of (by dsimp only; omega), wz, wz, wz⟩
  · exact ⟨(by decide : (Lit.int .i64 4).wf = true), wf_of (by dsimp only; omega), wz, wz, wz, wz, wz⟩

end Go.Proofs.YtdngbojbpmdegaaGreatDoor

namespace Go.Proofs.YtdngbojbpmdegaaGreatDoor
open Go.RowKit
set_option maxRecDepth 100000

theorem owns_next {w0 w1 w2 : World} {B : Nat} {v v' : Value} {l new : List Ac} {o : Obj} (hown : Owns w1 B v l) (hown' : w2.ownsRow B 68 7 v' (l.length + new.length) (rowA l ++ rowA new)) (hgrow : (w1.alloc o).grownBy w2 v.ownBlock) (hb : Below B w0 w1) (hB : B ≤ w1.heap.size) :
    Owns w2 B v' (l ++ new) ∧ Below B w0 w2 ∧ B ≤ w2.heap.size := by
  have hs := hgrow.size
  refine ⟨by unfold Owns; rw [List.length_append, rowA_append]; exact hown', (hb.alloc hB o).grown hgrow (by simp; omega) (fun k hk => (hown.lt k hk).1), by simp at hs; omega⟩

theorem new_cells (w : World) (x : Ac) : ∀ j u, (rowA [x])[j]? = some u → (w.alloc (.cells #[.int .i64 x.k, .int .i64 x.e, .int .i64 x.f, .int .i64 x.at_, .int .i64 x.r, .int .i64 x.n, .int .i64 x.fuel] 68)).cell? ((⟨w.heap.size, 0, none⟩ : Addr).add j) = some u := by
  intro j u hj
  rw [add_at, World.cell?_alloc_at _ _ _ _ rfl]
  rw [rowA_one] at hj
  simpa [Ac.cells] using hj

set_option maxHeartbeats 4000000 in
theorem pokes_any (a : Option Addr) (ps : List Pg) (cap : Nat) (f : Int) (w : World) (hl : ps.length ≤ 8) (hx : PagesAt w a ps) (h8 : ∀ j, j < ps.length → (ps.getD j default).ws.length = 8) (hf0 : 0 ≤ f) (hf : f ≤ 24) :
    Calls Tryz.prog 70 #[.slice a ps.length cap, .int .i64 f] w fun e w' => ∃ v, e = .returned v ∧ Owns w' w.heap.size v (pokeK ps f ps.length) ∧ Below w.heap.size w w' := by
  obtain ⟨i0, hi, hz0, hz1, hz2⟩ := info_parts act_info
  have HX : Hid (PagesAt w a ps) := hx
  have H8 : Hid (∀ j, j < ps.length → (ps.getD j default).ws.length = 8) := h8
  clear hx h8
  go_enter Tryz.func70, Tryz.ntmps70
  go_wp2
  go_loopw [5, 12] (fun v i wr => ∃ k : Nat, k ≤ ps.length ∧ i = .int .i64 k ∧ Owns wr w.heap.size v (pokeK ps f k) ∧ Below w.heap.size w wr ∧ w.heap.size ≤ wr.heap.size) (fun _ i _ => ps.length - (intOf i).toNat)
  case atStart => exact ⟨0, Nat.zero_le _, rfl, World.ownsRow_nil _ _ _ _, Below.refl _ _, Nat.le_refl _⟩
  case round =>
    obtain ⟨k, hk, rfl, hown, hbel, hsz⟩ := hrel
    by_cases hlt : k < ps.length
    · have hX := HX.out.below hbel
      rcases HX.out.at_ with rfl | ⟨b, off, rfl, hc⟩
      · simp at hlt
      · obtain ⟨c0, c1, c2⟩ := hX.cells hlt
        have hok := HX.out.ok k hlt
        have hw8 := H8.out k hlt
        have HN : Hid _ := pokeK_succ ps f k
        have hpl : (pokeK ps f k).length = 8 * k := pokeK_len ps f k fun j hj => H8.out j (by omega)
        obtain ⟨P, hP⟩ : ∃ P, ps.getD k default = P := ⟨_, rfl⟩
        rw [hP] at c0 c1 c2 hok hw8 HN
        obtain ⟨pat, pr, pa, pws, pcap⟩ := P
        dsimp only at c0 c1 c2 hw8 HN
        have HI : Hid (Ints w pa pws) := hok.ints
        have HW : Hid (pws.length = 8) := hw8
        rw [hw8] at c2
        clear hP hok hX hw8 hc
        generalize pokeK ps f k = L at hown HN hpl
        go_wp2
        go_loopw [5, 20] (fun v i wr2 => ∃ j : Nat, j ≤ 8 ∧ i = .int .i64 j ∧ Owns wr2 w.heap.size v (L ++ pokeP (f + k) pws j) ∧ Below w.heap.size w wr2 ∧ w.heap.size ≤ wr2.heap.size) (fun _ i _ => 8 - (intOf i).toNat)
        case atStart => exact ⟨0, by omega, rfl, by unfold Owns; simpa [pokeP] using World.ownsRow.alloc hown _, hbel.alloc hsz _, by simp; omega⟩
        case round =>
          obtain ⟨j, hj, rfl, hown2, hbel2, hsz2⟩ := hrel
          clear hown hbel hsz c0 c1 c2
          by_cases hlj : j < 8
          · rcases HI.out.below hbel2 with h0 | ⟨pb, po, rfl, hcw⟩
            · have := HW.out; rw [h0] at this; simp at this
            · have hcj := hcw j (by have := HW.out; omega)
              have HP : Hid _ := pokeP_succ (f + k) pws j
              obtain ⟨z, hz⟩ : ∃ z, pws.getD j 0 = z := ⟨_, rfl⟩
              rw [hz] at hcj HP
              have HLL : Hid ((L ++ pokeP (f + k) pws j).length = 8 * k + j) := show (L ++ pokeP (f + k) pws j).length = 8 * k + j by rw [List.length_append, pokeP_len, hpl]
              have hcells := new_cells wr ⟨7, 0, f + k, j, 0, z, 0⟩
              have HA : Hid (∀ v' w2, w2.ownsRow w.heap.size 68 7 v' ((L ++ pokeP (f + k) pws j).length + 1) (rowA (L ++ pokeP (f + k) pws j) ++ rowA [⟨7, 0, f + k, j, 0, z, 0⟩]) → (wr.alloc (.cells #[.int .i64 7, .int .i64 0, .int .i64 (f + k), .int .i64 j, .int .i64 0, .int .i64 z, .int .i64 0] 68)).grownBy w2 u5.ownBlock →
                  Owns w2 w.heap.size v' (L ++ pokeP (f + k) pws (j + 1)) ∧ Below w.heap.size w w2 ∧ w.heap.size ≤ w2.heap.size) := fun v' w2 g1 g2 => by
                have := owns_next (new := [⟨7, 0, f + k, j, 0, z, 0⟩]) hown2 g1 g2 hbel2 hsz2
                rw [HP.out, ← List.append_assoc]
                exact this
              have hownA := World.ownsRow.alloc hown2 (.cells #[.int .i64 7, .int .i64 0, .int .i64 (f + k), .int .i64 j, .int .i64 0, .int .i64 z, .int .i64 0] 68)
              generalize L ++ pokeP (f + k) pws j = M at hownA HA HLL
              clear hcw hz hown2 HX H8 HN HI HP hbel2
              go_wp2_with (at_builtin; refine wpList_append_own _ rfl _ _ 23 rfl w.heap.size 68 i0 _ 7 56 Tryz.underlying23 hi hz0 hz1 hz2 rfl (by decide) _ _ _ rfl hownA ⟨wr.heap.size, 0, none⟩ 1 1 (rowA [⟨7, 0, f + k, j, 0, z, 0⟩]) rfl rfl hcells (rowA_cells_one _) (by have := HLL.out; unfold maxLen; omega) (by have := HLL.out; omega) (by simp; omega) ?_)
              intro v' w2 g1 g2 _
              have R := HA.out v' w2 g1 g2
              clear HA g1 g2 hownA hcells
              go_wp2
              go_roundw
              case rel => exact ⟨j + 1, by omega, by go_num, R.1, R.2.1, R.2.2⟩
              case measure => simp [intOf]; omega
          · have hj8 : j = 8 := by omega
            subst hj8
            have HN' : Hid (pokeK ps f (k + 1) = L ++ pokeP (f + k) pws 8) := by have := HN.out; rw [HW.out] at this; exact this
            clear HI HN HX H8
            go_wp2
            go_roundw
            case rel => exact ⟨k + 1, by omega, by go_num, by rw [HN'.out]; exact hown2, hbel2, hsz2⟩
            case measure => simp [intOf]; omega
    · have hkl : k = ps.length := by omega
      subst hkl
      clear HX H8
      go_wp2
      go_ret
      exact ⟨_, rfl, hown, hbel⟩

end Go.Proofs.YtdngbojbpmdegaaGreatDoor

namespace Go.Proofs.YtdngbojbpmdegaaGreatDoor
open Go.RowKit
set_option maxRecDepth 100000

/-- what a plan is refused for (0: nothing) -/
def planE (ps : List Pg) (e f : Int) : Int := if imageF ps = 0 then (if (inB e 1 4 && inB f 0 (24 - ps.length)) = true then 0 else 2) else imageF ps
theorem areFrames_any (f : Int) (n : Nat) (w : World) (hn : n ≤ 8) : Calls Tryz.prog 69 #[.int .i64 f, .int .i64 (n : Int)] w fun e w' => e = .returned (.bool (inB f 0 (24 - n))) ∧ w = w' := by
  by_cases h1 : 0 ≤ f
  · by_cases h2 : f ≤ 24 - (n : Int)
    · rw [inB_true h1 h2]
      go_enter Tryz.func69, Tryz.ntmps69
      go_wp2
      go_ret
      exact ⟨rfl, rfl⟩
    · rw [inB_high h2]
      go_enter Tryz.func69, Tryz.ntmps69
      go_wp2
      go_ret
      exact ⟨rfl, rfl⟩
  · rw [inB_low h1]
    go_enter Tryz.func69, Tryz.ntmps69
    go_wp2
    go_ret
    exact ⟨rfl, rfl⟩

theorem new_cells2 (w : World) (x y : Ac) : ∀ j u, (rowA [x, y])[j]? = some u → (w.alloc (.cells #[.int .i64 x.k, .int .i64 x.e, .int .i64 x.f, .int .i64 x.at_, .int .i64 x.r, .int .i64 x.n, .int .i64 x.fuel, .int .i64 y.k, .int .i64 y.e, .int .i64 y.f, .int .i64 y.at_, .int .i64 y.r, .int .i64 y.n, .int .i64 y.fuel] 68)).cell? ((⟨w.heap.size, 0, none⟩ : Addr).add j) = some u := by
  intro j u hj
  rw [add_at, World.cell?_alloc_at _ _ _ _ rfl]
  simpa [rowA, Ac.cells] using hj

theorem owns_alloc {w : World} {B : Nat} {v : Value} {l : List Ac} (h : Owns w B v l) (o : Obj) : Owns (w.alloc o) B v l := World.ownsRow.alloc h o

theorem owns_mono {w : World} {B B' : Nat} {v : Value} {l : List Ac} (h : Owns w B v l) (hB : B' ≤ B) : Owns w B' v l := by
  refine ⟨h.1, ?_⟩
  rcases h.2 with h0 | ⟨g, cap, cur, h1, h2, h3⟩
  · exact .inl h0
  · exact .inr ⟨g, cap, cur, h1, by omega, h3⟩
/-- the append of some acts, told by what it does -/
theorem app {w0 w1 : World} {B : Nat} {v : Value} {l new : List Ac} {o : Obj} (hown : Owns w1 B v l) (hb : Below B w0 w1) (hB : B ≤ w1.heap.size) :
    ∀ v' w2, w2.ownsRow B 68 7 v' (l.length + new.length) (rowA l ++ rowA new) → (w1.alloc o).grownBy w2 v.ownBlock → Owns w2 B v' (l ++ new) ∧ Below B w0 w2 ∧ B ≤ w2.heap.size :=
  fun _ _ g1 g2 => owns_next hown g1 g2 hb hB

theorem planE_zero {ps : List Pg} {e f : Int} (h : planE ps e f = 0) : imageF ps = 0 ∧ inB e 1 4 = true ∧ inB f 0 (24 - ps.length) = true := by
  unfold planE at h
  by_cases hi : imageF ps = 0
  · rw [if_pos hi] at h
    by_cases hc : (inB e 1 4 && inB f 0 (24 - ps.length)) = true
    · simp at hc; exact ⟨hi, hc.1, hc.2⟩
    · rw [if_neg hc] at h; simp at h
  · rw [if_neg hi] at h; exact absurd h hi

set_option maxHeartbeats 8000000 in
theorem plan_good (a : Option Addr) (ps : List Pg) (cap : Nat) (e f : Int) (w : World) (hl : ps.length ≤ maxLen) (hx : PagesAt w a ps) (hz : planE ps e f = 0) :
    Calls Tryz.prog 24 #[.slice a ps.length cap, .int .i64 e, .int .i64 f] w fun r w' => ∃ v, r = .returned (.tuple #[v, .int .i64 0]) ∧ Owns w' w.heap.size v (planL ps e f) ∧ Below w.heap.size w w' := by
  obtain ⟨i0, hi, hz0, hz1, hz2⟩ := info_parts act_info
  obtain ⟨q1, q2, q3⟩ := planE_zero hz
  have hC := check_any a ps cap w hl hx
  rw [q1] at hC
  have hn := image_len q1
  have hF := fun w => areFrames_any f ps.length w hn
  rw [q3] at hF
  have be := inB_iff.1 q2
  have bf := inB_iff.1 q3
  have h8 := image_words q1
  have gP := fun w' (h : Below w.heap.size w w') => pokes_any a ps cap f w' hn (hx.below h) h8 (by omega) (by omega)
  have hpl : (pokeK ps f ps.length).length = 8 * ps.length := pokeK_len ps f _ h8
  have HX : Hid (PagesAt w a ps) := hx
  have H8 : Hid (∀ j, j < ps.length → (ps.getD j default).ws.length = 8) := h8
  have e1 : ¬ e < 1 := by omega
  have e2 : ¬ 4 < e := by omega
  clear hx hl hz q1 q2 q3 h8
  go_enter Tryz.func24, Tryz.ntmps24
  go_wp2_with (first | (go_at_call 68; go_must (refine hC.mono ?_); rintro r w1 ⟨rfl, hb1⟩; have hs1 := hb1.size) | (go_at_call 69; go_must (refine (hF _).mono ?_); rintro r w2 ⟨rfl, rfl⟩))
  refine (gP _ hb1).mono ?_
  rintro r w3 ⟨v3, rfl, ho3', hb3⟩
  have hs3 := hb3.size
  have ho3 := owns_mono ho3' hs1
  have hb3' : Below w.heap.size w w3 := hb1.trans (hb3.mono hs1)
  have hB3 : w.heap.size ≤ w3.heap.size := by omega
  have HA : Hid _ := app (new := [⟨1, 0, 0, 0, 0, 0, 0⟩]) (o := .cells #[.int .i64 1, .int .i64 0, .int .i64 0, .int .i64 0, .int .i64 0, .int .i64 0, .int .i64 0] 68) ho3 hb3' hB3
  have hownA := owns_alloc ho3 (.cells #[.int .i64 1, .int .i64 0, .int .i64 0, .int .i64 0, .int .i64 0, .int .i64 0, .int .i64 0] 68)
  have hcells := new_cells w3 ⟨1, 0, 0, 0, 0, 0, 0⟩
  have HLL : Hid ((pokeK ps f ps.length).length = 8 * ps.length) := hpl
  have HPL : Hid (pokeK ps f ps.length ++ [⟨1, 0, 0, 0, 0, 0, 0⟩] ++ putK ps e f ps.length ++ [⟨4, e, 0, 0, 0, 0, 0⟩] = planL ps e f) := rfl
  generalize pokeK ps f ps.length = L0 at HA hownA HLL HPL
  clear gP hF hC hpl ho3 ho3' hb3 hb3' hb1
  go_wp2_with (at_builtin; refine wpList_append_own _ rfl _ _ 23 rfl w.heap.size 68 i0 _ 7 56 Tryz.underlying23 hi hz0 hz1 hz2 rfl (by decide) _ _ _ rfl hownA ⟨w3.heap.size, 0, none⟩ 1 1 (rowA [⟨1, 0, 0, 0, 0, 0, 0⟩]) rfl rfl hcells (rowA_cells_one _) (by have := HLL.out; unfold maxLen; omega) (by have := HLL.out; omega) (by simp; omega) ?_)
  intro v4 w4 g1 g2 _
  have R4 := HA.out v4 w4 g1 g2
  clear HA hownA hcells g1 g2
  go_wp2
  go_loopw [9, 38] (fun v i wr => ∃ k : Nat, k ≤ ps.length ∧ i = .int .i64 k ∧ Owns wr w.heap.size v (L0 ++ [⟨1, 0, 0, 0, 0, 0, 0⟩] ++ putK ps e f k) ∧ Below w.heap.size w wr ∧ w.heap.size ≤ wr.heap.size) (fun _ i _ => ps.length - (intOf i).toNat)
  case atStart => exact ⟨0, Nat.zero_le _, rfl, by simpa [putK] using R4.1, R4.2.1, R4.2.2⟩
  case round =>
    obtain ⟨k, hk, rfl, hown, hbel, hsz⟩ := hrel
    clear R4
    by_cases hlt : k < ps.length
    · have hX := HX.out.below hbel
      rcases HX.out.at_ with rfl | ⟨b, off, rfl, hc⟩
      · simp at hlt
      · obtain ⟨c0, c1, c2⟩ := hX.cells hlt
        have HN : Hid _ := putK_succ ps e f k
        have hpk := putK_len ps e f k
        obtain ⟨P, hP⟩ : ∃ P, ps.getD k default = P := ⟨_, rfl⟩
        rw [hP] at c0 c1 c2 HN
        obtain ⟨pat, pr, pa, pws, pcap⟩ := P
        dsimp only at c0 c1 c2 HN
        have HLM : Hid ((L0 ++ [(⟨1, 0, 0, 0, 0, 0, 0⟩ : Ac)] ++ putK ps e f k).length = 8 * ps.length + 1 + 2 * k) := show (L0 ++ [(⟨1, 0, 0, 0, 0, 0, 0⟩ : Ac)] ++ putK ps e f k).length = 8 * ps.length + 1 + 2 * k by
          rw [List.length_append, List.length_append, HLL.out, hpk]; rfl
        have hbelA := hbel.alloc hsz (.cells #[.int .i64 pat, .int .i64 pr, .slice pa pws.length pcap] 116)
        have hszA : w.heap.size ≤ (wr.alloc (.cells #[.int .i64 pat, .int .i64 pr, .slice pa pws.length pcap] 116)).heap.size := by simp; omega
        have HA : Hid _ := app (new := [⟨2, e, f + k, pat, pr, 0, 0⟩, ⟨3, e, 0, pat, 0, 0, 0⟩]) (o := .cells #[.int .i64 2, .int .i64 e, .int .i64 (f + k), .int .i64 pat, .int .i64 pr, .int .i64 0, .int .i64 0, .int .i64 3, .int .i64 e, .int .i64 0, .int .i64 pat, .int .i64 0, .int .i64 0, .int .i64 0] 68)
          (owns_alloc hown (.cells #[.int .i64 pat, .int .i64 pr, .slice pa pws.length pcap] 116)) hbelA hszA
        have hownA := owns_alloc (owns_alloc hown (.cells #[.int .i64 pat, .int .i64 pr, .slice pa pws.length pcap] 116)) (.cells #[.int .i64 2, .int .i64 e, .int .i64 (f + k), .int .i64 pat, .int .i64 pr, .int .i64 0, .int .i64 0, .int .i64 3, .int .i64 e, .int .i64 0, .int .i64 pat, .int .i64 0, .int .i64 0, .int .i64 0] 68)
        have hcells := new_cells2 (wr.alloc (.cells #[.int .i64 pat, .int .i64 pr, .slice pa pws.length pcap] 116)) ⟨2, e, f + k, pat, pr, 0, 0⟩ ⟨3, e, 0, pat, 0, 0, 0⟩
        have HNN : Hid (L0 ++ [⟨1, 0, 0, 0, 0, 0, 0⟩] ++ putK ps e f (k + 1) = L0 ++ [⟨1, 0, 0, 0, 0, 0, 0⟩] ++ putK ps e f k ++ [⟨2, e, f + k, pat, pr, 0, 0⟩, ⟨3, e, 0, pat, 0, 0, 0⟩]) := show _ = _ by rw [HN.out, ← List.append_assoc]
        generalize L0 ++ [(⟨1, 0, 0, 0, 0, 0, 0⟩ : Ac)] ++ putK ps e f k = M at HA hownA HLM HNN
        clear hP hX hc hown hbel hbelA hszA HX H8 HN hpk
        go_wp2_with (at_builtin; refine wpList_append_own _ rfl _ _ 23 rfl w.heap.size 68 i0 _ 7 56 Tryz.underlying23 hi hz0 hz1 hz2 rfl (by decide) _ _ _ rfl hownA ⟨wr.heap.size + 1, 0, none⟩ 2 2 (rowA [⟨2, e, f + k, pat, pr, 0, 0⟩, ⟨3, e, 0, pat, 0, 0, 0⟩]) rfl rfl (by simpa using hcells) (rowA_cells_one _) (by have := HLM.out; unfold maxLen; omega) (by have := HLM.out; omega) (by simp; omega) ?_)
        intro v5 w5 g1 g2 _
        have R5 := HA.out v5 w5 g1 g2
        clear HA hownA hcells g1 g2
        go_wp2
        go_roundw
        case rel => exact ⟨k + 1, by omega, by go_num, by rw [HNN.out]; exact R5.1, R5.2.1, R5.2.2⟩
        case measure => simp [intOf]; omega
    · have hkl : k = ps.length := by omega
      subst hkl
      have hpk := putK_len ps e f ps.length
      have HLM : Hid ((L0 ++ [(⟨1, 0, 0, 0, 0, 0, 0⟩ : Ac)] ++ putK ps e f ps.length).length = 8 * ps.length + 1 + 2 * ps.length) := show (L0 ++ [(⟨1, 0, 0, 0, 0, 0, 0⟩ : Ac)] ++ putK ps e f ps.length).length = 8 * ps.length + 1 + 2 * ps.length by
        rw [List.length_append, List.length_append, HLL.out, hpk]; rfl
      have HA : Hid _ := app (new := [⟨4, e, 0, 0, 0, 0, 0⟩]) (o := .cells #[.int .i64 4, .int .i64 e, .int .i64 0, .int .i64 0, .int .i64 0, .int .i64 0, .int .i64 0] 68) hown hbel hsz
      have hownA := owns_alloc hown (.cells #[.int .i64 4, .int .i64 e, .int .i64 0, .int .i64 0, .int .i64 0, .int .i64 0, .int .i64 0] 68)
      have hcells := new_cells wr ⟨4, e, 0, 0, 0, 0, 0⟩
      generalize L0 ++ [(⟨1, 0, 0, 0, 0, 0, 0⟩ : Ac)] ++ putK ps e f ps.length = M at HA hownA HLM HPL
      clear hown hbel HX H8 hpk
      go_wp2_with (at_builtin; refine wpList_append_own _ rfl _ _ 23 rfl w.heap.size 68 i0 _ 7 56 Tryz.underlying23 hi hz0 hz1 hz2 rfl (by decide) _ _ _ rfl hownA ⟨wr.heap.size, 0, none⟩ 1 1 (rowA [⟨4, e, 0, 0, 0, 0, 0⟩]) rfl rfl hcells (rowA_cells_one _) (by have := HLM.out; unfold maxLen; omega) (by have := HLM.out; omega) (by simp; omega) ?_)
      intro v6 w6 g1 g2 _
      have R6 := HA.out v6 w6 g1 g2
      clear HA hownA hcells g1 g2
      go_wp2
      go_ret2
      exact ⟨_, rfl, by rw [← HPL.out]; exact R6.1, R6.2.1⟩

end Go.Proofs.YtdngbojbpmdegaaGreatDoor

namespace Go.Proofs.YtdngbojbpmdegaaGreatDoor
open Go.RowKit
set_option maxRecDepth 100000
set_option linter.unusedVariables false

/-- a block without a number is none of the pages' -/
theorem ints_far {w w' : World} {G : Nat} {a : Option Addr} {xs : List Int} (h : Ints w a xs) (hG : ∀ o n, w.cell? ⟨G, o, none⟩ ≠ some (.int .i64 n)) (hw : ∀ c, c ≠ G → w'.heap[c]? = w.heap[c]?) : Ints w' a xs := by
  rcases h with h | ⟨b, off, h1, h2⟩
  · exact .inl h
  · by_cases e : xs = []
    · exact .inl e
    · have h0 : 0 < xs.length := List.length_pos_iff.2 e
      have hb : b ≠ G := fun q => hG _ _ (q ▸ h2 0 h0)
      exact .inr ⟨b, off, h1, fun j hj => (World.cell?_of_block (hw b hb)).trans (h2 j hj)⟩
theorem pages_far {w w' : World} {G : Nat} {a : Option Addr} {ps : List Pg} (h : PagesAt w a ps) (hG : ∀ o n, w.cell? ⟨G, o, none⟩ ≠ some (.int .i64 n)) (hw : ∀ c, c ≠ G → w'.heap[c]? = w.heap[c]?) : PagesAt w' a ps := by
  refine ⟨?_, fun j hj => by
    obtain ⟨o1, o2, o3, o4, o5⟩ := h.ok j hj
    exact ⟨o1, o2, o3, ints_far o4 hG hw, o5⟩⟩
  rcases h.at_ with h1 | ⟨b, off, h1, h2⟩
  · exact .inl h1
  · by_cases e : ps = []
    · exact .inl e
    · have h0 : 0 < ps.length := List.length_pos_iff.2 e
      have hb : b ≠ G := fun q => hG _ _ (q ▸ (h2 0 h0).1)
      refine .inr ⟨b, off, h1, fun j hj => ?_⟩
      obtain ⟨c0, c1, c2⟩ := h2 j hj
      exact ⟨(World.cell?_of_block (hw b hb)).trans c0, (World.cell?_of_block (hw b hb)).trans c1, (World.cell?_of_block (hw b hb)).trans c2⟩
theorem no_ints {w : World} {G : Nat} {t : TypeId} {fr : Nat × Nat} (h : w.heap[G]? = some (.cells #[.slice none 0 0, .slice none 0 0, .slice none 0 0] t fr)) (o : Nat) (n : Int) : w.cell? ⟨G, o, none⟩ ≠ some (.int .i64 n) := by
  intro q
  simp only [World.cell?, h] at q
  match o with
  | 0 => simp at q
  | 1 => simp at q
  | 2 => simp at q
  | o + 3 => simp at q
/-- what started answers -/
def StartSaid (f : Int) (w : World) (y : Ending) (w' : World) : Prop := ∃ a ps cap M N, y = .returned (.tuple #[.slice a ps.length cap, M.val, .bool true]) ∧ PagesAt w' a ps ∧ imageF ps = 0 ∧ 4 ≤ ps.length ∧ M.Same N ∧ Planned newM N 0 (pick f (24 - ps.length + 1)).toNat ps ∧ Told N ∧ Owned w.heap.size w' M ∧ Below w.heap.size w w'
theorem outer_plan {ps : List Pg} {e f : Int} : ∀ x ∈ planL ps e f, x.outer := by
  intro x hx
  unfold planL at hx
  simp only [List.mem_append, List.mem_cons, List.not_mem_nil, or_false] at hx
  rcases hx with ((hx | rfl) | hx) | rfl
  · unfold pokeK at hx
    obtain ⟨i, _, hx⟩ := List.mem_flatMap.1 hx
    unfold pokeP at hx
    obtain ⟨j, _, rfl⟩ := List.mem_map.1 hx
    exact ⟨(by decide : ¬ (7 : Int) = 8), (by decide : ¬ (7 : Int) = 9)⟩
  · exact ⟨(by decide : ¬ (1 : Int) = 8), (by decide : ¬ (1 : Int) = 9)⟩
  · unfold putK at hx
    obtain ⟨i, _, hx⟩ := List.mem_flatMap.1 hx
    simp only [List.mem_cons, List.not_mem_nil, or_false] at hx
    rcases hx with rfl | rfl
    · exact ⟨(by decide : ¬ (2 : Int) = 8), (by decide : ¬ (2 : Int) = 9)⟩
    · exact ⟨(by decide : ¬ (3 : Int) = 8), (by decide : ¬ (3 : Int) = 9)⟩
  · exact ⟨(by decide : ¬ (4 : Int) = 8), (by decide : ¬ (4 : Int) = 9)⟩
/-- an image that is built on a new machine -/
theorem new_planned {ps : List Pg} (hi : imageF ps = 0) {f0 : Nat} (hf : f0 + ps.length ≤ 24) : ∃ N, Planned newM N 0 f0 ps ∧ Steps newM (planL ps 1 f0) N ∧ Told N := by
  obtain ⟨N, h1, h2⟩ := plan_steps (M := newM) new_good (m := 0) (by omega) (by unfold creI newM; rfl) hi hf (fun j hj => by
    show ((List.replicate 24 zeroFr).getD (f0 + j) default).o = 0
    rw [rep_getD _ _ _ (by omega)]; rfl)
  have h2' : Steps newM (planL ps 1 f0) N := h2
  refine ⟨N, h1, h2', ?_⟩
  have := told_hst (planL ps 1 f0) ⟨newM, noC⟩ new_good told_new (fun x hx => outer_plan x hx)
  rw [(h2' noC).1] at this
  exact this

set_option maxHeartbeats 8000000 in
theorem started_ok (a : Option Addr) (rs : List Rw) (cap : Nat) (R : Rw) (f : Int) (w : World) (hl : rs.length ≤ maxLen) (hx : RawsAt w a rs) (hR : R.Ok) (wf : (Lit.int .i64 f).wf = true) (ht : Tab w) :
    Calls Tryz.prog 32 #[.slice a rs.length cap, R.val, .int .i64 f] w (StartSaid f w) := by
  unfold StartSaid
  have hI := fun w' (hb : Below w.heap.size w w') => image_any a rs cap R w' hl (hx.below hb) hR
  obtain ⟨rk, ra, rb, rc⟩ := R
  unfold Rw.val at hI ⊢
  dsimp only at hI ⊢
  obtain ⟨W2, hW2⟩ : ∃ W2, Hid (W2 = (w.alloc (.cells #[.int .i64 rk, .int .i64 ra, .int .i64 rb, .int .i64 rc] 61)).alloc (.cells #[.slice none 0 0, .slice none 0 0, .slice none 0 0] 29)) := ⟨_, rfl⟩
  have B2 : Hid (Below w.heap.size w W2) := show Below _ _ _ by rw [hW2.out]; exact ((Below.refl _ _).alloc (Nat.le_refl _) _).alloc (by simp) _
  have hI2 := hI W2 B2.out
  have r0 : Hid (W2.cell? ⟨w.heap.size, 0, none⟩ = some (.int .i64 rk)) := show _ = _ by rw [hW2.out, World.cell?_alloc_past _ _ _ (by simp), World.cell?_alloc_at _ _ _ _ rfl]; rfl
  have r1 : Hid (W2.cell? ⟨w.heap.size, 1, none⟩ = some (.int .i64 ra)) := show _ = _ by rw [hW2.out, World.cell?_alloc_past _ _ _ (by simp), World.cell?_alloc_at _ _ _ _ rfl]; rfl
  have r2 : Hid (W2.cell? ⟨w.heap.size, 2, none⟩ = some (.int .i64 rb)) := show _ = _ by rw [hW2.out, World.cell?_alloc_past _ _ _ (by simp), World.cell?_alloc_at _ _ _ _ rfl]; rfl
  have r3 : Hid (W2.cell? ⟨w.heap.size, 3, none⟩ = some (.int .i64 rc)) := show _ = _ by rw [hW2.out, World.cell?_alloc_past _ _ _ (by simp), World.cell?_alloc_at _ _ _ _ rfl]; rfl
  have q2 : Hid (W2.heap[w.heap.size + 1]? = some (.cells #[.slice none 0 0, .slice none 0 0, .slice none 0 0] 29 (0, 0))) := show _ = _ by
    rw [hW2.out]
    have := Go.Deep.blk_alloc_new (w.alloc (.cells #[.int .i64 rk, .int .i64 ra, .int .i64 rb, .int .i64 rc] 61)) (.cells #[.slice none 0 0, .slice none 0 0, .slice none 0 0] 29)
    rw [World.size_alloc] at this
    exact this
  have hz2 : Hid (W2.heap.size = w.heap.size + 2) := show _ = _ by rw [hW2.out, World.size_alloc, World.size_alloc]
  have HT : Hid (Tab w) := ht
  clear hI hx hR ht
  go_enter Tryz.func32, Tryz.ntmps32
  go_upto_region 1 with fail
  rw [← hW2.out]
  have s0 := r0.out
  have s1 := r1.out
  have s2 := r2.out
  have s3 := r3.out
  have lt0 : w.heap.size < W2.heap.size := by have := hz2.out; omega
  clear hW2
  go_upto_region 2 with (go_at_call 25; refine hI2.mono ?_; clear hI2; rintro e w1 ⟨b, ps, c, rfl, hpa, hif, h4, hb1⟩)
  have h8 := image_len hif
  have HPA : Hid (_) := hpa
  have HIF : Hid (_) := hif
  have HB1 : Hid (_) := hb1
  have hw1 : IntKind.i64.wrap (24 - (ps.length : Int)) = 24 - (ps.length : Int) := by rw [IntKind.wrap_i64]; omega
  have hw2 : IntKind.i64.wrap (24 - (ps.length : Int) + 1) = 24 - (ps.length : Int) + 1 := by rw [IntKind.wrap_i64]; omega
  have hpk := pick_lt f (many := 24 - (ps.length : Int) + 1) (by omega)
  have hP := fun w' => Picked_any f (24 - (ps.length : Int) + 1) w' wf (by omega) (by omega)
  obtain ⟨f0, hf0⟩ : ∃ f0 : Nat, pick f (24 - (ps.length : Int) + 1) = (f0 : Int) := ⟨(pick f (24 - (ps.length : Int) + 1)).toNat, by omega⟩
  rw [hf0] at hP hpk
  have HF0 : Hid (_) := hf0
  have hpl := plan_good b ps c 1 f0 w1 (by unfold maxLen; omega) hpa (by unfold planE; rw [if_pos hif, if_pos]; rw [Bool.and_eq_true]; exact ⟨by decide, inB_iff.2 ⟨by omega, by omega⟩⟩)
  clear hf0 hpa hif hb1 s0 s1 s2 s3
  go_upto_region 3 with (first | (go_at_call 35; refine (hP _).mono ?_; rintro e w' ⟨rfl, rfl⟩) | (go_at_call 24; refine hpl.mono ?_; clear hpl; rintro e w2 ⟨v, rfl, hown, hb2⟩))
  obtain ⟨la, lc, rfl, hrow⟩ := acts_row hown
  have hll := plan_len HIF.out 1 (f0 : Int)
  have hlen : (planL ps 1 (f0 : Int)).length ≤ 200 := by omega
  have s12 : Hid (Below W2.heap.size W2 w2) := show Below _ _ _ from HB1.out.trans (hb2.mono HB1.out.size)
  have hrun := runH_any none [] 0 la (planL ps 1 (f0 : Int)) lc w2 (.inl rfl) ⟨by simp [maxLen], fun s hs => by simp at hs, by simp, fun x hx => by simp at hx⟩ hrow (by unfold maxLen; omega) (plan_ok HIF.out ⟨by omega, by omega⟩ ⟨by omega, by omega⟩) (HT.out.below (B2.out.trans (s12.out.mono B2.out.size)))
  have hR0 := runF_nil hlen
  unfold HostSaid at hrun
  rw [hR0, if_pos rfl, if_pos rfl, if_pos rfl] at hrun
  obtain ⟨N, hPN, hSN, hTN⟩ := new_planned HIF.out (f0 := f0) (by omega)
  have hst := hSN ⟨none, [], 0, none, [], 0⟩
  have e0 : hs0 [] = ⟨newM, ⟨none, [], 0, none, [], 0⟩⟩ := rfl
  rw [e0, hst.1] at hrun
  obtain ⟨xs, hxs⟩ : ∃ xs, xs = hans ⟨newM, ⟨none, [], 0, none, [], 0⟩⟩ (planL ps 1 (f0 : Int)) := ⟨_, rfl⟩
  have hxl : xs.length ≤ 200 := by rw [hxs, hans_len]; exact hlen
  have hxe : (xs.any fun x => x.1 != 0) = false := by
    rw [List.any_eq_false]
    intro x hx
    rw [hxs] at hx
    simp [hst.2 x hx]
  rw [← hxs] at hrun
  have HN : Hid (_) := And.intro hPN hTN
  clear hst hSN hPN hTN hxs e0 hR0 hown hrow
  generalize (planL ps 1 (f0 : Int)).length = nl at *
  have HS12 : Hid (_) := s12
  have HHT : Hid (Below w2.heap.size w2 w2) := Below.refl _ _
  go_upto_region 4 with (go_at_call 13; refine hrun.mono ?_; clear hrun; rintro y w3 ⟨aa, acap, zs, M, C, rfl, hzr, rfl, hMs, hCs, hO, hCO, hb3⟩; unfold Mv.val Cv.val)
  obtain ⟨fa, frs, fcap, ea, ens, ecap, qa, qus, qcap⟩ := M
  obtain ⟨ta, tr, tcap, na, ns, ncap⟩ := C
  dsimp only at hMs hCs hO hCO ⊢
  have hg := good_iff.1 HN.out.1.good
  have h24 : frs.length = 24 := hMs.len.trans hg.s1
  have h4e : ens.length = 4 := (congrArg List.length hMs.en).trans hg.s2
  have H24 : Hid (_) := And.intro h24 h4e
  rw [h24, h4e]
  obtain ⟨W4, hW4⟩ : ∃ W4, Hid (W4 = (w3.alloc (.cells #[.slice fa 24 fcap, .slice ea 4 ecap, .slice qa qus.length qcap] 29)).alloc (.cells #[.slice ta tr.length tcap, .slice na ns.length ncap] 32)) := ⟨_, rfl⟩
  obtain ⟨P, hP⟩ : ∃ P, Hid (P = w3.heap.size) := ⟨_, rfl⟩
  have c0 : W4.cell? ⟨P, 0, none⟩ = some (.slice fa 24 fcap) := by rw [hW4.out, hP.out, World.cell?_alloc_past _ _ _ (by simp), World.cell?_alloc_at _ _ _ _ rfl]; rfl
  have c1 : W4.cell? ⟨P, 1, none⟩ = some (.slice ea 4 ecap) := by rw [hW4.out, hP.out, World.cell?_alloc_past _ _ _ (by simp), World.cell?_alloc_at _ _ _ _ rfl]; rfl
  have c2 : W4.cell? ⟨P, 2, none⟩ = some (.slice qa qus.length qcap) := by rw [hW4.out, hP.out, World.cell?_alloc_past _ _ _ (by simp), World.cell?_alloc_at _ _ _ _ rfl]; rfl
  have B34 : Hid (Below w3.heap.size w3 W4) := show Below _ _ _ by rw [hW4.out]; exact ((Below.refl _ _).alloc (Nat.le_refl _) _).alloc (by simp) _
  have B24 : Hid (Below W2.heap.size W2 W4) := show Below _ _ _ from (HS12.out.trans (hb3.mono HS12.out.size)).trans (B34.out.mono (Nat.le_trans HS12.out.size hb3.size))
  have B14 : Hid (Below w1.heap.size w1 W4) := show Below _ _ _ from (hb2.trans (hb3.mono hb2.size)).trans (B34.out.mono (Nat.le_trans hb2.size hb3.size))
  have BW4 : Hid (Below w.heap.size w W4) := show Below _ _ _ from B2.out.trans (B24.out.mono B2.out.size)
  have k7 : Hid (W4.heap[w.heap.size + 1]? = some (.cells #[.slice none 0 0, .slice none 0 0, .slice none 0 0] 29 (0, 0))) := show _ = _ from (B24.out.block _ (by have := hz2.out; omega)).trans q2.out
  have HO4 : Hid (Owned w2.heap.size W4 ⟨fa, frs, fcap, ea, ens, ecap, qa, qus, qcap⟩) := hO.below B34.out
  have HG2 : Hid (w.heap.size + 1 < w2.heap.size) := show _ < _ by have := hz2.out; have := HS12.out.size; omega
  have HX4 := fun w' (hb : Below W4.heap.size W4 w') => sta1_errs aa zs acap w' (by unfold maxLen; omega) (RowsAt.below (cells := anCells) (fun _ => rfl) (RowsAt.below (cells := anCells) (fun _ => rfl) hzr B34.out) hb)
  rw [hxe] at HX4
  have HX : Hid (_) := HX4
  have HMS : Hid (_) := hMs
  have ltP : P < W4.heap.size := lt_of_cell c0
  have lt7 : w.heap.size + 1 < W4.heap.size := by have := hz2.out; have := B24.out.size; omega
  have a0 : W4.cell? ⟨w.heap.size + 1, 0, none⟩ = some (.slice none 0 0) := by simp [World.cell?, k7.out]
  have a1 : W4.cell? ⟨w.heap.size + 1, 1, none⟩ = some (.slice none 0 0) := by simp [World.cell?, k7.out]
  have a2 : W4.cell? ⟨w.heap.size + 1, 2, none⟩ = some (.slice none 0 0) := by simp [World.cell?, k7.out]
  have zf : ∀ o, W4.frozen? ⟨w.heap.size + 1, o, none⟩ = false := fun o => by simp [World.frozen?, k7.out]
  have z0 := zf 0; have z1 := zf 1; have z2 := zf 2
  have hne : ¬ w.heap.size + 1 = P := by rw [hP.out]; have := hz2.out; have := HS12.out.size; have := hb3.size; omega
  have hne' : ¬ P = w.heap.size + 1 := fun e => hne e.symm
  rw [← hW4.out, ← hP.out]
  clear hW4 hP hO hCO hzr hb3 hMs hCs HX4 hg h24 h4e zf hb2 s12
  have A7 : Hid (_) := And.intro a0 (And.intro a1 a2)
  have Z7 : Hid (_) := And.intro z0 (And.intro z1 z2)
  have C7 : Hid (_) := And.intro c0 (And.intro c1 c2)
  have L7 : Hid (_) := And.intro ltP lt7
  go_region_held3 (fun w' => w'.cell? ⟨P, 0, none⟩ = some (.slice fa 24 fcap) ∧ w'.cell? ⟨P, 1, none⟩ = some (.slice ea 4 ecap) ∧ w'.cell? ⟨P, 2, none⟩ = some (.slice qa qus.length qcap)) (first | (with_reducible exact ⟨c0, c1, c2⟩) | (with_reducible exact ⟨d0, d1, d2⟩) | go_keep)
    (first
    | (go_at_call 86; refine (HX.out _ (by repeat (first | (with_reducible exact Below.refl _ _) | (with_reducible refine Below.drew ?_)))).mono ?_; rintro y w5 ⟨rfl, hb5⟩; have HB5 : Hid (Below W4.heap.size W4 w5) := (show Below _ _ _ from (Below.refl W4.heap.size W4).drew.trans hb5); have d0 := (hb5.cell (p := ⟨P, 0, none⟩) L7.out.1).trans C7.out.1; have d1 := (hb5.cell (p := ⟨P, 1, none⟩) L7.out.1).trans C7.out.2.1; have d2 := (hb5.cell (p := ⟨P, 2, none⟩) L7.out.1).trans C7.out.2.2; have y0 := (hb5.cell (p := ⟨w.heap.size + 1, 0, none⟩) L7.out.2).trans A7.out.1; have y1 := (hb5.cell (p := ⟨w.heap.size + 1, 1, none⟩) L7.out.2).trans A7.out.2.1; have y2 := (hb5.cell (p := ⟨w.heap.size + 1, 2, none⟩) L7.out.2).trans A7.out.2.2; have x0 := (hb5.frozen (p := ⟨w.heap.size + 1, 0, none⟩) L7.out.2).trans Z7.out.1; have x1 := (hb5.frozen (p := ⟨w.heap.size + 1, 1, none⟩) L7.out.2).trans Z7.out.2.1; have x2 := (hb5.frozen (p := ⟨w.heap.size + 1, 2, none⟩) L7.out.2).trans Z7.out.2.2; have l5 := Nat.lt_of_lt_of_le L7.out.1 hb5.size; have l6 := Nat.lt_of_lt_of_le L7.out.2 hb5.size; clear hb5)
    | fail)
  all_goals
    go_wp2
    refine bp_genR fun V9 hV9 => ?_
    obtain ⟨k0, k1, k2⟩ := blk3' (b := w.heap.size + 1) (v0 := .slice fa 24 fcap) (v1 := .slice ea 4 ecap) (v2 := .slice qa qus.length qcap) y0 y1 y2
    rw [← hV9] at k0 k1 k2
    have hh : ∀ c, c ≠ w.heap.size + 1 → V9.heap[c]? = w5.heap[c]? := fun c hc => by rw [hV9]; exact blk3_heap' c hc
    have hs9 : V9.heap.size = w5.heap.size := by rw [hV9]; simp [World.setCell]
    have B9 : Below w.heap.size w V9 := by rw [hV9]; exact blk3_below' (BW4.out.trans (HB5.out.mono BW4.out.size)) (by omega)
    have PW5 : PagesAt w5 b ps := (HPA.out.below B14.out).below HB5.out
    have P9 : PagesAt V9 b ps := pages_far PW5 (no_ints ((HB5.out.block _ lt7).trans k7.out)) hh
    have O9 : Owned w2.heap.size V9 ⟨fa, frs, fcap, ea, ens, ecap, qa, qus, qcap⟩ := (HO4.out.below HB5.out).keep (fun c hc _ => hh c (by have := HG2.out; omega)) (by omega)
    clear hV9
    (try simp only [Exit.inBlock, Exit.then])
    refine bodyPost_ret (by simp [results, Tryz.results32, go_sem, k0, k1, k2]; try rfl) rfl ?_
    refine ⟨b, ps, c, ⟨fa, frs, fcap, ea, ens, ecap, qa, qus, qcap⟩, N, ?_, P9, HIF.out, h4, HMS.out, ?_, HN.out.2, O9.mono (by have := HG2.out; omega), B9⟩
    · unfold Mv.val; dsimp only; rw [H24.out.1, H24.out.2]
    · rw [HF0.out, Int.toNat_natCast]; exact HN.out.1

end Go.Proofs.YtdngbojbpmdegaaGreatDoor
