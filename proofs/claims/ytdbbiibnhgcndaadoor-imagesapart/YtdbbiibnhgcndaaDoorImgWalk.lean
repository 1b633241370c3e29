/-
  What Image (riddlekeep) answers for every list of raw things: a new list of four to six pages, an image that may be; nothing that was in memory turns.
-/
import Derived.Test.YtdbbiibnhgcndaaDoorImg
import Derived.Deep.OwnRows
namespace Go.Proofs.YtdbbiibnhgcndaaDoor
open Go.RowKit
set_option maxRecDepth 100000

theorem code_row {w : World} {B : Nat} {v : Value} {xs : List Int} (h : OwnsI w B v xs) (h16 : xs.length = 16) :
    ∃ g cp c, v = .slice (some ⟨g, 0, none⟩) 16 cp ∧ 16 ≤ cp ∧ cp ≤ maxLen ∧ w.heap[g]? = some (.cells c 3 (0, 0)) ∧ ∀ j, j < 16 → w.cell? ⟨g, j, none⟩ = some (.int .i64 (xs.getD j 0)) := by
  rcases h.2 with ⟨_, h0⟩ | ⟨g, cap, cur, hv, _, hg, hc, hm, hs, ht⟩
  · omega
  · refine ⟨g, cap, cur, by rw [hv, h16], by omega, hm, hg, fun j hj => ?_⟩
    have e := icells_get xs j (by omega)
    rw [← ht, List.getElem?_take_of_lt (by omega)] at e
    simpa [World.cell?, hg] using e
theorem words_of_own {w : World} {B : Nat} {v : Value} {ys : List Int} (h : OwnsI w B v ys) (h8 : ys.length = 8) (hs : Small16 ys) :
    ∃ ao cp, v = .slice ao ys.length cp ∧ ∀ at_ r, WordsAt w ⟨at_, r, ao, ys, cp⟩ := by
  rcases h.2 with ⟨_, h0⟩ | ⟨g, cap, cur, hv, _, hg, hc, hm, hss, ht⟩
  · omega
  · refine ⟨some ⟨g, 0, none⟩, cap, hv, fun at_ r => ⟨⟨g, 0, cur, _, rfl, hg, fun j hj => ?_⟩, h8, hs⟩⟩
    have e := icells_get ys j hj
    rw [← ht, List.getElem?_take_of_lt (by dsimp at hj; omega)] at e
    simpa [World.cell?, hg] using e

/-- the block of a page that is being built -/
def PB (w : World) (P : Nat) (n r : Int) (v : Value) : Prop := w.rowIs P 44 3 (fun j => if j = 0 then .int .i64 n else if j = 1 then .int .i64 r else v)
theorem pb_new (w : World) (n r : Int) : PB (w.alloc (.cells #[.int .i64 n, .int .i64 r, .slice none 0 0] 44)) w.heap.size n r (.slice none 0 0) :=
  World.rowIs_alloc w _ _ _ (fun i hi => by
    match i, hi with
    | 0, _ => rfl
    | 1, _ => rfl
    | 2, _ => rfl)
theorem PB.cell {w : World} {P : Nat} {n r : Int} {v : Value} (h : PB w P n r v) : w.cell? ⟨P, 0, none⟩ = some (.int .i64 n) ∧ w.cell? ⟨P, 1, none⟩ = some (.int .i64 r) ∧ w.cell? ⟨P, 2, none⟩ = some v ∧ w.frozen? ⟨P, 2, none⟩ = false :=
  ⟨World.rowIs.cell h (i := 0) (by omega), World.rowIs.cell h (i := 1) (by omega), World.rowIs.cell h (i := 2) (by omega), World.rowIs.frozen h 2⟩
theorem grown_set (w : World) (a : Addr) (v : Value) : w.grownBy (w.setCell a v) (some a.block) :=
  ⟨rfl, rfl, rfl, by simp [World.setCell], fun k _ hne => Go.Deep.blk_setCell_other _ _ _ _ (fun e => hne (by rw [e]))⟩
theorem pb_step {wr wz w5 : World} {P : Nat} {n r : Int} {v v' : Value} {ys : List Int} (h : PB wz P n r v) (hbel : Below P wr wz) (hsz : P + 1 ≤ wz.heap.size) (ho : OwnsI w5 (P + 1) v' ys) (hb5 : Below (P + 1) wz w5) :
    PB (w5.setCell ⟨P, 2, none⟩ v') P n r v' ∧ OwnsI (w5.setCell ⟨P, 2, none⟩ v') (P + 1) v' ys ∧ Below P wr (w5.setCell ⟨P, 2, none⟩ v') ∧ P + 1 ≤ (w5.setCell ⟨P, 2, none⟩ v').heap.size := by
  have hs := hb5.size
  refine ⟨World.rowIs.congr (World.rowIs.set (World.rowIs.of_block h (hb5.block P (by omega))) 2 v') fun j hj => ?_, ho.kept (grown_set w5 ⟨P, 2, none⟩ v') (.inr fun e => ?_), (hbel.trans (hb5.mono (by omega))).setCell (p := ⟨P, 2, none⟩) (Nat.le_refl _) _, by simp; omega⟩
  · by_cases e : j = 2
    · subst e; simp
    · have : j = 0 ∨ j = 1 := by omega
      rcases this with rfl | rfl <;> simp
  · have := (ho.lt P e).1
    omega
theorem one_cell (w : World) (x : Int) : ∀ j u, (icells [x])[j]? = some u → (w.alloc (.cells #[.int .i64 x] 3)).cell? ((⟨w.heap.size, 0, none⟩ : Addr).add j) = some u := by
  intro j u hj
  rw [add_at, World.cell?_alloc_at _ _ _ _ rfl]
  simpa [icells] using hj

theorem f_small {p : Pg} (h1 : inB p.at_ 0 7 = true) (h2 : inB p.r 0 7 = true) (h3 : p.ws.length = 8) (h4 : Small16 p.ws) : p.f = 0 := by
  have : mayW p.ws = true := mayW_iff.2 ⟨h3, h4⟩
  unfold Pg.f pageF
  rw [h1, h2, this]
  rfl

set_option maxHeartbeats 8000000 in
set_option maxRecDepth 100000 in
theorem image_any (a : Option Addr) (rs : List Rw) (cap : Nat) (R : Rw) (w : World) (hl : rs.length ≤ maxLen) (hx : RawsAt w a rs) (hR : R.Ok) :
    Calls Tryd.prog 19 #[.slice a rs.length cap, R.val] w fun e w' => ∃ b ps c, e = .returned (.slice b ps.length c) ∧ PagesAt w' b ps ∧ imageF ps = 0 ∧ 4 ≤ ps.length ∧ Below w.heap.size w w' := by
  obtain ⟨rk, ra, rb, rc⟩ := R
  obtain ⟨q0, q1, q2, q3⟩ := hR
  dsimp only [Rw.val] at q0 q1 q2 q3 ⊢
  have hC := code_any a rs cap (w.alloc (.cells #[.int .i64 rk, .int .i64 ra, .int .i64 rb, .int .i64 rc] 36)) hl (hx.below ((Below.refl _ _).alloc (Nat.le_refl _) _))
  obtain ⟨i0, hi, hz0, hz1, hz2⟩ := info_parts page_info
  obtain ⟨i1, hi', hy0, hy1, hy2⟩ := info_parts held_info
  clear hx hl
  go_enter Tryd.func19, Tryd.ntmps19
  go_wp2_with fail
  refine hC.mono ?_
  rintro e w1 ⟨v1, xs, rfl, ho1, h16, hs1, hb1⟩
  obtain ⟨g, cp, c, hv1, hcp, hcpm, hg, hcells⟩ := code_row ho1 h16
  rw [hv1]
  have hsz1 := hb1.size
  have hbox : Hid (∀ o, o < 4 → w1.cell? ⟨w.heap.size, o, none⟩ = (#[Value.int .i64 rk, .int .i64 ra, .int .i64 rb, .int .i64 rc])[o]?) := fun o ho => by
    rw [hb1.cell (p := ⟨w.heap.size, o, none⟩) (by simp), World.cell?_alloc_at _ _ _ _ rfl]
  have hb1' : Below w.heap.size w w1 := ((Below.refl _ _).alloc (Nat.le_refl _) _).trans (hb1.mono (by simp))
  -- the two pages of code
  have HW0 : Hid (WordsAt w1 ⟨0, 5, some ⟨g, 0, none⟩, xs.take 8, cp⟩) := ⟨⟨g, 0, c, _, rfl, hg, fun j hj => by
      have hj8 : j < 8 := by simp at hj; omega
      have := hcells j (by omega)
      simp only [Nat.zero_add]
      rw [this]
      simp [List.getD_eq_getElem?_getD, hj8]⟩, by simp; omega, fun n hn => hs1 n (List.mem_of_mem_take hn)⟩
  have HW1 : Hid (WordsAt w1 ⟨1, 5, some ⟨g, 8, none⟩, xs.drop 8, cp - 8⟩) := ⟨⟨g, 8, c, _, rfl, hg, fun j hj => by
      have hj8 : j < 8 := by simp at hj; omega
      have := hcells (8 + j) (by omega)
      rw [this]
      simp [List.getD_eq_getElem?_getD, List.getElem?_drop]⟩, by simp; omega, fun n hn => hs1 n (List.mem_of_mem_drop hn)⟩
  have HPL : Hid (Placed [⟨0, 5, some ⟨g, 0, none⟩, xs.take 8, cp⟩, ⟨1, 5, some ⟨g, 8, none⟩, xs.drop 8, cp - 8⟩]) := placed_snoc (placed_snoc (ps := []) (fun j hj => absurd hj (by simp)) rfl (f_small (by simp [inB]) (by simp [inB]) HW0.out.len HW0.out.small)) rfl (f_small (by simp [inB]) (by simp [inB]) HW1.out.len HW1.out.small)
  have hl8 : Hid ((xs.take 8).length = 8 ∧ (xs.drop 8).length = 8) := ⟨by simp; omega, by simp; omega⟩
  unfold maxLen at hcpm
  have hcpI : (16 : Int) ≤ (cp : Int) := by omega
  clear hC ho1 hs1 h16 hcells hg hv1 hb1
  go_wp2_with fail
  refine wp_loop_rounds 3 ?_
  rw [rounds_succ]
  have I0 : ImgAt w1 w1.heap.size (.slice none 0 0) [] := ⟨World.ownsRow_nil _ _ _ _, fun p hp => absurd hp (by simp)⟩
  have HA0 : Hid (∀ v' w2, w2.ownsRow w1.heap.size 44 3 v' (0 + 1) ([] ++ rowP [⟨0, 5, some ⟨g, 0, none⟩, xs.take 8, cp⟩]) → (w1.alloc (.cells #[.int .i64 0, .int .i64 5, .slice (some ⟨g, 0, none⟩) 8 cp] 44)).grownBy w2 (Value.slice none 0 0).ownBlock →
      ImgAt w2 w1.heap.size v' [⟨0, 5, some ⟨g, 0, none⟩, xs.take 8, cp⟩] ∧ Below w1.heap.size w1 w2 ∧ w1.heap.size ≤ w2.heap.size) := fun v' w2 g1 g2 => img_next I0 HW0.out g1 g2 (Below.refl _ _) (Nat.le_refl _)
  have ho0 := World.ownsRow.alloc I0.own (.cells #[.int .i64 0, .int .i64 5, .slice (some ⟨g, 0, none⟩) 8 cp] 44)
  have hc0 := page_cells w1 ⟨0, 5, some ⟨g, 0, none⟩, xs.take 8, cp⟩
  dsimp only at hc0
  rw [hl8.out.1] at hc0
  have HO0 : Hid _ := ho0
  have HC0 : Hid _ := hc0
  clear ho0 hc0 I0
  go_wp2_with (at_builtin; refine wpList_append_own _ rfl _ _ 31 rfl w1.heap.size 44 i0 _ 3 40 Tryd.underlying31 hi hz0 hz1 hz2 rfl (by decide) _ _ _ rfl HO0.out ⟨w1.heap.size, 0, none⟩ 1 1 (rowP [⟨0, 5, some ⟨g, 0, none⟩, xs.take 8, cp⟩]) rfl rfl HC0.out (pcells_one _) (by unfold maxLen; simp) (by simp) (by simp) ?_)
  intro v2 w2 g1 g2 _
  have R2 := HA0.out v2 w2 g1 g2
  have HV2 : Hid (WordsAt w2 ⟨1, 5, some ⟨g, 8, none⟩, xs.drop 8, cp - 8⟩) := HW1.out.below R2.2.1
  have hsz2 := R2.2.2
  clear HA0 HO0 HC0 g1 g2
  go_wp2
  rw [rounds_succ]
  have HA1 : Hid (∀ v' w3, w3.ownsRow w1.heap.size 44 3 v' (1 + 1) (rowP [⟨0, 5, some ⟨g, 0, none⟩, xs.take 8, cp⟩] ++ rowP [⟨1, 5, some ⟨g, 8, none⟩, xs.drop 8, cp - 8⟩]) → (w2.alloc (.cells #[.int .i64 1, .int .i64 5, .slice (some ⟨g, 8, none⟩) 8 (cp - 8)] 44)).grownBy w3 v2.ownBlock →
      ImgAt w3 w1.heap.size v' [⟨0, 5, some ⟨g, 0, none⟩, xs.take 8, cp⟩, ⟨1, 5, some ⟨g, 8, none⟩, xs.drop 8, cp - 8⟩] ∧ Below w1.heap.size w1 w3 ∧ w1.heap.size ≤ w3.heap.size) := fun v' w3 g1 g2 => img_next R2.1 HV2.out g1 g2 R2.2.1 hsz2
  have ho1 := World.ownsRow.alloc R2.1.own (.cells #[.int .i64 1, .int .i64 5, .slice (some ⟨g, 8, none⟩) 8 (cp - 8)] 44)
  have hc1 := page_cells w2 ⟨1, 5, some ⟨g, 8, none⟩, xs.drop 8, cp - 8⟩
  dsimp only at hc1
  rw [hl8.out.2] at hc1
  have HO1 : Hid _ := ho1
  have HC1 : Hid _ := hc1
  clear ho1 hc1 R2 HV2
  go_wp2_with (at_builtin; refine wpList_append_own _ rfl _ _ 31 rfl w1.heap.size 44 i0 _ 3 40 Tryd.underlying31 hi hz0 hz1 hz2 rfl (by decide) _ _ _ rfl HO1.out ⟨w2.heap.size, 0, none⟩ 1 1 (rowP [⟨1, 5, some ⟨g, 8, none⟩, xs.drop 8, cp - 8⟩]) rfl rfl HC1.out (pcells_one _) (by unfold maxLen; simp) (by simp) (by simp; omega) ?_)
  intro v3 w3 g1 g2 _
  have R3 := HA1.out v3 w3 g1 g2
  clear HA1 HO1 HC1 g1 g2 hsz2
  go_wp2
  rw [rounds_succ]
  go_wp2
  obtain ⟨I3, hb3, hsz3⟩ := R3
  have PL : Hid (Placed [⟨0, 5, some ⟨g, 0, none⟩, xs.take 8, cp⟩, ⟨1, 5, some ⟨g, 8, none⟩, xs.drop 8, cp - 8⟩]) := HPL.out
  obtain ⟨pb3a, pb3b⟩ := pick_lt rb (many := 3) (by omega)
  obtain ⟨pc8a, pc8b⟩ := pick_lt rc (many := 8) (by omega)
  have hI : Hid _ := I3
  clear HPL HW0 HW1 hl8 hcpm hcpI hcp I3
  go_loopw [6, 8] (fun v i wr => ∃ (n : Nat) (ps : List Pg), 2 ≤ n ∧ (n : Int) ≤ 4 + pick rb 3 ∧ i = .int .i64 n ∧ Hid (ps.length = n) ∧ Hid (ImgAt wr w1.heap.size v ps) ∧ Hid (Placed ps) ∧ Below w1.heap.size w1 wr ∧ w1.heap.size ≤ wr.heap.size) (fun _ i _ => 8 - (intOf i).toNat)
  case atStart => exact ⟨2, _, by omega, by omega, rfl, (show _ = _ from rfl), hI, PL, hb3, hsz3⟩
  case round =>
    clear hI PL hb3 hsz3
    obtain ⟨n, ps, hn2, hn6, rfl, hln, hI, PL, hbr, hszr⟩ := hrel
    have d1 : wr.cell? ⟨w.heap.size, 1, none⟩ = some (.int .i64 ra) := (hbr.cell (p := ⟨w.heap.size, 1, none⟩) (by simp at hsz1 ⊢; omega)).trans (hbox.out 1 (by omega))
    have d2 : wr.cell? ⟨w.heap.size, 2, none⟩ = some (.int .i64 rb) := (hbr.cell (p := ⟨w.heap.size, 2, none⟩) (by simp at hsz1 ⊢; omega)).trans (hbox.out 2 (by omega))
    have d3 : wr.cell? ⟨w.heap.size, 3, none⟩ = some (.int .i64 rc) := (hbr.cell (p := ⟨w.heap.size, 3, none⟩) (by simp at hsz1 ⊢; omega)).trans (hbox.out 3 (by omega))
    have hws : w.heap.size < w1.heap.size := by simp at hsz1; omega
    have hwr : w.heap.size < wr.heap.size := by omega
    by_cases hlt : (n : Int) < 4 + pick rb 3
    · by_cases h3 : n = 3
      · subst h3
        go_wp2_with (go_at_call 23; refine (picked_any _ _ _ (by assumption) (by omega) (by omega)).mono ?_; rintro e w' ⟨rfl, rfl⟩)
        go_loopw [45] (fun i wz => ∃ (j : Nat) (ao : Option Addr) (cq : Nat) (ys : List Int), j ≤ 8 ∧ i = .int .i64 j ∧ Hid (ys.length = j) ∧ Hid (PB wz wr.heap.size 3 (pick rc 8) (.slice ao ys.length cq)) ∧ Hid (OwnsI wz (wr.heap.size + 1) (.slice ao ys.length cq) ys) ∧ Hid (Small16 ys) ∧ Below wr.heap.size wr wz ∧ wr.heap.size + 1 ≤ wz.heap.size) (fun i _ => 8 - (intOf i).toNat)
        case atStart => exact ⟨0, none, 0, [], by omega, rfl, (show _ = _ from rfl), pb_new wr 3 (pick rc 8), World.ownsRow_nil _ _ _ _, fun n hn => absurd hn (by simp), (Below.refl _ _).alloc (Nat.le_refl _) _, by simp⟩
        case round =>
          rename World => wz
          clear d2 d3
          obtain ⟨j, ao, cq, ys, hj8, rfl, hly, hpb, hown, hsm, hbz, hszz⟩ := hrel
          by_cases hlj : j < 8
          · have e1 := keep_cell hbz d1
            obtain ⟨x, hx⟩ : ∃ x, IntKind.i64.wrap (ra + (j : Int) * 7) = x := ⟨_, rfl⟩
            have hmul : IntKind.i64.wrap ((j : Int) * 7) = (j : Int) * 7 := by rw [IntKind.wrap_i64]; omega
            have hxw : (Lit.int .i64 x).wf = true := by rw [← hx]; exact wf_wrap _ _
            obtain ⟨px1, px2⟩ := pick_lt x (many := 100) (by omega)
            obtain ⟨_, _, e2, f2⟩ := hpb.out.cell
            have hjI : (j : Int) < 8 := by omega
            have HA : Hid (∀ v' w2, w2.ownsRow (wr.heap.size + 1) 3 1 v' (ys.length + 1) (icells ys ++ icells [pick x 100]) → (wz.alloc (.cells #[.int .i64 (pick x 100)] 3)).grownBy w2 (Value.slice ao ys.length cq).ownBlock →
                OwnsI w2 (wr.heap.size + 1) v' (ys ++ [pick x 100]) ∧ Below (wr.heap.size + 1) wz w2 ∧ wr.heap.size + 1 ≤ w2.heap.size) := fun v' w2 g1 g2 => ownsI_next (new := [pick x 100]) hown.out g1 g2 (Below.refl _ _) hszz
            have HB : Hid (∀ v' w5, OwnsI w5 (wr.heap.size + 1) v' (ys ++ [pick x 100]) → Below (wr.heap.size + 1) wz w5 → PB (w5.setCell ⟨wr.heap.size, 2, none⟩ v') wr.heap.size 3 (pick rc 8) v' ∧ OwnsI (w5.setCell ⟨wr.heap.size, 2, none⟩ v') (wr.heap.size + 1) v' (ys ++ [pick x 100]) ∧ Below wr.heap.size wr (w5.setCell ⟨wr.heap.size, 2, none⟩ v') ∧ wr.heap.size + 1 ≤ (w5.setCell ⟨wr.heap.size, 2, none⟩ v').heap.size) := fun v' w5 g1 g2 => pb_step hpb.out hbz hszz g1 g2
            have hownH : Hid _ := ownsI_alloc hown.out (.cells #[.int .i64 (pick x 100)] 3)
            have hcells : Hid _ := one_cell wz (pick x 100)
            have HNS : Hid (Small16 (ys ++ [pick x 100])) := small_append hsm.out (fun m hm => by
              simp at hm
              subst hm; omega)
            have HE : Hid ((ys ++ [pick x 100]).length = j + 1) := show _ = _ by simp [hly.out]
            have hlen := hly.out
            have SH : Hid (wr.heap.size + 1 ≤ (wz.alloc (.cells #[.int .i64 (pick x 100)] 3)).heap.size) := show wr.heap.size + 1 ≤ (wz.alloc (.cells #[.int .i64 (pick x 100)] 3)).heap.size by simp; omega
            have SM : Hid (ys.length + 1 ≤ maxLen) := show ys.length + 1 ≤ maxLen by unfold maxLen; omega
            have SB : Hid ((ys.length + 1) * 8 ≤ 140737488355328) := show (ys.length + 1) * 8 ≤ 140737488355328 by omega
            have S1 : Hid (0 < 1) := Nat.zero_lt_one
            have K1 : Hid ((wz.alloc (.cells #[.int .i64 (pick x 100)] 3)).cell? ⟨w.heap.size, 1, none⟩ = some (.int .i64 ra)) := show _ = _ by rw [World.cell?_alloc_past _ _ _ (by first | omega | (simp; omega))]; exact e1
            have HL1 : Hid (w.heap.size < wr.heap.size + 1) := show w.heap.size < wr.heap.size + 1 by omega
            have HL2 : Hid (wr.heap.size < wr.heap.size + 1) := Nat.lt_succ_self _
            have hPz : ¬ wr.heap.size = wz.heap.size := by omega
            have hPz' : wr.heap.size < wz.heap.size := by omega
            have E2 : ((wz.alloc (.cells #[.int .i64 (pick x 100)] 3)).drew).cell? ⟨wr.heap.size, 2, none⟩ = some (.slice ao ys.length cq) := show (wz.alloc (.cells #[.int .i64 (pick x 100)] 3)).cell? ⟨wr.heap.size, 2, none⟩ = _ by rw [World.cell?_alloc_past _ _ _ (by first | omega | (simp; omega))]; exact e2
            have hne : ¬ wr.heap.size = w.heap.size := by omega
            have hne' : ¬ w.heap.size = wr.heap.size := by omega
            clear hlen hown hsm hpb
            go_wp2
            go_region_law
              (first
                | (go_simp; go_at_call 23; refine (picked_any _ _ _ (by assumption) (by omega) (by omega)).mono ?_; rintro e w' ⟨rfl, rfl⟩; dsimp only)
                | (refine step_append_lies _ (by rfl) (.tmp 49) (.tmp 56) 28 (by rfl) (wr.heap.size + 1) 3 i1 _ 1 8 Tryd.underlying28 hi' hy0 hy1 hy2 rfl S1.out (.slice ao ys.length cq) ys.length (icells ys) (by first | rfl | simp [Act.eval] | simp [Act.eval, Act.put]) hownH.out ⟨wz.heap.size, 0, none⟩ 1 1 (icells [pick x 100]) (by first | rfl | simp [Act.eval] | simp [Act.eval, Act.put]) rfl hcells.out (icells_one _) S1.out SM.out SB.out SH.out _ rfl ?_; intro g5 cp5 w5 g1 g2 q1 q2; have R5 := HA.out _ _ g1 (grown_drew g2); have R6 := HB.out _ _ R5.1 R5.2.1; have k1 : w5.cell? ⟨w.heap.size, 1, none⟩ = some (.int .i64 ra) := (R5.2.1.cell (p := ⟨w.heap.size, 1, none⟩) HL1.out).trans e1; have k2 : w5.frozen? ⟨wr.heap.size, 2, none⟩ = false := (R5.2.1.frozen (p := ⟨wr.heap.size, 2, none⟩) HL2.out).trans f2; have k3 : w5.cell? ⟨wr.heap.size, 2, none⟩ = some (.slice ao ys.length cq) := (R5.2.1.cell (p := ⟨wr.heap.size, 2, none⟩) HL2.out).trans e2)
                | fail)
            all_goals
              clear HA HB hownH hcells SH SM SB S1 K1 g1 g2 R5 k1 k2 k3
              go_wp2
              go_roundw
              case rel => exact ⟨j + 1, some ⟨g5, 0, none⟩, cp5, ys ++ [pick x 100], by omega, by go_num, HE, (show PB _ _ _ _ _ by rw [HE.out, ← hly.out]; exact R6.1), (show OwnsI _ _ _ _ by rw [HE.out, ← hly.out]; exact R6.2.1), HNS, R6.2.2.1, R6.2.2.2⟩
              case measure => simp [intOf]; omega
          · have hjI : ¬ (j : Int) < 8 := by omega
            have hy8 : ys.length = 8 := by rw [hly.out]; omega
            obtain ⟨e0, e1, e2, f2⟩ := hpb.out.cell
            obtain ⟨ao', cq', hvv, hwords⟩ := words_of_own hown.out hy8 hsm.out
            have hHW : Hid (WordsAt wz ⟨3, (pick rc 8), ao, ys, cq⟩) := by
              have hh := hwords 3 (pick rc 8)
              simp only [Value.slice.injEq] at hvv
              obtain ⟨rfl, _, rfl⟩ := hvv
              exact hh
            have HI2 : Hid (ImgAt wz w1.heap.size u6 ps) := hI.out.below hbz
            have hb2 : Below w1.heap.size w1 wz := hbr.trans (hbz.mono hszr)
            have hs2 : w1.heap.size ≤ wz.heap.size := by omega
            rw [hy8] at e2
            have HA : Hid (∀ v' w3, w3.ownsRow w1.heap.size 44 3 v' (ps.length + 1) (rowP ps ++ rowP [⟨3, (pick rc 8), ao, ys, cq⟩]) → (wz.alloc (.cells #[.int .i64 3, .int .i64 (pick rc 8), .slice ao 8 cq] 44)).grownBy w3 u6.ownBlock →
                ImgAt w3 w1.heap.size v' (ps ++ [⟨3, (pick rc 8), ao, ys, cq⟩]) ∧ Below w1.heap.size w1 w3 ∧ w1.heap.size ≤ w3.heap.size) := fun v' w3 g1 g2 => img_next HI2.out hHW.out g1 g2 hb2 hs2
            have ho := World.ownsRow.alloc HI2.out.own (.cells #[.int .i64 3, .int .i64 (pick rc 8), .slice ao 8 cq] 44)
            have hc := page_cells wz ⟨3, (pick rc 8), ao, ys, cq⟩
            dsimp only at hc
            rw [hy8] at hc
            have HO : Hid _ := ho
            have HC : Hid _ := hc
            have HP2 : Hid (Placed (ps ++ [⟨3, (pick rc 8), ao, ys, cq⟩])) := placed_snoc PL.out (by rw [hln.out] <;> rfl) (f_small (inB_iff.2 ⟨by dsimp only; omega, by dsimp only; omega⟩) (inB_iff.2 ⟨by dsimp only; omega, by dsimp only; omega⟩) hHW.out.len hHW.out.small)
            have HL2 : Hid ((ps ++ [Pg.mk 3 (pick rc 8) ao ys cq]).length = 4) := show _ = _ by simp [hln.out]
            have hpl : Hid (ps.length ≤ 6) := show ps.length ≤ 6 by rw [hln.out]; omega
            have SM : Hid (ps.length + 1 ≤ maxLen) := show ps.length + 1 ≤ maxLen by unfold maxLen; have := hpl.out; omega
            have SB : Hid ((ps.length + 1) * 40 ≤ 140737488355328) := show (ps.length + 1) * 40 ≤ 140737488355328 by have := hpl.out; omega
            clear ho hc hvv hwords hpb hown hsm hHW HI2 hly PL hI d1
            go_wp2_with (at_builtin; refine wpList_append_own _ rfl _ _ 31 rfl w1.heap.size 44 i0 _ 3 40 Tryd.underlying31 hi hz0 hz1 hz2 rfl (by decide) _ _ _ rfl HO.out ⟨wz.heap.size, 0, none⟩ 1 1 (rowP [⟨3, (pick rc 8), ao, ys, cq⟩]) rfl rfl HC.out (pcells_one _) SM.out SB.out (by simp; omega) ?_)
            intro v5 w5 g1 g2 _
            have R5 := HA.out _ _ g1 g2
            clear HA HO HC g1 g2 SM SB
            go_wp2
            go_roundw
            case rel => exact ⟨4, _, by omega, by omega, by first | rfl | go_num, HL2, R5.1, HP2, R5.2.1, R5.2.2⟩
            case measure => first | (simp [intOf]; done) | (simp [intOf]; omega)

      · have t3 : ((n : Int) == 3) = false := by simpa using (by omega : ¬ (n : Int) = 3)
        go_wp2_with (go_at_call 23; refine (picked_any _ _ _ (by assumption) (by omega) (by omega)).mono ?_; rintro e w' ⟨rfl, rfl⟩)
        go_loopw [45] (fun i wz => ∃ (j : Nat) (ao : Option Addr) (cq : Nat) (ys : List Int), j ≤ 8 ∧ i = .int .i64 j ∧ Hid (ys.length = j) ∧ Hid (PB wz wr.heap.size n 3 (.slice ao ys.length cq)) ∧ Hid (OwnsI wz (wr.heap.size + 1) (.slice ao ys.length cq) ys) ∧ Hid (Small16 ys) ∧ Below wr.heap.size wr wz ∧ wr.heap.size + 1 ≤ wz.heap.size) (fun i _ => 8 - (intOf i).toNat)
        case atStart => exact ⟨0, none, 0, [], by omega, rfl, (show _ = _ from rfl), pb_new wr n 3, World.ownsRow_nil _ _ _ _, fun n hn => absurd hn (by simp), (Below.refl _ _).alloc (Nat.le_refl _) _, by simp⟩
        case round =>
          rename World => wz
          clear d2 d3
          obtain ⟨j, ao, cq, ys, hj8, rfl, hly, hpb, hown, hsm, hbz, hszz⟩ := hrel
          by_cases hlj : j < 8
          · have e1 := keep_cell hbz d1
            obtain ⟨x, hx⟩ : ∃ x, IntKind.i64.wrap (ra + (j : Int) * 7) = x := ⟨_, rfl⟩
            have hmul : IntKind.i64.wrap ((j : Int) * 7) = (j : Int) * 7 := by rw [IntKind.wrap_i64]; omega
            have hxw : (Lit.int .i64 x).wf = true := by rw [← hx]; exact wf_wrap _ _
            obtain ⟨px1, px2⟩ := pick_lt x (many := 100) (by omega)
            obtain ⟨_, _, e2, f2⟩ := hpb.out.cell
            have hjI : (j : Int) < 8 := by omega
            have HA : Hid (∀ v' w2, w2.ownsRow (wr.heap.size + 1) 3 1 v' (ys.length + 1) (icells ys ++ icells [pick x 100]) → (wz.alloc (.cells #[.int .i64 (pick x 100)] 3)).grownBy w2 (Value.slice ao ys.length cq).ownBlock →
                OwnsI w2 (wr.heap.size + 1) v' (ys ++ [pick x 100]) ∧ Below (wr.heap.size + 1) wz w2 ∧ wr.heap.size + 1 ≤ w2.heap.size) := fun v' w2 g1 g2 => ownsI_next (new := [pick x 100]) hown.out g1 g2 (Below.refl _ _) hszz
            have HB : Hid (∀ v' w5, OwnsI w5 (wr.heap.size + 1) v' (ys ++ [pick x 100]) → Below (wr.heap.size + 1) wz w5 → PB (w5.setCell ⟨wr.heap.size, 2, none⟩ v') wr.heap.size n 3 v' ∧ OwnsI (w5.setCell ⟨wr.heap.size, 2, none⟩ v') (wr.heap.size + 1) v' (ys ++ [pick x 100]) ∧ Below wr.heap.size wr (w5.setCell ⟨wr.heap.size, 2, none⟩ v') ∧ wr.heap.size + 1 ≤ (w5.setCell ⟨wr.heap.size, 2, none⟩ v').heap.size) := fun v' w5 g1 g2 => pb_step hpb.out hbz hszz g1 g2
            have hownH : Hid _ := ownsI_alloc hown.out (.cells #[.int .i64 (pick x 100)] 3)
            have hcells : Hid _ := one_cell wz (pick x 100)
            have HNS : Hid (Small16 (ys ++ [pick x 100])) := small_append hsm.out (fun m hm => by
              simp at hm
              subst hm; omega)
            have HE : Hid ((ys ++ [pick x 100]).length = j + 1) := show _ = _ by simp [hly.out]
            have hlen := hly.out
            have SH : Hid (wr.heap.size + 1 ≤ (wz.alloc (.cells #[.int .i64 (pick x 100)] 3)).heap.size) := show wr.heap.size + 1 ≤ (wz.alloc (.cells #[.int .i64 (pick x 100)] 3)).heap.size by simp; omega
            have SM : Hid (ys.length + 1 ≤ maxLen) := show ys.length + 1 ≤ maxLen by unfold maxLen; omega
            have SB : Hid ((ys.length + 1) * 8 ≤ 140737488355328) := show (ys.length + 1) * 8 ≤ 140737488355328 by omega
            have S1 : Hid (0 < 1) := Nat.zero_lt_one
            have K1 : Hid ((wz.alloc (.cells #[.int .i64 (pick x 100)] 3)).cell? ⟨w.heap.size, 1, none⟩ = some (.int .i64 ra)) := show _ = _ by rw [World.cell?_alloc_past _ _ _ (by first | omega | (simp; omega))]; exact e1
            have HL1 : Hid (w.heap.size < wr.heap.size + 1) := show w.heap.size < wr.heap.size + 1 by omega
            have HL2 : Hid (wr.heap.size < wr.heap.size + 1) := Nat.lt_succ_self _
            have hPz : ¬ wr.heap.size = wz.heap.size := by omega
            have hPz' : wr.heap.size < wz.heap.size := by omega
            have E2 : ((wz.alloc (.cells #[.int .i64 (pick x 100)] 3)).drew).cell? ⟨wr.heap.size, 2, none⟩ = some (.slice ao ys.length cq) := show (wz.alloc (.cells #[.int .i64 (pick x 100)] 3)).cell? ⟨wr.heap.size, 2, none⟩ = _ by rw [World.cell?_alloc_past _ _ _ (by first | omega | (simp; omega))]; exact e2
            have hne : ¬ wr.heap.size = w.heap.size := by omega
            have hne' : ¬ w.heap.size = wr.heap.size := by omega
            clear hlen hown hsm hpb
            go_wp2
            go_region_law
              (first
                | (go_simp; go_at_call 23; refine (picked_any _ _ _ (by assumption) (by omega) (by omega)).mono ?_; rintro e w' ⟨rfl, rfl⟩; dsimp only)
                | (refine step_append_lies _ (by rfl) (.tmp 49) (.tmp 56) 28 (by rfl) (wr.heap.size + 1) 3 i1 _ 1 8 Tryd.underlying28 hi' hy0 hy1 hy2 rfl S1.out (.slice ao ys.length cq) ys.length (icells ys) (by first | rfl | simp [Act.eval] | simp [Act.eval, Act.put]) hownH.out ⟨wz.heap.size, 0, none⟩ 1 1 (icells [pick x 100]) (by first | rfl | simp [Act.eval] | simp [Act.eval, Act.put]) rfl hcells.out (icells_one _) S1.out SM.out SB.out SH.out _ rfl ?_; intro g5 cp5 w5 g1 g2 q1 q2; have R5 := HA.out _ _ g1 (grown_drew g2); have R6 := HB.out _ _ R5.1 R5.2.1; have k1 : w5.cell? ⟨w.heap.size, 1, none⟩ = some (.int .i64 ra) := (R5.2.1.cell (p := ⟨w.heap.size, 1, none⟩) HL1.out).trans e1; have k2 : w5.frozen? ⟨wr.heap.size, 2, none⟩ = false := (R5.2.1.frozen (p := ⟨wr.heap.size, 2, none⟩) HL2.out).trans f2; have k3 : w5.cell? ⟨wr.heap.size, 2, none⟩ = some (.slice ao ys.length cq) := (R5.2.1.cell (p := ⟨wr.heap.size, 2, none⟩) HL2.out).trans e2)
                | fail)
            all_goals
              clear HA HB hownH hcells SH SM SB S1 K1 g1 g2 R5 k1 k2 k3
              go_wp2
              go_roundw
              case rel => exact ⟨j + 1, some ⟨g5, 0, none⟩, cp5, ys ++ [pick x 100], by omega, by go_num, HE, (show PB _ _ _ _ _ by rw [HE.out, ← hly.out]; exact R6.1), (show OwnsI _ _ _ _ by rw [HE.out, ← hly.out]; exact R6.2.1), HNS, R6.2.2.1, R6.2.2.2⟩
              case measure => simp [intOf]; omega
          · have hjI : ¬ (j : Int) < 8 := by omega
            have hy8 : ys.length = 8 := by rw [hly.out]; omega
            obtain ⟨e0, e1, e2, f2⟩ := hpb.out.cell
            obtain ⟨ao', cq', hvv, hwords⟩ := words_of_own hown.out hy8 hsm.out
            have hHW : Hid (WordsAt wz ⟨n, 3, ao, ys, cq⟩) := by
              have hh := hwords n 3
              simp only [Value.slice.injEq] at hvv
              obtain ⟨rfl, _, rfl⟩ := hvv
              exact hh
            have HI2 : Hid (ImgAt wz w1.heap.size u6 ps) := hI.out.below hbz
            have hb2 : Below w1.heap.size w1 wz := hbr.trans (hbz.mono hszr)
            have hs2 : w1.heap.size ≤ wz.heap.size := by omega
            rw [hy8] at e2
            have HA : Hid (∀ v' w3, w3.ownsRow w1.heap.size 44 3 v' (ps.length + 1) (rowP ps ++ rowP [⟨n, 3, ao, ys, cq⟩]) → (wz.alloc (.cells #[.int .i64 n, .int .i64 3, .slice ao 8 cq] 44)).grownBy w3 u6.ownBlock →
                ImgAt w3 w1.heap.size v' (ps ++ [⟨n, 3, ao, ys, cq⟩]) ∧ Below w1.heap.size w1 w3 ∧ w1.heap.size ≤ w3.heap.size) := fun v' w3 g1 g2 => img_next HI2.out hHW.out g1 g2 hb2 hs2
            have ho := World.ownsRow.alloc HI2.out.own (.cells #[.int .i64 n, .int .i64 3, .slice ao 8 cq] 44)
            have hc := page_cells wz ⟨n, 3, ao, ys, cq⟩
            dsimp only at hc
            rw [hy8] at hc
            have HO : Hid _ := ho
            have HC : Hid _ := hc
            have HP2 : Hid (Placed (ps ++ [⟨n, 3, ao, ys, cq⟩])) := placed_snoc PL.out (by rw [hln.out] <;> rfl) (f_small (inB_iff.2 ⟨by dsimp only; omega, by dsimp only; omega⟩) (inB_iff.2 ⟨by dsimp only; omega, by dsimp only; omega⟩) hHW.out.len hHW.out.small)
            have HL2 : Hid ((ps ++ [Pg.mk n 3 ao ys cq]).length = n + 1) := show _ = _ by simp [hln.out]
            have hpl : Hid (ps.length ≤ 6) := show ps.length ≤ 6 by rw [hln.out]; omega
            have SM : Hid (ps.length + 1 ≤ maxLen) := show ps.length + 1 ≤ maxLen by unfold maxLen; have := hpl.out; omega
            have SB : Hid ((ps.length + 1) * 40 ≤ 140737488355328) := show (ps.length + 1) * 40 ≤ 140737488355328 by have := hpl.out; omega
            clear ho hc hvv hwords hpb hown hsm hHW HI2 hly PL hI d1
            go_wp2_with (at_builtin; refine wpList_append_own _ rfl _ _ 31 rfl w1.heap.size 44 i0 _ 3 40 Tryd.underlying31 hi hz0 hz1 hz2 rfl (by decide) _ _ _ rfl HO.out ⟨wz.heap.size, 0, none⟩ 1 1 (rowP [⟨n, 3, ao, ys, cq⟩]) rfl rfl HC.out (pcells_one _) SM.out SB.out (by simp; omega) ?_)
            intro v5 w5 g1 g2 _
            have R5 := HA.out _ _ g1 g2
            clear HA HO HC g1 g2 SM SB
            go_wp2
            go_roundw
            case rel => exact ⟨n + 1, _, by omega, by omega, by first | rfl | go_num, HL2, R5.1, HP2, R5.2.1, R5.2.2⟩
            case measure => first | (simp [intOf]; done) | (simp [intOf]; omega)

    · go_wp2_with (go_at_call 23; refine (picked_any _ _ _ (by assumption) (by omega) (by omega)).mono ?_; rintro e w' ⟨rfl, rfl⟩)
      go_ret
      obtain ⟨b, c', hv, hp⟩ := img_pages hI.out (placed_all PL.out)
      exact ⟨b, ps, c', by rw [hv]; rfl, hp, placed_image PL.out, by rw [hln.out]; omega, hb1'.trans (hbr.mono (by omega))⟩

end Go.Proofs.YtdbbiibnhgcndaaDoor
