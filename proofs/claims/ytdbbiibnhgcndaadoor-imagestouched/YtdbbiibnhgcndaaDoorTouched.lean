/-
  For every list of raw things, raw thing and two numbers, ImagesTouched answers true: an image of which a word, a right or the last page is another one has another expected text (P1.4, P1.2); the arguments read afterwards as before. No condition but that the library's tables are as the program's text lays them, which the card ties.
-/
import Derived.Test.YtdbbiibnhgcndaaDoorImgWalk
import Derived.Test.YtdbbiibnhgcndaaDoorTouchMath
import Derived.Test.YtdbbiibnhgcndaaDoorApart
namespace Go.Proofs.YtdbbiibnhgcndaaDoor
open Go.ChangeShapes Go.WideShapes Go.ChangeAt Go.RowKit
set_option linter.unusedVariables false
set_option maxRecDepth 100000

theorem expect_ok {a : Option Addr} {ps : List Pg} (cap n : Nat) (hn : ps.length = n) (w : World) (hx : PagesAt w a ps) (hf : imageF ps = 0) (ht : Tab w) :
    Calls Tryd.prog 17 #[.slice a n cap] w fun e w' => e = .returned (.tuple #[.string (txt (expL ps)), .int .i64 0]) ∧ Below w.heap.size w w' := by
  have h8 := image_len hf
  have h := expect_any a ps cap w (by unfold maxLen; omega) hx ht
  rw [hn] at h
  unfold expV at h
  rw [if_pos hf] at h
  exact h
theorem txt_ne {ps ts : List Pg} (hf : imageF ps = 0) (hf' : imageF ts = 0) (h : ¬ ps.map Pg.dat = ts.map Pg.dat) : ((txt (expL ps)).toList == (txt (expL ts)).toList) = false := by
  rw [ba_beq]
  exact decide_eq_false fun e => h ((exp_inj hf hf').1 e)
theorem OwnedP.drew {w : World} {B : Nat} {qs : List Pg} (h : OwnedP w B qs) : OwnedP w.drew B qs := ⟨h.row, h.own, h.apart, h.fit⟩

set_option maxHeartbeats 8000000 in
set_option maxRecDepth 100000 in
theorem imagesTouched_walk (a : Option Addr) (rs : List Rw) (cap : Nat) (R : Rw) (which by_ : Int) (w : World) (hl : rs.length ≤ maxLen) (hx : RawsAt w a rs) (hR : R.Ok) (hwh : (Lit.int .i64 which).wf = true) (hby : (Lit.int .i64 by_).wf = true) (ht : Tab w) :
    Calls Tryd.prog 8 #[.slice a rs.length cap, R.val, .int .i64 which, .int .i64 by_] w fun e w' => e = .returned (.bool true) ∧ Below w.heap.size w w' := by
  have HI : Hid (∀ w', Below w.heap.size w w' → _) := fun w' (h : Below w.heap.size w w') => image_any a rs cap R w' hl (hx.below h) hR
  have HT : Hid (Tab w) := ht
  clear hx hl hR ht
  obtain ⟨rk, ra, rb, rc⟩ := R
  dsimp only [Rw.val] at HI ⊢
  have B2 : Hid (Below w.heap.size w (w.alloc (.cells #[.int .i64 rk, .int .i64 ra, .int .i64 rb, .int .i64 rc] 36))) := (Below.refl _ _).alloc (Nat.le_refl _) _
  go_enter Tryd.func8, Tryd.ntmps8
  go_wp2_with fail
  refine (HI.out _ B2.out).mono ?_
  rintro e w1 ⟨b1, ps, c1, rfl, hp1, hf1, hn1, hb1⟩
  have hB1 : Hid (Below w.heap.size w w1) := B2.out.trans (hb1.mono (by simp))
  have hn8 := image_len hf1
  have hY := copy_own b1 ps c1 w1 (by omega) (fun j hj => by rw [image_words hf1 j hj]; omega) hp1
  clear HI B2 hb1
  go_wp2_with fail
  refine hY.mono ?_
  rintro e w2 ⟨qs, rfl, hq1, hq2, hq3, hb2⟩
  clear hY
  obtain ⟨j, hJ⟩ := Int.eq_ofNat_of_zero_le (pick_lt which (many := (ps.length : Int)) (by omega)).1
  have hjn : j < ps.length := by have := (pick_lt which (many := (ps.length : Int)) (by omega)).2; omega
  have hP1 := picked_any which (ps.length : Int) w2 hwh (by omega) (by omega)
  rw [hJ] at hP1
  have hjI : (j : Int) < (ps.length : Int) := by omega
  obtain ⟨T, hT⟩ : ∃ T, pick by_ 3 = T := ⟨_, rfl⟩
  have hT3 := pick_lt by_ (many := 3) (by omega)
  have hP2 := picked_any by_ 3 w2 hby (by omega) (by omega)
  rw [hT] at hP2 hT3
  clear hJ hT
  go_wp2_with fail
  refine hP1.mono ?_
  rintro e w' ⟨rfl, rfl⟩
  clear hP1
  go_wp2_with fail
  refine hP2.mono ?_
  rintro e w' ⟨rfl, rfl⟩
  clear hP2
  have hTT : T = 0 ∨ T = 1 ∨ T = 2 := by omega
  clear hT3
  have hfj : (ps.getD j default).f = 0 := imgF_all ps none hf1 _ (mem_getD hjn)
  have hsj := hq2 j hjn
  have hjq : j < qs.length := by omega
  obtain ⟨F, hrow, hcell⟩ := hq3.row
  obtain ⟨s1, s2, s3⟩ := hcell j hjq
  obtain ⟨g, g1, g2, g3⟩ := hq3.own j hjq
  have hw8 : (qs.getD j default).ws.length = 8 := by rw [hsj.2.2]; exact image_words hf1 j hjn
  rcases hTT with rfl | rfl | rfl
  · -- a word
    obtain ⟨k, hk⟩ := Int.eq_ofNat_of_zero_le (pick_lt by_ (many := 8) (by omega)).1
    have hk8 : k < 8 := by have := (pick_lt by_ (many := 8) (by omega)).2; omega
    have hV2 := pick_lt which (many := 1000) (by omega)
    obtain ⟨V, hVV⟩ : ∃ V, pick which 1000 = V := ⟨_, rfl⟩
    rw [hVV] at hV2
    have c2 := hrow.cell (i := j * 3 + 2) (by omega)
    rw [s3, g1, hw8] at c2
    have c3 := wcells_cell g3 k (by omega)
    have hwd := word_small hfj k (by rw [← hsj.2.2]; omega)
    rw [← hsj.2.2] at hwd
    rw [Nat.zero_add] at c3
    obtain ⟨z, hz⟩ : ∃ z, bits .xor .i64 ((qs.getD j default).ws.getD k 0) (1 + V) = z := ⟨_, rfl⟩
    have hx16 := xor_eq 16 (by omega) ((qs.getD j default).ws.getD k 0) (1 + V) hwd.1 (by omega) (by omega) (by omega)
    rw [hz] at hx16
    have hzz : 0 ≤ z ∧ z ≤ 65535 := by obtain ⟨x1, x2, _⟩ := hx16; exact ⟨x1, by omega⟩
    have hwt := word_touch hfj k (by rw [← hsj.2.2]; omega) z hzz (by rw [← hsj.2.2]; exact hx16.2.2) (qs.getD j default).a (qs.getD j default).cap
    have HTS : Hid (∃ ts, PagesAt (w2.drew.setCell ⟨g, k, none⟩ (.int .i64 z)) (some ⟨w1.heap.size, 0, none⟩) ts ∧ ts.length = ps.length ∧ imageF ts = 0 ∧ (¬ ps.map Pg.dat = ts.map Pg.dat) ∧ Below w1.heap.size w1 (w2.drew.setCell ⟨g, k, none⟩ (.int .i64 z))) :=
      ⟨_, hq3.drew.word j hjq g g1 k z (wf_of hzz), by simpa using hq1, swap_one hq1 hq2 hf1 j hjn _ hsj.1 (by rw [hsj.1, hsj.2.1, hsj.2.2]; exact hwt.1), swap_ne hq1 hjn (by rw [hsj.1, hsj.2.1, hsj.2.2]; exact hwt.2), (hb2.drew).setCell (p := ⟨g, k, none⟩) (Nat.le_of_lt g2) _⟩
    have fz : w2.frozen? ⟨g, k, none⟩ = false := by simp [World.frozen?, g3]
    have hwv : IntKind.i64.wrap (1 + V) = 1 + V := by rw [IntKind.wrap_i64]; omega
    generalize (qs.getD j default).ws.getD k 0 = y at c3 hz hwd hx16
    generalize (qs.getD j default).cap = cj at c2
    have hkI : (k : Int) < 8 := by omega
    clear hwt hx16 hfj hsj hrow hcell s1 s2 s3 g1 g3 hw8 hq1 hq2 hq3 hjq F
    go_wp2_with fail
    go_region_law (go_simp; go_at_call 23; refine (picked_any _ _ _ (by assumption) (by omega) (by omega)).mono ?_; rintro e w' ⟨rfl, rfl⟩; dsimp only)
    all_goals
      obtain ⟨ts, hts, hlen, hft, hne, hb3⟩ := HTS.out
      have hT3 := HT.out.below (hB1.out.trans (hb3.mono hB1.out.size))
      have hE1 := expect_ok c1 ps.length rfl _ (hp1.below hb3) hf1 hT3
      have HE2 : Hid (∀ w', Below _ _ w' → _) := fun w' h => expect_ok ps.length ps.length hlen w' (hts.below h) hft (hT3.below h)
      have hbq := txt_ne hf1 hft hne
      generalize txt (expL ps) = X at hE1 hbq
      generalize txt (expL ts) = Y at HE2 hbq
      clear HTS hts hlen hft hne hT3
      go_wp2_with fail
      refine hE1.mono ?_
      rintro e w4 ⟨rfl, hb4⟩
      go_wp2_with fail
      refine (HE2.out _ hb4).mono ?_
      rintro e w5 ⟨rfl, hb5⟩
      clear HE2 hE1
      go_wp2
      go_ret
      exact ⟨rfl, hB1.out.trans (((hb3.trans (hb4.mono hb3.size)).trans (hb5.mono (Nat.le_trans hb3.size hb4.size))).mono hB1.out.size)⟩
  · -- a right
    have hV2 := pick_lt which (many := 7) (by omega)
    obtain ⟨V, hVV⟩ : ∃ V, pick which 7 = V := ⟨_, rfl⟩
    rw [hVV] at hV2
    have c1' := hrow.cell (i := j * 3 + 1) (by omega)
    rw [s2] at c1'
    have hrr := inB_iff.1 (Pg.f_zero hfj).2.1
    rw [← hsj.2.1] at hrr
    obtain ⟨z, hz⟩ : ∃ z, bits .xor .i64 (qs.getD j default).r (1 + V) = z := ⟨_, rfl⟩
    have hx3 := xor_eq 3 (by omega) (qs.getD j default).r (1 + V) hrr.1 (by omega) (by omega) (by omega)
    rw [hz] at hx3
    have hzz : 0 ≤ z ∧ z ≤ 7 := by obtain ⟨x1, x2, _⟩ := hx3; exact ⟨x1, by omega⟩
    have hwt := right_touch hfj z hzz (by rw [← hsj.2.1]; exact hx3.2.2) (qs.getD j default).a (qs.getD j default).cap
    have HTS : Hid (∃ ts, PagesAt (w2.drew.setCell ⟨w1.heap.size, j * 3 + 1, none⟩ (.int .i64 z)) (some ⟨w1.heap.size, 0, none⟩) ts ∧ ts.length = ps.length ∧ imageF ts = 0 ∧ (¬ ps.map Pg.dat = ts.map Pg.dat) ∧ Below w1.heap.size w1 (w2.drew.setCell ⟨w1.heap.size, j * 3 + 1, none⟩ (.int .i64 z))) :=
      ⟨_, hq3.drew.right j hjq z (wf_of ⟨hzz.1, by omega⟩), by simpa using hq1, swap_one hq1 hq2 hf1 j hjn _ hsj.1 (by rw [hsj.1, hsj.2.2]; exact hwt.1), swap_ne hq1 hjn (by rw [hsj.1, hsj.2.2]; exact hwt.2), (hb2.drew).setCell (p := ⟨w1.heap.size, j * 3 + 1, none⟩) (Nat.le_refl _) _⟩
    have fz := hrow.frozen (j * 3 + 1)
    have hwv : IntKind.i64.wrap (1 + V) = 1 + V := by rw [IntKind.wrap_i64]; omega
    generalize (qs.getD j default).r = y at c1' hz hrr hx3
    clear hwt hx3 hfj hsj hrow hcell s1 s2 s3 g1 g3 hw8 hq1 hq2 hq3 hjq F
    go_wp2_with fail
    go_region_law (go_simp; go_at_call 23; refine (picked_any _ _ _ (by assumption) (by omega) (by omega)).mono ?_; rintro e w' ⟨rfl, rfl⟩; dsimp only)
    all_goals
      obtain ⟨ts, hts, hlen, hft, hne, hb3⟩ := HTS.out
      have hT3 := HT.out.below (hB1.out.trans (hb3.mono hB1.out.size))
      have hE1 := expect_ok c1 ps.length rfl _ (hp1.below hb3) hf1 hT3
      have HE2 : Hid (∀ w', Below _ _ w' → _) := fun w' h => expect_ok ps.length ps.length hlen w' (hts.below h) hft (hT3.below h)
      have hbq := txt_ne hf1 hft hne
      generalize txt (expL ps) = X at hE1 hbq
      generalize txt (expL ts) = Y at HE2 hbq
      clear HTS hts hlen hft hne hT3
      go_wp2_with fail
      refine hE1.mono ?_
      rintro e w4 ⟨rfl, hb4⟩
      go_wp2_with fail
      refine (HE2.out _ hb4).mono ?_
      rintro e w5 ⟨rfl, hb5⟩
      clear HE2 hE1
      go_wp2
      go_ret
      exact ⟨rfl, hB1.out.trans (((hb3.trans (hb4.mono hb3.size)).trans (hb5.mono (Nat.le_trans hb3.size hb4.size))).mono hB1.out.size)⟩
  · -- the last page
    have HTS : Hid (∃ ts, PagesAt w2 (some ⟨w1.heap.size, 0, none⟩) ts ∧ ts.length = ps.length - 1 ∧ imageF ts = 0 ∧ (¬ ps.map Pg.dat = ts.map Pg.dat) ∧ Below w1.heap.size w1 w2) :=
      ⟨qs.take (ps.length - 1), take_pages hq3.pages _, by simp; omega, take_f hq1 hq2 hf1 _, take_ne hq1 (by omega), hb2⟩
    clear hfj hsj hrow hcell s1 s2 s3 g1 g3 hw8 hq1 hq2 hq3 hjq F
    go_wp2_with fail
    obtain ⟨ts, hts, hlen, hft, hne, hb3⟩ := HTS.out
    have hT3 := HT.out.below (hB1.out.trans (hb3.mono hB1.out.size))
    have hE1 := expect_ok c1 ps.length rfl _ (hp1.below hb3) hf1 hT3
    have HE2 : Hid (∀ w', Below _ _ w' → _) := fun w' h => expect_ok ps.length (ps.length - 1) hlen w' (hts.below h) hft (hT3.below h)
    have hbq := txt_ne hf1 hft hne
    generalize txt (expL ps) = X at hE1 hbq
    generalize txt (expL ts) = Y at HE2 hbq
    clear HTS hts hlen hft hne hT3
    refine hE1.mono ?_
    rintro e w4 ⟨rfl, hb4⟩
    go_wp2_with fail
    refine (HE2.out _ hb4).mono ?_
    rintro e w5 ⟨rfl, hb5⟩
    clear HE2 hE1
    go_wp2
    go_ret
    exact ⟨rfl, hB1.out.trans (((hb3.trans (hb4.mono hb3.size)).trans (hb5.mono (Nat.le_trans hb3.size hb4.size))).mono hB1.out.size)⟩

theorem imagesTouched_contract (H : Type) (enc : TypeId × Value → H) (W : World) (base : Nat) (args : Array Value) (ds gs : List (DataW H)) (before : List MemPlace)
    (hval0 : ∀ (j : Nat) t v, Tryd.f8.params[j]? = some t → args[j]? = some v → Value.okWide Tryd.prog W .any base t v)
    (hW : DataW.Whole enc Tryd.prog Tryd.f8.params.toList Rows.imagesTouchedSpec.vars false W args.toList ds gs before) (hL : laidMetH Tryd.prog listed W)
    (hsz0 : (DataW.weightsEach Tryd.prog (Tryd.f8.params.toList ++ []) (ds ++ gs)).all (· ≤ reachBytes) = true) :
    Calls Tryd.prog 8 args W fun e W' => ∃ v, e = .returned v ∧ Rows.imagesTouchedSpec.post enc Tryd.prog Tryd.f8 false true false false W args v W' := by
  have hval := hval0
  have hsz := hsz0
  have hW' := hW
  obtain ⟨p, q, hA0, hV, rfl, hfz, hnd⟩ := hW
  have hA : DataW.TrodAll enc Tryd.prog W 0 (fun _ => true) true Tryd.f8.params.toList args.toList ds p := hA0
  rw [Tryd.params8] at hA hval hsz
  obtain ⟨v0, vs0, d0, ds0, p0, q0, hargs, rfl, rfl, h0, r0⟩ := trodAll_cons hA
  obtain ⟨v1, vs1, d1, ds1, p1, q1, rfl, rfl, rfl, h1, r1⟩ := trodAll_cons r0
  obtain ⟨v2, vs2, d2, ds2, p2, q2, rfl, rfl, rfl, h2, r2⟩ := trodAll_cons r1
  obtain ⟨v3, vs3, d3, ds3, p3, q3, rfl, rfl, rfl, h3, r3⟩ := trodAll_cons r2
  obtain ⟨rfl, rfl, rfl⟩ := trodAll_nil r3
  obtain rfl : args = #[v0, v1, v2, v3] := by cases args; simp_all
  obtain ⟨rfl, rfl⟩ := trodVars_none hV
  have k0 := h0
  have lt0 : ∀ x ∈ p0, x.block < W.heap.size := by obtain ⟨m, hm⟩ := k0; exact DataW.trod_lt m _ _ _ hm
  obtain ⟨a0, len0, cap0, rfl⟩ := okWide_slice Tryd.underlying34 (hval 0 34 v0 rfl rfl)
  obtain ⟨rs0, hlen0, hmax0, hx0⟩ := open_raws h0
  subst hlen0
  have k1 := h1
  have lt1 : ∀ x ∈ p1, x.block < W.heap.size := by obtain ⟨m, hm⟩ := k1; exact DataW.trod_lt m _ _ _ hm
  obtain ⟨rw1, rfl, hr1⟩ := open_raw (hval 1 36 v1 rfl rfl) h1
  have k2 := h2
  have lt2 : ∀ x ∈ p2, x.block < W.heap.size := by obtain ⟨m, hm⟩ := k2; exact DataW.trod_lt m _ _ _ hm
  obtain ⟨x2, rfl, rfl, rfl, wx2⟩ := open_int Tryd.underlying3 (hval 2 3 v2 rfl rfl) h2
  have k3 := h3
  have lt3 : ∀ x ∈ p3, x.block < W.heap.size := by obtain ⟨m, hm⟩ := k3; exact DataW.trod_lt m _ _ _ hm
  obtain ⟨x3, rfl, rfl, rfl, wx3⟩ := open_int Tryd.underlying3 (hval 3 3 v3 rfl rfl) h3
  clear hA0 hval0
  refine (imagesTouched_walk a0 rs0 cap0 rw1 x2 x3 W hmax0 hx0 hr1 wx2 wx3 (tab_of hL)).mono fun e W' ⟨he, bel⟩ => ?_
  subst he
  exact ⟨_, rfl, _, _, _, [], _, [], hW', trodAll_mk1 (shut_bool Tryd.underlying4 _), (trodAll_cons_mk (Below.trod laidOut (by kernel_rfl) (of_decide_eq_true (by kernel_rfl)) k0 bel lt0) (trodAll_cons_mk (Below.trod laidOut (by kernel_rfl) (of_decide_eq_true (by kernel_rfl)) k1 bel lt1) (trodAll_cons_mk (Below.trod laidOut (by kernel_rfl) (of_decide_eq_true (by kernel_rfl)) k2 bel lt2) (trodAll_cons_mk (Below.trod laidOut (by kernel_rfl) (of_decide_eq_true (by kernel_rfl)) k3 bel lt3) trodAll_mk0)))), rfl, bel.frame _, fun h => by cases h⟩

theorem imagesTouched_laid (os : Os) : laidMet Tryd.prog listed ((laidWorld os).forCall (fun _ _ => 0) ⟨#[], #[.slice none 0 0, .agg #[.int .i64 0, .int .i64 0, .int .i64 0, .int .i64 0], .int .i64 0, .int .i64 0], []⟩).memory :=
  laidMet_of_run' 8 (by kernel_rfl) (by kernel_rfl)
theorem imagesTouched_reads (os : Os) {H : Type} (enc : TypeId × Value → H) : ∃ places, DataW.whole enc Tryd.prog ((laidWorld os).forCall (fun _ _ => 0) ⟨#[], #[.slice none 0 0, .agg #[.int .i64 0, .int .i64 0, .int .i64 0, .int .i64 0], .int .i64 0, .int .i64 0], []⟩).memory Tryd.f8.params.toList Rows.imagesTouchedSpec.vars false (#[.slice none 0 0, .agg #[.int .i64 0, .int .i64 0, .int .i64 0, .int .i64 0], .int .i64 0, .int .i64 0] : Array Value).toList 8 = some ([.nil, .agg [.lit (.int .i64 0), .lit (.int .i64 0), .lit (.int .i64 0), .lit (.int .i64 0)], .lit (.int .i64 0), .lit (.int .i64 0)], [], places) :=
  ⟨[], by kernel_rfl⟩

set_option maxRecDepth 100000 in
theorem imagesTouched_lifted (os : Os) (started : os.Started) (H : Type) (enc : TypeId × Value → H) (F : Stop.Interp) :
    ReturnsInHanded {} Tryd.checked os 8 .any ((OpenSpec.ofChange Rows.imagesTouchedSpec).preRow enc Tryd.prog Tryd.f8 Rows.imagesTouchedRow.domain false Rows.imagesTouchedRow.laid) (((OpenSpec.ofChange Rows.imagesTouchedSpec).at F).post enc Tryd.prog Tryd.f8 false true false false) := by
  obtain ⟨places, hx⟩ := imagesTouched_reads os enc
  refine returnsInHanded_of_row (C := Tryd.checked) (s := (OpenSpec.ofChange Rows.imagesTouchedSpec)) own started (by kernel_rfl) Tryd.func8
    (witness_row_at (enc := enc) (C := Tryd.checked) false (laidWorld os) #[.slice none 0 0, .agg #[.int .i64 0, .int .i64 0, .int .i64 0, .int .i64 0], .int .i64 0, .int .i64 0] rfl (by kernel_rfl) (by kernel_rfl) (by kernel_rfl)
      (OpenSpec.preRow_of_cond 8 hx (by kernel_rfl) (fun k hk => by cases hk) (by kernel_rfl) (imagesTouched_laid os))) ?_
  intro W base args ds gs before hval hW _ hcond hsz hL _ _
  exact imagesTouched_contract H enc W base args ds gs before hval hW hL hsz

theorem imagesTouched_said : Rows.ImagesTouchedSaid :=
  OpenClaim.holds_of_cond 8 Tryd.f8 rfl rfl rfl rfl rfl rfl rfl ⟨rfl, rfl, rfl, rfl, rfl⟩ rfl rfl rfl rfl rfl (by kernel_rfl) Tryd.func8 (by kernel_rfl)
    (of_decide_eq_true (by kernel_rfl)) (by unfold Func.isWrapper; first | (rw [if_pos (by decide +kernel)]; kernel_rfl) | (rw [if_neg (by decide +kernel)]; exact ⟨rfl, rfl⟩))
    (fun os started H enc _ F => by rw [OpenClaim.pre_eq_preRow]; exact imagesTouched_lifted os started H enc F)

theorem imagesTouched_plain (f : FuncId) (fn : Func) (hf : Tryd.pinned.checked.prog.funcNamed "riddle/riddlekeep.ImagesTouched" = some f) (hfn : Tryd.pinned.checked.prog.funcs[f]? = some fn) :
    false = Tryd.pinned.checked.prog.looks [] ∧ ∀ (j : Nat) t, fn.params[j]? = some t → Tryd.pinned.checked.prog.wantsStandIn t = false := by
  obtain rfl : f = 8 := Option.some.inj ((show Tryd.prog.funcNamed "riddle/riddlekeep.ImagesTouched" = some 8 by kernel_rfl).symm.trans hf) |>.symm
  obtain rfl : fn = Tryd.f8 := (Option.some.inj (Tryd.func8.symm.trans hfn)).symm
  refine ⟨by kernel_rfl, fun j t ht => ?_⟩
  rw [Tryd.params8] at ht
  have hm : t = 34 ∨ t = 36 ∨ t = 3 := by simpa using Array.mem_of_getElem? ht
  rcases hm with rfl | rfl | rfl
  · exact (show Tryd.prog.wantsStandIn 34 = false by kernel_rfl)
  · exact (show Tryd.prog.wantsStandIn 36 = false by kernel_rfl)
  · exact (show Tryd.prog.wantsStandIn 3 = false by kernel_rfl)

theorem imagesTouched_card : Rows.ImagesTouchedCardSaid :=
  Claim7.holds_tied_plain_at .later [] _ _ _ _ imagesTouched_said (fun _ h => by cases h) (by kernel_rfl) (fun _ h => by cases h) imagesTouched_row_tie rfl ⟨rfl, rfl⟩ (by kernel_rfl) rfl imagesTouched_plain (by kernel_rfl)
#print axioms imagesTouched_card

end Go.Proofs.YtdbbiibnhgcndaaDoor
