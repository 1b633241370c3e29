/-
  For every two lists of raw things and two raw things, ImagesApart answers true: two images that may be have the same expected text only if their pages hold the same (P1.4, P1.2, P1.1); the arguments read afterwards as before. No condition but that the library's tables are as the program's text lays them, which the card ties.
-/
import Derived.Test.YtdbbiibnhgcndaaDoorImgWalk
import Derived.Test.YtdbbiibnhgcndaaDoorCopy
import Derived.Test.YtdbbiibnhgcndaaDoorSameKeep
import Derived.Test.YtdbbiibnhgcndaaDoorExpects
import Derived.Test.YtdbbiibnhgcndaaDoorLaid
namespace Go.Proofs.YtdbbiibnhgcndaaDoor
open Go.ChangeShapes Go.WideShapes Go.ChangeAt Go.RowKit
set_option linter.unusedVariables false
set_option maxRecDepth 100000

theorem ba_loop (bs : ByteArray) : ∀ (n i : Nat) (r : List UInt8), bs.size - i = n → ByteArray.toList.loop bs i r = r.reverse ++ bs.data.toList.drop i := by
  have hs : bs.data.toList.length = bs.size := by rw [Array.length_toList]; rfl
  intro n
  induction n with
  | zero =>
    intro i r h
    unfold ByteArray.toList.loop
    have : ¬ i < bs.size := by omega
    rw [if_neg this, List.drop_eq_nil_of_le (by omega)]
    simp
  | succ n ih =>
    intro i r h
    unfold ByteArray.toList.loop
    have hi : i < bs.size := by omega
    rw [if_pos hi, ih (i + 1) _ (by omega), List.drop_eq_getElem_cons (i := i) (by omega)]
    have hi2 : i < bs.data.size := hi
    have : bs.get! i = bs.data.toList[i]'(by omega) := by
      rw [Array.getElem_toList]
      show bs.data[i]! = _
      exact getElem!_pos bs.data i hi2
    rw [this]; simp
theorem ba_toList (bs : ByteArray) : bs.toList = bs.data.toList := by
  unfold ByteArray.toList
  rw [ba_loop bs _ 0 [] rfl]; simp
theorem ba_beq (X Y : ByteArray) : (X.toList == Y.toList) = decide (X = Y) := by
  rw [Bool.eq_iff_iff, beq_iff_eq, decide_eq_true_iff, ba_toList, ba_toList]
  constructor
  · intro h
    cases X; cases Y
    simpa using h
  · rintro rfl; rfl
theorem same_dat {ps qs : List Pg} (hl : qs.length = ps.length) (h : ∀ j, j < ps.length → (qs.getD j default).Same (ps.getD j default)) : qs.map Pg.dat = ps.map Pg.dat :=
  map_eq_upto hl fun j hj => by
    obtain ⟨h1, h2, h3⟩ := h j (by omega)
    unfold Pg.dat
    rw [h1, h2, h3]

set_option maxHeartbeats 4000000 in
set_option maxRecDepth 100000 in
theorem imagesApart_walk (a : Option Addr) (rs : List Rw) (cap : Nat) (b : Option Addr) (ss : List Rw) (cbp : Nat) (R S : Rw) (w : World) (hl : rs.length ≤ maxLen) (hx : RawsAt w a rs) (hl2 : ss.length ≤ maxLen) (hy : RawsAt w b ss) (hR : R.Ok) (hS : S.Ok) (ht : Tab w) :
    Calls Tryd.prog 7 #[.slice a rs.length cap, .slice b ss.length cbp, R.val, S.val] w fun e w' => e = .returned (.bool true) ∧ Below w.heap.size w w' := by
  have HI : Hid (∀ w', Below w.heap.size w w' → _) := fun w' (h : Below w.heap.size w w') => image_any a rs cap R w' hl (hx.below h) hR
  have HJ : Hid (∀ w', Below w.heap.size w w' → _) := fun w' (h : Below w.heap.size w w') => image_any b ss cbp S w' hl2 (hy.below h) hS
  have HT : Hid (Tab w) := ht
  clear hx hl hy hl2 hR hS ht
  obtain ⟨rk, ra, rb, rc⟩ := R
  obtain ⟨sk, sa, sb, sc⟩ := S
  dsimp only [Rw.val] at HI HJ ⊢
  have B2 : Hid (Below w.heap.size w ((w.alloc (.cells #[.int .i64 rk, .int .i64 ra, .int .i64 rb, .int .i64 rc] 36)).alloc (.cells #[.int .i64 sk, .int .i64 sa, .int .i64 sb, .int .i64 sc] 36))) := ((Below.refl _ _).alloc (Nat.le_refl _) _).alloc (by simp) _
  go_enter Tryd.func7, Tryd.ntmps7
  go_wp2_with fail
  refine (HI.out _ B2.out).mono ?_
  rintro e w1 ⟨b1, ps, c1, rfl, hp1, hf1, hn1, hb1⟩
  have hB1 : Hid (Below w.heap.size w w1) := B2.out.trans (hb1.mono (by simp; omega))
  have hbox : ∀ o v, (#[Value.int .i64 sk, .int .i64 sa, .int .i64 sb, .int .i64 sc])[o]? = some v → w1.cell? ⟨w.heap.size + 1, o, none⟩ = some v := fun o v hv => by
    rw [hb1.cell (p := ⟨w.heap.size + 1, o, none⟩) (by simp), World.cell?_alloc_at _ _ _ _ (by simp)]
    exact hv
  have x0 := hbox 0 _ rfl
  have x1 := hbox 1 _ rfl
  have x2 := hbox 2 _ rfl
  have x3 := hbox 3 _ rfl
  clear HI B2 hb1 hbox
  go_wp2_with fail
  refine (HJ.out _ hB1.out).mono ?_
  rintro e w2 ⟨b2, qs, c2, rfl, hp2, hf2, hn2, hb2⟩
  have hB2 : Hid (Below w.heap.size w w2) := hB1.out.trans (hb2.mono hB1.out.size)
  have hn1' := image_len hf1
  have hn2' := image_len hf2
  have hE1 := expect_any b1 ps c1 w2 (by unfold maxLen; omega) (hp1.below hb2) (HT.out.below hB2.out)
  have HE2 : Hid (∀ w', Below w2.heap.size w2 w' → _) := fun w' (h : Below w2.heap.size w2 w') => expect_any b2 qs c2 w' (by unfold maxLen; omega) (hp2.below h) ((HT.out.below hB2.out).below h)
  have HC : Hid (∀ w', Below w2.heap.size w2 w' → _) := fun w' (h : Below w2.heap.size w2 w') => check_any b1 ps c1 w' (by unfold maxLen; omega) ((hp1.below hb2).below h)
  have HS : Hid (∀ w', Below w2.heap.size w2 w' → _) := fun w' (h : Below w2.heap.size w2 w') => samePages_any b1 b2 ps qs c1 c2 w' (by omega) (by omega) ((hp1.below hb2).below h) (hp2.below h)
  have HY : Hid (∀ w', Below w2.heap.size w2 w' → _) := fun w' (h : Below w2.heap.size w2 w') => copy_any b1 ps c1 w' (by omega) (fun j hj => by rw [image_words hf1 j hj]; omega) ((hp1.below hb2).below h)
  have HS2 : Hid (∀ w' a2 qs' c2', qs'.length = ps.length → Below w2.heap.size w2 w' → PagesAt w' a2 qs' → _) := fun w' a2 (qs' : List Pg) c2' (hq : qs'.length = ps.length) (h : Below w2.heap.size w2 w') (hpq : PagesAt w' a2 qs') => samePages_any a2 b1 qs' ps c2' c1 w' (by omega) (by omega) hpq ((hp1.below hb2).below h)
  have hv1 : expV ps = .tuple #[.string (txt (expL ps)), .int .i64 0] := by unfold expV; rw [if_pos hf1]
  have hv2 : expV qs = .tuple #[.string (txt (expL qs)), .int .i64 0] := by unfold expV; rw [if_pos hf2]
  have hinj := exp_inj hf1 hf2
  rw [hv1] at hE1
  rw [hv2] at HE2
  rw [hf1] at HC
  generalize txt (expL ps) = X at hE1 hinj
  generalize txt (expL qs) = Y at HE2 hinj
  have HINJ : Hid (X = Y ↔ _) := hinj
  clear hv1 hv2 hinj hp1 hp2 hf1 hf2 hb2 x0 x1 x2 x3 HJ hB1 HT hn1 hn2 hn1' hn2'
  go_wp2_with fail
  refine hE1.mono ?_
  rintro e w3 ⟨rfl, hb3⟩
  go_wp2_with fail
  refine (HE2.out _ hb3).mono ?_
  rintro e w4 ⟨rfl, hb4⟩
  have hb4' := hb3.trans (hb4.mono hb3.size)
  go_wp2_with fail
  refine (HC.out _ hb4').mono ?_
  rintro e w5 ⟨rfl, hb5⟩
  have hb5' := hb4'.trans (hb5.mono hb4'.size)
  go_wp2_with fail
  refine (HS.out _ hb5').mono ?_
  rintro e w6 ⟨rfl, hb6⟩
  have hb6' := hb5'.trans (hb6.mono hb5'.size)
  have hd : decide (ps.map Pg.dat = qs.map Pg.dat) = decide (X = Y) := by
    rw [Bool.eq_iff_iff, decide_eq_true_iff, decide_eq_true_iff]
    exact HINJ.out.symm
  have hbq := ba_beq X Y
  rw [hd]
  generalize decide (X = Y) = c at hbq
  clear HC HE2 HS hE1 hd HINJ hb3 hb4 hb4' hb5 hb5' hb6
  go_wp2_with fail
  refine (HY.out _ hb6').mono ?_
  rintro e w7 ⟨qs', rfl, hq1, hq2, hq3, hb7⟩
  have hb7' := hb6'.trans (hb7.mono hb6'.size)
  have hS2 := HS2.out w7 _ qs' ps.length hq1 hb7' hq3
  rw [same_dat hq1 hq2, hq1] at hS2
  simp only [decide_true] at hS2
  clear HY HS2 hq1 hq2 hq3 hb7
  go_wp2_with fail
  refine hS2.mono ?_
  rintro e w8 ⟨rfl, hb8⟩
  go_wp2
  go_ret
  exact ⟨rfl, hB2.out.trans ((hb7'.trans (hb8.mono hb7'.size)).mono hB2.out.size)⟩

theorem imagesApart_contract (H : Type) (enc : TypeId × Value → H) (W : World) (base : Nat) (args : Array Value) (ds gs : List (DataW H)) (before : List MemPlace)
    (hval0 : ∀ (j : Nat) t v, Tryd.f7.params[j]? = some t → args[j]? = some v → Value.okWide Tryd.prog W .any base t v)
    (hW : DataW.Whole enc Tryd.prog Tryd.f7.params.toList Rows.imagesApartSpec.vars false W args.toList ds gs before) (hL : laidMetH Tryd.prog listed W)
    (hsz0 : (DataW.weightsEach Tryd.prog (Tryd.f7.params.toList ++ []) (ds ++ gs)).all (· ≤ reachBytes) = true) :
    Calls Tryd.prog 7 args W fun e W' => ∃ v, e = .returned v ∧ Rows.imagesApartSpec.post enc Tryd.prog Tryd.f7 false true false false W args v W' := by
  have hval := hval0
  have hsz := hsz0
  have hW' := hW
  obtain ⟨p, q, hA0, hV, rfl, hfz, hnd⟩ := hW
  have hA : DataW.TrodAll enc Tryd.prog W 0 (fun _ => true) true Tryd.f7.params.toList args.toList ds p := hA0
  rw [Tryd.params7] at hA hval hsz
  obtain ⟨v0, vs0, d0, ds0, p0, q0, hargs, rfl, rfl, h0, r0⟩ := trodAll_cons hA
  obtain ⟨v1, vs1, d1, ds1, p1, q1, rfl, rfl, rfl, h1, r1⟩ := trodAll_cons r0
  obtain ⟨v2, vs2, d2, ds2, p2, q2, rfl, rfl, rfl, h2, r2⟩ := trodAll_cons r1
  obtain ⟨v3, vs3, d3, ds3, p3, q3, rfl, rfl, rfl, h3, r3⟩ := trodAll_cons r2
  obtain ⟨rfl, rfl, rfl⟩ := trodAll_nil r3
  obtain rfl : args = #[v0, v1, v2, v3] := by cases args; simp_all
  obtain ⟨rfl, rfl⟩ := trodVars_none hV
  have k0 := h0
  have lt0 : ∀ x ∈ p0, x.block < W.heap.size := by obtain ⟨m, hm⟩ := k0; exact DataW.trod_lt m _ _ _ hm
  obtain ⟨a0, len0, cap0, rfl⟩ := okWide_slice Tryd.underlying34 (hval 0 34 v0 rfl rfl)
  obtain ⟨rs0, hlen0, hmax0, hx0⟩ := open_raws h0
  subst hlen0
  have k1 := h1
  have lt1 : ∀ x ∈ p1, x.block < W.heap.size := by obtain ⟨m, hm⟩ := k1; exact DataW.trod_lt m _ _ _ hm
  obtain ⟨a1, len1, cap1, rfl⟩ := okWide_slice Tryd.underlying34 (hval 1 34 v1 rfl rfl)
  obtain ⟨rs1, hlen1, hmax1, hx1⟩ := open_raws h1
  subst hlen1
  have k2 := h2
  have lt2 : ∀ x ∈ p2, x.block < W.heap.size := by obtain ⟨m, hm⟩ := k2; exact DataW.trod_lt m _ _ _ hm
  obtain ⟨rw2, rfl, hr2⟩ := open_raw (hval 2 36 v2 rfl rfl) h2
  have k3 := h3
  have lt3 : ∀ x ∈ p3, x.block < W.heap.size := by obtain ⟨m, hm⟩ := k3; exact DataW.trod_lt m _ _ _ hm
  obtain ⟨rw3, rfl, hr3⟩ := open_raw (hval 3 36 v3 rfl rfl) h3
  clear hA0 hval0
  refine (imagesApart_walk a0 rs0 cap0 a1 rs1 cap1 rw2 rw3 W hmax0 hx0 hmax1 hx1 hr2 hr3 (tab_of hL)).mono fun e W' ⟨he, bel⟩ => ?_
  subst he
  exact ⟨_, rfl, _, _, _, [], _, [], hW', trodAll_mk1 (shut_bool Tryd.underlying4 _), (trodAll_cons_mk (Below.trod laidOut (by kernel_rfl) (of_decide_eq_true (by kernel_rfl)) k0 bel lt0) (trodAll_cons_mk (Below.trod laidOut (by kernel_rfl) (of_decide_eq_true (by kernel_rfl)) k1 bel lt1) (trodAll_cons_mk (Below.trod laidOut (by kernel_rfl) (of_decide_eq_true (by kernel_rfl)) k2 bel lt2) (trodAll_cons_mk (Below.trod laidOut (by kernel_rfl) (of_decide_eq_true (by kernel_rfl)) k3 bel lt3) trodAll_mk0)))), rfl, bel.frame _, fun h => by cases h⟩

theorem imagesApart_laid (os : Os) : laidMet Tryd.prog listed ((laidWorld os).forCall (fun _ _ => 0) ⟨#[], #[.slice none 0 0, .slice none 0 0, .agg #[.int .i64 0, .int .i64 0, .int .i64 0, .int .i64 0], .agg #[.int .i64 0, .int .i64 0, .int .i64 0, .int .i64 0]], []⟩).memory :=
  laidMet_of_run' 8 (by kernel_rfl) (by kernel_rfl)
theorem imagesApart_reads (os : Os) {H : Type} (enc : TypeId × Value → H) : ∃ places, DataW.whole enc Tryd.prog ((laidWorld os).forCall (fun _ _ => 0) ⟨#[], #[.slice none 0 0, .slice none 0 0, .agg #[.int .i64 0, .int .i64 0, .int .i64 0, .int .i64 0], .agg #[.int .i64 0, .int .i64 0, .int .i64 0, .int .i64 0]], []⟩).memory Tryd.f7.params.toList Rows.imagesApartSpec.vars false (#[.slice none 0 0, .slice none 0 0, .agg #[.int .i64 0, .int .i64 0, .int .i64 0, .int .i64 0], .agg #[.int .i64 0, .int .i64 0, .int .i64 0, .int .i64 0]] : Array Value).toList 8 = some ([.nil, .nil, .agg [.lit (.int .i64 0), .lit (.int .i64 0), .lit (.int .i64 0), .lit (.int .i64 0)], .agg [.lit (.int .i64 0), .lit (.int .i64 0), .lit (.int .i64 0), .lit (.int .i64 0)]], [], places) :=
  ⟨[], by kernel_rfl⟩

set_option maxRecDepth 100000 in
theorem imagesApart_lifted (os : Os) (started : os.Started) (H : Type) (enc : TypeId × Value → H) (F : Stop.Interp) :
    ReturnsInHanded {} Tryd.checked os 7 .any ((OpenSpec.ofChange Rows.imagesApartSpec).preRow enc Tryd.prog Tryd.f7 Rows.imagesApartRow.domain false Rows.imagesApartRow.laid) (((OpenSpec.ofChange Rows.imagesApartSpec).at F).post enc Tryd.prog Tryd.f7 false true false false) := by
  obtain ⟨places, hx⟩ := imagesApart_reads os enc
  refine returnsInHanded_of_row (C := Tryd.checked) (s := (OpenSpec.ofChange Rows.imagesApartSpec)) own started (by kernel_rfl) Tryd.func7
    (witness_row_at (enc := enc) (C := Tryd.checked) false (laidWorld os) #[.slice none 0 0, .slice none 0 0, .agg #[.int .i64 0, .int .i64 0, .int .i64 0, .int .i64 0], .agg #[.int .i64 0, .int .i64 0, .int .i64 0, .int .i64 0]] rfl (by kernel_rfl) (by kernel_rfl) (by kernel_rfl)
      (OpenSpec.preRow_of_cond 8 hx (by kernel_rfl) (fun k hk => by cases hk) (by kernel_rfl) (imagesApart_laid os))) ?_
  intro W base args ds gs before hval hW _ hcond hsz hL _ _
  exact imagesApart_contract H enc W base args ds gs before hval hW hL hsz

theorem imagesApart_said : Rows.ImagesApartSaid :=
  OpenClaim.holds_of_cond 7 Tryd.f7 rfl rfl rfl rfl rfl rfl rfl ⟨rfl, rfl, rfl, rfl, rfl⟩ rfl rfl rfl rfl rfl (by kernel_rfl) Tryd.func7 (by kernel_rfl)
    (of_decide_eq_true (by kernel_rfl)) (by unfold Func.isWrapper; first | (rw [if_pos (by decide +kernel)]; kernel_rfl) | (rw [if_neg (by decide +kernel)]; exact ⟨rfl, rfl⟩))
    (fun os started H enc _ F => by rw [OpenClaim.pre_eq_preRow]; exact imagesApart_lifted os started H enc F)

theorem imagesApart_plain (f : FuncId) (fn : Func) (hf : Tryd.pinned.checked.prog.funcNamed "riddle/riddlekeep.ImagesApart" = some f) (hfn : Tryd.pinned.checked.prog.funcs[f]? = some fn) :
    false = Tryd.pinned.checked.prog.looks [] ∧ ∀ (j : Nat) t, fn.params[j]? = some t → Tryd.pinned.checked.prog.wantsStandIn t = false := by
  obtain rfl : f = 7 := Option.some.inj ((show Tryd.prog.funcNamed "riddle/riddlekeep.ImagesApart" = some 7 by kernel_rfl).symm.trans hf) |>.symm
  obtain rfl : fn = Tryd.f7 := (Option.some.inj (Tryd.func7.symm.trans hfn)).symm
  refine ⟨by kernel_rfl, fun j t ht => ?_⟩
  rw [Tryd.params7] at ht
  have hm : t = 34 ∨ t = 36 := by simpa using Array.mem_of_getElem? ht
  rcases hm with rfl | rfl
  · exact (show Tryd.prog.wantsStandIn 34 = false by kernel_rfl)
  · exact (show Tryd.prog.wantsStandIn 36 = false by kernel_rfl)

theorem imagesApart_card : Rows.ImagesApartCardSaid :=
  Claim7.holds_tied_plain_at .later [] _ _ _ _ imagesApart_said (fun _ h => by cases h) (by kernel_rfl) (fun _ h => by cases h) imagesApart_row_tie rfl ⟨rfl, rfl⟩ (by kernel_rfl) rfl imagesApart_plain (by kernel_rfl)
#print axioms imagesApart_card

end Go.Proofs.YtdbbiibnhgcndaaDoor
