/-
  For every two lists of raw things, every two raw things and every list of numbers, TopTrusted answers true: a nonce comes back only in a quote that was made by who is measured as expected; each once. No condition but that the library's tables are as the program's text lays them, which the card ties.
-/
import Derived.Test.YtdngbojbpmdegaaGreatDoorJMBox
import Derived.Test.YtdngbojbpmdegaaGreatDoorJIdxAns
import Derived.Test.YtdngbojbpmdegaaGreatDoorJStarted
import Derived.Test.YtdngbojbpmdegaaGreatDoorJExpects
import Derived.Test.YtdngbojbpmdegaaGreatDoorJOpens
namespace Go.Proofs.YtdngbojbpmdegaaGreatDoor
open Go.ChangeShapes Go.WideShapes Go.ChangeAt Go.RowKit
set_option linter.unusedVariables false


theorem raw_boxT {V : World} {a b c d : Int} {g : Nat} (h : V.heap[g]? = some (.cells #[.int .i64 a, .int .i64 b, .int .i64 c, .int .i64 d] 61 (0, 0))) :
    V.cell? ⟨g, 0, none⟩ = some (.int .i64 a) ∧ V.cell? ⟨g, 1, none⟩ = some (.int .i64 b) ∧ V.cell? ⟨g, 2, none⟩ = some (.int .i64 c) ∧ V.cell? ⟨g, 3, none⟩ = some (.int .i64 d) ∧ g < V.heap.size :=
  ⟨by simp [World.cell?, h], by simp [World.cell?, h], by simp [World.cell?, h], by simp [World.cell?, h], (Array.getElem?_eq_some_iff.1 h).1⟩
theorem two_objsT (X : World) (o p : Obj) : Below X.heap.size X ((X.alloc o).alloc p) ∧ ((X.alloc o).alloc p).heap[X.heap.size]? = some o ∧ ((X.alloc o).alloc p).heap[X.heap.size + 1]? = some p := by
  refine ⟨below_allocR (below_allocR (Below.refl _ _) _) _, ?_, ?_⟩
  · rw [Below.heap_alloc _ _ _ (by simp)]; exact Go.Deep.blk_alloc_new _ _
  · have := Go.Deep.blk_alloc_new (X.alloc o) p
    simpa using this
/-- the acts that the loop adds for one word -/
def askP (cs : List Int) (i : Nat) : List Ac := [⟨10, 0, 0, 0, 0, 0, 0⟩, ⟨8, 1 + (i : Int) % 2, 0, 0, 0, pick (cs.getD i 0) 9, 60⟩, ⟨11, 0, 0, (i : Int), 0, 0, 0⟩, ⟨11, 0, 0, (i : Int) / 2, 0, 0, 0⟩]
def askL (cs : List Int) (k : Nat) : List Ac := (List.range k).flatMap (askP cs)
theorem askL_succ (cs : List Int) (k : Nat) : askL cs (k + 1) = askL cs k ++ askP cs k := by simp [askL, List.range_succ]
theorem askL_len (cs : List Int) : ∀ k, (askL cs k).length = 4 * k
  | 0 => rfl
  | k + 1 => by rw [askL_succ, List.length_append, askL_len cs k]; simp [askP]; omega
theorem askL_ok (cs : List Int) : ∀ k, k ≤ 6 → ∀ x ∈ askL cs k, x.Ok
  | 0, _, x, hx => by simp [askL] at hx
  | k + 1, hk, x, hx => by
    rw [askL_succ] at hx
    rcases List.mem_append.1 hx with h | h
    · exact askL_ok cs k (by omega) x h
    · have wz : (Lit.int .i64 0).wf = true := by decide
      have hp := pick_lt (cs.getD k 0) (many := 9) (by omega)
      unfold askP at h
      simp only [List.mem_cons, List.not_mem_nil, or_false] at h
      rcases h with rfl | rfl | rfl | rfl
      · exact ⟨(by decide : (Lit.int .i64 10).wf = true), wz, wz, wz, wz, wz, wz⟩
      · exact ⟨(by decide : (Lit.int .i64 8).wf = true), wf_of (by dsimp only; omega), wz, wz, wz, wf_of (by dsimp only; omega), (by decide : (Lit.int .i64 60).wf = true)⟩
      · exact ⟨(by decide : (Lit.int .i64 11).wf = true), wz, wz, wf_of (by dsimp only; omega), wz, wz, wz⟩
      · exact ⟨(by decide : (Lit.int .i64 11).wf = true), wz, wz, wf_of (by dsimp only; omega), wz, wz, wz⟩
theorem lit_rowsT {w : World} {g : Nat} {l : List Ac} {cs : Array Value} {t : TypeId} (h : w.heap[g]? = some (.cells cs t (0, 0))) (hc : cs = (l.flatMap Ac.cells).toArray) : RowsAt w 7 Ac.cells (some ⟨g, 0, none⟩) l := by
  refine rows_of_block (cells := Ac.cells) (c := 7) (fun _ => rfl) (rest := []) (fr := (0, 0)) (t := t) ?_
  rw [List.append_nil, ← hc]; exact h

theorem count1_succ (l : List Int) (k : Nat) (hk : k < l.length) : (l.take (k + 1)).countP (fun x => x == 1) = (l.take k).countP (fun x => x == 1) + if l.getD k 0 = 1 then 1 else 0 := by
  rw [List.take_succ_eq_append_getElem hk, List.countP_append]
  have : l[k] = l.getD k 0 := by simp [List.getD_eq_getElem?_getD, hk]
  rw [this, List.countP_cons, List.countP_nil]
  by_cases h : l.getD k 0 = 1
  · rw [if_pos h, if_pos (beq_iff_eq.2 h)]
  · rw [if_neg h, if_neg (fun q => h (beq_iff_eq.1 q))]
theorem countT_succ (l : List (Ac × (Int × Int))) (k : Nat) (hk : k < l.length) : (l.take (k + 1)).countP taken = (l.take k).countP taken + if taken l[k] = true then 1 else 0 := by
  rw [List.take_succ_eq_append_getElem hk, List.countP_append, List.countP_cons, List.countP_nil]
  omega
theorem countT_at (L : List Ac) (Z : List (Int × Int)) (k : Nat) (h1 : k < L.length) (h2 : k < Z.length) : ((L.zip Z).take (k + 1)).countP taken = ((L.zip Z).take k).countP taken + if taken (L.getD k default, Z.getD k default) = true then 1 else 0 := by
  rw [countT_succ _ k (by rw [List.length_zip]; omega)]
  have e : (L.zip Z)[k]'(by rw [List.length_zip]; omega) = (L.getD k default, Z.getD k default) := by
    simp [List.getD_eq_getElem?_getD, h1, h2]
  rw [e]
theorem text_lit {w : World} {g : Nat} {tx : ByteArray} {t : TypeId} (h : w.heap[g]? = some (.cells #[.string tx] t (0, 0))) : Texts w (some ⟨g, 0, none⟩) [tx] := by
  refine .inr ⟨g, 0, rfl, fun j hj => ?_⟩
  match j, hj with
  | 0, _ => simp [World.cell?, h]
theorem chF_one {tx : ByteArray} (h : tx.size ≤ 1000) : chF [tx] [] = 0 := by
  unfold chF
  rw [if_neg (by simp)]
  have e : tooLong tx = false := by unfold tooLong; simp; omega
  simp [e]
/-- what host.Run answers with one that is trusted, to a script that is not too long -/
theorem run_trusts (tx : ByteArray) (hts : tx.size ≤ 1000) {l : List Ac} {n : Nat} (hn : n = l.length) (h2 : n ≤ 200) (hok : ∀ x ∈ l, x.Ok) (ta : Option Addr) (tcap : Nat) (la : Option Addr) (lc : Nat) (w' : World) (hT : Texts w' ta [tx]) (hrow : RowsAt w' 7 Ac.cells la l) (ht : Tab w') :
    Calls Tryz.prog 13 #[.slice ta 1 tcap, .slice la n lc] w' fun y w'' => ∃ (aa : Option Addr) (acap : Nat) (M : Mv) (C : Cv), y = .returned (.tuple #[.slice aa n acap, M.val, C.val, .int .i64 0]) ∧ RowsAt w'' 2 anCells aa (hans (hs0 [tx]) l) ∧ M.Same (hst (hs0 [tx]) l).M ∧ C.Same (hst (hs0 [tx]) l).C ∧ Owned w'.heap.size w'' M ∧ COwn w'.heap.size w'' C ∧ Below w'.heap.size w' w'' := by
  subst hn
  have hrun := runH_any ta [tx] tcap la l lc w' hT ⟨by simp [maxLen], fun s hs => (by simp only [List.mem_cons, List.not_mem_nil, or_false] at hs; subst hs; unfold maxLen; omega), by simp, fun x hx => by simp at hx⟩ hrow (by unfold maxLen; omega) hok ht
  have hc : chF [tx] [] = 0 := chF_one hts
  have hR0 : runF [tx] l = 0 := by unfold runF; rw [if_pos hc, if_neg (by omega)]
  unfold HostSaid at hrun
  rw [hR0, if_pos rfl, if_pos rfl, if_pos rfl] at hrun
  refine hrun.mono ?_
  rintro y w'' ⟨aa, acap, zs, M, C, rfl, hzr, rfl, hMs, hCs, hO, hCO, hb3⟩
  refine ⟨aa, acap, M, C, ?_, hzr, hMs, hCs, hO, hCO, hb3⟩
  rw [hans_len]

set_option maxRecDepth 100000 in
set_option maxHeartbeats 8000000 in
theorem topTrusted_walk (a : Option Addr) (rs : List Rw) (cap : Nat) (R : Rw) (a2 : Option Addr) (ts : List Rw) (cap2 : Nat) (S : Rw) (b5 : Option Addr) (cs : List Int) (cap5 : Nat) (w : World) (hl : rs.length ≤ maxLen) (hx : RawsAt w a rs) (hR : R.Ok)
    (hl2 : ts.length ≤ maxLen) (hx2 : RawsAt w a2 ts) (hS : S.Ok) (hl5 : cs.length ≤ maxLen) (hx5 : Ints w b5 cs) (hw5 : ∀ n ∈ cs, (Lit.int .i64 n).wf = true) (ht : Tab w) :
    Calls Tryz.prog 12 #[.slice a rs.length cap, R.val, .slice a2 ts.length cap2, S.val, .slice b5 cs.length cap5] w fun e w' => e = .returned (.bool true) ∧ Below w.heap.size w w' := by
  obtain ⟨rk, ra, rb, rc⟩ := R
  obtain ⟨sk, sa, sb, sc⟩ := S
  obtain ⟨W2, hW2⟩ : ∃ W2, Hid (W2 = (w.alloc (.cells #[.int .i64 rk, .int .i64 ra, .int .i64 rb, .int .i64 rc] 61)).alloc (.cells #[.int .i64 sk, .int .i64 sa, .int .i64 sb, .int .i64 sc] 61)) := ⟨_, rfl⟩
  obtain ⟨bw, bR, bS⟩ := two_objsT w (.cells #[.int .i64 rk, .int .i64 ra, .int .i64 rb, .int .i64 rc] 61) (.cells #[.int .i64 sk, .int .i64 sa, .int .i64 sb, .int .i64 sc] 61)
  rw [← hW2.out] at bw bR bS
  have B2 : Hid (Below w.heap.size w W2) := bw
  have BS : Hid (_) := bS
  have hI1 := image_any a rs cap ⟨rk, ra, rb, rc⟩ W2 hl (hx.below bw) hR
  have hI2 := fun w' (hb : Below W2.heap.size W2 w') => image_any a2 ts cap2 ⟨sk, sa, sb, sc⟩ w' hl2 (hx2.below (bw.trans (hb.mono bw.size))) hS
  unfold Rw.val at hI1 hI2 ⊢
  dsimp only at hI1 hI2 ⊢
  obtain ⟨r0, r1, r2, r3, rl⟩ := raw_boxT bR
  have HT : Hid (Tab w) := ht
  have HX5 : Hid (Ints w b5 cs) := hx5
  have HW5 : Hid (∀ n ∈ cs, (Lit.int .i64 n).wf = true) := hw5
  unfold maxLen at hl5
  clear hx hx2 hR hS ht bw bR bS hx5 hw5
  go_enter Tryz.func12, Tryz.ntmps12
  go_upto_region 1 with fail
  rw [← hW2.out]
  clear hW2
  go_upto_region 2 with (go_at_call 25; refine hI1.mono ?_; clear hI1; rintro e w1 ⟨b1, ps, cp, rfl, hpa1, hif1, h41, hb1⟩)
  have HB1 : Hid (Below W2.heap.size W2 w1) := hb1
  have HPA1 : Hid (_) := hpa1
  have HIF1 : Hid (_) := hif1
  have BW1 : Hid (Below w.heap.size w w1) := show Below _ _ _ from B2.out.trans (hb1.mono B2.out.size)
  have hps := image_len hif1
  have hX := expect_any b1 ps cp w1 (by unfold maxLen; omega) hpa1 (HT.out.below BW1.out)
  unfold expV at hX
  rw [if_pos hif1] at hX
  obtain ⟨tx, htx⟩ : ∃ tx, Hid (tx = txt (expL ps)) := ⟨_, rfl⟩
  rw [← htx.out] at hX
  clear r0 r1 r2 r3 rl hb1 hpa1 hif1
  go_upto_region 3 with (go_at_call 33; refine hX.mono ?_; clear hX; rintro e w2 ⟨rfl, hb2⟩)
  have HB2 : Hid (Below W2.heap.size W2 w2) := show Below _ _ _ from HB1.out.trans (hb2.mono HB1.out.size)
  have hpl1 := plan_good b1 ps cp 1 0 w2 (by unfold maxLen; omega) (HPA1.out.below hb2) (by unfold planE; rw [if_pos HIF1.out, if_pos]; rw [Bool.and_eq_true]; exact ⟨by decide, inB_iff.2 ⟨by omega, by omega⟩⟩)
  clear hb2
  go_upto_region 4 with (go_at_call 24; refine hpl1.mono ?_; clear hpl1; rintro e w3 ⟨v1, rfl, hown1, hb3⟩)
  obtain ⟨xa, xc, rfl, hrow1⟩ := acts_row hown1
  have hll1 := plan_len HIF1.out 1 0
  have HB3 : Hid (Below W2.heap.size W2 w3) := show Below _ _ _ from HB2.out.trans (hb3.mono HB2.out.size)
  have hI2' := hI2 w3 HB3.out
  obtain ⟨s0, s1, s2, s3, sl⟩ := raw_boxT ((HB3.out.block _ (Array.getElem?_eq_some_iff.1 BS.out).1).trans BS.out)
  obtain ⟨PX, hPX⟩ : ∃ PX, Hid (PX = planL ps 1 0) := ⟨_, rfl⟩
  rw [← hPX.out] at hrow1 hll1 ⊢
  have HO1 : Hid (RowsAt w3 7 Ac.cells xa PX) := hrow1
  have HPOK : Hid (∀ x ∈ PX, x.Ok) := fun x hx => by rw [hPX.out] at hx; exact plan_ok HIF1.out ⟨by omega, by omega⟩ ⟨by omega, by omega⟩ x hx
  clear hown1 hrow1 hb3 hI2 BS
  go_upto_region 5 with (first
    | (go_at_call 25; refine hI2'.mono ?_; clear hI2'; rintro e w4 ⟨b2, qs, cq, rfl, hpa2, hif2, h42, hb4⟩; have hqs := image_len hif2; have hpl2 := plan_good b2 qs cq 2 10 w4 (by unfold maxLen; omega) hpa2 (by unfold planE; rw [if_pos hif2, if_pos]; rw [Bool.and_eq_true]; exact ⟨by decide, inB_iff.2 ⟨by omega, by omega⟩⟩); have HB4 : Hid (Below w3.heap.size w3 w4) := hb4; have HIF2 : Hid (_) := hif2; clear hb4 hpa2 hif2 s0 s1 s2 s3 sl)
    | (go_at_call 24; refine hpl2.mono ?_; clear hpl2; rintro e w5 ⟨v2, rfl, hown2, hb5⟩))
  obtain ⟨ya, yc, rfl, hrow2⟩ := acts_row hown2
  have hll2 := plan_len HIF2.out 2 10
  obtain ⟨PY, hPY⟩ : ∃ PY, Hid (PY = planL qs 2 10) := ⟨_, rfl⟩
  rw [← hPY.out] at hrow2 hll2 ⊢
  have HQOK : Hid (∀ x ∈ PY, x.Ok) := fun x hx => by rw [hPY.out] at hx; exact plan_ok HIF2.out ⟨by omega, by omega⟩ ⟨by omega, by omega⟩ x hx
  have HO2 : Hid (RowsAt w5 7 Ac.cells ya PY) := hrow2
  have HB5 : Hid (Below w3.heap.size w3 w5) := show Below _ _ _ from HB4.out.trans (hb5.mono HB4.out.size)
  have HO1' : Hid (RowsAt w5 7 Ac.cells xa PX) := RowsAt.below (cells := Ac.cells) (fun _ => rfl) HO1.out HB5.out
  have BW5 : Hid (Below w.heap.size w w5) := show Below _ _ _ from B2.out.trans ((HB3.out.trans (HB5.out.mono HB3.out.size)).mono B2.out.size)
  obtain ⟨nx, hnx⟩ : ∃ nx, Hid (nx = PX.length) := ⟨_, rfl⟩
  obtain ⟨ny, hny⟩ : ∃ ny, Hid (ny = PY.length) := ⟨_, rfl⟩
  rw [← hnx.out] at hll1 ⊢
  rw [← hny.out] at hll2 ⊢
  have hwn : IntKind.i64.wrap ((nx : Int) + (ny : Int)) = (nx : Int) + (ny : Int) := by rw [IntKind.wrap_i64]; omega
  clear hown2 hrow2 hb5 HO1
  by_cases h160 : (nx : Int) + (ny : Int) > 160
  · go_wp2
    go_ret
    exact ⟨rfl, BW5.out⟩
  · have HCON : Hid (∀ w', w'.heap[w5.heap.size]? = some (.cells #[.slice xa nx xc, .slice ya ny yc] 23 (0, 0)) → Below w5.heap.size w5 w' → Calls Tryz.prog 36 #[.slice (some ⟨w5.heap.size, 0, none⟩) 2 2] w' fun e w'' => ∃ v, e = .returned v ∧ Owns w'' w'.heap.size v (PX ++ PY) ∧ Below w'.heap.size w' w'') := fun w' hblk hb => by
      rw [hnx.out, hny.out] at hblk
      have h := concat_acts (some ⟨w5.heap.size, 0, none⟩) [⟨xa, PX, xc⟩, ⟨ya, PY, yc⟩] 2 w' (by simp) (by
        refine .inr ⟨w5.heap.size, 0, rfl, fun j hj i hi => ?_⟩
        match j, hj, i, hi with
        | 0, _, 0, _ => simp [World.cell?, hblk, Pt.cells]
        | 1, _, 0, _ => simp [World.cell?, hblk, Pt.cells]) (fun p hp => by
        simp only [List.mem_cons, List.not_mem_nil, or_false] at hp
        rcases hp with rfl | rfl
        · exact RowsAt.below (cells := Ac.cells) (fun _ => rfl) HO1'.out hb
        · exact RowsAt.below (cells := Ac.cells) (fun _ => rfl) HO2.out hb) (by simp; have := hnx.out; have := hny.out; omega)
      have e2 : [(⟨xa, PX, xc⟩ : Pt), ⟨ya, PY, yc⟩].flatMap Pt.l = PX ++ PY := by simp
      rw [e2] at h
      exact h
    have HCB : Hid (Below w5.heap.size w5 (w5.alloc (.cells #[.slice xa nx xc, .slice ya ny yc] 23))) := (Below.refl _ _).alloc (Nat.le_refl _) _
    have hcon := HCON.out (w5.alloc (.cells #[.slice xa nx xc, .slice ya ny yc] 23)) (Go.Deep.blk_alloc_new _ _) HCB.out
    go_upto_region 8 with (go_at_call 36; refine hcon.mono ?_; clear hcon; rintro e w6 ⟨v6, rfl, hown6, hb6⟩)
    obtain ⟨L0, hL0⟩ : ∃ L0, Hid (L0 = PX ++ PY) := ⟨_, rfl⟩
    rw [← hL0.out] at hown6
    have hl0 : L0.length = nx + ny := by rw [hL0.out, List.length_append, hnx.out, hny.out]
    have HLOK0 : Hid (∀ x ∈ L0, x.Ok) := fun x hx => by
      rw [hL0.out] at hx
      rcases List.mem_append.1 hx with h | h
      · exact HPOK.out x h
      · exact HQOK.out x h
    have HL0 : Hid (L0.length ≤ 160) := show _ ≤ _ by omega
    obtain ⟨B, hB⟩ : ∃ B, Hid (B = (w5.alloc (.cells #[.slice xa nx xc, .slice ya ny yc] 23)).heap.size) := ⟨_, rfl⟩
    have HOWN : Hid (Owns w6 B v6 L0) := show Owns _ _ _ _ by rw [hB.out]; exact hown6
    have HBG : Hid (w5.heap.size ≤ B ∧ B ≤ w6.heap.size) := ⟨by rw [hB.out]; simp, by rw [hB.out]; exact hb6.size⟩
    have HB6 : Hid (Below w5.heap.size w5 w6) := show Below _ _ _ from HCB.out.trans (hb6.mono HCB.out.size)
    clear hB
    clear hown6 hb6 HCON HCB HO2 HO1' hwn hll1 hll2 h160 hl0 HPOK HQOK
    go_upto_region 9 with fail
    go_loopw [18, 19] (fun v i wr => ∃ k : Nat, k ≤ 6 ∧ k ≤ cs.length ∧ i = .int .i64 k ∧ Hid (Owns wr B v (L0 ++ askL cs k)) ∧ Hid (Below B w6 wr) ∧ Hid (B ≤ wr.heap.size)) (fun _ i _ => 6 - (intOf i).toNat)
    case atStart => exact ⟨0, Nat.zero_le _, Nat.zero_le _, rfl, (show Owns _ _ _ _ by simpa [askL] using HOWN.out), Below.refl _ _, HBG.out.2⟩
    case round =>
      obtain ⟨k, hk, hkc, rfl, hown, hbel, hsz⟩ := hrel
      clear HOWN
      have BWR : Hid (Below w.heap.size w wr) := show Below _ _ _ from (BW5.out.trans (HB6.out.mono BW5.out.size)).trans (hbel.out.mono (Nat.le_trans BW5.out.size HBG.out.1))
      obtain ⟨gb, hgb⟩ : ∃ gb : Bool, Hid (gb = decide ((k : Int) < (cs.length : Int) ∧ (k : Int) < 6)) := ⟨_, rfl⟩
      go_upto_region 9 with fail
      go_cut [66] (fun cb wx => cb = .bool gb ∧ wx = wr)
      case first =>
        by_cases h1 : (k : Int) < (cs.length : Int)
        · by_cases h2 : (k : Int) < 6
          · have tg : Hid (gb = true) := hgb.out.trans (decide_eq_true ⟨h1, h2⟩)
            go_wp2
            go_meet
            exact ⟨congrArg Value.bool tg.out.symm, rfl⟩
          · have tg : Hid (gb = false) := hgb.out.trans (decide_eq_false (fun q => h2 q.2))
            go_wp2
            go_meet
            exact ⟨congrArg Value.bool tg.out.symm, rfl⟩
        · have tg : Hid (gb = false) := hgb.out.trans (decide_eq_false (fun q => h1 q.1))
          go_wp2
          go_meet
          exact ⟨congrArg Value.bool tg.out.symm, rfl⟩
      case rest =>
        obtain ⟨rfl, rfl⟩ := hcut
        by_cases hgo : (k : Int) < (cs.length : Int) ∧ (k : Int) < 6
        · have tg : gb = true := hgb.out.trans (decide_eq_true hgo)
          subst tg
          clear hgb
          obtain ⟨h1, h2⟩ := hgo
          have hk1 : k < cs.length := by omega
          rcases HX5.out with h0 | ⟨bb, off, rfl, hc5⟩
          · rw [h0] at hk1; simp at hk1
          · have c5 := (BWR.out.cell (p := ⟨bb, off + k, none⟩) (lt_of_cell (hc5 k hk1))).trans (hc5 k hk1)
            have lb5 := lt_of_cell c5
            have wz := HW5.out (cs.getD k 0) (getD_mem hk1)
            obtain ⟨q9, hq9⟩ : ∃ q9, Hid (q9 = pick (cs.getD k 0) 9) := ⟨_, rfl⟩
            have hPz := fun w' => Picked_any (cs.getD k 0) 9 w' wz (by omega) (by omega)
            rw [← hq9.out] at hPz
            generalize hz : cs.getD k 0 = z at c5 hPz
            have HAP : Hid (askP cs k = [⟨10, 0, 0, 0, 0, 0, 0⟩, ⟨8, 1 + (k : Int) % 2, 0, 0, 0, q9, 60⟩, ⟨11, 0, 0, (k : Int), 0, 0, 0⟩, ⟨11, 0, 0, (k : Int) / 2, 0, 0, 0⟩]) := show askP cs k = _ by unfold askP; rw [hq9.out]
            have hba : Below wc.heap.size wc (wc.alloc (.cells #[.int .i64 10, .int .i64 0, .int .i64 0, .int .i64 0, .int .i64 0, .int .i64 0, .int .i64 0, .int .i64 8, .int .i64 (1 + (k : Int) % 2), .int .i64 0, .int .i64 0, .int .i64 0, .int .i64 q9, .int .i64 60, .int .i64 11, .int .i64 0, .int .i64 0, .int .i64 (k : Int), .int .i64 0, .int .i64 0, .int .i64 0, .int .i64 11, .int .i64 0, .int .i64 0, .int .i64 ((k : Int) / 2), .int .i64 0, .int .i64 0, .int .i64 0] 68)) := (Below.refl _ _).alloc (Nat.le_refl _) _
            obtain ⟨v', w', hrun, hown', hbel', hsz'⟩ := app_acts (owns_belowA hown.out hba) (hbel.out.trans (hba.mono hsz.out)) (Nat.le_trans hsz.out hba.size) (some ⟨wc.heap.size, 0, none⟩) [⟨10, 0, 0, 0, 0, 0, 0⟩, ⟨8, 1 + (k : Int) % 2, 0, 0, 0, q9, 60⟩, ⟨11, 0, 0, (k : Int), 0, 0, 0⟩, ⟨11, 0, 0, (k : Int) / 2, 0, 0, 0⟩] 4 (lit_rowsT (Go.Deep.blk_alloc_new wc _) rfl) (by rw [List.length_append, askL_len]; have := HL0.out; simp; omega)
            have hrun2 : (Builtin.append_ #[23, 23] 23 #[u18, .slice (some ⟨wc.heap.size, 0, none⟩) 4 4]).run Tryz.prog (wc.alloc (.cells #[.int .i64 10, .int .i64 0, .int .i64 0, .int .i64 0, .int .i64 0, .int .i64 0, .int .i64 0, .int .i64 8, .int .i64 (1 + (k : Int) % 2), .int .i64 0, .int .i64 0, .int .i64 0, .int .i64 q9, .int .i64 60, .int .i64 11, .int .i64 0, .int .i64 0, .int .i64 (k : Int), .int .i64 0, .int .i64 0, .int .i64 0, .int .i64 11, .int .i64 0, .int .i64 0, .int .i64 ((k : Int) / 2), .int .i64 0, .int .i64 0, .int .i64 0] 68)) = .ok v' w' := hrun
            have HR : Hid (Owns w' B v' (L0 ++ askL cs (k + 1))) := show Owns _ _ _ _ by rw [askL_succ, HAP.out, ← List.append_assoc]; exact hown'
            have HB' : Hid (_) := And.intro hbel' hsz'
            clear hc5 hba hrun hown' hbel' hsz' hown hbel hsz
            go_wp2_with (first
              | (go_at_call 35; refine (hPz _).mono ?_; rintro e w'' ⟨rfl, rfl⟩)
              | (at_builtin; refine wpList_append_eq rfl _ _ 23 rfl _ _ v' rfl rfl hrun2 ?_))
            go_roundw
            case rel => exact ⟨k + 1, by omega, by omega, by go_num, HR, HB'.out.1, HB'.out.2⟩
            case measure => simp [intOf]; omega
        · have tg : gb = false := hgb.out.trans (decide_eq_false hgo)
          subst tg
          clear hgb
          obtain ⟨L, hL⟩ : ∃ L, Hid (L = L0 ++ askL cs k) := ⟨_, rfl⟩
          have hown2 : Owns wc B u18 L := by rw [hL.out]; exact hown.out
          have HLOK : Hid (∀ x ∈ L, x.Ok) := fun x hx => by
            rw [hL.out] at hx
            rcases List.mem_append.1 hx with h | h
            · exact HLOK0.out x h
            · exact askL_ok cs k hk x h
          obtain ⟨n, hn⟩ : ∃ n, Hid (n = L.length) := ⟨_, rfl⟩
          have hnl : n ≤ 184 := by rw [hn.out, hL.out, List.length_append, askL_len]; have := HL0.out; omega
          obtain ⟨la, lc, hv, hrow⟩ := acts_row hown2
          subst hv
          rw [← hn.out] at hown2 ⊢
          have HROW : Hid (RowsAt wc 7 Ac.cells la L) := hrow
          have hts : tx.size ≤ 1000 := by
            have h1 := exp_short HIF1.out ps.length
            unfold expK at h1
            rw [List.take_of_length_le (Nat.le_refl _), ← htx.out] at h1
            omega
          clear hown hbel hsz hgo hown2 hrow hk hkc HLOK0 HL0
          go_upto_region 12 with fail
          have hba : Below wc.heap.size wc (wc.alloc (.cells #[.string tx] 9)) := (Below.refl _ _).alloc (Nat.le_refl _) _
          have hT1 : Texts (wc.alloc (.cells #[.string tx] 9)) (some ⟨wc.heap.size, 0, none⟩) [tx] := text_lit (Go.Deep.blk_alloc_new wc _)
          have hrun := run_trusts tx hts hn.out (by omega) HLOK.out (some ⟨wc.heap.size, 0, none⟩) 1 la lc (wc.alloc (.cells #[.string tx] 9)) hT1 (RowsAt.below (cells := Ac.cells) (fun _ => rfl) HROW.out hba) (HT.out.below (BWR.out.trans (hba.mono BWR.out.size)))
          have HBA : Hid (_) := hba
          clear hba hT1
          go_upto_region 13 with (go_at_call 13; refine hrun.mono ?_; clear hrun; rintro y w8 ⟨aa, acap, M, C, rfl, hzr, hMs, hCs, hO, hCO, hb8⟩; unfold Mv.val Cv.val)
          obtain ⟨W8, hW8⟩ : ∃ W8, Hid (W8 = (w8.alloc (.cells #[.slice M.fa M.frs.length M.fcap, .slice M.ea M.ens.length M.ecap, .slice M.qa M.qus.length M.qcap] 29)).alloc (.cells #[.slice C.ta C.tr.length C.tcap, .slice C.na C.ns.length C.ncap] 32)) := ⟨_, rfl⟩
          rw [← hW8.out]
          obtain ⟨bx, aB, cB⟩ := two_objsT w8 (.cells #[.slice M.fa M.frs.length M.fcap, .slice M.ea M.ens.length M.ecap, .slice M.qa M.qus.length M.qcap] 29) (.cells #[.slice C.ta C.tr.length C.tcap, .slice C.na C.ns.length C.ncap] 32)
          rw [← hW8.out] at bx aB cB
          obtain ⟨P, hP⟩ : ∃ P, Hid (P = w8.heap.size) := ⟨_, rfl⟩
          obtain ⟨P2, hP2⟩ : ∃ P2, Hid (P2 = w8.heap.size + 1) := ⟨_, rfl⟩
          rw [← hP2.out, ← hP.out]
          rw [← hP.out] at aB
          rw [← hP2.out] at cB
          have B8 : Hid (Below wc.heap.size wc W8) := show Below _ _ _ from (HBA.out.trans (hb8.mono HBA.out.size)).trans (bx.mono (Nat.le_trans HBA.out.size hb8.size))
          have BW8 : Hid (Below w.heap.size w W8) := show Below _ _ _ from BWR.out.trans (B8.out.mono BWR.out.size)
          have MB : Hid (MBox 0 W8 P M) := show MBox _ _ _ _ from MBox.of_block (t := 29) ((hO.mono (Nat.zero_le _)).below bx) aB (fun q => by have h1 := (Mine.fresh hO q).2; have h2 := hP.out; omega)
          have CB : Hid (_) := cB
          have HCA : Hid (ChalAt W8 C) := hCO.at_.below bx
          have HZR : Hid (RowsAt W8 2 anCells aa (hans (hs0 [tx]) L)) := RowsAt.below (cells := anCells) (fun _ => rfl) hzr bx
          have HLR : Hid (RowsAt W8 7 Ac.cells la L) := RowsAt.below (cells := Ac.cells) (fun _ => rfl) HROW.out B8.out
          have hbk := back_hst tx L (hs0 [tx]) 0 new_good ⟨rfl, rfl, fun i hi => absurd hi (by simp [hs0])⟩
          obtain ⟨ZS, hZS⟩ : ∃ ZS, Hid (ZS = hans (hs0 [tx]) L) := ⟨_, rfl⟩
          have hZl : ZS.length = n := by rw [hZS.out, hans_len, hn.out]
          rw [← hZS.out] at HZR hbk
          obtain ⟨tot, htot⟩ : ∃ tot, Hid (tot = tookN L ZS) := ⟨_, rfl⟩
          have HCNT : Hid (C.ns.countP (fun x => x == 1) = tot) := show _ = _ by rw [htot.out, hCs.ns]; have := hbk.cnt; omega
          have HTH : Hid (∀ i, i < C.ns.length → C.ns.getD i 0 = 1 → ∃ q ∈ M.qus, q.log = tx ∧ q.data = (i : Int) + 1) := fun i hi h1 => by
            rw [hCs.ns] at hi h1
            rw [hMs.qu]
            exact hbk.there i hi h1
          have HZL : Hid (_) := hZl
          clear hW8 bx aB cB hP hP2 hb8 hO hCO hMs hCs hzr hbk hZl
          have k1 : W8.cell? ⟨P2, 1, none⟩ = some (.slice C.na C.ns.length C.ncap) := by simp [World.cell?, CB.out]
          have lk := lt_of_cell k1
          have hcl := HCA.out.ok.nsl
          unfold maxLen at hcl
          obtain ⟨nn, hnn⟩ : ∃ nn, Hid (nn = C.ns.length) := ⟨_, rfl⟩
          rw [← hnn.out] at k1 hcl
          go_upto_region 17 with fail
          go_loopw [24, 120] (fun bk i wr => ∃ j : Nat, j ≤ nn ∧ i = .int .i64 j ∧ bk = .int .i64 (((C.ns.take j).countP (fun x => x == 1) : Nat) : Int) ∧ Hid (Below W8.heap.size W8 wr)) (fun _ i _ => nn - (intOf i).toNat)
          case atStart => exact ⟨0, Nat.zero_le _, rfl, rfl, Below.refl _ _⟩
          case round =>
            clear k1 lk
            rename World => wr
            obtain ⟨j, hj, rfl, rfl, hbel⟩ := hrel
            by_cases hlt : j < nn
            · have hjI : (j : Int) < (nn : Int) := by omega
              have HS : Hid (_) := count1_succ C.ns j (by rw [← hnn.out]; exact hlt)
              have hle : (C.ns.take j).countP (fun x => x == 1) ≤ j := Nat.le_trans List.countP_le_length (by simp; omega)
              have hCAr := HCA.out.below hbel.out
              rcases hCAr.ns with h0 | ⟨nb, no, hna, hcs⟩
              · rw [hnn.out, h0] at hlt; simp at hlt
              · have c0 := hcs j (by rw [← hnn.out]; exact hlt)
                have l0 := lt_of_cell c0
                rw [hna]
                have MR : Hid (MBox 0 wr P M) := show MBox _ _ _ _ from MB.out.keep hbel.out
                have m2 := MR.out.c2
                have lm := MR.out.lt
                have HV : Hid (C.ns.getD j 0 = 1 → ∃ q ∈ M.qus, q.log = tx ∧ q.data = (j : Int) + 1) := fun h => HTH.out j (by rw [← hnn.out]; exact hlt) h
                generalize hct : (C.ns.take j).countP (fun x => x == 1) = ct at *
                generalize C.ns.getD j 0 = v at c0 HS HV
                have hwj : IntKind.i64.wrap ((j : Int) + 1) = (j : Int) + 1 := by rw [IntKind.wrap_i64]; omega
                have hwc : IntKind.i64.wrap ((ct : Int) + 1) = (ct : Int) + 1 := by rw [IntKind.wrap_i64]; omega
                clear hcs hCAr
                by_cases h1 : v = 1
                · have hq := contains_quote M tx ((j : Int) + 1) wr MR.out.own.at_ (HV.out h1)
                  have HS1 : Hid (_) := HS.out.trans (by rw [if_pos h1])
                  have t1 : (v == 1) = true := by simpa using h1
                  clear HS HV h1
                  go_wp2_with (go_at_call 40; refine hq.mono ?_; clear hq; rintro e w9 ⟨rfl, hb9⟩; have HB9 : Hid (_) := hb9; clear hb9)
                  go_roundw
                  case rel => exact ⟨j + 1, by omega, by go_num, by rw [HS1.out]; go_num, hbel.out.trans (HB9.out.mono hbel.out.size)⟩
                  case measure => simp [intOf]; omega
                · have HS1 : Hid (_) := HS.out.trans (by rw [if_neg h1])
                  have t1 : (v == 1) = false := by simpa using h1
                  clear HS HV h1
                  go_wp2
                  go_roundw
                  case rel => exact ⟨j + 1, by omega, by go_num, by rw [HS1.out]; rfl, hbel.out⟩
                  case measure => simp [intOf]; omega
            · have hge : ¬ ((j : Int) < (nn : Int)) := by omega
              have hjn : C.ns.take j = C.ns := List.take_of_length_le (by have := hnn.out; omega)
              rw [hjn, HCNT.out]
              clear hlt hjn hj
              go_upto_region 25 with fail
              rename World => V8
              have BV8 : Hid (Below W8.heap.size W8 V8) := hbel.out
              have HTOT : Hid (tot = (L.zip ZS).countP taken) := htot.out
              have hzl : (L.zip ZS).length = n := by rw [List.length_zip, HZL.out, ← hn.out]; omega
              have htl : tot ≤ n := by rw [HTOT.out, ← hzl]; exact List.countP_le_length
              have HZZ : Hid (_) := hzl
              clear hbel hge
              go_loopw [24, 140] (fun bk i wz => ∃ j : Nat, j ≤ n ∧ i = .int .i64 j ∧ bk = .int .i64 ((tot : Int) - ((((L.zip ZS).take j).countP taken : Nat) : Int)) ∧ Hid (Below W8.heap.size W8 wz)) (fun _ i _ => n - (intOf i).toNat)
              case atStart => exact ⟨0, Nat.zero_le _, rfl, by simp, BV8.out⟩
              case round =>
                clear hzl
                rename World => wz
                obtain ⟨j, hj, rfl, rfl, hbel⟩ := hrel
                by_cases hlt : j < n
                · have hjI : (j : Int) < (n : Int) := by omega
                  have hle : ((L.zip ZS).take j).countP taken ≤ j := Nat.le_trans List.countP_le_length (by simp; omega)
                  have HS : Hid (_) := countT_at L ZS j (by rw [← hn.out]; exact hlt) (by rw [HZL.out]; exact hlt)
                  have hZr := RowsAt.below (cells := anCells) (fun _ => rfl) HZR.out hbel.out
                  have hLr := RowsAt.below (cells := Ac.cells) (fun _ => rfl) HLR.out hbel.out
                  rcases hZr with h0 | ⟨zb, zo, hza, hcz⟩
                  · have := HZL.out; rw [h0] at this; simp at this; omega
                  · rcases hLr with h0 | ⟨lb, lo, hla, hcl2⟩
                    · have := hn.out; rw [h0] at this; simp at this; omega
                    · have c0 := hcz j (by rw [HZL.out]; exact hlt) 0 (by omega)
                      have c1 := hcz j (by rw [HZL.out]; exact hlt) 1 (by omega)
                      have d0 := hcl2 j (by rw [← hn.out]; exact hlt) 0 (by omega)
                      rw [hza, hla]
                      generalize ZS.getD j default = q at c0 c1 HS
                      generalize L.getD j default = x at d0 HS
                      obtain ⟨qc, qn⟩ := q
                      obtain ⟨xk, xe, xf, xat, xr, xn, xfu⟩ := x
                      simp only [anCells, Ac.cells, List.getElem?_cons_zero, List.getElem?_cons_succ, Nat.add_zero] at c0 c1 d0
                      have l0 := lt_of_cell c0
                      have l1 := lt_of_cell d0
                      generalize ((L.zip ZS).take j).countP taken = ct at *
                      have hw1 : IntKind.i64.wrap ((tot : Int) - (ct : Int) - 1) = (tot : Int) - (ct : Int) - 1 := by rw [IntKind.wrap_i64]; omega
                      clear hcz hcl2 hza hla
                      by_cases h1 : xk = 11
                      · have t1 : (xk == 11) = true := by simpa using h1
                        by_cases h2 : qc = 0
                        · have t2 : (qc == 0) = true := by simpa using h2
                          have HS1 : Hid (_) := HS.out.trans (by rw [if_pos (by unfold taken; dsimp only; rw [t1, t2]; rfl)])
                          clear HS h1 h2
                          go_wp2
                          go_roundw
                          case rel => exact ⟨j + 1, by omega, by go_num, by rw [HS1.out]; (congr 1; push_cast; omega), by first | exact hbel.out.alloc hbel.out.size _ | exact hbel.out⟩
                          case measure => simp [intOf]; omega
                        · have t2 : (qc == 0) = false := by simpa using h2
                          have HS1 : Hid (_) := HS.out.trans (by rw [if_neg (by unfold taken; dsimp only; rw [t1, t2]; decide)])
                          clear HS h1 h2
                          go_wp2
                          go_roundw
                          case rel => exact ⟨j + 1, by omega, by go_num, by rw [HS1.out]; rfl, by first | exact hbel.out.alloc hbel.out.size _ | exact hbel.out⟩
                          case measure => simp [intOf]; omega
                      · have t1 : (xk == 11) = false := by simpa using h1
                        have HS1 : Hid (_) := HS.out.trans (by rw [if_neg (by unfold taken; dsimp only; rw [t1]; simp)])
                        clear HS h1
                        go_wp2
                        go_roundw
                        case rel => exact ⟨j + 1, by omega, by go_num, by rw [HS1.out]; rfl, by first | exact hbel.out.alloc hbel.out.size _ | exact hbel.out⟩
                        case measure => simp [intOf]; omega
                · have hge : ¬ ((j : Int) < (n : Int)) := by omega
                  have hjn : (L.zip ZS).take j = L.zip ZS := List.take_of_length_le (by have := HZZ.out; omega)
                  rw [hjn, ← HTOT.out]
                  have hz0 : ((tot : Int) - (tot : Int)) = 0 := by omega
                  rw [hz0]
                  clear hlt hjn hj hz0
                  go_wp2
                  go_ret
                  exact ⟨rfl, BW8.out.trans (hbel.out.mono BW8.out.size)⟩

set_option maxRecDepth 100000 in
theorem topTrusted_contract (H : Type) (enc : TypeId × Value → H) (W : World) (base : Nat) (args : Array Value) (ds gs : List (DataW H)) (before : List MemPlace)
    (hval0 : ∀ (j : Nat) t v, Tryz.f12.params[j]? = some t → args[j]? = some v → Value.okWide Tryz.prog W .any base t v)
    (hW : DataW.Whole enc Tryz.prog Tryz.f12.params.toList Rows.topTrustedSpec.vars false W args.toList ds gs before) (hL : laidMetH Tryz.prog listed W)
    (hsz0 : (DataW.weightsEach Tryz.prog (Tryz.f12.params.toList ++ []) (ds ++ gs)).all (· ≤ reachBytes) = true) :
    Calls Tryz.prog 12 args W fun e W' => ∃ v, e = .returned v ∧ Rows.topTrustedSpec.post enc Tryz.prog Tryz.f12 false true false false W args v W' := by
  have hval := hval0
  have hsz := hsz0
  have hW' := hW
  obtain ⟨p, q, hA0, hV, rfl, hfz, hnd⟩ := hW
  have hA : DataW.TrodAll enc Tryz.prog W 0 (fun _ => true) true Tryz.f12.params.toList args.toList ds p := hA0
  rw [Tryz.params12] at hA hval hsz
  obtain ⟨v0, vs0, d0, ds0, p0, q0, hargs, rfl, rfl, h0, r0⟩ := trodAll_cons hA
  obtain ⟨v1, vs1, d1, ds1, p1, q1, rfl, rfl, rfl, h1, r1⟩ := trodAll_cons r0
  obtain ⟨v2, vs2, d2, ds2, p2, q2, rfl, rfl, rfl, h2, r2⟩ := trodAll_cons r1
  obtain ⟨v3, vs3, d3, ds3, p3, q3, rfl, rfl, rfl, h3, r3⟩ := trodAll_cons r2
  obtain ⟨v4, vs4, d4, ds4, p4, q4, rfl, rfl, rfl, h4, r4⟩ := trodAll_cons r3
  obtain ⟨rfl, rfl, rfl⟩ := trodAll_nil r4
  obtain rfl : args = #[v0, v1, v2, v3, v4] := by cases args; simp_all
  obtain ⟨rfl, rfl⟩ := trodVars_none hV
  have k0 := h0
  have lt0 : ∀ x ∈ p0, x.block < W.heap.size := by obtain ⟨m, hm⟩ := k0; exact DataW.trod_lt m _ _ _ hm
  obtain ⟨a0, len0, cap0, rfl⟩ := okWide_slice Tryz.underlying59 (hval 0 59 v0 rfl rfl)
  obtain ⟨rs0, hlen0, hmax0, hx0⟩ := open_raws h0
  subst hlen0
  have k1 := h1
  have lt1 : ∀ x ∈ p1, x.block < W.heap.size := by obtain ⟨m, hm⟩ := k1; exact DataW.trod_lt m _ _ _ hm
  obtain ⟨rw1, rfl, hr1⟩ := open_raw (hval 1 61 v1 rfl rfl) h1
  have k2 := h2
  have lt2 : ∀ x ∈ p2, x.block < W.heap.size := by obtain ⟨m, hm⟩ := k2; exact DataW.trod_lt m _ _ _ hm
  obtain ⟨a2, len2, cap2, rfl⟩ := okWide_slice Tryz.underlying59 (hval 2 59 v2 rfl rfl)
  obtain ⟨rs2, hlen2, hmax2, hx2⟩ := open_raws h2
  subst hlen2
  have k3 := h3
  have lt3 : ∀ x ∈ p3, x.block < W.heap.size := by obtain ⟨m, hm⟩ := k3; exact DataW.trod_lt m _ _ _ hm
  obtain ⟨rw3, rfl, hr3⟩ := open_raw (hval 3 61 v3 rfl rfl) h3
  have k4 := h4
  have lt4 : ∀ x ∈ p4, x.block < W.heap.size := by obtain ⟨m, hm⟩ := k4; exact DataW.trod_lt m _ _ _ hm
  obtain ⟨a4, len4, cap4, rfl⟩ := okWide_slice Tryz.underlying30 (hval 4 30 v4 rfl rfl)
  obtain ⟨xs4, hlen4, hmax4, hx4, hwf4⟩ := open_row h4
  subst hlen4
  clear hA0 hval0
  refine (topTrusted_walk a0 rs0 cap0 rw1 a2 rs2 cap2 rw3 a4 xs4 cap4 W hmax0 hx0 hr1 hmax2 hx2 hr3 hmax4 hx4 hwf4 (tab_of hL)).mono fun e W' ⟨he, bel⟩ => ?_
  subst he
  exact ⟨_, rfl, _, _, _, [], _, [], hW', trodAll_mk1 (shut_bool Tryz.underlying4 _), (trodAll_cons_mk (Below.trod laidOut (by kernel_rfl) (of_decide_eq_true (by kernel_rfl)) k0 bel lt0) (trodAll_cons_mk (Below.trod laidOut (by kernel_rfl) (of_decide_eq_true (by kernel_rfl)) k1 bel lt1) (trodAll_cons_mk (Below.trod laidOut (by kernel_rfl) (of_decide_eq_true (by kernel_rfl)) k2 bel lt2) (trodAll_cons_mk (Below.trod laidOut (by kernel_rfl) (of_decide_eq_true (by kernel_rfl)) k3 bel lt3) (trodAll_cons_mk (Below.trod laidOut (by kernel_rfl) (of_decide_eq_true (by kernel_rfl)) k4 bel lt4) trodAll_mk0))))), rfl, bel.frame _, fun h => by cases h⟩

theorem topTrusted_laid (os : Os) : laidMet Tryz.prog listed ((laidWorld os).forCall (fun _ _ => 0) ⟨#[], #[.slice none 0 0, .agg #[.int .i64 0, .int .i64 0, .int .i64 0, .int .i64 0], .slice none 0 0, .agg #[.int .i64 0, .int .i64 0, .int .i64 0, .int .i64 0], .slice none 0 0], []⟩).memory :=
  laidMet_of_run' 8 (by kernel_rfl) (by kernel_rfl)
theorem topTrusted_reads (os : Os) {H : Type} (enc : TypeId × Value → H) : ∃ places, DataW.whole enc Tryz.prog ((laidWorld os).forCall (fun _ _ => 0) ⟨#[], #[.slice none 0 0, .agg #[.int .i64 0, .int .i64 0, .int .i64 0, .int .i64 0], .slice none 0 0, .agg #[.int .i64 0, .int .i64 0, .int .i64 0, .int .i64 0], .slice none 0 0], []⟩).memory Tryz.f12.params.toList Rows.topTrustedSpec.vars false (#[.slice none 0 0, .agg #[.int .i64 0, .int .i64 0, .int .i64 0, .int .i64 0], .slice none 0 0, .agg #[.int .i64 0, .int .i64 0, .int .i64 0, .int .i64 0], .slice none 0 0] : Array Value).toList 8 = some ([.nil, .agg [.lit (.int .i64 0), .lit (.int .i64 0), .lit (.int .i64 0), .lit (.int .i64 0)], .nil, .agg [.lit (.int .i64 0), .lit (.int .i64 0), .lit (.int .i64 0), .lit (.int .i64 0)], .nil], [], places) :=
  ⟨[], by kernel_rfl⟩

set_option maxRecDepth 100000 in
theorem topTrusted_lifted (os : Os) (started : os.Started) (H : Type) (enc : TypeId × Value → H) (F : Stop.Interp) :
    ReturnsInHanded {} Tryz.checked os 12 .any ((OpenSpec.ofChange Rows.topTrustedSpec).preRow enc Tryz.prog Tryz.f12 Rows.topTrustedRow.domain false Rows.topTrustedRow.laid) (((OpenSpec.ofChange Rows.topTrustedSpec).at F).post enc Tryz.prog Tryz.f12 false true false false) := by
  obtain ⟨places, hx⟩ := topTrusted_reads os enc
  refine returnsInHanded_of_row (C := Tryz.checked) (s := (OpenSpec.ofChange Rows.topTrustedSpec)) own started (by kernel_rfl) Tryz.func12
    (witness_row_at (enc := enc) (C := Tryz.checked) false (laidWorld os) #[.slice none 0 0, .agg #[.int .i64 0, .int .i64 0, .int .i64 0, .int .i64 0], .slice none 0 0, .agg #[.int .i64 0, .int .i64 0, .int .i64 0, .int .i64 0], .slice none 0 0] rfl (by kernel_rfl) (by kernel_rfl) (by kernel_rfl)
      (OpenSpec.preRow_of_cond 8 hx (by kernel_rfl) (fun k hk => by cases hk) (by kernel_rfl) (topTrusted_laid os))) ?_
  intro W base args ds gs before hval hW _ hcond hsz hL _ _
  exact topTrusted_contract H enc W base args ds gs before hval hW hL hsz

theorem topTrusted_said : Rows.TopTrustedSaid :=
  OpenClaim.holds_of_cond 12 Tryz.f12 rfl rfl rfl rfl rfl rfl rfl ⟨rfl, rfl, rfl, rfl, rfl⟩ rfl rfl rfl rfl rfl (by kernel_rfl) Tryz.func12 (by kernel_rfl)
    (of_decide_eq_true (by kernel_rfl)) (by unfold Func.isWrapper; first | (rw [if_pos (by decide +kernel)]; kernel_rfl) | (rw [if_neg (by decide +kernel)]; exact ⟨rfl, rfl⟩))
    (fun os started H enc _ F => by rw [OpenClaim.pre_eq_preRow]; exact topTrusted_lifted os started H enc F)

theorem topTrusted_plain (f : FuncId) (fn : Func) (hf : Tryz.pinned.checked.prog.funcNamed "riddle/riddletop.TopTrusted" = some f) (hfn : Tryz.pinned.checked.prog.funcs[f]? = some fn) :
    false = Tryz.pinned.checked.prog.looks [] ∧ ∀ (j : Nat) t, fn.params[j]? = some t → Tryz.pinned.checked.prog.wantsStandIn t = false := by
  obtain rfl : f = 12 := Option.some.inj ((show Tryz.prog.funcNamed "riddle/riddletop.TopTrusted" = some 12 by kernel_rfl).symm.trans hf) |>.symm
  obtain rfl : fn = Tryz.f12 := (Option.some.inj (Tryz.func12.symm.trans hfn)).symm
  refine ⟨by kernel_rfl, fun j t ht => ?_⟩
  rw [Tryz.params12] at ht
  have hm : t = 59 ∨ t = 61 ∨ t = 30 := by have h := Array.mem_of_getElem? ht; simp at h; rcases h with h | h | h | h | h <;> simp [h]
  rcases hm with rfl | rfl | rfl
  · exact (show Tryz.prog.wantsStandIn 59 = false by kernel_rfl)
  · exact (show Tryz.prog.wantsStandIn 61 = false by kernel_rfl)
  · exact (show Tryz.prog.wantsStandIn 30 = false by kernel_rfl)

theorem topTrusted_card : Rows.TopTrustedCardSaid :=
  Claim7.holds_tied_plain_at .later [] _ _ _ _ topTrusted_said (fun _ h => by cases h) (by kernel_rfl) (fun _ h => by cases h) topTrusted_row_tie rfl ⟨rfl, rfl⟩ (by kernel_rfl) rfl topTrusted_plain (by kernel_rfl)
#print axioms topTrusted_card

end Go.Proofs.YtdngbojbpmdegaaGreatDoor
