/-
  For every list of raw things, every raw thing, two lists of raw things and two numbers, TopMeasured answers true: who is measured as expected has just the pages that are expected, whatever who owns the machine did. No condition but that the library's tables are as the program's text lays them, which the card ties.
-/
import Derived.Test.YtdngbojbpmdegaaGreatDoorJAppActs
import Derived.Test.YtdngbojbpmdegaaGreatDoorJZBoxes
import Derived.Test.YtdngbojbpmdegaaGreatDoorFloat
import Derived.Test.YtdngbojbpmdegaaGreatDoorJTopLog
import Derived.Test.YtdngbojbpmdegaaGreatDoorJOpens
import Derived.Test.YtdngbojbpmdegaaGreatDoorHostRun
import Derived.Test.YtdngbojbpmdegaaGreatDoorJActRow
import Derived.Test.YtdngbojbpmdegaaGreatDoorActsOf
import Derived.Deep.DeepCutAuto
namespace Go.Proofs.YtdngbojbpmdegaaGreatDoor
open Go.ChangeShapes Go.WideShapes Go.ChangeAt Go.RowKit
set_option linter.unusedVariables false


theorem acts_cap {w : World} {B : Nat} {a : Option Addr} {l : List Ac} {cap : Nat} (h : Owns w B (.slice a l.length cap) l) : l.length <= cap /\ cap <= maxLen := by
  rcases h.2 with ⟨hv, h0⟩ | ⟨g, c, cur, hv, _, _, h1, h2, _, _⟩
  · exact ⟨by omega, by simp only [Value.slice.injEq] at hv; unfold maxLen; omega⟩
  · simp only [Value.slice.injEq] at hv
    obtain ⟨_, _, rfl⟩ := hv
    exact ⟨h1, h2⟩
theorem outer_ok {x : Ac} (h : ActOk true x) : x.outer := by
  have := h.k
  unfold Ac.outer
  omega
theorem act_ok_okM {mea : Bool} {x : Ac} (h : ActOk mea x) : x.Ok :=
  ⟨wf_of (by have := h.k; omega), wf_of h.e, wf_of h.f, wf_of h.at_, wf_of h.r, wf_of h.n, by rw [h.fu]; decide⟩
/-- what host.Run answers to a script without trusts that is not too long -/
theorem run_scriptM {l : List Ac} {n : Nat} (hn : n = l.length) (h2 : n <= 200) (hok : ∀ x ∈ l, x.Ok) (la : Option Addr) (lc : Nat) (w' : World) (hrow : RowsAt w' 7 Ac.cells la l) (ht : Tab w') :
    Calls Tryz.prog 13 #[.slice none 0 0, .slice la n lc] w' fun y w'' => ∃ (aa : Option Addr) (an acap : Nat) (M : Mv) (C : Cv), y = .returned (.tuple #[.slice aa an acap, M.val, C.val, .int .i64 0]) /\ M.Same (hst (hs0 []) l).M /\ Owned w'.heap.size w'' M /\ COwn w'.heap.size w'' C /\ Below w'.heap.size w' w'' := by
  subst hn
  have hrun := runH_any none [] 0 la l lc w' (.inl rfl) ⟨by simp [maxLen], fun s hs => by simp at hs, by simp, fun x hx => by simp at hx⟩ hrow (by unfold maxLen; omega) hok ht
  have hR0 := runF_nil h2
  unfold HostSaid at hrun
  rw [hR0, if_pos rfl, if_pos rfl, if_pos rfl] at hrun
  refine hrun.mono ?_
  rintro y w'' ⟨aa, acap, zs, M, C, rfl, hzr, rfl, hMs, hCs, hO, hCO, hb3⟩
  exact ⟨aa, _, acap, M, C, rfl, hMs, hO, hCO, hb3⟩
theorem four_rows {w : World} {g : Nat} {t : TypeId} {x1 x2 x3 x4 : Pt} {n1 n2 n3 n4 : Nat} (h : w.heap[g]? = some (.cells #[.slice x1.a n1 x1.cap, .slice x2.a n2 x2.cap, .slice x3.a n3 x3.cap, .slice x4.a n4 x4.cap] t (0, 0)))
    (e1 : n1 = x1.l.length) (e2 : n2 = x2.l.length) (e3 : n3 = x3.l.length) (e4 : n4 = x4.l.length) : RowsAt w 1 Pt.cells (some ⟨g, 0, none⟩) [x1, x2, x3, x4] := by
  subst e1 e2 e3 e4
  refine rows_of_block (cells := Pt.cells) (c := 1) (fun _ => rfl) (rest := []) (fr := (0, 0)) (t := t) ?_
  rw [List.append_nil]; exact h
theorem rows_drop {w : World} {pb po k pc : Nat} {l : List Ac} (h : RowsAt w 7 Ac.cells (some ⟨pb, po, none⟩) l) (hc : l.length <= pc) : RowsAt w 7 Ac.cells (if pc = k then some ⟨pb, po, none⟩ else some ⟨pb, po + k * 7, none⟩) (l.drop k) := by
  split
  · exact .inl (List.drop_eq_nil_of_le (by omega))
  · rcases h with rfl | ⟨b, o, e, h⟩
    · exact .inl (by simp)
    · simp only [Option.some.injEq, Addr.mk.injEq, and_true] at e
      obtain ⟨rfl, rfl⟩ := e
      refine .inr ⟨_, _, rfl, fun j hj i hi => ?_⟩
      rw [List.length_drop] at hj
      have := h (k + j) (by omega) i hi
      rw [show po + k * 7 + j * 7 + i = po + (k + j) * 7 + i by omega, this]
      congr 2
      simp [List.getD_eq_getElem?_getD]
/-- a variable for a machine and one for a challenger, made while a statement ran -/
theorem madeM {W V : World} {M : Mv} {g1 g2 : Nat} {t : TypeId} {v v' : Value} (z1 : V.heap[g1]? = some (.cells #[.slice none 0 0, .slice none 0 0, .slice none 0 0] t (0, 0))) (hO : Owned 0 V M) (h1 : ¬ Mine M g1) (h2 : ¬ Mine M g2) (hne : g1 ≠ g2) (hB : Below W.heap.size W V) (b1 : W.heap.size <= g1) (b2 : W.heap.size <= g2) :
    MBox 0 (((((V.setCell ⟨g1, 0, none⟩ (.slice M.fa M.frs.length M.fcap)).setCell ⟨g1, 1, none⟩ (.slice M.ea M.ens.length M.ecap)).setCell ⟨g1, 2, none⟩ (.slice M.qa M.qus.length M.qcap)).setCell ⟨g2, 0, none⟩ v).setCell ⟨g2, 1, none⟩ v') g1 M /\
      Below W.heap.size W (((((V.setCell ⟨g1, 0, none⟩ (.slice M.fa M.frs.length M.fcap)).setCell ⟨g1, 1, none⟩ (.slice M.ea M.ens.length M.ecap)).setCell ⟨g1, 2, none⟩ (.slice M.qa M.qus.length M.qcap)).setCell ⟨g2, 0, none⟩ v).setCell ⟨g2, 1, none⟩ v') :=
  have zm := (ZM.of z1 (Below.refl _ _)).box
  ⟨((zm.putM hO h1).far (by rintro (q | q); exact hne q.symm; exact h2 q) _ _).far (by rintro (q | q); exact hne q.symm; exact h2 q) _ _,
    (((((hB.setCell (p := ⟨g1, 0, none⟩) b1 _).setCell (p := ⟨g1, 1, none⟩) b1 _).setCell (p := ⟨g1, 2, none⟩) b1 _).setCell (p := ⟨g2, 0, none⟩) b2 _).setCell (p := ⟨g2, 1, none⟩) b2 _)⟩
set_option maxRecDepth 100000 in
set_option maxHeartbeats 8000000 in
theorem topMeasured_walk (a : Option Addr) (rs : List Rw) (cap : Nat) (R : Rw) (b1 : Option Addr) (ss : List Rw) (cap1 : Nat) (b2 : Option Addr) (us : List Rw) (cap2 : Nat) (cut f : Int) (w : World) (hl : rs.length <= maxLen) (hx : RawsAt w a rs) (hR : R.Ok)
    (hl1 : ss.length <= maxLen) (hx1 : RawsAt w b1 ss) (hl2 : us.length <= maxLen) (hx2 : RawsAt w b2 us) (wc : (Lit.int .i64 cut).wf = true) (wf : (Lit.int .i64 f).wf = true) (ht : Tab w) :
    Calls Tryz.prog 8 #[.slice a rs.length cap, R.val, .slice b1 ss.length cap1, .slice b2 us.length cap2, .int .i64 cut, .int .i64 f] w fun e w' => e = .returned (.bool true) /\ Below w.heap.size w w' := by
  obtain ⟨W2, hW2⟩ : ∃ W2, Hid (W2 = w.alloc (.cells #[.int .i64 R.k, .int .i64 R.a, .int .i64 R.b, .int .i64 R.c] 61)) := ⟨_, rfl⟩
  have B2 : Hid (Below w.heap.size w W2) := show Below _ _ _ by rw [hW2.out]; exact (Below.refl _ _).alloc (Nat.le_refl _) _
  have hI2 := image_any a rs cap R W2 hl (hx.below B2.out) hR
  obtain ⟨rk, ra, rb, rc⟩ := R
  unfold Rw.val at hI2 ⊢
  dsimp only at hI2 hW2 ⊢
  have r0 : W2.cell? ⟨w.heap.size, 0, none⟩ = some (.int .i64 rk) := by rw [hW2.out, World.cell?_alloc_at _ _ _ _ rfl]; rfl
  have r1 : W2.cell? ⟨w.heap.size, 1, none⟩ = some (.int .i64 ra) := by rw [hW2.out, World.cell?_alloc_at _ _ _ _ rfl]; rfl
  have r2 : W2.cell? ⟨w.heap.size, 2, none⟩ = some (.int .i64 rb) := by rw [hW2.out, World.cell?_alloc_at _ _ _ _ rfl]; rfl
  have r3 : W2.cell? ⟨w.heap.size, 3, none⟩ = some (.int .i64 rc) := by rw [hW2.out, World.cell?_alloc_at _ _ _ _ rfl]; rfl
  have lt0 := lt_of_cell r0
  have HT : Hid (Tab w) := ht
  have HX1 : Hid (_) := hx1
  have HX2 : Hid (_) := hx2
  clear hx hR ht hx1 hx2
  go_enter Tryz.func8, Tryz.ntmps8
  go_upto_region 1 with fail
  rw [<- hW2.out]
  clear hW2
  go_upto_region 2 with (go_at_call 25; refine hI2.mono ?_; clear hI2; rintro e w1 ⟨b, ps, c, rfl, hpa, hif, h4, hb1⟩)
  have h8 := image_len hif
  have HPA : Hid (_) := hpa
  have HIF : Hid (_) := hif
  have BW1 : Hid (Below w.heap.size w w1) := show Below _ _ _ from B2.out.trans (hb1.mono B2.out.size)
  have hpk := pick_lt f (many := 10) (by omega)
  have hP := fun w' => Picked_any f 10 w' wf (by omega) (by omega)
  obtain ⟨f0, hf0⟩ : ∃ f0 : Nat, pick f 10 = (f0 : Int) := ⟨(pick f 10).toNat, by omega⟩
  rw [hf0] at hP hpk
  have hpl := plan_good b ps c 1 f0 w1 (by unfold maxLen; omega) hpa (by unfold planE; rw [if_pos hif, if_pos]; rw [Bool.and_eq_true]; exact ⟨by decide, inB_iff.2 ⟨by omega, by omega⟩⟩)
  clear hf0 hpa hif hb1 r0 r1 r2 r3
  go_upto_region 3 with (first | (go_at_call 35; refine (hP _).mono ?_; rintro e w' ⟨rfl, rfl⟩) | (go_at_call 24; refine hpl.mono ?_; clear hpl; rintro e w2 ⟨v, rfl, hown, hb2⟩))
  obtain ⟨pa, pc, rfl, hprow⟩ := acts_row hown
  have HB2 : Hid (_) := hb2
  have hcp := acts_cap hown
  have hpll := plan_len HIF.out 1 (f0 : Int)
  have BW2 : Hid (Below w.heap.size w w2) := show Below _ _ _ from BW1.out.trans (hb2.mono BW1.out.size)
  have hX := expect_any b ps c w2 (by unfold maxLen; omega) (HPA.out.below hb2) (HT.out.below BW2.out)
  unfold expV at hX
  rw [if_pos HIF.out] at hX
  obtain ⟨tx, htx⟩ : ∃ tx, Hid (tx = txt (expL ps)) := ⟨_, rfl⟩
  rw [<- htx.out] at hX
  obtain ⟨PL, hPL⟩ : ∃ PL, Hid (PL = planL ps 1 (f0 : Int)) := ⟨_, rfl⟩
  rw [<- hPL.out] at hprow hpll hcp ⊢
  have HPR : Hid (_) := hprow
  obtain ⟨n, hn⟩ : ∃ n, Hid (n = PL.length) := ⟨_, rfl⟩
  rw [<- hn.out] at hpll hcp ⊢
  have hw1 : IntKind.i64.wrap ((n : Int) + 1) = (n : Int) + 1 := by rw [IntKind.wrap_i64]; omega
  have hck := pick_lt cut (many := (n : Int) + 1) (by omega)
  have hC := fun w' => Picked_any cut ((n : Int) + 1) w' wc (by omega) (by omega)
  obtain ⟨k, hk⟩ : ∃ k : Nat, pick cut ((n : Int) + 1) = (k : Int) := ⟨(pick cut ((n : Int) + 1)).toNat, by omega⟩
  rw [hk] at hC hck
  clear hP hown hprow hk
  go_upto_region 4 with (go_at_call 33; refine hX.mono ?_; clear hX; rintro e w3 ⟨rfl, hb3⟩)
  go_upto_region 5 with (go_at_call 35; refine (hC _).mono ?_; rintro e w' ⟨rfl, rfl⟩)
  clear hC
  have HB3 : Hid (Below w2.heap.size w2 w3) := hb3
  have BW3 : Hid (Below w.heap.size w w3) := show Below _ _ _ from BW2.out.trans (hb3.mono BW2.out.size)
  have hA1 := fun w' (hb : Below w3.heap.size w3 w') => acts_any b1 ss cap1 15 true w' hl1 (HX1.out.below (BW3.out.trans (hb.mono BW3.out.size))) (by omega)
  have hA2 := fun w' (hb : Below w3.heap.size w3 w') => acts_any b2 us cap2 15 true w' hl2 (HX2.out.below (BW3.out.trans (hb.mono BW3.out.size))) (by omega)
  have hkn : (k : Int) <= (n : Int) := by omega
  have hnc : (n : Int) <= (pc : Int) := by omega
  have hkc : (k : Int) <= (pc : Int) := by omega
  have nk1 : k <= n := by omega
  have nk2 : k <= pc := by omega
  have nk3 : n <= pc := by omega
  have ik0 : (0 : Int) <= (k : Int) := by omega
  have tk0 : decide ((k : Int) < 0) = false := decide_eq_false (by omega)
  obtain ⟨pb, po, rfl, _⟩ : ∃ pb po, pa = some ⟨pb, po, none⟩ /\ True := by
    rcases HPR.out with e | ⟨pb, po, e, _⟩
    · exfalso
      have := hPL.out
      rw [e] at this
      unfold planL at this
      simp at this
    · exact ⟨pb, po, e, trivial⟩
  have WD : Hid (Below w3.heap.size w3 w3.drew) := show Below _ _ _ from (Below.refl _ _).drew
  go_cut [19, 20, 21, 22] (fun s19 s20 s21 s22 wx => ∃ (Z M : Mv) (g1 : Nat), s20 = .pointer (some ⟨g1, 0, none⟩) /\ s22 = .int .i64 0 /\ machF Z = 0 /\ Told Z /\ M.Same Z /\ MBox 0 wx g1 M /\ Below w3.heap.size w3 wx)
  case first =>
    refine wp_region_any (by kernel_rfl) ?_
    (try (change wpAny _ _ _ _ _ _ _ (World.drew _)))
    refine any_takeL (i := 0) (v := ?v0) rfl (by kernel_rfl) (by kernel_rfl) (by kernel_rfl) (fun _ _ _ h => h) (Or.inl ⟨by rfl, ?hy0⟩) ?rest0
    case hy0 => (intro w'; go_simp) <;> (with_reducible rfl)
    (try simp only [Act.put, List.setIfInBounds_toArray, List.set_cons_zero, List.set_cons_succ])
    refine any_takeL (i := 1) (v := ?v1) rfl (by kernel_rfl) (by kernel_rfl) (by kernel_rfl) (fun _ _ _ h => h) (Or.inl ⟨by rfl, ?hy1⟩) ?rest1
    case hy1 => (intro w'; go_simp) <;> (with_reducible rfl)
    (try simp only [Act.put, List.setIfInBounds_toArray, List.set_cons_zero, List.set_cons_succ])
    refine any_takeL (i := 2) (v := ?v2) rfl (by kernel_rfl) (by kernel_rfl) (by kernel_rfl) (fun _ _ _ h => h) (Or.inl ⟨by rfl, ?hy2⟩) ?rest2
    case hy2 => (intro w'; go_simp) <;> (with_reducible rfl)
    (try simp only [Act.put, List.setIfInBounds_toArray, List.set_cons_zero, List.set_cons_succ])
    refine any_takeL (i := 3) (v := ?v3) rfl (by kernel_rfl) (by kernel_rfl) (by kernel_rfl) (fun _ _ _ h => h) (Or.inl ⟨by rfl, ?hy3⟩) ?rest3
    case hy3 => (intro w'; go_simp) <;> (with_reducible rfl)
    (try simp only [Act.put, List.setIfInBounds_toArray, List.set_cons_zero, List.set_cons_succ])
    refine any_takeL (i := 5) (v := ?v5) rfl (by kernel_rfl) (by kernel_rfl) (by kernel_rfl) (fun _ _ _ h => h) (Or.inl ⟨by rfl, ?hy5⟩) ?rest5
    case hy5 => (intro w'; go_simp) <;> (with_reducible rfl)
    (try simp only [Act.put, List.setIfInBounds_toArray, List.set_cons_zero, List.set_cons_succ])
    refine any_takeL (i := 6) (v := ?v6) rfl (by kernel_rfl) (by kernel_rfl) (by kernel_rfl) (fun _ _ _ h => h) (Or.inl ⟨by rfl, ?hy6⟩) ?rest6
    case hy6 => (intro w'; go_simp) <;> (with_reducible rfl)
    (try simp only [Act.put, List.setIfInBounds_toArray, List.set_cons_zero, List.set_cons_succ])
    refine any_takeL (i := 7) (v := ?v7) rfl (by kernel_rfl) (by kernel_rfl) (by kernel_rfl) (fun _ _ _ h => h) (Or.inl ⟨by rfl, ?hy7⟩) ?rest7
    case hy7 => (intro w'; go_simp) <;> (with_reducible rfl)
    (try simp only [Act.put, List.setIfInBounds_toArray, List.set_cons_zero, List.set_cons_succ])
    refine any_takeL (i := 8) (v := ?v8) rfl (by kernel_rfl) (by kernel_rfl) (by kernel_rfl) (fun _ _ _ h => h) (Or.inl ⟨by rfl, ?hy8⟩) ?rest8
    case hy8 => (intro w'; go_simp) <;> (with_reducible rfl)
    (try simp only [Act.put, List.setIfInBounds_toArray, List.set_cons_zero, List.set_cons_succ])

    refine any_floatL [0, 1, 2, 3, 4, 5, 6, 7, 8, 9, 10, 11, 12] (i1 := 18) (i2 := 19) (d1 := 20) (d2 := 21) (o1 := .cells #[.slice none 0 0, .slice none 0 0, .slice none 0 0] 29) (o2 := .cells #[.slice none 0 0, .slice none 0 0] 32) 12 9 5 (by kernel_rfl) (by kernel_rfl) (by kernel_rfl) (by kernel_rfl) (fun d _ _ _ _ h => by cases d <;> exact h) ?a1 ?a2 ?fl
    case a1 =>
      intro aa wa K hK
      have HK : Hid (_) := hK
      clear hK
      refine wpOp_if rfl ?_
      go_simp
      exact HK.out
    case a2 =>
      intro aa wa K hK
      have HK : Hid (_) := hK
      clear hK
      refine wpOp_if rfl ?_
      go_simp
      exact HK.out
    refine fl_oneL (j := 4) rfl (by kernel_rfl) (by kernel_rfl) (fun wA hbA K hK => ?_)
    have HK : Hid (_) := hK
    have BA : Hid (Below w3.heap.size w3 wA) := show Below _ _ _ from WD.out.trans (show Below w3.heap.size w3.drew wA from hbA)
    clear hK hbA
    go_simp
    go_at_call 26
    refine (hA1 _ BA.out).mono ?_
    clear hA1
    rintro e w4 ⟨v1, l1, rfl, ho1, hl1', hk1, hb4⟩
    obtain ⟨a1, c1, rfl, hr1⟩ := acts_row ho1
    have HR1 : Hid (RowsAt w4 7 Ac.cells a1 l1) := hr1
    have HK1 : Hid (_) := hk1
    have BB : Hid (Below w3.heap.size w3 w4) := show Below _ _ _ from BA.out.trans (hb4.mono BA.out.size)
    obtain ⟨n1, hn1⟩ : ∃ n1, Hid (n1 = l1.length) := ⟨_, rfl⟩
    rw [<- hn1.out] at hl1' ⊢
    have HB4 : Hid (_) := hb4
    clear ho1 hr1 hk1 hb4
    (try go_simp)
    refine HK.out _ _ HB4.out ?_
    clear HK
    (try simp only [Act.put, List.setIfInBounds_toArray, List.set_cons_zero, List.set_cons_succ])
    refine fl_oneL (j := 9) rfl (by kernel_rfl) (by kernel_rfl) (fun wB hbB K hK => ?_)
    have HK : Hid (_) := hK
    have BC : Hid (Below w3.heap.size w3 wB) := show Below _ _ _ from BB.out.trans (hbB.mono BB.out.size)
    have HBB : Hid (_) := hbB
    clear hK hbB
    go_simp
    go_at_call 26
    refine (hA2 _ BC.out).mono ?_
    clear hA2
    rintro e w5 ⟨v2, l2, rfl, ho2, hl2', hk2, hb5⟩
    obtain ⟨a2, c2, rfl, hr2⟩ := acts_row ho2
    have HR1' : Hid (RowsAt w5 7 Ac.cells a1 l1) := show RowsAt _ _ _ _ _ from ((HR1.out.below (cells := Ac.cells) (fun _ => rfl) HBB.out).below (cells := Ac.cells) (fun _ => rfl) hb5)
    have HR2 : Hid (RowsAt w5 7 Ac.cells a2 l2) := hr2
    have HK2 : Hid (_) := hk2
    have BD : Hid (Below w3.heap.size w3 w5) := show Below _ _ _ from BC.out.trans (hb5.mono BC.out.size)
    obtain ⟨n2, hn2⟩ : ∃ n2, Hid (n2 = l2.length) := ⟨_, rfl⟩
    rw [<- hn2.out] at hl2' ⊢
    have HB5 : Hid (_) := hb5
    clear ho2 hr2 hk2 hb5 HR1
    (try go_simp)
    refine HK.out _ _ HB5.out ?_
    clear HK
    (try simp only [Act.put, List.setIfInBounds_toArray, List.set_cons_zero, List.set_cons_succ])
    refine fl_oneL (j := 10) rfl (by kernel_rfl) (by kernel_rfl) (fun wC hbC K hK => ?_)
    have HK : Hid (_) := hK
    have BE : Hid (Below w3.heap.size w3 wC) := show Below _ _ _ from BD.out.trans (hbC.mono BD.out.size)
    have HBC : Hid (_) := hbC
    clear hK hbC
    go_simp
    obtain ⟨a3, ha3⟩ : ∃ a3, Hid (a3 = if pc = k then some (⟨pb, po, none⟩ : Addr) else some ⟨pb, po + k * 7, none⟩) := ⟨_, rfl⟩
    rw [<- ha3.out]
    obtain ⟨X1, hX1⟩ : ∃ X1, Hid (X1 = PL.take k) := ⟨_, rfl⟩
    obtain ⟨X3, hX3⟩ : ∃ X3, Hid (X3 = PL.drop k) := ⟨_, rfl⟩
    have e1 : Hid (k = X1.length) := show k = _ by rw [hX1.out, List.length_take, <- hn.out]; omega
    have e3 : Hid (n - k = X3.length) := show n - k = _ by rw [hX3.out, List.length_drop, <- hn.out]
    obtain ⟨n3, hn3⟩ : ∃ n3, Hid (n3 = n - k) := ⟨_, rfl⟩
    rw [<- hn3.out] at e3 ⊢
    obtain ⟨c3, hc3⟩ : ∃ c3, Hid (c3 = pc - k) := ⟨_, rfl⟩
    rw [<- hc3.out]
    obtain ⟨W9, hW9⟩ : ∃ W9, Hid (W9 = wC.alloc (.cells #[.slice (some ⟨pb, po, none⟩) k pc, .slice a1 n1 c1, .slice a3 n3 c3, .slice a2 n2 c2] 23)) := ⟨_, rfl⟩
    have BLK : Hid (W9.heap[wC.heap.size]? = some (.cells #[.slice (some ⟨pb, po, none⟩) k pc, .slice a1 n1 c1, .slice a3 n3 c3, .slice a2 n2 c2] 23 (0, 0))) := show _ = _ by rw [hW9.out]; exact Go.Deep.blk_alloc_new _ _
    have B9 : Hid (Below wC.heap.size wC W9) := show Below _ _ _ by rw [hW9.out]; exact (Below.refl _ _).alloc (Nat.le_refl _) _
    rw [<- hW9.out]
    have HROWS : Hid (RowsAt W9 7 Ac.cells (some ⟨pb, po, none⟩) X1 /\ RowsAt W9 7 Ac.cells a1 l1 /\ RowsAt W9 7 Ac.cells a3 X3 /\ RowsAt W9 7 Ac.cells a2 l2) := by
      have hp0 : RowsAt w2 7 Ac.cells (some ⟨pb, po, none⟩) PL := HPR.out
      have hp := ((hp0.below (cells := Ac.cells) (fun _ => rfl) HB3.out).below (cells := Ac.cells) (fun _ => rfl) BE.out).below (cells := Ac.cells) (fun _ => rfl) B9.out
      refine ⟨by rw [hX1.out]; exact hp.take k, ((HR1'.out.below (cells := Ac.cells) (fun _ => rfl) HBC.out).below (cells := Ac.cells) (fun _ => rfl) B9.out), by rw [hX3.out, ha3.out]; exact rows_drop hp (by rw [<- hn.out]; exact nk3), ((HR2.out.below (cells := Ac.cells) (fun _ => rfl) HBC.out).below (cells := Ac.cells) (fun _ => rfl) B9.out)⟩
    obtain ⟨L, hL⟩ : ∃ L, Hid (L = X1 ++ (l1 ++ (X3 ++ l2))) := ⟨_, rfl⟩
    have hLlen : L.length <= 200 := by rw [hL.out, List.length_append, List.length_append, List.length_append, <- hn1.out, <- hn2.out, <- e1.out, <- e3.out, hn3.out]; omega
    have HLOK : Hid ((∀ x ∈ L, x.Ok) /\ ∀ x ∈ L, x.outer) := by
      have hpo : ∀ x ∈ PL, x.Ok /\ x.outer := fun x hx => by rw [hPL.out] at hx; exact ⟨plan_ok HIF.out ⟨by omega, by omega⟩ ⟨by omega, by omega⟩ x hx, outer_plan x hx⟩
      have hall : ∀ x ∈ L, x.Ok /\ x.outer := fun x hx => by
        rw [hL.out] at hx
        rcases List.mem_append.1 hx with hx | hx
        · exact hpo x (by rw [hX1.out] at hx; exact List.mem_of_mem_take hx)
        · rcases List.mem_append.1 hx with hx | hx
          · exact ⟨act_ok_okM (HK1.out x hx), outer_ok (HK1.out x hx)⟩
          · rcases List.mem_append.1 hx with hx | hx
            · exact hpo x (by rw [hX3.out] at hx; exact List.mem_of_mem_drop hx)
            · exact ⟨act_ok_okM (HK2.out x hx), outer_ok (HK2.out x hx)⟩
      exact ⟨fun x hx => (hall x hx).1, fun x hx => (hall x hx).2⟩
    have HCAT : Hid (∀ w', Below W9.heap.size W9 w' -> Calls Tryz.prog 36 #[.slice (some ⟨wC.heap.size, 0, none⟩) 4 4] w' fun e w'' => ∃ v, e = .returned v /\ Owns w'' w'.heap.size v L /\ Below w'.heap.size w' w'') := fun w' hb => by
      have hfl : ([⟨some ⟨pb, po, none⟩, X1, pc⟩, ⟨a1, l1, c1⟩, ⟨a3, X3, c3⟩, ⟨a2, l2, c2⟩] : List Pt).flatMap Pt.l = L := by rw [hL.out]; simp [List.flatMap_cons]
      have h := concat_acts (some ⟨wC.heap.size, 0, none⟩) [⟨some ⟨pb, po, none⟩, X1, pc⟩, ⟨a1, l1, c1⟩, ⟨a3, X3, c3⟩, ⟨a2, l2, c2⟩] 4 w' (by simp) ((four_rows BLK.out e1.out hn1.out e3.out hn2.out).below (cells := Pt.cells) (fun _ => rfl) hb) (fun p hp => by
        simp only [List.mem_cons, List.not_mem_nil, or_false] at hp
        rcases hp with rfl | rfl | rfl | rfl
        · exact HROWS.out.1.below (cells := Ac.cells) (fun _ => rfl) hb
        · exact HROWS.out.2.1.below (cells := Ac.cells) (fun _ => rfl) hb
        · exact HROWS.out.2.2.1.below (cells := Ac.cells) (fun _ => rfl) hb
        · exact HROWS.out.2.2.2.below (cells := Ac.cells) (fun _ => rfl) hb) (by rw [hfl]; omega)
      rw [hfl] at h
      exact h
    obtain ⟨G0, hG0⟩ : ∃ G0, Hid (G0 = wC.heap.size) := ⟨_, rfl⟩
    rw [<- hG0.out] at HCAT
    have B9' : Hid (Below w3.heap.size w3 W9) := show Below _ _ _ from BE.out.trans (B9.out.mono BE.out.size)
    (try go_simp)
    refine HK.out _ _ B9.out ?_
    clear HK
    rw [<- hG0.out]
    (try simp only [Act.put, List.setIfInBounds_toArray, List.set_cons_zero, List.set_cons_succ])
    refine fl_oneL (j := 11) rfl (by kernel_rfl) (by kernel_rfl) (fun wD hbD K hK => ?_)
    have HK : Hid (_) := hK
    have hcat := HCAT.out wD hbD
    have BF : Hid (Below w3.heap.size w3 wD) := show Below _ _ _ from B9'.out.trans (hbD.mono B9'.out.size)
    clear hK hbD HCAT
    go_simp
    go_at_call 36
    refine hcat.mono ?_
    clear hcat
    rintro e w10 ⟨v, rfl, hown, hb10⟩
    obtain ⟨la, lc, rfl, hrowL⟩ := acts_row hown
    obtain ⟨m, hm⟩ : ∃ m, Hid (m = L.length) := ⟨_, rfl⟩
    rw [<- hm.out] at hLlen ⊢
    have HRL : Hid (RowsAt w10 7 Ac.cells la L) := hrowL
    have BG : Hid (Below w3.heap.size w3 w10) := show Below _ _ _ from BF.out.trans (hb10.mono BF.out.size)
    have HB10 : Hid (_) := hb10
    clear hown hrowL hb10
    (try go_simp)
    refine HK.out _ _ HB10.out ?_
    clear HK
    (try simp only [Act.put, List.setIfInBounds_toArray, List.set_cons_zero, List.set_cons_succ])
    refine fl_oneL (j := 12) rfl (by kernel_rfl) (by kernel_rfl) (fun wR hbR K hK => ?_)
    have HK : Hid (_) := hK
    have BH : Hid (Below w3.heap.size w3 wR) := show Below _ _ _ from BG.out.trans (hbR.mono BG.out.size)
    have hrun := run_scriptM hm.out hLlen HLOK.out.1 la lc wR (HRL.out.below (cells := Ac.cells) (fun _ => rfl) hbR) (HT.out.below (BW3.out.trans (BH.out.mono BW3.out.size)))
    clear hK hbR
    go_simp
    go_at_call 13
    refine hrun.mono ?_
    clear hrun
    rintro y w11 ⟨aa, an, acap, M, C, rfl, hMs, hO, hCO, hb11⟩
    have HMS : Hid (M.Same (hst (hs0 []) L).M) := hMs
    have HO : Hid (Owned wR.heap.size w11 M) := hO
    have BI : Hid (Below w3.heap.size w3 w11) := show Below _ _ _ from BH.out.trans (hb11.mono BH.out.size)
    have HB11 : Hid (_) := hb11
    clear hMs hO hCO hb11
    unfold Mv.val Cv.val
    (try go_simp)
    refine HK.out _ _ HB11.out ?_
    clear HK
    (try simp only [Act.put, List.setIfInBounds_toArray, List.set_cons_zero, List.set_cons_succ])
    intro wT hbT
    have BT : Hid (Below w3.heap.size w3 wT) := show Below _ _ _ from BI.out.trans (hbT.mono BI.out.size)
    have HOT : Hid (Owned wR.heap.size wT M) := show Owned _ _ _ from HO.out.below hbT
    have HFR : Hid (∀ g, g < wR.heap.size ∨ w11.heap.size <= g -> ¬ Mine M g) := fun g hg q => by have h1 := Mine.fresh HO.out q; omega
    have HSZ : Hid (w11.heap.size <= wT.heap.size /\ w3.heap.size <= w11.heap.size) := ⟨hbT.size, BI.out.size⟩
    clear hbT
    have HTOLD : Hid (machF (hst (hs0 []) L).M = 0 /\ Told (hst (hs0 []) L).M) := ⟨(hst_good (hs0 []) L new_good rfl).1, told_hst L (hs0 []) new_good told_new HLOK.out.2⟩
    refine ⟨fun g1 g2 z1 z2 hne q1 q2 => ?_, fun g1 z1 q1 => ?_, fun g2 z2 q2 => ?_, ?_⟩
    · have h1 := q1 _ (List.mem_cons_self ..)
      have h2 := q2 _ (List.mem_cons_self ..)
      have k1 := q1 (0, w3.drew.heap.size) (by simp)
      have k2 := q2 (0, w3.drew.heap.size) (by simp)
      have hdd : w3.drew.heap.size = w3.heap.size := rfl
      have HM : Hid (¬ Mine M g1 /\ ¬ Mine M g2) := ⟨HFR.out g1 h1, HFR.out g2 h2⟩
      have HM3 : Hid (w3.heap.size <= g1 /\ w3.heap.size <= g2) := ⟨by dsimp only at k1; omega, by dsimp only at k2; omega⟩
      clear q1 q2 h1 h2 k1 k2 hdd
      obtain ⟨V, hV⟩ : ∃ V, Hid (V = wT) := ⟨_, rfl⟩
      rw [<- hV.out] at z1 z2 ⊢
      unfold ptrV
      have HOV : Hid (Owned 0 V M) := show Owned _ _ _ from by rw [hV.out]; exact HOT.out.mono (Nat.zero_le _)
      have BV : Hid (Below w3.heap.size w3 V) := show Below _ _ _ from by rw [hV.out]; exact BT.out
      refine any_takeL (i := 13) (v := ?v13a) rfl (by kernel_rfl) (by kernel_rfl) (by kernel_rfl) (fun _ _ _ h => h) (Or.inl ⟨by rfl, ?hy13a⟩) ?rest13a
      case hy13a => (intro w'; go_simp) <;> (with_reducible rfl)
      (try simp only [Act.put, List.setIfInBounds_toArray, List.set_cons_zero, List.set_cons_succ])
      refine any_takeL (i := 14) (v := ?v14a) rfl (by kernel_rfl) (by kernel_rfl) (by kernel_rfl) (fun _ _ _ h => h) (Or.inl ⟨by rfl, ?hy14a⟩) ?rest14a
      case hy14a => (intro w'; go_simp) <;> (with_reducible rfl)
      (try simp only [Act.put, List.setIfInBounds_toArray, List.set_cons_zero, List.set_cons_succ])
      refine any_takeL (i := 15) (v := ?v15a) rfl (by kernel_rfl) (by kernel_rfl) (by kernel_rfl) (fun _ _ _ h => h) (Or.inl ⟨by rfl, ?hy15a⟩) ?rest15a
      case hy15a => (intro w'; go_simp) <;> (with_reducible rfl)
      (try simp only [Act.put, List.setIfInBounds_toArray, List.set_cons_zero, List.set_cons_succ])
      refine any_takeL (i := 16) (v := ?v16a) rfl (by kernel_rfl) (by kernel_rfl) (by kernel_rfl) (fun _ _ _ h => h) (Or.inl ⟨by rfl, ?hy16a⟩) ?rest16a
      case hy16a => (intro w'; go_simp) <;> (with_reducible rfl)
      (try simp only [Act.put, List.setIfInBounds_toArray, List.set_cons_zero, List.set_cons_succ])
      refine any_takeL (i := 17) (v := ?v17a) rfl (by kernel_rfl) (by kernel_rfl) (by kernel_rfl) (fun _ _ _ h => h) (Or.inl ⟨by rfl, ?hy17a⟩) ?rest17a
      case hy17a => (intro w'; go_simp) <;> (with_reducible rfl)
      (try simp only [Act.put, List.setIfInBounds_toArray, List.set_cons_zero, List.set_cons_succ])
      have HZ : Hid (V.heap[g1]? = some (.cells #[.slice none 0 0, .slice none 0 0, .slice none 0 0] 29 (0, 0))) := z1
      have c0 : V.cell? ⟨g1, 0, none⟩ = some (.slice none 0 0) := by simp [World.cell?, z1]
      have c1 : V.cell? ⟨g1, 1, none⟩ = some (.slice none 0 0) := by simp [World.cell?, z1]
      have c2 : V.cell? ⟨g1, 2, none⟩ = some (.slice none 0 0) := by simp [World.cell?, z1]
      have d0 : V.cell? ⟨g2, 0, none⟩ = some (.slice none 0 0) := by simp [World.cell?, z2]
      have d1 : V.cell? ⟨g2, 1, none⟩ = some (.slice none 0 0) := by simp [World.cell?, z2]
      have cf0 := frozen_of_block z1 0
      have cf1 := frozen_of_block z1 1
      have cf2 := frozen_of_block z1 2
      have df0 := frozen_of_block z2 0
      have df1 := frozen_of_block z2 1
      have lc := lt_of_cell c0
      have ld := lt_of_cell d0
      have hne' : ¬ g2 = g1 := fun e => hne e.symm
      clear z1 z2
      refine any_oneL (i := 20) rfl (by kernel_rfl) (fun K hK => ?_)
      have HK : Hid (_) := hK
      clear hK
      go_simp
      refine HK.out _ _ ?_
      clear HK
      (try simp only [Act.put, List.setIfInBounds_toArray, List.set_cons_zero, List.set_cons_succ])
      refine any_oneL (i := 21) rfl (by kernel_rfl) (fun K hK => ?_)
      have HK : Hid (_) := hK
      clear hK
      go_simp
      refine HK.out _ _ ?_
      clear HK
      (try simp only [Act.put, List.setIfInBounds_toArray, List.set_cons_zero, List.set_cons_succ])
      refine any_oneL (i := 22) rfl (by kernel_rfl) (fun K hK => ?_)
      have HK : Hid (_) := hK
      clear hK
      go_simp
      refine HK.out _ _ ?_
      clear HK
      (try simp only [Act.put, List.setIfInBounds_toArray, List.set_cons_zero, List.set_cons_succ])
      refine any_oneL (i := 23) rfl (by kernel_rfl) (fun K hK => ?_)
      have HK : Hid (_) := hK
      clear hK
      go_simp
      refine HK.out _ _ ?_
      clear HK
      (try simp only [Act.put, List.setIfInBounds_toArray, List.set_cons_zero, List.set_cons_succ])
      refine wpAny_done (by kernel_rfl) ?_ _
      (try go_wp2_with fail)
      go_meet
      case rel =>
        exact ⟨_, M, g1, rfl, rfl, HTOLD.out.1, HTOLD.out.2, HMS.out, madeM HZ.out HOV.out HM.out.1 HM.out.2 hne BV.out HM3.out.1 HM3.out.2⟩
    · have h1 := q1 _ (List.mem_cons_self ..)
      have k1 := q1 (0, w3.drew.heap.size) (by simp)
      have lt1 := (Array.getElem?_eq_some_iff.1 z1).1
      refine any_takeL (i := 13) (v := ?v13b) rfl (by kernel_rfl) (by kernel_rfl) (by kernel_rfl) (fun _ _ _ h => h) (Or.inl ⟨by rfl, ?hy13b⟩) ?rest13b
      case hy13b => (intro w'; go_simp) <;> (with_reducible rfl)
      (try simp only [Act.put, List.setIfInBounds_toArray, List.set_cons_zero, List.set_cons_succ])
      refine any_takeL (i := 14) (v := ?v14b) rfl (by kernel_rfl) (by kernel_rfl) (by kernel_rfl) (fun _ _ _ h => h) (Or.inl ⟨by rfl, ?hy14b⟩) ?rest14b
      case hy14b => (intro w'; go_simp) <;> (with_reducible rfl)
      (try simp only [Act.put, List.setIfInBounds_toArray, List.set_cons_zero, List.set_cons_succ])
      refine any_takeL (i := 15) (v := ?v15b) rfl (by kernel_rfl) (by kernel_rfl) (by kernel_rfl) (fun _ _ _ h => h) (Or.inl ⟨by rfl, ?hy15b⟩) ?rest15b
      case hy15b => (intro w'; go_simp) <;> (with_reducible rfl)
      (try simp only [Act.put, List.setIfInBounds_toArray, List.set_cons_zero, List.set_cons_succ])
      refine any_takeL (i := 16) (v := ?v16b) rfl (by kernel_rfl) (by kernel_rfl) (by kernel_rfl) (fun _ _ _ h => h) (Or.inl ⟨by rfl, ?hy16b⟩) ?rest16b
      case hy16b => (intro w'; go_simp) <;> (with_reducible rfl)
      (try simp only [Act.put, List.setIfInBounds_toArray, List.set_cons_zero, List.set_cons_succ])
      refine any_takeL (i := 17) (v := ?v17b) rfl (by kernel_rfl) (by kernel_rfl) (by kernel_rfl) (fun _ _ _ h => h) (Or.inl ⟨by rfl, ?hy17b⟩) ?rest17b
      case hy17b => (intro w'; go_simp) <;> (with_reducible rfl)
      (try simp only [Act.put, List.setIfInBounds_toArray, List.set_cons_zero, List.set_cons_succ])
      unfold ptrV
      refine any_oneL (i := 19) rfl (by kernel_rfl) (fun K hK => ?_)
      have HK : Hid (_) := hK
      clear hK
      go_simp
      refine HK.out _ _ ?_
      clear HK
      (try simp only [Act.put, List.setIfInBounds_toArray, List.set_cons_zero, List.set_cons_succ])
      obtain ⟨g2, hg2⟩ : ∃ g2, Hid (g2 = wT.heap.size) := ⟨_, rfl⟩
      obtain ⟨V, hV⟩ : ∃ V, Hid (V = wT.alloc (.cells #[.slice none 0 0, .slice none 0 0] 32)) := ⟨_, rfl⟩
      have z1' : V.heap[g1]? = some (.cells #[.slice none 0 0, .slice none 0 0, .slice none 0 0] 29) := by rw [hV.out]; exact alloc_old _ z1
      have z2 : V.heap[g2]? = some (.cells #[.slice none 0 0, .slice none 0 0] 32) := by rw [hV.out, hg2.out]; exact Go.Deep.blk_alloc_new _ _
      have hgv := hg2.out
      have hne : g1 ≠ g2 := by omega
      have hdd : w3.drew.heap.size = w3.heap.size := rfl
      have hss := HSZ.out
      have HM : Hid (¬ Mine M g1 /\ ¬ Mine M g2) := ⟨HFR.out g1 (by omega), HFR.out g2 (by omega)⟩
      have HM3 : Hid (w3.heap.size <= g1 /\ w3.heap.size <= g2) := ⟨by dsimp only at k1; omega, by omega⟩
      clear hdd hss
      clear z1 q1 h1 k1 lt1 hgv
      rename V.heap[g1]? = _ => z1
      rw [<- hV.out, <- hg2.out]
      have HOV : Hid (Owned 0 V M) := show Owned _ _ _ from by rw [hV.out]; exact (HOT.out.mono (Nat.zero_le _)).below ((Below.refl _ _).alloc (Nat.le_refl _) _)
      have BV : Hid (Below w3.heap.size w3 V) := show Below _ _ _ from by rw [hV.out]; exact BT.out.trans ((((Below.refl _ _).alloc (Nat.le_refl _) _)).mono BT.out.size)
      have HZ : Hid (V.heap[g1]? = some (.cells #[.slice none 0 0, .slice none 0 0, .slice none 0 0] 29 (0, 0))) := z1
      have c0 : V.cell? ⟨g1, 0, none⟩ = some (.slice none 0 0) := by simp [World.cell?, z1]
      have c1 : V.cell? ⟨g1, 1, none⟩ = some (.slice none 0 0) := by simp [World.cell?, z1]
      have c2 : V.cell? ⟨g1, 2, none⟩ = some (.slice none 0 0) := by simp [World.cell?, z1]
      have d0 : V.cell? ⟨g2, 0, none⟩ = some (.slice none 0 0) := by simp [World.cell?, z2]
      have d1 : V.cell? ⟨g2, 1, none⟩ = some (.slice none 0 0) := by simp [World.cell?, z2]
      have cf0 := frozen_of_block z1 0
      have cf1 := frozen_of_block z1 1
      have cf2 := frozen_of_block z1 2
      have df0 := frozen_of_block z2 0
      have df1 := frozen_of_block z2 1
      have lc := lt_of_cell c0
      have ld := lt_of_cell d0
      have hne' : ¬ g2 = g1 := fun e => hne e.symm
      clear z1 z2
      refine any_oneL (i := 20) rfl (by kernel_rfl) (fun K hK => ?_)
      have HK : Hid (_) := hK
      clear hK
      go_simp
      refine HK.out _ _ ?_
      clear HK
      (try simp only [Act.put, List.setIfInBounds_toArray, List.set_cons_zero, List.set_cons_succ])
      refine any_oneL (i := 21) rfl (by kernel_rfl) (fun K hK => ?_)
      have HK : Hid (_) := hK
      clear hK
      go_simp
      refine HK.out _ _ ?_
      clear HK
      (try simp only [Act.put, List.setIfInBounds_toArray, List.set_cons_zero, List.set_cons_succ])
      refine any_oneL (i := 22) rfl (by kernel_rfl) (fun K hK => ?_)
      have HK : Hid (_) := hK
      clear hK
      go_simp
      refine HK.out _ _ ?_
      clear HK
      (try simp only [Act.put, List.setIfInBounds_toArray, List.set_cons_zero, List.set_cons_succ])
      refine any_oneL (i := 23) rfl (by kernel_rfl) (fun K hK => ?_)
      have HK : Hid (_) := hK
      clear hK
      go_simp
      refine HK.out _ _ ?_
      clear HK
      (try simp only [Act.put, List.setIfInBounds_toArray, List.set_cons_zero, List.set_cons_succ])
      refine wpAny_done (by kernel_rfl) ?_ _
      (try go_wp2_with fail)
      go_meet
      case rel =>
        exact ⟨_, M, g1, rfl, rfl, HTOLD.out.1, HTOLD.out.2, HMS.out, madeM HZ.out HOV.out HM.out.1 HM.out.2 hne BV.out HM3.out.1 HM3.out.2⟩
    · have h2 := q2 _ (List.mem_cons_self ..)
      have k2 := q2 (0, w3.drew.heap.size) (by simp)
      have lt2 := (Array.getElem?_eq_some_iff.1 z2).1
      refine any_takeL (i := 13) (v := ?v13c) rfl (by kernel_rfl) (by kernel_rfl) (by kernel_rfl) (fun _ _ _ h => h) (Or.inl ⟨by rfl, ?hy13c⟩) ?rest13c
      case hy13c => (intro w'; go_simp) <;> (with_reducible rfl)
      (try simp only [Act.put, List.setIfInBounds_toArray, List.set_cons_zero, List.set_cons_succ])
      refine any_takeL (i := 14) (v := ?v14c) rfl (by kernel_rfl) (by kernel_rfl) (by kernel_rfl) (fun _ _ _ h => h) (Or.inl ⟨by rfl, ?hy14c⟩) ?rest14c
      case hy14c => (intro w'; go_simp) <;> (with_reducible rfl)
      (try simp only [Act.put, List.setIfInBounds_toArray, List.set_cons_zero, List.set_cons_succ])
      refine any_takeL (i := 15) (v := ?v15c) rfl (by kernel_rfl) (by kernel_rfl) (by kernel_rfl) (fun _ _ _ h => h) (Or.inl ⟨by rfl, ?hy15c⟩) ?rest15c
      case hy15c => (intro w'; go_simp) <;> (with_reducible rfl)
      (try simp only [Act.put, List.setIfInBounds_toArray, List.set_cons_zero, List.set_cons_succ])
      refine any_takeL (i := 16) (v := ?v16c) rfl (by kernel_rfl) (by kernel_rfl) (by kernel_rfl) (fun _ _ _ h => h) (Or.inl ⟨by rfl, ?hy16c⟩) ?rest16c
      case hy16c => (intro w'; go_simp) <;> (with_reducible rfl)
      (try simp only [Act.put, List.setIfInBounds_toArray, List.set_cons_zero, List.set_cons_succ])
      refine any_takeL (i := 17) (v := ?v17c) rfl (by kernel_rfl) (by kernel_rfl) (by kernel_rfl) (fun _ _ _ h => h) (Or.inl ⟨by rfl, ?hy17c⟩) ?rest17c
      case hy17c => (intro w'; go_simp) <;> (with_reducible rfl)
      (try simp only [Act.put, List.setIfInBounds_toArray, List.set_cons_zero, List.set_cons_succ])
      unfold ptrV
      refine any_oneL (i := 18) rfl (by kernel_rfl) (fun K hK => ?_)
      have HK : Hid (_) := hK
      clear hK
      go_simp
      refine HK.out _ _ ?_
      clear HK
      (try simp only [Act.put, List.setIfInBounds_toArray, List.set_cons_zero, List.set_cons_succ])
      obtain ⟨g1, hg1⟩ : ∃ g1, Hid (g1 = wT.heap.size) := ⟨_, rfl⟩
      obtain ⟨V, hV⟩ : ∃ V, Hid (V = wT.alloc (.cells #[.slice none 0 0, .slice none 0 0, .slice none 0 0] 29)) := ⟨_, rfl⟩
      have z2' : V.heap[g2]? = some (.cells #[.slice none 0 0, .slice none 0 0] 32) := by rw [hV.out]; exact alloc_old _ z2
      have z1 : V.heap[g1]? = some (.cells #[.slice none 0 0, .slice none 0 0, .slice none 0 0] 29) := by rw [hV.out, hg1.out]; exact Go.Deep.blk_alloc_new _ _
      have hgv := hg1.out
      have hne : g1 ≠ g2 := by omega
      have hdd : w3.drew.heap.size = w3.heap.size := rfl
      have hss := HSZ.out
      have HM : Hid (¬ Mine M g1 /\ ¬ Mine M g2) := ⟨HFR.out g1 (by omega), HFR.out g2 (by omega)⟩
      have HM3 : Hid (w3.heap.size <= g1 /\ w3.heap.size <= g2) := ⟨by omega, by dsimp only at k2; omega⟩
      clear hdd hss
      clear z2 q2 h2 k2 lt2 hgv
      rename V.heap[g2]? = _ => z2
      rw [<- hV.out, <- hg1.out]
      have HOV : Hid (Owned 0 V M) := show Owned _ _ _ from by rw [hV.out]; exact (HOT.out.mono (Nat.zero_le _)).below ((Below.refl _ _).alloc (Nat.le_refl _) _)
      have BV : Hid (Below w3.heap.size w3 V) := show Below _ _ _ from by rw [hV.out]; exact BT.out.trans ((((Below.refl _ _).alloc (Nat.le_refl _) _)).mono BT.out.size)
      have HZ : Hid (V.heap[g1]? = some (.cells #[.slice none 0 0, .slice none 0 0, .slice none 0 0] 29 (0, 0))) := z1
      have c0 : V.cell? ⟨g1, 0, none⟩ = some (.slice none 0 0) := by simp [World.cell?, z1]
      have c1 : V.cell? ⟨g1, 1, none⟩ = some (.slice none 0 0) := by simp [World.cell?, z1]
      have c2 : V.cell? ⟨g1, 2, none⟩ = some (.slice none 0 0) := by simp [World.cell?, z1]
      have d0 : V.cell? ⟨g2, 0, none⟩ = some (.slice none 0 0) := by simp [World.cell?, z2]
      have d1 : V.cell? ⟨g2, 1, none⟩ = some (.slice none 0 0) := by simp [World.cell?, z2]
      have cf0 := frozen_of_block z1 0
      have cf1 := frozen_of_block z1 1
      have cf2 := frozen_of_block z1 2
      have df0 := frozen_of_block z2 0
      have df1 := frozen_of_block z2 1
      have lc := lt_of_cell c0
      have ld := lt_of_cell d0
      have hne' : ¬ g2 = g1 := fun e => hne e.symm
      clear z1 z2
      refine any_oneL (i := 20) rfl (by kernel_rfl) (fun K hK => ?_)
      have HK : Hid (_) := hK
      clear hK
      go_simp
      refine HK.out _ _ ?_
      clear HK
      (try simp only [Act.put, List.setIfInBounds_toArray, List.set_cons_zero, List.set_cons_succ])
      refine any_oneL (i := 21) rfl (by kernel_rfl) (fun K hK => ?_)
      have HK : Hid (_) := hK
      clear hK
      go_simp
      refine HK.out _ _ ?_
      clear HK
      (try simp only [Act.put, List.setIfInBounds_toArray, List.set_cons_zero, List.set_cons_succ])
      refine any_oneL (i := 22) rfl (by kernel_rfl) (fun K hK => ?_)
      have HK : Hid (_) := hK
      clear hK
      go_simp
      refine HK.out _ _ ?_
      clear HK
      (try simp only [Act.put, List.setIfInBounds_toArray, List.set_cons_zero, List.set_cons_succ])
      refine any_oneL (i := 23) rfl (by kernel_rfl) (fun K hK => ?_)
      have HK : Hid (_) := hK
      clear hK
      go_simp
      refine HK.out _ _ ?_
      clear HK
      (try simp only [Act.put, List.setIfInBounds_toArray, List.set_cons_zero, List.set_cons_succ])
      refine wpAny_done (by kernel_rfl) ?_ _
      (try go_wp2_with fail)
      go_meet
      case rel =>
        exact ⟨_, M, g1, rfl, rfl, HTOLD.out.1, HTOLD.out.2, HMS.out, madeM HZ.out HOV.out HM.out.1 HM.out.2 hne BV.out HM3.out.1 HM3.out.2⟩
    · refine any_takeL (i := 13) (v := ?v13d) rfl (by kernel_rfl) (by kernel_rfl) (by kernel_rfl) (fun _ _ _ h => h) (Or.inl ⟨by rfl, ?hy13d⟩) ?rest13d
      case hy13d => (intro w'; go_simp) <;> (with_reducible rfl)
      (try simp only [Act.put, List.setIfInBounds_toArray, List.set_cons_zero, List.set_cons_succ])
      refine any_takeL (i := 14) (v := ?v14d) rfl (by kernel_rfl) (by kernel_rfl) (by kernel_rfl) (fun _ _ _ h => h) (Or.inl ⟨by rfl, ?hy14d⟩) ?rest14d
      case hy14d => (intro w'; go_simp) <;> (with_reducible rfl)
      (try simp only [Act.put, List.setIfInBounds_toArray, List.set_cons_zero, List.set_cons_succ])
      refine any_takeL (i := 15) (v := ?v15d) rfl (by kernel_rfl) (by kernel_rfl) (by kernel_rfl) (fun _ _ _ h => h) (Or.inl ⟨by rfl, ?hy15d⟩) ?rest15d
      case hy15d => (intro w'; go_simp) <;> (with_reducible rfl)
      (try simp only [Act.put, List.setIfInBounds_toArray, List.set_cons_zero, List.set_cons_succ])
      refine any_takeL (i := 16) (v := ?v16d) rfl (by kernel_rfl) (by kernel_rfl) (by kernel_rfl) (fun _ _ _ h => h) (Or.inl ⟨by rfl, ?hy16d⟩) ?rest16d
      case hy16d => (intro w'; go_simp) <;> (with_reducible rfl)
      (try simp only [Act.put, List.setIfInBounds_toArray, List.set_cons_zero, List.set_cons_succ])
      refine any_takeL (i := 17) (v := ?v17d) rfl (by kernel_rfl) (by kernel_rfl) (by kernel_rfl) (fun _ _ _ h => h) (Or.inl ⟨by rfl, ?hy17d⟩) ?rest17d
      case hy17d => (intro w'; go_simp) <;> (with_reducible rfl)
      (try simp only [Act.put, List.setIfInBounds_toArray, List.set_cons_zero, List.set_cons_succ])
      refine any_twoL (i := 18) (j := 19) rfl rfl (by kernel_rfl) (fun K hK => ?_) (fun K hK => ?_)
      · have HK : Hid (_) := hK
        clear hK
        go_simp
        refine HK.out _ _ ?_
        clear HK
        (try simp only [Act.put, List.setIfInBounds_toArray, List.set_cons_zero, List.set_cons_succ])
        refine any_oneL (i := 19) rfl (by kernel_rfl) (fun K hK => ?_)
        have HK : Hid (_) := hK
        clear hK
        go_simp
        refine HK.out _ _ ?_
        clear HK
        (try simp only [Act.put, List.setIfInBounds_toArray, List.set_cons_zero, List.set_cons_succ])
        obtain ⟨g1, hg1⟩ : ∃ g, Hid (g = wT.heap.size) := ⟨_, rfl⟩
        obtain ⟨g2, hg2⟩ : ∃ g, Hid (g = wT.heap.size + 1) := ⟨_, rfl⟩
        obtain ⟨V, hV⟩ : ∃ V, Hid (V = (wT.alloc (.cells #[.slice none 0 0, .slice none 0 0, .slice none 0 0] 29)).alloc (.cells #[.slice none 0 0, .slice none 0 0] 32)) := ⟨_, rfl⟩
        have z1 : V.heap[g1]? = some (.cells #[.slice none 0 0, .slice none 0 0, .slice none 0 0] 29) := by rw [hV.out, hg1.out]; exact alloc_old _ (Go.Deep.blk_alloc_new _ _)
        have z2 : V.heap[g2]? = some (.cells #[.slice none 0 0, .slice none 0 0] 32) := by rw [hV.out, hg2.out, <- World.size_alloc wT (.cells #[.slice none 0 0, .slice none 0 0, .slice none 0 0] 29)]; exact Go.Deep.blk_alloc_new _ _
        have hgv := hg1.out
        have hgu := hg2.out
        have hne : g1 ≠ g2 := by omega
        have hdd : w3.drew.heap.size = w3.heap.size := rfl
        have hss := HSZ.out
        have HM : Hid (¬ Mine M g1 /\ ¬ Mine M g2) := ⟨HFR.out g1 (by omega), HFR.out g2 (by omega)⟩
        have HM3 : Hid (w3.heap.size <= g1 /\ w3.heap.size <= g2) := ⟨by omega, by omega⟩
        clear hdd hss
        clear hgv hgu
        (try rw [World.size_alloc])
        rw [<- hV.out, <- hg2.out, <- hg1.out]
        have HOV : Hid (Owned 0 V M) := show Owned _ _ _ from by rw [hV.out]; exact (HOT.out.mono (Nat.zero_le _)).below (below_allocR (below_allocR (Below.refl _ _) _) _)
        have BV : Hid (Below w3.heap.size w3 V) := show Below _ _ _ from by rw [hV.out]; exact BT.out.trans (((below_allocR (below_allocR (Below.refl _ _) _) _)).mono BT.out.size)
        have HZ : Hid (V.heap[g1]? = some (.cells #[.slice none 0 0, .slice none 0 0, .slice none 0 0] 29 (0, 0))) := z1
        have c0 : V.cell? ⟨g1, 0, none⟩ = some (.slice none 0 0) := by simp [World.cell?, z1]
        have c1 : V.cell? ⟨g1, 1, none⟩ = some (.slice none 0 0) := by simp [World.cell?, z1]
        have c2 : V.cell? ⟨g1, 2, none⟩ = some (.slice none 0 0) := by simp [World.cell?, z1]
        have d0 : V.cell? ⟨g2, 0, none⟩ = some (.slice none 0 0) := by simp [World.cell?, z2]
        have d1 : V.cell? ⟨g2, 1, none⟩ = some (.slice none 0 0) := by simp [World.cell?, z2]
        have cf0 := frozen_of_block z1 0
        have cf1 := frozen_of_block z1 1
        have cf2 := frozen_of_block z1 2
        have df0 := frozen_of_block z2 0
        have df1 := frozen_of_block z2 1
        have lc := lt_of_cell c0
        have ld := lt_of_cell d0
        have hne' : ¬ g2 = g1 := fun e => hne e.symm
        clear z1 z2
        refine any_oneL (i := 20) rfl (by kernel_rfl) (fun K hK => ?_)
        have HK : Hid (_) := hK
        clear hK
        go_simp
        refine HK.out _ _ ?_
        clear HK
        (try simp only [Act.put, List.setIfInBounds_toArray, List.set_cons_zero, List.set_cons_succ])
        refine any_oneL (i := 21) rfl (by kernel_rfl) (fun K hK => ?_)
        have HK : Hid (_) := hK
        clear hK
        go_simp
        refine HK.out _ _ ?_
        clear HK
        (try simp only [Act.put, List.setIfInBounds_toArray, List.set_cons_zero, List.set_cons_succ])
        refine any_oneL (i := 22) rfl (by kernel_rfl) (fun K hK => ?_)
        have HK : Hid (_) := hK
        clear hK
        go_simp
        refine HK.out _ _ ?_
        clear HK
        (try simp only [Act.put, List.setIfInBounds_toArray, List.set_cons_zero, List.set_cons_succ])
        refine any_oneL (i := 23) rfl (by kernel_rfl) (fun K hK => ?_)
        have HK : Hid (_) := hK
        clear hK
        go_simp
        refine HK.out _ _ ?_
        clear HK
        (try simp only [Act.put, List.setIfInBounds_toArray, List.set_cons_zero, List.set_cons_succ])
        refine wpAny_done (by kernel_rfl) ?_ _
        (try go_wp2_with fail)
        go_meet
        case rel =>
          exact ⟨_, M, g1, rfl, rfl, HTOLD.out.1, HTOLD.out.2, HMS.out, madeM HZ.out HOV.out HM.out.1 HM.out.2 hne BV.out HM3.out.1 HM3.out.2⟩
      · have HK : Hid (_) := hK
        clear hK
        go_simp
        refine HK.out _ _ ?_
        clear HK
        (try simp only [Act.put, List.setIfInBounds_toArray, List.set_cons_zero, List.set_cons_succ])
        refine any_oneL (i := 18) rfl (by kernel_rfl) (fun K hK => ?_)
        have HK : Hid (_) := hK
        clear hK
        go_simp
        refine HK.out _ _ ?_
        clear HK
        (try simp only [Act.put, List.setIfInBounds_toArray, List.set_cons_zero, List.set_cons_succ])
        obtain ⟨g2, hg2⟩ : ∃ g, Hid (g = wT.heap.size) := ⟨_, rfl⟩
        obtain ⟨g1, hg1⟩ : ∃ g, Hid (g = wT.heap.size + 1) := ⟨_, rfl⟩
        obtain ⟨V, hV⟩ : ∃ V, Hid (V = (wT.alloc (.cells #[.slice none 0 0, .slice none 0 0] 32)).alloc (.cells #[.slice none 0 0, .slice none 0 0, .slice none 0 0] 29)) := ⟨_, rfl⟩
        have z2 : V.heap[g2]? = some (.cells #[.slice none 0 0, .slice none 0 0] 32) := by rw [hV.out, hg2.out]; exact alloc_old _ (Go.Deep.blk_alloc_new _ _)
        have z1 : V.heap[g1]? = some (.cells #[.slice none 0 0, .slice none 0 0, .slice none 0 0] 29) := by rw [hV.out, hg1.out, <- World.size_alloc wT (.cells #[.slice none 0 0, .slice none 0 0] 32)]; exact Go.Deep.blk_alloc_new _ _
        have hgv := hg1.out
        have hgu := hg2.out
        have hne : g1 ≠ g2 := by omega
        have hdd : w3.drew.heap.size = w3.heap.size := rfl
        have hss := HSZ.out
        have HM : Hid (¬ Mine M g1 /\ ¬ Mine M g2) := ⟨HFR.out g1 (by omega), HFR.out g2 (by omega)⟩
        have HM3 : Hid (w3.heap.size <= g1 /\ w3.heap.size <= g2) := ⟨by omega, by omega⟩
        clear hdd hss
        clear hgv hgu
        (try rw [World.size_alloc])
        rw [<- hV.out, <- hg1.out, <- hg2.out]
        have HOV : Hid (Owned 0 V M) := show Owned _ _ _ from by rw [hV.out]; exact (HOT.out.mono (Nat.zero_le _)).below (below_allocR (below_allocR (Below.refl _ _) _) _)
        have BV : Hid (Below w3.heap.size w3 V) := show Below _ _ _ from by rw [hV.out]; exact BT.out.trans (((below_allocR (below_allocR (Below.refl _ _) _) _)).mono BT.out.size)
        have HZ : Hid (V.heap[g1]? = some (.cells #[.slice none 0 0, .slice none 0 0, .slice none 0 0] 29 (0, 0))) := z1
        have c0 : V.cell? ⟨g1, 0, none⟩ = some (.slice none 0 0) := by simp [World.cell?, z1]
        have c1 : V.cell? ⟨g1, 1, none⟩ = some (.slice none 0 0) := by simp [World.cell?, z1]
        have c2 : V.cell? ⟨g1, 2, none⟩ = some (.slice none 0 0) := by simp [World.cell?, z1]
        have d0 : V.cell? ⟨g2, 0, none⟩ = some (.slice none 0 0) := by simp [World.cell?, z2]
        have d1 : V.cell? ⟨g2, 1, none⟩ = some (.slice none 0 0) := by simp [World.cell?, z2]
        have cf0 := frozen_of_block z1 0
        have cf1 := frozen_of_block z1 1
        have cf2 := frozen_of_block z1 2
        have df0 := frozen_of_block z2 0
        have df1 := frozen_of_block z2 1
        have lc := lt_of_cell c0
        have ld := lt_of_cell d0
        have hne' : ¬ g2 = g1 := fun e => hne e.symm
        clear z1 z2
        refine any_oneL (i := 20) rfl (by kernel_rfl) (fun K hK => ?_)
        have HK : Hid (_) := hK
        clear hK
        go_simp
        refine HK.out _ _ ?_
        clear HK
        (try simp only [Act.put, List.setIfInBounds_toArray, List.set_cons_zero, List.set_cons_succ])
        refine any_oneL (i := 21) rfl (by kernel_rfl) (fun K hK => ?_)
        have HK : Hid (_) := hK
        clear hK
        go_simp
        refine HK.out _ _ ?_
        clear HK
        (try simp only [Act.put, List.setIfInBounds_toArray, List.set_cons_zero, List.set_cons_succ])
        refine any_oneL (i := 22) rfl (by kernel_rfl) (fun K hK => ?_)
        have HK : Hid (_) := hK
        clear hK
        go_simp
        refine HK.out _ _ ?_
        clear HK
        (try simp only [Act.put, List.setIfInBounds_toArray, List.set_cons_zero, List.set_cons_succ])
        refine any_oneL (i := 23) rfl (by kernel_rfl) (fun K hK => ?_)
        have HK : Hid (_) := hK
        clear hK
        go_simp
        refine HK.out _ _ ?_
        clear HK
        (try simp only [Act.put, List.setIfInBounds_toArray, List.set_cons_zero, List.set_cons_succ])
        refine wpAny_done (by kernel_rfl) ?_ _
        (try go_wp2_with fail)
        go_meet
        case rel =>
          exact ⟨_, M, g1, rfl, rfl, HTOLD.out.1, HTOLD.out.2, HMS.out, madeM HZ.out HOV.out HM.out.1 HM.out.2 hne BV.out HM3.out.1 HM3.out.2⟩
  case rest =>
  obtain ⟨Z, M, g1, rfl, rfl, hz, htold, hms, hbox, hbel⟩ := hcut
  rename World => W6
  have XB : Hid (MBox 0 W6 g1 M) := hbox
  have B36 : Hid (Below w3.heap.size w3 W6) := hbel
  have BW6 : Hid (Below w.heap.size w W6) := show Below _ _ _ from BW3.out.trans (hbel.mono BW3.out.size)
  have HP6 : Hid (PagesAt W6 b ps) := show PagesAt _ _ _ from ((HPA.out.below HB2.out).below HB3.out).below hbel
  have hg := good_iff.1 hz
  have hM24 : M.frs.length = 24 := hms.len.trans hg.s1
  have hMe : M.ens.length = 4 := (congrArg List.length hms.en).trans hg.s2
  have HML : Hid (_) := hM24
  have HME : Hid (_) := hMe
  have HHAS : Hid (∀ j : Nat, j < 4 -> (M.ens.getD j default).st = 2 -> (M.ens.getD j default).log = tx -> hasB M.frs ((j : Int) + 1) ps = true) := fun j hj h1 h2 =>
    hasB_same hms (told_has hz htold hj HIF.out (by rw [<- hms.en]; exact h1) (by rw [<- hms.en, h2]; exact htx.out))
  have q1 := XB.out.c1
  have ql := XB.out.lt
  rw [hMe] at q1
  clear hg hM24 hMe hz htold hms hbox hbel
  go_upto_region 9 with fail
  clear q1 ql
  go_loopw [82] (fun i wr => ∃ j : Nat, j <= 4 /\ i = .int .i64 j /\ Below W6.heap.size W6 wr) (fun i _ => 4 - (intOf i).toNat)
  case atStart => exact ⟨0, Nat.zero_le _, rfl, Below.refl _ _⟩
  case round =>
    obtain ⟨j, hj, rfl, hbel⟩ := hrel
    have XBR : Hid (MBox 0 wr g1 M) := show MBox _ _ _ _ from XB.out.keep hbel
    by_cases hlt : j < 4
    · have p0 := XBR.out.c0
      have p1 := XBR.out.c1
      have p2 := XBR.out.c2
      have lg1 := XBR.out.lt
      rw [HML.out] at p0
      obtain ⟨eb, eo, hea, x0, x1, x2, x3, x4, x5, x6⟩ := XBR.out.own.at_.enclave (j := j) (by rw [HME.out]; exact hlt)
      rw [HME.out, hea] at p1
      rw [hea]
      have hH := fun w' (hb : Below wr.heap.size wr w') (hh : hasB M.frs ((j : Int) + 1) ps = true) => (has_any M ((j : Int) + 1) b ps c w' (XBR.out.own.below hb).at_ HML.out (by omega) ((HP6.out.below hbel).below hb)).mono (fun e w'' (h : e = .returned (.bool (hasB M.frs ((j : Int) + 1) ps)) /\ Below w'.heap.size w' w'') => (show e = .returned (.bool true) /\ Below wr.heap.size wr w'' from ⟨by rw [<- hh]; exact h.1, hb.trans (h.2.mono hb.size)⟩))
      unfold Mv.val at hH
      rw [HML.out, HME.out, hea] at hH
      have hhas := HHAS.out j hlt
      have lx := lt_of_cell x0
      have hjI : (j : Int) < 4 := by omega
      have hj0 : (0 : Int) <= (j : Int) := by omega
      have hw1 : IntKind.i64.wrap ((j : Int) + 1) = (j : Int) + 1 := by rw [IntKind.wrap_i64]; omega
      generalize M.ens.getD j default = E1 at x0 x1 x2 x3 x4 x5 x6 hhas
      obtain ⟨st, lg, pc', q0, q1, q2, q3⟩ := E1
      dsimp only at x0 x1 x2 x3 x4 x5 x6 hhas
      by_cases hs2 : st = 2
      · by_cases hlg : lg = tx
        · have hh := hhas hs2 hlg
          subst hs2 hlg
          have hH2 := fun w' hb => hH w' hb hh
          have hq : (lg.toList == lg.toList) = true := beq_self_eq_true _
          clear hH hh hhas
          go_wp2_with (go_at_call 34; refine (hH2 _ (by repeat (first | (with_reducible exact Below.refl _ _) | (with_reducible refine Below.drew ?_) | (with_reducible refine below_alloc ?_ _)))).mono ?_; clear hH2; rintro e w9 ⟨rfl, hb9⟩)
          go_roundw
          case rel => exact ⟨j + 1, by omega, by go_num, hbel.trans (hb9.mono hbel.size)⟩
          case measure => simp [intOf]; omega
        · subst hs2
          have hq : (lg.toList == tx.toList) = false := by
            rw [beq_eq_false_iff_ne]; exact fun e => hlg (ByteArray.ext (by rw [ByteArray.toList_eq, ByteArray.toList_eq] at e; exact Array.toList_inj.1 e))
          clear hH hhas hlg
          go_wp2
          go_roundw
          case rel => exact ⟨j + 1, by omega, by go_num, by first | exact below_alloc hbel _ | exact below_drewN (below_alloc hbel _)⟩
          case measure => simp [intOf]; omega
      · have ts : (st == 2) = false := by simpa using hs2
        clear hH hhas hs2
        go_wp2
        go_roundw
        case rel => exact ⟨j + 1, by omega, by go_num, by first | exact below_alloc hbel _ | exact below_drewN (below_alloc hbel _)⟩
        case measure => simp [intOf]; omega
    · have hge : ¬ ((j : Int) < 4) := by omega
      clear hlt
      go_wp2
      go_ret
      exact ⟨rfl, BW6.out.trans (hbel.mono BW6.out.size)⟩

set_option maxRecDepth 100000 in
theorem topMeasured_contract (H : Type) (enc : TypeId × Value -> H) (W : World) (base : Nat) (args : Array Value) (ds gs : List (DataW H)) (before : List MemPlace)
    (hval0 : ∀ (j : Nat) t v, Tryz.f8.params[j]? = some t -> args[j]? = some v -> Value.okWide Tryz.prog W .any base t v)
    (hW : DataW.Whole enc Tryz.prog Tryz.f8.params.toList Rows.topMeasuredSpec.vars false W args.toList ds gs before) (hL : laidMetH Tryz.prog listed W)
    (hsz0 : (DataW.weightsEach Tryz.prog (Tryz.f8.params.toList ++ []) (ds ++ gs)).all (· <= reachBytes) = true) :
    Calls Tryz.prog 8 args W fun e W' => ∃ v, e = .returned v /\ Rows.topMeasuredSpec.post enc Tryz.prog Tryz.f8 false true false false W args v W' := by
  have hval := hval0
  have hsz := hsz0
  have hW' := hW
  obtain ⟨p, q, hA0, hV, rfl, hfz, hnd⟩ := hW
  have hA : DataW.TrodAll enc Tryz.prog W 0 (fun _ => true) true Tryz.f8.params.toList args.toList ds p := hA0
  rw [Tryz.params8] at hA hval hsz
  obtain ⟨v0, vs0, d0, ds0, p0, q0, hargs, rfl, rfl, h0, r0⟩ := trodAll_cons hA
  obtain ⟨v1, vs1, d1, ds1, p1, q1, rfl, rfl, rfl, h1, r1⟩ := trodAll_cons r0
  obtain ⟨v2, vs2, d2, ds2, p2, q2, rfl, rfl, rfl, h2, r2⟩ := trodAll_cons r1
  obtain ⟨v3, vs3, d3, ds3, p3, q3, rfl, rfl, rfl, h3, r3⟩ := trodAll_cons r2
  obtain ⟨v4, vs4, d4, ds4, p4, q4, rfl, rfl, rfl, h4, r4⟩ := trodAll_cons r3
  obtain ⟨v5, vs5, d5, ds5, p5, q5, rfl, rfl, rfl, h5, r5⟩ := trodAll_cons r4
  obtain ⟨rfl, rfl, rfl⟩ := trodAll_nil r5
  obtain rfl : args = #[v0, v1, v2, v3, v4, v5] := by cases args; simp_all
  obtain ⟨rfl, rfl⟩ := trodVars_none hV
  have k0 := h0
  have lt0 : ∀ x ∈ p0, x.block < W.heap.size := by obtain ⟨m, hm⟩ := k0; exact DataW.trod_lt m _ _ _ hm
  obtain ⟨a0, len0, cap0, rfl⟩ := okWide_slice Tryz.underlying59 (hval 0 59 v0 rfl rfl)
  obtain ⟨rs0, hlen0, hmax0, hx0⟩ := open_raws h0
  subst hlen0
  have k1 := h1
  have lt1 : ∀ x ∈ p1, x.block < W.heap.size := by obtain ⟨m, hm⟩ := k1; exact DataW.trod_lt m _ _ _ hm
  obtain ⟨rw1, rfl, hr1⟩ := open_raw (hval 1 61 v1 rfl rfl) h1
  have k2 := h2
  have lt2 : ∀ x ∈ p2, x.block < W.heap.size := by obtain ⟨m, hm⟩ := k2; exact DataW.trod_lt m _ _ _ hm
  obtain ⟨a2, len2, cap2, rfl⟩ := okWide_slice Tryz.underlying59 (hval 2 59 v2 rfl rfl)
  obtain ⟨rs2, hlen2, hmax2, hx2⟩ := open_raws h2
  subst hlen2
  have k3 := h3
  have lt3 : ∀ x ∈ p3, x.block < W.heap.size := by obtain ⟨m, hm⟩ := k3; exact DataW.trod_lt m _ _ _ hm
  obtain ⟨a3, len3, cap3, rfl⟩ := okWide_slice Tryz.underlying59 (hval 3 59 v3 rfl rfl)
  obtain ⟨rs3, hlen3, hmax3, hx3⟩ := open_raws h3
  subst hlen3
  have k4 := h4
  have lt4 : ∀ x ∈ p4, x.block < W.heap.size := by obtain ⟨m, hm⟩ := k4; exact DataW.trod_lt m _ _ _ hm
  obtain ⟨x4, rfl, rfl, rfl, wx4⟩ := open_int Tryz.underlying3 (hval 4 3 v4 rfl rfl) h4
  have k5 := h5
  have lt5 : ∀ x ∈ p5, x.block < W.heap.size := by obtain ⟨m, hm⟩ := k5; exact DataW.trod_lt m _ _ _ hm
  obtain ⟨x5, rfl, rfl, rfl, wx5⟩ := open_int Tryz.underlying3 (hval 5 3 v5 rfl rfl) h5
  clear hA0 hval0
  refine (topMeasured_walk a0 rs0 cap0 rw1 a2 rs2 cap2 a3 rs3 cap3 x4 x5 W hmax0 hx0 hr1 hmax2 hx2 hmax3 hx3 wx4 wx5 (tab_of hL)).mono fun e W' ⟨he, bel⟩ => ?_
  subst he
  exact ⟨_, rfl, _, _, _, [], _, [], hW', trodAll_mk1 (shut_bool Tryz.underlying4 _), (trodAll_cons_mk (Below.trod laidOut (by kernel_rfl) (of_decide_eq_true (by kernel_rfl)) k0 bel lt0) (trodAll_cons_mk (Below.trod laidOut (by kernel_rfl) (of_decide_eq_true (by kernel_rfl)) k1 bel lt1) (trodAll_cons_mk (Below.trod laidOut (by kernel_rfl) (of_decide_eq_true (by kernel_rfl)) k2 bel lt2) (trodAll_cons_mk (Below.trod laidOut (by kernel_rfl) (of_decide_eq_true (by kernel_rfl)) k3 bel lt3) (trodAll_cons_mk (Below.trod laidOut (by kernel_rfl) (of_decide_eq_true (by kernel_rfl)) k4 bel lt4) (trodAll_cons_mk (Below.trod laidOut (by kernel_rfl) (of_decide_eq_true (by kernel_rfl)) k5 bel lt5) trodAll_mk0)))))), rfl, bel.frame _, fun h => by cases h⟩

theorem topMeasured_laid (os : Os) : laidMet Tryz.prog listed ((laidWorld os).forCall (fun _ _ => 0) ⟨#[], #[.slice none 0 0, .agg #[.int .i64 0, .int .i64 0, .int .i64 0, .int .i64 0], .slice none 0 0, .slice none 0 0, .int .i64 0, .int .i64 0], []⟩).memory :=
  laidMet_of_run' 8 (by kernel_rfl) (by kernel_rfl)
theorem topMeasured_reads (os : Os) {H : Type} (enc : TypeId × Value -> H) : ∃ places, DataW.whole enc Tryz.prog ((laidWorld os).forCall (fun _ _ => 0) ⟨#[], #[.slice none 0 0, .agg #[.int .i64 0, .int .i64 0, .int .i64 0, .int .i64 0], .slice none 0 0, .slice none 0 0, .int .i64 0, .int .i64 0], []⟩).memory Tryz.f8.params.toList Rows.topMeasuredSpec.vars false (#[.slice none 0 0, .agg #[.int .i64 0, .int .i64 0, .int .i64 0, .int .i64 0], .slice none 0 0, .slice none 0 0, .int .i64 0, .int .i64 0] : Array Value).toList 8 = some ([.nil, .agg [.lit (.int .i64 0), .lit (.int .i64 0), .lit (.int .i64 0), .lit (.int .i64 0)], .nil, .nil, .lit (.int .i64 0), .lit (.int .i64 0)], [], places) :=
  ⟨[], by kernel_rfl⟩

set_option maxRecDepth 100000 in
theorem topMeasured_lifted (os : Os) (started : os.Started) (H : Type) (enc : TypeId × Value -> H) (F : Stop.Interp) :
    ReturnsInHanded {} Tryz.checked os 8 .any ((OpenSpec.ofChange Rows.topMeasuredSpec).preRow enc Tryz.prog Tryz.f8 Rows.topMeasuredRow.domain false Rows.topMeasuredRow.laid) (((OpenSpec.ofChange Rows.topMeasuredSpec).at F).post enc Tryz.prog Tryz.f8 false true false false) := by
  obtain ⟨places, hx⟩ := topMeasured_reads os enc
  refine returnsInHanded_of_row (C := Tryz.checked) (s := (OpenSpec.ofChange Rows.topMeasuredSpec)) own started (by kernel_rfl) Tryz.func8
    (witness_row_at (enc := enc) (C := Tryz.checked) false (laidWorld os) #[.slice none 0 0, .agg #[.int .i64 0, .int .i64 0, .int .i64 0, .int .i64 0], .slice none 0 0, .slice none 0 0, .int .i64 0, .int .i64 0] rfl (by kernel_rfl) (by kernel_rfl) (by kernel_rfl)
      (OpenSpec.preRow_of_cond 8 hx (by kernel_rfl) (fun k hk => by cases hk) (by kernel_rfl) (topMeasured_laid os))) ?_
  intro W base args ds gs before hval hW _ hcond hsz hL _ _
  exact topMeasured_contract H enc W base args ds gs before hval hW hL hsz

theorem topMeasured_said : Rows.TopMeasuredSaid :=
  OpenClaim.holds_of_cond 8 Tryz.f8 rfl rfl rfl rfl rfl rfl rfl ⟨rfl, rfl, rfl, rfl, rfl⟩ rfl rfl rfl rfl rfl (by kernel_rfl) Tryz.func8 (by kernel_rfl)
    (of_decide_eq_true (by kernel_rfl)) (by unfold Func.isWrapper; first | (rw [if_pos (by decide +kernel)]; kernel_rfl) | (rw [if_neg (by decide +kernel)]; exact ⟨rfl, rfl⟩))
    (fun os started H enc _ F => by rw [OpenClaim.pre_eq_preRow]; exact topMeasured_lifted os started H enc F)

theorem topMeasured_plain (f : FuncId) (fn : Func) (hf : Tryz.pinned.checked.prog.funcNamed "riddle/riddletop.TopMeasured" = some f) (hfn : Tryz.pinned.checked.prog.funcs[f]? = some fn) :
    false = Tryz.pinned.checked.prog.looks [] /\ ∀ (j : Nat) t, fn.params[j]? = some t -> Tryz.pinned.checked.prog.wantsStandIn t = false := by
  obtain rfl : f = 8 := Option.some.inj ((show Tryz.prog.funcNamed "riddle/riddletop.TopMeasured" = some 8 by kernel_rfl).symm.trans hf) |>.symm
  obtain rfl : fn = Tryz.f8 := (Option.some.inj (Tryz.func8.symm.trans hfn)).symm
  refine ⟨by kernel_rfl, fun j t ht => ?_⟩
  rw [Tryz.params8] at ht
  have hm : t = 59 ∨ t = 61 ∨ t = 3 := by have h := Array.mem_of_getElem? ht; simp at h; rcases h with h | h | h | h <;> simp [h]
  rcases hm with rfl | rfl | rfl
  · exact (show Tryz.prog.wantsStandIn 59 = false by kernel_rfl)
  · exact (show Tryz.prog.wantsStandIn 61 = false by kernel_rfl)
  · exact (show Tryz.prog.wantsStandIn 3 = false by kernel_rfl)

theorem topMeasured_card : Rows.TopMeasuredCardSaid :=
  Claim7.holds_tied_plain_at .later [] _ _ _ _ topMeasured_said (fun _ h => by cases h) (by kernel_rfl) (fun _ h => by cases h) topMeasured_row_tie rfl ⟨rfl, rfl⟩ (by kernel_rfl) rfl topMeasured_plain (by kernel_rfl)
#print axioms topMeasured_card

end Go.Proofs.YtdngbojbpmdegaaGreatDoor
