/-
  What the call machine (riddlekeep) answers at words of a program (own work): a machine with three pages as its first enclave, two of them code, the third one empty; and true. The conditions: the words are numbers that a page may hold, and there is one at least. What slices.Concat answers at instructions that were just laid, two or six of them (own work): a row with their words. No condition. A variable that holds a machine of its own in memory, and one that holds an outcome (own work): what a store into them makes of them. No condition beside the cells.
-/
import Derived.Test.YtdngbojbpmdegaaGreatDoorJIdxBase
import Derived.Test.YtdngbojbpmdegaaGreatDoorJFloat
import Derived.Test.YtdngbojbpmdegaaGreatDoorNew
import Derived.Test.YtdngbojbpmdegaaGreatDoorJBuilder
import Derived.Test.YtdngbojbpmdegaaGreatDoorJHostSmall
import Derived.Test.YtdngbojbpmdegaaGreatDoorRunResume
namespace Go.Proofs.YtdngbojbpmdegaaGreatDoor
open Go.RowKit
set_option maxRecDepth 100000
set_option linter.unusedVariables false

def codeL (l : List Int) : List Int := l ++ List.replicate 16 0
/-- what machine answers -/
def MachSaid (l : List Int) (w : World) (y : Ending) (w' : World) : Prop := ∃ M N, y = .returned (.tuple #[Mv.val M, .bool true]) ∧ M.Same N ∧ C3 N ((codeL l).take 8) (((codeL l).drop 8).take 8) [0, 0, 0, 0, 0, 0, 0, 0] ∧ machF N = 0 ∧ (N.ens.getD 0 default).st = 2 ∧ Owned w.heap.size w' M ∧ Below w.heap.size w w'
theorem codeL_len (l : List Int) : (codeL l).length = l.length + 16 := by unfold codeL; rw [List.length_append, List.length_replicate]
theorem codeL_small {l : List Int} (h : Small16 l) : Small16 (codeL l) := small_append h (fun n hn => by rw [List.eq_of_mem_replicate hn]; omega)
theorem mayW_of {xs : List Int} (h : xs.length = 8) (hs : Small16 xs) : mayW xs = true := by
  unfold mayW
  rw [Bool.and_eq_true, beq_iff_eq, List.all_eq_true]
  exact ⟨h, fun n hn => inB_iff.2 (hs n hn)⟩
def macP (l : List Int) (g z c : Nat) : List Pg := [⟨0, 4, some ⟨g, 0, none⟩, (codeL l).take 8, c⟩, ⟨1, 4, some ⟨g, 8, none⟩, ((codeL l).drop 8).take 8, c - 8⟩, ⟨2, 3, some ⟨z, 0, none⟩, [0, 0, 0, 0, 0, 0, 0, 0], 8⟩]
theorem small_take {l : List Int} (h : Small16 l) (k : Nat) : Small16 (l.take k) := fun n hn => h n (List.mem_of_mem_take hn)
theorem small_drop {l : List Int} (h : Small16 l) (k : Nat) : Small16 (l.drop k) := fun n hn => h n (List.mem_of_mem_drop hn)
theorem macP_good {l : List Int} (hs : Small16 l) (g z c : Nat) : imageF (macP l g z c) = 0 := by
  have h1 := codeL_len l
  have m1 : mayW ((codeL l).take 8) = true := mayW_of (by rw [List.length_take]; omega) (small_take (codeL_small hs) 8)
  have m2 : mayW (((codeL l).drop 8).take 8) = true := mayW_of (by rw [List.length_take, List.length_drop]; omega) (small_take (small_drop (codeL_small hs) 8) 8)
  unfold macP imageF imgF Pg.f pageF
  dsimp only
  rw [m1]
  unfold imgF Pg.f pageF
  dsimp only
  rw [m2]
  unfold imgF Pg.f pageF
  rfl
theorem macP_at {w : World} {l : List Int} (hs : Small16 l) {b g z c cz : Nat} {cur : Array Value} {f : Nat × Nat} {t tz : TypeId} (hl : l.length ≤ 1000)
    (hb : w.heap[b]? = some (.cells #[.int .i64 0, .int .i64 4, .slice (some ⟨g, 0, none⟩) 8 c, .int .i64 1, .int .i64 4, .slice (some ⟨g, 8, none⟩) 8 (c - 8), .int .i64 2, .int .i64 3, .slice (some ⟨z, 0, none⟩) 8 8] t (0, 0)))
    (hg : ∀ j, j < 16 → w.cell? ⟨g, j, none⟩ = some (.int .i64 ((codeL l).getD j 0)))
    (hz : w.heap[z]? = some (.cells #[.int .i64 0, .int .i64 0, .int .i64 0, .int .i64 0, .int .i64 0, .int .i64 0, .int .i64 0, .int .i64 0] tz (0, 0))) : PagesAt w (some ⟨b, 0, none⟩) (macP l g z c) := by
  have h1 := codeL_len l
  have l1 : ((codeL l).take 8).length = 8 := by rw [List.length_take]; omega
  have l2 : (((codeL l).drop 8).take 8).length = 8 := by rw [List.length_take, List.length_drop]; omega
  have wfs : ∀ {xs : List Int}, Small16 xs → ∀ n ∈ xs, (Lit.int .i64 n).wf = true := fun h n hn => wf_of (by have := h n hn; omega)
  refine ⟨.inr ⟨b, 0, rfl, fun j hj => ?_⟩, fun j hj => ?_⟩
  · match j, hj with
    | 0, _ => refine ⟨?_, ?_, ?_⟩ <;> simp [World.cell?, hb, macP, l1]
    | 1, _ => refine ⟨?_, ?_, ?_⟩ <;> simp [World.cell?, hb, macP, l2]
    | 2, _ => refine ⟨?_, ?_, ?_⟩ <;> simp [World.cell?, hb, macP]
    | j + 3, hj => simp [macP] at hj; omega
  · match j, hj with
    | 0, _ =>
      refine ⟨(by decide : (Lit.int .i64 0).wf = true), (by decide : (Lit.int .i64 4).wf = true), ?_, .inr ⟨g, 0, rfl, fun i hi => ?_⟩, wfs (small_take (codeL_small hs) 8)⟩
      · show ((codeL l).take 8).length ≤ maxLen
        rw [l1]; unfold maxLen; omega
      · have hi8 : i < 8 := l1 ▸ hi
        show w.cell? ⟨g, 0 + i, none⟩ = some (.int .i64 (((codeL l).take 8).getD i 0))
        rw [Nat.zero_add, hg i (by omega)]
        simp only [List.getD_eq_getElem?_getD, List.getElem?_take_of_lt hi8]
    | 1, _ =>
      refine ⟨(by decide : (Lit.int .i64 1).wf = true), (by decide : (Lit.int .i64 4).wf = true), ?_, .inr ⟨g, 8, rfl, fun i hi => ?_⟩, wfs (small_take (small_drop (codeL_small hs) 8) 8)⟩
      · show (((codeL l).drop 8).take 8).length ≤ maxLen
        rw [l2]; unfold maxLen; omega
      · have hi8 : i < 8 := l2 ▸ hi
        show w.cell? ⟨g, 8 + i, none⟩ = some (.int .i64 ((((codeL l).drop 8).take 8).getD i 0))
        rw [hg (8 + i) (by omega)]
        simp only [List.getD_eq_getElem?_getD, List.getElem?_take_of_lt hi8, List.getElem?_drop]
    | 2, _ =>
      refine ⟨(by decide : (Lit.int .i64 2).wf = true), (by decide : (Lit.int .i64 3).wf = true), ?_, .inr ⟨z, 0, rfl, fun i hi => ?_⟩, fun n hn => ?_⟩
      · show 8 ≤ maxLen
        unfold maxLen; omega
      · have hi8 : i < 8 := hi
        show w.cell? ⟨z, 0 + i, none⟩ = some (.int .i64 (([0, 0, 0, 0, 0, 0, 0, 0] : List Int).getD i 0))
        match i, hi8 with
        | 0, _ | 1, _ | 2, _ | 3, _ | 4, _ | 5, _ | 6, _ | 7, _ => simp [World.cell?, hz]
      · have h : n ∈ ([0, 0, 0, 0, 0, 0, 0, 0] : List Int) := hn
        simp at h
        subst h; decide
    | j + 3, hj => simp [macP] at hj; omega

set_option maxHeartbeats 8000000 in
theorem mach_any (a : Option Addr) (l : List Int) (cap : Nat) (w : World) (hx : RowsAt w 1 ic a l) (h1 : l ≠ []) (hl : l.length ≤ 1000) (hs : Small16 l) (ht : Tab w) :
    Calls Tryz.prog 20 #[.slice a l.length cap] w (MachSaid l w) := by
  unfold MachSaid
  obtain ⟨W2, hW2⟩ : ∃ W2, Hid (W2 = w.alloc (.cells #[.slice none 0 0, .slice none 0 0, .slice none 0 0] 29)) := ⟨_, rfl⟩
  have B2 : Hid (Below w.heap.size w W2) := show Below _ _ _ by rw [hW2.out]; exact (Below.refl _ _).alloc (Nat.le_refl _) _
  have q2 : Hid (W2.heap[w.heap.size]? = some (.cells #[.slice none 0 0, .slice none 0 0, .slice none 0 0] 29 (0, 0))) := show _ = _ by rw [hW2.out]; exact Go.Deep.blk_alloc_new _ _
  have hz2 : Hid (W2.heap.size = w.heap.size + 1) := show _ = _ by rw [hW2.out, World.size_alloc]
  have HT : Hid (Tab w) := ht
  have HS : Hid (Small16 l) := hs
  have HN : Hid (l ≠ [] ∧ l.length ≤ 1000) := ⟨h1, hl⟩
  have hC := clone_ints a l cap W2 (by omega) (RowsAt.below (cells := ic) (fun _ => rfl) hx B2.out)
  clear ht hx hs h1
  generalize hnl : l.length = nl at *
  have HNL : Hid (_) := hnl
  clear hnl
  go_enter Tryz.func20, Tryz.ntmps20
  go_upto_region 1 with fail
  rw [← hW2.out]
  clear hW2
  go_upto_region 2 with (first
    | (go_at_call 62; refine hC.mono ?_; clear hC; rintro e w3 ⟨v, rfl, hown, hb3⟩; obtain ⟨v', w4, hrun, hown4, hb4, hsz4⟩ := app_zeros hown hb3 hb3.size HN.out.1 16 (by omega) (by have := HN.out.2; have := HNL.out; omega); have HO4 : Hid (OwnsI w4 W2.heap.size v' (codeL l)) := hown4; have HB4 : Hid (Below W2.heap.size W2 w4) := hb4; clear hown hb3 hown4 hb4)
    | (at_builtin; refine Lib.wpList_append_run _ rfl _ _ 30 3 rfl _ _ rfl rfl v' w4 hrun ?_; clear hrun))
  obtain ⟨g, c4, cur, rfl, hgB, hgb, hn1, hn2, hcs, htk⟩ : ∃ g cap cur, v' = .slice (some ⟨g, 0, none⟩) (codeL l).length cap ∧ W2.heap.size ≤ g ∧ w4.heap[g]? = some (.cells cur 3 (0, 0)) ∧ (codeL l).length ≤ cap ∧ cap ≤ maxLen ∧ cur.size = cap * 1 ∧ cur.toList.take ((codeL l).length * 1) = icells (codeL l) := by
    rcases HO4.out.2 with ⟨_, h0⟩ | h
    · have := codeL_len l; omega
    · exact h
  have HG4 : Hid (∀ j, j < 16 → w4.cell? ⟨g, j, none⟩ = some (.int .i64 ((codeL l).getD j 0))) := fun j hj => by
    have e := icells_get (codeL l) j (by rw [codeL_len]; omega)
    rw [← htk, List.getElem?_take_of_lt (by rw [codeL_len]; omega)] at e
    simpa [World.cell?, hgb] using e
  have lg4 : Hid (g < w4.heap.size) := (Array.getElem?_eq_some_iff.1 hgb).1
  have hn16 : (16 : Nat) ≤ (codeL l).length := by rw [codeL_len]; omega
  unfold maxLen at hn2
  clear hcs htk hgb HO4
  generalize (codeL l).length = n at *
  have i16 : (16 : Int) ≤ (n : Int) := by omega
  have i8 : (8 : Int) ≤ (c4 : Int) := by omega
  have i16c : (16 : Int) ≤ (c4 : Int) := by omega
  have mk8 := make8
  have nc8 : ¬ c4 = 8 := by omega
  refine wp_region_till [] (fun _ => True) (by kernel_rfl) trivial (fun _ => till_rest (by kernel_rfl) ?_)
  refine any_takeL (i := 0) (v := ?v0) rfl (by kernel_rfl) (by kernel_rfl) (by kernel_rfl) (fun _ _ _ h => h) (Or.inl ⟨by rfl, ?hy0⟩) ?rest0
  case hy0 => (intro w'; go_simp) <;> (with_reducible rfl)
  (try simp only [Act.put, List.setIfInBounds_toArray, List.set_cons_zero, List.set_cons_succ])
  refine any_takeL (i := 1) (v := ?v1) rfl (by kernel_rfl) (by kernel_rfl) (by kernel_rfl) (fun _ _ _ h => h) (Or.inl ⟨by rfl, ?hy1⟩) ?rest1
  case hy1 => (intro w'; go_simp) <;> (with_reducible rfl)
  (try simp only [Act.put, List.setIfInBounds_toArray, List.set_cons_zero, List.set_cons_succ])
  refine any_takeL (i := 2) (v := ?v2) rfl (by kernel_rfl) (by kernel_rfl) (by kernel_rfl) (fun _ _ _ h => h) (Or.inl ⟨by rfl, ?hy2⟩) ?rest2
  case hy2 => (intro w'; go_simp) <;> (with_reducible rfl)
  (try simp only [Act.put, List.setIfInBounds_toArray, List.set_cons_zero, List.set_cons_succ])
  refine any_takeL (i := 3) (v := ?v3) rfl (by kernel_rfl) (by kernel_rfl) (by kernel_rfl) (fun _ _ _ h => h) (Or.inl ⟨by rfl, ?hy3⟩) ?rest3
  case hy3 => (intro w'; go_simp) <;> (with_reducible rfl)
  (try simp only [Act.put, List.setIfInBounds_toArray, List.set_cons_zero, List.set_cons_succ])
  refine any_takeL (i := 4) (v := ?v4) rfl (by kernel_rfl) (by kernel_rfl) (by kernel_rfl) (fun _ _ _ h => h) (Or.inl ⟨by rfl, ?hy4⟩) ?rest4
  case hy4 => (intro w'; go_simp) <;> (with_reducible rfl)
  (try simp only [Act.put, List.setIfInBounds_toArray, List.set_cons_zero, List.set_cons_succ])
  refine any_takeL (i := 5) (v := ?v5) rfl (by kernel_rfl) (by kernel_rfl) (by kernel_rfl) (fun _ _ _ h => h) (Or.inl ⟨by rfl, ?hy5⟩) ?rest5
  case hy5 => (intro w'; go_simp) <;> (with_reducible rfl)
  (try simp only [Act.put, List.setIfInBounds_toArray, List.set_cons_zero, List.set_cons_succ])
  refine any_oneL (i := 6) rfl (by kernel_rfl) (fun K hK => ?_)
  have HK : Hid (_) := hK
  clear hK
  go_simp
  refine HK.out _ _ ?_
  clear HK
  (try simp only [Act.put, List.setIfInBounds_toArray, List.set_cons_zero, List.set_cons_succ])
  refine any_takeL (i := 7) (v := ?v7) rfl (by kernel_rfl) (by kernel_rfl) (by kernel_rfl) (fun _ _ _ h => h) (Or.inl ⟨by rfl, ?hy7⟩) ?rest7
  case hy7 => (intro w'; go_simp) <;> (with_reducible rfl)
  (try simp only [Act.put, List.setIfInBounds_toArray, List.set_cons_zero, List.set_cons_succ])
  refine any_oneL (i := 8) rfl (by kernel_rfl) (fun K hK => ?_)
  have HK : Hid (_) := hK
  clear hK
  go_simp
  refine HK.out _ _ ?_
  clear HK
  (try simp only [Act.put, List.setIfInBounds_toArray, List.set_cons_zero, List.set_cons_succ])
  obtain ⟨W5, hW5⟩ : ∃ W5, Hid (W5 = ((w4.alloc (.cells (madeCells #[.int .i64 0] 8) 3)).alloc (.cells #[.int .i64 0, .int .i64 4, .slice (some ⟨g, 0, none⟩) 8 c4, .int .i64 1, .int .i64 4, .slice (some ⟨g, 8, none⟩) 8 (c4 - 8), .int .i64 2, .int .i64 3, .slice (some ⟨w4.heap.size, 0, none⟩) 8 8] 116)).drew) := ⟨_, rfl⟩
  rw [← hW5.out]
  obtain ⟨b5, z1, z2⟩ := al2w w4 (.cells (madeCells #[.int .i64 0] 8) 3) (.cells #[.int .i64 0, .int .i64 4, .slice (some ⟨g, 0, none⟩) 8 c4, .int .i64 1, .int .i64 4, .slice (some ⟨g, 8, none⟩) 8 (c4 - 8), .int .i64 2, .int .i64 3, .slice (some ⟨w4.heap.size, 0, none⟩) 8 8] 116)
  have B45 : Hid (Below w4.heap.size w4 W5) := show Below _ _ _ by rw [hW5.out]; exact b5.drew
  have B25 : Hid (Below W2.heap.size W2 W5) := show Below _ _ _ from HB4.out.trans (B45.out.mono HB4.out.size)
  have y1 : W5.heap[w4.heap.size]? = some (.cells #[.int .i64 0, .int .i64 0, .int .i64 0, .int .i64 0, .int .i64 0, .int .i64 0, .int .i64 0, .int .i64 0] 3 (0, 0)) := by
    rw [hW5.out]
    exact (show madeCells #[Value.int .i64 0] 8 = #[.int .i64 0, .int .i64 0, .int .i64 0, .int .i64 0, .int .i64 0, .int .i64 0, .int .i64 0, .int .i64 0] by kernel_rfl) ▸ z1
  have y2 : W5.heap[w4.heap.size + 1]? = some (.cells #[.int .i64 0, .int .i64 4, .slice (some ⟨g, 0, none⟩) 8 c4, .int .i64 1, .int .i64 4, .slice (some ⟨g, 8, none⟩) 8 (c4 - 8), .int .i64 2, .int .i64 3, .slice (some ⟨w4.heap.size, 0, none⟩) 8 8] 116 (0, 0)) := by rw [hW5.out]; exact z2
  have hpa := macP_at (w := W5) (l := l) HS.out (b := w4.heap.size + 1) (g := g) (z := w4.heap.size) (c := c4) (by rw [HNL.out]; exact HN.out.2) (cz := 0) (cur := #[]) (f := (0, 0)) y2 (fun j hj => (B45.out.cell (p := ⟨g, j, none⟩) lg4.out).trans (HG4.out j hj)) y1
  have hB : Calls Tryz.prog 63 #[.slice (some ⟨w4.heap.size + 1, 0, none⟩) 3 3, .int .i64 0] W5 (BuiltSaid 0 (macP l g w4.heap.size c4) W5) := built_ok _ (macP l g w4.heap.size c4) 3 0 W5 hpa (macP_good HS.out _ _ _) (by show 0 + 3 ≤ 24; omega) (HT.out.below (B2.out.trans (B25.out.mono B2.out.size)))
  unfold BuiltSaid at hB
  clear hW5 b5 z1 z2 y1 y2 hpa
  refine any_oneL (i := 9) rfl (by kernel_rfl) (fun K hK => ?_)
  have HK : Hid (_) := hK
  clear hK
  go_simp
  go_at_call 63
  refine hB.mono ?_
  clear hB
  rintro y w6 ⟨M, N, rfl, hS, hP, hTo, hO, hb6⟩
  unfold Mv.val
  have HPN : Hid (_) := And.intro hS (And.intro hP (And.intro hO hb6))
  (try go_simp)
  refine HK.out _ _ ?_
  clear HK hS hP hTo hO hb6
  (try simp only [Act.put, List.setIfInBounds_toArray, List.set_cons_zero, List.set_cons_succ])
  refine any_takeL (i := 10) (v := ?v10) rfl (by kernel_rfl) (by kernel_rfl) (by kernel_rfl) (fun _ _ _ h => h) (Or.inl ⟨by rfl, ?hy10⟩) ?rest10
  case hy10 => (intro w'; go_simp) <;> (with_reducible rfl)
  (try simp only [Act.put, List.setIfInBounds_toArray, List.set_cons_zero, List.set_cons_succ])
  refine any_takeL (i := 11) (v := ?v11) rfl (by kernel_rfl) (by kernel_rfl) (by kernel_rfl) (fun _ _ _ h => h) (Or.inl ⟨by rfl, ?hy11⟩) ?rest11
  case hy11 => (intro w'; go_simp) <;> (with_reducible rfl)
  (try simp only [Act.put, List.setIfInBounds_toArray, List.set_cons_zero, List.set_cons_succ])
  have B26 : Hid (Below W2.heap.size W2 w6) := show Below _ _ _ from B25.out.trans (HPN.out.2.2.2.mono B25.out.size)
  have q6 : w6.heap[w.heap.size]? = some (.cells #[.slice none 0 0, .slice none 0 0, .slice none 0 0] 29 (0, 0)) := (B26.out.block _ (by have := hz2.out; omega)).trans q2.out
  have y0 : w6.cell? ⟨w.heap.size, 0, none⟩ = some (.slice none 0 0) := by simp [World.cell?, q6]
  have y1 : w6.cell? ⟨w.heap.size, 1, none⟩ = some (.slice none 0 0) := by simp [World.cell?, q6]
  have y2 : w6.cell? ⟨w.heap.size, 2, none⟩ = some (.slice none 0 0) := by simp [World.cell?, q6]
  have f0 : w6.frozen? ⟨w.heap.size, 0, none⟩ = false := by simp [World.frozen?, q6]
  have f1 : w6.frozen? ⟨w.heap.size, 1, none⟩ = false := by simp [World.frozen?, q6]
  have f2 : w6.frozen? ⟨w.heap.size, 2, none⟩ = false := by simp [World.frozen?, q6]
  have l6 : w.heap.size < w6.heap.size := lt_of_cell y0
  clear q6
  refine any_oneL (i := 12) rfl (by kernel_rfl) (fun K hK => ?_)
  have HK : Hid (_) := hK
  clear hK
  go_simp
  refine HK.out _ _ ?_
  clear HK
  (try simp only [Act.put, List.setIfInBounds_toArray, List.set_cons_zero, List.set_cons_succ])
  refine any_takeL (i := 13) (v := ?v13) rfl (by kernel_rfl) (by kernel_rfl) (by kernel_rfl) (fun _ _ _ h => h) (Or.inl ⟨by rfl, ?hy13⟩) ?rest13
  case hy13 => (intro w'; go_simp) <;> (with_reducible rfl)
  (try simp only [Act.put, List.setIfInBounds_toArray, List.set_cons_zero, List.set_cons_succ])
  refine wpAny_done (by kernel_rfl) ?_ _
  go_wp2
  refine bp_genR fun V9 hV9 => ?_
  obtain ⟨k0, k1, k2⟩ := blk3' (b := w.heap.size) (v0 := .slice M.fa M.frs.length M.fcap) (v1 := .slice M.ea M.ens.length M.ecap) (v2 := .slice M.qa M.qus.length M.qcap) y0 y1 y2
  rw [← hV9] at k0 k1 k2
  have hh : ∀ c, c ≠ w.heap.size → V9.heap[c]? = w6.heap[c]? := fun c hc => by rw [hV9]; exact blk3_heap' c hc
  have hs9 : V9.heap.size = w6.heap.size := by rw [hV9]; simp [World.setCell]
  have B9 : Below w.heap.size w V9 := by rw [hV9]; exact blk3_below' (B2.out.trans (B26.out.mono B2.out.size)) (by omega)
  have O9 : Owned W5.heap.size V9 M := HPN.out.2.2.1.keep (fun c hc _ => hh c (by have := B25.out.size; have := hz2.out; omega)) (by omega)
  have hg := good_iff.1 HPN.out.2.1.good
  have c3 := planned_c3 HPN.out.2.1 rfl ⟨rfl, rfl⟩ ⟨rfl, rfl⟩ ⟨rfl, rfl⟩
  have hst : (N.ens.getD 0 default).st = 2 := by rw [HPN.out.2.1.ens]; rfl
  clear hV9
  (try simp only [Exit.inBlock, Exit.then])
  refine bodyPost_ret (by simp [results, Tryz.results20, go_sem, k0, k1, k2]; try rfl) rfl ?_
  exact ⟨M, N, rfl, HPN.out.1, c3, HPN.out.2.1.good, hst, O9.mono (by have := B25.out.size; have := hz2.out; omega), B9⟩

end Go.Proofs.YtdngbojbpmdegaaGreatDoor

namespace Go.Proofs.YtdngbojbpmdegaaGreatDoor
open Go.RowKit
set_option maxRecDepth 100000
set_option linter.unusedVariables false

def allocs (os : List Obj) (w : World) : World := os.foldl World.alloc w
theorem allocs_below (os : List Obj) : ∀ (n : Nat) (w0 w : World), Below n w0 w → n ≤ w.heap.size → Below n w0 (allocs os w) := by
  induction os with
  | nil => intro n w0 w h _; exact h
  | cons o os ih => intro n w0 w h hn; exact ih n w0 (w.alloc o) (h.alloc hn o) (by rw [World.size_alloc]; omega)
theorem allocs_at (os : List Obj) : ∀ (w : World) (i : Nat) (o : Obj), os[i]? = some o → (allocs os w).heap[w.heap.size + i]? = some o := by
  induction os with
  | nil => intro w i o h; simp at h
  | cons a os ih =>
    intro w i o h
    show (allocs os (w.alloc a)).heap[w.heap.size + i]? = some o
    cases i with
    | zero =>
      have hb := allocs_below os (w.alloc a).heap.size (w.alloc a) (w.alloc a) (Below.refl _ _) (Nat.le_refl _)
      rw [Nat.add_zero, hb.block _ (by rw [World.size_alloc]; omega), Go.Deep.blk_alloc_new]
      simpa using h
    | succ i =>
      have := ih (w.alloc a) i o (by simpa using h)
      rw [World.size_alloc] at this
      rw [show w.heap.size + (i + 1) = w.heap.size + 1 + i by omega]
      exact this
theorem concat_two (x1 y1 x2 y2 : Int) (w : World) :
    Calls Tryz.prog 18 #[.slice (some ⟨w.heap.size + 1 + 1, 0, none⟩) 2 2] (((w.alloc (.cells #[.int .i64 x1, .int .i64 y1] 3)).alloc (.cells #[.int .i64 x2, .int .i64 y2] 3)).alloc (.cells #[.slice (some ⟨w.heap.size, 0, none⟩) 2 2, .slice (some ⟨w.heap.size + 1, 0, none⟩) 2 2] 30))
      fun e w' => ∃ a cap, e = .returned (.slice a 4 cap) ∧ RowsAt w' 1 ic a [x1, y1, x2, y2] ∧ Below w.heap.size w w' := by
  obtain ⟨W, hW⟩ : ∃ W, W = ((w.alloc (.cells #[.int .i64 x1, .int .i64 y1] 3)).alloc (.cells #[.int .i64 x2, .int .i64 y2] 3)).alloc (.cells #[.slice (some ⟨w.heap.size, 0, none⟩) 2 2, .slice (some ⟨w.heap.size + 1, 0, none⟩) 2 2] 30) := ⟨_, rfl⟩
  have hA : W = allocs [.cells #[.int .i64 x1, .int .i64 y1] 3, .cells #[.int .i64 x2, .int .i64 y2] 3, .cells #[.slice (some ⟨w.heap.size, 0, none⟩) 2 2, .slice (some ⟨w.heap.size + 1, 0, none⟩) 2 2] 30] w := hW
  rw [← hW]
  have b0 : W.heap[w.heap.size]? = _ := hA ▸ allocs_at _ w 0 _ rfl
  have b1 : W.heap[w.heap.size + 1]? = _ := hA ▸ allocs_at _ w 1 _ rfl
  have b2 : W.heap[w.heap.size + 1 + 1]? = _ := hA ▸ allocs_at _ w 2 _ rfl
  have hB : Below w.heap.size w W := hA ▸ allocs_below _ _ _ _ (Below.refl _ _) (Nat.le_refl _)
  have h := concat_ints (some ⟨w.heap.size + 1 + 1, 0, none⟩) [⟨some ⟨w.heap.size, 0, none⟩, [x1, y1], 2⟩, ⟨some ⟨w.heap.size + 1, 0, none⟩, [x2, y2], 2⟩] 2 W (by simp)
    (rows_of_block (cells := PtI.cells) (c := 1) (fun _ => rfl) (rest := []) b2)
    (fun p hp => by
      simp only [List.mem_cons, List.not_mem_nil, or_false] at hp
      rcases hp with rfl | rfl
      · exact instr_row b0
      · exact instr_row b1) (by simp)
  refine Calls.mono (h : Calls _ _ #[.slice _ 2 2] W _) ?_
  rintro e w' ⟨v, rfl, hown, hb⟩
  obtain ⟨a, cap, rfl, hr⟩ := ints_row hown
  exact ⟨a, cap, rfl, hr, hB.trans (hb.mono hB.size)⟩
/-- the same, behind one more block -/
theorem concat_twoX (x0 y0 x1 y1 x2 y2 : Int) (w : World) :
    Calls Tryz.prog 18 #[.slice (some ⟨w.heap.size + 1 + 1 + 1, 0, none⟩) 2 2] ((((w.alloc (.cells #[.int .i64 x0, .int .i64 y0] 3)).alloc (.cells #[.int .i64 x1, .int .i64 y1] 3)).alloc (.cells #[.int .i64 x2, .int .i64 y2] 3)).alloc (.cells #[.slice (some ⟨w.heap.size + 1, 0, none⟩) 2 2, .slice (some ⟨w.heap.size + 1 + 1, 0, none⟩) 2 2] 30))
      fun e w' => ∃ a cap, e = .returned (.slice a 4 cap) ∧ RowsAt w' 1 ic a [x1, y1, x2, y2] ∧ RowsAt w' 1 ic (some ⟨w.heap.size, 0, none⟩) [x0, y0] ∧ Below w.heap.size w w' := by
  have h := concat_two x1 y1 x2 y2 (w.alloc (.cells #[.int .i64 x0, .int .i64 y0] 3))
  rw [World.size_alloc] at h
  refine h.mono ?_
  rintro e w' ⟨a, cap, rfl, hr, hb⟩
  have hz : (w.alloc (.cells #[.int .i64 x0, .int .i64 y0] 3)).heap.size = w.heap.size + 1 := World.size_alloc _ _
  refine ⟨a, cap, rfl, hr, instr_row ((hb.block w.heap.size (by omega)).trans (Go.Deep.blk_alloc_new _ _)), ?_⟩
  exact ((Below.refl w.heap.size w).alloc (Nat.le_refl _) _).trans (hb.mono (by omega))
end Go.Proofs.YtdngbojbpmdegaaGreatDoor

namespace Go.Proofs.YtdngbojbpmdegaaGreatDoor
open Go.RowKit
set_option maxRecDepth 100000
set_option linter.unusedVariables false

/-- a variable that holds a machine of its own -/
structure MBox (n0 : Nat) (w : World) (b : Nat) (M : Mv) : Prop where
  c0 : w.cell? ⟨b, 0, none⟩ = some (.slice M.fa M.frs.length M.fcap)
  c1 : w.cell? ⟨b, 1, none⟩ = some (.slice M.ea M.ens.length M.ecap)
  c2 : w.cell? ⟨b, 2, none⟩ = some (.slice M.qa M.qus.length M.qcap)
  fz : ∀ o, w.frozen? ⟨b, o, none⟩ = false
  lt : b < w.heap.size
  own : Owned n0 w M
  off : ¬ Mine M b
theorem MBox.keepH {n0 : Nat} {w w' : World} {b : Nat} {M : Mv} (h : MBox n0 w b M) (hw : ∀ c, c = b ∨ Mine M c → w'.heap[c]? = w.heap[c]?) (hs : w.heap.size ≤ w'.heap.size) : MBox n0 w' b M := by
  have hc : ∀ o, w'.cell? ⟨b, o, none⟩ = w.cell? ⟨b, o, none⟩ := fun o => World.cell?_of_block (hw b (.inl rfl))
  exact ⟨(hc 0).trans h.c0, (hc 1).trans h.c1, (hc 2).trans h.c2, fun o => (World.frozen?_of_block (hw b (.inl rfl))).trans (h.fz o), Nat.lt_of_lt_of_le h.lt hs, h.own.keepM (fun c hc => hw c (.inr hc)) hs, h.off⟩
theorem MBox.old {n0 : Nat} {w : World} {b : Nat} {M : Mv} (h : MBox n0 w b M) {c : Nat} (hc : c = b ∨ Mine M c) : c < w.heap.size := by
  rcases hc with rfl | hc
  · exact h.lt
  · exact (Mine.fresh h.own hc).2
theorem MBox.keep {n0 : Nat} {w w' : World} {b : Nat} {M : Mv} (h : MBox n0 w b M) (hb : Below w.heap.size w w') : MBox n0 w' b M :=
  h.keepH (fun c hc => hb.block c (h.old hc)) hb.size
theorem MBox.far {n0 : Nat} {w : World} {b : Nat} {M : Mv} (h : MBox n0 w b M) {c : Nat} (hc : ¬ (c = b ∨ Mine M c)) (o : Nat) (v : Value) : MBox n0 (w.setCell ⟨c, o, none⟩ v) b M :=
  h.keepH (fun d hd => set_heap _ _ _ _ _ (fun e => hc (e ▸ hd))) (by simp [World.setCell])
theorem MBox.mono {n0 n1 : Nat} {w : World} {b : Nat} {M : Mv} (h : MBox n0 w b M) (hn : n1 ≤ n0) : MBox n1 w b M := ⟨h.c0, h.c1, h.c2, h.fz, h.lt, h.own.mono hn, h.off⟩
theorem MBox.of_block {n0 : Nat} {w : World} {b : Nat} {M : Mv} {t : TypeId} (hO : Owned n0 w M) (hb : w.heap[b]? = some (.cells #[.slice M.fa M.frs.length M.fcap, .slice M.ea M.ens.length M.ecap, .slice M.qa M.qus.length M.qcap] t (0, 0))) (off : ¬ Mine M b) : MBox n0 w b M :=
  ⟨by simp [World.cell?, hb], by simp [World.cell?, hb], by simp [World.cell?, hb], fun o => by simp [World.frozen?, hb], (Array.getElem?_eq_some_iff.1 hb).1, hO, off⟩
/-- a machine is taken over -/
theorem MBox.putM {n0 n1 : Nat} {w : World} {b : Nat} {M N : Mv} (h : MBox n0 w b M) (hO : Owned n1 w N) (off : ¬ Mine N b) :
    MBox n1 (((w.setCell ⟨b, 0, none⟩ (.slice N.fa N.frs.length N.fcap)).setCell ⟨b, 1, none⟩ (.slice N.ea N.ens.length N.ecap)).setCell ⟨b, 2, none⟩ (.slice N.qa N.qus.length N.qcap)) b N := by
  obtain ⟨k0, k1, k2⟩ := blk3 (v0 := .slice N.fa N.frs.length N.fcap) (v1 := .slice N.ea N.ens.length N.ecap) (v2 := .slice N.qa N.qus.length N.qcap) h.c0 h.c1 h.c2
  have hf : ∀ o, (((w.setCell ⟨b, 0, none⟩ (.slice N.fa N.frs.length N.fcap)).setCell ⟨b, 1, none⟩ (.slice N.ea N.ens.length N.ecap)).setCell ⟨b, 2, none⟩ (.slice N.qa N.qus.length N.qcap)).frozen? ⟨b, o, none⟩ = false := fun o => by rw [World.frozen?_setCell, World.frozen?_setCell, World.frozen?_setCell]; exact h.fz o
  have hh := fun c hc => blk3_heap (w := w) (b := b) (v0 := .slice N.fa N.frs.length N.fcap) (v1 := .slice N.ea N.ens.length N.ecap) (v2 := .slice N.qa N.qus.length N.qcap) c hc
  have hz : (((w.setCell ⟨b, 0, none⟩ (.slice N.fa N.frs.length N.fcap)).setCell ⟨b, 1, none⟩ (.slice N.ea N.ens.length N.ecap)).setCell ⟨b, 2, none⟩ (.slice N.qa N.qus.length N.qcap)).heap.size = w.heap.size := blk3_size
  generalize ((w.setCell ⟨b, 0, none⟩ (.slice N.fa N.frs.length N.fcap)).setCell ⟨b, 1, none⟩ (.slice N.ea N.ens.length N.ecap)).setCell ⟨b, 2, none⟩ (.slice N.qa N.qus.length N.qcap) = V at k0 k1 k2 hf hh hz
  exact ⟨k0, k1, k2, hf, by rw [hz]; exact h.lt, hO.keepM (fun c hc => hh c (fun q => off (q ▸ hc))) (by rw [hz]; exact Nat.le_refl _), off⟩
/-- a variable that holds an outcome -/
structure OBox (w : World) (b : Nat) (nd v : Int) : Prop where
  c0 : w.cell? ⟨b, 0, none⟩ = some (.int .i64 nd)
  c1 : w.cell? ⟨b, 1, none⟩ = some (.int .i64 v)
  fz : ∀ o, w.frozen? ⟨b, o, none⟩ = false
  lt : b < w.heap.size
theorem OBox.keepH {w w' : World} {b : Nat} {nd v : Int} (h : OBox w b nd v) (hw : w'.heap[b]? = w.heap[b]?) (hs : w.heap.size ≤ w'.heap.size) : OBox w' b nd v :=
  ⟨(World.cell?_of_block hw).trans h.c0, (World.cell?_of_block hw).trans h.c1, fun o => (World.frozen?_of_block hw).trans (h.fz o), Nat.lt_of_lt_of_le h.lt hs⟩
theorem OBox.keep {w w' : World} {b : Nat} {nd v : Int} (h : OBox w b nd v) (hb : Below w.heap.size w w') : OBox w' b nd v := h.keepH (hb.block b h.lt) hb.size
theorem OBox.far {w : World} {b : Nat} {nd v : Int} (h : OBox w b nd v) {c : Nat} (hc : c ≠ b) (o : Nat) (x : Value) : OBox (w.setCell ⟨c, o, none⟩ x) b nd v :=
  h.keepH (set_heap _ _ _ _ _ (Ne.symm hc)) (by simp [World.setCell])
theorem OBox.of_block {w : World} {b : Nat} {nd v : Int} {t : TypeId} (hb : w.heap[b]? = some (.cells #[.int .i64 nd, .int .i64 v] t (0, 0))) : OBox w b nd v :=
  ⟨by simp [World.cell?, hb], by simp [World.cell?, hb], fun o => by simp [World.frozen?, hb], (Array.getElem?_eq_some_iff.1 hb).1⟩
theorem OBox.put {w : World} {b : Nat} {nd v : Int} (h : OBox w b nd v) (nd' v' : Int) : OBox ((w.setCell ⟨b, 0, none⟩ (.int .i64 nd')).setCell ⟨b, 1, none⟩ (.int .i64 v')) b nd' v' := by
  have oth : ∀ (V : World) (i j : Nat) (x : Value), i ≠ j → (V.setCell ⟨b, i, none⟩ x).cell? ⟨b, j, none⟩ = V.cell? ⟨b, j, none⟩ := fun V i j x hij => World.cell?_setCell_other _ _ _ _ (by intro q; simp only [Addr.mk.injEq, true_and, and_true] at q; exact hij q)
  exact ⟨(oth _ 1 0 _ (by omega)).trans (World.cell?_setCell_same _ _ _ h.c0), World.cell?_setCell_same _ _ _ ((oth w 0 1 _ (by omega)).trans h.c1), fun o => by rw [World.frozen?_setCell, World.frozen?_setCell]; exact h.fz o, by simp [World.setCell]; exact h.lt⟩
end Go.Proofs.YtdngbojbpmdegaaGreatDoor
