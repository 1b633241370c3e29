/-
  What append answers at a row of ints of its own and so many zeros (own work): a row of its own with the zeros behind; in both cases, room or none. The conditions: the row isn't empty, and there are not more than some thousand ints. What slices.Equal answers at two lists of enclaves, or of quotes, that hold the same (own work): true; nothing that was in memory turns. The condition: the machines' cells are there. What slices.Clone answers at a row of ints, and what the call instruction (riddlekeep) answers at every operation's number (own work): rows of their own. The conditions: the row's cells are there, and there are not more than some thousand ints. What the calls isWord and isEnclave (epc) answer for every enclave: whether it is one that may be. No condition. What slices.IndexFunc and slices.ContainsFunc answer at a list (the mathematics alone): the first element, or whether there is one, of which the function that is handed in answers true. The condition: what that function answers.
-/
import Derived.Test.YtdngbojbpmdegaaGreatDoorJConcatI
import Derived.Lib.AppendZerosOnto
import Derived.Test.YtdngbojbpmdegaaGreatDoorJSameM
import Derived.BigQuiet
import Derived.Test.YtdngbojbpmdegaaGreatDoorJChecks
namespace Go.Proofs.YtdngbojbpmdegaaGreatDoor
open Go.RowKit
set_option maxRecDepth 100000
set_option linter.unusedVariables false

theorem zeros_list (z : Value) (k : Nat) : (Builtin.zeroCells #[z] k).toList = List.replicate k z := by
  unfold Builtin.zeroCells
  apply List.ext_getElem
  · simp
  · intro i h1 h2
    simp [Nat.mod_one]
theorem icells_zeros (k : Nat) : icells (List.replicate k 0) = List.replicate k (.int .i64 0) := by
  induction k with
  | zero => rfl
  | succ k ih => rw [List.replicate_succ, List.replicate_succ, ← ih]; rfl
theorem app_zeros {w w0 : World} {B : Nat} {v : Value} {l : List Int} (hown : OwnsI w B v l) (hb : Below B w0 w) (hB : B ≤ w.heap.size) (hn : l ≠ []) (k : Nat) (hk : 0 < k) (hs : l.length + k ≤ 20000) :
    ∃ v' w', (Builtin.append_ #[30, 3] 30 #[v, .int .i64 k]).run Tryz.prog w = .ok v' w' ∧ OwnsI w' B v' (l ++ List.replicate k 0) ∧ Below B w0 w' ∧ B ≤ w'.heap.size := by
  obtain ⟨i0, hi, hz0, hz1, hz2⟩ := info_parts held_info
  have hl1 : icells (l ++ List.replicate k 0) = icells l ++ List.replicate k (.int .i64 0) := by rw [icells_append, icells_zeros]
  have hlen : (icells (l ++ List.replicate k 0)).length = (l.length + k) * 1 := by rw [icells_len1, List.length_append, List.length_replicate]
  rcases hown.2 with ⟨rfl, h0⟩ | ⟨g, cap, cur, rfl, hbg, hg, hnc, hcm, hcs, htake⟩
  · exact absurd (List.eq_nil_of_length_eq_zero h0) hn
  · have fin : ∀ v' w', OwnsI w' B v' (l ++ List.replicate k 0) → w.grownBy w' (Value.ownBlock (.slice (some ⟨g, 0, none⟩) l.length cap)) → OwnsI w' B v' (l ++ List.replicate k 0) ∧ Below B w0 w' ∧ B ≤ w'.heap.size := fun v' w' h2 h3 =>
      ⟨h2, hb.grown h3 hB (fun k hk => (hown.lt k hk).1), Nat.le_trans hB h3.size⟩
    by_cases hroom : l.length + k ≤ cap
    · have hw : IntKind.i64.wrap (k : Int) = k := by rw [IntKind.wrap_i64]; omega
      have h48i : ¬ (281474976710656 < (k : Int) * (i0.bytes : Int)) := by rw [hz2]; omega
      have hneg : ¬ ((k : Int) < 0) := by omega
      have hk0 : k ≠ 0 := by omega
      have hns : ¬ (k * i0.size = 0) := by rw [hz1]; omega
      have hst := run_storeCells_at Tryz.prog g (l.length * 1) 3 (List.replicate k (Value.int .i64 0)) 0 cur w hg (by simp; omega) (fun v hv => by rw [List.eq_of_mem_replicate hv]; rfl)
      simp only [Nat.add_zero] at hst
      refine ⟨.slice (some ⟨g, 0, none⟩) (l.length + k) cap, w.setRow g (cur.toList.take (l.length * 1) ++ List.replicate k (Value.int .i64 0) ++ cur.toList.drop (l.length * 1 + (List.replicate k (Value.int .i64 0)).length)).toArray, ?_, fin _ _ ?_ ?_⟩
      · rw [← zeros_list] at hst ⊢
        simp only [Nat.mul_one, List.append_assoc, Array.length_toList] at hst
        simp [Builtin.append_, run_underlying Tryz.underlying30, run_underlying Tryz.underlying3, sizeOf, typeInfo, zeroValue, hi, hz0, hz1, asInt, asIntOf, hw, hneg, hk0, h48i, hroom, Value.cells, Addr.add_lit, hst]
      · unfold OwnsI
        rw [List.length_append, List.length_replicate (n := k) (a := (0 : Int)), hl1]
        refine ⟨by rw [← hl1]; exact hlen, .inr ⟨g, cap, _, rfl, hbg, setRow_heap w g cur _ 3 _ hg, hroom, hcm, ?_, ?_⟩⟩
        · simp only [List.size_toArray, List.length_append, List.length_take, List.length_drop, Array.length_toList, List.length_replicate]
          omega
        · rw [htake, ← hl1, ← hlen, hl1]
          exact List.take_left
      · exact ⟨rfl, rfl, rfl, by simp, fun c _ hc => setRow_other w g c _ (fun e => hc (by simp [Value.ownBlock, e]))⟩
    · have holds : ∀ j u, (icells l)[j]? = some u → w.cell? ((⟨g, 0, none⟩ : Addr).add j) = some u := hown.cells (g := g) rfl
      have hge := grownCap_ge w (l.length + k) cap 3
      have hcl : grownCap w (l.length + k) cap 3 ≤ maxLen := grownCap_le_maxLen w (l.length + k) cap 3 (by unfold maxLen; omega)
      have hr := Go.Lib.run_append_grow_zeros (P := Tryz.prog) w 30 3 30 3 i0 _ .i64 .i64 Tryz.underlying30 Tryz.underlying3 hi hz0 (some ⟨g, 0, none⟩) l.length cap (icells l)
        (run_firstCells_some (P := Tryz.prog) w.drew i0.size l.length _ l.length cap (icells l) (by rw [hz1]; exact icells_len1 l) holds) k hk (by rw [hz1]; omega) (by omega) (by omega) (by rw [hz2]; omega) (by rw [hz2]; exact growslice_fits (by omega) (by omega))
      refine ⟨_, _, hr, fin _ _ ?_ ⟨rfl, rfl, rfl, by simp, fun c hc _ => heap_alloc_old w.drew _ hc⟩⟩
      unfold OwnsI
      rw [List.length_append, List.length_replicate (n := k) (a := (0 : Int)), hl1]
      refine ⟨by rw [← hl1]; exact hlen, .inr ⟨w.heap.size, _, _, rfl, hB, heap_alloc_new w.drew _, hge, hcl, ?_, ?_⟩⟩
      · simp only [Array.size_append, List.size_toArray, size_zeroCells, icells_len1]
        simp [Value.cells]
        omega
      · simp only [Array.toList_append, List.append_assoc]
        rw [← List.append_assoc, ← hl1, ← hlen, hl1]
        have : (Builtin.zeroCells (Value.int .i64 0).cells k).toList = List.replicate k (.int .i64 0) := zeros_list _ k
        rw [this]
        exact List.take_left

end Go.Proofs.YtdngbojbpmdegaaGreatDoor

namespace Go.Proofs.YtdngbojbpmdegaaGreatDoor
open Go.RowKit
set_option maxRecDepth 100000
set_option linter.unusedVariables false

end Go.Proofs.YtdngbojbpmdegaaGreatDoor

namespace Go.Proofs.YtdngbojbpmdegaaGreatDoor
open Go.RowKit
set_option maxRecDepth 100000
set_option linter.unusedVariables false

theorem ints_row {w : World} {B : Nat} {v : Value} {l : List Int} (h : OwnsI w B v l) : ∃ a cap, v = .slice a l.length cap ∧ RowsAt w 1 ic a l := by
  rcases h.2 with ⟨hv, h0⟩ | ⟨g, cap, cur, hv, _, hg, _, _, _, h4⟩
  · exact ⟨none, 0, by rw [hv, h0], .inl (List.eq_nil_of_length_eq_zero h0)⟩
  · refine ⟨some ⟨g, 0, none⟩, cap, hv, ?_⟩
    have e : cur = (l.flatMap ic ++ cur.toList.drop (l.length * 1)).toArray := by
      have : (icells l ++ cur.toList.drop (l.length * 1)).toArray = cur := by rw [← h4, List.take_append_drop]
      rw [icf_eq]
      exact this.symm
    rw [e] at hg
    exact rows_of_block (cells := ic) (c := 1) (fun _ => rfl) hg
theorem empty_ownsI (w : World) : OwnsI (w.alloc (.cells #[] 3)) w.heap.size (.slice (some ⟨w.heap.size, 0, none⟩) 0 0) [] :=
  ⟨rfl, .inr ⟨w.heap.size, 0, #[], rfl, Nat.le_refl _, Go.Deep.blk_alloc_new w _, Nat.zero_le _, by unfold maxLen; omega, rfl, by simp [icells]⟩⟩
set_option maxHeartbeats 4000000 in
theorem clone_ints (a : Option Addr) (l : List Int) (cap : Nat) (w : World) (hl : l.length ≤ 10000) (hx : RowsAt w 1 ic a l) :
    Calls Tryz.prog 62 #[.slice a l.length cap] w fun e w' => ∃ v, e = .returned v ∧ OwnsI w' w.heap.size v l ∧ Below w.heap.size w w' := by
  cases a with
  | none =>
    have h0 : l = [] := by
      rcases hx with h | ⟨b, o, h, _⟩
      · exact h
      · cases h
    subst h0
    have he : ∀ w : World, (binOp .eql 30 (.slice none 0 cap) (.slice none 0 0)).run Tryz.prog w = .ok (.bool true) w := fun _ => rfl
    simp only [List.length_nil]
    go_enter Tryz.func62, Tryz.ntmps62
    go_wp2
    go_ret
    exact ⟨_, rfl, World.ownsRow_nil _ _ _ _, Below.refl _ _⟩
  | some ad =>
    have hb1 : Below w.heap.size w (w.alloc (.cells #[] 3)) := (Below.refl _ _).alloc (Nat.le_refl _) _
    obtain ⟨v', w', hrun, hown', hbel', hsz'⟩ := app_ints (empty_ownsI w) hb1 (by simp) (some ad) l cap (RowsAt.below (cells := ic) (fun _ => rfl) hx hb1) (by simp; omega)
    rw [List.nil_append] at hown'
    have HR : Hid (_) := And.intro hown' hbel'
    clear hx hown' hbel' hsz' hb1
    generalize hn : l.length = n at *
    have he : ∀ w : World, (binOp .eql 30 (.slice (some ad) n cap) (.slice none 0 0)).run Tryz.prog w = .ok (.bool false) w := fun _ => rfl
    go_enter Tryz.func62, Tryz.ntmps62
    go_wp2_with (at_builtin; refine wpList_append_eq rfl _ _ 30 rfl _ _ v' rfl rfl hrun ?_)
    go_ret
    exact ⟨_, rfl, HR.out.1, HR.out.2⟩
theorem instr_all (o a b c : Int) (w : World) (ho : 0 ≤ o ∧ o ≤ 15) (ha : 0 ≤ a ∧ a ≤ 3) (hb : 0 ≤ b ∧ b ≤ 3) :
    Calls Tryz.prog 19 #[.int .i64 o, .int .i64 a, .int .i64 b, .int .i64 c] w fun e w' => e = .returned (.slice (some ⟨w.heap.size, 0, none⟩) 2 2) ∧ w.alloc (.cells #[.int .i64 (o + 16 * a + 256 * b), .int .i64 c] 3) = w' := by
  obtain ⟨o1, o2⟩ := ho
  obtain ⟨a1, a2⟩ := ha
  obtain ⟨b1, b2⟩ := hb
  go_enter Tryz.func19, Tryz.ntmps19
  go_wp2
  go_ret
  exact ⟨rfl, rfl⟩
/-- what an instruction lays, as a row -/
theorem instr_row {w : World} {g : Nat} {x y : Int} {t : TypeId} (h : w.heap[g]? = some (.cells #[.int .i64 x, .int .i64 y] t (0, 0))) : RowsAt w 1 ic (some ⟨g, 0, none⟩) [x, y] :=
  rows_of_block (cells := ic) (c := 1) (fun _ => rfl) (rest := []) (by simpa [ic] using h)

end Go.Proofs.YtdngbojbpmdegaaGreatDoor

namespace Go.Proofs.YtdngbojbpmdegaaGreatDoor
open Go.RowKit

theorem isWord_any (n : Int) (w : World) : Calls Tryz.prog 77 #[.int .i64 n] w fun e w' => e = .returned (.bool (inB n 0 65535)) ∧ w = w' := by
  by_cases h1 : 0 ≤ n
  · by_cases h2 : n ≤ 65535
    · rw [inB_true h1 h2]
      go_enter Tryz.func77, Tryz.ntmps77
      go_wp2
      go_ret
      exact ⟨rfl, rfl⟩
    · rw [inB_high h2]
      go_enter Tryz.func77, Tryz.ntmps77
      go_wp2
      go_ret
      exact ⟨rfl, rfl⟩
  · rw [inB_low h1]
    go_enter Tryz.func77, Tryz.ntmps77
    go_wp2
    go_ret
    exact ⟨rfl, rfl⟩
theorem noWord2_any (n : Int) (w : World) : Calls Tryz.prog 116 #[.int .i64 n] w fun e w' => e = .returned (.bool (!inB n 0 65535)) ∧ w = w' := by
  have h := isWord_any n w
  generalize inB n 0 65535 = b at h ⊢
  go_enter Tryz.func116, Tryz.ntmps116
  go_wp2_with (go_at_call 77; refine h.mono ?_; rintro e w' ⟨rfl, rfl⟩)
  go_ret
  exact ⟨rfl, rfl⟩

set_option maxHeartbeats 400000 in
theorem index2_any (a : Option Addr) (xs : List Int) (cap : Nat) (w : World) (hl : xs.length ≤ maxLen) (hx : Ints w a xs) :
    Calls Tryz.prog 121 #[.slice a xs.length cap, .func (.func 116) #[] #[]] w fun e w' =>
      ∃ n : Int, e = .returned (.int .i64 n) ∧ (decide (0 ≤ n) = !(xs.all fun n => inB n 0 65535)) ∧ w = w' := by
  unfold maxLen at hl
  rcases hx with rfl | ⟨b, off, rfl, hc⟩
  · go_enter Tryz.func121, Tryz.ntmps121
    go_wp2
    refine wp_loop_rounds 1 ?_
    rw [rounds_succ]
    go_wp2
    go_ret
    exact ⟨_, rfl, rfl, rfl⟩
  · go_enter Tryz.func121, Tryz.ntmps121
    go_wp2
    go_loop [8] (fun i => ∃ k : Nat, k ≤ xs.length ∧ i = .int .i64 k ∧ Hid (∀ j, j < k → inB (xs.getD j 0) 0 65535 = true)) (fun i => xs.length - (intOf i).toNat)
    case atStart => exact ⟨0, Nat.zero_le _, rfl, fun j hj => absurd hj (by omega)⟩
    case round =>
      obtain ⟨k, hk, rfl, hid⟩ := hrel
      by_cases hlt : k < xs.length
      · have hck := hc k hlt
        obtain ⟨z, hz⟩ : ∃ z, xs.getD k 0 = z := ⟨_, rfl⟩
        rw [hz] at hck
        clear hc
        cases hg : inB z 0 65535 with
        | true =>
          have HG : Hid (inB (xs.getD k 0) 0 65535 = true) := by rw [hz]; exact hg
          clear hz
          go_wp2_with (go_at_call 116; refine (noWord2_any _ _).mono ?_; rintro e w' ⟨rfl, rfl⟩)
          go_round
          case rel => exact ⟨k + 1, by omega, by go_num, hid_snoc hid HG.out⟩
          case measure => simp [intOf]; omega
        | false =>
          have HG : Hid (inB (xs.getD k 0) 0 65535 = false) := by rw [hz]; exact hg
          clear hz
          go_wp2_with (go_at_call 116; refine (noWord2_any _ _).mono ?_; rintro e w' ⟨rfl, rfl⟩)
          go_ret
          exact ⟨_, rfl, any_of xs k hlt HG.out, rfl⟩
      · have hkl : k = xs.length := by omega
        subst hkl
        go_wp2
        go_ret
        exact ⟨_, rfl, none_of xs hid.out, rfl⟩

theorem contains2_any (a : Option Addr) (xs : List Int) (cap : Nat) (w : World) (hl : xs.length ≤ maxLen) (hx : Ints w a xs) :
    Calls Tryz.prog 85 #[.slice a xs.length cap, .func (.func 116) #[] #[]] w fun e w' =>
      e = .returned (.bool (!(xs.all fun n => inB n 0 65535))) ∧ w = w' := by
  have hI := index2_any a xs cap w hl hx
  clear hx hl
  go_enter Tryz.func85, Tryz.ntmps85
  go_wp2_with (go_at_call 121; refine hI.mono ?_; rintro e w' ⟨n, rfl, hn, rfl⟩)
  go_ret
  exact ⟨ret_bool (by first | exact hn | (rw [← hn])), rfl⟩


/-- may the registers be? -/
def En.words (e : En) : Bool := inB e.g0 0 65535 && inB e.g1 0 65535 && inB e.g2 0 65535 && inB e.g3 0 65535
def En.zeros (e : En) : Bool := (e.g0 == 0) && (e.g1 == 0) && (e.g2 == 0) && (e.g3 == 0)
/-- may the enclave be? -/
def En.good (e : En) : Bool := inB e.st 0 4 && decide (e.log.size ≤ 1000) && ((e.st != 0) || (e.log.size == 0)) && (if e.st = 3 then inB e.pc 0 65535 && e.words else (e.pc == 0) && e.zeros)
theorem words_all (g0 g1 g2 g3 : Int) : ([g0, g1, g2, g3].all fun n => inB n 0 65535) = (inB g0 0 65535 && inB g1 0 65535 && inB g2 0 65535 && inB g3 0 65535) := by
  simp [Bool.and_assoc]
theorem ba_empty {l : ByteArray} (h : l.size = 0) : l = ByteArray.empty := by
  apply ByteArray.ext
  exact Array.eq_empty_of_size_eq_zero h
set_option maxHeartbeats 1600000 in
theorem isEnclave_any (st pc g0 g1 g2 g3 : Int) (lg : ByteArray) (w : World) (hl : lg.size ≤ maxLen) :
    Calls Tryz.prog 75 #[.agg #[.int .i64 st, .string lg, .int .i64 pc, .int .i64 g0, .int .i64 g1, .int .i64 g2, .int .i64 g3]] w fun e w' =>
      e = .returned (.bool (En.good ⟨st, lg, pc, g0, g1, g2, g3⟩)) ∧ Below w.heap.size w w' := by
  have hI := fun (w' : World) (b : Nat) (h : Ints w' (some ⟨b, 3, none⟩) [g0, g1, g2, g3]) => contains2_any (some ⟨b, 3, none⟩) [g0, g1, g2, g3] 4 w' (by unfold maxLen; simp) h
  simp only [words_all] at hI
  have hW := fun w' => isWord_any pc w'
  have B1 : ∀ o, Hid (Below w.heap.size w (w.alloc o)) := fun o => (Below.refl _ _).alloc (Nat.le_refl _) _
  have I1 : Hid (Ints (w.alloc (.cells #[.int .i64 st, .string lg, .int .i64 pc, .int .i64 g0, .int .i64 g1, .int .i64 g2, .int .i64 g3] 58)) (some ⟨w.heap.size, 3, none⟩) [g0, g1, g2, g3]) := by
    refine .inr ⟨_, _, rfl, fun j hj => ?_⟩
    rw [World.cell?_alloc_at _ _ _ _ rfl]
    match j, hj with
    | 0, _ => rfl
    | 1, _ => rfl
    | 2, _ => rfl
    | 3, _ => rfl
  have hR := fun w' => eq_regs 9998 g0 g1 g2 g3 0 0 0 0 w'
  unfold maxLen at hl
  unfold En.good En.words En.zeros
  dsimp only
  by_cases c1 : st < 0
  · rw [inB_low (show ¬ 0 ≤ st by omega)]
    go_enter Tryz.func75, Tryz.ntmps75
    go_wp2
    go_ret
    exact ⟨rfl, (B1 _).out⟩
  by_cases c2 : 4 < st
  · rw [inB_high (show ¬ st ≤ 4 by omega)]
    go_enter Tryz.func75, Tryz.ntmps75
    go_wp2
    go_ret
    exact ⟨rfl, (B1 _).out⟩
  rw [inB_true (show 0 ≤ st by omega) (show st ≤ 4 by omega)]
  by_cases c3 : lg.size ≤ 1000
  · have c3' : ¬ ((1000 : Int) < (lg.size : Int)) := by omega
    rw [decide_eq_true c3]
    by_cases c4 : st = 0
    · subst c4
      by_cases c5 : lg.size = 0
      · obtain rfl := ba_empty c5
        by_cases c6 : pc = 0
        · subst c6
          go_enter Tryz.func75, Tryz.ntmps75
          go_wp2
          go_ret
          exact ⟨ret_bool (by first | rfl | simp), (B1 _).out⟩
        · have c6' : (pc == 0) = false := by simpa using c6
          go_enter Tryz.func75, Tryz.ntmps75
          go_wp2
          go_ret
          exact ⟨ret_bool (by first | rfl | simp [c6]), (B1 _).out⟩
      · have c5' : (lg.size == 0) = false := by simpa using c5
        have c5'' := text_empty c5
        go_enter Tryz.func75, Tryz.ntmps75
        go_wp2
        go_ret
        exact ⟨ret_bool (by first | rfl | simp [c5]), (B1 _).out⟩
    · have c4' : (st == 0) = false := by simpa using c4
      by_cases c7 : st = 3
      · subst c7
        generalize inB pc 0 65535 = q at hW
        generalize (inB g0 0 65535 && inB g1 0 65535 && inB g2 0 65535 && inB g3 0 65535) = qq at hI
        cases q with
        | false =>
          go_enter Tryz.func75, Tryz.ntmps75
          go_wp2_with (go_at_call 77; refine (hW _).mono ?_; rintro e w' ⟨rfl, rfl⟩)
          go_ret
          exact ⟨ret_bool (by first | rfl | simp), (B1 _).out⟩
        | true =>
          go_enter Tryz.func75, Tryz.ntmps75
          go_wp2_with (first | (go_at_call 77; refine (hW _).mono ?_; rintro e w' ⟨rfl, rfl⟩) | (go_at_call 85; refine (hI _ _ I1.out).mono ?_; rintro e w' ⟨rfl, rfl⟩) | fail)
          go_ret
          exact ⟨ret_bool (by first | rfl | simp), (B1 _).out⟩
      · have c7' : (st != 3) = true := by simpa using c7
        rw [if_neg c7]
        by_cases c6 : pc = 0
        · subst c6
          go_enter Tryz.func75, Tryz.ntmps75
          go_wp2
          go_ret
          exact ⟨ret_bool (by first | rfl | simp [c4]), (B1 _).out⟩
        · have c6' : (pc == 0) = false := by simpa using c6
          go_enter Tryz.func75, Tryz.ntmps75
          go_wp2
          go_ret
          exact ⟨ret_bool (by first | rfl | simp [c6]), (B1 _).out⟩
  · have c3' : (1000 : Int) < (lg.size : Int) := by omega
    rw [decide_eq_false c3]
    go_enter Tryz.func75, Tryz.ntmps75
    go_wp2
    go_ret
    exact ⟨ret_bool (by first | rfl | simp), (B1 _).out⟩

end Go.Proofs.YtdngbojbpmdegaaGreatDoor

namespace Go.Proofs.YtdngbojbpmdegaaGreatDoor
open Go.RowKit

/-- the first one, or -1 -/
def idxOf {α : Type} (p : α → Bool) (xs : List α) : Int := match xs.findIdx? p with | some i => i | none => -1
theorem snoc_false {α : Type} [Inhabited α] {p : α → Bool} {xs : List α} {k : Nat} (h : Hid (∀ j, j < k → p (xs.getD j default) = false)) (hg : p (xs.getD k default) = false) :
    Hid (∀ j, j < k + 1 → p (xs.getD j default) = false) := fun j hj => by
  by_cases e : j < k
  · exact h.out j e
  · have : j = k := by omega
    subst this; exact hg
theorem idxOf_at {α : Type} [Inhabited α] {p : α → Bool} {xs : List α} {k : Nat} (hk : k < xs.length) (h : ∀ j, j < k → p (xs.getD j default) = false) (hg : p (xs.getD k default) = true) : idxOf p xs = (k : Int) := by
  have : xs.findIdx? p = some k := by
    rw [List.findIdx?_eq_some_iff_getElem]
    refine ⟨hk, by simpa [List.getD_eq_getElem?_getD, hk] using hg, fun j hj => ?_⟩
    have := h j hj
    simp [List.getD_eq_getElem?_getD, show j < xs.length by omega] at this
    simp [this]
  simp [idxOf, this]
theorem idxOf_none {α : Type} [Inhabited α] {p : α → Bool} {xs : List α} (h : ∀ j, j < xs.length → p (xs.getD j default) = false) : idxOf p xs = -1 := by
  have : xs.findIdx? p = none := by
    rw [List.findIdx?_eq_none_iff]
    intro x hx
    obtain ⟨i, hi, rfl⟩ := List.getElem_of_mem hx
    have := h i hi
    simpa [List.getD_eq_getElem?_getD, hi] using this
  simp [idxOf, this]
theorem idxOf_any {α : Type} (p : α → Bool) (xs : List α) : decide (0 ≤ idxOf p xs) = xs.any p := by
  unfold idxOf
  cases h : xs.findIdx? p with
  | none =>
    rw [List.findIdx?_eq_none_iff] at h
    have : xs.any p = false := by rw [List.any_eq_false]; intro x hx; simp [h x hx]
    simp [this]
  | some i =>
    obtain ⟨hi, hp, _⟩ := List.findIdx?_eq_some_iff_getElem.1 h
    have : xs.any p = true := List.any_eq_true.2 ⟨_, List.getElem_mem hi, hp⟩
    simp [this]

end Go.Proofs.YtdngbojbpmdegaaGreatDoor
