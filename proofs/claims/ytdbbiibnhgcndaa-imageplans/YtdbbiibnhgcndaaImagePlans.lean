/-
  For every list of pages, enclave and frame, ImagePlans answers true: image.Plan answers what P1.5 says; the arguments read afterwards as before. No condition.
-/
import Derived.Test.YtdbbiibnhgcndaaPlanOf
namespace Go.Proofs.Ytdbbiibnhgcndaa
open Go.ChangeShapes Go.WideShapes Go.ChangeAt Go.RowKit
set_option linter.unusedVariables false

theorem rowA_get : ∀ (l : List Ac) (j i : Nat), j < l.length → i < 7 → (rowA l)[j * 7 + i]? = (l.getD j default).cells[i]?
  | [], j, i, h, _ => by simp at h
  | x :: l, 0, i, _, hi => by
    simp only [rowA, List.flatMap_cons, Nat.zero_mul, Nat.zero_add]
    rw [List.getElem?_append_left (by simp [Ac.cells]; omega)]
    rfl
  | x :: l, j + 1, i, h, hi => by
    simp only [rowA, List.flatMap_cons]
    rw [List.getElem?_append_right (by simp [Ac.cells]; omega)]
    have : (j + 1) * 7 + i - x.cells.length = j * 7 + i := by simp [Ac.cells]; omega
    rw [this]
    have := rowA_get l j i (by simp at h; omega) hi
    simpa [rowA] using this

/-- a list of acts in memory: where it has elements it leads to their cells, seven an act -/
def ActsAt (w : World) (a : Option Addr) (l : List Ac) : Prop := l = [] ∨ ∃ b, a = some ⟨b, 0, none⟩ ∧ ∀ j, j < l.length →
  w.cell? ⟨b, j * 7, none⟩ = some (.int .i64 (l.getD j default).k) ∧ w.cell? ⟨b, j * 7 + 1, none⟩ = some (.int .i64 (l.getD j default).e) ∧ w.cell? ⟨b, j * 7 + 2, none⟩ = some (.int .i64 (l.getD j default).f) ∧
  w.cell? ⟨b, j * 7 + 3, none⟩ = some (.int .i64 (l.getD j default).at_) ∧ w.cell? ⟨b, j * 7 + 4, none⟩ = some (.int .i64 (l.getD j default).r) ∧ w.cell? ⟨b, j * 7 + 5, none⟩ = some (.int .i64 (l.getD j default).n) ∧
  w.cell? ⟨b, j * 7 + 6, none⟩ = some (.int .i64 (l.getD j default).fuel)

theorem owned_acts {w : World} {B : Nat} {v : Value} {l : List Ac} (h : Owns w B v l) : ∃ a cap, v = .slice a l.length cap ∧ ActsAt w a l := by
  rcases h.2 with ⟨hv, h0⟩ | ⟨g, cap, cur, hv, _, hg, hc, _, hs, ht⟩
  · exact ⟨none, 0, by rw [hv, h0], .inl (List.eq_nil_of_length_eq_zero h0)⟩
  · refine ⟨_, cap, hv, .inr ⟨g, rfl, fun j hj => ?_⟩⟩
    have key : ∀ i, i < 7 → w.cell? ⟨g, j * 7 + i, none⟩ = (l.getD j default).cells[i]? := fun i hi => by
      have e := rowA_get l j i hj hi
      rw [← ht, List.getElem?_take_of_lt (by omega)] at e
      simpa [World.cell?, hg] using e
    exact ⟨key 0 (by omega), key 1 (by omega), key 2 (by omega), key 3 (by omega), key 4 (by omega), key 5 (by omega), key 6 (by omega)⟩
theorem ActsAt.below {w w' : World} {a : Option Addr} {l : List Ac} (h : ActsAt w a l) (hb : Below w.heap.size w w') : ActsAt w' a l := by
  rcases h with h | ⟨b, h1, h2⟩
  · exact .inl h
  · refine .inr ⟨b, h1, fun j hj => ?_⟩
    obtain ⟨c0, c1, c2, c3, c4, c5, c6⟩ := h2 j hj
    exact ⟨keep_cell hb c0, keep_cell hb c1, keep_cell hb c2, keep_cell hb c3, keep_cell hb c4, keep_cell hb c5, keep_cell hb c6⟩

set_option maxHeartbeats 2000000 in
theorem sameActs_any (a b : Option Addr) (l : List Ac) (ca cb : Nat) (w : World) (hl : l.length ≤ 1000) (ha : ActsAt w a l) (hb : ActsAt w b l) :
    Calls Try.prog 31 #[.slice a l.length ca, .slice b l.length cb] w fun e w' => e = .returned (.bool true) ∧ ∃ n, w' = w.drewN n := by
  rcases ha with rfl | ⟨ba, rfl, hca⟩
  · go_enter Try.func31, Try.ntmps31
    go_wp2
    refine wp_loop_rounds 1 ?_
    rw [rounds_succ]
    go_wp2
    go_ret
    exact ⟨rfl, 0, rfl⟩
  · rcases hb with rfl | ⟨bb, rfl, hcb⟩
    · go_enter Try.func31, Try.ntmps31
      go_wp2
      refine wp_loop_rounds 1 ?_
      rw [rounds_succ]
      go_wp2
      go_ret
      exact ⟨rfl, 0, rfl⟩
    · go_enter Try.func31, Try.ntmps31
      go_wp2
      go_loopw [5] (fun i wr => ∃ k : Nat, k ≤ l.length ∧ i = .int .i64 k ∧ ∃ n, wr = w.drewN n) (fun i _ => l.length - (intOf i).toNat)
      case atStart => exact ⟨0, Nat.zero_le _, rfl, 0, rfl⟩
      case round =>
        obtain ⟨k, hk, rfl, n, rfl⟩ := hrel
        by_cases hlt : k < l.length
        · obtain ⟨a0, a1, a2, a3, a4, a5, a6⟩ := hca k hlt
          obtain ⟨b0, b1, b2, b3, b4, b5, b6⟩ := hcb k hlt
          generalize l.getD k default = X at a0 a1 a2 a3 a4 a5 a6 b0 b1 b2 b3 b4 b5 b6
          obtain ⟨x0, x1, x2, x3, x4, x5, x6⟩ := X
          dsimp only at a0 a1 a2 a3 a4 a5 a6 b0 b1 b2 b3 b4 b5 b6
          clear hca hcb
          go_wp2
          go_quiet (fail)
          go_wp2
          go_roundw
          case rel => exact ⟨k + 1, by omega, by go_num, _, rfl⟩
          case measure => simp [intOf]; omega
        · have hkl : k = l.length := by omega
          subst hkl
          go_wp2
          go_ret
          exact ⟨rfl, n, rfl⟩

theorem planA_len {ps : List Pg} {e f : Int} : (planA ps e f).length ≤ 1000 := by
  unfold planA
  by_cases h : planE ps e f = 0
  · rw [if_pos h]
    obtain ⟨q1, _, _⟩ := planE_zero h
    have hn := image_len q1
    have h1 := pokeK_len ps f ps.length (image_words q1)
    have h2 := putK_len ps e f ps.length
    unfold planL
    simp only [List.length_append, List.length_cons, List.length_nil]
    omega
  · rw [if_neg h]; simp

theorem plan_any (a : Option Addr) (ps : List Pg) (cap : Nat) (e f : Int) (w : World) (hl : ps.length ≤ maxLen) (hx : PagesAt w a ps) :
    Calls Try.prog 29 #[.slice a ps.length cap, .int .i64 e, .int .i64 f] w fun r w' => ∃ b c, r = .returned (.tuple #[.slice b (planA ps e f).length c, .int .i64 (planE ps e f)]) ∧ ActsAt w' b (planA ps e f) ∧ Below w.heap.size w w' := by
  by_cases h : planE ps e f = 0
  · refine (plan_good a ps cap e f w hl hx h).mono ?_
    rintro r w' ⟨v, rfl, ho, hb⟩
    obtain ⟨b, c, rfl, hA⟩ := owned_acts ho
    exact ⟨b, c, by simp only [planA, if_pos h]; rw [h], by simpa only [planA, if_pos h] using hA, hb⟩
  · refine (plan_bad a ps cap e f w hl hx h).mono ?_
    rintro r w' ⟨rfl, hb⟩
    exact ⟨none, 0, by simp only [planA, if_neg h]; rfl, by simp only [planA, if_neg h]; exact .inl rfl, hb⟩
theorem planOf_any (a : Option Addr) (ps : List Pg) (cap : Nat) (e f : Int) (w : World) (hl : ps.length ≤ maxLen) (hx : PagesAt w a ps) :
    Calls Try.prog 30 #[.slice a ps.length cap, .int .i64 e, .int .i64 f] w fun r w' => ∃ b c, r = .returned (.tuple #[.slice b (planA ps e f).length c, .int .i64 (planE ps e f)]) ∧ ActsAt w' b (planA ps e f) ∧ Below w.heap.size w w' := by
  by_cases h : planE ps e f = 0
  · refine (planOf_good a ps cap e f w hl hx h).mono ?_
    rintro r w' ⟨v, rfl, ho, hb⟩
    obtain ⟨b, c, rfl, hA⟩ := owned_acts ho
    exact ⟨b, c, by simp only [planA, if_pos h]; rw [h], by simpa only [planA, if_pos h] using hA, hb⟩
  · refine (planOf_bad a ps cap e f w hl hx h).mono ?_
    rintro r w' ⟨rfl, hb⟩
    exact ⟨none, 0, by simp only [planA, if_neg h]; rfl, by simp only [planA, if_neg h]; exact .inl rfl, hb⟩

set_option maxHeartbeats 2000000 in
theorem imagePlans_walk (a : Option Addr) (ps : List Pg) (cap : Nat) (e f : Int) (w : World) (hl : ps.length ≤ maxLen) (hx : PagesAt w a ps) :
    Calls Try.prog 7 #[.slice a ps.length cap, .int .i64 e, .int .i64 f] w fun r w' => r = .returned (.bool true) ∧ Below w.heap.size w w' := by
  have h1 := plan_any a ps cap e f w hl hx
  have h2 := fun w' (h : Below w.heap.size w w') => planOf_any a ps cap e f w' hl (hx.below h)
  have h3 : (planA ps e f).length ≤ 1000 := planA_len
  generalize planA ps e f = L at h1 h2 h3
  generalize planE ps e f = z at h1 h2
  clear hl hx
  go_enter Try.func7, Try.ntmps7
  go_wp2_with fail
  refine h1.mono ?_
  rintro r w1 ⟨b1, k1, rfl, hA1, hb1⟩
  go_wp2_with fail
  refine (h2 _ hb1).mono ?_
  rintro r w2 ⟨b2, k2, rfl, hA2, hb2⟩
  have g := sameActs_any b1 b2 L k1 k2 w2 h3 (hA1.below hb2) hA2
  have hb : Below w.heap.size w w2 := hb1.trans (hb2.mono hb1.size)
  clear h1 h2 hA1 hA2
  have hzz : (z == z) = true := by simp
  go_wp2_with (go_at_call 31; go_must (refine g.mono ?_); rintro r w3 ⟨rfl, n, rfl⟩)
  go_ret
  exact ⟨rfl, below_drewN hb n⟩

set_option maxRecDepth 100000 in
theorem imagePlans_lifted (os : Os) (started : os.Started) (H : Type) (enc : TypeId × Value → H) :
    ReturnsInHanded {} Try.checked os 7 .any (Rows.imagePlansSpec.pre6 enc Try.prog Try.f7 Rows.imagePlansRow.domain false) (Rows.imagePlansSpec.post enc Try.prog Try.f7 false true false false) := by
  refine returnsInHanded_of_change (C := Try.checked) own started (by kernel_rfl) Try.func7
    (ChangeSpec.witness6 (enc := enc) (C := Try.checked) false ⟨#[], #[.slice none 0 0, .int .i64 0, .int .i64 0], []⟩ 8 (by kernel_rfl) (by kernel_rfl) (by kernel_rfl) (by kernel_rfl)) ?_
  intro W base args ds gs before hval0 hW hcnd _
  have hval : ∀ (j : Nat) t v, Try.f7.params[j]? = some t → args[j]? = some v → Value.okWide Try.prog W .any base t v := hval0
  have hW' := hW
  obtain ⟨p, q, hA0, hV, rfl, hfz, hnd⟩ := hW
  have hA : DataW.TrodAll enc Try.prog W 0 (fun _ => true) true Try.f7.params.toList args.toList ds p := hA0
  rw [Try.params7] at hA hval
  obtain ⟨v0, vs0, d0, ds0, p0, q0, hargs, rfl, rfl, h0, r0⟩ := trodAll_cons hA
  obtain ⟨v1, vs1, d1, ds1, p1, q1, rfl, rfl, rfl, h1, r1⟩ := trodAll_cons r0
  obtain ⟨v2, vs2, d2, ds2, p2, q2, rfl, rfl, rfl, h2, r2⟩ := trodAll_cons r1
  obtain ⟨rfl, rfl, rfl⟩ := trodAll_nil r2
  obtain rfl : args = #[v0, v1, v2] := by cases args; simp_all
  obtain ⟨rfl, rfl⟩ := trodVars_none hV
  have k0 := h0
  have k1 := h1
  have k2 := h2
  have lt0 : ∀ x ∈ p0, x.block < W.heap.size := by obtain ⟨m, hm⟩ := k0; exact DataW.trod_lt m _ _ _ hm
  have lt1 : ∀ x ∈ p1, x.block < W.heap.size := by obtain ⟨m, hm⟩ := k1; exact DataW.trod_lt m _ _ _ hm
  have lt2 : ∀ x ∈ p2, x.block < W.heap.size := by obtain ⟨m, hm⟩ := k2; exact DataW.trod_lt m _ _ _ hm
  obtain ⟨a0, len0, cap0, rfl⟩ := okWide_slice Try.underlying29 (hval 0 29 v0 rfl rfl)
  obtain ⟨ps, hlen, hmax, hx, _⟩ := open_pages h0
  subst hlen
  obtain ⟨x1, rfl, rfl, rfl, wx1⟩ := open_int Try.underlying3 (hval 1 3 v1 rfl rfl) h1
  obtain ⟨x2, rfl, rfl, rfl, wx2⟩ := open_int Try.underlying3 (hval 2 3 v2 rfl rfl) h2
  clear hA0 hval0
  refine (imagePlans_walk a0 ps cap0 x1 x2 W hmax hx).mono fun e W' ⟨he, bel⟩ => ?_
  subst he
  exact ⟨_, rfl, _, _, _, [], _, [], hW', trodAll_mk1 (shut_bool Try.underlying4 _), (trodAll_cons_mk (Below.trod laidOut (by kernel_rfl) (of_decide_eq_true (by kernel_rfl)) k0 bel lt0) (trodAll_cons_mk (Below.trod laidOut (by kernel_rfl) (of_decide_eq_true (by kernel_rfl)) k1 bel lt1) (trodAll_cons_mk (Below.trod laidOut (by kernel_rfl) (of_decide_eq_true (by kernel_rfl)) k2 bel lt2) trodAll_mk0))), rfl, bel.frame _, fun h => by cases h⟩

theorem imagePlans_holds : Rows.ImagePlansSaid :=
  OpenClaim.holds_of_wide 7 Try.f7 rfl rfl rfl rfl rfl rfl rfl ⟨rfl, rfl, rfl, rfl, rfl⟩ rfl rfl rfl rfl rfl (by kernel_rfl) Try.func7 (by kernel_rfl)
    (of_decide_eq_true (by kernel_rfl)) (by unfold Func.isWrapper; first | (rw [if_pos (by decide +kernel)]; kernel_rfl) | (rw [if_neg (by decide +kernel)]; exact ⟨rfl, rfl⟩))
    (fun os started H enc _ => imagePlans_lifted os started H enc)
#print axioms imagePlans_holds

end Go.Proofs.Ytdbbiibnhgcndaa
