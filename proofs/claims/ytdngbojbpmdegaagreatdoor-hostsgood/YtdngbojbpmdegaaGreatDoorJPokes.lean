/-
  What samePages (riddlekeep) answers, for every two lists of pages: whether their pages hold the same; nothing that was in memory turns. Of images that are touched (own work): a word, a right or the last page is another one, and the image may still be; but it holds something else. No condition. Lists of acts in memory (own work): a list that the call itself makes, act behind act; the acts that build an image. No condition. An image that is built as it is planned (own work): each act of the plan is done without an error, and the enclave is Ready, measured as it is expected, its pages in the frames that were asked for. The conditions: nothing is wrong with the image, the frames are nobody's and the enclave is the first that is Empty. What the call picked (riddlekeep) answers: a number below many, of each number. The condition: many is from 1 to 1000000. A list of acts that a call has made, as a row that may be read, and what host.Run says of a script without trusts (own work). No condition. What the call pokes (image) answers, for an image that may be: a new list that holds a poke for each word; nothing that was in memory turns.
-/
import Derived.Test.YtdngbojbpmdegaaGreatDoorJCopyOwn
import Derived.Test.YtdngbojbpmdegaaGreatDoorJAc
import Derived.Deep.Heap
import Derived.Test.YtdngbojbpmdegaaGreatDoorJMach
import Derived.Test.YtdngbojbpmdegaaGreatDoorHostRun
namespace Go.Proofs.YtdngbojbpmdegaaGreatDoor
open Go.RowKit

theorem eq_upto {α : Type} [Inhabited α] {xs ys : List α} (hl : xs.length = ys.length) (d : α) (h : ∀ j, j < xs.length → xs.getD j d = ys.getD j d) : xs = ys := by
  apply List.ext_getElem hl
  intro i h1 h2
  have := h i h1
  simpa [List.getD_eq_getElem?_getD, h1, h2] using this

set_option maxHeartbeats 1000000 in
theorem equal_any (a b : Option Addr) (xs ys : List Int) (ca cb : Nat) (w : World) (hl : xs.length ≤ maxLen) (hl2 : ys.length ≤ maxLen) (ha : Ints w a xs) (hb : Ints w b ys) :
    Calls Tryz.prog 30 #[.slice a xs.length ca, .slice b ys.length cb] w fun e w' => e = .returned (.bool (decide (xs = ys))) ∧ ∃ n, w' = w.drewN n := by
  unfold maxLen at hl hl2
  by_cases hlen : xs.length = ys.length
  · rcases ha with rfl | ⟨ba, oa, rfl, hca⟩
    · have : ys = [] := List.eq_nil_of_length_eq_zero hlen.symm
      subst this
      clear hlen
      go_enter Tryz.func30, Tryz.ntmps30
      go_wp2
      refine wp_loop_rounds 1 ?_
      rw [rounds_succ]
      go_wp2
      go_ret
      exact ⟨rfl, 0, rfl⟩
    · rcases hb with rfl | ⟨bb, ob, rfl, hcb⟩
      · have : xs = [] := List.eq_nil_of_length_eq_zero hlen
        subst this
        clear hlen hca
        go_enter Tryz.func30, Tryz.ntmps30
        go_wp2
        refine wp_loop_rounds 1 ?_
        rw [rounds_succ]
        go_wp2
        go_ret
        exact ⟨rfl, 0, rfl⟩
      · have HLE : Hid (xs.length = ys.length) := hlen
        rw [← hlen]
        have hcb' : ∀ j, j < xs.length → w.cell? ⟨bb, ob + j, none⟩ = some (.int .i64 (ys.getD j 0)) := fun j hj => hcb j (by omega)
        clear hlen hcb hl2
        go_enter Tryz.func30, Tryz.ntmps30
        go_wp2
        go_loopw [13] (fun i wr => ∃ k : Nat, k ≤ xs.length ∧ i = .int .i64 k ∧ Hid (∀ j, j < k → xs.getD j 0 = ys.getD j 0) ∧ ∃ n, wr = w.drewN n) (fun i _ => xs.length - (intOf i).toNat)
        case atStart => exact ⟨0, Nat.zero_le _, rfl, fun j hj => absurd hj (by omega), 0, rfl⟩
        case round =>
          obtain ⟨k, hk, rfl, hid, n, rfl⟩ := hrel
          by_cases hlt : k < xs.length
          · have h1 := hca k hlt
            have h2 := hcb' k hlt
            by_cases he : xs.getD k 0 = ys.getD k 0
            · rw [← he] at h2
              have HN : Hid (∀ j, j < k + 1 → xs.getD j 0 = ys.getD j 0) := fun j hj => by
                by_cases e : j < k
                · exact hid.out j e
                · have : j = k := by omega
                  subst this; exact he
              clear he
              generalize xs.getD k 0 = z at h1 h2
              clear hca hcb'
              go_wp2
              go_quiet (fail)
              go_wp2
              go_roundw
              case rel => exact ⟨k + 1, by omega, by go_num, HN, _, rfl⟩
              case measure => simp [intOf]; omega
            · have HN : Hid (decide (xs = ys) = false) := show decide (xs = ys) = false by
                rw [decide_eq_false_iff_not]; intro e; rw [e] at he; exact he rfl
              have hne : (xs.getD k 0 != ys.getD k 0) = true := by simpa using he
              clear he
              generalize xs.getD k 0 = z at h1 hne
              generalize ys.getD k 0 = y at h2 hne
              clear hca hcb'
              go_wp2
              go_quiet (fail)
              go_wp2
              go_ret
              exact ⟨ret_bool HN.out.symm, _, World.drewN_drewN _ _ _⟩
          · have hkl : k = xs.length := by omega
            subst hkl
            have HN : Hid (decide (xs = ys) = true) := show decide (xs = ys) = true by
              rw [decide_eq_true_iff]; exact eq_upto HLE.out 0 hid.out
            clear hca hcb'
            go_wp2
            go_ret
            exact ⟨ret_bool HN.out.symm, n, rfl⟩
  · have HN : Hid (decide (xs = ys) = false) := show decide (xs = ys) = false by
      rw [decide_eq_false_iff_not]; intro e; rw [e] at hlen; exact hlen rfl
    have hne : ((xs.length : Int) != (ys.length : Int)) = true := by simp; omega
    clear hlen ha hb
    go_enter Tryz.func30, Tryz.ntmps30
    go_wp2
    go_ret
    exact ⟨ret_bool HN.out.symm, 0, rfl⟩

end Go.Proofs.YtdngbojbpmdegaaGreatDoor

namespace Go.Proofs.YtdngbojbpmdegaaGreatDoor
open Go.RowKit

theorem mem_getD {ps : List Pg} {j : Nat} (hj : j < ps.length) : ps.getD j default ∈ ps := by simp [List.getD_eq_getElem?_getD, hj]

end Go.Proofs.YtdngbojbpmdegaaGreatDoor

namespace Go.Proofs.YtdngbojbpmdegaaGreatDoor
open Go.RowKit

/-- the pokes of one page's words -/
def pokeP (f : Int) (ws : List Int) (j : Nat) : List Ac := (List.range j).map fun (i : Nat) => ⟨7, 0, f, (i : Int), 0, ws.getD i 0, 0⟩
/-- the pokes of the first k pages -/
def pokeK (ps : List Pg) (f : Int) (k : Nat) : List Ac := (List.range k).flatMap fun (i : Nat) => pokeP (f + i) (ps.getD i default).ws (ps.getD i default).ws.length
/-- the puts and measures of the first k pages -/
def putK (ps : List Pg) (e f : Int) (k : Nat) : List Ac := (List.range k).flatMap fun (i : Nat) => [⟨2, e, f + i, (ps.getD i default).at_, (ps.getD i default).r, 0, 0⟩, ⟨3, e, 0, (ps.getD i default).at_, 0, 0, 0⟩]
def planL (ps : List Pg) (e f : Int) : List Ac := pokeK ps f ps.length ++ [⟨1, 0, 0, 0, 0, 0, 0⟩] ++ putK ps e f ps.length ++ [⟨4, e, 0, 0, 0, 0, 0⟩]

theorem pokeP_succ (f : Int) (ws : List Int) (j : Nat) : pokeP f ws (j + 1) = pokeP f ws j ++ [⟨7, 0, f, (j : Int), 0, ws.getD j 0, 0⟩] := by
  simp [pokeP, List.range_succ]
theorem pokeK_succ (ps : List Pg) (f : Int) (k : Nat) : pokeK ps f (k + 1) = pokeK ps f k ++ pokeP (f + k) (ps.getD k default).ws (ps.getD k default).ws.length := by
  simp [pokeK, List.range_succ]
theorem putK_succ (ps : List Pg) (e f : Int) (k : Nat) : putK ps e f (k + 1) = putK ps e f k ++ [⟨2, e, f + k, (ps.getD k default).at_, (ps.getD k default).r, 0, 0⟩, ⟨3, e, 0, (ps.getD k default).at_, 0, 0, 0⟩] := by
  simp [putK, List.range_succ]
theorem pokeP_len (f : Int) (ws : List Int) (j : Nat) : (pokeP f ws j).length = j := by simp [pokeP]
theorem pokeK_len (ps : List Pg) (f : Int) : ∀ k, (∀ j, j < k → (ps.getD j default).ws.length = 8) → (pokeK ps f k).length = 8 * k
  | 0, _ => by simp [pokeK]
  | k + 1, h => by
    rw [pokeK_succ, List.length_append, pokeK_len ps f k fun j hj => h j (by omega), pokeP_len, h k (by omega)]
    omega
theorem putK_len (ps : List Pg) (e f : Int) : ∀ k, (putK ps e f k).length = 2 * k
  | 0 => by simp [putK]
  | k + 1 => by rw [putK_succ, List.length_append, putK_len ps e f k]; simp; omega

end Go.Proofs.YtdngbojbpmdegaaGreatDoor

namespace Go.Proofs.YtdngbojbpmdegaaGreatDoor
open Go.RowKit

theorem hst_append (s : Hs) (a b : List Ac) : hst s (a ++ b) = hst (hst s a) b := List.foldl_append
theorem hans_append (s : Hs) (a b : List Ac) : hans s (a ++ b) = hans s a ++ hans (hst s a) b := by
  induction a generalizing s with
  | nil => rfl
  | cons x a ih => simp only [List.cons_append, hans, ih]; rfl
/-- acts that turn the machine alone, each done without an error -/
def Steps (M : Mv) (l : List Ac) (M' : Mv) : Prop := ∀ C, hst ⟨M, C⟩ l = ⟨M', C⟩ ∧ ∀ x ∈ hans ⟨M, C⟩ l, x.1 = 0
theorem Steps.nil (M : Mv) : Steps M [] M := fun C => ⟨rfl, fun x hx => by cases hx⟩
theorem Steps.append {M M' M'' : Mv} {a b : List Ac} (h : Steps M a M') (g : Steps M' b M'') : Steps M (a ++ b) M'' := fun C => by
  obtain ⟨h1, h2⟩ := h C
  obtain ⟨g1, g2⟩ := g C
  refine ⟨by rw [hst_append, h1, g1], fun x hx => ?_⟩
  rw [hans_append, h1] at hx
  rcases List.mem_append.1 hx with hx | hx
  · exact h2 x hx
  · exact g2 x hx
theorem Steps.one {M M' : Mv} {x : Ac} (hk : x.k ≠ 10 ∧ x.k ≠ 11) (hc : ∀ C, actC M C x = 0) (hm : ∀ C, actM M C x = M') : Steps M [x] M' := fun C => by
  refine ⟨?_, fun y hy => ?_⟩
  · show (⟨actM M C x, actD M C x⟩ : Hs) = _
    rw [hm C]
    unfold actD
    rw [if_neg hk.1, if_neg hk.2]
  · have : y = (actC M C x, actN M C x) := by simpa [hans] using hy
    rw [this]; exact hc C
theorem take_set {α : Type} (xs old : List α) (d : α) {j : Nat} (h1 : j < xs.length) (h2 : j < old.length) : (xs.take j ++ old.drop j).set j (xs.getD j d) = xs.take (j + 1) ++ old.drop (j + 1) := by
  have e1 : (xs.take j).length = j := by simp; omega
  rw [List.set_append_right _ _ (by omega), e1, Nat.sub_self, List.drop_eq_getElem_cons h2, List.set_cons_zero, List.take_succ_eq_append_getElem h1, List.append_assoc, show xs.getD j d = xs[j] from by simp [List.getD_eq_getElem?_getD, h1]]
  rfl
end Go.Proofs.YtdngbojbpmdegaaGreatDoor

namespace Go.Proofs.YtdngbojbpmdegaaGreatDoor
open Go.RowKit

/-- a number from 0 to many - 1 -/
def pick (n many : Int) : Int := (if n < 0 then -(n + 1) else n) % many
theorem pick_lt (n : Int) {many : Int} (h : 0 < many) : 0 ≤ pick n many ∧ pick n many < many := ⟨Int.emod_nonneg _ (by omega), Int.emod_lt_of_pos _ h⟩

theorem picked_any (n many : Int) (w : World) (hn : (Lit.int .i64 n).wf = true) (h0 : 0 < many) (h1 : many ≤ 1000000) :
    Calls Tryz.prog 17 #[.int .i64 n, .int .i64 many] w fun e w' => e = .returned (.int .i64 (pick n many)) ∧ w = w' := by
  have hb := i64_wf hn
  have hne : ¬ many = 0 := by omega
  by_cases h : n < 0
  · have hp : pick n many = (-(n + 1)) % many := by unfold pick; rw [if_pos h]
    rw [hp]
    have h2 : 0 ≤ -(n + 1) := by omega
    clear hn hp
    go_enter Tryz.func17, Tryz.ntmps17
    go_wp2
    go_ret
    exact ⟨by apply ret_int; rw [← Int.neg_tmod, Int.tmod_eq_emod_of_nonneg h2], rfl⟩
  · have hp : pick n many = n % many := by unfold pick; rw [if_neg h]
    rw [hp]
    have h2 : 0 ≤ n := by omega
    clear hn hp
    go_enter Tryz.func17, Tryz.ntmps17
    go_wp2
    go_ret
    exact ⟨by first | rfl | (apply ret_int; rw [Int.tmod_eq_emod_of_nonneg h2]), rfl⟩

end Go.Proofs.YtdngbojbpmdegaaGreatDoor

namespace Go.Proofs.YtdngbojbpmdegaaGreatDoor
open Go.RowKit
set_option maxRecDepth 100000

theorem acts_row {w : World} {B : Nat} {v : Value} {l : List Ac} (h : Owns w B v l) : ∃ a cap, v = .slice a l.length cap ∧ RowsAt w 7 Ac.cells a l := by
  rcases h.2 with ⟨hv, h0⟩ | ⟨g, cap, cur, hv, _, hg, _, _, _, h4⟩
  · exact ⟨none, 0, by rw [hv, h0], .inl (List.eq_nil_of_length_eq_zero h0)⟩
  · refine ⟨some ⟨g, 0, none⟩, cap, hv, ?_⟩
    have e : cur = (l.flatMap Ac.cells ++ cur.toList.drop (l.length * 7)).toArray := by
      have : (rowA l ++ cur.toList.drop (l.length * 7)).toArray = cur := by rw [← h4, List.take_append_drop]
      exact this.symm
    rw [e] at hg
    exact rows_of_block (cells := Ac.cells) (c := 7) (fun _ => rfl) hg
theorem runF_nil {l : List Ac} (h : l.length ≤ 200) : runF [] l = 0 := by
  unfold runF
  have : chF [] [] = 0 := rfl
  rw [if_pos this, if_neg (by omega)]
theorem plan_len {ps : List Pg} (h : imageF ps = 0) (e f : Int) : (planL ps e f).length ≤ 82 := by
  have h8 := image_len h
  unfold planL
  rw [List.length_append, List.length_append, List.length_append, putK_len, pokeK_len ps f _ (image_words h)]
  simp only [List.length_cons, List.length_nil]
  omega
theorem plan_ok {ps : List Pg} (h : imageF ps = 0) {e f : Int} (he : 0 ≤ e ∧ e ≤ 65535) (hf : 0 ≤ f ∧ f ≤ 1000) : ∀ x ∈ planL ps e f, x.Ok := by
  have h8 := image_len h
  have hpf := imgF_all ps none h
  have wz : (Lit.int .i64 0).wf = true := by decide
  intro x hx
  unfold planL at hx
  simp only [List.mem_append, List.mem_cons, List.not_mem_nil, or_false] at hx
  rcases hx with ((hx | rfl) | hx) | rfl
  · unfold pokeK at hx
    obtain ⟨i, hi, hx⟩ := List.mem_flatMap.1 hx
    have hil : i < ps.length := by simpa using hi
    unfold pokeP at hx
    obtain ⟨j, hj, rfl⟩ := List.mem_map.1 hx
    have hjl : j < (ps.getD i default).ws.length := by simpa using hj
    have hw := mayW_iff.1 (Pg.f_zero (hpf _ (mem_getD hil))).2.2
    have hn := hw.2 _ (getD_mem hjl)
    have := hw.1
    exact ⟨(by decide : (Lit.int .i64 7).wf = true), wz, wf_of (by dsimp only; omega), wf_of (by dsimp only; omega), wz, wf_of (by dsimp only; omega), wz⟩
  · exact ⟨(by decide : (Lit.int .i64 1).wf = true), wz, wz, wz, wz, wz, wz⟩
  · unfold putK at hx
    obtain ⟨i, hi, hx⟩ := List.mem_flatMap.1 hx
    have hil : i < ps.length := by simpa using hi
    obtain ⟨b1, b2, _⟩ := Pg.f_zero (hpf _ (mem_getD hil))
    have b1 := inB_iff.1 b1
    have b2 := inB_iff.1 b2
    simp only [List.mem_cons, List.not_mem_nil, or_false] at hx
    rcases hx with rfl | rfl
    · exact ⟨(by decide : (Lit.int .i64 2).wf = true), wf_of (by dsimp only; omega), wf_of (by dsimp only; omega), wf_of (by dsimp only; omega), wf_of (by dsimp only; omega), wz, wz⟩
    · exact ⟨(by decide : (Lit.int .i64 3).wf = true), wf_of (by dsimp only; omega), wz, wf_of (by dsimp only; omega), wz, wz, wz⟩
  · exact ⟨(by decide : (Lit.int .i64 4).wf = true), wf_of (by dsimp only; omega), wz, wz, wz, wz, wz⟩

end Go.Proofs.YtdngbojbpmdegaaGreatDoor

namespace Go.Proofs.YtdngbojbpmdegaaGreatDoor
open Go.RowKit
set_option maxRecDepth 100000

theorem owns_next {w0 w1 w2 : World} {B : Nat} {v v' : Value} {l new : List Ac} {o : Obj} (hown : Owns w1 B v l) (hown' : w2.ownsRow B 68 7 v' (l.length + new.length) (rowA l ++ rowA new)) (hgrow : (w1.alloc o).grownBy w2 v.ownBlock) (hb : Below B w0 w1) (hB : B ≤ w1.heap.size) :
    Owns w2 B v' (l ++ new) ∧ Below B w0 w2 ∧ B ≤ w2.heap.size := by
  have hs := hgrow.size
  refine ⟨by unfold Owns; rw [List.length_append, rowA_append]; exact hown', (hb.alloc hB o).grown hgrow (by simp; omega) (fun k hk => (hown.lt k hk).1), by simp at hs; omega⟩

theorem new_cells (w : World) (x : Ac) : ∀ j u, (rowA [x])[j]? = some u → (w.alloc (.cells #[.int .i64 x.k, .int .i64 x.e, .int .i64 x.f, .int .i64 x.at_, .int .i64 x.r, .int .i64 x.n, .int .i64 x.fuel] 68)).cell? ((⟨w.heap.size, 0, none⟩ : Addr).add j) = some u := by
  intro j u hj
  rw [add_at, World.cell?_alloc_at _ _ _ _ rfl]
  rw [rowA_one] at hj
  simpa [Ac.cells] using hj

set_option maxHeartbeats 4000000 in
theorem pokes_any (a : Option Addr) (ps : List Pg) (cap : Nat) (f : Int) (w : World) (hl : ps.length ≤ 8) (hx : PagesAt w a ps) (h8 : ∀ j, j < ps.length → (ps.getD j default).ws.length = 8) (hf0 : 0 ≤ f) (hf : f ≤ 24) :
    Calls Tryz.prog 70 #[.slice a ps.length cap, .int .i64 f] w fun e w' => ∃ v, e = .returned v ∧ Owns w' w.heap.size v (pokeK ps f ps.length) ∧ Below w.heap.size w w' := by
  obtain ⟨i0, hi, hz0, hz1, hz2⟩ := info_parts act_info
  have HX : Hid (PagesAt w a ps) := hx
  have H8 : Hid (∀ j, j < ps.length → (ps.getD j default).ws.length = 8) := h8
  clear hx h8
  go_enter Tryz.func70, Tryz.ntmps70
  go_wp2
  go_loopw [5, 12] (fun v i wr => ∃ k : Nat, k ≤ ps.length ∧ i = .int .i64 k ∧ Owns wr w.heap.size v (pokeK ps f k) ∧ Below w.heap.size w wr ∧ w.heap.size ≤ wr.heap.size) (fun _ i _ => ps.length - (intOf i).toNat)
  case atStart => exact ⟨0, Nat.zero_le _, rfl, World.ownsRow_nil _ _ _ _, Below.refl _ _, Nat.le_refl _⟩
  case round =>
    obtain ⟨k, hk, rfl, hown, hbel, hsz⟩ := hrel
    by_cases hlt : k < ps.length
    · have hX := HX.out.below hbel
      rcases HX.out.at_ with rfl | ⟨b, off, rfl, hc⟩
      · simp at hlt
      · obtain ⟨c0, c1, c2⟩ := hX.cells hlt
        have hok := HX.out.ok k hlt
        have hw8 := H8.out k hlt
        have HN : Hid _ := pokeK_succ ps f k
        have hpl : (pokeK ps f k).length = 8 * k := pokeK_len ps f k fun j hj => H8.out j (by omega)
        obtain ⟨P, hP⟩ : ∃ P, ps.getD k default = P := ⟨_, rfl⟩
        rw [hP] at c0 c1 c2 hok hw8 HN
        obtain ⟨pat, pr, pa, pws, pcap⟩ := P
        dsimp only at c0 c1 c2 hw8 HN
        have HI : Hid (Ints w pa pws) := hok.ints
        have HW : Hid (pws.length = 8) := hw8
        rw [hw8] at c2
        clear hP hok hX hw8 hc
        generalize pokeK ps f k = L at hown HN hpl
        go_wp2
        go_loopw [5, 20] (fun v i wr2 => ∃ j : Nat, j ≤ 8 ∧ i = .int .i64 j ∧ Owns wr2 w.heap.size v (L ++ pokeP (f + k) pws j) ∧ Below w.heap.size w wr2 ∧ w.heap.size ≤ wr2.heap.size) (fun _ i _ => 8 - (intOf i).toNat)
        case atStart => exact ⟨0, by omega, rfl, by unfold Owns; simpa [pokeP] using World.ownsRow.alloc hown _, hbel.alloc hsz _, by simp; omega⟩
        case round =>
          obtain ⟨j, hj, rfl, hown2, hbel2, hsz2⟩ := hrel
          clear hown hbel hsz c0 c1 c2
          by_cases hlj : j < 8
          · rcases HI.out.below hbel2 with h0 | ⟨pb, po, rfl, hcw⟩
            · have := HW.out; rw [h0] at this; simp at this
            · have hcj := hcw j (by have := HW.out; omega)
              have HP : Hid _ := pokeP_succ (f + k) pws j
              obtain ⟨z, hz⟩ : ∃ z, pws.getD j 0 = z := ⟨_, rfl⟩
              rw [hz] at hcj HP
              have HLL : Hid ((L ++ pokeP (f + k) pws j).length = 8 * k + j) := show (L ++ pokeP (f + k) pws j).length = 8 * k + j by rw [List.length_append, pokeP_len, hpl]
              have hcells := new_cells wr ⟨7, 0, f + k, j, 0, z, 0⟩
              have HA : Hid (∀ v' w2, w2.ownsRow w.heap.size 68 7 v' ((L ++ pokeP (f + k) pws j).length + 1) (rowA (L ++ pokeP (f + k) pws j) ++ rowA [⟨7, 0, f + k, j, 0, z, 0⟩]) → (wr.alloc (.cells #[.int .i64 7, .int .i64 0, .int .i64 (f + k), .int .i64 j, .int .i64 0, .int .i64 z, .int .i64 0] 68)).grownBy w2 u5.ownBlock →
                  Owns w2 w.heap.size v' (L ++ pokeP (f + k) pws (j + 1)) ∧ Below w.heap.size w w2 ∧ w.heap.size ≤ w2.heap.size) := fun v' w2 g1 g2 => by
                have := owns_next (new := [⟨7, 0, f + k, j, 0, z, 0⟩]) hown2 g1 g2 hbel2 hsz2
                rw [HP.out, ← List.append_assoc]
                exact this
              have hownA := World.ownsRow.alloc hown2 (.cells #[.int .i64 7, .int .i64 0, .int .i64 (f + k), .int .i64 j, .int .i64 0, .int .i64 z, .int .i64 0] 68)
              generalize L ++ pokeP (f + k) pws j = M at hownA HA HLL
              clear hcw hz hown2 HX H8 HN HI HP hbel2
              go_wp2_with (at_builtin; refine wpList_append_own _ rfl _ _ 23 rfl w.heap.size 68 i0 _ 7 56 Tryz.underlying23 hi hz0 hz1 hz2 rfl (by decide) _ _ _ rfl hownA ⟨wr.heap.size, 0, none⟩ 1 1 (rowA [⟨7, 0, f + k, j, 0, z, 0⟩]) rfl rfl hcells (rowA_cells_one _) (by have := HLL.out; unfold maxLen; omega) (by have := HLL.out; omega) (by simp; omega) ?_)
              intro v' w2 g1 g2 _
              have R := HA.out v' w2 g1 g2
              clear HA g1 g2 hownA hcells
              go_wp2
              go_roundw
              case rel => exact ⟨j + 1, by omega, by go_num, R.1, R.2.1, R.2.2⟩
              case measure => simp [intOf]; omega
          · have hj8 : j = 8 := by omega
            subst hj8
            have HN' : Hid (pokeK ps f (k + 1) = L ++ pokeP (f + k) pws 8) := by have := HN.out; rw [HW.out] at this; exact this
            clear HI HN HX H8
            go_wp2
            go_roundw
            case rel => exact ⟨k + 1, by omega, by go_num, by rw [HN'.out]; exact hown2, hbel2, hsz2⟩
            case measure => simp [intOf]; omega
    · have hkl : k = ps.length := by omega
      subst hkl
      clear HX H8
      go_wp2
      go_ret
      exact ⟨_, rfl, hown, hbel⟩

end Go.Proofs.YtdngbojbpmdegaaGreatDoor
