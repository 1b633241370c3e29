/-
  What the call Copy (image) answers for every list of pages: a list in new memory whose pages hold the same; nothing that was in memory turns. The condition: the list and each page's words are within the reach of the form (fewer than 2^47 bytes). What the call Copy (image) answers, said more closely: the new list and each page's words lie in blocks of their own, apart from one another; and what a store into one of them makes of the list. The condition: as Copy's. What samePages (riddlekeep) answers, for every two lists of pages: whether their pages hold the same; nothing that was in memory turns. Of images that are touched (own work): a word, a right or the last page is another one, and the image may still be; but it holds something else. No condition. Lists of acts in memory (own work): a list that the call itself makes, act behind act; the acts that build an image. No condition.
-/
import Derived.Test.YtdngbojbpmdegaaGreatDoorJImageMath
import Derived.Deep.OwnRows
import Derived.Laws.CopyOwn
import Derived.Test.YtdngbojbpmdegaaGreatDoorJTopLog
import Derived.Test.YtdngbojbpmdegaaGreatDoorJAc
import Derived.Deep.Heap
namespace Go.Proofs.YtdngbojbpmdegaaGreatDoor
open Go.RowKit

/-- two pages hold the same -/
def Pg.Same (q p : Pg) : Prop := q.at_ = p.at_ ∧ q.r = p.r ∧ q.ws = p.ws
theorem Ints.blocks {w w' : World} {a : Option Addr} {xs : List Int} {B : Nat} (h : Ints w a xs) (ha : ∀ b off s, a = some ⟨b, off, s⟩ → b ≠ B) (hb : ∀ b, b < w.heap.size → b ≠ B → w'.heap[b]? = w.heap[b]?) : Ints w' a xs := by
  rcases h with h | ⟨b, off, h1, h2⟩
  · exact .inl h
  · exact .inr ⟨b, off, h1, fun j hj => (World.cell?_of_block (w := w) (hb b (lt_of_cell (h2 j hj)) (ha b off none h1))).trans (h2 j hj)⟩
theorem Pg.Ok.blocks {w w' : World} {p : Pg} {B : Nat} (h : p.Ok w) (ha : ∀ b off s, p.a = some ⟨b, off, s⟩ → b ≠ B) (hb : ∀ b, b < w.heap.size → b ≠ B → w'.heap[b]? = w.heap[b]?) : p.Ok w' :=
  ⟨h.wat, h.wr, h.len, h.ints.blocks ha hb, h.wws⟩

/-- the words of a page as cells -/
def wcells (ws : List Int) : List Value := ws.map (Value.int .i64)
theorem wcells_get (ws : List Int) (j : Nat) (h : j < ws.length) : (wcells ws)[j]? = some (.int .i64 (ws.getD j 0)) := by
  simp [wcells, h, List.getD_eq_getElem?_getD]

/-- the world behind the stores of a round, ahead of the copying of the words -/
def W7 (wr : World) (B k : Nat) (pat pr : Int) (pa : Option Addr) (pws : List Int) (pcap : Nat) : World :=
  (((((wr.setCell ⟨B, k * 3, none⟩ (.int .i64 pat)).setCell ⟨B, k * 3 + 1, none⟩ (.int .i64 pr)).setCell ⟨B, k * 3 + 2, none⟩ (.slice pa pws.length pcap)).setCell ⟨B, k * 3 + 2, none⟩ (.slice (some ⟨wr.heap.size + 1, 0, none⟩) pws.length pws.length)).alloc
    (.cells #[.int .i64 pat, .int .i64 pr, .slice pa pws.length pcap] 116)).alloc (.cells (madeCells #[.int .i64 0] pws.length) 3)

end Go.Proofs.YtdngbojbpmdegaaGreatDoor

namespace Go.Proofs.YtdngbojbpmdegaaGreatDoor
open Go.RowKit

/-- a list of pages in a block of its own, each page's words in a block of their own -/
structure OwnedP (w : World) (B : Nat) (qs : List Pg) : Prop where
  row : ∃ F, w.rowIs B 116 (qs.length * 3) F ∧ ∀ j, j < qs.length → F (j * 3) = .int .i64 (qs.getD j default).at_ ∧ F (j * 3 + 1) = .int .i64 (qs.getD j default).r ∧ F (j * 3 + 2) = .slice (qs.getD j default).a (qs.getD j default).ws.length (qs.getD j default).cap
  own : ∀ j, j < qs.length → ∃ g, (qs.getD j default).a = some ⟨g, 0, none⟩ ∧ B < g ∧ w.heap[g]? = some (.cells (wcells (qs.getD j default).ws).toArray 3 (0, 0))
  apart : ∀ i j, i < qs.length → j < qs.length → i ≠ j → (qs.getD i default).a ≠ (qs.getD j default).a
  fit : ∀ j, j < qs.length → (Lit.int .i64 (qs.getD j default).at_).wf = true ∧ (Lit.int .i64 (qs.getD j default).r).wf = true ∧ (qs.getD j default).ws.length ≤ maxLen ∧ ∀ n ∈ (qs.getD j default).ws, (Lit.int .i64 n).wf = true

theorem wcells_cell {w : World} {g : Nat} {ws : List Int} (h : w.heap[g]? = some (.cells (wcells ws).toArray 3 (0, 0))) (j : Nat) (hj : j < ws.length) : w.cell? ⟨g, 0 + j, none⟩ = some (.int .i64 (ws.getD j 0)) := by
  have := wcells_get ws j hj
  simp [World.cell?, h, this]
theorem OwnedP.pages {w : World} {B : Nat} {qs : List Pg} (h : OwnedP w B qs) : PagesAt w (some ⟨B, 0, none⟩) qs := by
  obtain ⟨F, hF, hc⟩ := h.row
  refine ⟨.inr ⟨B, 0, rfl, fun j hj => ?_⟩, fun j hj => ?_⟩
  · obtain ⟨s1, s2, s3⟩ := hc j hj
    have r0 := hF.cell (i := j * 3) (by omega)
    have r1 := hF.cell (i := j * 3 + 1) (by omega)
    have r2 := hF.cell (i := j * 3 + 2) (by omega)
    rw [s1] at r0
    rw [s2] at r1
    rw [s3] at r2
    simp only [Nat.zero_add]
    exact ⟨r0, r1, r2⟩
  · obtain ⟨f1, f2, f3, f4⟩ := h.fit j hj
    obtain ⟨g, hg, _, hh⟩ := h.own j hj
    exact ⟨f1, f2, f3, .inr ⟨g, 0, hg, fun i hi => wcells_cell hh i hi⟩, f4⟩

theorem getD_set_eq (qs : List Pg) (j : Nat) (p : Pg) (hj : j < qs.length) : (qs.set j p).getD j default = p := by simp [List.getD_eq_getElem?_getD, hj]
theorem getD_set_ne (qs : List Pg) (i j : Nat) (p : Pg) (h : i ≠ j) : (qs.set j p).getD i default = qs.getD i default := by
  simp [List.getD_eq_getElem?_getD, List.getElem?_set_ne (Ne.symm h)]

/-- a right is another one -/
theorem OwnedP.right {w : World} {B : Nat} {qs : List Pg} (h : OwnedP w B qs) (j : Nat) (hj : j < qs.length) (r : Int) (hr : (Lit.int .i64 r).wf = true) :
    PagesAt (w.setCell ⟨B, j * 3 + 1, none⟩ (.int .i64 r)) (some ⟨B, 0, none⟩) (qs.set j ⟨(qs.getD j default).at_, r, (qs.getD j default).a, (qs.getD j default).ws, (qs.getD j default).cap⟩) := by
  obtain ⟨F, hF, hc⟩ := h.row
  refine OwnedP.pages (B := B) ⟨⟨_, by simpa using hF.set (j * 3 + 1) (.int .i64 r), fun i hi => ?_⟩, fun i hi => ?_, fun i k hi hk hik => ?_, fun i hi => ?_⟩
  · have hi' : i < qs.length := by simpa using hi
    obtain ⟨s1, s2, s3⟩ := hc i hi'
    by_cases e : i = j
    · subst e
      rw [getD_set_eq _ _ _ hj]
      simp [s1, s3]
    · rw [getD_set_ne _ _ _ _ e, if_neg (by omega), if_neg (by omega), if_neg (by omega)]
      exact ⟨s1, s2, s3⟩
  · have hi' : i < qs.length := by simpa using hi
    obtain ⟨g, g1, g2, g3⟩ := h.own i hi'
    have keep : (w.setCell ⟨B, j * 3 + 1, none⟩ (.int .i64 r)).heap[g]? = w.heap[g]? := Go.Deep.blk_setCell_other _ _ _ _ (by simp; omega)
    by_cases e : i = j
    · subst e
      rw [getD_set_eq _ _ _ hj]
      exact ⟨g, g1, g2, keep.trans g3⟩
    · rw [getD_set_ne _ _ _ _ e]
      exact ⟨g, g1, g2, keep.trans g3⟩
  · have hi' : i < qs.length := by simpa using hi
    have hk' : k < qs.length := by simpa using hk
    have key : ∀ x, x < qs.length → ((qs.set j ⟨(qs.getD j default).at_, r, (qs.getD j default).a, (qs.getD j default).ws, (qs.getD j default).cap⟩).getD x default).a = (qs.getD x default).a := fun x hx => by
      by_cases e : x = j
      · subst e; rw [getD_set_eq _ _ _ hj]
      · rw [getD_set_ne _ _ _ _ e]
    rw [key i hi', key k hk']
    exact h.apart i k hi' hk' hik
  · have hi' : i < qs.length := by simpa using hi
    obtain ⟨f1, f2, f3, f4⟩ := h.fit i hi'
    by_cases e : i = j
    · subst e
      rw [getD_set_eq _ _ _ hj]
      exact ⟨f1, hr, f3, f4⟩
    · rw [getD_set_ne _ _ _ _ e]
      exact ⟨f1, f2, f3, f4⟩

theorem wcells_set (ws : List Int) (k : Nat) (x : Int) : ((wcells ws).toArray.setIfInBounds k (.int .i64 x)) = (wcells (ws.set k x)).toArray := by
  apply Array.ext'
  simp [wcells, List.map_set]

/-- a word is another one -/
theorem OwnedP.word {w : World} {B : Nat} {qs : List Pg} (h : OwnedP w B qs) (j : Nat) (hj : j < qs.length) (g : Nat) (hg : (qs.getD j default).a = some ⟨g, 0, none⟩) (k : Nat) (x : Int) (hx : (Lit.int .i64 x).wf = true) :
    PagesAt (w.setCell ⟨g, k, none⟩ (.int .i64 x)) (some ⟨B, 0, none⟩) (qs.set j ⟨(qs.getD j default).at_, (qs.getD j default).r, (qs.getD j default).a, (qs.getD j default).ws.set k x, (qs.getD j default).cap⟩) := by
  obtain ⟨F, hF, hc⟩ := h.row
  obtain ⟨g', e1, e2, e3⟩ := h.own j hj
  have hgg : g' = g := by rw [hg] at e1; simpa using e1.symm
  subst hgg
  refine OwnedP.pages (B := B) ⟨⟨F, by simpa using hF.setOther (a := ⟨g', k, none⟩) (by simp; omega) (.int .i64 x), fun i hi => ?_⟩, fun i hi => ?_, fun i m hi hm him => ?_, fun i hi => ?_⟩
  · have hi' : i < qs.length := by simpa using hi
    obtain ⟨s1, s2, s3⟩ := hc i hi'
    by_cases e : i = j
    · subst e
      rw [getD_set_eq _ _ _ hj]
      exact ⟨s1, s2, by rw [s3]; simp⟩
    · rw [getD_set_ne _ _ _ _ e]
      exact ⟨s1, s2, s3⟩
  · have hi' : i < qs.length := by simpa using hi
    by_cases e : i = j
    · subst e
      rw [getD_set_eq _ _ _ hj]
      refine ⟨g', hg, e2, ?_⟩
      dsimp only
      rw [← wcells_set]
      simp [World.setCell, Array.getElem?_modify, e3]
    · rw [getD_set_ne _ _ _ _ e]
      obtain ⟨u, u1, u2, u3⟩ := h.own i hi'
      refine ⟨u, u1, u2, (Go.Deep.blk_setCell_other _ _ _ _ ?_).trans u3⟩
      have := h.apart i j hi' hj e
      rw [u1, hg] at this
      intro q
      exact this (by simp at q; rw [q])
  · have hi' : i < qs.length := by simpa using hi
    have hm' : m < qs.length := by simpa using hm
    have key : ∀ y, y < qs.length → ((qs.set j ⟨(qs.getD j default).at_, (qs.getD j default).r, (qs.getD j default).a, (qs.getD j default).ws.set k x, (qs.getD j default).cap⟩).getD y default).a = (qs.getD y default).a := fun y hy => by
      by_cases e : y = j
      · subst e; rw [getD_set_eq _ _ _ hj]
      · rw [getD_set_ne _ _ _ _ e]
    rw [key i hi', key m hm']
    exact h.apart i m hi' hm' him
  · have hi' : i < qs.length := by simpa using hi
    obtain ⟨f1, f2, f3, f4⟩ := h.fit i hi'
    by_cases e : i = j
    · subst e
      rw [getD_set_eq _ _ _ hj]
      refine ⟨f1, f2, by simpa using f3, fun n hn => ?_⟩
      rcases List.mem_or_eq_of_mem_set hn with hn | rfl
      · exact f4 n hn
      · exact hx
    · rw [getD_set_ne _ _ _ _ e]
      exact ⟨f1, f2, f3, f4⟩

end Go.Proofs.YtdngbojbpmdegaaGreatDoor

namespace Go.Proofs.YtdngbojbpmdegaaGreatDoor
open Go.RowKit

theorem eq_upto {α : Type} [Inhabited α] {xs ys : List α} (hl : xs.length = ys.length) (d : α) (h : ∀ j, j < xs.length → xs.getD j d = ys.getD j d) : xs = ys := by
  apply List.ext_getElem hl
  intro i h1 h2
  have := h i h1
  simpa [List.getD_eq_getElem?_getD, h1, h2] using this

set_option maxHeartbeats 1000000 in
theorem equal_any (a b : Option Addr) (xs ys : List Int) (ca cb : Nat) (w : World) (hl : xs.length ≤ maxLen) (hl2 : ys.length ≤ maxLen) (ha : Ints w a xs) (hb : Ints w b ys) :
    Calls Tryz.prog 30 #[.slice a xs.length ca, .slice b ys.length cb] w fun e w' => e = .returned (.bool (decide (xs = ys))) ∧ ∃ n, w' = w.drewN n := by
  unfold maxLen at hl hl2
  by_cases hlen : xs.length = ys.length
  · rcases ha with rfl | ⟨ba, oa, rfl, hca⟩
    · have : ys = [] := List.eq_nil_of_length_eq_zero hlen.symm
      subst this
      clear hlen
      go_enter Tryz.func30, Tryz.ntmps30
      go_wp2
      refine wp_loop_rounds 1 ?_
      rw [rounds_succ]
      go_wp2
      go_ret
      exact ⟨rfl, 0, rfl⟩
    · rcases hb with rfl | ⟨bb, ob, rfl, hcb⟩
      · have : xs = [] := List.eq_nil_of_length_eq_zero hlen
        subst this
        clear hlen hca
        go_enter Tryz.func30, Tryz.ntmps30
        go_wp2
        refine wp_loop_rounds 1 ?_
        rw [rounds_succ]
        go_wp2
        go_ret
        exact ⟨rfl, 0, rfl⟩
      · have HLE : Hid (xs.length = ys.length) := hlen
        rw [← hlen]
        have hcb' : ∀ j, j < xs.length → w.cell? ⟨bb, ob + j, none⟩ = some (.int .i64 (ys.getD j 0)) := fun j hj => hcb j (by omega)
        clear hlen hcb hl2
        go_enter Tryz.func30, Tryz.ntmps30
        go_wp2
        go_loopw [13] (fun i wr => ∃ k : Nat, k ≤ xs.length ∧ i = .int .i64 k ∧ Hid (∀ j, j < k → xs.getD j 0 = ys.getD j 0) ∧ ∃ n, wr = w.drewN n) (fun i _ => xs.length - (intOf i).toNat)
        case atStart => exact ⟨0, Nat.zero_le _, rfl, fun j hj => absurd hj (by omega), 0, rfl⟩
        case round =>
          obtain ⟨k, hk, rfl, hid, n, rfl⟩ := hrel
          by_cases hlt : k < xs.length
          · have h1 := hca k hlt
            have h2 := hcb' k hlt
            by_cases he : xs.getD k 0 = ys.getD k 0
            · rw [← he] at h2
              have HN : Hid (∀ j, j < k + 1 → xs.getD j 0 = ys.getD j 0) := fun j hj => by
                by_cases e : j < k
                · exact hid.out j e
                · have : j = k := by omega
                  subst this; exact he
              clear he
              generalize xs.getD k 0 = z at h1 h2
              clear hca hcb'
              go_wp2
              go_quiet (fail)
              go_wp2
              go_roundw
              case rel => exact ⟨k + 1, by omega, by go_num, HN, _, rfl⟩
              case measure => simp [intOf]; omega
            · have HN : Hid (decide (xs = ys) = false) := show decide (xs = ys) = false by
                rw [decide_eq_false_iff_not]; intro e; rw [e] at he; exact he rfl
              have hne : (xs.getD k 0 != ys.getD k 0) = true := by simpa using he
              clear he
              generalize xs.getD k 0 = z at h1 hne
              generalize ys.getD k 0 = y at h2 hne
              clear hca hcb'
              go_wp2
              go_quiet (fail)
              go_wp2
              go_ret
              exact ⟨ret_bool HN.out.symm, _, World.drewN_drewN _ _ _⟩
          · have hkl : k = xs.length := by omega
            subst hkl
            have HN : Hid (decide (xs = ys) = true) := show decide (xs = ys) = true by
              rw [decide_eq_true_iff]; exact eq_upto HLE.out 0 hid.out
            clear hca hcb'
            go_wp2
            go_ret
            exact ⟨ret_bool HN.out.symm, n, rfl⟩
  · have HN : Hid (decide (xs = ys) = false) := show decide (xs = ys) = false by
      rw [decide_eq_false_iff_not]; intro e; rw [e] at hlen; exact hlen rfl
    have hne : ((xs.length : Int) != (ys.length : Int)) = true := by simp; omega
    clear hlen ha hb
    go_enter Tryz.func30, Tryz.ntmps30
    go_wp2
    go_ret
    exact ⟨ret_bool HN.out.symm, 0, rfl⟩

end Go.Proofs.YtdngbojbpmdegaaGreatDoor

namespace Go.Proofs.YtdngbojbpmdegaaGreatDoor
open Go.RowKit

theorem imgF_step {p : Pg} {l : List Pg} {o : Option Int} (h : imgF o (p :: l) = 0) : p.f = 0 ∧ (∀ q, o = some q → ¬ p.at_ ≤ q) ∧ imgF (some p.at_) l = 0 := by
  have hp := imgF_all _ _ h p (by simp)
  refine ⟨hp, fun q hq => ?_, ?_⟩
  · subst hq
    intro e
    simp [imgF, hp, e] at h
  · cases o with
    | none => simpa [imgF, hp] using h
    | some z =>
      by_cases e : p.at_ ≤ z
      · simp [imgF, hp, e] at h
      · simpa [imgF, hp, e] using h
theorem mem_getD {ps : List Pg} {j : Nat} (hj : j < ps.length) : ps.getD j default ∈ ps := by simp [List.getD_eq_getElem?_getD, hj]

end Go.Proofs.YtdngbojbpmdegaaGreatDoor

namespace Go.Proofs.YtdngbojbpmdegaaGreatDoor
open Go.RowKit

/-- the pokes of one page's words -/
def pokeP (f : Int) (ws : List Int) (j : Nat) : List Ac := (List.range j).map fun (i : Nat) => ⟨7, 0, f, (i : Int), 0, ws.getD i 0, 0⟩
/-- the pokes of the first k pages -/
def pokeK (ps : List Pg) (f : Int) (k : Nat) : List Ac := (List.range k).flatMap fun (i : Nat) => pokeP (f + i) (ps.getD i default).ws (ps.getD i default).ws.length
/-- the puts and measures of the first k pages -/
def putK (ps : List Pg) (e f : Int) (k : Nat) : List Ac := (List.range k).flatMap fun (i : Nat) => [⟨2, e, f + i, (ps.getD i default).at_, (ps.getD i default).r, 0, 0⟩, ⟨3, e, 0, (ps.getD i default).at_, 0, 0, 0⟩]
def planL (ps : List Pg) (e f : Int) : List Ac := pokeK ps f ps.length ++ [⟨1, 0, 0, 0, 0, 0, 0⟩] ++ putK ps e f ps.length ++ [⟨4, e, 0, 0, 0, 0, 0⟩]

theorem pokeP_succ (f : Int) (ws : List Int) (j : Nat) : pokeP f ws (j + 1) = pokeP f ws j ++ [⟨7, 0, f, (j : Int), 0, ws.getD j 0, 0⟩] := by
  simp [pokeP, List.range_succ]
theorem pokeK_succ (ps : List Pg) (f : Int) (k : Nat) : pokeK ps f (k + 1) = pokeK ps f k ++ pokeP (f + k) (ps.getD k default).ws (ps.getD k default).ws.length := by
  simp [pokeK, List.range_succ]
theorem putK_succ (ps : List Pg) (e f : Int) (k : Nat) : putK ps e f (k + 1) = putK ps e f k ++ [⟨2, e, f + k, (ps.getD k default).at_, (ps.getD k default).r, 0, 0⟩, ⟨3, e, 0, (ps.getD k default).at_, 0, 0, 0⟩] := by
  simp [putK, List.range_succ]
theorem pokeP_len (f : Int) (ws : List Int) (j : Nat) : (pokeP f ws j).length = j := by simp [pokeP]
theorem pokeK_len (ps : List Pg) (f : Int) : ∀ k, (∀ j, j < k → (ps.getD j default).ws.length = 8) → (pokeK ps f k).length = 8 * k
  | 0, _ => by simp [pokeK]
  | k + 1, h => by
    rw [pokeK_succ, List.length_append, pokeK_len ps f k fun j hj => h j (by omega), pokeP_len, h k (by omega)]
    omega
theorem putK_len (ps : List Pg) (e f : Int) : ∀ k, (putK ps e f k).length = 2 * k
  | 0 => by simp [putK]
  | k + 1 => by rw [putK_succ, List.length_append, putK_len ps e f k]; simp; omega

end Go.Proofs.YtdngbojbpmdegaaGreatDoor
