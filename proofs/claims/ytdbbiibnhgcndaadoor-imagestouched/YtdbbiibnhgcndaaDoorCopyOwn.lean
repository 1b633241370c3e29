/-
  What the call Copy (image) answers, said more closely: the new list and each page's words lie in blocks of their own, apart from one another; and what a store into one of them makes of the list. The condition: as Copy's.
-/
import Derived.Test.YtdbbiibnhgcndaaDoorCopy
namespace Go.Proofs.YtdbbiibnhgcndaaDoor
open Go.RowKit

/-- a list of pages in a block of its own, each page's words in a block of their own -/
structure OwnedP (w : World) (B : Nat) (qs : List Pg) : Prop where
  row : ∃ F, w.rowIs B 44 (qs.length * 3) F ∧ ∀ j, j < qs.length → F (j * 3) = .int .i64 (qs.getD j default).at_ ∧ F (j * 3 + 1) = .int .i64 (qs.getD j default).r ∧ F (j * 3 + 2) = .slice (qs.getD j default).a (qs.getD j default).ws.length (qs.getD j default).cap
  own : ∀ j, j < qs.length → ∃ g, (qs.getD j default).a = some ⟨g, 0, none⟩ ∧ B < g ∧ w.heap[g]? = some (.cells (wcells (qs.getD j default).ws).toArray 3 (0, 0))
  apart : ∀ i j, i < qs.length → j < qs.length → i ≠ j → (qs.getD i default).a ≠ (qs.getD j default).a
  fit : ∀ j, j < qs.length → (Lit.int .i64 (qs.getD j default).at_).wf = true ∧ (Lit.int .i64 (qs.getD j default).r).wf = true ∧ (qs.getD j default).ws.length ≤ maxLen ∧ ∀ n ∈ (qs.getD j default).ws, (Lit.int .i64 n).wf = true

theorem wcells_cell {w : World} {g : Nat} {ws : List Int} (h : w.heap[g]? = some (.cells (wcells ws).toArray 3 (0, 0))) (j : Nat) (hj : j < ws.length) : w.cell? ⟨g, 0 + j, none⟩ = some (.int .i64 (ws.getD j 0)) := by
  have := wcells_get ws j hj
  simp [World.cell?, h, this]
theorem OwnedP.pages {w : World} {B : Nat} {qs : List Pg} (h : OwnedP w B qs) : PagesAt w (some ⟨B, 0, none⟩) qs := by
  obtain ⟨F, hF, hc⟩ := h.row
  refine ⟨.inr ⟨B, 0, rfl, fun j hj => ?_⟩, fun j hj => ?_⟩
  · obtain ⟨s1, s2, s3⟩ := hc j hj
    have r0 := hF.cell (i := j * 3) (by omega)
    have r1 := hF.cell (i := j * 3 + 1) (by omega)
    have r2 := hF.cell (i := j * 3 + 2) (by omega)
    rw [s1] at r0
    rw [s2] at r1
    rw [s3] at r2
    simp only [Nat.zero_add]
    exact ⟨r0, r1, r2⟩
  · obtain ⟨f1, f2, f3, f4⟩ := h.fit j hj
    obtain ⟨g, hg, _, hh⟩ := h.own j hj
    exact ⟨f1, f2, f3, .inr ⟨g, 0, hg, fun i hi => wcells_cell hh i hi⟩, f4⟩

theorem getD_set_eq (qs : List Pg) (j : Nat) (p : Pg) (hj : j < qs.length) : (qs.set j p).getD j default = p := by simp [List.getD_eq_getElem?_getD, hj]
theorem getD_set_ne (qs : List Pg) (i j : Nat) (p : Pg) (h : i ≠ j) : (qs.set j p).getD i default = qs.getD i default := by
  simp [List.getD_eq_getElem?_getD, List.getElem?_set_ne (Ne.symm h)]

/-- a right is another one -/
theorem OwnedP.right {w : World} {B : Nat} {qs : List Pg} (h : OwnedP w B qs) (j : Nat) (hj : j < qs.length) (r : Int) (hr : (Lit.int .i64 r).wf = true) :
    PagesAt (w.setCell ⟨B, j * 3 + 1, none⟩ (.int .i64 r)) (some ⟨B, 0, none⟩) (qs.set j ⟨(qs.getD j default).at_, r, (qs.getD j default).a, (qs.getD j default).ws, (qs.getD j default).cap⟩) := by
  obtain ⟨F, hF, hc⟩ := h.row
  refine OwnedP.pages (B := B) ⟨⟨_, by simpa using hF.set (j * 3 + 1) (.int .i64 r), fun i hi => ?_⟩, fun i hi => ?_, fun i k hi hk hik => ?_, fun i hi => ?_⟩
  · have hi' : i < qs.length := by simpa using hi
    obtain ⟨s1, s2, s3⟩ := hc i hi'
    by_cases e : i = j
    · subst e
      rw [getD_set_eq _ _ _ hj]
      simp [s1, s3]
    · rw [getD_set_ne _ _ _ _ e, if_neg (by omega), if_neg (by omega), if_neg (by omega)]
      exact ⟨s1, s2, s3⟩
  · have hi' : i < qs.length := by simpa using hi
    obtain ⟨g, g1, g2, g3⟩ := h.own i hi'
    have keep : (w.setCell ⟨B, j * 3 + 1, none⟩ (.int .i64 r)).heap[g]? = w.heap[g]? := Go.Deep.blk_setCell_other _ _ _ _ (by simp; omega)
    by_cases e : i = j
    · subst e
      rw [getD_set_eq _ _ _ hj]
      exact ⟨g, g1, g2, keep.trans g3⟩
    · rw [getD_set_ne _ _ _ _ e]
      exact ⟨g, g1, g2, keep.trans g3⟩
  · have hi' : i < qs.length := by simpa using hi
    have hk' : k < qs.length := by simpa using hk
    have key : ∀ x, x < qs.length → ((qs.set j ⟨(qs.getD j default).at_, r, (qs.getD j default).a, (qs.getD j default).ws, (qs.getD j default).cap⟩).getD x default).a = (qs.getD x default).a := fun x hx => by
      by_cases e : x = j
      · subst e; rw [getD_set_eq _ _ _ hj]
      · rw [getD_set_ne _ _ _ _ e]
    rw [key i hi', key k hk']
    exact h.apart i k hi' hk' hik
  · have hi' : i < qs.length := by simpa using hi
    obtain ⟨f1, f2, f3, f4⟩ := h.fit i hi'
    by_cases e : i = j
    · subst e
      rw [getD_set_eq _ _ _ hj]
      exact ⟨f1, hr, f3, f4⟩
    · rw [getD_set_ne _ _ _ _ e]
      exact ⟨f1, f2, f3, f4⟩

theorem wcells_set (ws : List Int) (k : Nat) (x : Int) : ((wcells ws).toArray.setIfInBounds k (.int .i64 x)) = (wcells (ws.set k x)).toArray := by
  apply Array.ext'
  simp [wcells, List.map_set]

/-- a word is another one -/
theorem OwnedP.word {w : World} {B : Nat} {qs : List Pg} (h : OwnedP w B qs) (j : Nat) (hj : j < qs.length) (g : Nat) (hg : (qs.getD j default).a = some ⟨g, 0, none⟩) (k : Nat) (x : Int) (hx : (Lit.int .i64 x).wf = true) :
    PagesAt (w.setCell ⟨g, k, none⟩ (.int .i64 x)) (some ⟨B, 0, none⟩) (qs.set j ⟨(qs.getD j default).at_, (qs.getD j default).r, (qs.getD j default).a, (qs.getD j default).ws.set k x, (qs.getD j default).cap⟩) := by
  obtain ⟨F, hF, hc⟩ := h.row
  obtain ⟨g', e1, e2, e3⟩ := h.own j hj
  have hgg : g' = g := by rw [hg] at e1; simpa using e1.symm
  subst hgg
  refine OwnedP.pages (B := B) ⟨⟨F, by simpa using hF.setOther (a := ⟨g', k, none⟩) (by simp; omega) (.int .i64 x), fun i hi => ?_⟩, fun i hi => ?_, fun i m hi hm him => ?_, fun i hi => ?_⟩
  · have hi' : i < qs.length := by simpa using hi
    obtain ⟨s1, s2, s3⟩ := hc i hi'
    by_cases e : i = j
    · subst e
      rw [getD_set_eq _ _ _ hj]
      exact ⟨s1, s2, by rw [s3]; simp⟩
    · rw [getD_set_ne _ _ _ _ e]
      exact ⟨s1, s2, s3⟩
  · have hi' : i < qs.length := by simpa using hi
    by_cases e : i = j
    · subst e
      rw [getD_set_eq _ _ _ hj]
      refine ⟨g', hg, e2, ?_⟩
      dsimp only
      rw [← wcells_set]
      simp [World.setCell, Array.getElem?_modify, e3]
    · rw [getD_set_ne _ _ _ _ e]
      obtain ⟨u, u1, u2, u3⟩ := h.own i hi'
      refine ⟨u, u1, u2, (Go.Deep.blk_setCell_other _ _ _ _ ?_).trans u3⟩
      have := h.apart i j hi' hj e
      rw [u1, hg] at this
      intro q
      exact this (by simp at q; rw [q])
  · have hi' : i < qs.length := by simpa using hi
    have hm' : m < qs.length := by simpa using hm
    have key : ∀ y, y < qs.length → ((qs.set j ⟨(qs.getD j default).at_, (qs.getD j default).r, (qs.getD j default).a, (qs.getD j default).ws.set k x, (qs.getD j default).cap⟩).getD y default).a = (qs.getD y default).a := fun y hy => by
      by_cases e : y = j
      · subst e; rw [getD_set_eq _ _ _ hj]
      · rw [getD_set_ne _ _ _ _ e]
    rw [key i hi', key m hm']
    exact h.apart i m hi' hm' him
  · have hi' : i < qs.length := by simpa using hi
    obtain ⟨f1, f2, f3, f4⟩ := h.fit i hi'
    by_cases e : i = j
    · subst e
      rw [getD_set_eq _ _ _ hj]
      refine ⟨f1, f2, by simpa using f3, fun n hn => ?_⟩
      rcases List.mem_or_eq_of_mem_set hn with hn | rfl
      · exact f4 n hn
      · exact hx
    · rw [getD_set_ne _ _ _ _ e]
      exact ⟨f1, f2, f3, f4⟩

structure Rows4 (w : World) (B n k : Nat) (ps : List Pg) (F : Nat → Value) (qs : Nat → Pg) : Prop where
  base : Rows3 w B n k ps F qs
  own : ∀ j, j < k → ∃ g, (qs j).a = some ⟨g, 0, none⟩ ∧ B < g ∧ g < w.heap.size ∧ w.heap[g]? = some (.cells (wcells (qs j).ws).toArray 3 (0, 0))
  apart : ∀ i j, i < k → j < k → i ≠ j → (qs i).a ≠ (qs j).a

theorem copy_step4 {w wr w2 : World} {n k : Nat} {ps : List Pg} {F : Nat → Value} {qs : Nat → Pg} {pat pr : Int} {pa : Option Addr} {pws : List Int} {pcap : Nat} (hbel : Below w.heap.size w wr) (hsz : w.heap.size < wr.heap.size)
    (hR : Rows4 wr w.heap.size n k ps F qs) (hP : ps.getD k default = ⟨pat, pr, pa, pws, pcap⟩) (hok : (Pg.mk pat pr pa pws pcap).Ok w)
    (hg : w2.heap[wr.heap.size + 1]? = some (.cells (splice (List.replicate pws.length (Value.int .i64 0)) 0 (wcells pws)).toArray 3 (0, 0)))
    (hb : Below (wr.heap.size + 1) (W7 wr w.heap.size k pat pr pa pws pcap) w2) :
    Below w.heap.size w w2 ∧ w.heap.size < w2.heap.size ∧ ∃ F' qs', Rows4 w2 w.heap.size n (k + 1) ps F' qs' := by
  rw [splice_whole (by simp [wcells_len])] at hg
  have hs7 : wr.heap.size + 2 = (W7 wr w.heap.size k pat pr pa pws pcap).heap.size := by unfold W7; simp
  have hs2 := hb.size
  refine ⟨(W7_below hbel).trans (hb.mono (by omega)), by omega, _, fun j => if j = k then ⟨pat, pr, some ⟨wr.heap.size + 1, 0, none⟩, pws, pws.length⟩ else qs j, ⟨⟨(W7_row hR.base.row).of_block (hb.block _ (by omega)), fun j hj => ?_⟩, fun j hj => ?_, fun i j hi hj hij => ?_⟩⟩
  · by_cases e : j = k
    · subst e
      simp only [if_pos]
      refine ⟨by rw [hP]; exact ⟨rfl, rfl, rfl⟩, by simp, by simp, trivial, ⟨hok.wat, hok.wr, hok.len, .inr ⟨_, _, rfl, fun i hi => ?_⟩, hok.wws⟩, fun b off s h => by simp at h; omega⟩
      have := wcells_get pws i hi
      simp [World.cell?, hg, this]
    · have hjk : j < k := by omega
      obtain ⟨s0, s1, s2, s3, s4, s5⟩ := hR.base.each j hjk
      simp only [if_neg e]
      rw [if_neg (by omega), if_neg (by omega), if_neg (by omega), if_neg (by omega), if_neg (by omega), if_neg (by omega), if_neg (by omega), if_neg (by omega), if_neg (by omega)]
      exact ⟨s0, s1, s2, s3, s4.blocks s5 fun b hb' hB => (hb.block b (by omega)).trans (W7_heap b hb' hB), s5⟩
  · by_cases e : j = k
    · subst e
      simp only [if_pos]
      exact ⟨_, rfl, by omega, by omega, hg⟩
    · have hjk : j < k := by omega
      obtain ⟨g, g1, g2, g3, g4⟩ := hR.own j hjk
      simp only [if_neg e]
      exact ⟨g, g1, g2, by omega, ((hb.block g (by omega)).trans (W7_heap g g3 (by omega))).trans g4⟩
  · have key : ∀ x, x < k → (qs x).a ≠ some ⟨wr.heap.size + 1, 0, none⟩ := fun x hx q => by
      obtain ⟨g, g1, g2, g3, g4⟩ := hR.own x hx
      rw [g1] at q
      simp at q <;> omega
    by_cases e1 : i = k
    · by_cases e2 : j = k
      · omega
      · simp only [if_pos e1, if_neg e2]
        exact (key j (by omega)).symm
    · by_cases e2 : j = k
      · simp only [if_neg e1, if_pos e2]
        exact key i (by omega)
      · simp only [if_neg e1, if_neg e2]
        exact hR.apart i j (by omega) (by omega) hij

theorem made_rows4 (w : World) (n : Nat) (ps : List Pg) : ∃ F qs, Rows4 (w.alloc (.cells (madeCells #[.int .i64 0, .int .i64 0, .slice none 0 0] (n * 3)) 44)) w.heap.size n 0 ps F qs := by
  obtain ⟨F, qs, h⟩ := made_rows w n ps
  exact ⟨F, qs, h, fun j hj => absurd hj (by omega), fun i j hi => absurd hi (by omega)⟩
theorem owned_end {w : World} {B n : Nat} {ps : List Pg} {F : Nat → Value} {qs : Nat → Pg} (hR : Rows4 w B n n ps F qs) : OwnedP w B ((List.range n).map qs) := by
  have hget : ∀ j, j < n → ((List.range n).map qs).getD j default = qs j := fun j hj => by simp [List.getD_eq_getElem?_getD, hj]
  refine ⟨⟨F, by simpa using hR.base.row, fun j hj => ?_⟩, fun j hj => ?_, fun i j hi hj hij => ?_, fun j hj => ?_⟩
  · have hj' : j < n := by simpa using hj
    rw [hget j hj']
    obtain ⟨s0, s1, s2, s3, s4, s5⟩ := hR.base.each j hj'
    exact ⟨s1, s2, s3⟩
  · have hj' : j < n := by simpa using hj
    rw [hget j hj']
    obtain ⟨g, g1, g2, g3, g4⟩ := hR.own j hj'
    exact ⟨g, g1, g2, g4⟩
  · have hi' : i < n := by simpa using hi
    have hj' : j < n := by simpa using hj
    rw [hget i hi', hget j hj']
    exact hR.apart i j hi' hj' hij
  · have hj' : j < n := by simpa using hj
    rw [hget j hj']
    obtain ⟨s0, s1, s2, s3, s4, s5⟩ := hR.base.each j hj'
    exact ⟨s4.wat, s4.wr, s4.len, s4.wws⟩

set_option maxHeartbeats 1000000 in
theorem copy_own (a : Option Addr) (ps : List Pg) (cap : Nat) (w : World) (hl : ps.length * 40 ≤ 140737488351232) (hw : ∀ j, j < ps.length → (ps.getD j default).ws.length * 8 ≤ 140737488351232) (hx : PagesAt w a ps) :
    Calls Tryd.prog 22 #[.slice a ps.length cap] w fun e w' => ∃ qs : List Pg, e = .returned (.slice (some ⟨w.heap.size, 0, none⟩) ps.length ps.length) ∧ qs.length = ps.length ∧
      (∀ j, j < ps.length → (qs.getD j default).Same (ps.getD j default)) ∧ OwnedP w' w.heap.size qs ∧ Below w.heap.size w w' := by
  have hmk := fun w => make_pages ps.length (by omega) w
  go_enter Tryd.func22, Tryd.ntmps22
  go_wp2
  go_loopw [11] (fun i wr => ∃ k : Nat, k ≤ ps.length ∧ i = .int .i64 k ∧ Below w.heap.size w wr ∧ w.heap.size < wr.heap.size ∧ ∃ F qs, Rows4 wr w.heap.size ps.length k ps F qs) (fun i _ => ps.length - (intOf i).toNat)
  case atStart => exact ⟨0, Nat.zero_le _, rfl, (Below.refl _ _).alloc (Nat.le_refl _) _, by simp, made_rows4 w ps.length ps⟩
  case round =>
    obtain ⟨k, hk, rfl, hbel, hsz, F, qs, hR⟩ := hrel
    clear hmk
    by_cases hlt : k < ps.length
    · rcases hx.at_ with rfl | ⟨b, off, rfl, hc⟩
      · simp at hlt
      · have hbB : b < w.heap.size := lt_of_cell (hc k hlt).1
        have hX := hx.below hbel
        obtain ⟨c0, c1, c2⟩ := hX.cells hlt
        have hok := hx.ok k hlt
        have hww := hw k hlt
        obtain ⟨P, hP⟩ : ∃ P, ps.getD k default = P := ⟨_, rfl⟩
        rw [hP] at c0 c1 c2 hok hww
        obtain ⟨pat, pr, pa, pws, pcap⟩ := P
        dsimp only at c0 c1 c2 hww
        have HS : Hid (∀ w2, w2.heap[wr.heap.size + 1]? = some (.cells (splice (List.replicate pws.length (Value.int .i64 0)) 0 (wcells pws)).toArray 3 (0, 0)) → Below (wr.heap.size + 1) (W7 wr w.heap.size k pat pr pa pws pcap) w2 →
            Below w.heap.size w w2 ∧ w.heap.size < w2.heap.size ∧ ∃ F' qs', Rows4 w2 w.heap.size ps.length (k + 1) ps F' qs') := fun w2 g1 g2 => copy_step4 hbel hsz hR hP hok g1 g2
        have r0 := hR.base.row.cell (i := k * 3) (by omega)
        have r1 := hR.base.row.cell (i := k * 3 + 1) (by omega)
        have r2 := hR.base.row.cell (i := k * 3 + 2) (by omega)
        have f0 := hR.base.row.frozen (k * 3)
        have f1 := hR.base.row.frozen (k * 3 + 1)
        have f2 := hR.base.row.frozen (k * 3 + 2)
        have HI : Hid (Ints (W7 wr w.heap.size k pat pr pa pws pcap) pa pws) := hok.ints.below (W7_below hbel)
        have HC : Hid ((W7 wr w.heap.size k pat pr pa pws pcap).cell? ⟨w.heap.size, k * 3 + 2, none⟩ = some (.slice (some ⟨wr.heap.size + 1, 0, none⟩) pws.length pws.length)) := by
          have := (W7_row (k := k) (pat := pat) (pr := pr) (pa := pa) (pws := pws) (pcap := pcap) hR.base.row).cell (i := k * 3 + 2) (by omega)
          rw [if_pos rfl] at this
          exact this
        have hmw := run_make_row' (P := Tryd.prog) 28 3 (.int .i64 0) 8 Tryd.underlying28 info_int rfl .i64 .i64 pws.length (by omega) (by omega)
        have hb : b < wr.heap.size := lt_of_cell c0
        clear hR hx hX hw hok hP hc
        go_wp2
        obtain ⟨W, hW⟩ : ∃ W, W = W7 wr w.heap.size k pat pr pa pws pcap := ⟨_, rfl⟩
        have hW' := hW
        unfold W7 at hW'
        rw [← hW']
        clear hW'
        have p2 := W7_page (wr := wr) (B := w.heap.size) (k := k) (pat := pat) (pr := pr) (pa := pa) (pws := pws) (pcap := pcap)
        have g7 : Hid (_) := W7_words (wr := wr) (B := w.heap.size) (k := k) (pat := pat) (pr := pr) (pa := pa) (pws := pws) (pcap := pcap)
        have q2 := HC.out
        rw [← hW] at HS HI p2 g7 q2
        clear hW HC c0 c1 c2 r0 r1 r2 f0 f1 f2 hmw hww
        go_region_law (refine step_copy_splice rfl (.tmp 32) (.tmp 34) 28 28 rfl 3 Tryd.underlying28 (by kernel_rfl) (some ⟨wr.heap.size + 1, 0, none⟩) pa pws.length pws.length pws.length pcap (by simp [Act.eval]) (by simp [Act.eval]) (wr.heap.size + 1) 0 (List.replicate pws.length (.int .i64 0)) 3 g7.out (wcells pws) (by simp [wcells_len]) (fun h => ⟨rfl, wcells_src HI.out h⟩) (by simp [wcells_len]) (wcells_one pws) (wr.heap.size + 1) W (Below.refl _ _).drew (Nat.le_refl _) ?_; intro w2 hg2 hb2)
        all_goals
          have R := HS.out w2 hg2.out hb2
          clear HS hg2 hb2 g7 p2 q2
          go_wp2
          go_roundw
          case rel => exact ⟨k + 1, by omega, by go_num, R.1, R.2.1, R.2.2⟩
          case measure => simp [intOf]; omega
    · have hkl : k = ps.length := by omega
      subst hkl
      clear hx hw
      go_wp2
      go_ret
      exact ⟨(List.range ps.length).map qs, rfl, by simp, (rows_end hR.base).2, owned_end hR, hbel⟩

end Go.Proofs.YtdbbiibnhgcndaaDoor
