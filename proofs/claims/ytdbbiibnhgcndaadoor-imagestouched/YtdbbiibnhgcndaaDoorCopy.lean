/-
  What the call Copy (image) answers for every list of pages: a list in new memory whose pages hold the same; nothing that was in memory turns. The condition: the list and each page's words are within the reach of the form (fewer than 2^47 bytes).
-/
import Derived.Test.YtdbbiibnhgcndaaDoorChecks
import Derived.Deep.OwnRows
import Derived.Laws.CopyOwn
namespace Go.Proofs.YtdbbiibnhgcndaaDoor
open Go.RowKit

theorem info_int : (Tryd.prog.info? 3).map (fun i => (i.zero, i.size, i.bytes)) = some (some (.int .i64 0), 1, 8) := by kernel_rfl
theorem info_page : (Tryd.prog.info? 44).map (fun i => (i.zero, i.size, i.bytes)) = some (some (.agg #[.int .i64 0, .int .i64 0, .slice none 0 0]), 3, 40) := by kernel_rfl
theorem make_pages (n : Nat) (hb : 40 * n ≤ 281474976710656) (w : World) :
    (Instr.makeSlice 31 (.int .i64 (n : Int)) (.int .i64 (n : Int))).run Tryd.prog w = .ok (.slice (some ⟨w.heap.size, 0, none⟩) n n) (w.alloc (.cells (madeCells #[.int .i64 0, .int .i64 0, .slice none 0 0] (n * 3)) 44)) := by
  obtain ⟨i, hi, hzz⟩ := Option.map_eq_some_iff.1 info_page
  simp only [Prod.mk.injEq] at hzz
  obtain ⟨hz, hs, hbb⟩ := hzz
  have hr := run_make (P := Tryd.prog) w 31 44 i _ Tryd.underlying31 hi hz .i64 .i64 n n (by omega) (Int.le_refl _) (by rw [hbb]; omega) (by omega)
  simp only [Int.toNat_natCast, hs] at hr
  exact hr

/-- two pages hold the same -/
def Pg.Same (q p : Pg) : Prop := q.at_ = p.at_ ∧ q.r = p.r ∧ q.ws = p.ws
/-- the first k pages of the row in block B hold what those of the list hold -/
structure Rows3 (w : World) (B n k : Nat) (ps : List Pg) (F : Nat → Value) (qs : Nat → Pg) : Prop where
  row : w.rowIs B 44 (n * 3) F
  each : ∀ j, j < k → (qs j).Same (ps.getD j default) ∧ F (j * 3) = .int .i64 (qs j).at_ ∧ F (j * 3 + 1) = .int .i64 (qs j).r ∧ F (j * 3 + 2) = .slice (qs j).a (qs j).ws.length (qs j).cap ∧
    (qs j).Ok w ∧ ∀ b off s, (qs j).a = some ⟨b, off, s⟩ → b ≠ B

theorem Ints.blocks {w w' : World} {a : Option Addr} {xs : List Int} {B : Nat} (h : Ints w a xs) (ha : ∀ b off s, a = some ⟨b, off, s⟩ → b ≠ B) (hb : ∀ b, b < w.heap.size → b ≠ B → w'.heap[b]? = w.heap[b]?) : Ints w' a xs := by
  rcases h with h | ⟨b, off, h1, h2⟩
  · exact .inl h
  · exact .inr ⟨b, off, h1, fun j hj => (World.cell?_of_block (w := w) (hb b (lt_of_cell (h2 j hj)) (ha b off none h1))).trans (h2 j hj)⟩
theorem Pg.Ok.blocks {w w' : World} {p : Pg} {B : Nat} (h : p.Ok w) (ha : ∀ b off s, p.a = some ⟨b, off, s⟩ → b ≠ B) (hb : ∀ b, b < w.heap.size → b ≠ B → w'.heap[b]? = w.heap[b]?) : p.Ok w' :=
  ⟨h.wat, h.wr, h.len, h.ints.blocks ha hb, h.wws⟩

/-- the words of a page as cells -/
def wcells (ws : List Int) : List Value := ws.map (Value.int .i64)
theorem wcells_len (ws : List Int) : (wcells ws).length = ws.length := by simp [wcells]
theorem splice_whole {L cs : List Value} (h : cs.length = L.length) : splice L 0 cs = cs := by
  simp [splice, h]
theorem wcells_get (ws : List Int) (j : Nat) (h : j < ws.length) : (wcells ws)[j]? = some (.int .i64 (ws.getD j 0)) := by
  simp [wcells, h, List.getD_eq_getElem?_getD]

/-- the world behind the stores of a round, ahead of the copying of the words -/
def W7 (wr : World) (B k : Nat) (pat pr : Int) (pa : Option Addr) (pws : List Int) (pcap : Nat) : World :=
  (((((wr.setCell ⟨B, k * 3, none⟩ (.int .i64 pat)).setCell ⟨B, k * 3 + 1, none⟩ (.int .i64 pr)).setCell ⟨B, k * 3 + 2, none⟩ (.slice pa pws.length pcap)).setCell ⟨B, k * 3 + 2, none⟩ (.slice (some ⟨wr.heap.size + 1, 0, none⟩) pws.length pws.length)).alloc
    (.cells #[.int .i64 pat, .int .i64 pr, .slice pa pws.length pcap] 44)).alloc (.cells (madeCells #[.int .i64 0] pws.length) 3)

theorem W7_below {w wr : World} {k : Nat} {pat pr : Int} {pa : Option Addr} {pws : List Int} {pcap : Nat} (h : Below w.heap.size w wr) : Below w.heap.size w (W7 wr w.heap.size k pat pr pa pws pcap) := by
  unfold W7
  have := h.size
  exact (((((h.setCell (Nat.le_refl _) _).setCell (Nat.le_refl _) _).setCell (Nat.le_refl _) _).setCell (Nat.le_refl _) _).alloc (by simp; omega) _).alloc (by simp; omega) _

theorem W7_heap {wr : World} {B k : Nat} {pat pr : Int} {pa : Option Addr} {pws : List Int} {pcap : Nat} (b : Nat) (h : b < wr.heap.size) (hB : b ≠ B) : (W7 wr B k pat pr pa pws pcap).heap[b]? = wr.heap[b]? := by
  unfold W7
  rw [Below.heap_alloc _ _ _ (by simp; omega), Below.heap_alloc _ _ _ (by simpa using h), Below.heap_setCell _ _ _ _ hB, Below.heap_setCell _ _ _ _ hB, Below.heap_setCell _ _ _ _ hB, Below.heap_setCell _ _ _ _ hB]

theorem W7_row {wr : World} {B n k : Nat} {F : Nat → Value} {pat pr : Int} {pa : Option Addr} {pws : List Int} {pcap : Nat} (h : wr.rowIs B 44 (n * 3) F) :
    (W7 wr B k pat pr pa pws pcap).rowIs B 44 (n * 3) (fun j => if j = k * 3 + 2 then .slice (some ⟨wr.heap.size + 1, 0, none⟩) pws.length pws.length else if j = k * 3 + 1 then .int .i64 pr else if j = k * 3 then .int .i64 pat else F j) := by
  unfold W7
  refine World.rowIs.congr (((((h.set _ _).set _ _).set _ _).set _ _).alloc _ |>.alloc _) fun j _ => ?_
  by_cases h2 : j = k * 3 + 2
  · simp [h2]
  · simp only [if_neg h2]

theorem alloc_new_at (w : World) (o : Obj) (n : Nat) (h : w.heap.size = n) : (w.alloc o).heap[n]? = some o := by subst h; exact Go.Deep.blk_alloc_new _ _
theorem W7_words {wr : World} {B k : Nat} {pat pr : Int} {pa : Option Addr} {pws : List Int} {pcap : Nat} :
    (W7 wr B k pat pr pa pws pcap).heap[wr.heap.size + 1]? = some (.cells (List.replicate pws.length (.int .i64 0)).toArray 3 (0, 0)) := by
  unfold W7
  rw [← toList_madeCells_one (.int .i64 0) pws.length]
  exact alloc_new_at _ _ _ (by simp)

theorem W7_page {wr : World} {B k : Nat} {pat pr : Int} {pa : Option Addr} {pws : List Int} {pcap : Nat} : (W7 wr B k pat pr pa pws pcap).cell? ⟨wr.heap.size, 2, none⟩ = some (.slice pa pws.length pcap) := by
  unfold W7
  rw [World.cell?_alloc_past _ _ _ (by simp)]
  rw [World.cell?_alloc_at _ _ _ _ (by simp)]
  rfl

theorem copy_step {w wr w2 : World} {n k : Nat} {ps : List Pg} {F : Nat → Value} {qs : Nat → Pg} {pat pr : Int} {pa : Option Addr} {pws : List Int} {pcap : Nat} (hbel : Below w.heap.size w wr) (hsz : w.heap.size < wr.heap.size)
    (hR : Rows3 wr w.heap.size n k ps F qs) (hP : ps.getD k default = ⟨pat, pr, pa, pws, pcap⟩) (hok : (Pg.mk pat pr pa pws pcap).Ok w)
    (hg : w2.heap[wr.heap.size + 1]? = some (.cells (splice (List.replicate pws.length (Value.int .i64 0)) 0 (wcells pws)).toArray 3 (0, 0)))
    (hb : Below (wr.heap.size + 1) (W7 wr w.heap.size k pat pr pa pws pcap) w2) :
    Below w.heap.size w w2 ∧ w.heap.size < w2.heap.size ∧ ∃ F' qs', Rows3 w2 w.heap.size n (k + 1) ps F' qs' := by
  rw [splice_whole (by simp [wcells_len])] at hg
  have hs7 : wr.heap.size + 2 = (W7 wr w.heap.size k pat pr pa pws pcap).heap.size := by unfold W7; simp
  have hs2 := hb.size
  refine ⟨(W7_below hbel).trans (hb.mono (by omega)), by omega, _, fun j => if j = k then ⟨pat, pr, some ⟨wr.heap.size + 1, 0, none⟩, pws, pws.length⟩ else qs j, ⟨(W7_row hR.row).of_block (hb.block _ (by omega)), fun j hj => ?_⟩⟩
  by_cases e : j = k
  · subst e
    simp only [if_pos]
    refine ⟨by rw [hP]; exact ⟨rfl, rfl, rfl⟩, by simp, by simp, trivial, ⟨hok.wat, hok.wr, hok.len, .inr ⟨_, _, rfl, fun i hi => ?_⟩, hok.wws⟩, fun b off s h => by simp at h; omega⟩
    have := wcells_get pws i hi
    simp [World.cell?, hg, this]
  · have hjk : j < k := by omega
    obtain ⟨s0, s1, s2, s3, s4, s5⟩ := hR.each j hjk
    simp only [if_neg e]
    rw [if_neg (by omega), if_neg (by omega), if_neg (by omega), if_neg (by omega), if_neg (by omega), if_neg (by omega), if_neg (by omega), if_neg (by omega), if_neg (by omega)]
    exact ⟨s0, s1, s2, s3, s4.blocks s5 fun b hb' hB => (hb.block b (by omega)).trans (W7_heap b hb' hB), s5⟩

theorem made_rows (w : World) (n : Nat) (ps : List Pg) : ∃ F qs, Rows3 (w.alloc (.cells (madeCells #[.int .i64 0, .int .i64 0, .slice none 0 0] (n * 3)) 44)) w.heap.size n 0 ps F qs := by
  refine ⟨fun j => (#[Value.int .i64 0, .int .i64 0, .slice none 0 0])[j % 3]!, fun _ => default, ⟨?_, fun j hj => absurd hj (by omega)⟩⟩
  have := World.rowIs_alloc w (madeCells #[.int .i64 0, .int .i64 0, .slice none 0 0] (n * 3)) 44 (fun j => (#[Value.int .i64 0, .int .i64 0, .slice none 0 0])[j % 3]!) (fun i hi => by rw [size_madeCells] at hi; simp [madeCells, hi])
  rwa [size_madeCells] at this

theorem rows_end {w : World} {B n : Nat} {ps : List Pg} {F : Nat → Value} {qs : Nat → Pg} (hR : Rows3 w B n n ps F qs) :
    PagesAt w (some ⟨B, 0, none⟩) ((List.range n).map qs) ∧ ∀ j, j < n → (((List.range n).map qs).getD j default).Same (ps.getD j default) := by
  have hget : ∀ j, j < n → ((List.range n).map qs).getD j default = qs j := fun j hj => by simp [List.getD_eq_getElem?_getD, hj]
  refine ⟨⟨.inr ⟨_, _, rfl, fun j hj => ?_⟩, fun j hj => ?_⟩, fun j hj => ?_⟩
  · have hj' : j < n := by simpa using hj
    rw [hget j hj']
    obtain ⟨s0, s1, s2, s3, s4, s5⟩ := hR.each j hj'
    have r0 := hR.row.cell (i := j * 3) (by omega)
    have r1 := hR.row.cell (i := j * 3 + 1) (by omega)
    have r2 := hR.row.cell (i := j * 3 + 2) (by omega)
    rw [s1] at r0
    rw [s2] at r1
    rw [s3] at r2
    simpa using ⟨r0, r1, r2⟩
  · have hj' : j < n := by simpa using hj
    rw [hget j hj']
    exact (hR.each j hj').2.2.2.2.1
  · rw [hget j hj]
    exact (hR.each j hj).1

theorem wcells_src {w : World} {a : Option Addr} {xs : List Int} (h : Ints w a xs) (h0 : 0 < (wcells xs).length) : ∃ ad, a = some ad ∧ ∀ (j : Nat) v, (wcells xs)[j]? = some v → w.cell? (ad.add j) = some v := by
  rcases h with rfl | ⟨b, off, h1, h2⟩
  · simp [wcells] at h0
  · refine ⟨_, h1, fun j v hv => ?_⟩
    have hj : j < xs.length := by
      have := (List.getElem?_eq_some_iff.1 hv).1
      rwa [wcells_len] at this
    rw [wcells_get xs j hj] at hv
    rw [add_at, h2 j hj]
    exact hv
theorem wcells_one (xs : List Int) : ∀ v ∈ wcells xs, v.oneCell' = true := by
  intro v hv
  simp [wcells] at hv
  obtain ⟨n, _, rfl⟩ := hv
  rfl

set_option maxHeartbeats 1000000 in
theorem copy_any (a : Option Addr) (ps : List Pg) (cap : Nat) (w : World) (hl : ps.length * 40 ≤ 140737488351232) (hw : ∀ j, j < ps.length → (ps.getD j default).ws.length * 8 ≤ 140737488351232) (hx : PagesAt w a ps) :
    Calls Tryd.prog 22 #[.slice a ps.length cap] w fun e w' => ∃ qs : List Pg, e = .returned (.slice (some ⟨w.heap.size, 0, none⟩) ps.length ps.length) ∧ qs.length = ps.length ∧
      (∀ j, j < ps.length → (qs.getD j default).Same (ps.getD j default)) ∧ PagesAt w' (some ⟨w.heap.size, 0, none⟩) qs ∧ Below w.heap.size w w' := by
  have hmk := fun w => make_pages ps.length (by omega) w
  go_enter Tryd.func22, Tryd.ntmps22
  go_wp2
  go_loopw [11] (fun i wr => ∃ k : Nat, k ≤ ps.length ∧ i = .int .i64 k ∧ Below w.heap.size w wr ∧ w.heap.size < wr.heap.size ∧ ∃ F qs, Rows3 wr w.heap.size ps.length k ps F qs) (fun i _ => ps.length - (intOf i).toNat)
  case atStart => exact ⟨0, Nat.zero_le _, rfl, (Below.refl _ _).alloc (Nat.le_refl _) _, by simp, made_rows w ps.length ps⟩
  case round =>
    obtain ⟨k, hk, rfl, hbel, hsz, F, qs, hR⟩ := hrel
    clear hmk
    by_cases hlt : k < ps.length
    · rcases hx.at_ with rfl | ⟨b, off, rfl, hc⟩
      · simp at hlt
      · have hbB : b < w.heap.size := lt_of_cell (hc k hlt).1
        have hX := hx.below hbel
        obtain ⟨c0, c1, c2⟩ := hX.cells hlt
        have hok := hx.ok k hlt
        have hww := hw k hlt
        obtain ⟨P, hP⟩ : ∃ P, ps.getD k default = P := ⟨_, rfl⟩
        rw [hP] at c0 c1 c2 hok hww
        obtain ⟨pat, pr, pa, pws, pcap⟩ := P
        dsimp only at c0 c1 c2 hww
        have HS : Hid (∀ w2, w2.heap[wr.heap.size + 1]? = some (.cells (splice (List.replicate pws.length (Value.int .i64 0)) 0 (wcells pws)).toArray 3 (0, 0)) → Below (wr.heap.size + 1) (W7 wr w.heap.size k pat pr pa pws pcap) w2 →
            Below w.heap.size w w2 ∧ w.heap.size < w2.heap.size ∧ ∃ F' qs', Rows3 w2 w.heap.size ps.length (k + 1) ps F' qs') := fun w2 g1 g2 => copy_step hbel hsz hR hP hok g1 g2
        have r0 := hR.row.cell (i := k * 3) (by omega)
        have r1 := hR.row.cell (i := k * 3 + 1) (by omega)
        have r2 := hR.row.cell (i := k * 3 + 2) (by omega)
        have f0 := hR.row.frozen (k * 3)
        have f1 := hR.row.frozen (k * 3 + 1)
        have f2 := hR.row.frozen (k * 3 + 2)
        have HI : Hid (Ints (W7 wr w.heap.size k pat pr pa pws pcap) pa pws) := hok.ints.below (W7_below hbel)
        have HC : Hid ((W7 wr w.heap.size k pat pr pa pws pcap).cell? ⟨w.heap.size, k * 3 + 2, none⟩ = some (.slice (some ⟨wr.heap.size + 1, 0, none⟩) pws.length pws.length)) := by
          have := (W7_row (k := k) (pat := pat) (pr := pr) (pa := pa) (pws := pws) (pcap := pcap) hR.row).cell (i := k * 3 + 2) (by omega)
          rw [if_pos rfl] at this
          exact this
        have hmw := run_make_row' (P := Tryd.prog) 28 3 (.int .i64 0) 8 Tryd.underlying28 info_int rfl .i64 .i64 pws.length (by omega) (by omega)
        have hb : b < wr.heap.size := lt_of_cell c0
        clear hR hx hX hw hok hP hc
        go_wp2
        obtain ⟨W, hW⟩ : ∃ W, W = W7 wr w.heap.size k pat pr pa pws pcap := ⟨_, rfl⟩
        have hW' := hW
        unfold W7 at hW'
        rw [← hW']
        clear hW'
        have p2 := W7_page (wr := wr) (B := w.heap.size) (k := k) (pat := pat) (pr := pr) (pa := pa) (pws := pws) (pcap := pcap)
        have g7 : Hid (_) := W7_words (wr := wr) (B := w.heap.size) (k := k) (pat := pat) (pr := pr) (pa := pa) (pws := pws) (pcap := pcap)
        have q2 := HC.out
        rw [← hW] at HS HI p2 g7 q2
        clear hW HC c0 c1 c2 r0 r1 r2 f0 f1 f2 hmw hww
        go_region_law (refine step_copy_splice rfl (.tmp 32) (.tmp 34) 28 28 rfl 3 Tryd.underlying28 (by kernel_rfl) (some ⟨wr.heap.size + 1, 0, none⟩) pa pws.length pws.length pws.length pcap (by simp [Act.eval]) (by simp [Act.eval]) (wr.heap.size + 1) 0 (List.replicate pws.length (.int .i64 0)) 3 g7.out (wcells pws) (by simp [wcells_len]) (fun h => ⟨rfl, wcells_src HI.out h⟩) (by simp [wcells_len]) (wcells_one pws) (wr.heap.size + 1) W (Below.refl _ _).drew (Nat.le_refl _) ?_; intro w2 hg2 hb2)
        all_goals
          have R := HS.out w2 hg2.out hb2
          clear HS hg2 hb2 g7 p2 q2
          go_wp2
          go_roundw
          case rel => exact ⟨k + 1, by omega, by go_num, R.1, R.2.1, R.2.2⟩
          case measure => simp [intOf]; omega
    · have hkl : k = ps.length := by omega
      subst hkl
      clear hx hw
      go_wp2
      go_ret
      exact ⟨(List.range ps.length).map qs, rfl, by simp, (rows_end hR).2, (rows_end hR).1, hbel⟩

end Go.Proofs.YtdbbiibnhgcndaaDoor
