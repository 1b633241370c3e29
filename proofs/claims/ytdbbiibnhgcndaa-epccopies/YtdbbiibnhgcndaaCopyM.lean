/-
  What the call Copy (epc) answers for every machine: one that holds the same, in memory of its own; nothing that was in memory turns. The condition: the lists are within the reach of the form (fewer than 2^47 bytes).
-/
import Derived.Test.YtdbbiibnhgcndaaQRow
import Derived.Handy
import Derived.Outline
import Derived.Deep.CutRange
namespace Go.Proofs.Ytdbbiibnhgcndaa
open Go.RowKit

theorem info_int4 : (Try.prog.info? 3).map (fun i => (i.zero, i.size, i.bytes)) = some (some (.int .i64 0), 1, 8) := by kernel_rfl
theorem info_frame : (Try.prog.info? 83).map (fun i => (i.zero, i.size, i.bytes)) = some (some (.agg #[.int .i64 0, .int .i64 0, .int .i64 0, .slice none 0 0]), 4, 48) := by kernel_rfl
theorem info_enclave : (Try.prog.info? 87).map (fun i => (i.zero, i.size, i.bytes)) = some (some (.agg #[.int .i64 0, .string ⟨#[]⟩, .int .i64 0, .int .i64 0, .int .i64 0, .int .i64 0, .int .i64 0]), 7, 64) := by kernel_rfl
theorem info_quote : (Try.prog.info? 69).map (fun i => (i.zero, i.size, i.bytes)) = some (some (.agg #[.string ⟨#[]⟩, .int .i64 0]), 2, 24) := by kernel_rfl
theorem make_rows (t e : TypeId) (z : Array Value) (size bytes : Nat) (hu : Try.prog.underlying t = some (.slice e)) (hi : (Try.prog.info? e).map (fun i => (i.zero, i.size, i.bytes)) = some (some (.agg z), size, bytes)) (n : Nat) (hb : bytes * n ≤ 281474976710656) (hn : n ≤ 9223372036854775807) (w : World) :
    (Instr.makeSlice t (.int .i64 (n : Int)) (.int .i64 (n : Int))).run Try.prog w = .ok (.slice (some ⟨w.heap.size, 0, none⟩) n n) (w.alloc (.cells (madeCells z (n * size)) e)) := by
  obtain ⟨i, hi, hzz⟩ := Option.map_eq_some_iff.1 hi
  simp only [Prod.mk.injEq] at hzz
  obtain ⟨hz, hs, hbb⟩ := hzz
  have hbn : (bytes : Int) * (n : Int) = ((bytes * n : Nat) : Int) := by simp
  have hr := run_make (P := Try.prog) w t e i _ hu hi hz .i64 .i64 n n (by omega) (Int.le_refl _) (by rw [hbb]; omega) (by omega)
  simp only [Int.toNat_natCast, hs] at hr
  exact hr

/-- what the first statement of Copy makes: the new machine's variable, and the three new lists -/
structure Made (W wx : World) (nf ne nq B X Y Z : Nat) : Prop where
  lB : W.heap.size ≤ B
  lX : W.heap.size ≤ X
  lY : W.heap.size ≤ Y
  lZ : W.heap.size ≤ Z
  BX : B ≠ X
  BY : B ≠ Y
  BZ : B ≠ Z
  XY : X ≠ Y
  XZ : X ≠ Z
  YZ : Y ≠ Z
  hB : wx.heap[B]? = some (.cells #[.slice (some ⟨X, 0, none⟩) nf nf, .slice (some ⟨Y, 0, none⟩) ne ne, .slice (some ⟨Z, 0, none⟩) nq nq] 43 (0, 0))
  hX : wx.heap[X]? = some (.cells (madeCells #[.int .i64 0, .int .i64 0, .int .i64 0, .slice none 0 0] (nf * 4)) 83 (0, 0))
  hY : wx.heap[Y]? = some (.cells (madeCells #[.int .i64 0, .string ⟨#[]⟩, .int .i64 0, .int .i64 0, .int .i64 0, .int .i64 0, .int .i64 0] (ne * 7)) 87 (0, 0))
  hZ : wx.heap[Z]? = some (.cells (madeCells #[.string ⟨#[]⟩, .int .i64 0] (nq * 2)) 69 (0, 0))
  bel : Below W.heap.size W wx

theorem al1 (W : World) (o1 o2 o3 o4 : Obj) : ((((W.alloc o1).alloc o2).alloc o3).alloc o4).drew.heap[W.heap.size]? = some o1 := by
  show ((((W.alloc o1).alloc o2).alloc o3).alloc o4).heap[W.heap.size]? = some o1
  rw [Below.heap_alloc _ _ _ (by simp; omega), Below.heap_alloc _ _ _ (by simp; omega), Below.heap_alloc _ _ _ (by simp)]
  exact Go.Deep.blk_alloc_new _ _
theorem al2 (W : World) (o1 o2 o3 o4 : Obj) : ((((W.alloc o1).alloc o2).alloc o3).alloc o4).drew.heap[W.heap.size + 1]? = some o2 := by
  show ((((W.alloc o1).alloc o2).alloc o3).alloc o4).heap[W.heap.size + 1]? = some o2
  rw [Below.heap_alloc _ _ _ (by simp), Below.heap_alloc _ _ _ (by simp)]
  have := Go.Deep.blk_alloc_new (W.alloc o1) o2
  simpa using this
theorem al3 (W : World) (o1 o2 o3 o4 : Obj) : ((((W.alloc o1).alloc o2).alloc o3).alloc o4).drew.heap[W.heap.size + 1 + 1]? = some o3 := by
  show ((((W.alloc o1).alloc o2).alloc o3).alloc o4).heap[W.heap.size + 1 + 1]? = some o3
  rw [Below.heap_alloc _ _ _ (by simp)]
  have := Go.Deep.blk_alloc_new ((W.alloc o1).alloc o2) o3
  simpa using this
theorem al4 (W : World) (o1 o2 o3 o4 : Obj) : ((((W.alloc o1).alloc o2).alloc o3).alloc o4).drew.heap[W.heap.size + 1 + 1 + 1]? = some o4 := by
  show ((((W.alloc o1).alloc o2).alloc o3).alloc o4).heap[W.heap.size + 1 + 1 + 1]? = some o4
  have := Go.Deep.blk_alloc_new (((W.alloc o1).alloc o2).alloc o3) o4
  simpa using this
theorem alB (W : World) (o1 o2 o3 o4 : Obj) : Below W.heap.size W ((((W.alloc o1).alloc o2).alloc o3).alloc o4).drew :=
  ((((((Below.refl _ _).alloc (Nat.le_refl _) _).alloc (by simp) _).alloc (by simp; omega) _).alloc (by simp; omega) _)).drew

/-- so far the first k frames are copied, each with words of its own -/
structure CInv (W2 wr : World) (frs : List Fr) (nf B X Y Z : Nat) (OB OY OZ : Obj) (k : Nat) (F : Nat → Value) (qs : Nat → Fr) : Prop where
  bel : Below W2.heap.size W2 wr
  hB : wr.heap[B]? = some OB
  hY : wr.heap[Y]? = some OY
  hZ : wr.heap[Z]? = some OZ
  row : wr.rowIs X 83 (nf * 4) F
  same : ∀ j, j < k → (qs j).Same (frs.getD j default)
  cells : ∀ j, j < k → F (j * 4) = .int .i64 (qs j).o ∧ F (j * 4 + 1) = .int .i64 (qs j).at_ ∧ F (j * 4 + 2) = .int .i64 (qs j).r ∧ F (j * 4 + 3) = .slice (qs j).a (qs j).ws.length (qs j).cap
  own : ∀ j, j < k → ∃ g, (qs j).a = some ⟨g, 0, none⟩ ∧ W2.heap.size ≤ g ∧ g ≠ B ∧ g ≠ X ∧ g ≠ Y ∧ g ≠ Z ∧ wr.heap[g]? = some (.cells (wvals (qs j).ws).toArray 3 (0, 0))
  apart : ∀ i j, i < k → j < k → i ≠ j → (qs i).a ≠ (qs j).a

/-- the row of the frames behind a round -/
def rowAt (F : Nat → Value) (k : Nat) (o fat r : Int) (v : Value) : Nat → Value := fun j => if j = k * 4 + 3 then v else if j = k * 4 + 2 then .int .i64 r else if j = k * 4 + 1 then .int .i64 fat else if j = k * 4 then .int .i64 o else F j
theorem cinv_step {W2 wr w9 : World} {frs : List Fr} {nf B X Y Z : Nat} {OB OY OZ : Obj} {k : Nat} {F : Nat → Value} {qs : Nat → Fr} (h : CInv W2 wr frs nf B X Y Z OB OY OZ k F qs) (hBX : B ≠ X) (hXY : X ≠ Y) (hXZ : X ≠ Z)
    {o fat r : Int} {pa : Option Addr} {ws : List Int} {pcap : Nat} (hP : Fr.mk o fat r pa ws pcap = frs.getD k default)
    (hrow : w9.rowIs X 83 (nf * 4) (rowAt F k o fat r (.slice (some ⟨wr.heap.size + 1, 0, none⟩) ws.length ws.length))) (hbel : Below W2.heap.size W2 w9) (hg : w9.heap[wr.heap.size + 1]? = some (.cells (wvals ws).toArray 3 (0, 0)))
    (hold : ∀ b, b < wr.heap.size → b ≠ X → w9.heap[b]? = wr.heap[b]?) :
    ∃ F' qs', CInv W2 w9 frs nf B X Y Z OB OY OZ (k + 1) F' qs' := by
  have hlt : ∀ b o, wr.heap[b]? = some o → b < wr.heap.size := fun b o e => (Array.getElem?_eq_some_iff.1 e).1
  have lB := hlt _ _ h.hB
  have lY := hlt _ _ h.hY
  have lZ := hlt _ _ h.hZ
  have lX := h.row.lt
  have sz := h.bel.size
  refine ⟨_, fun j => if j = k then ⟨o, fat, r, some ⟨wr.heap.size + 1, 0, none⟩, ws, ws.length⟩ else qs j, ⟨hbel, (hold B lB hBX).trans h.hB, (hold Y lY (Ne.symm hXY)).trans h.hY, (hold Z lZ (Ne.symm hXZ)).trans h.hZ, hrow, fun j hj => ?_, fun j hj => ?_, fun j hj => ?_, fun i j hi hj hij => ?_⟩⟩
  · by_cases e : j = k
    · subst e
      simp only [if_true]
      rw [← hP]
      exact ⟨rfl, rfl, rfl, rfl⟩
    · simp only [if_neg e]
      exact h.same j (by omega)
  · by_cases e : j = k
    · subst e
      simp only [if_true, rowAt]
      refine ⟨?_, ?_, ?_, trivial⟩
      · rw [if_neg (by omega), if_neg (by omega), if_neg (by omega)]
      · rw [if_neg (by omega), if_neg (by omega)]
      · rw [if_neg (by omega)]
    · simp only [if_neg e, rowAt]
      obtain ⟨a, b, c, d⟩ := h.cells j (by omega)
      rw [if_neg (by omega), if_neg (by omega), if_neg (by omega), if_neg (by omega), if_neg (by omega), if_neg (by omega), if_neg (by omega), if_neg (by omega), if_neg (by omega), if_neg (by omega), if_neg (by omega), if_neg (by omega), if_neg (by omega), if_neg (by omega), if_neg (by omega), if_neg (by omega)]
      exact ⟨a, b, c, d⟩
  · by_cases e : j = k
    · subst e
      simp only [if_true]
      exact ⟨_, rfl, by omega, by omega, by omega, by omega, by omega, hg⟩
    · simp only [if_neg e]
      obtain ⟨g, g1, g2, g3, g4, g5, g6, g7⟩ := h.own j (by omega)
      exact ⟨g, g1, g2, g3, g4, g5, g6, (hold g (hlt _ _ g7) g4).trans g7⟩
  · have key : ∀ x, x < k → (qs x).a ≠ some ⟨wr.heap.size + 1, 0, none⟩ := fun x hx q => by
      obtain ⟨g, g1, _, _, _, _, _, g7⟩ := h.own x hx
      rw [g1] at q
      simp only [Option.some.injEq, Addr.mk.injEq, and_true] at q
      have := hlt _ _ g7
      omega
    by_cases e1 : i = k
    · by_cases e2 : j = k
      · omega
      · simp only [if_pos e1, if_neg e2]
        exact fun q => key j (by omega) q.symm
    · by_cases e2 : j = k
      · simp only [if_neg e1, if_pos e2]
        exact key i (by omega)
      · simp only [if_neg e1, if_neg e2]
        exact h.apart i j (by omega) (by omega) hij
/-- all frames are copied: the new machine -/
theorem cinv_end {W2 wr : World} {M : Mv} {nf B X Y Z ne nq : Nat} {OB : Obj} {F : Nat → Value} {qs : Nat → Fr} (hnf : nf = M.frs.length) (hne : ne = M.ens.length) (hnq : nq = M.qus.length) (hM : MachAt W2 M)
    (h : CInv W2 wr M.frs nf B X Y Z OB (.cells (M.ens.flatMap En.cells).toArray 87 (0, 0)) (.cells (M.qus.flatMap Qu.cells).toArray 69 (0, 0)) nf F qs)
    (hX : W2.heap.size ≤ X) (hY : W2.heap.size ≤ Y) (hZ : W2.heap.size ≤ Z) (hXY : X ≠ Y) (hXZ : X ≠ Z) (hYZ : Y ≠ Z) :
    ∃ N : Mv, N.val = .agg #[.slice (some ⟨X, 0, none⟩) nf nf, .slice (some ⟨Y, 0, none⟩) ne ne, .slice (some ⟨Z, 0, none⟩) nq nq] ∧ N.Same M ∧ Owned W2.heap.size wr N ∧ QRow W2.heap.size wr N := by
  subst hnf hne hnq
  have hget : ∀ j, j < M.frs.length → ((List.range M.frs.length).map qs).getD j default = qs j := fun j hj => by simp [List.getD_eq_getElem?_getD, hj]
  have hlen : ((List.range M.frs.length).map qs).length = M.frs.length := by simp
  have off : ∀ b b', b ≠ b' → Off (some ⟨b, 0, none⟩) (some ⟨b', 0, none⟩) := fun b b' hb x o s o' s' e e' => by
    simp only [Option.some.injEq, Addr.mk.injEq] at e e'
    exact hb (e.1.trans e'.1.symm)
  have new : ∀ b cs t, W2.heap.size ≤ b → wr.heap[b]? = some (.cells cs t (0, 0)) → New W2.heap.size wr (some ⟨b, 0, none⟩) := fun b cs t hb hc x o s e => by
    simp only [Option.some.injEq, Addr.mk.injEq] at e
    obtain ⟨rfl, _⟩ := e
    exact ⟨hb, (Array.getElem?_eq_some_iff.1 hc).1, frozen_of_block hc⟩
  have okd : ∀ j, j < M.frs.length → (qs j).Ok wr := fun j hj => by
    obtain ⟨s1, s2, s3, s4⟩ := h.same j hj
    obtain ⟨g, g1, _, _, _, _, _, g7⟩ := h.own j hj
    have q := hM.frok j hj
    exact ⟨by rw [s1]; exact q.wo, by rw [s2]; exact q.wat, by rw [s3]; exact q.wr, by rw [s4]; exact q.len, by rw [g1]; exact ints_of_block (rest := []) (by simpa using g7), by rw [s4]; exact q.wws⟩
  refine ⟨⟨some ⟨X, 0, none⟩, (List.range M.frs.length).map qs, M.frs.length, some ⟨Y, 0, none⟩, M.ens, M.ens.length, some ⟨Z, 0, none⟩, M.qus, M.qus.length⟩, by simp [Mv.val], ⟨hlen, fun j hj => ?_, rfl, rfl⟩, ?_, QRow.of_block (zs := []) hZ rfl (by simpa using h.hZ) (by simp only [List.append_nil]; exact flat_len (cells := Qu.cells) (c := 2) (fun _ => rfl) M.qus) (Nat.le_refl _) hM.qul⟩
  · have hj' : j < M.frs.length := by simpa using hj
    show (((List.range M.frs.length).map qs).getD j default).Same _
    rw [hget j hj']
    exact h.same j hj'
  · refine ⟨⟨?_, by dsimp only; rw [hlen]; exact hM.frl, by dsimp only; rw [hlen]; exact Nat.le_refl _, fun j hj => ?_, rows_of_block (cells := En.cells) (rest := []) (fun _ => rfl) (by simpa using h.hY), hM.enl, hM.enok, rows_of_block (cells := Qu.cells) (rest := []) (fun _ => rfl) (by simpa using h.hZ), hM.qul, hM.quok⟩,
      ?_, new Y _ _ hY h.hY, new Z _ _ hZ h.hZ, fun j hj => ?_, off X Y hXY, off X Z hXZ, off Y Z hYZ, fun j hj => ?_, fun j hj => ?_, fun j hj => ?_, fun i j hi hj hij => ?_⟩
    · refine .inr ⟨X, 0, rfl, fun j hj i hi => ?_⟩
      have hj' : j < M.frs.length := by simpa using hj
      show _ = (((List.range M.frs.length).map qs).getD j default).cells[i]?
      rw [hget j hj', Nat.zero_add]
      obtain ⟨a, b, c, d⟩ := h.cells j hj'
      have r0 := h.row.cell (i := j * 4) (by omega)
      have r1 := h.row.cell (i := j * 4 + 1) (by omega)
      have r2 := h.row.cell (i := j * 4 + 2) (by omega)
      have r3 := h.row.cell (i := j * 4 + 3) (by omega)
      rw [a] at r0
      rw [b] at r1
      rw [c] at r2
      rw [d] at r3
      match i, hi with
      | 0, _ => exact r0
      | 1, _ => exact r1
      | 2, _ => exact r2
      | 3, _ => exact r3
    · have hj' : j < M.frs.length := by simpa using hj
      show (((List.range M.frs.length).map qs).getD j default).Ok _
      rw [hget j hj']
      exact okd j hj'
    · intro b o s e
      simp only [Option.some.injEq, Addr.mk.injEq] at e
      obtain ⟨rfl, _⟩ := e
      exact ⟨hX, h.row.lt, fun o => h.row.frozen o⟩
    · have hj' : j < M.frs.length := by simpa using hj
      show New _ _ (((List.range M.frs.length).map qs).getD j default).a
      rw [hget j hj']
      obtain ⟨g, g1, g2, _, _, _, _, g7⟩ := h.own j hj'
      rw [g1]
      exact new g _ _ g2 g7
    · have hj' : j < M.frs.length := by simpa using hj
      show Off (((List.range M.frs.length).map qs).getD j default).a _
      rw [hget j hj']
      obtain ⟨g, g1, g2, g3, g4, g5, g6, g7⟩ := h.own j hj'
      rw [g1]
      exact off g X g4
    · have hj' : j < M.frs.length := by simpa using hj
      show Off (((List.range M.frs.length).map qs).getD j default).a _
      rw [hget j hj']
      obtain ⟨g, g1, g2, g3, g4, g5, g6, g7⟩ := h.own j hj'
      rw [g1]
      exact off g Y g5
    · have hj' : j < M.frs.length := by simpa using hj
      show Off (((List.range M.frs.length).map qs).getD j default).a _
      rw [hget j hj']
      obtain ⟨g, g1, g2, g3, g4, g5, g6, g7⟩ := h.own j hj'
      rw [g1]
      exact off g Z g6
    · have hj' : j < M.frs.length := by simpa using hj
      have hi' : i < M.frs.length := by simpa using hi
      show Off (((List.range M.frs.length).map qs).getD i default).a (((List.range M.frs.length).map qs).getD j default).a
      rw [hget j hj', hget i hi']
      have := h.apart i j hi' hj' hij
      obtain ⟨g, g1, _⟩ := h.own i hi'
      obtain ⟨g', g1', _⟩ := h.own j hj'
      rw [g1, g1'] at this ⊢
      exact off g g' fun q => this (by rw [q])
set_option maxRecDepth 100000 in
set_option maxHeartbeats 4000000 in
theorem copyM_own (M : Mv) (w : World) (hM : MachAt w M) (hF : M.Fits) :
    Calls Try.prog 37 #[M.val] w fun e w' => ∃ N : Mv, e = .returned N.val ∧ N.Same M ∧ Owned w.heap.size w' N ∧ Below w.heap.size w w' ∧ QRow w.heap.size w' N := by
  have hl1 := hM.frl
  have hl2 := hM.enl
  have hl3 := hM.qul
  unfold maxLen at hl1 hl2 hl3
  have mk1 := make_rows 39 83 _ 4 48 Try.underlying39 info_frame M.frs.length (by have := hF.fr; omega) (by omega)
  have mk2 := make_rows 40 87 _ 7 64 Try.underlying40 info_enclave M.ens.length (by have := hF.en; omega) (by omega)
  have mk3 := make_rows 41 69 _ 2 24 Try.underlying41 info_quote M.qus.length (by have := hF.qu; omega) (by omega)
  unfold Mv.val
  obtain ⟨nf, hnf⟩ : ∃ nf, Hid (nf = M.frs.length) := ⟨_, rfl⟩
  obtain ⟨ne, hne⟩ : ∃ ne, Hid (ne = M.ens.length) := ⟨_, rfl⟩
  obtain ⟨nq, hnq⟩ : ∃ nq, Hid (nq = M.qus.length) := ⟨_, rfl⟩
  rw [← hnf.out] at hl1 mk1
  rw [← hne.out] at hl2 mk2
  rw [← hnq.out] at hl3 mk3
  rw [← hnf.out, ← hne.out, ← hnq.out]
  obtain ⟨W2, hW2⟩ : ∃ W2, Hid (W2 = (w.alloc (.cells #[.slice M.fa nf M.fcap, .slice M.ea ne M.ecap, .slice M.qa nq M.qcap] 43)).alloc (.cells #[.slice none 0 0, .slice none 0 0, .slice none 0 0] 43)) := ⟨_, rfl⟩
  have p0 : W2.cell? ⟨w.heap.size, 0, none⟩ = some (.slice M.fa nf M.fcap) := by rw [hW2.out, World.cell?_alloc_past _ _ _ (by simp), World.cell?_alloc_at _ _ _ _ rfl]; rfl
  have p1 : W2.cell? ⟨w.heap.size, 1, none⟩ = some (.slice M.ea ne M.ecap) := by rw [hW2.out, World.cell?_alloc_past _ _ _ (by simp), World.cell?_alloc_at _ _ _ _ rfl]; rfl
  have p2 : W2.cell? ⟨w.heap.size, 2, none⟩ = some (.slice M.qa nq M.qcap) := by rw [hW2.out, World.cell?_alloc_past _ _ _ (by simp), World.cell?_alloc_at _ _ _ _ rfl]; rfl
  have s2 : w.heap.size < W2.heap.size := lt_of_cell p0
  have s3 : w.heap.size < W2.heap.size + 1 := by omega
  have s4 : w.heap.size < W2.heap.size + 1 + 1 := by omega
  have s5 : w.heap.size < W2.heap.size + 2 := by omega
  have s6 : w.heap.size < W2.heap.size + 3 := by omega
  have s7 : w.heap.size < W2.heap.size + 1 + 1 + 1 := by omega
  go_enter Try.func37, Try.ntmps37
  go_upto_region 1 with fail
  rw [← hW2.out]
  go_cut [3, 9, 13, 17] from 6 (fun s3 s9 s13 s17 wx => ∃ B X Y Z, s3 = .pointer (some ⟨B, 0, none⟩) ∧ s9 = .slice (some ⟨X, 0, none⟩) nf nf ∧ s13 = .slice (some ⟨Y, 0, none⟩) ne ne ∧ s17 = .slice (some ⟨Z, 0, none⟩) nq nq ∧ Made W2 wx nf ne nq B X Y Z)
  case first =>
    go_big_region
    all_goals
      go_wp2_with fail
      go_meet
      case rel =>
        refine ⟨_, _, _, _, rfl, rfl, rfl, rfl, ?_⟩
        exact ⟨by omega, by omega, by omega, by omega, by omega, by omega, by omega, by omega, by omega, by omega,
          by first | exact al4 _ _ _ _ _ | exact al3 _ _ _ _ _ | exact al2 _ _ _ _ _ | exact al1 _ _ _ _ _, by first | exact al4 _ _ _ _ _ | exact al3 _ _ _ _ _ | exact al2 _ _ _ _ _ | exact al1 _ _ _ _ _,
          by first | exact al4 _ _ _ _ _ | exact al3 _ _ _ _ _ | exact al2 _ _ _ _ _ | exact al1 _ _ _ _ _, by first | exact al4 _ _ _ _ _ | exact al3 _ _ _ _ _ | exact al2 _ _ _ _ _ | exact al1 _ _ _ _ _, alB _ _ _ _ _⟩
  case rest =>
    obtain ⟨B, X, Y, Z, rfl, rfl, rfl, rfl, hm⟩ := hcut
    have S2 : Hid (w.heap.size < W2.heap.size) := s2
    have BW : Hid (Below w.heap.size w W2) := by show Below _ _ _; rw [hW2.out]; exact ((Below.refl _ _).alloc (Nat.le_refl _) _).alloc (by simp) _
    have hM2 := hM.below BW.out
    have P0 : Hid (W2.cell? ⟨w.heap.size, 0, none⟩ = some (.slice M.fa nf M.fcap)) := p0
    have P1 : Hid (W2.cell? ⟨w.heap.size, 1, none⟩ = some (.slice M.ea ne M.ecap)) := p1
    have P2 : Hid (W2.cell? ⟨w.heap.size, 2, none⟩ = some (.slice M.qa nq M.qcap)) := p2
    have R2 : Hid (W2.cell? ⟨w.heap.size + 1, 0, none⟩ = some (.slice none 0 0) ∧ W2.cell? ⟨w.heap.size + 1, 1, none⟩ = some (.slice none 0 0) ∧ W2.cell? ⟨w.heap.size + 1, 2, none⟩ = some (.slice none 0 0) ∧ ∀ o, W2.frozen? ⟨w.heap.size + 1, o, none⟩ = false) := by
      show _ ∧ _ ∧ _ ∧ _
      rw [hW2.out, World.cell?_alloc_at _ _ _ _ (by simp), World.cell?_alloc_at _ _ _ _ (by simp), World.cell?_alloc_at _ _ _ _ (by simp)]
      exact ⟨rfl, rfl, rfl, fun o => World.frozen?_alloc_at _ _ _ _ (by simp)⟩
    clear mk1 mk2 mk3 p0 p1 p2 s2 s3 s4 s5 s6 s7 hM
    obtain ⟨w3, hr3, g3, o3, b3⟩ := copy_rows (P := Try.prog) (cells := En.cells) (c := 7) (fun _ => rfl) (by omega) (fun q v hv => by simp [En.cells] at hv; rcases hv with rfl | rfl | rfl | rfl | rfl | rfl | rfl <;> rfl) wc 40 3 87 87 Try.underlying40 (by kernel_rfl) Y M.ecap M.ea M.ens (hM2.below hm.bel).en _ hm.hY (by rw [size_madeCells, ← hne.out])
    rw [← hne.out] at hr3
    obtain ⟨w4, hr4, g4, o4, b4⟩ := copy_rows (P := Try.prog) (cells := Qu.cells) (c := 2) (fun _ => rfl) (by omega) (fun q v hv => by simp [Qu.cells] at hv; rcases hv with rfl | rfl <;> rfl) w3 41 3 69 69 Try.underlying41 (by kernel_rfl) Z M.qcap M.qa M.qus (hM2.below (b3 _ _ hm.lY hm.bel)).qu _ ((o3 Z (Ne.symm hm.YZ)).trans hm.hZ) (by rw [size_madeCells, ← hnq.out])
    rw [← hnq.out] at hr4
    have HB3 : Hid (Below W2.heap.size W2 w3) := b3 _ _ hm.lY hm.bel
    have HB4 : Hid (Below W2.heap.size W2 w4) := b4 _ _ hm.lZ HB3.out
    have hB4 : Hid (w4.heap[B]? = some (.cells #[.slice (some ⟨X, 0, none⟩) nf nf, .slice (some ⟨Y, 0, none⟩) ne ne, .slice (some ⟨Z, 0, none⟩) nq nq] 43 (0, 0))) := ((o4 B hm.BZ).trans (o3 B hm.BY)).trans hm.hB
    have hX4 : Hid (w4.heap[X]? = some (.cells (madeCells #[.int .i64 0, .int .i64 0, .int .i64 0, .slice none 0 0] (nf * 4)) 83 (0, 0))) := ((o4 X hm.XZ).trans (o3 X hm.XY)).trans hm.hX
    have hY4 : Hid (w4.heap[Y]? = some (.cells (M.ens.flatMap En.cells).toArray 87 (0, 0))) := (o4 Y hm.YZ).trans g3
    have hZ4 : Hid (w4.heap[Z]? = some (.cells (M.qus.flatMap Qu.cells).toArray 69 (0, 0))) := g4
    have x1 : wc.cell? ⟨B, 1, none⟩ = some (.slice (some ⟨Y, 0, none⟩) ne ne) := by simp [World.cell?, hm.hB]
    have x2 : wc.cell? ⟨w.heap.size, 1, none⟩ = some (.slice M.ea ne M.ecap) := (hm.bel.cell (p := ⟨w.heap.size, 1, none⟩) S2.out).trans P1.out
    have y1 : w3.cell? ⟨B, 2, none⟩ = some (.slice (some ⟨Z, 0, none⟩) nq nq) := by simp [World.cell?, (o3 B hm.BY), hm.hB]
    have y2 : w3.cell? ⟨w.heap.size, 2, none⟩ = some (.slice M.qa nq M.qcap) := (HB3.out.cell (p := ⟨w.heap.size, 2, none⟩) S2.out).trans P2.out
    have z1 : w4.cell? ⟨w.heap.size, 0, none⟩ = some (.slice M.fa nf M.fcap) := (HB4.out.cell (p := ⟨w.heap.size, 0, none⟩) S2.out).trans P0.out
    have HM : Hid (Made W2 wc nf ne nq B X Y Z) := hm
    clear hm g3 o3 b3 g4 o4 b4
    go_wp2
    have st : ∃ F qs, CInv W2 w4 M.frs nf B X Y Z (.cells #[.slice (some ⟨X, 0, none⟩) nf nf, .slice (some ⟨Y, 0, none⟩) ne ne, .slice (some ⟨Z, 0, none⟩) nq nq] 43 (0, 0)) (.cells (M.ens.flatMap En.cells).toArray 87 (0, 0)) (.cells (M.qus.flatMap Qu.cells).toArray 69 (0, 0)) 0 F qs := by
      refine ⟨fun j => (#[Value.int .i64 0, .int .i64 0, .int .i64 0, .slice none 0 0])[j % 4]!, fun _ => default, ⟨HB4.out, hB4.out, hY4.out, hZ4.out, ?_, fun j hj => absurd hj (by omega), fun j hj => absurd hj (by omega), fun j hj => absurd hj (by omega), fun i j hi => absurd hi (by omega)⟩⟩
      exact ⟨_, hX4.out, size_madeCells _ _, fun i hi => by simp [madeCells, hi]⟩
    have ST : Hid (_) := st
    have HFW : Hid (∀ j, j < M.frs.length → (M.frs.getD j default).ws.length * 8 ≤ 140737488351232) := hF.ws
    clear hr3 hr4 x1 x2 y1 y2 z1 hB4 hX4 hY4 hZ4 HB3 HB4 st hF
    go_loopw [32] (fun i wr => ∃ k : Nat, k ≤ nf ∧ i = .int .i64 k ∧ Hid (∃ F qs, CInv W2 wr M.frs nf B X Y Z (.cells #[.slice (some ⟨X, 0, none⟩) nf nf, .slice (some ⟨Y, 0, none⟩) ne ne, .slice (some ⟨Z, 0, none⟩) nq nq] 43 (0, 0)) (.cells (M.ens.flatMap En.cells).toArray 87 (0, 0)) (.cells (M.qus.flatMap Qu.cells).toArray 69 (0, 0)) k F qs)) (fun i _ => nf - (intOf i).toNat)
    case atStart => exact ⟨0, Nat.zero_le _, rfl, ST⟩
    case round =>
      obtain ⟨k, hk, rfl, hI⟩ := hrel
      clear ST
      obtain ⟨F, qs, hC⟩ := hI.out
      have HC : Hid (_) := hC
      clear hI
      by_cases hlt : k < nf
      · have hMr := hM2.below hC.bel
        obtain ⟨fb, fo, hfa, c0, c1, c2, c3⟩ := hMr.frame (j := k) (by rw [← hnf.out]; exact hlt)
        have hok := hMr.frok k (by rw [← hnf.out]; exact hlt)
        have hww := HFW.out k (by rw [← hnf.out]; exact hlt)
        have b0 : fb < wr.heap.size := lt_of_cell c0
        have o0 : wr.cell? ⟨B, 0, none⟩ = some (.slice (some ⟨X, 0, none⟩) nf nf) := by simp [World.cell?, hC.hB]
        have b1 : B < wr.heap.size := lt_of_cell o0
        have r0 := hC.row.cell (i := k * 4) (by omega)
        have r1 := hC.row.cell (i := k * 4 + 1) (by omega)
        have r2 := hC.row.cell (i := k * 4 + 2) (by omega)
        have r3 := hC.row.cell (i := k * 4 + 3) (by omega)
        have f0 := hC.row.frozen (k * 4)
        have f1 := hC.row.frozen (k * 4 + 1)
        have f2 := hC.row.frozen (k * 4 + 2)
        have f3 := hC.row.frozen (k * 4 + 3)
        have b2 : X < wr.heap.size := lt_of_cell r0
        have hBX := HM.out.BX
        obtain ⟨P, hP⟩ : ∃ P, Hid (P = M.frs.getD k default) := ⟨_, rfl⟩
        rw [← hP.out] at c0 c1 c2 c3 hok hww
        obtain ⟨o, fat, r, pa, ws, pcap⟩ := P
        dsimp only at c0 c1 c2 c3 hww
        have HOK : Hid (_) := hok
        have hmw := run_make_row' (P := Try.prog) 22 3 (.int .i64 0) 8 Try.underlying22 info_int4 rfl .i64 .i64 ws.length (by omega) (by omega)
        clear hMr hC hok
        obtain ⟨Mfa, Mfrs, Mfcap, Mea, Mens, Mecap, Mqa, Mqus, Mqcap⟩ := M
        dsimp only at *
        subst hfa
        go_wp2
        obtain ⟨W7, hW7⟩ : ∃ W7, Hid (W7 = ((((wr.setCell ⟨X, k * 4, none⟩ (.int .i64 o)).setCell ⟨X, k * 4 + 1, none⟩ (.int .i64 fat)).setCell ⟨X, k * 4 + 2, none⟩ (.int .i64 r)).setCell ⟨X, k * 4 + 3, none⟩ (.slice pa ws.length pcap)).alloc (.cells #[.int .i64 o, .int .i64 fat, .int .i64 r, .slice pa ws.length pcap] 83)) := ⟨_, rfl⟩
        rw [← hW7.out]
        have R7 : Hid (W7.rowIs X 83 (nf * 4) (fun j => if j = k * 4 + 3 then .slice pa ws.length pcap else if j = k * 4 + 2 then .int .i64 r else if j = k * 4 + 1 then .int .i64 fat else if j = k * 4 then .int .i64 o else F j)) := by
          show World.rowIs _ _ _ _ _
          rw [hW7.out]
          exact ((((HC.out.row.set _ _).set _ _).set _ _).set _ _).alloc _
        have S7 : Hid (W7.heap.size = wr.heap.size + 1) := by show _ = _; rw [hW7.out]; simp
        have H7 : Hid (∀ b, b < wr.heap.size → b ≠ X → W7.heap[b]? = wr.heap[b]?) := fun b hb hX => by
          rw [hW7.out, Below.heap_alloc _ _ _ (by simpa using hb), Below.heap_setCell _ _ _ _ hX, Below.heap_setCell _ _ _ _ hX, Below.heap_setCell _ _ _ _ hX, Below.heap_setCell _ _ _ _ hX]
        have L7 : Hid (Below W2.heap.size W2 W7) := by
          show Below _ _ _
          rw [hW7.out]
          have hX := HM.out.lX
          exact ((((HC.out.bel.setCell hX _).setCell hX _).setCell hX _).setCell hX _).alloc (by have := HC.out.bel.size; simp; omega) _
        have q0 : W7.cell? ⟨B, 0, none⟩ = some (.slice (some ⟨X, 0, none⟩) nf nf) := (World.cell?_of_block (H7.out B b1 hBX)).trans o0
        have q3 : W7.cell? ⟨X, k * 4 + 3, none⟩ = some (.slice pa ws.length pcap) := by
          have := R7.out.cell (i := k * 4 + 3) (by omega)
          rw [if_pos rfl] at this
          exact this
        have qf : W7.frozen? ⟨X, k * 4 + 3, none⟩ = false := R7.out.frozen _
        have qp : W7.cell? ⟨wr.heap.size, 3, none⟩ = some (.slice pa ws.length pcap) := by rw [hW7.out, World.cell?_alloc_at _ _ _ _ (by simp)]; rfl
        have n1 : B < W7.heap.size := lt_of_cell q0
        have n2 : X < W7.heap.size := lt_of_cell q3
        have n3 : wr.heap.size < W7.heap.size := lt_of_cell qp
        clear hW7 c0 c1 c2 c3 o0 r0 r1 r2 r3 f0 f1 f2 f3 b0
        go_big_region
        obtain ⟨W8, hW8⟩ : ∃ W8, Hid (W8 = ((W7.setCell ⟨X, k * 4 + 3, none⟩ (.slice (some ⟨W7.heap.size, 0, none⟩) ws.length ws.length)).alloc (.cells (madeCells #[.int .i64 0] ws.length) 3)).drew) := ⟨_, rfl⟩
        rw [← hW8.out]
        have R8 : Hid (W8.rowIs X 83 (nf * 4) (rowAt F k o fat r (.slice (some ⟨wr.heap.size + 1, 0, none⟩) ws.length ws.length))) := by
          show World.rowIs _ _ _ _ _
          rw [hW8.out, S7.out]
          refine World.rowIs.congr ((R7.out.set _ _).alloc _).drew fun j _ => ?_
          unfold rowAt
          by_cases h3 : j = k * 4 + 3
          · simp [h3]
          · simp only [if_neg h3]
        have G8 : Hid (W8.heap[wr.heap.size + 1]? = some (.cells (List.replicate ws.length (Value.int .i64 0)).toArray 3 (0, 0))) := by
          show _ = _
          rw [hW8.out, ← toList_madeCells_one (.int .i64 0) ws.length]
          show ((W7.setCell ⟨X, k * 4 + 3, none⟩ (.slice (some ⟨W7.heap.size, 0, none⟩) ws.length ws.length)).alloc _).heap[wr.heap.size + 1]? = _
          have := Go.Deep.blk_alloc_new (W7.setCell ⟨X, k * 4 + 3, none⟩ (.slice (some ⟨W7.heap.size, 0, none⟩) ws.length ws.length)) (.cells (madeCells #[.int .i64 0] ws.length) 3)
          have e : (W7.setCell ⟨X, k * 4 + 3, none⟩ (.slice (some ⟨W7.heap.size, 0, none⟩) ws.length ws.length)).heap.size = wr.heap.size + 1 := by rw [← S7.out]; simp [World.setCell]
          rw [e] at this
          simpa using this
        have H8 : Hid (∀ b, b < W7.heap.size → b ≠ X → W8.heap[b]? = W7.heap[b]?) := fun b hb hX => by
          rw [hW8.out]
          show ((W7.setCell ⟨X, k * 4 + 3, none⟩ (.slice (some ⟨W7.heap.size, 0, none⟩) ws.length ws.length)).alloc _).heap[b]? = _
          rw [Below.heap_alloc _ _ _ (by simp [World.setCell]; exact hb), Below.heap_setCell _ _ _ _ hX]
        have Z8 : Hid (W8.heap.size = wr.heap.size + 2) := by
          show _ = _
          rw [hW8.out]
          show ((W7.setCell ⟨X, k * 4 + 3, none⟩ (.slice (some ⟨W7.heap.size, 0, none⟩) ws.length ws.length)).alloc _).heap.size = _
          have := S7.out
          simp [World.setCell]
          omega
        have L8 : Hid (Below W2.heap.size W2 W8) := by
          show Below _ _ _
          rw [hW8.out]
          exact ((L7.out.setCell HM.out.lX _).alloc (by have := L7.out.size; simp [World.setCell]; omega) _).drew
        have t0 : W8.cell? ⟨B, 0, none⟩ = some (.slice (some ⟨X, 0, none⟩) nf nf) := (World.cell?_of_block (H8.out B n1 hBX)).trans q0
        have t3 : W8.cell? ⟨X, k * 4 + 3, none⟩ = some (.slice (some ⟨wr.heap.size + 1, 0, none⟩) ws.length ws.length) := by
          have := R8.out.cell (i := k * 4 + 3) (by omega)
          unfold rowAt at this
          rw [if_pos rfl] at this
          exact this
        have tp : W8.cell? ⟨wr.heap.size, 3, none⟩ = some (.slice pa ws.length pcap) := (World.cell?_of_block (H8.out wr.heap.size n3 (by omega))).trans qp
        have HI : Hid (Ints W8 pa ws) := by
          show Ints _ _ _
          have := (hM2.frok k (by rw [← hnf.out]; exact hlt)).ints.below L8.out
          rw [← hP.out] at this
          exact this
        have HS : Hid (∀ w9, w9.heap[wr.heap.size + 1]? = some (.cells (splice (List.replicate ws.length (Value.int .i64 0)) 0 (wvals ws)).toArray 3 (0, 0)) → Below (wr.heap.size + 1) W8 w9 → ∃ F' qs', CInv W2 w9 Mfrs nf B X Y Z (.cells #[.slice (some ⟨X, 0, none⟩) nf nf, .slice (some ⟨Y, 0, none⟩) ne ne, .slice (some ⟨Z, 0, none⟩) nq nq] 43 (0, 0)) (.cells (Mens.flatMap En.cells).toArray 87 (0, 0)) (.cells (Mqus.flatMap Qu.cells).toArray 69 (0, 0)) (k + 1) F' qs') := fun w9 g9 b9 => by
          have e : splice (List.replicate ws.length (Value.int .i64 0)) 0 (wvals ws) = wvals ws := by simp [splice, wvals_len]
          rw [e] at g9
          have z8 := Z8.out
          have s7 := S7.out
          have s2 := HC.out.bel.size
          exact cinv_step HC.out HM.out.BX HM.out.XY HM.out.XZ hP.out (R8.out.of_block (b9.block X (by omega))) (L8.out.trans (b9.mono (by omega))) g9 (fun b hb hX => ((b9.block b (by omega)).trans (H8.out b (by omega) hX)).trans (H7.out b hb hX))
        clear hW8 q0 q3 qf qp n1 n2 n3 R7 R8 H7 H8 Z8 L7 hmw
        go_wp2
        go_region_law (refine step_copy_splice rfl (.tmp 56) (.tmp 58) 22 22 rfl 3 Try.underlying22 (by kernel_rfl) (some ⟨wr.heap.size + 1, 0, none⟩) pa ws.length ws.length ws.length pcap (by simp [Act.eval]) (by simp [Act.eval]) (wr.heap.size + 1) 0 (List.replicate ws.length (.int .i64 0)) 3 G8.out (wvals ws) (by simp [wvals_len]) (fun h => ⟨rfl, wvals_src HI.out h⟩) (by simp [wvals_len]) (wvals_one ws) (wr.heap.size + 1) W8 (Below.refl _ _).drew (Nat.le_refl _) ?_; intro w9 hg9 hb9)
        all_goals
          have R := HS.out w9 hg9.out hb9
          clear HS hg9 hb9 G8 t0 t3 tp
          go_wp2
          go_roundw
          case rel => exact ⟨k + 1, by omega, by go_num, R⟩
          case measure => simp [intOf]; omega
      · have hge : ¬ ((k : Int) < (nf : Int)) := by omega
        have hkn : k = nf := by omega
        obtain ⟨N, hN1, hN2, hN3, hN4⟩ := cinv_end hnf.out hne.out hnq.out hM2 (hkn ▸ HC.out) HM.out.lX HM.out.lY HM.out.lZ HM.out.XY HM.out.XZ HM.out.YZ
        have HN : Hid (N.val = .agg #[.slice (some ⟨X, 0, none⟩) nf nf, .slice (some ⟨Y, 0, none⟩) ne ne, .slice (some ⟨Z, 0, none⟩) nq nq] ∧ N.Same M ∧ Owned W2.heap.size wr N ∧ QRow W2.heap.size wr N) := ⟨hN1, hN2, hN3, hN4⟩
        obtain ⟨u0, u1, u2, uf⟩ := R2.out
        have hb := hC.bel
        have sz : w.heap.size + 1 < W2.heap.size := lt_of_cell u0
        have v0 : wr.cell? ⟨w.heap.size + 1, 0, none⟩ = some (.slice none 0 0) := (hb.cell (p := ⟨w.heap.size + 1, 0, none⟩) sz).trans u0
        have v1 : wr.cell? ⟨w.heap.size + 1, 1, none⟩ = some (.slice none 0 0) := (hb.cell (p := ⟨w.heap.size + 1, 1, none⟩) sz).trans u1
        have v2 : wr.cell? ⟨w.heap.size + 1, 2, none⟩ = some (.slice none 0 0) := (hb.cell (p := ⟨w.heap.size + 1, 2, none⟩) sz).trans u2
        have vf : ∀ o, wr.frozen? ⟨w.heap.size + 1, o, none⟩ = false := fun o => (hb.frozen (p := ⟨w.heap.size + 1, o, none⟩) sz).trans (uf o)
        have vf0 := vf 0
        have vf1 := vf 1
        have vf2 := vf 2
        have w0 : wr.cell? ⟨B, 0, none⟩ = some (.slice (some ⟨X, 0, none⟩) nf nf) := by simp [World.cell?, hC.hB]
        have w1 : wr.cell? ⟨B, 1, none⟩ = some (.slice (some ⟨Y, 0, none⟩) ne ne) := by simp [World.cell?, hC.hB]
        have w2 : wr.cell? ⟨B, 2, none⟩ = some (.slice (some ⟨Z, 0, none⟩) nq nq) := by simp [World.cell?, hC.hB]
        have HB : Hid (Below W2.heap.size W2 wr) := hb
        clear u0 u1 u2 uf hN1 hN2 hN3 hN4 hkn hC HC vf hb R2 hM2
        go_wp2
        obtain ⟨W9, hW9⟩ : ∃ W9, Hid (W9 = ((wr.setCell ⟨w.heap.size + 1, 0, none⟩ (.slice (some ⟨X, 0, none⟩) nf nf)).setCell ⟨w.heap.size + 1, 1, none⟩ (.slice (some ⟨Y, 0, none⟩) ne ne)).setCell ⟨w.heap.size + 1, 2, none⟩ (.slice (some ⟨Z, 0, none⟩) nq nq)) := ⟨_, rfl⟩
        rw [← hW9.out]
        have k0 : W9.cell? ⟨w.heap.size + 1, 0, none⟩ = some (.slice (some ⟨X, 0, none⟩) nf nf) := by
          rw [hW9.out, World.cell?_setCell_other _ _ _ _ (by simp), World.cell?_setCell_other _ _ _ _ (by simp)]
          exact World.cell?_setCell_same _ _ _ v0
        have k1 : W9.cell? ⟨w.heap.size + 1, 1, none⟩ = some (.slice (some ⟨Y, 0, none⟩) ne ne) := by
          rw [hW9.out, World.cell?_setCell_other _ _ _ _ (by simp)]
          exact World.cell?_setCell_same _ _ _ ((World.cell?_setCell_other _ _ _ _ (by simp)).trans v1)
        have k2 : W9.cell? ⟨w.heap.size + 1, 2, none⟩ = some (.slice (some ⟨Z, 0, none⟩) nq nq) := by
          rw [hW9.out]
          exact World.cell?_setCell_same _ _ _ ((World.cell?_setCell_other _ _ _ _ (by simp)).trans ((World.cell?_setCell_other _ _ _ _ (by simp)).trans v2))
        have HO : Hid (Owned w.heap.size W9 N) := by
          show Owned _ _ _
          refine (HN.out.2.2.1.keep (fun b hb _ => ?_) (by rw [hW9.out]; simp [World.setCell])).mono (by omega)
          rw [hW9.out, Below.heap_setCell _ _ _ _ (by simp; omega), Below.heap_setCell _ _ _ _ (by simp; omega), Below.heap_setCell _ _ _ _ (by simp; omega)]
        have HQ : Hid (QRow w.heap.size W9 N) := by
          show QRow _ _ _
          refine (HN.out.2.2.2.keep (fun b o s e => ?_)).mono (by omega)
          have := (HN.out.2.2.1.nq b o s e).1
          rw [hW9.out, Below.heap_setCell _ _ _ _ (by simp; omega), Below.heap_setCell _ _ _ _ (by simp; omega), Below.heap_setCell _ _ _ _ (by simp; omega)]
        have HE : Hid (Below w.heap.size w W9) := by
          show Below _ _ _
          rw [hW9.out]
          exact (((BW.out.trans (HB.out.mono (by omega))).setCell (by simp) _).setCell (by simp) _).setCell (by simp) _
        clear v0 v1 v2 vf0 vf1 vf2 w0 w1 w2
        (try simp only [Exit.inBlock, Exit.then])
        refine bodyPost_ret (by simp [results, Try.results37, go_sem, k0, k1, k2]; try rfl) rfl ?_
        exact ⟨N, by have := HN.out.1; unfold Mv.val at this; rw [this], HN.out.2.1, HO.out, HE.out, HQ.out⟩
theorem copyM_any (M : Mv) (w : World) (hM : MachAt w M) (hF : M.Fits) :
    Calls Try.prog 37 #[M.val] w fun e w' => ∃ N : Mv, e = .returned N.val ∧ N.Same M ∧ Owned w.heap.size w' N ∧ Below w.heap.size w w' :=
  (copyM_own M w hM hF).mono (fun _ _ ⟨N, h1, h2, h3, h4, _⟩ => ⟨N, h1, h2, h3, h4⟩)

end Go.Proofs.Ytdbbiibnhgcndaa
