/-
  What the call sharedFrame (epc) answers: a frame that all share, its words in a new block; and what the store of an Empty enclave makes of a machine in memory of its own. No condition beside the cells.
-/
import Derived.Test.YtdbbiibnhgcndaaOwnFr
import Derived.Test.YtdbbiibnhgcndaaMInv
namespace Go.Proofs.Ytdbbiibnhgcndaa
open Go.RowKit

theorem make8 (w : World) : (Instr.makeSlice 22 (.int .i64 8) (.int .i64 8)).run Try.prog w = .ok (.slice (some ⟨w.heap.size, 0, none⟩) 8 8) (w.alloc (.cells (madeCells #[.int .i64 0] 8) 3)) :=
  run_make_row' (P := Try.prog) 22 3 (.int .i64 0) 8 Try.underlying22 info_i rfl .i64 .i64 8 (by omega) (by omega) w
theorem made8 : madeCells #[Value.int .i64 0] 8 = (wvals (List.replicate 8 0)).toArray := by
  rw [← Array.toArray_toList (xs := madeCells #[Value.int .i64 0] 8), toList_madeCells_one]
  simp [wvals]
theorem sharedFrame_any (w : World) : Calls Try.prog 67 #[] w fun x w' =>
    x = .returned (.agg #[.int .i64 0, .int .i64 0, .int .i64 0, .slice (some ⟨w.heap.size + 1, 0, none⟩) 8 8]) ∧ w'.heap[w.heap.size + 1]? = some (.cells (wvals (List.replicate 8 0)).toArray 3 (0, 0)) ∧ Below w.heap.size w w' := by
  have mk := make8
  go_enter Try.func67, Try.ntmps67
  go_wp2
  have B2 : ∀ o1 o2, Below w.heap.size w ((w.alloc o1).alloc o2) := fun o1 o2 => ((Below.refl _ _).alloc (Nat.le_refl _) _).alloc (by simp) _
  go_returns
  exact ⟨rfl, by rw [← made8]; exact a22 _ _ _, B2 _ _⟩

theorem Owned.zeroEn {n0 : Nat} {w : World} {M : Mv} (h : Owned n0 w M) {eb eo k : Nat} (he : M.ea = some ⟨eb, eo, none⟩) (hk : k < M.ens.length) :
    Owned n0 (((((((w.setCell ⟨eb, eo + k * 7, none⟩ (.int .i64 0)).setCell ⟨eb, eo + k * 7 + 1, none⟩ (.string ByteArray.empty)).setCell ⟨eb, eo + k * 7 + 2, none⟩ (.int .i64 0)).setCell ⟨eb, eo + k * 7 + 3, none⟩ (.int .i64 0)).setCell ⟨eb, eo + k * 7 + 4, none⟩ (.int .i64 0)).setCell ⟨eb, eo + k * 7 + 5, none⟩ (.int .i64 0)).setCell ⟨eb, eo + k * 7 + 6, none⟩ (.int .i64 0)) { M with ens := M.ens.set k default } := by
  have z : (Lit.int .i64 0).wf = true := by decide
  have q := h.at_.enok k hk
  obtain ⟨E, hE⟩ : ∃ E, E = M.ens.getD k default := ⟨_, rfl⟩
  rw [← hE] at q
  have step : ∀ {w : World} {N : Mv} (_ : Owned n0 w N) (_ : N.ea = some ⟨eb, eo, none⟩) (_ : k < N.ens.length) (i0 : Nat) (_ : i0 < 7) (e0 e' : En) (v : Value) (_ : N.ens.getD k default = e0) (_ : e'.Ok) (_ : ∀ i, i < 7 → e'.cells[i]? = if i = i0 then some v else e0.cells[i]?),
      Owned n0 (w.setCell ⟨eb, eo + k * 7 + i0, none⟩ v) { N with ens := N.ens.set k e' } := fun h he hk i0 hi e0 e' v h0 hok hx => h.setEn he hk hi hok (by rw [h0]; exact hx)
  have g : ∀ (N : Mv) (e : En), k < N.ens.length → (N.ens.set k e).getD k default = e := fun N e hk => by rw [getD_set _ _ _ _ hk, if_pos rfl]
  have s1 := step h he hk 0 (by omega) E { E with st := 0 } (.int .i64 0) hE.symm ⟨z, q.len, q.wpc, q.w0, q.w1, q.w2, q.w3⟩ (fun i hi => by match i, hi with | 0, _ => rfl | 1, _ => rfl | 2, _ => rfl | 3, _ => rfl | 4, _ => rfl | 5, _ => rfl | 6, _ => rfl)
  have s2 := step s1 he (by simpa using hk) 1 (by omega) _ { E with st := 0, log := ByteArray.empty } (.string ByteArray.empty) (g _ _ hk) ⟨z, Nat.zero_le _, q.wpc, q.w0, q.w1, q.w2, q.w3⟩ (fun i hi => by match i, hi with | 0, _ => rfl | 1, _ => rfl | 2, _ => rfl | 3, _ => rfl | 4, _ => rfl | 5, _ => rfl | 6, _ => rfl)
  have s3 := step s2 he (by simpa using hk) 2 (by omega) _ { E with st := 0, log := ByteArray.empty, pc := 0 } (.int .i64 0) (g _ _ (by simpa using hk)) ⟨z, Nat.zero_le _, z, q.w0, q.w1, q.w2, q.w3⟩ (fun i hi => by match i, hi with | 0, _ => rfl | 1, _ => rfl | 2, _ => rfl | 3, _ => rfl | 4, _ => rfl | 5, _ => rfl | 6, _ => rfl)
  have s4 := step s3 he (by simpa using hk) 3 (by omega) _ { E with st := 0, log := ByteArray.empty, pc := 0, g0 := 0 } (.int .i64 0) (g _ _ (by simpa using hk)) ⟨z, Nat.zero_le _, z, z, q.w1, q.w2, q.w3⟩ (fun i hi => by match i, hi with | 0, _ => rfl | 1, _ => rfl | 2, _ => rfl | 3, _ => rfl | 4, _ => rfl | 5, _ => rfl | 6, _ => rfl)
  have s5 := step s4 he (by simpa using hk) 4 (by omega) _ { E with st := 0, log := ByteArray.empty, pc := 0, g0 := 0, g1 := 0 } (.int .i64 0) (g _ _ (by simpa using hk)) ⟨z, Nat.zero_le _, z, z, z, q.w2, q.w3⟩ (fun i hi => by match i, hi with | 0, _ => rfl | 1, _ => rfl | 2, _ => rfl | 3, _ => rfl | 4, _ => rfl | 5, _ => rfl | 6, _ => rfl)
  have s6 := step s5 he (by simpa using hk) 5 (by omega) _ { E with st := 0, log := ByteArray.empty, pc := 0, g0 := 0, g1 := 0, g2 := 0 } (.int .i64 0) (g _ _ (by simpa using hk)) ⟨z, Nat.zero_le _, z, z, z, z, q.w3⟩ (fun i hi => by match i, hi with | 0, _ => rfl | 1, _ => rfl | 2, _ => rfl | 3, _ => rfl | 4, _ => rfl | 5, _ => rfl | 6, _ => rfl)
  have s7 := step s6 he (by simpa using hk) 6 (by omega) _ ⟨0, ByteArray.empty, 0, 0, 0, 0, 0⟩ (.int .i64 0) (g _ _ (by simpa using hk)) ⟨z, Nat.zero_le _, z, z, z, z, z⟩ (fun i hi => by match i, hi with | 0, _ => rfl | 1, _ => rfl | 2, _ => rfl | 3, _ => rfl | 4, _ => rfl | 5, _ => rfl | 6, _ => rfl)
  simp only [List.set_set, Nat.add_zero] at s7
  exact s7

/-- a frame that all share, laid into a machine in memory of its own -/
def newFrame (g : Nat) : Fr := ⟨0, 0, 0, some ⟨g, 0, none⟩, List.replicate 8 0, 8⟩
def laid4 (w : World) (nb a g : Nat) : World := (((w.setCell ⟨nb, a, none⟩ (.int .i64 0)).setCell ⟨nb, a + 1, none⟩ (.int .i64 0)).setCell ⟨nb, a + 2, none⟩ (.int .i64 0)).setCell ⟨nb, a + 3, none⟩ (.slice (some ⟨g, 0, none⟩) 8 8)
theorem laid4_heap {w : World} {nb a g b : Nat} (h : b ≠ nb) : (laid4 w nb a g).heap[b]? = w.heap[b]? := by
  unfold laid4
  rw [Below.heap_setCell _ _ _ _ h, Below.heap_setCell _ _ _ _ h, Below.heap_setCell _ _ _ _ h, Below.heap_setCell _ _ _ _ h]
theorem laid4_frozen {w : World} {nb a g : Nat} (q : Addr) : (laid4 w nb a g).frozen? q = w.frozen? q := by
  unfold laid4
  rw [World.frozen?_setCell, World.frozen?_setCell, World.frozen?_setCell, World.frozen?_setCell]
theorem laid4_size {w : World} {nb a g : Nat} : (laid4 w nb a g).heap.size = w.heap.size := by unfold laid4; simp [World.setCell]
theorem laid4_below {w0 w : World} {B nb a g : Nat} (h : Below B w0 w) (hb : B ≤ nb) : Below B w0 (laid4 w nb a g) := by
  unfold laid4
  exact (((h.setCell (by simpa using hb) _).setCell (by simpa using hb) _).setCell (by simpa using hb) _).setCell (by simpa using hb) _
theorem laid4_rows {w : World} {nb no k g : Nat} {frs : List Fr} (h : RowsAt w 4 Fr.cells (some ⟨nb, no, none⟩) frs) (hk : k < frs.length) : RowsAt (laid4 w nb (no + k * 4) g) 4 Fr.cells (some ⟨nb, no, none⟩) (frs.set k (newFrame g)) := by
  obtain ⟨E, hE⟩ : ∃ E, frs.getD k default = E := ⟨_, rfl⟩
  have gd : ∀ (l : List Fr) (e : Fr), k < l.length → (l.set k e).getD k default = e := fun l e hk => by rw [getD_set _ _ _ _ hk, if_pos rfl]
  have s1 := RowsAt.setCell (cells := Fr.cells) (fun _ => rfl) (x' := { E with o := 0 }) (v := .int .i64 0) (i0 := 0) h hk (by omega) (fun i hi => by rw [hE]; match i, hi with | 0, _ => rfl | 1, _ => rfl | 2, _ => rfl | 3, _ => rfl)
  have s2 := RowsAt.setCell (cells := Fr.cells) (fun _ => rfl) (x' := { E with o := 0, at_ := 0 }) (v := .int .i64 0) (i0 := 1) s1 (by simpa using hk) (by omega) (fun i hi => by rw [gd _ _ hk]; match i, hi with | 0, _ => rfl | 1, _ => rfl | 2, _ => rfl | 3, _ => rfl)
  have s3 := RowsAt.setCell (cells := Fr.cells) (fun _ => rfl) (x' := { E with o := 0, at_ := 0, r := 0 }) (v := .int .i64 0) (i0 := 2) s2 (by simpa using hk) (by omega) (fun i hi => by rw [gd _ _ (by simpa using hk)]; match i, hi with | 0, _ => rfl | 1, _ => rfl | 2, _ => rfl | 3, _ => rfl)
  have s4 := RowsAt.setCell (cells := Fr.cells) (fun _ => rfl) (x' := newFrame g) (v := .slice (some ⟨g, 0, none⟩) 8 8) (i0 := 3) s3 (by simpa using hk) (by omega) (fun i hi => by rw [gd _ _ (by simpa using hk)]; match i, hi with | 0, _ => rfl | 1, _ => rfl | 2, _ => rfl | 3, _ => rfl)
  simp only [List.set_set, Nat.add_zero] at s4
  exact s4
theorem Owned.layFrame {n0 : Nat} {w w5 : World} {M : Mv} (h : Owned n0 w M) {nb no k g : Nat} (he : M.fa = some ⟨nb, no, none⟩) (hk : k < M.frs.length) (hb : Below w.heap.size w w5) (hg : w.heap.size ≤ g) (hgw : w5.heap[g]? = some (.cells (wvals (List.replicate 8 0)).toArray 3 (0, 0))) :
    Owned n0 (laid4 w5 nb (no + k * 4) g) { M with frs := M.frs.set k (newFrame g) } := by
  have nn := h.nf nb no none he
  refine h.newFr (g := g) he hk (by rw [laid4_size]; exact hb.size) (by have := nn.1; have := nn.2.1; omega) (fun b hl hn => (laid4_heap hn).trans (hb.block b hl)) ?_ (fun o => (laid4_frozen _).trans ((hb.frozen (p := ⟨nb, o, none⟩) nn.2.1).trans (nn.2.2 o))) rfl hg ((laid4_heap (by have := nn.2.1; omega)).trans hgw) (show (Lit.int .i64 0).wf = true by decide) (show (Lit.int .i64 0).wf = true by decide) (show (Lit.int .i64 0).wf = true by decide) (by simp [newFrame, maxLen]) (fun n hn => by simp [newFrame] at hn; subst hn; decide)
  rw [he]
  exact laid4_rows (he ▸ (h.below hb).at_.fr) hk
theorem newFrame_same (g : Nat) : (newFrame g).Same zeroFr := ⟨rfl, rfl, rfl, rfl⟩

end Go.Proofs.Ytdbbiibnhgcndaa
