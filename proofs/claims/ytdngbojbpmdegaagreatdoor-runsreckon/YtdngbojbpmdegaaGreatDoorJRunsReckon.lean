/-
  What slices.Concat answers at instructions that were just laid, two or six of them (own work): a row with their words. No condition. A variable that holds a machine of its own in memory, and one that holds an outcome (own work): what a store into them makes of them. No condition beside the cells. For every two numbers RunsReckon answers true: an enclave that is entered with a word exits with what it reckons. No condition but that the library's tables are as the program's text lays them, which the card ties.
-/
import Derived.Test.YtdngbojbpmdegaaGreatDoorJIdxBase
import Derived.Test.YtdngbojbpmdegaaGreatDoorJBuilder
import Derived.Test.YtdngbojbpmdegaaGreatDoorJHostSmall
import Derived.Test.YtdngbojbpmdegaaGreatDoorRunResume
import Derived.Test.YtdngbojbpmdegaaGreatDoorMachine
import Derived.Test.YtdngbojbpmdegaaGreatDoorJPlace
import Derived.Test.YtdngbojbpmdegaaGreatDoorJCreate
import Derived.Deep.DeepCutAuto
namespace Go.Proofs.YtdngbojbpmdegaaGreatDoor
open Go.RowKit
set_option maxRecDepth 100000
set_option linter.unusedVariables false

def allocs (os : List Obj) (w : World) : World := os.foldl World.alloc w
theorem allocs_below (os : List Obj) : ∀ (n : Nat) (w0 w : World), Below n w0 w → n ≤ w.heap.size → Below n w0 (allocs os w) := by
  induction os with
  | nil => intro n w0 w h _; exact h
  | cons o os ih => intro n w0 w h hn; exact ih n w0 (w.alloc o) (h.alloc hn o) (by rw [World.size_alloc]; omega)
theorem allocs_at (os : List Obj) : ∀ (w : World) (i : Nat) (o : Obj), os[i]? = some o → (allocs os w).heap[w.heap.size + i]? = some o := by
  induction os with
  | nil => intro w i o h; simp at h
  | cons a os ih =>
    intro w i o h
    show (allocs os (w.alloc a)).heap[w.heap.size + i]? = some o
    cases i with
    | zero =>
      have hb := allocs_below os (w.alloc a).heap.size (w.alloc a) (w.alloc a) (Below.refl _ _) (Nat.le_refl _)
      rw [Nat.add_zero, hb.block _ (by rw [World.size_alloc]; omega), Go.Deep.blk_alloc_new]
      simpa using h
    | succ i =>
      have := ih (w.alloc a) i o (by simpa using h)
      rw [World.size_alloc] at this
      rw [show w.heap.size + (i + 1) = w.heap.size + 1 + i by omega]
      exact this
theorem concat_six (x1 y1 x2 y2 x3 y3 x4 y4 x5 y5 x6 y6 : Int) (w : World) :
    Calls Tryz.prog 18 #[.slice (some ⟨w.heap.size + 1 + 1 + 1 + 1 + 1 + 1, 0, none⟩) 6 6] (((((((w.alloc (.cells #[.int .i64 x1, .int .i64 y1] 3)).alloc (.cells #[.int .i64 x2, .int .i64 y2] 3)).alloc (.cells #[.int .i64 x3, .int .i64 y3] 3)).alloc (.cells #[.int .i64 x4, .int .i64 y4] 3)).alloc (.cells #[.int .i64 x5, .int .i64 y5] 3)).alloc (.cells #[.int .i64 x6, .int .i64 y6] 3)).alloc
      (.cells #[.slice (some ⟨w.heap.size, 0, none⟩) 2 2, .slice (some ⟨w.heap.size + 1, 0, none⟩) 2 2, .slice (some ⟨w.heap.size + 1 + 1, 0, none⟩) 2 2, .slice (some ⟨w.heap.size + 1 + 1 + 1, 0, none⟩) 2 2, .slice (some ⟨w.heap.size + 1 + 1 + 1 + 1, 0, none⟩) 2 2, .slice (some ⟨w.heap.size + 1 + 1 + 1 + 1 + 1, 0, none⟩) 2 2] 30))
      fun e w' => ∃ a cap, e = .returned (.slice a 12 cap) ∧ RowsAt w' 1 ic a [x1, y1, x2, y2, x3, y3, x4, y4, x5, y5, x6, y6] ∧ Below w.heap.size w w' := by
  obtain ⟨W, hW⟩ : ∃ W, W = ((((((w.alloc (.cells #[.int .i64 x1, .int .i64 y1] 3)).alloc (.cells #[.int .i64 x2, .int .i64 y2] 3)).alloc (.cells #[.int .i64 x3, .int .i64 y3] 3)).alloc (.cells #[.int .i64 x4, .int .i64 y4] 3)).alloc (.cells #[.int .i64 x5, .int .i64 y5] 3)).alloc (.cells #[.int .i64 x6, .int .i64 y6] 3)).alloc
      (.cells #[.slice (some ⟨w.heap.size, 0, none⟩) 2 2, .slice (some ⟨w.heap.size + 1, 0, none⟩) 2 2, .slice (some ⟨w.heap.size + 1 + 1, 0, none⟩) 2 2, .slice (some ⟨w.heap.size + 1 + 1 + 1, 0, none⟩) 2 2, .slice (some ⟨w.heap.size + 1 + 1 + 1 + 1, 0, none⟩) 2 2, .slice (some ⟨w.heap.size + 1 + 1 + 1 + 1 + 1, 0, none⟩) 2 2] 30) := ⟨_, rfl⟩
  have hA : W = allocs [.cells #[.int .i64 x1, .int .i64 y1] 3, .cells #[.int .i64 x2, .int .i64 y2] 3, .cells #[.int .i64 x3, .int .i64 y3] 3, .cells #[.int .i64 x4, .int .i64 y4] 3, .cells #[.int .i64 x5, .int .i64 y5] 3, .cells #[.int .i64 x6, .int .i64 y6] 3,
    .cells #[.slice (some ⟨w.heap.size, 0, none⟩) 2 2, .slice (some ⟨w.heap.size + 1, 0, none⟩) 2 2, .slice (some ⟨w.heap.size + 1 + 1, 0, none⟩) 2 2, .slice (some ⟨w.heap.size + 1 + 1 + 1, 0, none⟩) 2 2, .slice (some ⟨w.heap.size + 1 + 1 + 1 + 1, 0, none⟩) 2 2, .slice (some ⟨w.heap.size + 1 + 1 + 1 + 1 + 1, 0, none⟩) 2 2] 30] w := hW
  rw [← hW]
  have b0 : W.heap[w.heap.size]? = _ := hA ▸ allocs_at _ w 0 _ rfl
  have b1 : W.heap[w.heap.size + 1]? = _ := hA ▸ allocs_at _ w 1 _ rfl
  have b2 : W.heap[w.heap.size + 1 + 1]? = _ := hA ▸ allocs_at _ w 2 _ rfl
  have b3 : W.heap[w.heap.size + 1 + 1 + 1]? = _ := hA ▸ allocs_at _ w 3 _ rfl
  have b4 : W.heap[w.heap.size + 1 + 1 + 1 + 1]? = _ := hA ▸ allocs_at _ w 4 _ rfl
  have b5 : W.heap[w.heap.size + 1 + 1 + 1 + 1 + 1]? = _ := hA ▸ allocs_at _ w 5 _ rfl
  have b6 : W.heap[w.heap.size + 1 + 1 + 1 + 1 + 1 + 1]? = _ := hA ▸ allocs_at _ w 6 _ rfl
  have hB : Below w.heap.size w W := hA ▸ allocs_below _ _ _ _ (Below.refl _ _) (Nat.le_refl _)
  have h := concat_ints (some ⟨w.heap.size + 1 + 1 + 1 + 1 + 1 + 1, 0, none⟩) [⟨some ⟨w.heap.size, 0, none⟩, [x1, y1], 2⟩, ⟨some ⟨w.heap.size + 1, 0, none⟩, [x2, y2], 2⟩, ⟨some ⟨w.heap.size + 1 + 1, 0, none⟩, [x3, y3], 2⟩, ⟨some ⟨w.heap.size + 1 + 1 + 1, 0, none⟩, [x4, y4], 2⟩, ⟨some ⟨w.heap.size + 1 + 1 + 1 + 1, 0, none⟩, [x5, y5], 2⟩, ⟨some ⟨w.heap.size + 1 + 1 + 1 + 1 + 1, 0, none⟩, [x6, y6], 2⟩] 6 W (by simp)
    (rows_of_block (cells := PtI.cells) (c := 1) (fun _ => rfl) (rest := []) b6)
    (fun p hp => by
      simp only [List.mem_cons, List.not_mem_nil, or_false] at hp
      rcases hp with rfl | rfl | rfl | rfl | rfl | rfl
      · exact instr_row b0
      · exact instr_row b1
      · exact instr_row b2
      · exact instr_row b3
      · exact instr_row b4
      · exact instr_row b5) (by simp)
  refine Calls.mono (h : Calls _ _ #[.slice _ 6 6] W _) ?_
  rintro e w' ⟨v, rfl, hown, hb⟩
  obtain ⟨a, cap, rfl, hr⟩ := ints_row hown
  exact ⟨a, cap, rfl, hr, hB.trans (hb.mono hB.size)⟩

end Go.Proofs.YtdngbojbpmdegaaGreatDoor

namespace Go.Proofs.YtdngbojbpmdegaaGreatDoor
open Go.RowKit
set_option maxRecDepth 100000
set_option linter.unusedVariables false

/-- a variable that holds a machine of its own -/
structure MBox (n0 : Nat) (w : World) (b : Nat) (M : Mv) : Prop where
  c0 : w.cell? ⟨b, 0, none⟩ = some (.slice M.fa M.frs.length M.fcap)
  c1 : w.cell? ⟨b, 1, none⟩ = some (.slice M.ea M.ens.length M.ecap)
  c2 : w.cell? ⟨b, 2, none⟩ = some (.slice M.qa M.qus.length M.qcap)
  fz : ∀ o, w.frozen? ⟨b, o, none⟩ = false
  lt : b < w.heap.size
  own : Owned n0 w M
  off : ¬ Mine M b
theorem MBox.keepH {n0 : Nat} {w w' : World} {b : Nat} {M : Mv} (h : MBox n0 w b M) (hw : ∀ c, c = b ∨ Mine M c → w'.heap[c]? = w.heap[c]?) (hs : w.heap.size ≤ w'.heap.size) : MBox n0 w' b M := by
  have hc : ∀ o, w'.cell? ⟨b, o, none⟩ = w.cell? ⟨b, o, none⟩ := fun o => World.cell?_of_block (hw b (.inl rfl))
  exact ⟨(hc 0).trans h.c0, (hc 1).trans h.c1, (hc 2).trans h.c2, fun o => (World.frozen?_of_block (hw b (.inl rfl))).trans (h.fz o), Nat.lt_of_lt_of_le h.lt hs, h.own.keepM (fun c hc => hw c (.inr hc)) hs, h.off⟩
theorem MBox.old {n0 : Nat} {w : World} {b : Nat} {M : Mv} (h : MBox n0 w b M) {c : Nat} (hc : c = b ∨ Mine M c) : c < w.heap.size := by
  rcases hc with rfl | hc
  · exact h.lt
  · exact (Mine.fresh h.own hc).2
theorem MBox.keep {n0 : Nat} {w w' : World} {b : Nat} {M : Mv} (h : MBox n0 w b M) (hb : Below w.heap.size w w') : MBox n0 w' b M :=
  h.keepH (fun c hc => hb.block c (h.old hc)) hb.size
theorem MBox.far {n0 : Nat} {w : World} {b : Nat} {M : Mv} (h : MBox n0 w b M) {c : Nat} (hc : ¬ (c = b ∨ Mine M c)) (o : Nat) (v : Value) : MBox n0 (w.setCell ⟨c, o, none⟩ v) b M :=
  h.keepH (fun d hd => set_heap _ _ _ _ _ (fun e => hc (e ▸ hd))) (by simp [World.setCell])
theorem MBox.mono {n0 n1 : Nat} {w : World} {b : Nat} {M : Mv} (h : MBox n0 w b M) (hn : n1 ≤ n0) : MBox n1 w b M := ⟨h.c0, h.c1, h.c2, h.fz, h.lt, h.own.mono hn, h.off⟩
theorem MBox.of_block {n0 : Nat} {w : World} {b : Nat} {M : Mv} {t : TypeId} (hO : Owned n0 w M) (hb : w.heap[b]? = some (.cells #[.slice M.fa M.frs.length M.fcap, .slice M.ea M.ens.length M.ecap, .slice M.qa M.qus.length M.qcap] t (0, 0))) (off : ¬ Mine M b) : MBox n0 w b M :=
  ⟨by simp [World.cell?, hb], by simp [World.cell?, hb], by simp [World.cell?, hb], fun o => by simp [World.frozen?, hb], (Array.getElem?_eq_some_iff.1 hb).1, hO, off⟩
/-- a machine is taken over -/
theorem MBox.putM {n0 n1 : Nat} {w : World} {b : Nat} {M N : Mv} (h : MBox n0 w b M) (hO : Owned n1 w N) (off : ¬ Mine N b) :
    MBox n1 (((w.setCell ⟨b, 0, none⟩ (.slice N.fa N.frs.length N.fcap)).setCell ⟨b, 1, none⟩ (.slice N.ea N.ens.length N.ecap)).setCell ⟨b, 2, none⟩ (.slice N.qa N.qus.length N.qcap)) b N := by
  obtain ⟨k0, k1, k2⟩ := blk3 (v0 := .slice N.fa N.frs.length N.fcap) (v1 := .slice N.ea N.ens.length N.ecap) (v2 := .slice N.qa N.qus.length N.qcap) h.c0 h.c1 h.c2
  have hf : ∀ o, (((w.setCell ⟨b, 0, none⟩ (.slice N.fa N.frs.length N.fcap)).setCell ⟨b, 1, none⟩ (.slice N.ea N.ens.length N.ecap)).setCell ⟨b, 2, none⟩ (.slice N.qa N.qus.length N.qcap)).frozen? ⟨b, o, none⟩ = false := fun o => by rw [World.frozen?_setCell, World.frozen?_setCell, World.frozen?_setCell]; exact h.fz o
  have hh := fun c hc => blk3_heap (w := w) (b := b) (v0 := .slice N.fa N.frs.length N.fcap) (v1 := .slice N.ea N.ens.length N.ecap) (v2 := .slice N.qa N.qus.length N.qcap) c hc
  have hz : (((w.setCell ⟨b, 0, none⟩ (.slice N.fa N.frs.length N.fcap)).setCell ⟨b, 1, none⟩ (.slice N.ea N.ens.length N.ecap)).setCell ⟨b, 2, none⟩ (.slice N.qa N.qus.length N.qcap)).heap.size = w.heap.size := blk3_size
  generalize ((w.setCell ⟨b, 0, none⟩ (.slice N.fa N.frs.length N.fcap)).setCell ⟨b, 1, none⟩ (.slice N.ea N.ens.length N.ecap)).setCell ⟨b, 2, none⟩ (.slice N.qa N.qus.length N.qcap) = V at k0 k1 k2 hf hh hz
  exact ⟨k0, k1, k2, hf, by rw [hz]; exact h.lt, hO.keepM (fun c hc => hh c (fun q => off (q ▸ hc))) (by rw [hz]; exact Nat.le_refl _), off⟩
/-- a variable that holds an outcome -/
structure OBox (w : World) (b : Nat) (nd v : Int) : Prop where
  c0 : w.cell? ⟨b, 0, none⟩ = some (.int .i64 nd)
  c1 : w.cell? ⟨b, 1, none⟩ = some (.int .i64 v)
  fz : ∀ o, w.frozen? ⟨b, o, none⟩ = false
  lt : b < w.heap.size
theorem OBox.keepH {w w' : World} {b : Nat} {nd v : Int} (h : OBox w b nd v) (hw : w'.heap[b]? = w.heap[b]?) (hs : w.heap.size ≤ w'.heap.size) : OBox w' b nd v :=
  ⟨(World.cell?_of_block hw).trans h.c0, (World.cell?_of_block hw).trans h.c1, fun o => (World.frozen?_of_block hw).trans (h.fz o), Nat.lt_of_lt_of_le h.lt hs⟩
theorem OBox.keep {w w' : World} {b : Nat} {nd v : Int} (h : OBox w b nd v) (hb : Below w.heap.size w w') : OBox w' b nd v := h.keepH (hb.block b h.lt) hb.size
theorem OBox.far {w : World} {b : Nat} {nd v : Int} (h : OBox w b nd v) {c : Nat} (hc : c ≠ b) (o : Nat) (x : Value) : OBox (w.setCell ⟨c, o, none⟩ x) b nd v :=
  h.keepH (set_heap _ _ _ _ _ (Ne.symm hc)) (by simp [World.setCell])
theorem OBox.of_block {w : World} {b : Nat} {nd v : Int} {t : TypeId} (hb : w.heap[b]? = some (.cells #[.int .i64 nd, .int .i64 v] t (0, 0))) : OBox w b nd v :=
  ⟨by simp [World.cell?, hb], by simp [World.cell?, hb], fun o => by simp [World.frozen?, hb], (Array.getElem?_eq_some_iff.1 hb).1⟩
theorem OBox.put {w : World} {b : Nat} {nd v : Int} (h : OBox w b nd v) (nd' v' : Int) : OBox ((w.setCell ⟨b, 0, none⟩ (.int .i64 nd')).setCell ⟨b, 1, none⟩ (.int .i64 v')) b nd' v' := by
  have oth : ∀ (V : World) (i j : Nat) (x : Value), i ≠ j → (V.setCell ⟨b, i, none⟩ x).cell? ⟨b, j, none⟩ = V.cell? ⟨b, j, none⟩ := fun V i j x hij => World.cell?_setCell_other _ _ _ _ (by intro q; simp only [Addr.mk.injEq, true_and, and_true] at q; exact hij q)
  exact ⟨(oth _ 1 0 _ (by omega)).trans (World.cell?_setCell_same _ _ _ h.c0), World.cell?_setCell_same _ _ _ ((oth w 0 1 _ (by omega)).trans h.c1), fun o => by rw [World.frozen?_setCell, World.frozen?_setCell]; exact h.fz o, by simp [World.setCell]; exact h.lt⟩
end Go.Proofs.YtdngbojbpmdegaaGreatDoor

namespace Go.Proofs.YtdngbojbpmdegaaGreatDoor
open Go.ChangeShapes Go.WideShapes Go.ChangeAt Go.RowKit
set_option linter.unusedVariables false


theorem C3.same {M N : Mv} {a b c : List Int} (h : C3 N a b c) (s : M.Same N) : C3 M a b c := by
  have hat : ∀ j, j < 24 → (M.frs.getD j default).at_ = (N.frs.getD j default).at_ := fun j hj => (s.fr j (by rw [s.len, h.len]; exact hj)).2.1
  refine ⟨s.len.trans h.len, ?_, ?_, ?_, fun j h1 h2 => by rw [same_o s]; exact h.no j h1 h2⟩
  · rw [same_o s, same_r s, same_ws s, hat 0 (by omega)]; exact h.f0
  · rw [same_o s, same_r s, same_ws s, hat 1 (by omega)]; exact h.f1
  · rw [same_o s, same_r s, same_ws s, hat 2 (by omega)]; exact h.f2
theorem C3.left {R : Rn} {m : Nat} {a b c : List Int} (h : C3 R.M a b c) : C3 (leftM R m) a b c := ⟨h.len, h.f0, h.f1, h.f2, h.no⟩
/-- what the six instructions reckon -/
theorem reckon_ent {M N : Mv} {x y : Int} (s : M.Same N) (hz : machF N = 0) (hs : (N.ens.getD 0 default).st = 2) (hx : 0 ≤ x ∧ x ≤ 65535) (h : C3 N [17, y, 258, 0, 33, 16, 518, 0] [565, 0, 56, 0, 0, 0, 0, 0] [0, 0, 0, 0, 0, 0, 0, 0]) :
    entF M 1 x 100 = 0 ∧ entD M 1 x 100 = 1 ∧ entV M 1 x 100 = (x + y) % 65536 ∧ ∀ K : Mv, K.Same (entM M 1 x 100) → C3 K [17, y, 258, 0, 33, 16, 518, 0] [565, 0, 56, 0, 0, 0, 0, 0] [(x + y) % 65536, 0, 0, 0, 0, 0, 0, 0] ∧ K.Fits := by
  obtain ⟨_, e1, e2, e3, e4⟩ := ent_ready hz (m := 0) (by omega) hs hx (f := 100) (by omega)
  have hr := reckon (x := x) h
  have e1' : entF N 1 x 100 = 0 := e1
  have e2' : entM N 1 x 100 = leftM (runR 100 N 0 0 [x, 0, 0, 0] xorR) 0 := e2
  refine ⟨by rw [entF_same s]; exact e1', by rw [entD_same s]; exact e3.trans hr.1, by rw [entV_same s]; exact e4.trans hr.2.1, fun K hK => ?_⟩
  have hKN : K.Same (entM N 1 x 100) := hK.trans (entM_same s _ _ _)
  refine ⟨C3.same (by rw [e2']; exact hr.2.2.left) hKN, fits_goodH (ent_good e1') hKN⟩

theorem codeR (y : Int) : (codeL [17, y, 258, 0, 33, 16, 518, 0, 565, 0, 56, 0]).take 8 = [17, y, 258, 0, 33, 16, 518, 0] ∧ ((codeL [17, y, 258, 0, 33, 16, 518, 0, 565, 0, 56, 0]).drop 8).take 8 = [565, 0, 56, 0, 0, 0, 0, 0] := ⟨rfl, rfl⟩
set_option maxRecDepth 100000 in
set_option maxHeartbeats 8000000 in
theorem runsReckon_walk (a b : Int) (w : World) (wa : (Lit.int .i64 a).wf = true) (wb : (Lit.int .i64 b).wf = true) (ht : Tab w) :
    Calls Tryz.prog 4 #[.int .i64 a, .int .i64 b] w fun e w' => e = .returned (.bool true) ∧ Below w.heap.size w w' := by
  have px := pick_lt a (many := 65536) (by omega)
  have py := pick_lt b (many := 65536) (by omega)
  obtain ⟨x, hx⟩ : ∃ x, Hid (x = pick a 65536) := ⟨_, rfl⟩
  obtain ⟨y, hy⟩ : ∃ y, Hid (y = pick b 65536) := ⟨_, rfl⟩
  have h1 := fun w' => picked_any a 65536 w' wa (by omega) (by omega)
  have h2 := fun w' => picked_any b 65536 w' wb (by omega) (by omega)
  rw [← hx.out] at px h1
  rw [← hy.out] at py h2
  have HT : Hid (Tab w) := ht
  clear ht
  go_enter Tryz.func4, Tryz.ntmps4
  go_upto_region 2 with (go_at_call 17; refine (h1 _).mono ?_; rintro e w' ⟨rfl, rfl⟩)
  go_upto_region 3 with (go_at_call 17; refine (h2 _).mono ?_; rintro e w' ⟨rfl, rfl⟩)
  clear h1 h2
  go_upto_region 4 with (first
    | (go_at_call 19; refine (instr_all _ _ _ _ _ ⟨by decide, by decide⟩ ⟨by decide, by decide⟩ ⟨by decide, by decide⟩).mono ?_; rintro e w' ⟨rfl, rfl⟩)
    | (go_at_call 18; refine (concat_six _ _ _ _ _ _ _ _ _ _ _ _ _).mono ?_; rintro e w3 ⟨la, lc, rfl, hrow, hb3⟩))
  have hM := mach_any la [17, y, 258, 0, 33, 16, 518, 0, 565, 0, 56, 0] lc w3 hrow (by simp) (by simp) (by
    intro n hn
    simp only [List.mem_cons, List.not_mem_nil, or_false] at hn
    rcases hn with rfl | rfl | rfl | rfl | rfl | rfl | rfl | rfl | rfl | rfl | rfl | rfl <;> omega) (HT.out.below hb3)
  unfold MachSaid at hM
  rw [(codeR y).1, (codeR y).2] at hM
  have HB3 : Hid (Below w.heap.size w w3) := hb3
  clear hrow hb3
  go_upto_region 5 with (go_at_call 20; refine hM.mono ?_; clear hM; rintro e w4 ⟨M, N, rfl, hS, hC3, hz, hst, hO, hb4⟩; unfold Mv.val)
  obtain ⟨W5, hW5⟩ : ∃ W5, Hid (W5 = w4.alloc (.cells #[.slice M.fa M.frs.length M.fcap, .slice M.ea M.ens.length M.ecap, .slice M.qa M.qus.length M.qcap] 29)) := ⟨_, rfl⟩
  have b5 : Below w4.heap.size w4 W5 := by rw [hW5.out]; exact (Below.refl _ _).alloc (Nat.le_refl _) _
  have MB5 : Hid (MBox w3.heap.size W5 w4.heap.size M) := show MBox _ _ _ _ from MBox.of_block (t := 29) (hO.below b5) (by rw [hW5.out]; exact Go.Deep.blk_alloc_new _ _) (fun q => by have := (Mine.fresh hO q).2; omega)
  have BW5 : Hid (Below w.heap.size w W5) := show Below _ _ _ from (HB3.out.trans (hb4.mono HB3.out.size)).trans (b5.mono (Nat.le_trans HB3.out.size hb4.size))
  rw [← hW5.out]
  obtain ⟨r1, r2, r3, r4⟩ := reckon_ent (x := x) hS hz hst ⟨px.1, by omega⟩ hC3
  have HR4 : Hid (_) := r4
  have hE := enter_any M 1 x 100 W5 MB5.out.own.at_ (fits_goodH hz hS)
  unfold RunSaid at hE
  rw [r1, r2, r3] at hE
  unfold Mv.val at hE
  have c0 := MB5.out.c0
  have c1 := MB5.out.c1
  have c2 := MB5.out.c2
  have lc := MB5.out.lt
  obtain ⟨v, hv⟩ : ∃ v, Hid (v = (x + y) % 65536) := ⟨_, rfl⟩
  rw [← hv.out] at hE
  clear r1 r2 r3 r4 hS hC3 hz hst hO hb4 b5 hW5
  go_upto_region 6 with (go_at_call 21; refine hE.mono ?_; clear hE; rintro e w6 ⟨K, rfl, hKS, hKO, hb6⟩)
  obtain ⟨W7, hW7⟩ : ∃ W7, Hid (W7 = (w6.alloc (.cells #[.slice K.fa K.frs.length K.fcap, .slice K.ea K.ens.length K.ecap, .slice K.qa K.qus.length K.qcap] 29)).alloc (.cells #[.int .i64 1, .int .i64 v] 47)) := ⟨_, rfl⟩
  obtain ⟨b7, k1, k2⟩ := al2w w6 (.cells #[.slice K.fa K.frs.length K.fcap, .slice K.ea K.ens.length K.ecap, .slice K.qa K.qus.length K.qcap] 29) (.cells #[.int .i64 1, .int .i64 v] 47)
  rw [← hW7.out] at b7 k1 k2
  have KB7 : Hid (MBox W5.heap.size W7 w6.heap.size K) := show MBox _ _ _ _ from MBox.of_block (t := 29) (hKO.below b7) k1 (fun q => by have := (Mine.fresh hKO q).2; omega)
  have OB7 : Hid (OBox W7 (w6.heap.size + 1) 1 v) := show OBox _ _ _ _ from OBox.of_block k2
  have BW7 : Hid (Below w.heap.size w W7) := show Below _ _ _ from (BW5.out.trans (hb6.mono BW5.out.size)).trans (b7.mono (Nat.le_trans BW5.out.size hb6.size))
  rw [← hW7.out]
  obtain ⟨hKC, hKF⟩ := HR4.out K hKS
  rw [← hv.out] at hKC
  have HKC : Hid (_) := hKC
  have hPl := place_any K 1 2 W7 KB7.out.own.at_
  rw [show placeOf K.frs 1 2 = 2 from hKC.place (j := 2) (by omega)] at hPl
  unfold Mv.val at hPl
  rw [hKC.len] at hPl
  have d0 := KB7.out.c0
  have d1 := KB7.out.c1
  have d2 := KB7.out.c2
  have ld := KB7.out.lt
  rw [hKC.len] at d0
  clear hKC hKF c0 c1 c2 lc b7 k1 k2 hW7 hKS hKO hb6
  go_upto_region 7 with (go_at_call 22; refine hPl.mono ?_; clear hPl; rintro e w8 ⟨rfl, hb8⟩)
  have KB8 := KB7.out.keep hb8
  have OB8 := OB7.out.keep hb8
  have BW8 : Hid (Below w.heap.size w w8) := show Below _ _ _ from BW7.out.trans (hb8.mono BW7.out.size)
  clear d0 d1 d2 ld hb8
  have d0 := KB8.c0
  rw [HKC.out.len] at d0
  have ld := KB8.lt
  have o0 := OB8.c0
  have o1 := OB8.c1
  have lo := OB8.lt
  obtain ⟨xb, xo, hxa, x0, x1, x2, x3⟩ := KB8.own.at_.frame (j := 2) (by rw [HKC.out.len]; omega)
  have okK := KB8.own.at_.frok 2 (by rw [HKC.out.len]; omega)
  have hin := okK.ints
  rw [HKC.out.f2.2.2.2] at hin x3
  rw [hxa] at d0
  obtain ⟨pb, po, hpa, hp⟩ : ∃ pb po, (K.frs.getD 2 default).a = some ⟨pb, po, none⟩ ∧ ∀ j, j < 8 → w8.cell? ⟨pb, po + j, none⟩ = some (.int .i64 (([v, 0, 0, 0, 0, 0, 0, 0] : List Int).getD j 0)) := by
    rcases hin with h | ⟨pb, po, h1, h2⟩
    · cases h
    · exact ⟨pb, po, h1, h2⟩
  rw [hpa] at x3
  have p0 : w8.cell? ⟨pb, po, none⟩ = some (.int .i64 v) := hp 0 (by omega)
  have lx := lt_of_cell x3
  have lp := lt_of_cell p0
  have hw : IntKind.i64.wrap (x + y) = x + y := by rw [IntKind.wrap_i64]; omega
  have hrem : (x + y).tmod 65536 = v := by rw [hv.out, Int.tmod_eq_emod_of_nonneg (by omega)]
  simp only [List.length_cons, List.length_nil] at x3
  clear KB8 OB8 hxa okK hin hpa hp x0 x1 x2
  go_wp2
  go_ret
  exact ⟨rfl, BW8.out⟩

set_option maxRecDepth 100000 in
theorem runsReckon_contract (H : Type) (enc : TypeId × Value → H) (W : World) (base : Nat) (args : Array Value) (ds gs : List (DataW H)) (before : List MemPlace)
    (hval0 : ∀ (j : Nat) t v, Tryz.f4.params[j]? = some t → args[j]? = some v → Value.okWide Tryz.prog W .any base t v)
    (hW : DataW.Whole enc Tryz.prog Tryz.f4.params.toList Rows.runsReckonSpec.vars false W args.toList ds gs before) (hL : laidMetH Tryz.prog listed W) :
    Calls Tryz.prog 4 args W fun e W' => ∃ v, e = .returned v ∧ Rows.runsReckonSpec.post enc Tryz.prog Tryz.f4 false true false false W args v W' := by
  have hval := hval0
  have hW' := hW
  obtain ⟨p, q, hA0, hV, rfl, hfz, hnd⟩ := hW
  have hA : DataW.TrodAll enc Tryz.prog W 0 (fun _ => true) true Tryz.f4.params.toList args.toList ds p := hA0
  rw [Tryz.params4] at hA hval
  obtain ⟨v0, vs0, d0, ds0, p0, q0, hargs, rfl, rfl, h0, r0⟩ := trodAll_cons hA
  obtain ⟨v1, vs1, d1, ds1, p1, q1, rfl, rfl, rfl, h1, r1⟩ := trodAll_cons r0
  obtain ⟨rfl, rfl, rfl⟩ := trodAll_nil r1
  obtain rfl : args = #[v0, v1] := by cases args; simp_all
  obtain ⟨rfl, rfl⟩ := trodVars_none hV
  have k0 := h0
  have lt0 : ∀ x ∈ p0, x.block < W.heap.size := by obtain ⟨m, hm⟩ := k0; exact DataW.trod_lt m _ _ _ hm
  obtain ⟨x0, rfl, rfl, rfl, wx0⟩ := open_int Tryz.underlying3 (hval 0 3 v0 rfl rfl) h0
  have k1 := h1
  have lt1 : ∀ x ∈ p1, x.block < W.heap.size := by obtain ⟨m, hm⟩ := k1; exact DataW.trod_lt m _ _ _ hm
  obtain ⟨x1, rfl, rfl, rfl, wx1⟩ := open_int Tryz.underlying3 (hval 1 3 v1 rfl rfl) h1
  clear hA0 hval0
  refine (runsReckon_walk x0 x1 W wx0 wx1 (tab_of hL)).mono fun e W' ⟨he, bel⟩ => ?_
  subst he
  exact ⟨_, rfl, _, _, _, [], _, [], hW', trodAll_mk1 (shut_bool Tryz.underlying4 _), (trodAll_cons_mk (Below.trod laidOut (by kernel_rfl) (of_decide_eq_true (by kernel_rfl)) k0 bel lt0) (trodAll_cons_mk (Below.trod laidOut (by kernel_rfl) (of_decide_eq_true (by kernel_rfl)) k1 bel lt1) trodAll_mk0)), rfl, bel.frame _, fun h => by cases h⟩

theorem runsReckon_laid (os : Os) : laidMet Tryz.prog listed ((laidWorld os).forCall (fun _ _ => 0) ⟨#[], #[.int .i64 0, .int .i64 0], []⟩).memory :=
  laidMet_of_run' 8 (by kernel_rfl) (by kernel_rfl)
theorem runsReckon_reads (os : Os) {H : Type} (enc : TypeId × Value → H) : ∃ places, DataW.whole enc Tryz.prog ((laidWorld os).forCall (fun _ _ => 0) ⟨#[], #[.int .i64 0, .int .i64 0], []⟩).memory Tryz.f4.params.toList Rows.runsReckonSpec.vars false (#[.int .i64 0, .int .i64 0] : Array Value).toList 8 = some ([.lit (.int .i64 0), .lit (.int .i64 0)], [], places) :=
  ⟨[], by kernel_rfl⟩

set_option maxRecDepth 100000 in
theorem runsReckon_lifted (os : Os) (started : os.Started) (H : Type) (enc : TypeId × Value → H) (F : Stop.Interp) :
    ReturnsInHanded {} Tryz.checked os 4 .any ((OpenSpec.ofChange Rows.runsReckonSpec).preRow enc Tryz.prog Tryz.f4 Rows.runsReckonRow.domain false Rows.runsReckonRow.laid) (((OpenSpec.ofChange Rows.runsReckonSpec).at F).post enc Tryz.prog Tryz.f4 false true false false) := by
  obtain ⟨places, hx⟩ := runsReckon_reads os enc
  refine returnsInHanded_of_row (C := Tryz.checked) (s := (OpenSpec.ofChange Rows.runsReckonSpec)) own started (by kernel_rfl) Tryz.func4
    (witness_row_at (enc := enc) (C := Tryz.checked) false (laidWorld os) #[.int .i64 0, .int .i64 0] rfl (by kernel_rfl) (by kernel_rfl) (by kernel_rfl)
      (OpenSpec.preRow_of_cond 8 hx (by kernel_rfl) (fun k hk => by cases hk) (by kernel_rfl) (runsReckon_laid os))) ?_
  intro W base args ds gs before hval hW _ hcond hsz hL _ _
  exact runsReckon_contract H enc W base args ds gs before hval hW hL

theorem runsReckon_said : Rows.RunsReckonSaid :=
  OpenClaim.holds_of_cond 4 Tryz.f4 rfl rfl rfl rfl rfl rfl rfl ⟨rfl, rfl, rfl, rfl, rfl⟩ rfl rfl rfl rfl rfl (by kernel_rfl) Tryz.func4 (by kernel_rfl)
    (of_decide_eq_true (by kernel_rfl)) (by unfold Func.isWrapper; first | (rw [if_pos (by decide +kernel)]; kernel_rfl) | (rw [if_neg (by decide +kernel)]; exact ⟨rfl, rfl⟩))
    (fun os started H enc _ F => by rw [OpenClaim.pre_eq_preRow]; exact runsReckon_lifted os started H enc F)

theorem runsReckon_plain (f : FuncId) (fn : Func) (hf : Tryz.pinned.checked.prog.funcNamed "riddle/riddlekeep.RunsReckon" = some f) (hfn : Tryz.pinned.checked.prog.funcs[f]? = some fn) :
    false = Tryz.pinned.checked.prog.looks [] ∧ ∀ (j : Nat) t, fn.params[j]? = some t → Tryz.pinned.checked.prog.wantsStandIn t = false := by
  obtain rfl : f = 4 := Option.some.inj ((show Tryz.prog.funcNamed "riddle/riddlekeep.RunsReckon" = some 4 by kernel_rfl).symm.trans hf) |>.symm
  obtain rfl : fn = Tryz.f4 := (Option.some.inj (Tryz.func4.symm.trans hfn)).symm
  refine ⟨by kernel_rfl, fun j t ht => ?_⟩
  rw [Tryz.params4] at ht
  have hm : t = 3 := by simpa using Array.mem_of_getElem? ht
  subst hm
  exact (show Tryz.prog.wantsStandIn 3 = false by kernel_rfl)

theorem runsReckon_card : Rows.RunsReckonCardSaid :=
  Claim7.holds_tied_plain_at .later [] _ _ _ _ runsReckon_said (fun _ h => by cases h) (by kernel_rfl) (fun _ h => by cases h) runsReckon_row_tie rfl ⟨rfl, rfl⟩ (by kernel_rfl) rfl runsReckon_plain (by kernel_rfl)
#print axioms runsReckon_card

end Go.Proofs.YtdngbojbpmdegaaGreatDoor
