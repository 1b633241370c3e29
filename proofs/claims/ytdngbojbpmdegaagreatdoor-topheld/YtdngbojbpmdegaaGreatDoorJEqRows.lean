/-
  What a run changes, and that a run in pieces is the run in one (own work). No condition but that the machine may be. A variable that holds a machine of its own in memory, and one that holds an outcome (own work): what a store into them makes of them. No condition beside the cells. What slices.Equal answers at two lists of enclaves, or of quotes, that hold the same (own work): true; nothing that was in memory turns. The condition: the machines' cells are there.
-/
import Derived.Test.YtdngbojbpmdegaaGreatDoorTopPlan
import Derived.Test.YtdngbojbpmdegaaGreatDoorJHostRan
import Derived.Test.YtdngbojbpmdegaaGreatDoorRunResume
import Derived.Test.YtdngbojbpmdegaaGreatDoorJSameM
import Derived.BigQuiet
namespace Go.Proofs.YtdngbojbpmdegaaGreatDoor
open Go.RowKit

/-- what a run of the enclave m leaves as it was -/
structure Walled (m : Nat) (M N : Mv) : Prop where
  len : N.frs.length = M.frs.length
  ens : N.ens = M.ens
  own : ∀ j, (N.frs.getD j default).o = (M.frs.getD j default).o ∧ (N.frs.getD j default).at_ = (M.frs.getD j default).at_ ∧ (N.frs.getD j default).r = (M.frs.getD j default).r
  ws : ∀ j, (M.frs.getD j default).o ≠ 0 → ((M.frs.getD j default).o ≠ (m : Int) + 1 ∨ ¬ (M.frs.getD j default).r / 2 % 2 = 1) → (N.frs.getD j default).ws = (M.frs.getD j default).ws
  qus : ∃ l, N.qus = M.qus ++ l
theorem Walled.refl (m : Nat) (M : Mv) : Walled m M M := ⟨rfl, rfl, fun _ => ⟨rfl, rfl, rfl⟩, fun _ _ _ => rfl, [], by simp⟩
theorem Walled.trans {m : Nat} {M N K : Mv} (h : Walled m M N) (g : Walled m N K) : Walled m M K := by
  refine ⟨g.len.trans h.len, g.ens.trans h.ens, fun j => ?_, fun j h0 hc => ?_, ?_⟩
  · obtain ⟨a, b, c⟩ := h.own j
    obtain ⟨a', b', c'⟩ := g.own j
    exact ⟨a'.trans a, b'.trans b, c'.trans c⟩
  · obtain ⟨a, b, c⟩ := h.own j
    rw [g.ws j (by rw [a]; exact h0) (by rw [a, c]; exact hc), h.ws j h0 hc]
  · obtain ⟨l, hl⟩ := h.qus
    obtain ⟨k, hk⟩ := g.qus
    exact ⟨l ++ k, by rw [hk, hl, List.append_assoc]⟩
/-- a run in two pieces -/
theorem runR_split : ∀ (a b : Nat) (M : Mv) (m : Nat) (pc : Int) (rs : List Int) (xr : Int → Int → Int), runR (a + b) M m pc rs xr = if (runR a M m pc rs xr).nd = 2 then runR b (runR a M m pc rs xr).M m (runR a M m pc rs xr).pc (runR a M m pc rs xr).rs xr else runR a M m pc rs xr
  | 0, b, M, m, pc, rs, xr => by
    rw [Nat.zero_add, if_pos (show (runR 0 M m pc rs xr).nd = 2 from rfl)]
    rfl
  | a + 1, b, M, m, pc, rs, xr => by
    rw [show a + 1 + b = (a + b) + 1 by omega]
    by_cases hn : (stepR M m pc rs xr).nd = 0
    · rw [runR_more hn, runR_more hn, runR_split a b]
    · rw [runR_stop hn, runR_stop hn, if_neg (fun q => stepR_two2 q)]
where
  stepR_two2 {M : Mv} {m : Nat} {pc : Int} {rs : List Int} {xr : Int → Int → Int} : ¬ (stepR M m pc rs xr).nd = 2 := stepR_two
/-- the enclaves are others -/
def withE (M : Mv) (E : List En) : Mv := { M with ens := E }
def Rn.withE (R : Rn) (E : List En) : Rn := { R with M := Go.Proofs.YtdngbojbpmdegaaGreatDoor.withE R.M E }
theorem ite_withE {c : Prop} [Decidable c] {A B : Rn} {E : List En} : (if c then A.withE E else B.withE E) = (if c then A else B).withE E := by split <;> rfl
theorem doR_withE {M : Mv} {E : List En} {m : Nat} (he : (E.getD m default).log = (M.ens.getD m default).log) (pc : Int) (rs : List Int) (x n : Int) (xr : Int → Int → Int) : doR (withE M E) m pc rs x n xr = (doR M m pc rs x n xr).withE E := by
  have hs : ∀ v, sayM (withE M E) m v = withE (sayM M m v) E := fun v => by
    unfold sayM withE
    dsimp only
    rw [he]
  unfold doR
  rw [hs]
  simp only [← ite_withE]
  rfl
theorem stepR_withE {M : Mv} {E : List En} {m : Nat} (he : (E.getD m default).log = (M.ens.getD m default).log) (pc : Int) (rs : List Int) (xr : Int → Int → Int) : stepR (withE M E) m pc rs xr = (stepR M m pc rs xr).withE E := by
  unfold stepR
  rw [← ite_withE, ← doR_withE he]
  rfl
theorem runR_withE : ∀ (k : Nat) {M : Mv} {E : List En} {m : Nat} (_ : (E.getD m default).log = (M.ens.getD m default).log) (pc : Int) (rs : List Int) (xr : Int → Int → Int), runR k (withE M E) m pc rs xr = (runR k M m pc rs xr).withE E
  | 0, _, _, _, _, _, _, _ => rfl
  | k + 1, M, E, m, he, pc, rs, xr => by
    have hs := stepR_withE he pc rs xr
    by_cases hn : (stepR M m pc rs xr).nd = 0
    · rw [runR_more hn, runR_more (by rw [hs]; exact hn), hs]
      exact runR_withE k (by rw [stepR_ens]; exact he) _ _ _
    · rw [runR_stop hn, runR_stop (by rw [hs]; exact hn), hs]
theorem leftE_withE (E : En) (L : En) (R : Rn) (h : L.log = E.log) : leftE L R = leftE E R := by unfold leftE; rw [h]
theorem leftM_withE {R : Rn} {m : Nat} {X : En} (hm : m < R.M.ens.length) (hX : X.log = (R.M.ens.getD m default).log) : leftM (R.withE (R.M.ens.set m X)) m = leftM R m := by
  unfold leftM
  show ({ R.M with ens := (R.M.ens.set m X).set m (leftE ((R.M.ens.set m X).getD m default) R) } : Mv) = _
  rw [List.set_set, getD_set_any, if_pos ⟨rfl, hm⟩, leftE_withE _ _ _ hX]
theorem four_list {l : List Int} (h : l.length = 4) : [l.getD 0 0, l.getD 1 0, l.getD 2 0, l.getD 3 0] = l := by
  match l, h with
  | [a, b, c, d], _ => rfl
/-- WHO IS INTERRUPTED GOES ON AS IF IT WERE NOT: one piece more -/
theorem res_more {M : Mv} {m : Nat} {word : Int} (h : RunOk M m 0 [word, 0, 0, 0]) {a b : Nat} (hd : (runR a M m 0 [word, 0, 0, 0] xorR).nd = 2) (hb : b ≤ 5000) :
    fuelF (leftM (runR a M m 0 [word, 0, 0, 0] xorR) m) ((m : Int) + 1) 3 (b : Int) = 0 ∧ resM (leftM (runR a M m 0 [word, 0, 0, 0] xorR) m) ((m : Int) + 1) (b : Int) = leftM (runR (a + b) M m 0 [word, 0, 0, 0] xorR) m
    ∧ resD (leftM (runR a M m 0 [word, 0, 0, 0] xorR) m) ((m : Int) + 1) (b : Int) = (runR (a + b) M m 0 [word, 0, 0, 0] xorR).nd ∧ resV (leftM (runR a M m 0 [word, 0, 0, 0] xorR) m) ((m : Int) + 1) (b : Int) = (runR (a + b) M m 0 [word, 0, 0, 0] xorR).v := by
  have hR := runR_end a h
  have hE : (runR a M m 0 [word, 0, 0, 0] xorR).M.ens = M.ens := runR_ens _ _ _ _ _ _
  have hsp := runR_split a b M m 0 [word, 0, 0, 0] xorR
  rw [if_pos hd] at hsp
  rw [hsp]
  generalize runR a M m 0 [word, 0, 0, 0] xorR = R at hd hR hE
  have hg := left_good hR h.m4 (.inr (.inl hd))
  have hl4 : R.M.ens.length = 4 := hR.good.s2
  have hm4 := h.m4
  obtain ⟨X, hX⟩ : ∃ X, X = leftE (R.M.ens.getD m default) R := ⟨_, rfl⟩
  have eX : X = ⟨3, (R.M.ens.getD m default).log, R.pc, R.rs.getD 0 0, R.rs.getD 1 0, R.rs.getD 2 0, R.rs.getD 3 0⟩ := by rw [hX]; unfold leftE; rw [if_neg (by omega), if_pos hd]
  have eM : leftM R m = withE R.M (R.M.ens.set m X) := by unfold leftM withE; rw [hX]
  have eG : (leftM R m).ens.getD m default = X := by rw [eM]; show (R.M.ens.set m X).getD m default = X; rw [getD_set_any, if_pos ⟨rfl, by omega⟩]
  have f1 : fuelF (leftM R m) ((m : Int) + 1) 3 (b : Int) = 0 := by
    unfold fuelF
    rw [if_pos (askF_of (good_iff.2 hg) hm4 (by rw [eG, eX]; show (3 : Int) ≠ 0; decide) (fun _ => by rw [eG, eX])), if_pos (inB_iff.2 ⟨by omega, by omega⟩)]
  have eR : resR (leftM R m) ((m : Int) + 1) (b : Int) = (runR b R.M m R.pc R.rs xorR).withE (R.M.ens.set m X) := by
    unfold resR
    rw [show ((m : Int) + 1 - 1).toNat = m by omega, eG, Int.toNat_natCast, eX]
    unfold En.regs
    dsimp only
    rw [four_list hR.len, ← eX, eM, runR_withE]
    rw [getD_set_any, if_pos ⟨rfl, by omega⟩, eX]
  have hE2 : (runR b R.M m R.pc R.rs xorR).M.ens = R.M.ens := runR_ens _ _ _ _ _ _
  refine ⟨f1, ?_, ?_, ?_⟩
  · unfold resM
    rw [if_pos f1, eR, show ((m : Int) + 1 - 1).toNat = m by omega, ← hE2]
    exact leftM_withE (by rw [hE2]; omega) (by rw [hE2, eX])
  · unfold resD; rw [if_pos f1, eR]; rfl
  · unfold resV; rw [if_pos f1, eR]; rfl
theorem run_more {M : Mv} {m : Nat} {pc : Int} {rs : List Int} {xr : Int → Int → Int} {a b : Nat} (hd : ¬ (runR a M m pc rs xr).nd = 2) (hab : a ≤ b) : runR b M m pc rs xr = runR a M m pc rs xr := by
  obtain ⟨c, rfl⟩ : ∃ c, b = a + c := ⟨b - a, by omega⟩
  rw [runR_split, if_neg hd]
/-- an enclave that is Ready is entered -/
theorem ent_ready {M : Mv} (hz : machF M = 0) {m : Nat} (hm : m < 4) (hs : (M.ens.getD m default).st = 2) {word : Int} (hw : 0 ≤ word ∧ word ≤ 65535) {f : Nat} (hf : f ≤ 5000) :
    RunOk M m 0 [word, 0, 0, 0] ∧ entF M ((m : Int) + 1) word (f : Int) = 0 ∧ entM M ((m : Int) + 1) word (f : Int) = leftM (runR f M m 0 [word, 0, 0, 0] xorR) m ∧ entD M ((m : Int) + 1) word (f : Int) = (runR f M m 0 [word, 0, 0, 0] xorR).nd ∧ entV M ((m : Int) + 1) word (f : Int) = (runR f M m 0 [word, 0, 0, 0] xorR).v := by
  have h1 : entF M ((m : Int) + 1) word (f : Int) = 0 := by
    unfold entF fuelF
    rw [if_pos (askF_of hz hm (by omega) (fun _ => hs)), if_pos (inB_iff.2 ⟨by omega, by omega⟩), if_pos rfl, if_pos (inB_iff.2 hw)]
  obtain ⟨m', f', e1, e2, _, ho⟩ := ent_ok h1
  have : m' = m := by omega
  subst this
  refine ⟨ho, h1, ?_, ?_, ?_⟩
  · unfold entM entR; rw [if_pos h1, show ((m' : Int) + 1 - 1).toNat = m' by omega, Int.toNat_natCast]
  · unfold entD entR; rw [if_pos h1, show ((m' : Int) + 1 - 1).toNat = m' by omega, Int.toNat_natCast]
  · unfold entV entR; rw [if_pos h1, show ((m' : Int) + 1 - 1).toNat = m' by omega, Int.toNat_natCast]
end Go.Proofs.YtdngbojbpmdegaaGreatDoor

namespace Go.Proofs.YtdngbojbpmdegaaGreatDoor
open Go.RowKit
set_option maxRecDepth 100000
set_option linter.unusedVariables false

theorem eqv_outcome (d : Nat) (a b a' b' : Int) (w : World) :
    (Op.equalIn (d + 1 + 1) 47 (.agg #[.int .i64 a, .int .i64 b]) (.agg #[.int .i64 a', .int .i64 b'])).run Tryz.prog w = .ok ((a == a') && (b == b')) w := by
  rw [run_equalIn_struct w (d + 1) 47 _ _ (by kernel_rfl) (by kernel_rfl)]
  refine eq_fields2 (show (Tryz.prog.fieldsOf 47).toList.map (fun f => (f.name, f.type, f.offset)) = [("End", 3, 0), ("Value", 3, 1)] by kernel_rfl) (by decide) (by decide) (run_part_plain w (by kernel_rfl) rfl) (run_part_plain w (by kernel_rfl) rfl) (run_part_plain w (by kernel_rfl) rfl) (run_part_plain w (by kernel_rfl) rfl)
    (run_equalIn_int w d 3 .i64 _ _ _ Tryz.underlying3) (run_equalIn_int w d 3 .i64 _ _ _ Tryz.underlying3)
theorem boxes2 (X : World) (a b c d e : Value) (t s : TypeId) : Below X.heap.size X ((X.alloc (.cells #[a, b, c] t)).alloc (.cells #[d, e] s)) ∧ ((X.alloc (.cells #[a, b, c] t)).alloc (.cells #[d, e] s)).heap[X.heap.size]? = some (.cells #[a, b, c] t (0, 0)) ∧ ((X.alloc (.cells #[a, b, c] t)).alloc (.cells #[d, e] s)).heap[X.heap.size + 1]? = some (.cells #[d, e] s (0, 0)) := by
  refine ⟨below_allocR (below_allocR (Below.refl _ _) _) _, ?_, ?_⟩
  · rw [Below.heap_alloc _ _ _ (by simp)]; exact Go.Deep.blk_alloc_new _ _
  · have := Go.Deep.blk_alloc_new (X.alloc (.cells #[a, b, c] t)) (.cells #[d, e] s)
    simpa using this

/-- a variable that holds a machine of its own -/
structure MBox (n0 : Nat) (w : World) (b : Nat) (M : Mv) : Prop where
  c0 : w.cell? ⟨b, 0, none⟩ = some (.slice M.fa M.frs.length M.fcap)
  c1 : w.cell? ⟨b, 1, none⟩ = some (.slice M.ea M.ens.length M.ecap)
  c2 : w.cell? ⟨b, 2, none⟩ = some (.slice M.qa M.qus.length M.qcap)
  fz : ∀ o, w.frozen? ⟨b, o, none⟩ = false
  lt : b < w.heap.size
  own : Owned n0 w M
  off : ¬ Mine M b
theorem MBox.keepH {n0 : Nat} {w w' : World} {b : Nat} {M : Mv} (h : MBox n0 w b M) (hw : ∀ c, c = b ∨ Mine M c → w'.heap[c]? = w.heap[c]?) (hs : w.heap.size ≤ w'.heap.size) : MBox n0 w' b M := by
  have hc : ∀ o, w'.cell? ⟨b, o, none⟩ = w.cell? ⟨b, o, none⟩ := fun o => World.cell?_of_block (hw b (.inl rfl))
  exact ⟨(hc 0).trans h.c0, (hc 1).trans h.c1, (hc 2).trans h.c2, fun o => (World.frozen?_of_block (hw b (.inl rfl))).trans (h.fz o), Nat.lt_of_lt_of_le h.lt hs, h.own.keepM (fun c hc => hw c (.inr hc)) hs, h.off⟩
theorem MBox.old {n0 : Nat} {w : World} {b : Nat} {M : Mv} (h : MBox n0 w b M) {c : Nat} (hc : c = b ∨ Mine M c) : c < w.heap.size := by
  rcases hc with rfl | hc
  · exact h.lt
  · exact (Mine.fresh h.own hc).2
theorem MBox.keep {n0 : Nat} {w w' : World} {b : Nat} {M : Mv} (h : MBox n0 w b M) (hb : Below w.heap.size w w') : MBox n0 w' b M :=
  h.keepH (fun c hc => hb.block c (h.old hc)) hb.size
theorem MBox.far {n0 : Nat} {w : World} {b : Nat} {M : Mv} (h : MBox n0 w b M) {c : Nat} (hc : ¬ (c = b ∨ Mine M c)) (o : Nat) (v : Value) : MBox n0 (w.setCell ⟨c, o, none⟩ v) b M :=
  h.keepH (fun d hd => set_heap _ _ _ _ _ (fun e => hc (e ▸ hd))) (by simp [World.setCell])
theorem MBox.mono {n0 n1 : Nat} {w : World} {b : Nat} {M : Mv} (h : MBox n0 w b M) (hn : n1 ≤ n0) : MBox n1 w b M := ⟨h.c0, h.c1, h.c2, h.fz, h.lt, h.own.mono hn, h.off⟩
theorem MBox.of_block {n0 : Nat} {w : World} {b : Nat} {M : Mv} {t : TypeId} (hO : Owned n0 w M) (hb : w.heap[b]? = some (.cells #[.slice M.fa M.frs.length M.fcap, .slice M.ea M.ens.length M.ecap, .slice M.qa M.qus.length M.qcap] t (0, 0))) (off : ¬ Mine M b) : MBox n0 w b M :=
  ⟨by simp [World.cell?, hb], by simp [World.cell?, hb], by simp [World.cell?, hb], fun o => by simp [World.frozen?, hb], (Array.getElem?_eq_some_iff.1 hb).1, hO, off⟩
/-- a machine is taken over -/
theorem MBox.putM {n0 n1 : Nat} {w : World} {b : Nat} {M N : Mv} (h : MBox n0 w b M) (hO : Owned n1 w N) (off : ¬ Mine N b) :
    MBox n1 (((w.setCell ⟨b, 0, none⟩ (.slice N.fa N.frs.length N.fcap)).setCell ⟨b, 1, none⟩ (.slice N.ea N.ens.length N.ecap)).setCell ⟨b, 2, none⟩ (.slice N.qa N.qus.length N.qcap)) b N := by
  obtain ⟨k0, k1, k2⟩ := blk3 (v0 := .slice N.fa N.frs.length N.fcap) (v1 := .slice N.ea N.ens.length N.ecap) (v2 := .slice N.qa N.qus.length N.qcap) h.c0 h.c1 h.c2
  have hf : ∀ o, (((w.setCell ⟨b, 0, none⟩ (.slice N.fa N.frs.length N.fcap)).setCell ⟨b, 1, none⟩ (.slice N.ea N.ens.length N.ecap)).setCell ⟨b, 2, none⟩ (.slice N.qa N.qus.length N.qcap)).frozen? ⟨b, o, none⟩ = false := fun o => by rw [World.frozen?_setCell, World.frozen?_setCell, World.frozen?_setCell]; exact h.fz o
  have hh := fun c hc => blk3_heap (w := w) (b := b) (v0 := .slice N.fa N.frs.length N.fcap) (v1 := .slice N.ea N.ens.length N.ecap) (v2 := .slice N.qa N.qus.length N.qcap) c hc
  have hz : (((w.setCell ⟨b, 0, none⟩ (.slice N.fa N.frs.length N.fcap)).setCell ⟨b, 1, none⟩ (.slice N.ea N.ens.length N.ecap)).setCell ⟨b, 2, none⟩ (.slice N.qa N.qus.length N.qcap)).heap.size = w.heap.size := blk3_size
  generalize ((w.setCell ⟨b, 0, none⟩ (.slice N.fa N.frs.length N.fcap)).setCell ⟨b, 1, none⟩ (.slice N.ea N.ens.length N.ecap)).setCell ⟨b, 2, none⟩ (.slice N.qa N.qus.length N.qcap) = V at k0 k1 k2 hf hh hz
  exact ⟨k0, k1, k2, hf, by rw [hz]; exact h.lt, hO.keepM (fun c hc => hh c (fun q => off (q ▸ hc))) (by rw [hz]; exact Nat.le_refl _), off⟩
/-- a variable that holds an outcome -/
structure OBox (w : World) (b : Nat) (nd v : Int) : Prop where
  c0 : w.cell? ⟨b, 0, none⟩ = some (.int .i64 nd)
  c1 : w.cell? ⟨b, 1, none⟩ = some (.int .i64 v)
  fz : ∀ o, w.frozen? ⟨b, o, none⟩ = false
  lt : b < w.heap.size
theorem OBox.keepH {w w' : World} {b : Nat} {nd v : Int} (h : OBox w b nd v) (hw : w'.heap[b]? = w.heap[b]?) (hs : w.heap.size ≤ w'.heap.size) : OBox w' b nd v :=
  ⟨(World.cell?_of_block hw).trans h.c0, (World.cell?_of_block hw).trans h.c1, fun o => (World.frozen?_of_block hw).trans (h.fz o), Nat.lt_of_lt_of_le h.lt hs⟩
theorem OBox.keep {w w' : World} {b : Nat} {nd v : Int} (h : OBox w b nd v) (hb : Below w.heap.size w w') : OBox w' b nd v := h.keepH (hb.block b h.lt) hb.size
theorem OBox.far {w : World} {b : Nat} {nd v : Int} (h : OBox w b nd v) {c : Nat} (hc : c ≠ b) (o : Nat) (x : Value) : OBox (w.setCell ⟨c, o, none⟩ x) b nd v :=
  h.keepH (set_heap _ _ _ _ _ (Ne.symm hc)) (by simp [World.setCell])
theorem OBox.of_block {w : World} {b : Nat} {nd v : Int} {t : TypeId} (hb : w.heap[b]? = some (.cells #[.int .i64 nd, .int .i64 v] t (0, 0))) : OBox w b nd v :=
  ⟨by simp [World.cell?, hb], by simp [World.cell?, hb], fun o => by simp [World.frozen?, hb], (Array.getElem?_eq_some_iff.1 hb).1⟩
theorem OBox.put {w : World} {b : Nat} {nd v : Int} (h : OBox w b nd v) (nd' v' : Int) : OBox ((w.setCell ⟨b, 0, none⟩ (.int .i64 nd')).setCell ⟨b, 1, none⟩ (.int .i64 v')) b nd' v' := by
  have oth : ∀ (V : World) (i j : Nat) (x : Value), i ≠ j → (V.setCell ⟨b, i, none⟩ x).cell? ⟨b, j, none⟩ = V.cell? ⟨b, j, none⟩ := fun V i j x hij => World.cell?_setCell_other _ _ _ _ (by intro q; simp only [Addr.mk.injEq, true_and, and_true] at q; exact hij q)
  exact ⟨(oth _ 1 0 _ (by omega)).trans (World.cell?_setCell_same _ _ _ h.c0), World.cell?_setCell_same _ _ _ ((oth w 0 1 _ (by omega)).trans h.c1), fun o => by rw [World.frozen?_setCell, World.frozen?_setCell]; exact h.fz o, by simp [World.setCell]; exact h.lt⟩
/-- both variables take over what a call of package run answers -/
theorem both_put {n0 n1 : Nat} {w V : World} {b c : Nat} {M N : Mv} {nd v nd' v' : Int} (h : MBox n0 w b M) (k : OBox w c nd v) (hO : Owned n1 w N) (ob : ¬ Mine N b) (oc : ¬ Mine N c) (hbc : b ≠ c)
    (hV : V = ((((w.setCell ⟨b, 0, none⟩ (.slice N.fa N.frs.length N.fcap)).setCell ⟨b, 1, none⟩ (.slice N.ea N.ens.length N.ecap)).setCell ⟨b, 2, none⟩ (.slice N.qa N.qus.length N.qcap)).setCell ⟨c, 0, none⟩ (.int .i64 nd')).setCell ⟨c, 1, none⟩ (.int .i64 v')) :
    MBox n1 V b N ∧ OBox V c nd' v' ∧ (∀ n, n ≤ b → n ≤ c → Below n w V) := by
  subst hV
  refine ⟨((h.putM hO ob).far (by rintro (q | q); exact hbc q.symm; exact oc q) _ _).far (by rintro (q | q); exact hbc q.symm; exact oc q) _ _, (((k.far hbc _ _).far hbc _ _).far hbc _ _).put _ _, fun n h1 h2 => ?_⟩
  exact (((((Below.refl n w).setCell (p := ⟨b, 0, none⟩) h1 _).setCell (p := ⟨b, 1, none⟩) h1 _).setCell (p := ⟨b, 2, none⟩) h1 _).setCell (p := ⟨c, 0, none⟩) h2 _).setCell (p := ⟨c, 1, none⟩) h2 _

end Go.Proofs.YtdngbojbpmdegaaGreatDoor

namespace Go.Proofs.YtdngbojbpmdegaaGreatDoor
open Go.RowKit
set_option maxRecDepth 100000
set_option linter.unusedVariables false

set_option maxHeartbeats 2000000 in
theorem eqEns_any (M N : Mv) (w : World) (hM : MachAt w M) (hN : MachAt w N) (he : M.ens = N.ens) :
    Calls Tryz.prog 31 #[.slice M.ea M.ens.length M.ecap, .slice N.ea N.ens.length N.ecap] w fun e w' => e = .returned (.bool true) ∧ ∃ n, w' = w.drewN n := by
  have hl := hM.enl
  unfold maxLen at hl
  rw [← he]
  have HE : Hid (N.ens = M.ens) := he.symm
  obtain ⟨nn, hnn⟩ : ∃ nn, Hid (nn = M.ens.length) := ⟨_, rfl⟩
  rw [← hnn.out] at hl ⊢
  have HM : Hid (MachAt w M) := hM
  have HN : Hid (MachAt w N) := hN
  clear hM hN he
  obtain ⟨fa, frs, fcap, ea, ens, ecap, qa, qus, qcap⟩ := M
  obtain ⟨fb, gs, gcap, eb, ens', ecap', qb, qus', qcap'⟩ := N
  dsimp only at *
  go_enter Tryz.func31, Tryz.ntmps31
  go_wp2
  go_loopw [13] (fun i wr => ∃ k : Nat, k ≤ nn ∧ i = .int .i64 k ∧ ∃ n, wr = w.drewN n) (fun i _ => nn - (intOf i).toNat)
  case atStart => exact ⟨0, Nat.zero_le _, rfl, 0, rfl⟩
  case round =>
    obtain ⟨k, hk, rfl, n, rfl⟩ := hrel
    by_cases hlt : k < nn
    · obtain ⟨xb, xo, hxa, c0, c1, c2, c3, c4, c5, c6⟩ := HM.out.enclave (j := k) (by dsimp only; rw [← hnn.out]; exact hlt)
      obtain ⟨yb, yo, hya, d0, d1, d2, d3, d4, d5, d6⟩ := HN.out.enclave (j := k) (by dsimp only; rw [HE.out, ← hnn.out]; exact hlt)
      dsimp only at hxa hya c0 c1 c2 c3 c4 c5 c6 d0 d1 d2 d3 d4 d5 d6
      subst hxa hya
      rw [HE.out] at d0 d1 d2 d3 d4 d5 d6
      generalize ens.getD k default = P at c0 c1 c2 c3 c4 c5 c6 d0 d1 d2 d3 d4 d5 d6
      obtain ⟨st, lg, pc, g0, g1, g2, g3⟩ := P
      dsimp only at c0 c1 c2 c3 c4 c5 c6 d0 d1 d2 d3 d4 d5 d6
      have hkI : (k : Int) < (nn : Int) := by omega
      have hE : ∀ w', (Op.equalIn 10000 58 (.agg #[.int .i64 st, .string lg, .int .i64 pc, .int .i64 g0, .int .i64 g1, .int .i64 g2, .int .i64 g3]) (.agg #[.int .i64 st, .string lg, .int .i64 pc, .int .i64 g0, .int .i64 g1, .int .i64 g2, .int .i64 g3])).run Tryz.prog w' = .ok true w' := fun w' => by
        have := eq_enclave 9997 st pc g0 g1 g2 g3 st pc g0 g1 g2 g3 lg lg w'
        simpa using this
      go_wp2
      go_quiet (fail)
      go_wp2
      go_roundw
      case rel => exact ⟨k + 1, by omega, by go_num, _, rfl⟩
      case measure => simp [intOf]; omega
    · have hge : ¬ ((k : Int) < (nn : Int)) := by omega
      clear hlt
      go_wp2
      go_ret
      exact ⟨rfl, n, rfl⟩

set_option maxHeartbeats 2000000 in
theorem eqQus_any (M N : Mv) (w : World) (hM : MachAt w M) (hN : MachAt w N) (he : M.qus = N.qus) :
    Calls Tryz.prog 39 #[.slice M.qa M.qus.length M.qcap, .slice N.qa N.qus.length N.qcap] w fun e w' => e = .returned (.bool true) ∧ ∃ n, w' = w.drewN n := by
  have hl := hM.qul
  unfold maxLen at hl
  rw [← he]
  have HE : Hid (N.qus = M.qus) := he.symm
  obtain ⟨nn, hnn⟩ : ∃ nn, Hid (nn = M.qus.length) := ⟨_, rfl⟩
  rw [← hnn.out] at hl ⊢
  have HM : Hid (MachAt w M) := hM
  have HN : Hid (MachAt w N) := hN
  clear hM hN he
  obtain ⟨fa, frs, fcap, ea, ens, ecap, qa, qus, qcap⟩ := M
  obtain ⟨fb, gs, gcap, eb, ens', ecap', qb, qus', qcap'⟩ := N
  dsimp only at *
  go_enter Tryz.func39, Tryz.ntmps39
  go_wp2
  go_loopw [13] (fun i wr => ∃ k : Nat, k ≤ nn ∧ i = .int .i64 k ∧ ∃ n, wr = w.drewN n) (fun i _ => nn - (intOf i).toNat)
  case atStart => exact ⟨0, Nat.zero_le _, rfl, 0, rfl⟩
  case round =>
    obtain ⟨k, hk, rfl, n, rfl⟩ := hrel
    by_cases hlt : k < nn
    · obtain ⟨xb, xo, hxa, c0, c1⟩ := HM.out.quote (j := k) (by dsimp only; rw [← hnn.out]; exact hlt)
      obtain ⟨yb, yo, hya, d0, d1⟩ := HN.out.quote (j := k) (by dsimp only; rw [HE.out, ← hnn.out]; exact hlt)
      dsimp only at hxa hya c0 c1 d0 d1
      subst hxa hya
      rw [HE.out] at d0 d1
      generalize qus.getD k default = P at c0 c1 d0 d1
      obtain ⟨lg, da⟩ := P
      dsimp only at c0 c1 d0 d1
      have hkI : (k : Int) < (nn : Int) := by omega
      have hE : ∀ w', (Op.equalIn 10000 90 (.agg #[.string lg, .int .i64 da]) (.agg #[.string lg, .int .i64 da])).run Tryz.prog w' = .ok true w' := fun w' => by
        have := eq_quote 9998 lg lg da da w'
        simpa using this
      go_wp2
      go_quiet (fail)
      go_wp2
      go_roundw
      case rel => exact ⟨k + 1, by omega, by go_num, _, rfl⟩
      case measure => simp [intOf]; omega
    · have hge : ¬ ((k : Int) < (nn : Int)) := by omega
      clear hlt
      go_wp2
      go_ret
      exact ⟨rfl, n, rfl⟩

end Go.Proofs.YtdngbojbpmdegaaGreatDoor
