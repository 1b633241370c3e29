/-
  A variable that holds a machine (own work): what it holds behind a call of epc, and the calls' contracts at it. The conditions: the machine may be; the library's tables are laid.
-/
import Derived.Test.YtjopgmajgfddoadDoorKeepMath
import Derived.Test.YtjopgmajgfddoadDoorPut
import Derived.Test.YtjopgmajgfddoadDoorMeasure
import Derived.Test.YtjopgmajgfddoadDoorPick
namespace Go.Proofs.YtjopgmajgfddoadDoor
open Go.RowKit

structure Box (w W : World) (b : Nat) (N C : Mv) : Prop where
  bel : Below w.heap.size w W
  ge : w.heap.size ≤ b
  lt : b < W.heap.size
  c0 : W.cell? ⟨b, 0, none⟩ = some (.slice N.fa N.frs.length N.fcap)
  c1 : W.cell? ⟨b, 1, none⟩ = some (.slice N.ea N.ens.length N.ecap)
  c2 : W.cell? ⟨b, 2, none⟩ = some (.slice N.qa N.qus.length N.qcap)
  fz : ∀ o, W.frozen? ⟨b, o, none⟩ = false
  at_ : MachAt W N
  same : N.Same C
theorem wrap_wf (x : Int) : (Lit.int .i64 (IntKind.i64.wrap x)).wf = true := by
  rw [IntKind.wrap_i64]
  simp [Lit.wf, IntKind.min, IntKind.max, IntKind.bits, IntKind.signed]
  omega
theorem fits_good {M N : Mv} (hz : machF M = 0) (hs : N.Same M) : N.Fits := by
  have g := good_iff.1 hz
  refine fits_same (M := M) ⟨by rw [g.s1]; omega, fun j hj => ?_, by rw [g.s2]; omega, by have := g.s3; omega⟩ hs
  rw [(machF_words hz (by have := g.s1; omega)).1]; omega
theorem Box.keep {w W W' : World} {b : Nat} {N C : Mv} (h : Box w W b N C) (hb : Below W.heap.size W W') : Box w W' b N C :=
  ⟨h.bel.trans (hb.mono h.bel.size), h.ge, Nat.lt_of_lt_of_le h.lt hb.size, (hb.cell (p := ⟨b, 0, none⟩) h.lt).trans h.c0, (hb.cell (p := ⟨b, 1, none⟩) h.lt).trans h.c1, (hb.cell (p := ⟨b, 2, none⟩) h.lt).trans h.c2, fun o => (hb.frozen (p := ⟨b, o, none⟩) h.lt).trans (h.fz o), h.at_.below hb, h.same⟩
theorem Box.new {w W : World} {N C : Mv} (hb : Below w.heap.size w W) (hM : MachAt W N) (hs : N.Same C) : Box w (W.alloc (.cells #[.slice N.fa N.frs.length N.fcap, .slice N.ea N.ens.length N.ecap, .slice N.qa N.qus.length N.qcap] 26)) W.heap.size N C := by
  obtain ⟨x0, x1, x2, _, _, _, xl⟩ := box_cells (a11 W (.cells #[.slice N.fa N.frs.length N.fcap, .slice N.ea N.ens.length N.ecap, .slice N.qa N.qus.length N.qcap] 26))
  exact ⟨hb.alloc hb.size _, hb.size, xl, x0, x1, x2, fun o => frozen_of_block (a11 W _) o, hM.below ((Below.refl _ _).alloc (Nat.le_refl _) _), hs⟩
theorem Box.store {w W w1 : World} {b : Nat} {N C N' C' : Mv} (h : Box w W b N C) (hb : Below W.heap.size W w1) (hO : Owned W.heap.size w1 N') (hs : N'.Same C') :
    Box w (((w1.setCell ⟨b, 0, none⟩ (.slice N'.fa N'.frs.length N'.fcap)).setCell ⟨b, 1, none⟩ (.slice N'.ea N'.ens.length N'.ecap)).setCell ⟨b, 2, none⟩ (.slice N'.qa N'.qus.length N'.qcap)) b N' C' := by
  have h1 := h.keep hb
  obtain ⟨k0, k1, k2⟩ := blk3 (v0 := .slice N'.fa N'.frs.length N'.fcap) (v1 := .slice N'.ea N'.ens.length N'.ecap) (v2 := .slice N'.qa N'.qus.length N'.qcap) h1.c0 h1.c1 h1.c2
  refine ⟨blk3_below h1.bel h.ge, h.ge, by rw [blk3_size]; exact h1.lt, k0, k1, k2, fun o => ?_, (hO.keep (fun b' hb' _ => blk3_heap b' (by have := h.lt; omega)) (by rw [blk3_size]; exact Nat.le_refl _)).at_, hs⟩
  rw [World.frozen?_setCell, World.frozen?_setCell, World.frozen?_setCell]
  exact h1.fz o

theorem put_box {w W : World} {b : Nat} {N C : Mv} (bx : Box w W b N C) (hz : machF C = 0) (ht : Tab w) (e f a r : Int) (wa : (Lit.int .i64 a).wf = true) (wr : (Lit.int .i64 r).wf = true) {z : Int} (hf : putF C e f a r = z) :
    Calls Tryd.prog 9 #[N.val, .int .i64 e, .int .i64 f, .int .i64 a, .int .i64 r] W fun x w' => ∃ N' : Mv, x = .returned (.tuple #[N'.val, .int .i64 z]) ∧ N'.Same (putM C e f a r) ∧ Owned W.heap.size w' N' ∧ Below W.heap.size W w' := by
  refine (put_any N e f a r W bx.at_ (fits_good hz bx.same) wa wr (ht.below bx.bel)).mono ?_
  rintro x w' ⟨N', rfl, hS, hO, hb⟩
  rw [putF_same bx.same, hf]
  exact ⟨N', rfl, hS.trans (putM_same bx.same e f a r), hO, hb⟩

theorem measure_box {w W : World} {b : Nat} {N C : Mv} (bx : Box w W b N C) (hz : machF C = 0) (ht : Tab w) (e a : Int) (wa : (Lit.int .i64 a).wf = true) {z : Int} (hf : meaF C e a = z) :
    Calls Tryd.prog 14 #[N.val, .int .i64 e, .int .i64 a] W fun x w' => ∃ N' : Mv, x = .returned (.tuple #[N'.val, .int .i64 z]) ∧ N'.Same (meaM C e a) ∧ Owned W.heap.size w' N' ∧ Below W.heap.size W w' := by
  refine (measure_any N e a W bx.at_ (fits_good hz bx.same) wa (ht.below bx.bel)).mono ?_
  rintro x w' ⟨N', rfl, hS, hO, hb⟩
  rw [meaF_same bx.same, hf]
  exact ⟨N', rfl, hS.trans (meaM_same bx.same e a), hO, hb⟩

theorem start_box {w W : World} {b : Nat} {N C : Mv} (bx : Box w W b N C) (hz : machF C = 0) (e : Int) {z : Int} (hf : askF C e 1 = z) :
    Calls Tryd.prog 15 #[N.val, .int .i64 e] W fun x w' => ∃ N' : Mv, x = .returned (.tuple #[N'.val, .int .i64 z]) ∧ N'.Same (startM C e) ∧ Owned W.heap.size w' N' ∧ Below W.heap.size W w' := by
  refine (start_any N e W bx.at_ (fits_good hz bx.same)).mono ?_
  rintro x w' ⟨N', rfl, hS, hO, hb⟩
  rw [askF_same bx.same, hf]
  exact ⟨N', rfl, hS.trans (startM_same bx.same e), hO, hb⟩

theorem remove_box {w W : World} {b : Nat} {N C : Mv} (bx : Box w W b N C) (hz : machF C = 0) (e : Int) {z : Int} (hf : askF C e (-1) = z) :
    Calls Tryd.prog 11 #[N.val, .int .i64 e] W fun x w' => ∃ N' : Mv, x = .returned (.tuple #[N'.val, .int .i64 z]) ∧ N'.Same (remM C e) ∧ Owned W.heap.size w' N' ∧ Below W.heap.size W w' := by
  refine (remove_any N e W bx.at_ (fits_good hz bx.same)).mono ?_
  rintro x w' ⟨N', rfl, hS, hO, hb⟩
  rw [askF_same bx.same, hf]
  exact ⟨N', rfl, hS.trans (remM_same bx.same e), hO, hb⟩

theorem poke_box {w W : World} {b : Nat} {N C : Mv} (bx : Box w W b N C) (hz : machF C = 0) (f a n : Int) (wn : (Lit.int .i64 n).wf = true) {z : Int} (hf : pokeF C f a n = z) :
    Calls Tryd.prog 7 #[N.val, .int .i64 f, .int .i64 a, .int .i64 n] W fun x w' => ∃ N' : Mv, x = .returned (.tuple #[N'.val, .int .i64 z]) ∧ N'.Same (pokeM C f a n) ∧ Owned W.heap.size w' N' ∧ Below W.heap.size W w' := by
  refine (poke_any N f a n W bx.at_ (fits_good hz bx.same) wn).mono ?_
  rintro x w' ⟨N', rfl, hS, hO, hb⟩
  rw [pokeF_same bx.same, hf]
  exact ⟨N', rfl, hS.trans (pokeM_same bx.same f a n), hO, hb⟩

theorem create_box {w W : World} {N C : Mv} (hw : Below w.heap.size w W) (hN : MachAt W N) (hs : N.Same C) (hz : machF C = 0) (ht : Tab w) {n z : Int} (hn : creN C = n) (hf : creF C = z) :
    Calls Tryd.prog 8 #[N.val] W fun x w' => ∃ N' : Mv, x = .returned (.tuple #[N'.val, .int .i64 n, .int .i64 z]) ∧ N'.Same (creM C) ∧ Owned W.heap.size w' N' ∧ Below W.heap.size W w' := by
  refine (create_any N W hN (fits_good hz hs) (ht.below hw)).mono ?_
  rintro x w' ⟨N', rfl, hS, hO, hb⟩
  rw [creF_same hs, creN_same hs, hf, hn]
  exact ⟨N', rfl, hS.trans (creM_same hs), hO, hb⟩
theorem peek_box {w W : World} {b : Nat} {N C : Mv} (bx : Box w W b N C) (f a : Int) {n z : Int} (hn : peekN C f a = n) (hf : wordF C f a = z) :
    Calls Tryd.prog 10 #[N.val, .int .i64 f, .int .i64 a] W fun x w' => x = .returned (.tuple #[.int .i64 n, .int .i64 z]) ∧ Below W.heap.size W w' := by
  refine (peek_any N f a W bx.at_).mono ?_
  rintro x w' ⟨rfl, hb⟩
  have e1 : peekN N f a = peekN C f a := by unfold peekN; rw [wordF_same bx.same, own_same bx.same, ws_same bx.same]
  rw [wordF_same bx.same, hf, e1, hn]
  exact ⟨rfl, hb⟩

end Go.Proofs.YtjopgmajgfddoadDoor
