/-
  What the calls New (epc) and MachineOf (riddleref) answer: both a machine whose frames all share, with words that are 0, whose enclaves are Empty, with no quotes, in memory of its own; they turn nothing that was in memory. No condition.
-/
import Derived.Test.YtdbbiibnhgcndaaShared
import Derived.Test.YtdbbiibnhgcndaaSameM
namespace Go.Proofs.Ytdbbiibnhgcndaa
open Go.RowKit

/-- the new machine -/
def newM : Mv := ⟨none, List.replicate 24 zeroFr, 0, none, List.replicate 4 default, 0, none, [], 0⟩
theorem rep_getD {α : Type} (n : Nat) (x d : α) {j : Nat} (hj : j < n) : (List.replicate n x).getD j d = x := by simp [List.getD_eq_getElem?_getD, hj]
theorem rep_default {α : Type} (n : Nat) (d : α) (j : Nat) : (List.replicate n d).getD j d = d := by
  by_cases hj : j < n
  · exact rep_getD n d d hj
  · simp [List.getD_eq_getElem?_getD, hj]
theorem newM_fr {j : Nat} (hj : j < 24) : newM.frs.getD j default = zeroFr := rep_getD 24 zeroFr default hj

/-- what the first statement of New makes -/
structure NMade (W wx : World) (B X Y : Nat) : Prop where
  lB : W.heap.size ≤ B
  lX : W.heap.size ≤ X
  lY : W.heap.size ≤ Y
  BX : B ≠ X
  BY : B ≠ Y
  XY : X ≠ Y
  hB : wx.heap[B]? = some (.cells #[.slice (some ⟨X, 0, none⟩) 24 24, .slice (some ⟨Y, 0, none⟩) 4 4, .slice none 0 0] 43 (0, 0))
  hX : wx.heap[X]? = some (.cells (madeCells #[.int .i64 0, .int .i64 0, .int .i64 0, .slice none 0 0] (24 * 4)) 83 (0, 0))
  hY : wx.heap[Y]? = some (.cells (madeCells #[.int .i64 0, .string ⟨#[]⟩, .int .i64 0, .int .i64 0, .int .i64 0, .int .i64 0, .int .i64 0] (4 * 7)) 87 (0, 0))
  bel : Below W.heap.size W wx

theorem make_rowsN (t e : TypeId) (z : Array Value) (size bytes : Nat) (hu : Try.prog.underlying t = some (.slice e)) (hi : (Try.prog.info? e).map (fun i => (i.zero, i.size, i.bytes)) = some (some (.agg z), size, bytes)) (n : Nat) (hb : bytes * n ≤ 281474976710656) (hn : n ≤ 9223372036854775807) (w : World) :
    (Instr.makeSlice t (.int .i64 (n : Int)) (.int .i64 (n : Int))).run Try.prog w = .ok (.slice (some ⟨w.heap.size, 0, none⟩) n n) (w.alloc (.cells (madeCells z (n * size)) e)) := by
  obtain ⟨i, hi, hzz⟩ := Option.map_eq_some_iff.1 hi
  simp only [Prod.mk.injEq] at hzz
  obtain ⟨hz, hs, hbb⟩ := hzz
  have hbn : (bytes : Int) * (n : Int) = ((bytes * n : Nat) : Int) := by simp
  have hr := run_make (P := Try.prog) w t e i _ hu hi hz .i64 .i64 n n (by omega) (Int.le_refl _) (by rw [hbb]; omega) (by omega)
  simp only [Int.toNat_natCast, hs] at hr
  exact hr
theorem make24 (w : World) : (Instr.makeSlice 39 (.int .i64 24) (.int .i64 24)).run Try.prog w = .ok (.slice (some ⟨w.heap.size, 0, none⟩) 24 24) (w.alloc (.cells (madeCells #[.int .i64 0, .int .i64 0, .int .i64 0, .slice none 0 0] (24 * 4)) 83)) :=
  make_rowsN 39 83 _ 4 48 Try.underlying39 info_f 24 (by omega) (by omega) w
theorem make4 (w : World) : (Instr.makeSlice 40 (.int .i64 4) (.int .i64 4)).run Try.prog w = .ok (.slice (some ⟨w.heap.size, 0, none⟩) 4 4) (w.alloc (.cells (madeCells #[.int .i64 0, .string ⟨#[]⟩, .int .i64 0, .int .i64 0, .int .i64 0, .int .i64 0, .int .i64 0] (4 * 7)) 87)) :=
  make_rowsN 40 87 _ 7 64 Try.underlying40 info_e 4 (by omega) (by omega) w
theorem made24 : madeCells #[Value.int .i64 0, .int .i64 0, .int .i64 0, .slice none 0 0] (24 * 4) = ((List.replicate 24 (default : Fr)).flatMap Fr.cells ++ []).toArray := by kernel_rfl
theorem made4 : madeCells #[Value.int .i64 0, .string ⟨#[]⟩, .int .i64 0, .int .i64 0, .int .i64 0, .int .i64 0, .int .i64 0] (4 * 7) = ((List.replicate 4 (default : En)).flatMap En.cells ++ []).toArray := by kernel_rfl

/-- the machine of New ahead of its loop -/
theorem nmade_owned {W wx : World} {B X Y : Nat} (h : NMade W wx B X Y) : Owned W.heap.size wx ⟨some ⟨X, 0, none⟩, List.replicate 24 default, 24, some ⟨Y, 0, none⟩, List.replicate 4 default, 4, none, [], 0⟩ := by
  have gf : ∀ j, (List.replicate 24 (default : Fr)).getD j default = default := rep_default 24 default
  have ge : ∀ j, (List.replicate 4 (default : En)).getD j default = default := rep_default 4 default
  have new : ∀ b cs t, W.heap.size ≤ b → wx.heap[b]? = some (.cells cs t (0, 0)) → New W.heap.size wx (some ⟨b, 0, none⟩) := fun b cs t hb hc x o s e => by
    simp only [Option.some.injEq, Addr.mk.injEq] at e
    obtain ⟨rfl, _⟩ := e
    exact ⟨hb, (Array.getElem?_eq_some_iff.1 hc).1, frozen_of_block hc⟩
  have z : (Lit.int .i64 0).wf = true := by decide
  refine ⟨⟨rows_of_block (cells := Fr.cells) (fun _ => rfl) (by rw [h.hX, made24]), by simp [maxLen], by simp, fun j _ => ?_, rows_of_block (cells := En.cells) (fun _ => rfl) (by rw [h.hY, made4]), by simp [maxLen], fun j _ => ?_, .inl rfl, Nat.zero_le _, fun j hj => absurd hj (by simp)⟩,
    new X _ _ h.lX h.hX, new Y _ _ h.lY h.hY, (fun b o s e => by cases e), fun j _ => ?_, off_some h.XY, none_off, none_off, fun j _ => ?_, fun j _ => ?_, fun j _ => ?_, fun i j _ _ _ => ?_⟩
  · dsimp only; rw [gf]; exact ⟨z, z, z, Nat.zero_le _, .inl rfl, fun n hn => by cases hn⟩
  · dsimp only; rw [ge]; exact ⟨z, Nat.zero_le _, z, z, z, z, z⟩
  · dsimp only; rw [gf]; intro b o s e; cases e
  · dsimp only; rw [gf]; exact off_none
  · dsimp only; rw [gf]; exact off_none
  · dsimp only; rw [gf]; exact off_none
  · dsimp only; rw [gf, gf]; exact off_none

theorem box3' {x v : World} {a b c : Value} {t : TypeId} (h : Below (x.alloc (.cells #[a, b, c] t)).heap.size (x.alloc (.cells #[a, b, c] t)) v) :
    v.cell? ⟨x.heap.size, 0, none⟩ = some a ∧ v.cell? ⟨x.heap.size, 1, none⟩ = some b ∧ v.cell? ⟨x.heap.size, 2, none⟩ = some c ∧ x.heap.size < v.heap.size := by
  refine ⟨(h.cell (p := ⟨x.heap.size, 0, none⟩) (by simp)).trans ?_, (h.cell (p := ⟨x.heap.size, 1, none⟩) (by simp)).trans ?_, (h.cell (p := ⟨x.heap.size, 2, none⟩) (by simp)).trans ?_, by have := h.size; simp at this; omega⟩
  · rw [World.cell?_alloc_at _ _ _ _ rfl]; rfl
  · rw [World.cell?_alloc_at _ _ _ _ rfl]; rfl
  · rw [World.cell?_alloc_at _ _ _ _ rfl]; rfl
theorem blk3' {w : World} {b : Nat} {v0 v1 v2 x0 x1 x2 : Value} (h0 : w.cell? ⟨b, 0, none⟩ = some x0) (h1 : w.cell? ⟨b, 1, none⟩ = some x1) (h2 : w.cell? ⟨b, 2, none⟩ = some x2) :
    (((w.setCell ⟨b, 0, none⟩ v0).setCell ⟨b, 1, none⟩ v1).setCell ⟨b, 2, none⟩ v2).cell? ⟨b, 0, none⟩ = some v0 ∧ (((w.setCell ⟨b, 0, none⟩ v0).setCell ⟨b, 1, none⟩ v1).setCell ⟨b, 2, none⟩ v2).cell? ⟨b, 1, none⟩ = some v1 ∧
      (((w.setCell ⟨b, 0, none⟩ v0).setCell ⟨b, 1, none⟩ v1).setCell ⟨b, 2, none⟩ v2).cell? ⟨b, 2, none⟩ = some v2 := by
  refine ⟨?_, ?_, ?_⟩
  · rw [World.cell?_setCell_other _ _ _ _ (by simp), World.cell?_setCell_other _ _ _ _ (by simp)]
    exact World.cell?_setCell_same _ _ _ h0
  · rw [World.cell?_setCell_other _ _ _ _ (by simp)]
    exact World.cell?_setCell_same _ _ _ ((World.cell?_setCell_other _ _ _ _ (by simp)).trans h1)
  · exact World.cell?_setCell_same _ _ _ ((World.cell?_setCell_other _ _ _ _ (by simp)).trans ((World.cell?_setCell_other _ _ _ _ (by simp)).trans h2))
theorem blk3_heap' {w : World} {b : Nat} {v0 v1 v2 : Value} (c : Nat) (h : c ≠ b) : (((w.setCell ⟨b, 0, none⟩ v0).setCell ⟨b, 1, none⟩ v1).setCell ⟨b, 2, none⟩ v2).heap[c]? = w.heap[c]? := by
  rw [Below.heap_setCell _ _ _ _ h, Below.heap_setCell _ _ _ _ h, Below.heap_setCell _ _ _ _ h]
theorem blk3_below' {w0 w : World} {b B : Nat} {v0 v1 v2 : Value} (h : Below B w0 w) (hb : B ≤ b) : Below B w0 (((w.setCell ⟨b, 0, none⟩ v0).setCell ⟨b, 1, none⟩ v1).setCell ⟨b, 2, none⟩ v2) :=
  ((h.setCell (by simpa using hb) _).setCell (by simpa using hb) _).setCell (by simpa using hb) _
theorem blk3_size' {w : World} {b : Nat} {v0 v1 v2 : Value} : (((w.setCell ⟨b, 0, none⟩ v0).setCell ⟨b, 1, none⟩ v1).setCell ⟨b, 2, none⟩ v2).heap.size = w.heap.size := by simp [World.setCell]

/-- the loop of New: the first k frames are laid -/
structure NLoop (w wr : World) (B X Y : Nat) (frs : List Fr) (k : Nat) : Prop where
  own : Owned (w.heap.size + 1) wr ⟨some ⟨X, 0, none⟩, frs, 24, some ⟨Y, 0, none⟩, List.replicate 4 default, 4, none, [], 0⟩
  len : frs.length = 24
  done : ∀ j, j < k → (frs.getD j default).Same zeroFr
  bel : Below w.heap.size w wr
  hB : wr.heap[B]? = some (.cells #[.slice (some ⟨X, 0, none⟩) 24 24, .slice (some ⟨Y, 0, none⟩) 4 4, .slice none 0 0] 43 (0, 0))
  hR : wr.heap[w.heap.size]? = some (.cells #[.slice none 0 0, .slice none 0 0, .slice none 0 0] 43 (0, 0))

set_option maxRecDepth 100000 in
set_option maxHeartbeats 4000000 in
theorem new_any (w : World) : Calls Try.prog 32 #[] w fun x w' => ∃ N : Mv, x = .returned N.val ∧ N.Same newM ∧ Owned w.heap.size w' N ∧ Below w.heap.size w w' := by
  have mk1 := make24
  have mk2 := make4
  obtain ⟨W2, hW2⟩ : ∃ W2, Hid (W2 = w.alloc (.cells #[.slice none 0 0, .slice none 0 0, .slice none 0 0] 43)) := ⟨_, rfl⟩
  go_enter Try.func32, Try.ntmps32
  go_upto_region 1 with fail
  rw [← hW2.out]
  go_cut [1, 3, 4] from 2 (fun s1 s3 s4 wx => ∃ B X Y, s1 = .pointer (some ⟨B, 0, none⟩) ∧ s3 = .slice (some ⟨X, 0, none⟩) 24 24 ∧ s4 = .slice (some ⟨Y, 0, none⟩) 4 4 ∧ NMade W2 wx B X Y)
  case first =>
    go_big_region
    all_goals
      go_wp2_with fail
      go_meet
      case rel =>
        refine ⟨_, _, _, rfl, rfl, rfl, ?_⟩
        exact ⟨by omega, by omega, by omega, by omega, by omega, by omega,
          by first | exact a33 _ _ _ _ | exact a32 _ _ _ _ | exact a31 _ _ _ _, by first | exact a33 _ _ _ _ | exact a32 _ _ _ _ | exact a31 _ _ _ _, by first | exact a33 _ _ _ _ | exact a32 _ _ _ _ | exact a31 _ _ _ _, by repeat (first | exact a3B _ _ _ _ | refine Below.drew ?_)⟩
  case rest =>
    obtain ⟨B, X, Y, rfl, rfl, rfl, hm⟩ := hcut
    have hs2 : W2.heap.size = w.heap.size + 1 := by rw [hW2.out]; simp
    have BW : Hid (Below w.heap.size w W2) := by show Below _ _ _; rw [hW2.out]; exact (Below.refl _ _).alloc (Nat.le_refl _) _
    have hR2 : W2.heap[w.heap.size]? = some (.cells #[.slice none 0 0, .slice none 0 0, .slice none 0 0] 43 (0, 0)) := by rw [hW2.out]; exact a11 _ _
    have LP : Hid (∃ frs, NLoop w wc B X Y frs 0) := ⟨_, ⟨by have := nmade_owned hm; rw [hs2] at this; exact this, List.length_replicate, fun j hj => absurd hj (by omega), BW.out.trans (hm.bel.mono (by omega)), hm.hB, (hm.bel.block _ (by omega)).trans hR2⟩⟩
    have NB : Hid (B ≠ X ∧ w.heap.size + 1 ≤ X ∧ w.heap.size + 1 ≤ B) := ⟨hm.BX, by have := hm.lX; omega, by have := hm.lB; omega⟩
    have b0 : wc.cell? ⟨B, 0, none⟩ = some (.slice (some ⟨X, 0, none⟩) 24 24) := by simp [World.cell?, hm.hB]
    clear hm hR2 mk1 mk2 hs2 hW2 BW
    go_wp2
    clear b0
    go_loopw [9] (fun i wr => ∃ k : Nat, k ≤ 24 ∧ i = .int .i64 k ∧ Hid (∃ frs, NLoop w wr B X Y frs k)) (fun i _ => 24 - (intOf i).toNat)
    case atStart => exact ⟨0, Nat.zero_le _, rfl, LP⟩
    case round =>
      obtain ⟨k, hk, rfl, hL⟩ := hrel
      clear LP
      obtain ⟨frs, hO, hlen, hdone, hbel, hB, hR⟩ := hL.out
      have b0 : wr.cell? ⟨B, 0, none⟩ = some (.slice (some ⟨X, 0, none⟩) 24 24) := by simp [World.cell?, hB]
      have bl : B < wr.heap.size := lt_of_cell b0
      by_cases hlt : k < 24
      · obtain ⟨_, _, hfa, c0, c1, c2, c3⟩ := hO.at_.frame (j := k) (by dsimp only; rw [hlen]; exact hlt)
        dsimp only at hfa c0 c1 c2 c3
        simp only [Option.some.injEq, Addr.mk.injEq, and_true] at hfa
        obtain ⟨rfl, rfl⟩ := hfa
        have nn := hO.nf X 0 none rfl
        have xl : X < wr.heap.size := nn.2.1
        have fz := nn.2.2
        have z0 := fz (0 + k * 4)
        have z1 := fz (0 + k * 4 + 1)
        have z2 := fz (0 + k * 4 + 2)
        have z3 := fz (0 + k * 4 + 3)
        simp only [Nat.zero_add] at c0 c1 c2 c3 z0 z1 z2 z3
        generalize (frs.getD k default).o = po at c0
        generalize (frs.getD k default).at_ = pat at c1
        generalize (frs.getD k default).r = pr at c2
        generalize (frs.getD k default).a = pa at c3
        generalize (frs.getD k default).ws.length = pl at c3
        generalize (frs.getD k default).cap = pc at c3
        have LN : Hid (∀ w5 g, Below wr.heap.size wr w5 → wr.heap.size ≤ g → w5.heap[g]? = some (.cells (wvals (List.replicate 8 0)).toArray 3 (0, 0)) → ∃ frs, NLoop w (laid4 w5 X (0 + k * 4) g) B X Y frs (k + 1)) := fun w5 g hb5 hg5 hgw => by
          have hlk : k < frs.length := by rw [hlen]; exact hlt
          have nb := NB.out
          refine ⟨frs.set k (newFrame g), ⟨hO.layFrame rfl hlk hb5 hg5 hgw, by simpa using hlen, fun j hj => ?_, laid4_below (hbel.trans (hb5.mono hbel.size)) (by omega), (laid4_heap nb.1).trans ((hb5.block _ bl).trans hB), (laid4_heap (by omega)).trans ((hb5.block _ (by omega)).trans hR)⟩⟩
          rw [getD_set _ _ _ _ hlk]
          split
          · exact newFrame_same g
          · exact hdone j (by omega)
        simp only [Nat.zero_add] at LN
        clear nn fz hO hL hB hR hdone
        go_wp2
        go_region_law (go_simp; go_at_call 67; refine (sharedFrame_any _).mono ?_; rintro x w5 ⟨rfl, hg5, hb5⟩; have d0 : w5.cell? ⟨X, k * 4, none⟩ = some (.int .i64 po) := (hb5.cell (p := ⟨X, _, none⟩) (by simp; omega)).trans c0; have d1 : w5.cell? ⟨X, k * 4 + 1, none⟩ = some (.int .i64 pat) := (hb5.cell (p := ⟨X, _, none⟩) (by simp; omega)).trans c1; have d2 : w5.cell? ⟨X, k * 4 + 2, none⟩ = some (.int .i64 pr) := (hb5.cell (p := ⟨X, _, none⟩) (by simp; omega)).trans c2; have d3 : w5.cell? ⟨X, k * 4 + 3, none⟩ = some (.slice pa pl pc) := (hb5.cell (p := ⟨X, _, none⟩) (by simp; omega)).trans c3; have q0 : w5.cell? ⟨B, 0, none⟩ = some (.slice (some ⟨X, 0, none⟩) 24 24) := (hb5.cell (p := ⟨B, 0, none⟩) (by simp; omega)).trans b0; have g0 : w5.frozen? ⟨X, k * 4, none⟩ = false := (hb5.frozen (p := ⟨X, _, none⟩) (by simp; omega)).trans z0; have g1 : w5.frozen? ⟨X, k * 4 + 1, none⟩ = false := (hb5.frozen (p := ⟨X, _, none⟩) (by simp; omega)).trans z1; have g2 : w5.frozen? ⟨X, k * 4 + 2, none⟩ = false := (hb5.frozen (p := ⟨X, _, none⟩) (by simp; omega)).trans z2; have g3 : w5.frozen? ⟨X, k * 4 + 3, none⟩ = false := (hb5.frozen (p := ⟨X, _, none⟩) (by simp; omega)).trans z3; dsimp only)
        all_goals
          have HQ5 : Below wr.heap.size wr w5 := by first | exact hb5 | exact ((Below.refl _ _).drew).trans hb5
          have R := LN.out w5 (wr.heap.size + 1) HQ5 (by omega) (by simpa using hg5)
          unfold laid4 at R
          have HR5 : Hid (_) := R
          clear R HQ5 LN hb5 hg5 d0 d1 d2 d3 q0 g0 g1 g2 g3
          go_wp2
          go_roundw
          case rel => exact ⟨k + 1, by omega, by go_num, HR5⟩
          case measure => simp [intOf]; omega
      · have hge : ¬ ((k : Int) < 24) := by omega
        have hkn : k = 24 := by omega
        have b1 : wr.cell? ⟨B, 1, none⟩ = some (.slice (some ⟨Y, 0, none⟩) 4 4) := by simp [World.cell?, hB]
        have b2 : wr.cell? ⟨B, 2, none⟩ = some (.slice none 0 0) := by simp [World.cell?, hB]
        have y0 : wr.cell? ⟨w.heap.size, 0, none⟩ = some (.slice none 0 0) := by simp [World.cell?, hR]
        have y1 : wr.cell? ⟨w.heap.size, 1, none⟩ = some (.slice none 0 0) := by simp [World.cell?, hR]
        have y2 : wr.cell? ⟨w.heap.size, 2, none⟩ = some (.slice none 0 0) := by simp [World.cell?, hR]
        have yf0 : wr.frozen? ⟨w.heap.size, 0, none⟩ = false := frozen_of_block hR 0
        have yf1 : wr.frozen? ⟨w.heap.size, 1, none⟩ = false := frozen_of_block hR 1
        have yf2 : wr.frozen? ⟨w.heap.size, 2, none⟩ = false := frozen_of_block hR 2
        have HLF : Hid (frs.length = 24) := hlen
        have HSM : Hid (Mv.Same ⟨some ⟨X, 0, none⟩, frs, 24, some ⟨Y, 0, none⟩, List.replicate 4 default, 4, none, [], 0⟩ newM) :=
          ⟨by dsimp only; rw [hlen]; exact List.length_replicate.symm, fun j hj => by dsimp only at hj ⊢; rw [hlen] at hj; rw [newM_fr hj]; exact hdone j (by omega), rfl, rfl⟩
        have HOE : Hid (_) := hO
        clear hO hL hB hR hdone
        go_wp2
        obtain ⟨k0, k1, k2⟩ := blk3' (v0 := .slice (some ⟨X, 0, none⟩) 24 24) (v1 := .slice (some ⟨Y, 0, none⟩) 4 4) (v2 := .slice none 0 0) y0 y1 y2
        (try simp only [Exit.inBlock, Exit.then])
        refine bodyPost_ret (by simp [results, Try.results32, go_sem, k0, k1, k2]; try rfl) rfl ?_
        exact ⟨⟨some ⟨X, 0, none⟩, frs, 24, some ⟨Y, 0, none⟩, List.replicate 4 default, 4, none, [], 0⟩, by simp [Mv.val, HLF.out], HSM.out, (HOE.out.keep (fun b hb _ => blk3_heap' b (by omega)) (by rw [blk3_size']; exact Nat.le_refl _)).mono (by omega), blk3_below' hbel (by omega)⟩

theorem newM_good : newM.Good := by
  have z : (Lit.int .i64 0).wf = true := by decide
  refine ⟨by simp [newM, maxLen], fun j hj => ?_, by simp [newM, maxLen], fun j hj => ?_, by simp [newM], fun j hj => absurd hj (by simp [newM])⟩
  · rw [newM_fr (by simpa [newM] using hj)]
    exact ⟨z, z, z, by simp [zeroFr, maxLen], fun n hn => by simp [zeroFr] at hn; subst hn; exact z⟩
  · have : newM.ens.getD j default = default := rep_default 4 default j
    rw [this]
    exact ⟨z, Nat.zero_le _, z, z, z, z, z⟩

set_option maxRecDepth 100000 in
set_option maxHeartbeats 4000000 in
theorem machineOf_any (w : World) : Calls Try.prog 33 #[] w fun x w' => ∃ N : Mv, x = .returned N.val ∧ N.Same newM ∧ Owned w.heap.size w' N ∧ Below w.heap.size w w' := by
  have mk1 := make8
  have mk2 := make4
  obtain ⟨W2, hW2⟩ : ∃ W2, Hid (W2 = w.alloc (.cells #[.slice none 0 0, .slice none 0 0, .slice none 0 0] 43)) := ⟨_, rfl⟩
  obtain ⟨W4, hW4⟩ : ∃ W4, Hid (W4 = (W2.alloc (.cells (madeCells #[.int .i64 0, .string ⟨#[]⟩, .int .i64 0, .int .i64 0, .int .i64 0, .int .i64 0, .int .i64 0] 28) 87)).alloc (.cells #[.slice none 0 0, .slice (some ⟨W2.heap.size, 0, none⟩) 4 4, .slice none 0 0] 43)) := ⟨_, rfl⟩
  have hs2 : W2.heap.size = w.heap.size + 1 := by rw [hW2.out]; simp
  have BW : Hid (Below w.heap.size w W2) := by show Below _ _ _; rw [hW2.out]; exact (Below.refl _ _).alloc (Nat.le_refl _) _
  have hR2 : W2.heap[w.heap.size]? = some (.cells #[.slice none 0 0, .slice none 0 0, .slice none 0 0] 43 (0, 0)) := by rw [hW2.out]; exact a11 _ _
  have HR2 : Hid (_) := hR2
  have HS2 : Hid (_) := hs2
  clear hs2
  obtain ⟨B, hBB⟩ : ∃ B, Hid (B = W2.heap.size + 1) := ⟨_, rfl⟩
  have LP : Hid (∃ va vcap qs, MInv W2 W4 newM.frs newM.ens newM.qus B (some ⟨W2.heap.size, 0, none⟩) 4 none 0 0 va vcap qs) := by
    show ∃ va vcap qs, _
    rw [hBB.out, hW4.out]
    refine ⟨none, 0, fun _ => default, ⟨a2B _ _ _, by omega, a22 _ _ _, row_in (zs := []) (Nat.le_refl _) (by rw [a21]; exact congrArg some (congrArg (fun x => Obj.cells x 87 (0, 0)) made4)), row_none, ⟨rfl, .inl ⟨rfl, rfl⟩⟩, some_ne (by omega), none_ne, none_ne, none_off, off_none, off_none, fun j hj => absurd hj (by omega), fun j hj => absurd hj (by omega), fun j hj => absurd hj (by omega), fun j hj => absurd hj (by omega), fun j hj => absurd hj (by omega), fun j hj => absurd hj (by omega), fun i j hi => absurd hi (by omega), .inl ⟨rfl, rfl⟩⟩⟩
  go_enter Try.func33, Try.ntmps33
  go_upto_region 1 with fail
  rw [← hW2.out]
  go_wp2
  rw [← hBB.out, ← hW4.out]
  clear hR2
  go_loopw [2] (fun i wr => ∃ k : Nat, k ≤ 24 ∧ i = .int .i64 k ∧ Hid (∃ va vcap qs, MInv W2 wr newM.frs newM.ens newM.qus B (some ⟨W2.heap.size, 0, none⟩) 4 none 0 k va vcap qs)) (fun i _ => 24 - (intOf i).toNat)
  case atStart => exact ⟨0, Nat.zero_le _, rfl, LP⟩
  case round =>
    obtain ⟨k, hk, rfl, hL⟩ := hrel
    clear LP
    obtain ⟨va, vcap, qs, hC⟩ := hL.out
    have b0 : wr.cell? ⟨B, 0, none⟩ = some (.slice va k vcap) := by simp [World.cell?, hC.hB]
    have bl : B < wr.heap.size := lt_of_cell b0
    by_cases hlt : k < 24
    · have hlk : (k : Int) < 24 := by omega
      have sz := hC.bel.size
      have lV := ownsRow_addr hC.own
      obtain ⟨W7, hW7⟩ : ∃ W7, Hid (W7 = (wr.alloc (.cells (madeCells #[.int .i64 0] 8) 3)).alloc (.cells #[.int .i64 0, .int .i64 0, .int .i64 0, .slice (some ⟨wr.heap.size, 0, none⟩) 8 8] 83)) := ⟨_, rfl⟩
      have n7 : Hid (W7.heap.size = wr.heap.size + 1 + 1) := by show _ = _; rw [hW7.out]; simp
      have g7 : Hid (∀ b, b < wr.heap.size → W7.heap[b]? = wr.heap[b]?) := fun b hb => by rw [hW7.out, Below.heap_alloc _ _ _ (by simp; omega), Below.heap_alloc _ _ _ hb]
      have f7 : Hid (W7.heap[wr.heap.size + 1]? = some (.cells (Fr.cells ⟨0, 0, 0, some ⟨wr.heap.size, 0, none⟩, List.replicate 8 0, 8⟩).toArray 83 (0, 0))) := by show _ = _; rw [hW7.out]; exact a22 _ _ _
      have w7 : Hid (W7.heap[wr.heap.size]? = some (.cells (wvals (List.replicate 8 0)).toArray 3 (0, 0))) := by show _ = _; rw [hW7.out, ← made8]; exact a21 _ _ _
      have own7 : Hid (W7.ownsRow W2.heap.size 83 4 (.slice va k vcap) k (((List.range k).map qs).flatMap Fr.cells)) := by
        show World.ownsRow _ _ _ _ _ _ _
        refine ⟨hC.own.1, ?_⟩
        rcases hC.own.2 with q | ⟨g, cap, cur, h1, h2, h3, h4⟩
        · exact .inl q
        · exact .inr ⟨g, cap, cur, h1, h2, (g7.out g (Array.getElem?_eq_some_iff.1 h3).1).trans h3, h4⟩
      have news7 : Hid (∀ (j : Nat) u, (Fr.cells ⟨0, 0, 0, some ⟨wr.heap.size, 0, none⟩, List.replicate 8 0, 8⟩)[j]? = some u → W7.cell? ((⟨wr.heap.size + 1, 0, none⟩ : Addr).add j) = some u) := fun j u hu => World.news_of_block f7.out j u (by simpa using hu)
      have one7 : Hid (∀ u ∈ Fr.cells ⟨0, 0, 0, some ⟨wr.heap.size, 0, none⟩, List.replicate 8 0, 8⟩, u.oneCell' = true) := fun u hu => by simp [Fr.cells] at hu; rcases hu with rfl | rfl | rfl | rfl <;> rfl
      have vb : ∀ b, (Value.slice va k vcap).ownBlock = some b → ∃ o s, va = some ⟨b, o, s⟩ := fun b hb => by
        cases va with
        | none => simp [Value.ownBlock] at hb
        | some x =>
          obtain ⟨xb, xo, xs⟩ := x
          simp only [Value.ownBlock, Option.some.injEq] at hb
          exact ⟨xo, xs, by rw [← hb]⟩
      have R9 : Hid (∀ g cap' w8, w8.ownsRow W2.heap.size 83 4 (.slice (some ⟨g, 0, none⟩) (k + 1) cap') (k + 1) (((List.range k).map qs).flatMap Fr.cells ++ Fr.cells ⟨0, 0, 0, some ⟨wr.heap.size, 0, none⟩, List.replicate 8 0, 8⟩) → W7.grownBy w8 (Value.slice va k vcap).ownBlock → ((Value.slice va k vcap).ownBlock = some g ∨ g = W7.heap.size) →
          w8.heap[B]? = wr.heap[B]? ∧ ∃ va vcap qs, MInv W2 (w8.setCell ⟨B, 0, none⟩ (.slice (some ⟨g, 0, none⟩) (k + 1) cap')) newM.frs newM.ens newM.qus B (some ⟨W2.heap.size, 0, none⟩) 4 none 0 (k + 1) va vcap qs) := fun g cap' w8 own8 grow8 lies8 => by
        have h8 : ∀ b, b < wr.heap.size → (∀ o s, va ≠ some ⟨b, o, s⟩) → w8.heap[b]? = wr.heap[b]? := fun b hb hv => by
          rw [grow8.block b (by rw [n7.out]; omega) (fun e => by obtain ⟨o', s', e'⟩ := vb b e.symm; exact hv o' s' e'), g7.out b hb]
        have hB8 := h8 B bl (fun o s e => hC.FB B o s e rfl)
        have gB : g ≠ B := by
          rcases lies8 with e | e
          · obtain ⟨o', s', e'⟩ := vb g e; exact hC.FB g o' s' e'
          · have := n7.out; omega
        refine ⟨hB8, ?_⟩
        have bel7 : Below W2.heap.size W2 W7 := by rw [hW7.out]; exact (hC.bel.alloc (by omega) _).alloc (by simp; omega) _
        have bel8 : Below W2.heap.size W2 w8 := bel7.trans ⟨grow8.os, grow8.tape, grow8.output, grow8.size, fun b hb => grow8.block b (by have := bel7.size; omega) (fun e => by obtain ⟨o', s', e'⟩ := vb b e.symm; have := (lV b o' s' e').1; omega)⟩
        have h9 : ∀ b, b ≠ B → (w8.setCell ⟨B, 0, none⟩ (.slice (some ⟨g, 0, none⟩) (k + 1) cap')).heap[b]? = w8.heap[b]? := fun b hb => Below.heap_setCell _ _ _ _ hb
        have word8 : w8.heap[wr.heap.size]? = some (.cells (wvals (List.replicate 8 0)).toArray 3 (0, 0)) := (grow8.block _ (by rw [n7.out]; omega) (fun e => by obtain ⟨o', s', e'⟩ := vb _ e.symm; have := (lV _ o' s' e').2; omega)).trans w7.out
        obtain ⟨qs', hq⟩ := minv_step hC (w9 := w8.setCell ⟨B, 0, none⟩ (.slice (some ⟨g, 0, none⟩) (k + 1) cap')) (o := 0) (fat := 0) (r := 0) (pa := none) (ws := List.replicate 8 0) (pcap := 0) (newM_fr hlt).symm (a6 := some ⟨wr.heap.size, 0, none⟩) (c6 := 8) (va' := some ⟨g, 0, none⟩) (vcap' := cap') (bel8.setCell hC.lB _) (by simp [World.setCell, Array.getElem?_modify, hB8, hC.hB])
          (by
            refine ⟨own8.1, ?_⟩
            rcases own8.2 with ⟨q, _⟩ | ⟨x, cap, cur, x1, x2, x3, x4⟩
            · simp at q
            · refine .inr ⟨x, cap, cur, x1, x2, ?_, x4⟩
              simp only [Value.slice.injEq, Option.some.injEq, Addr.mk.injEq] at x1
              rw [← x1.1.1] at x3 ⊢
              exact (h9 g gB).trans x3)
          (fun b hb hn hv => (h9 b hn).trans (h8 b hb hv))
          (row_in (zs := []) (Nat.le_refl _) (by rw [h9 _ (by omega), word8]; simp))
          (fun b o' s' e => by
            simp only [Option.some.injEq, Addr.mk.injEq] at e
            obtain ⟨rfl, _⟩ := e
            rcases lies8 with q | q
            · exact .inl (vb g q)
            · exact .inr ⟨by have := n7.out; omega, fun o2 s2 e2 => by simp only [Option.some.injEq, Addr.mk.injEq] at e2; have := n7.out; omega⟩)
        exact ⟨_, _, qs', hq⟩
      have HB0 : Hid (wr.heap[B]? = some (.cells #[.slice va k vcap, .slice (some ⟨W2.heap.size, 0, none⟩) 4 4, .slice none 0 0] 43 (0, 0))) := hC.hB
      obtain ⟨iF, hiF, hzF⟩ := Option.map_eq_some_iff.1 info_f
      simp only [Prod.mk.injEq] at hzF
      obtain ⟨zF1, zF2, zF3⟩ := hzF
      have SM : Hid (k + 1 ≤ maxLen) := show k + 1 ≤ maxLen by unfold maxLen; omega
      have SB : Hid ((k + 1) * 48 ≤ 140737488355328) := show (k + 1) * 48 ≤ 140737488355328 by omega
      have SH : Hid (W2.heap.size ≤ W7.heap.size) := show W2.heap.size ≤ W7.heap.size by have := n7.out; omega
      have S1 : Hid (0 < 1) := Nat.zero_lt_one
      have S4 : Hid (0 < 4) := show 0 < 4 by decide
      rw [hW7.out] at own7 news7 SH R9
      have hb1 : B < wr.heap.size + 1 := by omega
      have hb2 : B < wr.heap.size + 1 + 1 := by omega
      generalize ((List.range k).map qs).flatMap Fr.cells = L at own7 R9
      clear hC hL lV vb g7 f7 w7 n7 hW7 sz
      go_wp2
      go_region_law (first
        | (refine step_append_lies _ (by rfl) (.tmp 10) (.tmp 13) 39 (by rfl) W2.heap.size 83 iF _ 4 48 Try.underlying39 hiF zF1 zF2 zF3 rfl S4.out (.slice va k vcap) k L (by first | rfl | simp [Act.eval] | simp [Act.eval, Act.put]) own7.out ⟨wr.heap.size + 1, 0, none⟩ 1 1 (Fr.cells ⟨0, 0, 0, some ⟨wr.heap.size, 0, none⟩, List.replicate 8 0, 8⟩) (by first | rfl | simp [Act.eval] | simp [Act.eval, Act.put]) rfl news7.out one7.out S1.out SM.out SB.out SH.out _ rfl ?_; intro g cp w8 g1 g2 g3 g4; obtain ⟨e8, R⟩ := R9.out g cp w8 g1 (grownM_drew g2) g3; have o8 : w8.cell? ⟨B, 0, none⟩ = some (.slice va k vcap) := (by simp [World.cell?, e8, HB0.out]); have of8 : w8.frozen? ⟨B, 0, none⟩ = false := frozen_of_block (e8.trans HB0.out) 0; have HR8 : Hid (_) := R; clear R g1 g2 g3 e8)
        | fail)
      all_goals
        go_wp2
        go_roundw
        case rel => exact ⟨k + 1, by omega, by go_num, HR8⟩
        case measure => simp [intOf]; omega
    · have hge : ¬ ((k : Int) < 24) := by omega
      have hkn : k = 24 := by omega
      have b1 : wr.cell? ⟨B, 1, none⟩ = some (.slice (some ⟨W2.heap.size, 0, none⟩) 4 4) := by simp [World.cell?, hC.hB]; rfl
      have b2 : wr.cell? ⟨B, 2, none⟩ = some (.slice none 0 0) := by simp [World.cell?, hC.hB]; rfl
      have hR : wr.heap[w.heap.size]? = some (.cells #[.slice none 0 0, .slice none 0 0, .slice none 0 0] 43 (0, 0)) := (hC.bel.block _ (by have := HS2.out; omega)).trans HR2.out
      have y0 : wr.cell? ⟨w.heap.size, 0, none⟩ = some (.slice none 0 0) := by simp [World.cell?, hR]
      have y1 : wr.cell? ⟨w.heap.size, 1, none⟩ = some (.slice none 0 0) := by simp [World.cell?, hR]
      have y2 : wr.cell? ⟨w.heap.size, 2, none⟩ = some (.slice none 0 0) := by simp [World.cell?, hR]
      have yf0 : wr.frozen? ⟨w.heap.size, 0, none⟩ = false := frozen_of_block hR 0
      have yf1 : wr.frozen? ⟨w.heap.size, 1, none⟩ = false := frozen_of_block hR 1
      have yf2 : wr.frozen? ⟨w.heap.size, 2, none⟩ = false := frozen_of_block hR 2
      obtain ⟨N, hN1, hN2, hN3, _⟩ := minv_end (M := newM) newM_good (by rw [show newM.frs.length = k from hkn.symm ▸ List.length_replicate]; exact hC)
      rw [show newM.frs.length = k from hkn.symm ▸ List.length_replicate] at hN1
      have HN1 : Hid (N.val = .agg #[.slice va k vcap, .slice (some ⟨W2.heap.size, 0, none⟩) 4 4, .slice none 0 0]) := hN1
      have HN2 : Hid (_) := hN2
      have HN3 : Hid (_) := hN3
      have HB : Hid (Below w.heap.size w wr) := BW.out.trans (hC.bel.mono (by have := HS2.out; omega))
      clear hN1 hN2 hN3 hR hC hL hkn
      go_wp2
      obtain ⟨k0, k1, k2⟩ := blk3' (v0 := .slice va k vcap) (v1 := .slice (some ⟨W2.heap.size, 0, none⟩) 4 4) (v2 := .slice none 0 0) y0 y1 y2
      (try simp only [Exit.inBlock, Exit.then])
      refine bodyPost_ret (by simp [results, Try.results33, go_sem, k0, k1, k2]; try rfl) rfl ?_
      exact ⟨N, by rw [HN1.out], HN2.out, (HN3.out.keep (fun b hb _ => blk3_heap' b (by have := HS2.out; omega)) (by rw [blk3_size']; exact Nat.le_refl _)).mono (by have := HS2.out; omega), blk3_below' HB.out (by omega)⟩

end Go.Proofs.Ytdbbiibnhgcndaa
