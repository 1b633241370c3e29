/-
  What the call Copy (trust) answers for every challenger: one that holds the same, in memory of its own; nothing that was in memory turns. The condition: the lists are within the reach of the form.
-/
import Derived.Test.YtdbbiibnhgcndaaChal
import Derived.Test.YtdbbiibnhgcndaaMInv
import Derived.Handy
import Derived.Outline
import Derived.Deep.CutRange
namespace Go.Proofs.Ytdbbiibnhgcndaa
open Go.RowKit

theorem info_s : (Try.prog.info? 9).map (fun i => (i.zero, i.size, i.bytes)) = some (some (.string ⟨#[]⟩), 1, 16) := by kernel_rfl
theorem info_n : (Try.prog.info? 3).map (fun i => (i.zero, i.size, i.bytes)) = some (some (.int .i64 0), 1, 8) := by kernel_rfl

/-- what the first statement of Copy makes: the new variable, and the two new lists -/
structure MadeC (W wx : World) (nt nn B X Y : Nat) : Prop where
  lB : W.heap.size ≤ B
  lX : W.heap.size ≤ X
  lY : W.heap.size ≤ Y
  BX : B ≠ X
  BY : B ≠ Y
  XY : X ≠ Y
  hB : wx.heap[B]? = some (.cells #[.slice (some ⟨X, 0, none⟩) nt nt, .slice (some ⟨Y, 0, none⟩) nn nn] 61 (0, 0))
  hX : wx.heap[X]? = some (.cells (madeCells #[.string ⟨#[]⟩] nt) 9 (0, 0))
  hY : wx.heap[Y]? = some (.cells (madeCells #[.int .i64 0] nn) 3 (0, 0))
  bel : Below W.heap.size W wx
theorem row_of_block {n0 g cap n : Nat} {w : World} {e : TypeId} {xs zs : List Value} (hn : n0 ≤ g) (hg : w.heap[g]? = some (.cells (xs ++ zs).toArray e (0, 0))) (hx : xs.length = n) (hl : n ≤ cap) (hm : cap ≤ maxLen) (hc : (xs ++ zs).length = cap) : w.ownsRow n0 e 1 (.slice (some ⟨g, 0, none⟩) n cap) n xs := by
  refine ⟨by simpa using hx, .inr ⟨g, cap, _, rfl, hn, hg, hl, hm, by simpa using hc, ?_⟩⟩
  rw [← hx]; simp

set_option maxRecDepth 100000 in
set_option maxHeartbeats 4000000 in
theorem copyC_any (C : Cv) (w : World) (hC : ChalAt w C) (hF : C.Fits) :
    Calls Try.prog 51 #[C.val] w fun e w' => ∃ N : Cv, e = .returned N.val ∧ N.Same C ∧ COwn w.heap.size w' N ∧ Below w.heap.size w w' := by
  have hl1 := hC.ok.trl
  have hl2 := hC.ok.nsl
  unfold maxLen at hl1 hl2
  have mk1 := run_make_row' (P := Try.prog) 59 9 _ 16 Try.underlying59 info_s rfl .i64 .i64 C.tr.length (by have := hF.tr; omega) (by omega)
  have mk2 := run_make_row' (P := Try.prog) 22 3 _ 8 Try.underlying22 info_n rfl .i64 .i64 C.ns.length (by have := hF.ns; omega) (by omega)
  unfold Cv.val
  obtain ⟨nt, hnt⟩ : ∃ nt, Hid (nt = C.tr.length) := ⟨_, rfl⟩
  obtain ⟨nn, hnn⟩ : ∃ nn, Hid (nn = C.ns.length) := ⟨_, rfl⟩
  rw [← hnt.out] at hl1 mk1
  rw [← hnn.out] at hl2 mk2
  rw [← hnt.out, ← hnn.out]
  obtain ⟨W2, hW2⟩ : ∃ W2, Hid (W2 = (w.alloc (.cells #[.slice C.ta nt C.tcap, .slice C.na nn C.ncap] 61)).alloc (.cells #[.slice none 0 0, .slice none 0 0] 61)) := ⟨_, rfl⟩
  have p0 : W2.cell? ⟨w.heap.size, 0, none⟩ = some (.slice C.ta nt C.tcap) := by rw [hW2.out, World.cell?_alloc_past _ _ _ (by simp), World.cell?_alloc_at _ _ _ _ rfl]; rfl
  have p1 : W2.cell? ⟨w.heap.size, 1, none⟩ = some (.slice C.na nn C.ncap) := by rw [hW2.out, World.cell?_alloc_past _ _ _ (by simp), World.cell?_alloc_at _ _ _ _ rfl]; rfl
  have s2 : w.heap.size < W2.heap.size := lt_of_cell p0
  have s3 : w.heap.size < W2.heap.size + 1 := by omega
  have s4 : w.heap.size < W2.heap.size + 1 + 1 := by omega
  have s5 : w.heap.size < W2.heap.size + 2 := by omega
  go_enter Try.func51, Try.ntmps51
  go_upto_region 1 with fail
  rw [← hW2.out]
  go_cut [3, 7, 11] from 4 (fun s3 s7 s11 wx => ∃ B X Y, s3 = .pointer (some ⟨B, 0, none⟩) ∧ s7 = .slice (some ⟨X, 0, none⟩) nt nt ∧ s11 = .slice (some ⟨Y, 0, none⟩) nn nn ∧ MadeC W2 wx nt nn B X Y)
  case first =>
    go_big_region
    all_goals
      go_wp2_with fail
      go_meet
      case rel =>
        refine ⟨_, _, _, rfl, rfl, rfl, ?_⟩
        exact ⟨by omega, by omega, by omega, by omega, by omega, by omega,
          by first | exact a33 _ _ _ _ | exact a32 _ _ _ _ | exact a31 _ _ _ _, by first | exact a33 _ _ _ _ | exact a32 _ _ _ _ | exact a31 _ _ _ _,
          by first | exact a33 _ _ _ _ | exact a32 _ _ _ _ | exact a31 _ _ _ _, (a3B _ _ _ _).drew⟩
  case rest =>
    obtain ⟨B, X, Y, rfl, rfl, rfl, hm⟩ := hcut
    have S2 : Hid (w.heap.size < W2.heap.size) := s2
    have BW : Hid (Below w.heap.size w W2) := by show Below _ _ _; rw [hW2.out]; exact ((Below.refl _ _).alloc (Nat.le_refl _) _).alloc (by simp) _
    have hM2 := hC.below BW.out
    have R2 : Hid (W2.cell? ⟨w.heap.size + 1, 0, none⟩ = some (.slice none 0 0) ∧ W2.cell? ⟨w.heap.size + 1, 1, none⟩ = some (.slice none 0 0) ∧ ∀ o, W2.frozen? ⟨w.heap.size + 1, o, none⟩ = false) := by
      show _ ∧ _ ∧ _
      rw [hW2.out, World.cell?_alloc_at _ _ _ _ (by simp), World.cell?_alloc_at _ _ _ _ (by simp)]
      exact ⟨rfl, rfl, fun o => World.frozen?_alloc_at _ _ _ _ (by simp)⟩
    have P0 : Hid (_) := p0
    have P1 : Hid (_) := p1
    clear mk1 mk2 p0 p1 s2 s3 s4 s5
    obtain ⟨w3, hr3, g3, o3, b3⟩ := copy_rows (P := Try.prog) (cells := tcell) (c := 1) tcell_len (by omega) tcell_one wc 59 3 9 9 Try.underlying59 (by kernel_rfl) X C.tcap C.ta C.tr (texts_rows (hM2.below hm.bel).tr) _ hm.hX (by rw [size_madeCells, ← hnt.out]; omega)
    rw [← hnt.out] at hr3
    obtain ⟨w4, hr4, g4, o4, b4⟩ := copy_rows (P := Try.prog) (cells := fun n : Int => [Value.int .i64 n]) (c := 1) (fun _ => rfl) (by omega) (fun q v hv => by simp at hv; subst hv; rfl) w3 22 3 3 3 Try.underlying22 (by kernel_rfl) Y C.ncap C.na C.ns (ints_rows (hM2.below (b3 _ _ hm.lX hm.bel)).ns) _ ((o3 Y (Ne.symm hm.XY)).trans hm.hY) (by rw [size_madeCells, ← hnn.out]; omega)
    rw [← hnn.out] at hr4
    rw [wvals_flat] at g4
    have HB3 : Hid (Below W2.heap.size W2 w3) := b3 _ _ hm.lX hm.bel
    have HB4 : Hid (Below W2.heap.size W2 w4) := b4 _ _ hm.lY HB3.out
    have hB4 : Hid (w4.heap[B]? = some (.cells #[.slice (some ⟨X, 0, none⟩) nt nt, .slice (some ⟨Y, 0, none⟩) nn nn] 61 (0, 0))) := ((o4 B hm.BY).trans (o3 B hm.BX)).trans hm.hB
    have hX4 : Hid (w4.heap[X]? = some (.cells (C.tr.flatMap tcell).toArray 9 (0, 0))) := (o4 X hm.XY).trans g3
    have hY4 : Hid (w4.heap[Y]? = some (.cells (wvals C.ns).toArray 3 (0, 0))) := g4
    have HM : Hid (_) := hm
    have x1 : wc.cell? ⟨B, 0, none⟩ = some (.slice (some ⟨X, 0, none⟩) nt nt) := by simp [World.cell?, hm.hB]
    have x2 : wc.cell? ⟨w.heap.size, 0, none⟩ = some (.slice C.ta nt C.tcap) := (hm.bel.cell (p := ⟨w.heap.size, 0, none⟩) S2.out).trans P0.out
    have y1 : w3.cell? ⟨B, 1, none⟩ = some (.slice (some ⟨Y, 0, none⟩) nn nn) := by simp [World.cell?, (o3 B hm.BX), hm.hB]
    have y2 : w3.cell? ⟨w.heap.size, 1, none⟩ = some (.slice C.na nn C.ncap) := (HB3.out.cell (p := ⟨w.heap.size, 1, none⟩) S2.out).trans P1.out
    have z0 : w4.cell? ⟨B, 0, none⟩ = some (.slice (some ⟨X, 0, none⟩) nt nt) := by simp [World.cell?, hB4.out]
    have z1 : w4.cell? ⟨B, 1, none⟩ = some (.slice (some ⟨Y, 0, none⟩) nn nn) := by simp [World.cell?, hB4.out]
    obtain ⟨u0, u1, uf⟩ := R2.out
    have sz : w.heap.size + 1 < W2.heap.size := lt_of_cell u0
    have v0 : w4.cell? ⟨w.heap.size + 1, 0, none⟩ = some (.slice none 0 0) := (HB4.out.cell (p := ⟨w.heap.size + 1, 0, none⟩) sz).trans u0
    have v1 : w4.cell? ⟨w.heap.size + 1, 1, none⟩ = some (.slice none 0 0) := (HB4.out.cell (p := ⟨w.heap.size + 1, 1, none⟩) sz).trans u1
    have vf0 : w4.frozen? ⟨w.heap.size + 1, 0, none⟩ = false := (HB4.out.frozen (p := ⟨w.heap.size + 1, 0, none⟩) sz).trans (uf 0)
    have vf1 : w4.frozen? ⟨w.heap.size + 1, 1, none⟩ = false := (HB4.out.frozen (p := ⟨w.heap.size + 1, 1, none⟩) sz).trans (uf 1)
    have HOK : Hid (C.Ok) := hC.ok
    clear hm g3 o3 b3 g4 o4 b4 hM2 hC u0 u1 uf R2
    go_wp2
    obtain ⟨W9, hW9⟩ : ∃ W9, Hid (W9 = (w4.setCell ⟨w.heap.size + 1, 0, none⟩ (.slice (some ⟨X, 0, none⟩) nt nt)).setCell ⟨w.heap.size + 1, 1, none⟩ (.slice (some ⟨Y, 0, none⟩) nn nn)) := ⟨_, rfl⟩
    rw [← hW9.out]
    have k0 : W9.cell? ⟨w.heap.size + 1, 0, none⟩ = some (.slice (some ⟨X, 0, none⟩) nt nt) := by
      rw [hW9.out, World.cell?_setCell_other _ _ _ _ (by simp)]
      exact World.cell?_setCell_same _ _ _ v0
    have k1 : W9.cell? ⟨w.heap.size + 1, 1, none⟩ = some (.slice (some ⟨Y, 0, none⟩) nn nn) := by
      rw [hW9.out]
      exact World.cell?_setCell_same _ _ _ ((World.cell?_setCell_other _ _ _ _ (by simp)).trans v1)
    have H9 : ∀ b, b ≠ w.heap.size + 1 → W9.heap[b]? = w4.heap[b]? := fun b hb => by rw [hW9.out, Below.heap_setCell _ _ _ _ hb, Below.heap_setCell _ _ _ _ hb]
    have HE : Hid (Below w.heap.size w W9) := by
      show Below _ _ _
      rw [hW9.out]
      exact ((BW.out.trans (HB4.out.mono (by omega))).setCell (by simp) _).setCell (by simp) _
    have lX := HM.out.lX
    have lY := HM.out.lY
    have hX9 := (H9 X (by omega)).trans hX4.out
    have hY9 := (H9 Y (by omega)).trans hY4.out
    (try simp only [Exit.inBlock, Exit.then])
    refine bodyPost_ret (by simp [results, Try.results51, go_sem, k0, k1]; try rfl) rfl ?_
    have ok := HOK.out
    have e1 := hnt.out
    have e2 := hnn.out
    refine ⟨⟨some ⟨X, 0, none⟩, C.tr, nt, some ⟨Y, 0, none⟩, C.ns, nn⟩, by rw [← e1, ← e2], ⟨rfl, rfl⟩, ⟨?_, ?_, off_some HM.out.XY, ok.same ⟨rfl, rfl⟩⟩, HE.out⟩
    · exact row_of_block (zs := []) (by omega) (by simpa using hX9) (texts_len _) (by dsimp only; omega) (by rw [e1]; exact ok.trl) (by simp only [List.append_nil]; rw [texts_len]; omega)
    · exact row_of_block (zs := []) (by omega) (by simpa using hY9) (wvals_len _) (by dsimp only; omega) (by rw [e2]; exact ok.nsl) (by simp only [List.append_nil]; rw [wvals_len]; omega)

end Go.Proofs.Ytdbbiibnhgcndaa
