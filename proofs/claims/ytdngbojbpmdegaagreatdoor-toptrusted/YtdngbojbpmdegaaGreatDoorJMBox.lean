/-
  What the call Plan (image) answers, for every list of pages, enclave and frame: the error number that P1.5 says, and a new list of the acts that build the image; nothing that was in memory turns. Appending a list of acts, an empty one too, to a row of acts that the call owns (own work): the run as an equation. The conditions: the list's cells are there, and there are not more than some thousand acts. How arguments that are raw things, or lists of them, are read out of memory (own work): each is four numbers. No condition. What the call Acts (riddlekeep) answers: a list of its own of acts of who owns the machine, none of them an Enter or a Resume, each within the reach of the form. The conditions: the raw things' cells are there. What slices.Grow (from nil) and slices.Concat answer at lists of acts: a row of its own with all the acts of the lists, in their order. The conditions: the lists' cells are there, and there are not more than some thousand acts. A variable that holds a machine of its own in memory, and one that holds an outcome (own work): what a store into them makes of them. No condition beside the cells.
-/
import Derived.Test.YtdngbojbpmdegaaGreatDoorJPokes
import Derived.Test.YtdngbojbpmdegaaGreatDoorJExpects
import Derived.Test.YtdngbojbpmdegaaGreatDoorJAppRows
import Derived.Test.YtdngbojbpmdegaaGreatDoorJOpenCells
import Derived.Deep.RegionHeld3
import Derived.Deep.DeepCutAuto
import Derived.Deep.CutBlock
import Derived.Deep.RegionLaw
import Derived.Lib.AppendZeros
import Derived.Test.YtdngbojbpmdegaaGreatDoorJHostSmall
import Derived.Test.YtdngbojbpmdegaaGreatDoorRunResume
namespace Go.Proofs.YtdngbojbpmdegaaGreatDoor
open Go.RowKit
set_option maxRecDepth 100000

/-- what a plan is refused for (0: nothing) -/
def planE (ps : List Pg) (e f : Int) : Int := if imageF ps = 0 then (if (inB e 1 4 && inB f 0 (24 - ps.length)) = true then 0 else 2) else imageF ps
theorem areFrames_any (f : Int) (n : Nat) (w : World) (hn : n ≤ 8) : Calls Tryz.prog 69 #[.int .i64 f, .int .i64 (n : Int)] w fun e w' => e = .returned (.bool (inB f 0 (24 - n))) ∧ w = w' := by
  by_cases h1 : 0 ≤ f
  · by_cases h2 : f ≤ 24 - (n : Int)
    · rw [inB_true h1 h2]
      go_enter Tryz.func69, Tryz.ntmps69
      go_wp2
      go_ret
      exact ⟨rfl, rfl⟩
    · rw [inB_high h2]
      go_enter Tryz.func69, Tryz.ntmps69
      go_wp2
      go_ret
      exact ⟨rfl, rfl⟩
  · rw [inB_low h1]
    go_enter Tryz.func69, Tryz.ntmps69
    go_wp2
    go_ret
    exact ⟨rfl, rfl⟩

theorem new_cells2 (w : World) (x y : Ac) : ∀ j u, (rowA [x, y])[j]? = some u → (w.alloc (.cells #[.int .i64 x.k, .int .i64 x.e, .int .i64 x.f, .int .i64 x.at_, .int .i64 x.r, .int .i64 x.n, .int .i64 x.fuel, .int .i64 y.k, .int .i64 y.e, .int .i64 y.f, .int .i64 y.at_, .int .i64 y.r, .int .i64 y.n, .int .i64 y.fuel] 68)).cell? ((⟨w.heap.size, 0, none⟩ : Addr).add j) = some u := by
  intro j u hj
  rw [add_at, World.cell?_alloc_at _ _ _ _ rfl]
  simpa [rowA, Ac.cells] using hj

theorem owns_alloc {w : World} {B : Nat} {v : Value} {l : List Ac} (h : Owns w B v l) (o : Obj) : Owns (w.alloc o) B v l := World.ownsRow.alloc h o

theorem owns_mono {w : World} {B B' : Nat} {v : Value} {l : List Ac} (h : Owns w B v l) (hB : B' ≤ B) : Owns w B' v l := by
  refine ⟨h.1, ?_⟩
  rcases h.2 with h0 | ⟨g, cap, cur, h1, h2, h3⟩
  · exact .inl h0
  · exact .inr ⟨g, cap, cur, h1, by omega, h3⟩
/-- the append of some acts, told by what it does -/
theorem app {w0 w1 : World} {B : Nat} {v : Value} {l new : List Ac} {o : Obj} (hown : Owns w1 B v l) (hb : Below B w0 w1) (hB : B ≤ w1.heap.size) :
    ∀ v' w2, w2.ownsRow B 68 7 v' (l.length + new.length) (rowA l ++ rowA new) → (w1.alloc o).grownBy w2 v.ownBlock → Owns w2 B v' (l ++ new) ∧ Below B w0 w2 ∧ B ≤ w2.heap.size :=
  fun _ _ g1 g2 => owns_next hown g1 g2 hb hB

theorem planE_zero {ps : List Pg} {e f : Int} (h : planE ps e f = 0) : imageF ps = 0 ∧ inB e 1 4 = true ∧ inB f 0 (24 - ps.length) = true := by
  unfold planE at h
  by_cases hi : imageF ps = 0
  · rw [if_pos hi] at h
    by_cases hc : (inB e 1 4 && inB f 0 (24 - ps.length)) = true
    · simp at hc; exact ⟨hi, hc.1, hc.2⟩
    · rw [if_neg hc] at h; simp at h
  · rw [if_neg hi] at h; exact absurd h hi

set_option maxHeartbeats 8000000 in
theorem plan_good (a : Option Addr) (ps : List Pg) (cap : Nat) (e f : Int) (w : World) (hl : ps.length ≤ maxLen) (hx : PagesAt w a ps) (hz : planE ps e f = 0) :
    Calls Tryz.prog 24 #[.slice a ps.length cap, .int .i64 e, .int .i64 f] w fun r w' => ∃ v, r = .returned (.tuple #[v, .int .i64 0]) ∧ Owns w' w.heap.size v (planL ps e f) ∧ Below w.heap.size w w' := by
  obtain ⟨i0, hi, hz0, hz1, hz2⟩ := info_parts act_info
  obtain ⟨q1, q2, q3⟩ := planE_zero hz
  have hC := check_any a ps cap w hl hx
  rw [q1] at hC
  have hn := image_len q1
  have hF := fun w => areFrames_any f ps.length w hn
  rw [q3] at hF
  have be := inB_iff.1 q2
  have bf := inB_iff.1 q3
  have h8 := image_words q1
  have gP := fun w' (h : Below w.heap.size w w') => pokes_any a ps cap f w' hn (hx.below h) h8 (by omega) (by omega)
  have hpl : (pokeK ps f ps.length).length = 8 * ps.length := pokeK_len ps f _ h8
  have HX : Hid (PagesAt w a ps) := hx
  have H8 : Hid (∀ j, j < ps.length → (ps.getD j default).ws.length = 8) := h8
  have e1 : ¬ e < 1 := by omega
  have e2 : ¬ 4 < e := by omega
  clear hx hl hz q1 q2 q3 h8
  go_enter Tryz.func24, Tryz.ntmps24
  go_wp2_with (first | (go_at_call 68; go_must (refine hC.mono ?_); rintro r w1 ⟨rfl, hb1⟩; have hs1 := hb1.size) | (go_at_call 69; go_must (refine (hF _).mono ?_); rintro r w2 ⟨rfl, rfl⟩))
  refine (gP _ hb1).mono ?_
  rintro r w3 ⟨v3, rfl, ho3', hb3⟩
  have hs3 := hb3.size
  have ho3 := owns_mono ho3' hs1
  have hb3' : Below w.heap.size w w3 := hb1.trans (hb3.mono hs1)
  have hB3 : w.heap.size ≤ w3.heap.size := by omega
  have HA : Hid _ := app (new := [⟨1, 0, 0, 0, 0, 0, 0⟩]) (o := .cells #[.int .i64 1, .int .i64 0, .int .i64 0, .int .i64 0, .int .i64 0, .int .i64 0, .int .i64 0] 68) ho3 hb3' hB3
  have hownA := owns_alloc ho3 (.cells #[.int .i64 1, .int .i64 0, .int .i64 0, .int .i64 0, .int .i64 0, .int .i64 0, .int .i64 0] 68)
  have hcells := new_cells w3 ⟨1, 0, 0, 0, 0, 0, 0⟩
  have HLL : Hid ((pokeK ps f ps.length).length = 8 * ps.length) := hpl
  have HPL : Hid (pokeK ps f ps.length ++ [⟨1, 0, 0, 0, 0, 0, 0⟩] ++ putK ps e f ps.length ++ [⟨4, e, 0, 0, 0, 0, 0⟩] = planL ps e f) := rfl
  generalize pokeK ps f ps.length = L0 at HA hownA HLL HPL
  clear gP hF hC hpl ho3 ho3' hb3 hb3' hb1
  go_wp2_with (at_builtin; refine wpList_append_own _ rfl _ _ 23 rfl w.heap.size 68 i0 _ 7 56 Tryz.underlying23 hi hz0 hz1 hz2 rfl (by decide) _ _ _ rfl hownA ⟨w3.heap.size, 0, none⟩ 1 1 (rowA [⟨1, 0, 0, 0, 0, 0, 0⟩]) rfl rfl hcells (rowA_cells_one _) (by have := HLL.out; unfold maxLen; omega) (by have := HLL.out; omega) (by simp; omega) ?_)
  intro v4 w4 g1 g2 _
  have R4 := HA.out v4 w4 g1 g2
  clear HA hownA hcells g1 g2
  go_wp2
  go_loopw [9, 38] (fun v i wr => ∃ k : Nat, k ≤ ps.length ∧ i = .int .i64 k ∧ Owns wr w.heap.size v (L0 ++ [⟨1, 0, 0, 0, 0, 0, 0⟩] ++ putK ps e f k) ∧ Below w.heap.size w wr ∧ w.heap.size ≤ wr.heap.size) (fun _ i _ => ps.length - (intOf i).toNat)
  case atStart => exact ⟨0, Nat.zero_le _, rfl, by simpa [putK] using R4.1, R4.2.1, R4.2.2⟩
  case round =>
    obtain ⟨k, hk, rfl, hown, hbel, hsz⟩ := hrel
    clear R4
    by_cases hlt : k < ps.length
    · have hX := HX.out.below hbel
      rcases HX.out.at_ with rfl | ⟨b, off, rfl, hc⟩
      · simp at hlt
      · obtain ⟨c0, c1, c2⟩ := hX.cells hlt
        have HN : Hid _ := putK_succ ps e f k
        have hpk := putK_len ps e f k
        obtain ⟨P, hP⟩ : ∃ P, ps.getD k default = P := ⟨_, rfl⟩
        rw [hP] at c0 c1 c2 HN
        obtain ⟨pat, pr, pa, pws, pcap⟩ := P
        dsimp only at c0 c1 c2 HN
        have HLM : Hid ((L0 ++ [(⟨1, 0, 0, 0, 0, 0, 0⟩ : Ac)] ++ putK ps e f k).length = 8 * ps.length + 1 + 2 * k) := show (L0 ++ [(⟨1, 0, 0, 0, 0, 0, 0⟩ : Ac)] ++ putK ps e f k).length = 8 * ps.length + 1 + 2 * k by
          rw [List.length_append, List.length_append, HLL.out, hpk]; rfl
        have hbelA := hbel.alloc hsz (.cells #[.int .i64 pat, .int .i64 pr, .slice pa pws.length pcap] 116)
        have hszA : w.heap.size ≤ (wr.alloc (.cells #[.int .i64 pat, .int .i64 pr, .slice pa pws.length pcap] 116)).heap.size := by simp; omega
        have HA : Hid _ := app (new := [⟨2, e, f + k, pat, pr, 0, 0⟩, ⟨3, e, 0, pat, 0, 0, 0⟩]) (o := .cells #[.int .i64 2, .int .i64 e, .int .i64 (f + k), .int .i64 pat, .int .i64 pr, .int .i64 0, .int .i64 0, .int .i64 3, .int .i64 e, .int .i64 0, .int .i64 pat, .int .i64 0, .int .i64 0, .int .i64 0] 68)
          (owns_alloc hown (.cells #[.int .i64 pat, .int .i64 pr, .slice pa pws.length pcap] 116)) hbelA hszA
        have hownA := owns_alloc (owns_alloc hown (.cells #[.int .i64 pat, .int .i64 pr, .slice pa pws.length pcap] 116)) (.cells #[.int .i64 2, .int .i64 e, .int .i64 (f + k), .int .i64 pat, .int .i64 pr, .int .i64 0, .int .i64 0, .int .i64 3, .int .i64 e, .int .i64 0, .int .i64 pat, .int .i64 0, .int .i64 0, .int .i64 0] 68)
        have hcells := new_cells2 (wr.alloc (.cells #[.int .i64 pat, .int .i64 pr, .slice pa pws.length pcap] 116)) ⟨2, e, f + k, pat, pr, 0, 0⟩ ⟨3, e, 0, pat, 0, 0, 0⟩
        have HNN : Hid (L0 ++ [⟨1, 0, 0, 0, 0, 0, 0⟩] ++ putK ps e f (k + 1) = L0 ++ [⟨1, 0, 0, 0, 0, 0, 0⟩] ++ putK ps e f k ++ [⟨2, e, f + k, pat, pr, 0, 0⟩, ⟨3, e, 0, pat, 0, 0, 0⟩]) := show _ = _ by rw [HN.out, ← List.append_assoc]
        generalize L0 ++ [(⟨1, 0, 0, 0, 0, 0, 0⟩ : Ac)] ++ putK ps e f k = M at HA hownA HLM HNN
        clear hP hX hc hown hbel hbelA hszA HX H8 HN hpk
        go_wp2_with (at_builtin; refine wpList_append_own _ rfl _ _ 23 rfl w.heap.size 68 i0 _ 7 56 Tryz.underlying23 hi hz0 hz1 hz2 rfl (by decide) _ _ _ rfl hownA ⟨wr.heap.size + 1, 0, none⟩ 2 2 (rowA [⟨2, e, f + k, pat, pr, 0, 0⟩, ⟨3, e, 0, pat, 0, 0, 0⟩]) rfl rfl (by simpa using hcells) (rowA_cells_one _) (by have := HLM.out; unfold maxLen; omega) (by have := HLM.out; omega) (by simp; omega) ?_)
        intro v5 w5 g1 g2 _
        have R5 := HA.out v5 w5 g1 g2
        clear HA hownA hcells g1 g2
        go_wp2
        go_roundw
        case rel => exact ⟨k + 1, by omega, by go_num, by rw [HNN.out]; exact R5.1, R5.2.1, R5.2.2⟩
        case measure => simp [intOf]; omega
    · have hkl : k = ps.length := by omega
      subst hkl
      have hpk := putK_len ps e f ps.length
      have HLM : Hid ((L0 ++ [(⟨1, 0, 0, 0, 0, 0, 0⟩ : Ac)] ++ putK ps e f ps.length).length = 8 * ps.length + 1 + 2 * ps.length) := show (L0 ++ [(⟨1, 0, 0, 0, 0, 0, 0⟩ : Ac)] ++ putK ps e f ps.length).length = 8 * ps.length + 1 + 2 * ps.length by
        rw [List.length_append, List.length_append, HLL.out, hpk]; rfl
      have HA : Hid _ := app (new := [⟨4, e, 0, 0, 0, 0, 0⟩]) (o := .cells #[.int .i64 4, .int .i64 e, .int .i64 0, .int .i64 0, .int .i64 0, .int .i64 0, .int .i64 0] 68) hown hbel hsz
      have hownA := owns_alloc hown (.cells #[.int .i64 4, .int .i64 e, .int .i64 0, .int .i64 0, .int .i64 0, .int .i64 0, .int .i64 0] 68)
      have hcells := new_cells wr ⟨4, e, 0, 0, 0, 0, 0⟩
      generalize L0 ++ [(⟨1, 0, 0, 0, 0, 0, 0⟩ : Ac)] ++ putK ps e f ps.length = M at HA hownA HLM HPL
      clear hown hbel HX H8 hpk
      go_wp2_with (at_builtin; refine wpList_append_own _ rfl _ _ 23 rfl w.heap.size 68 i0 _ 7 56 Tryz.underlying23 hi hz0 hz1 hz2 rfl (by decide) _ _ _ rfl hownA ⟨wr.heap.size, 0, none⟩ 1 1 (rowA [⟨4, e, 0, 0, 0, 0, 0⟩]) rfl rfl hcells (rowA_cells_one _) (by have := HLM.out; unfold maxLen; omega) (by have := HLM.out; omega) (by simp; omega) ?_)
      intro v6 w6 g1 g2 _
      have R6 := HA.out v6 w6 g1 g2
      clear HA hownA hcells g1 g2
      go_wp2
      go_ret2
      exact ⟨_, rfl, by rw [← HPL.out]; exact R6.1, R6.2.1⟩

end Go.Proofs.YtdngbojbpmdegaaGreatDoor

namespace Go.Proofs.YtdngbojbpmdegaaGreatDoor
open Go.RowKit
set_option maxRecDepth 100000

theorem append_empty {P : Program} (w : World) (t ty e : TypeId) (i : TypeInfo) (ht : P.underlying t = some (.slice e)) (hi : P.info? e = some i) (a : Addr) (n cap : Nat) (hn : n ≤ cap) (ap : Option Addr) (cap' : Nat) :
    (Builtin.append_ #[t, t] ty #[.slice (some a) n cap, .slice ap 0 cap']).run P w = .ok (.slice (some a) n cap) w := by
  cases ap <;> simp [Builtin.append_, run_underlying ht, sizeOf, typeInfo, hi, Builtin.lenOf, Builtin.firstCells, loadCells, loadCellsFrom, storeCells, hn]
theorem app_acts {w w0 : World} {B : Nat} {v : Value} {l : List Ac} (hown : Owns w B v l) (hb : Below B w0 w) (hB : B ≤ w.heap.size) (qa : Option Addr) (ql : List Ac) (qc : Nat) (hq : RowsAt w 7 Ac.cells qa ql) (hs : l.length + ql.length ≤ 20000) :
    ∃ v' w', (Builtin.append_ #[23, 23] 23 #[v, .slice qa ql.length qc]).run Tryz.prog w = .ok v' w' ∧ Owns w' B v' (l ++ ql) ∧ Below B w0 w' ∧ B ≤ w'.heap.size := by
  obtain ⟨i0, hi, hz0, hz1, hz2⟩ := info_parts act_info
  by_cases h0 : ql = []
  · subst h0
    rw [List.append_nil]
    rcases hown.2 with ⟨hv, h1⟩ | ⟨g, cap, cur, hv, _, _, h1, _⟩
    · exact ⟨v, w, by rw [hv]; exact append_none w _ _ _ i0 Tryz.underlying23 hi qa qc, hown, hb, hB⟩
    · exact ⟨v, w, by rw [hv]; exact append_empty w _ _ _ i0 Tryz.underlying23 hi _ _ _ h1 qa qc, hown, hb, hB⟩
  · rcases hq with e | ⟨b, off, rfl, hc⟩
    · exact absurd e h0
    · have hpos : 0 < ql.length := List.length_pos_iff.2 h0
      obtain ⟨g, cap, w', h1, h2, h3, _, _⟩ := run_append_lies (P := Tryz.prog) (w := w) 23 23 B 68 i0 _ 7 56 Tryz.underlying23 hi hz0 hz1 hz2 rfl (by decide) v l.length (rowA l) hown ⟨b, off, none⟩ ql.length qc (rowA ql) (rowA_len ql) (src_of_rows (cells := Ac.cells) (c := 7) (fun _ => rfl) (by decide) hc) (rowA_cells_one ql) hpos (by unfold maxLen; omega) (by omega) hB _ rfl
      refine ⟨_, w', h1, by unfold Owns; rw [List.length_append, rowA_append]; exact h2, hb.grown h3 hB (fun k hk => (hown.lt k hk).1), ?_⟩
      have := h3.size
      omega

end Go.Proofs.YtdngbojbpmdegaaGreatDoor

namespace Go.Proofs.YtdngbojbpmdegaaGreatDoor
open Go.ChangeShapes Go.WideShapes Go.ChangeAt Go.RowKit Go.Joins
set_option maxRecDepth 100000

structure Rw where
  k : Int
  a : Int
  b : Int
  c : Int
instance : Inhabited Rw := ⟨⟨0, 0, 0, 0⟩⟩
def Rw.val (r : Rw) : Value := .agg #[.int .i64 r.k, .int .i64 r.a, .int .i64 r.b, .int .i64 r.c]
structure Rw.Ok (r : Rw) : Prop where
  k : (Lit.int .i64 r.k).wf = true
  a : (Lit.int .i64 r.a).wf = true
  b : (Lit.int .i64 r.b).wf = true
  c : (Lit.int .i64 r.c).wf = true
structure RawsAt (w : World) (a : Option Addr) (rs : List Rw) : Prop where
  at_ : rs = [] ∨ ∃ b off, a = some ⟨b, off, none⟩ ∧ ∀ j, j < rs.length → w.cell? ⟨b, off + j * 4, none⟩ = some (.int .i64 (rs.getD j default).k) ∧
    w.cell? ⟨b, off + j * 4 + 1, none⟩ = some (.int .i64 (rs.getD j default).a) ∧ w.cell? ⟨b, off + j * 4 + 2, none⟩ = some (.int .i64 (rs.getD j default).b) ∧ w.cell? ⟨b, off + j * 4 + 3, none⟩ = some (.int .i64 (rs.getD j default).c)
  ok : ∀ j, j < rs.length → (rs.getD j default).Ok

theorem open_raw {H : Type} {enc : TypeId × Value → H} {W : World} {r : Reach} {b0 base : Nat} {sp : Nat → Bool} {full : Bool} {v : Value} {d : DataW H} {p : List MemPlace}
    (hv : Value.okWide Tryz.prog W r b0 61 v) (h : DataW.Trod enc Tryz.prog W base sp full 61 v d p) : ∃ x : Rw, v = x.val ∧ x.Ok := by
  obtain ⟨c0, c1, c2, c3, y0, y1, y2, y3, m, rfl, rfl, rfl, hy0, hy1, hy2, hy3⟩ := open_agg4 Tryz.underlying61 (by kernel_rfl) (by kernel_rfl) hv h
  obtain ⟨n0, rfl, w0⟩ := open_int_cell hy0
  obtain ⟨n1, rfl, w1⟩ := open_int_cell hy1
  obtain ⟨n2, rfl, w2⟩ := open_int_cell hy2
  obtain ⟨n3, rfl, w3⟩ := open_int_cell hy3
  exact ⟨⟨n0, n1, n2, n3⟩, rfl, ⟨w0, w1, w2, w3⟩⟩

theorem cells4 {w : World} {base : Nat} {a : Addr} {cs : List Value} (h : w.cells? base a 4 = some cs) :
    ∃ x y z u, cs = [x, y, z, u] ∧ w.cell? a = some x ∧ w.cell? (a.add 1) = some y ∧ w.cell? (a.add 2) = some z ∧ w.cell? (a.add 3) = some u := by
  obtain ⟨_, h2, h3⟩ := World.cells?_some h
  match cs, h2 with
  | [x, y, z, u], _ => exact ⟨x, y, z, u, rfl, by simpa [Addr.add] using h3 0 (by omega), by simpa using h3 1 (by omega), by simpa using h3 2 (by omega), by simpa using h3 3 (by omega)⟩

theorem open_raws {H : Type} {enc : TypeId × Value → H} {W : World} {base : Nat} {sp : Nat → Bool} {full : Bool} {a : Option Addr} {len cap : Nat} {d : DataW H} {p : List MemPlace}
    (h : DataW.Trod enc Tryz.prog W base sp full 59 (.slice a len cap) d p) : ∃ rs : List Rw, rs.length = len ∧ rs.length ≤ maxLen ∧ RawsAt W a rs := by
  obtain ⟨fuel, hf⟩ := h
  rcases Go.Deep.open_slice Tryz.underlying59 hf with ⟨hcs, _⟩ | ⟨x, l, c, m, n, D, Pl, hcs, _, hl, hm, hmm, hxd, hx⟩
  · simp [Value.cells] at hcs
    obtain ⟨rfl, rfl, rfl⟩ := hcs
    exact ⟨[], rfl, Nat.zero_le _, ⟨.inl rfl, fun j hj => absurd hj (by simp)⟩⟩
  · simp [Value.cells] at hcs
    obtain ⟨rfl, rfl, rfl⟩ := hcs
    have hlm : len ≤ m := by rw [hmm]; split <;> omega
    have ce : Tryz.prog.cellsOf 61 = 4 := by kernel_rfl
    have each : ∀ i, i < len → ∃ q : Rw, (W.cell? (x.add (i * 4)) = some (.int .i64 q.k) ∧ W.cell? ((x.add (i * 4)).add 1) = some (.int .i64 q.a) ∧ W.cell? ((x.add (i * 4)).add 2) = some (.int .i64 q.b) ∧ W.cell? ((x.add (i * 4)).add 3) = some (.int .i64 q.c)) ∧ q.Ok := by
      intro i hi
      obtain ⟨cs', h1, h2⟩ := hx i (by omega)
      rw [ce] at h1
      obtain ⟨v0, v1, v2, v3, rfl, e0, e1, e2, e3⟩ := cells4 h1
      obtain ⟨xs, k, hk, hxy, _, hxl, hff⟩ := DataW.trod_struct Tryz.underlying61 h2
      have o1 : Tryz.prog.cellsOf 3 = 1 := by kernel_rfl
      match xs, hxl with
      | [y0, y1, y2, y3], _ =>
        have g0 := hff 0 _ rfl
        have g1 := hff 1 _ rfl
        have g2 := hff 2 _ rfl
        have g3 := hff 3 _ rfl
        simp [o1] at g0 g1 g2 g3
        obtain ⟨n0, rfl, w0⟩ := open_int_cell g0
        obtain ⟨n1, rfl, w1⟩ := open_int_cell g1
        obtain ⟨n2, rfl, w2⟩ := open_int_cell g2
        obtain ⟨n3, rfl, w3⟩ := open_int_cell g3
        exact ⟨⟨n0, n1, n2, n3⟩, ⟨e0, e1, e2, e3⟩, ⟨w0, w1, w2, w3⟩⟩
    obtain ⟨F, hF⟩ := Go.Deep.choose_lt each
    refine ⟨(List.range len).map F, by simp, by simp; omega, ⟨?_, fun j hj => ?_⟩⟩
    · by_cases h0 : len = 0
      · left; simp [h0]
      · right
        obtain ⟨b, off, spot⟩ := x
        have h := (hF 0 (by omega)).1.1
        have hspot : spot = none := by simpa [Addr.add] using World.cell?_spot h
        subst hspot
        refine ⟨b, off, rfl, fun j hj => ?_⟩
        have hj' : j < len := by simpa using hj
        have := (hF j hj').1
        rw [add_at, add_at, add_at, add_at] at this
        simpa [List.getD_eq_getElem?_getD, hj'] using this
    · have hj' : j < len := by simpa using hj
      have := (hF j hj').2
      simpa [List.getD_eq_getElem?_getD, hj'] using this

theorem RawsAt.below {w w' : World} {a : Option Addr} {rs : List Rw} (h : RawsAt w a rs) (hb : Below w.heap.size w w') : RawsAt w' a rs := by
  refine ⟨?_, h.ok⟩
  rcases h.at_ with h | ⟨b, off, h1, h2⟩
  · exact .inl h
  · refine .inr ⟨b, off, h1, fun j hj => ?_⟩
    obtain ⟨c0, c1, c2, c3⟩ := h2 j hj
    exact ⟨(hb.cell (p := ⟨b, _, none⟩) (lt_of_cell c0)).trans c0, (hb.cell (p := ⟨b, _, none⟩) (lt_of_cell c1)).trans c1, (hb.cell (p := ⟨b, _, none⟩) (lt_of_cell c2)).trans c2, (hb.cell (p := ⟨b, _, none⟩) (lt_of_cell c3)).trans c3⟩

end Go.Proofs.YtdngbojbpmdegaaGreatDoor

namespace Go.Proofs.YtdngbojbpmdegaaGreatDoor
open Go.RowKit
set_option maxRecDepth 100000
set_option linter.unusedVariables false

structure ActBox (w : World) (b : Nat) (x : Ac) : Prop where
  c0 : w.cell? ⟨b, 0, none⟩ = some (.int .i64 x.k)
  c1 : w.cell? ⟨b, 1, none⟩ = some (.int .i64 x.e)
  c2 : w.cell? ⟨b, 2, none⟩ = some (.int .i64 x.f)
  c3 : w.cell? ⟨b, 3, none⟩ = some (.int .i64 x.at_)
  c4 : w.cell? ⟨b, 4, none⟩ = some (.int .i64 x.r)
  c5 : w.cell? ⟨b, 5, none⟩ = some (.int .i64 x.n)
  c6 : w.cell? ⟨b, 6, none⟩ = some (.int .i64 x.fuel)
theorem ActBox.drew {w : World} {b : Nat} {x : Ac} (h : ActBox w b x) : ActBox w.drew b x := ⟨h.c0, h.c1, h.c2, h.c3, h.c4, h.c5, h.c6⟩
theorem owns_belowA {w w' : World} {B : Nat} {v : Value} {l : List Ac} (h : Owns w B v l) (hb : Below w.heap.size w w') : Owns w' B v l :=
  World.ownsRow.kept (row := none) h ⟨hb.os, hb.tape, hb.output, hb.size, fun k hk _ => hb.block k hk⟩ (by cases hv : v.ownBlock <;> simp)
end Go.Proofs.YtdngbojbpmdegaaGreatDoor

namespace Go.Proofs.YtdngbojbpmdegaaGreatDoor
open Go.RowKit
set_option maxRecDepth 100000
set_option linter.unusedVariables false

theorem zeros_size (cs : Array Value) : ∀ n, (Builtin.zeroCells cs n).size = n * cs.size := by
  intro n
  simp [Builtin.zeroCells]

theorem grow_owns (w : World) (cs : Array Value) (cp : Nat) (h : cs.size = cp * 7) (hm : cp ≤ maxLen) : Owns (w.alloc (.cells cs 68)).drew w.heap.size (.slice (some ⟨w.heap.size, 0, none⟩) 0 cp) [] :=
  ⟨rfl, .inr ⟨w.heap.size, cp, cs, rfl, Nat.le_refl _, Go.Deep.blk_alloc_new w _, Nat.zero_le _, hm, h, by simp [rowA]⟩⟩
set_option maxHeartbeats 4000000 in
theorem grow_acts (n : Nat) (w : World) (hn : n ≤ 100000) :
    Calls Tryz.prog 91 #[.slice none 0 0, .int .i64 (n : Int)] w fun e w' => ∃ v, e = .returned v ∧ Owns w' w.heap.size v [] ∧ Below w.heap.size w w' := by
  obtain ⟨i0, hi, hz0, hz1, hz2⟩ := info_parts act_info
  have hnn : ¬ ((n : Int) < 0) := by omega
  by_cases h0 : n = 0
  · subst h0
    go_enter Tryz.func91, Tryz.ntmps91
    go_wp2
    go_ret
    exact ⟨_, rfl, World.ownsRow_nil _ _ _ _, Below.refl _ _⟩
  · have hp : 0 < n := by omega
    have hgt : (n : Int) > 0 := by omega
    have hr := Go.Lib.run_append_nil_zeros (P := Tryz.prog) w 23 3 23 68 i0 _ .i64 .i64 Tryz.underlying23 Tryz.underlying3 hi hz0 n hp (by omega) (by omega) (by rw [hz2]; omega)
    go_enter Tryz.func91, Tryz.ntmps91
    go_wp2_with (at_builtin; refine Go.Lib.wpList_append_run _ rfl _ _ 23 3 rfl _ _ rfl rfl _ _ hr ?_)
    have hc1 := grownCap_ge w n 0 68
    have hc2 := grownCap_le_maxLen w n 0 68 (by unfold maxLen; omega)
    clear hr
    generalize grownCap w n 0 68 = cp at *
    have hcI : (0 : Int) ≤ (cp : Int) := by omega
    go_wp2
    go_ret
    exact ⟨_, rfl, grow_owns w _ cp (by rw [Array.size_append, zeros_size, zeros_size]; show n * 7 + (cp - n) * 7 = cp * 7; omega) hc2, ((Below.refl _ _).alloc (Nat.le_refl _) _).drew⟩

/-- a list that is handed in -/
structure Pt where
  a : Option Addr
  l : List Ac
  cap : Nat
instance : Inhabited Pt := ⟨⟨none, [], 0⟩⟩
def Pt.cells (p : Pt) : List Value := [.slice p.a p.l.length p.cap]
def upTo (ps : List Pt) (k : Nat) : List Ac := (ps.take k).flatMap Pt.l
theorem upTo_succ (ps : List Pt) (k : Nat) (hk : k < ps.length) : upTo ps (k + 1) = upTo ps k ++ (ps.getD k default).l := by
  unfold upTo
  rw [List.take_succ_eq_append_getElem hk, List.flatMap_append]
  have : ps[k] = ps.getD k default := by simp [List.getD_eq_getElem?_getD, hk]
  rw [this]
  simp
theorem upTo_le (ps : List Pt) (k : Nat) : (upTo ps k).length ≤ (ps.flatMap Pt.l).length := by
  unfold upTo
  have h : ps.flatMap Pt.l = (ps.take k).flatMap Pt.l ++ (ps.drop k).flatMap Pt.l := by rw [← List.flatMap_append, List.take_append_drop]
  rw [h, List.length_append]; omega

set_option maxHeartbeats 8000000 in
theorem concat_acts (a : Option Addr) (ps : List Pt) (cap : Nat) (w : World) (hl : ps.length ≤ 100) (hx : RowsAt w 1 Pt.cells a ps) (hp : ∀ p ∈ ps, RowsAt w 7 Ac.cells p.a p.l) (hs : (ps.flatMap Pt.l).length ≤ 10000) :
    Calls Tryz.prog 36 #[.slice a ps.length cap] w fun e w' => ∃ v, e = .returned v ∧ Owns w' w.heap.size v (ps.flatMap Pt.l) ∧ Below w.heap.size w w' := by
  obtain ⟨i0, hi, hz0, hz1, hz2⟩ := info_parts act_info
  have HX : Hid (RowsAt w 1 Pt.cells a ps) := hx
  have HP : Hid (∀ p ∈ ps, RowsAt w 7 Ac.cells p.a p.l) := hp
  have HS : Hid ((ps.flatMap Pt.l).length ≤ 10000) := hs
  clear hx hp hs
  go_enter Tryz.func36, Tryz.ntmps36
  go_wp2
  go_loopw [3, 11] (fun z i wr => ∃ k : Nat, k ≤ ps.length ∧ i = .int .i64 k ∧ z = .int .i64 (((upTo ps k).length : Nat) : Int) ∧ wr = w) (fun _ i _ => ps.length - (intOf i).toNat)
  case atStart => exact ⟨0, Nat.zero_le _, rfl, rfl, rfl⟩
  case round =>
    obtain ⟨k, hk, rfl, rfl, rfl⟩ := hrel
    by_cases hlt : k < ps.length
    · rcases HX.out with h0 | ⟨b, off, rfl, hc⟩
      · rw [h0] at hlt; simp at hlt
      · have c0 := hc k hlt 0 (by omega)
        have HU : Hid _ := upTo_succ ps k hlt
        have hU1 := upTo_le ps (k + 1)
        have hU2 := HS.out
        rw [HU.out, List.length_append] at hU1
        generalize ps.getD k default = Q at c0 HU hU1
        obtain ⟨qa, ql, qc⟩ := Q
        simp only [Pt.cells, List.getElem?_cons_zero, Nat.mul_one, Nat.add_zero] at c0
        dsimp only at hU1 HU
        have hw1 : IntKind.i64.wrap (((upTo ps k).length : Int) + (ql.length : Int)) = ((upTo ps k).length : Int) + (ql.length : Int) := by rw [IntKind.wrap_i64]; omega
        have hnn : ¬ (((upTo ps k).length : Int) + (ql.length : Int) < 0) := by omega
        have hkI : (k : Int) < (ps.length : Int) := by omega
        have lb := lt_of_cell c0
        clear hc HX HP
        generalize hn : (upTo ps k).length = n at *
        generalize hm : ql.length = m at *
        go_wp2
        go_roundw
        case rel => exact ⟨k + 1, by omega, by go_num, by rw [HU.out, List.length_append, hn, hm]; go_num, trivial⟩
        case measure => simp [intOf]; omega
    · have hge : ¬ ((k : Int) < (ps.length : Int)) := by omega
      have hkl : k = ps.length := by omega
      have HT : Hid (upTo ps k = ps.flatMap Pt.l) := show _ = _ by rw [hkl]; unfold upTo; rw [List.take_of_length_le (Nat.le_refl _)]
      rw [HT.out]
      clear hkl hlt hk HT
      obtain ⟨tot, htot⟩ : ∃ tot, Hid (tot = (ps.flatMap Pt.l).length) := ⟨_, rfl⟩
      have hG := grow_acts tot wr (by have := HS.out; have := htot.out; omega)
      rw [← htot.out]
      go_wp2_with (go_at_call 91; refine hG.mono ?_; clear hG; rintro e w1 ⟨v1, rfl, hown, hb1⟩)
      have hsz1 := hb1.size
      go_loopw [6, 27] (fun v i wz => ∃ k : Nat, k ≤ ps.length ∧ i = .int .i64 k ∧ Hid (Owns wz wr.heap.size v (upTo ps k)) ∧ Below wr.heap.size wr wz ∧ wr.heap.size ≤ wz.heap.size) (fun _ i _ => ps.length - (intOf i).toNat)
      case atStart => exact ⟨0, Nat.zero_le _, rfl, hown, hb1, hsz1⟩
      case round =>
        clear hown hb1 hsz1 hge
        rename World => wz
        obtain ⟨k, hk, rfl, hown, hbel, hsz⟩ := hrel
        by_cases hlt : k < ps.length
        · rcases HX.out with h0 | ⟨b, off, rfl, hc⟩
          · rw [h0] at hlt; simp at hlt
          · have c0 := keep_cell hbel (hc k hlt 0 (by omega))
            have HU : Hid _ := upTo_succ ps k hlt
            have hU1 := upTo_le ps (k + 1)
            have hU2 := HS.out
            rw [HU.out, List.length_append] at hU1
            have hq := HP.out (ps.getD k default) (by simp [List.getD_eq_getElem?_getD, hlt])
            generalize ps.getD k default = Q at c0 HU hU1 hq
            obtain ⟨qa, ql, qc⟩ := Q
            simp only [Nat.mul_one, Nat.add_zero] at c0
            dsimp only at hU1 HU hq
            have hkI : (k : Int) < (ps.length : Int) := by omega
            have lb := lt_of_cell c0
            obtain ⟨v', w', hrun, hown', hbel', hsz'⟩ := app_acts hown.out hbel hsz qa ql qc (RowsAt.below (cells := Ac.cells) (fun _ => rfl) hq hbel) (by omega)
            have HR : Hid (Owns w' wr.heap.size v' (upTo ps (k + 1))) := show Owns _ _ _ _ by rw [HU.out]; exact hown'
            generalize ql.length = m at *
            clear hc HX HP hown hown' hU1 hU2 hq
            go_wp2_with (at_builtin; refine wpList_append_eq rfl _ _ 23 rfl _ _ v' rfl rfl hrun ?_)
            go_roundw
            case rel => exact ⟨k + 1, by omega, by go_num, HR, hbel', hsz'⟩
            case measure => simp [intOf]; omega
        · have hge : ¬ ((k : Int) < (ps.length : Int)) := by omega
          have hkl : k = ps.length := by omega
          have HF : Hid (Owns wz wr.heap.size u6 (ps.flatMap Pt.l)) := show Owns _ _ _ _ by
            have := hown.out
            rw [hkl] at this
            unfold upTo at this
            rw [List.take_of_length_le (Nat.le_refl _)] at this
            exact this
          clear hkl hlt hk hown
          go_wp2
          go_ret
          exact ⟨_, rfl, HF.out, hbel⟩

end Go.Proofs.YtdngbojbpmdegaaGreatDoor

namespace Go.Proofs.YtdngbojbpmdegaaGreatDoor
open Go.RowKit
set_option maxRecDepth 100000
set_option linter.unusedVariables false

/-- a variable that holds a machine of its own -/
structure MBox (n0 : Nat) (w : World) (b : Nat) (M : Mv) : Prop where
  c0 : w.cell? ⟨b, 0, none⟩ = some (.slice M.fa M.frs.length M.fcap)
  c1 : w.cell? ⟨b, 1, none⟩ = some (.slice M.ea M.ens.length M.ecap)
  c2 : w.cell? ⟨b, 2, none⟩ = some (.slice M.qa M.qus.length M.qcap)
  fz : ∀ o, w.frozen? ⟨b, o, none⟩ = false
  lt : b < w.heap.size
  own : Owned n0 w M
  off : ¬ Mine M b
theorem MBox.keepH {n0 : Nat} {w w' : World} {b : Nat} {M : Mv} (h : MBox n0 w b M) (hw : ∀ c, c = b ∨ Mine M c → w'.heap[c]? = w.heap[c]?) (hs : w.heap.size ≤ w'.heap.size) : MBox n0 w' b M := by
  have hc : ∀ o, w'.cell? ⟨b, o, none⟩ = w.cell? ⟨b, o, none⟩ := fun o => World.cell?_of_block (hw b (.inl rfl))
  exact ⟨(hc 0).trans h.c0, (hc 1).trans h.c1, (hc 2).trans h.c2, fun o => (World.frozen?_of_block (hw b (.inl rfl))).trans (h.fz o), Nat.lt_of_lt_of_le h.lt hs, h.own.keepM (fun c hc => hw c (.inr hc)) hs, h.off⟩
theorem MBox.old {n0 : Nat} {w : World} {b : Nat} {M : Mv} (h : MBox n0 w b M) {c : Nat} (hc : c = b ∨ Mine M c) : c < w.heap.size := by
  rcases hc with rfl | hc
  · exact h.lt
  · exact (Mine.fresh h.own hc).2
theorem MBox.keep {n0 : Nat} {w w' : World} {b : Nat} {M : Mv} (h : MBox n0 w b M) (hb : Below w.heap.size w w') : MBox n0 w' b M :=
  h.keepH (fun c hc => hb.block c (h.old hc)) hb.size
theorem MBox.far {n0 : Nat} {w : World} {b : Nat} {M : Mv} (h : MBox n0 w b M) {c : Nat} (hc : ¬ (c = b ∨ Mine M c)) (o : Nat) (v : Value) : MBox n0 (w.setCell ⟨c, o, none⟩ v) b M :=
  h.keepH (fun d hd => set_heap _ _ _ _ _ (fun e => hc (e ▸ hd))) (by simp [World.setCell])
theorem MBox.mono {n0 n1 : Nat} {w : World} {b : Nat} {M : Mv} (h : MBox n0 w b M) (hn : n1 ≤ n0) : MBox n1 w b M := ⟨h.c0, h.c1, h.c2, h.fz, h.lt, h.own.mono hn, h.off⟩
theorem MBox.of_block {n0 : Nat} {w : World} {b : Nat} {M : Mv} {t : TypeId} (hO : Owned n0 w M) (hb : w.heap[b]? = some (.cells #[.slice M.fa M.frs.length M.fcap, .slice M.ea M.ens.length M.ecap, .slice M.qa M.qus.length M.qcap] t (0, 0))) (off : ¬ Mine M b) : MBox n0 w b M :=
  ⟨by simp [World.cell?, hb], by simp [World.cell?, hb], by simp [World.cell?, hb], fun o => by simp [World.frozen?, hb], (Array.getElem?_eq_some_iff.1 hb).1, hO, off⟩
/-- a machine is taken over -/
theorem MBox.putM {n0 n1 : Nat} {w : World} {b : Nat} {M N : Mv} (h : MBox n0 w b M) (hO : Owned n1 w N) (off : ¬ Mine N b) :
    MBox n1 (((w.setCell ⟨b, 0, none⟩ (.slice N.fa N.frs.length N.fcap)).setCell ⟨b, 1, none⟩ (.slice N.ea N.ens.length N.ecap)).setCell ⟨b, 2, none⟩ (.slice N.qa N.qus.length N.qcap)) b N := by
  obtain ⟨k0, k1, k2⟩ := blk3 (v0 := .slice N.fa N.frs.length N.fcap) (v1 := .slice N.ea N.ens.length N.ecap) (v2 := .slice N.qa N.qus.length N.qcap) h.c0 h.c1 h.c2
  have hf : ∀ o, (((w.setCell ⟨b, 0, none⟩ (.slice N.fa N.frs.length N.fcap)).setCell ⟨b, 1, none⟩ (.slice N.ea N.ens.length N.ecap)).setCell ⟨b, 2, none⟩ (.slice N.qa N.qus.length N.qcap)).frozen? ⟨b, o, none⟩ = false := fun o => by rw [World.frozen?_setCell, World.frozen?_setCell, World.frozen?_setCell]; exact h.fz o
  have hh := fun c hc => blk3_heap (w := w) (b := b) (v0 := .slice N.fa N.frs.length N.fcap) (v1 := .slice N.ea N.ens.length N.ecap) (v2 := .slice N.qa N.qus.length N.qcap) c hc
  have hz : (((w.setCell ⟨b, 0, none⟩ (.slice N.fa N.frs.length N.fcap)).setCell ⟨b, 1, none⟩ (.slice N.ea N.ens.length N.ecap)).setCell ⟨b, 2, none⟩ (.slice N.qa N.qus.length N.qcap)).heap.size = w.heap.size := blk3_size
  generalize ((w.setCell ⟨b, 0, none⟩ (.slice N.fa N.frs.length N.fcap)).setCell ⟨b, 1, none⟩ (.slice N.ea N.ens.length N.ecap)).setCell ⟨b, 2, none⟩ (.slice N.qa N.qus.length N.qcap) = V at k0 k1 k2 hf hh hz
  exact ⟨k0, k1, k2, hf, by rw [hz]; exact h.lt, hO.keepM (fun c hc => hh c (fun q => off (q ▸ hc))) (by rw [hz]; exact Nat.le_refl _), off⟩
/-- a variable that holds an outcome -/
structure OBox (w : World) (b : Nat) (nd v : Int) : Prop where
  c0 : w.cell? ⟨b, 0, none⟩ = some (.int .i64 nd)
  c1 : w.cell? ⟨b, 1, none⟩ = some (.int .i64 v)
  fz : ∀ o, w.frozen? ⟨b, o, none⟩ = false
  lt : b < w.heap.size
theorem OBox.keepH {w w' : World} {b : Nat} {nd v : Int} (h : OBox w b nd v) (hw : w'.heap[b]? = w.heap[b]?) (hs : w.heap.size ≤ w'.heap.size) : OBox w' b nd v :=
  ⟨(World.cell?_of_block hw).trans h.c0, (World.cell?_of_block hw).trans h.c1, fun o => (World.frozen?_of_block hw).trans (h.fz o), Nat.lt_of_lt_of_le h.lt hs⟩
theorem OBox.keep {w w' : World} {b : Nat} {nd v : Int} (h : OBox w b nd v) (hb : Below w.heap.size w w') : OBox w' b nd v := h.keepH (hb.block b h.lt) hb.size
theorem OBox.far {w : World} {b : Nat} {nd v : Int} (h : OBox w b nd v) {c : Nat} (hc : c ≠ b) (o : Nat) (x : Value) : OBox (w.setCell ⟨c, o, none⟩ x) b nd v :=
  h.keepH (set_heap _ _ _ _ _ (Ne.symm hc)) (by simp [World.setCell])
theorem OBox.of_block {w : World} {b : Nat} {nd v : Int} {t : TypeId} (hb : w.heap[b]? = some (.cells #[.int .i64 nd, .int .i64 v] t (0, 0))) : OBox w b nd v :=
  ⟨by simp [World.cell?, hb], by simp [World.cell?, hb], fun o => by simp [World.frozen?, hb], (Array.getElem?_eq_some_iff.1 hb).1⟩
theorem OBox.put {w : World} {b : Nat} {nd v : Int} (h : OBox w b nd v) (nd' v' : Int) : OBox ((w.setCell ⟨b, 0, none⟩ (.int .i64 nd')).setCell ⟨b, 1, none⟩ (.int .i64 v')) b nd' v' := by
  have oth : ∀ (V : World) (i j : Nat) (x : Value), i ≠ j → (V.setCell ⟨b, i, none⟩ x).cell? ⟨b, j, none⟩ = V.cell? ⟨b, j, none⟩ := fun V i j x hij => World.cell?_setCell_other _ _ _ _ (by intro q; simp only [Addr.mk.injEq, true_and, and_true] at q; exact hij q)
  exact ⟨(oth _ 1 0 _ (by omega)).trans (World.cell?_setCell_same _ _ _ h.c0), World.cell?_setCell_same _ _ _ ((oth w 0 1 _ (by omega)).trans h.c1), fun o => by rw [World.frozen?_setCell, World.frozen?_setCell]; exact h.fz o, by simp [World.setCell]; exact h.lt⟩
end Go.Proofs.YtdngbojbpmdegaaGreatDoor
