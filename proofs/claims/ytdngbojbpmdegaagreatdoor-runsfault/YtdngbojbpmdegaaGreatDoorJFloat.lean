/-
  What the call started (riddletop) answers: an image that may be, a machine with that image as its first enclave, and true: it is never refused. The conditions: the raw things are within the reach of the form; the library's tables are laid. What the call built (riddlekeep) answers at an image that may be, from a frame on: a machine with that image as its first enclave, and true. The conditions: the image's cells are there, and there is room. What a run changes, and that a run in pieces is the run in one (own work). No condition but that the machine may be. What the programs of RunsReckon and of RunsFault do (own work): an enclave of two pages of code and one of data, step by step. No condition but the numbers' bounds. A region that draws its order, in which two variables are made that only its last operations touch (own work): they may be made at any time; it is enough to walk the other operations, and to hand the two variables over behind them. The conditions: those of the theorem, which the kernel decides.
-/
import Derived.Test.YtdngbojbpmdegaaGreatDoorJKeepMath
import Derived.Test.YtdngbojbpmdegaaGreatDoorJPlan
import Derived.Deep.RegionHeld3
import Derived.Deep.DeepCutAuto
import Derived.BigQuiet
import Derived.Test.YtdngbojbpmdegaaGreatDoorTopPlan
import Derived.Test.YtdngbojbpmdegaaGreatDoorJBuilder
import Derived.Test.YtdngbojbpmdegaaGreatDoorJPutMath
import Derived.Below
import Derived.Deep.Heap
namespace Go.Proofs.YtdngbojbpmdegaaGreatDoor
open Go.RowKit
set_option maxRecDepth 100000
set_option linter.unusedVariables false

theorem outer_plan {ps : List Pg} {e f : Int} : ∀ x ∈ planL ps e f, x.outer := by
  intro x hx
  unfold planL at hx
  simp only [List.mem_append, List.mem_cons, List.not_mem_nil, or_false] at hx
  rcases hx with ((hx | rfl) | hx) | rfl
  · unfold pokeK at hx
    obtain ⟨i, _, hx⟩ := List.mem_flatMap.1 hx
    unfold pokeP at hx
    obtain ⟨j, _, rfl⟩ := List.mem_map.1 hx
    exact ⟨(by decide : ¬ (7 : Int) = 8), (by decide : ¬ (7 : Int) = 9)⟩
  · exact ⟨(by decide : ¬ (1 : Int) = 8), (by decide : ¬ (1 : Int) = 9)⟩
  · unfold putK at hx
    obtain ⟨i, _, hx⟩ := List.mem_flatMap.1 hx
    simp only [List.mem_cons, List.not_mem_nil, or_false] at hx
    rcases hx with rfl | rfl
    · exact ⟨(by decide : ¬ (2 : Int) = 8), (by decide : ¬ (2 : Int) = 9)⟩
    · exact ⟨(by decide : ¬ (3 : Int) = 8), (by decide : ¬ (3 : Int) = 9)⟩
  · exact ⟨(by decide : ¬ (4 : Int) = 8), (by decide : ¬ (4 : Int) = 9)⟩
/-- an image that is built on a new machine -/
theorem new_planned {ps : List Pg} (hi : imageF ps = 0) {f0 : Nat} (hf : f0 + ps.length ≤ 24) : ∃ N, Planned newM N 0 f0 ps ∧ Steps newM (planL ps 1 f0) N ∧ Told N := by
  obtain ⟨N, h1, h2⟩ := plan_steps (M := newM) new_good (m := 0) (by omega) (by unfold creI newM; rfl) hi hf (fun j hj => by
    show ((List.replicate 24 zeroFr).getD (f0 + j) default).o = 0
    rw [rep_getD _ _ _ (by omega)]; rfl)
  have h2' : Steps newM (planL ps 1 f0) N := h2
  refine ⟨N, h1, h2', ?_⟩
  have := told_hst (planL ps 1 f0) ⟨newM, noC⟩ new_good told_new (fun x hx => outer_plan x hx)
  rw [(h2' noC).1] at this
  exact this

end Go.Proofs.YtdngbojbpmdegaaGreatDoor

namespace Go.Proofs.YtdngbojbpmdegaaGreatDoor
open Go.RowKit
set_option maxRecDepth 100000
set_option linter.unusedVariables false

/-- what built answers -/
def BuiltSaid (f0 : Nat) (ps : List Pg) (w : World) (y : Ending) (w' : World) : Prop := ∃ M N, y = .returned (.tuple #[Mv.val M, .bool true]) ∧ M.Same N ∧ Planned newM N 0 f0 ps ∧ Told N ∧ Owned w.heap.size w' M ∧ Below w.heap.size w w'
set_option maxHeartbeats 8000000 in
theorem built_ok (b : Option Addr) (ps : List Pg) (c : Nat) (f0 : Nat) (w : World) (hpa0 : PagesAt w b ps) (hif : imageF ps = 0) (hfl : f0 + ps.length ≤ 24) (ht : Tab w) :
    Calls Tryz.prog 63 #[.slice b ps.length c, .int .i64 f0] w (BuiltSaid f0 ps w) := by
  unfold BuiltSaid
  obtain ⟨W2, hW2⟩ : ∃ W2, Hid (W2 = w.alloc (.cells #[.slice none 0 0, .slice none 0 0, .slice none 0 0] 29)) := ⟨_, rfl⟩
  have B2 : Hid (Below w.heap.size w W2) := show Below _ _ _ by rw [hW2.out]; exact (Below.refl _ _).alloc (Nat.le_refl _) _
  have q2 : Hid (W2.heap[w.heap.size]? = some (.cells #[.slice none 0 0, .slice none 0 0, .slice none 0 0] 29 (0, 0))) := show _ = _ by rw [hW2.out]; exact Go.Deep.blk_alloc_new _ _
  have hz2 : Hid (W2.heap.size = w.heap.size + 1) := show _ = _ by rw [hW2.out, World.size_alloc]
  have HT : Hid (Tab w) := ht
  have h8 := image_len hif
  have HIF : Hid (_) := hif
  have hpa := hpa0.below B2.out
  have hpl := plan_good b ps c 1 f0 W2 (by unfold maxLen; omega) hpa (by unfold planE; rw [if_pos hif, if_pos]; rw [Bool.and_eq_true]; exact ⟨by decide, inB_iff.2 ⟨by omega, by omega⟩⟩)
  clear ht hpa0 hpa hif
  go_enter Tryz.func63, Tryz.ntmps63
  go_upto_region 1 with fail
  rw [← hW2.out]
  clear hW2
  go_upto_region 2 with (go_at_call 24; refine hpl.mono ?_; clear hpl; rintro e w2 ⟨v, rfl, hown, hb2⟩)
  obtain ⟨la, lc, rfl, hrow⟩ := acts_row hown
  have hll := plan_len HIF.out 1 (f0 : Int)
  have hlen : (planL ps 1 (f0 : Int)).length ≤ 200 := by omega
  have s12 : Hid (Below W2.heap.size W2 w2) := hb2
  have hrun := runH_any none [] 0 la (planL ps 1 (f0 : Int)) lc w2 (.inl rfl) ⟨by simp [maxLen], fun s hs => by simp at hs, by simp, fun x hx => by simp at hx⟩ hrow (by unfold maxLen; omega) (plan_ok HIF.out ⟨by omega, by omega⟩ ⟨by omega, by omega⟩) (HT.out.below (B2.out.trans (s12.out.mono B2.out.size)))
  have hR0 := runF_nil hlen
  unfold HostSaid at hrun
  rw [hR0, if_pos rfl, if_pos rfl, if_pos rfl] at hrun
  obtain ⟨N, hPN, hSN, hTN⟩ := new_planned HIF.out (f0 := f0) (by omega)
  have hst := hSN ⟨none, [], 0, none, [], 0⟩
  have e0 : hs0 [] = ⟨newM, ⟨none, [], 0, none, [], 0⟩⟩ := rfl
  rw [e0, hst.1] at hrun
  obtain ⟨xs, hxs⟩ : ∃ xs, xs = hans ⟨newM, ⟨none, [], 0, none, [], 0⟩⟩ (planL ps 1 (f0 : Int)) := ⟨_, rfl⟩
  have hxl : xs.length ≤ 200 := by rw [hxs, hans_len]; exact hlen
  have hxe : (xs.any fun x => x.1 != 0) = false := by
    rw [List.any_eq_false]
    intro x hx
    rw [hxs] at hx
    simp [hst.2 x hx]
  rw [← hxs] at hrun
  have HN : Hid (_) := And.intro hPN hTN
  clear hst hSN hPN hTN hxs e0 hR0 hown hrow
  generalize (planL ps 1 (f0 : Int)).length = nl at *
  have HS12 : Hid (_) := s12
  have HHT : Hid (Below w2.heap.size w2 w2) := Below.refl _ _
  go_upto_region 3 with (go_at_call 13; refine hrun.mono ?_; clear hrun; rintro y w3 ⟨aa, acap, zs, M, C, rfl, hzr, rfl, hMs, hCs, hO, hCO, hb3⟩; unfold Mv.val Cv.val)
  obtain ⟨fa, frs, fcap, ea, ens, ecap, qa, qus, qcap⟩ := M
  obtain ⟨ta, tr, tcap, na, ns, ncap⟩ := C
  dsimp only at hMs hCs hO hCO ⊢
  have hg := good_iff.1 HN.out.1.good
  have h24 : frs.length = 24 := hMs.len.trans hg.s1
  have h4e : ens.length = 4 := (congrArg List.length hMs.en).trans hg.s2
  have H24 : Hid (_) := And.intro h24 h4e
  rw [h24, h4e]
  obtain ⟨W4, hW4⟩ : ∃ W4, Hid (W4 = (w3.alloc (.cells #[.slice fa 24 fcap, .slice ea 4 ecap, .slice qa qus.length qcap] 29)).alloc (.cells #[.slice ta tr.length tcap, .slice na ns.length ncap] 32)) := ⟨_, rfl⟩
  obtain ⟨P, hP⟩ : ∃ P, Hid (P = w3.heap.size) := ⟨_, rfl⟩
  have c0 : W4.cell? ⟨P, 0, none⟩ = some (.slice fa 24 fcap) := by rw [hW4.out, hP.out, World.cell?_alloc_past _ _ _ (by simp), World.cell?_alloc_at _ _ _ _ rfl]; rfl
  have c1 : W4.cell? ⟨P, 1, none⟩ = some (.slice ea 4 ecap) := by rw [hW4.out, hP.out, World.cell?_alloc_past _ _ _ (by simp), World.cell?_alloc_at _ _ _ _ rfl]; rfl
  have c2 : W4.cell? ⟨P, 2, none⟩ = some (.slice qa qus.length qcap) := by rw [hW4.out, hP.out, World.cell?_alloc_past _ _ _ (by simp), World.cell?_alloc_at _ _ _ _ rfl]; rfl
  have B34 : Hid (Below w3.heap.size w3 W4) := show Below _ _ _ by rw [hW4.out]; exact ((Below.refl _ _).alloc (Nat.le_refl _) _).alloc (by simp) _
  have B24 : Hid (Below W2.heap.size W2 W4) := show Below _ _ _ from (HS12.out.trans (hb3.mono HS12.out.size)).trans (B34.out.mono (Nat.le_trans HS12.out.size hb3.size))
  have BW4 : Hid (Below w.heap.size w W4) := show Below _ _ _ from B2.out.trans (B24.out.mono B2.out.size)
  have k7 : Hid (W4.heap[w.heap.size]? = some (.cells #[.slice none 0 0, .slice none 0 0, .slice none 0 0] 29 (0, 0))) := show _ = _ from (B24.out.block _ (by have := hz2.out; omega)).trans q2.out
  have HO4 : Hid (Owned w2.heap.size W4 ⟨fa, frs, fcap, ea, ens, ecap, qa, qus, qcap⟩) := hO.below B34.out
  have HG2 : Hid (w.heap.size < w2.heap.size) := show _ < _ by have := hz2.out; have := HS12.out.size; omega
  have HX4 := fun w' (hb : Below W4.heap.size W4 w') => bui1_errs aa zs acap w' (by unfold maxLen; omega) (RowsAt.below (cells := anCells) (fun _ => rfl) (RowsAt.below (cells := anCells) (fun _ => rfl) hzr B34.out) hb)
  rw [hxe] at HX4
  have HX : Hid (_) := HX4
  have HMS : Hid (_) := hMs
  have ltP : P < W4.heap.size := lt_of_cell c0
  have lt7 : w.heap.size < W4.heap.size := by have := hz2.out; have := B24.out.size; omega
  have a0 : W4.cell? ⟨w.heap.size, 0, none⟩ = some (.slice none 0 0) := by simp [World.cell?, k7.out]
  have a1 : W4.cell? ⟨w.heap.size, 1, none⟩ = some (.slice none 0 0) := by simp [World.cell?, k7.out]
  have a2 : W4.cell? ⟨w.heap.size, 2, none⟩ = some (.slice none 0 0) := by simp [World.cell?, k7.out]
  have zf : ∀ o, W4.frozen? ⟨w.heap.size, o, none⟩ = false := fun o => by simp [World.frozen?, k7.out]
  have z0 := zf 0; have z1 := zf 1; have z2 := zf 2
  have hne : ¬ w.heap.size = P := by rw [hP.out]; have := hz2.out; have := HS12.out.size; have := hb3.size; omega
  have hne' : ¬ P = w.heap.size := fun e => hne e.symm
  rw [← hW4.out, ← hP.out]
  clear hW4 hP hO hCO hzr hb3 hMs hCs HX4 hg h24 h4e zf hb2 s12
  have A7 : Hid (_) := And.intro a0 (And.intro a1 a2)
  have Z7 : Hid (_) := And.intro z0 (And.intro z1 z2)
  have C7 : Hid (_) := And.intro c0 (And.intro c1 c2)
  have L7 : Hid (_) := And.intro ltP lt7
  go_region_held3 (fun w' => w'.cell? ⟨P, 0, none⟩ = some (.slice fa 24 fcap) ∧ w'.cell? ⟨P, 1, none⟩ = some (.slice ea 4 ecap) ∧ w'.cell? ⟨P, 2, none⟩ = some (.slice qa qus.length qcap)) (first | (with_reducible exact ⟨c0, c1, c2⟩) | (with_reducible exact ⟨d0, d1, d2⟩) | go_keep)
    (first
    | (go_at_call 86; refine (HX.out _ (by repeat (first | (with_reducible exact Below.refl _ _) | (with_reducible refine Below.drew ?_)))).mono ?_; rintro y w5 ⟨rfl, hb5⟩; have HB5 : Hid (Below W4.heap.size W4 w5) := (show Below _ _ _ from (Below.refl W4.heap.size W4).drew.trans hb5); have d0 := (hb5.cell (p := ⟨P, 0, none⟩) L7.out.1).trans C7.out.1; have d1 := (hb5.cell (p := ⟨P, 1, none⟩) L7.out.1).trans C7.out.2.1; have d2 := (hb5.cell (p := ⟨P, 2, none⟩) L7.out.1).trans C7.out.2.2; have y0 := (hb5.cell (p := ⟨w.heap.size, 0, none⟩) L7.out.2).trans A7.out.1; have y1 := (hb5.cell (p := ⟨w.heap.size, 1, none⟩) L7.out.2).trans A7.out.2.1; have y2 := (hb5.cell (p := ⟨w.heap.size, 2, none⟩) L7.out.2).trans A7.out.2.2; have x0 := (hb5.frozen (p := ⟨w.heap.size, 0, none⟩) L7.out.2).trans Z7.out.1; have x1 := (hb5.frozen (p := ⟨w.heap.size, 1, none⟩) L7.out.2).trans Z7.out.2.1; have x2 := (hb5.frozen (p := ⟨w.heap.size, 2, none⟩) L7.out.2).trans Z7.out.2.2; have l5 := Nat.lt_of_lt_of_le L7.out.1 hb5.size; have l6 := Nat.lt_of_lt_of_le L7.out.2 hb5.size; clear hb5)
    | fail)
  all_goals
    go_wp2
    refine bp_genR fun V9 hV9 => ?_
    obtain ⟨k0, k1, k2⟩ := blk3' (b := w.heap.size) (v0 := .slice fa 24 fcap) (v1 := .slice ea 4 ecap) (v2 := .slice qa qus.length qcap) y0 y1 y2
    rw [← hV9] at k0 k1 k2
    have hh : ∀ c, c ≠ w.heap.size → V9.heap[c]? = w5.heap[c]? := fun c hc => by rw [hV9]; exact blk3_heap' c hc
    have hs9 : V9.heap.size = w5.heap.size := by rw [hV9]; simp [World.setCell]
    have B9 : Below w.heap.size w V9 := by rw [hV9]; exact blk3_below' (BW4.out.trans (HB5.out.mono BW4.out.size)) (by omega)
    have O9 : Owned w2.heap.size V9 ⟨fa, frs, fcap, ea, ens, ecap, qa, qus, qcap⟩ := (HO4.out.below HB5.out).keep (fun c hc _ => hh c (by have := HG2.out; omega)) (by omega)
    clear hV9
    (try simp only [Exit.inBlock, Exit.then])
    refine bodyPost_ret (by simp [results, Tryz.results63, go_sem, k0, k1, k2]; try rfl) rfl ?_
    refine ⟨⟨fa, frs, fcap, ea, ens, ecap, qa, qus, qcap⟩, N, ?_, HMS.out, HN.out.1, HN.out.2, O9.mono (by have := HG2.out; omega), B9⟩
    unfold Mv.val; dsimp only; rw [H24.out.1, H24.out.2]

end Go.Proofs.YtdngbojbpmdegaaGreatDoor

namespace Go.Proofs.YtdngbojbpmdegaaGreatDoor
open Go.RowKit

/-- what a run of the enclave m leaves as it was -/
structure Walled (m : Nat) (M N : Mv) : Prop where
  len : N.frs.length = M.frs.length
  ens : N.ens = M.ens
  own : ∀ j, (N.frs.getD j default).o = (M.frs.getD j default).o ∧ (N.frs.getD j default).at_ = (M.frs.getD j default).at_ ∧ (N.frs.getD j default).r = (M.frs.getD j default).r
  ws : ∀ j, (M.frs.getD j default).o ≠ 0 → ((M.frs.getD j default).o ≠ (m : Int) + 1 ∨ ¬ (M.frs.getD j default).r / 2 % 2 = 1) → (N.frs.getD j default).ws = (M.frs.getD j default).ws
  qus : ∃ l, N.qus = M.qus ++ l
theorem Walled.refl (m : Nat) (M : Mv) : Walled m M M := ⟨rfl, rfl, fun _ => ⟨rfl, rfl, rfl⟩, fun _ _ _ => rfl, [], by simp⟩
theorem Walled.trans {m : Nat} {M N K : Mv} (h : Walled m M N) (g : Walled m N K) : Walled m M K := by
  refine ⟨g.len.trans h.len, g.ens.trans h.ens, fun j => ?_, fun j h0 hc => ?_, ?_⟩
  · obtain ⟨a, b, c⟩ := h.own j
    obtain ⟨a', b', c'⟩ := g.own j
    exact ⟨a'.trans a, b'.trans b, c'.trans c⟩
  · obtain ⟨a, b, c⟩ := h.own j
    rw [g.ws j (by rw [a]; exact h0) (by rw [a, c]; exact hc), h.ws j h0 hc]
  · obtain ⟨l, hl⟩ := h.qus
    obtain ⟨k, hk⟩ := g.qus
    exact ⟨l ++ k, by rw [hk, hl, List.append_assoc]⟩
/-- an enclave that is Ready is entered -/
theorem ent_ready {M : Mv} (hz : machF M = 0) {m : Nat} (hm : m < 4) (hs : (M.ens.getD m default).st = 2) {word : Int} (hw : 0 ≤ word ∧ word ≤ 65535) {f : Nat} (hf : f ≤ 5000) :
    RunOk M m 0 [word, 0, 0, 0] ∧ entF M ((m : Int) + 1) word (f : Int) = 0 ∧ entM M ((m : Int) + 1) word (f : Int) = leftM (runR f M m 0 [word, 0, 0, 0] xorR) m ∧ entD M ((m : Int) + 1) word (f : Int) = (runR f M m 0 [word, 0, 0, 0] xorR).nd ∧ entV M ((m : Int) + 1) word (f : Int) = (runR f M m 0 [word, 0, 0, 0] xorR).v := by
  have h1 : entF M ((m : Int) + 1) word (f : Int) = 0 := by
    unfold entF fuelF
    rw [if_pos (askF_of hz hm (by omega) (fun _ => hs)), if_pos (inB_iff.2 ⟨by omega, by omega⟩), if_pos rfl, if_pos (inB_iff.2 hw)]
  obtain ⟨m', f', e1, e2, _, ho⟩ := ent_ok h1
  have : m' = m := by omega
  subst this
  refine ⟨ho, h1, ?_, ?_, ?_⟩
  · unfold entM entR; rw [if_pos h1, show ((m' : Int) + 1 - 1).toNat = m' by omega, Int.toNat_natCast]
  · unfold entD entR; rw [if_pos h1, show ((m' : Int) + 1 - 1).toNat = m' by omega, Int.toNat_natCast]
  · unfold entV entR; rw [if_pos h1, show ((m' : Int) + 1 - 1).toNat = m' by omega, Int.toNat_natCast]
end Go.Proofs.YtdngbojbpmdegaaGreatDoor

namespace Go.Proofs.YtdngbojbpmdegaaGreatDoor
open Go.RowKit

/-- an enclave of three pages, in the first three frames; the others are nobody's -/
structure C3 (N : Mv) (a b c : List Int) : Prop where
  len : N.frs.length = 24
  f0 : (N.frs.getD 0 default).o = 1 ∧ (N.frs.getD 0 default).at_ = 0 ∧ (N.frs.getD 0 default).r = 4 ∧ (N.frs.getD 0 default).ws = a
  f1 : (N.frs.getD 1 default).o = 1 ∧ (N.frs.getD 1 default).at_ = 1 ∧ (N.frs.getD 1 default).r = 4 ∧ (N.frs.getD 1 default).ws = b
  f2 : (N.frs.getD 2 default).o = 1 ∧ (N.frs.getD 2 default).at_ = 2 ∧ (N.frs.getD 2 default).r = 3 ∧ (N.frs.getD 2 default).ws = c
  no : ∀ j, 3 ≤ j → j < 24 → (N.frs.getD j default).o = 0
theorem C3.own {N : Mv} {a b c : List Int} (h : C3 N a b c) {j : Nat} (hj : j < 24) (q : Int) (hb : plB 1 q (N.frs.getD j default) = true) : j < 3 ∧ q = (j : Int) := by
  simp only [plB, Bool.and_eq_true, beq_iff_eq] at hb
  by_cases c3 : 3 ≤ j
  · have := h.no j c3 hj; omega
  · refine ⟨by omega, ?_⟩
    match j, (by omega : j < 3), hb with
    | 0, _, hb => rw [← hb.2, h.f0.2.1]; rfl
    | 1, _, hb => rw [← hb.2, h.f1.2.1]; rfl
    | 2, _, hb => rw [← hb.2, h.f2.2.1]; rfl
theorem C3.is {N : Mv} {a b c : List Int} (h : C3 N a b c) {j : Nat} (hj : j < 3) : plB 1 (j : Int) (N.frs.getD j default) = true := by
  match j, hj with
  | 0, _ => unfold plB; rw [h.f0.1, h.f0.2.1]; rfl
  | 1, _ => unfold plB; rw [h.f1.1, h.f1.2.1]; rfl
  | 2, _ => unfold plB; rw [h.f2.1, h.f2.2.1]; rfl
theorem C3.place {N : Mv} {a b c : List Int} (h : C3 N a b c) {j : Nat} (hj : j < 3) : placeOf N.frs 1 (j : Int) = (j : Int) := by
  have hl := h.len
  refine place_at (by omega) (h.is hj) fun i hi hij => ?_
  cases hb : plB 1 (j : Int) (N.frs.getD i default) with
  | false => rfl
  | true => have := (h.own (by omega) _ hb).2; omega
theorem C3.none {N : Mv} {a b c : List Int} (h : C3 N a b c) {q : Int} (hq : q < 0 ∨ 3 ≤ q) : placeOf N.frs 1 q = -1 := by
  have hl := h.len
  refine place_not fun i hi => ?_
  cases hb : plB 1 q (N.frs.getD i default) with
  | false => rfl
  | true => have := h.own (by omega) _ hb; omega
theorem C3.run {N : Mv} {a b c : List Int} (h : C3 N a b c) {j n : Nat} (hj : j < 2) (hn : n / 8 = j) : frmF N.frs 1 (n : Int) 4 = (j : Int) := by
  unfold frmF
  rw [if_neg (by omega), show (n : Int) / 8 = (j : Int) by omega, h.place (by omega), if_neg (by omega), Int.toNat_natCast, if_pos]
  match j, hj with
  | 0, _ => rw [h.f0.2.2.1]; rfl
  | 1, _ => rw [h.f1.2.2.1]; rfl
theorem C3.norun {N : Mv} {a b c : List Int} (h : C3 N a b c) {n : Int} (hn : 16 ≤ n) : frmF N.frs 1 n 4 = -1 := by
  unfold frmF
  by_cases q : 64 ≤ n
  · rw [if_pos q]; rfl
  · rw [if_neg q]
    by_cases q2 : n < 24
    · rw [show n / 8 = ((2 : Nat) : Int) by omega, h.place (by omega), if_neg (by omega), Int.toNat_natCast, if_neg]
      rw [h.f2.2.2.1]; decide
    · rw [h.none (by omega)]; rfl
theorem C3.nodata {N : Mv} {a b c : List Int} (h : C3 N a b c) {n : Int} (h0 : 0 ≤ n) (hn : n < 16 ∨ (24 ≤ n ∧ n < 64)) {right : Int} (hr : right = 1 ∨ right = 2) : frmF N.frs 1 n right = -1 := by
  unfold frmF
  rw [if_neg (by omega)]
  rcases hn with hn | hn
  · by_cases q : n < 8
    · rw [show n / 8 = ((0 : Nat) : Int) by omega, h.place (by omega), if_neg (by omega), Int.toNat_natCast, if_neg]
      rw [h.f0.2.2.1]; rcases hr with e | e <;> rw [e] <;> decide
    · rw [show n / 8 = ((1 : Nat) : Int) by omega, h.place (by omega), if_neg (by omega), Int.toNat_natCast, if_neg]
      rw [h.f1.2.2.1]; rcases hr with e | e <;> rw [e] <;> decide
  · rw [h.none (by omega)]; rfl
theorem C3.data {N : Mv} {a b c : List Int} (h : C3 N a b c) {n : Int} (hn : 16 ≤ n ∧ n < 24) {right : Int} (hr : right = 1 ∨ right = 2) : frmF N.frs 1 n right = 2 := by
  unfold frmF
  rw [if_neg (by omega), show n / 8 = ((2 : Nat) : Int) by omega, h.place (by omega), if_neg (by omega), Int.toNat_natCast, if_pos]
  · rfl
  · rw [h.f2.2.2.1]; rcases hr with e | e <;> rw [e] <;> decide
theorem C3.far {N : Mv} {a b c : List Int} (h : C3 N a b c) {n : Int} (hn : (64 ≤ n ∧ n < 88) ∨ 256 ≤ n) {right : Int} (hr : right = 1 ∨ right = 2) : frmF N.frs 1 n right = -1 := by
  unfold frmF shF
  rw [if_pos (by omega), if_neg (by omega)]
  rcases hn with hn | hn
  · rw [if_neg (by omega), if_neg]
    have : (n - 64) / 8 = 0 ∨ (n - 64) / 8 = 1 ∨ (n - 64) / 8 = 2 := by omega
    rcases this with e | e | e
    · rw [e]; show (N.frs.getD 0 default).o ≠ 0; rw [h.f0.1]; decide
    · rw [e]; show (N.frs.getD 1 default).o ≠ 0; rw [h.f1.1]; decide
    · rw [e]; show (N.frs.getD 2 default).o ≠ 0; rw [h.f2.1]; decide
  · rw [if_pos (by omega)]
theorem C3.code {N : Mv} {a b c : List Int} (h : C3 N a b c) (ha : a.length = 8) {n : Nat} (hn : n < 16) : wordAt N (frmF N.frs 1 (n : Int) 4) (n : Int) = (a ++ b).getD n 0 := by
  by_cases q : n < 8
  · rw [h.run (j := 0) (by omega) (by omega)]
    unfold wordAt
    rw [Int.toNat_natCast, h.f0.2.2.2, show ((n : Int) % 8).toNat = n by omega, List.getD_eq_getElem?_getD, List.getD_eq_getElem?_getD, List.getElem?_append_left (by omega)]
  · rw [h.run (j := 1) (by omega) (by omega)]
    unfold wordAt
    rw [Int.toNat_natCast, h.f1.2.2.2, show ((n : Int) % 8).toNat = n - 8 by omega, List.getD_eq_getElem?_getD, List.getD_eq_getElem?_getD, List.getElem?_append_right (by omega), ha]
theorem C3.step {N : Mv} {a b c : List Int} (h : C3 N a b c) (ha : a.length = 8) {n : Nat} (hn : n + 1 < 16) (rs : List Int) (xr : Int → Int → Int) : stepR N 0 (n : Int) rs xr = doR N 0 (n : Int) rs ((a ++ b).getD n 0) ((a ++ b).getD (n + 1) 0) xr := by
  unfold stepR
  rw [show (((0 : Nat) : Int) + 1) = 1 from rfl, show (n : Int) + 1 = ((n + 1 : Nat) : Int) by omega, h.code ha (by omega), h.code ha hn]
  rw [if_neg]
  rintro (q | q)
  · rcases Nat.lt_or_ge n 8 with p | p
    · rw [h.run (j := 0) (by omega) (by omega)] at q; omega
    · rw [h.run (j := 1) (by omega) (by omega)] at q; omega
  · rcases Nat.lt_or_ge (n + 1) 8 with p | p
    · rw [h.run (j := 0) (by omega) (by omega)] at q; omega
    · rw [h.run (j := 1) (by omega) (by omega)] at q; omega
theorem C3.nostep {N : Mv} {a b c : List Int} (h : C3 N a b c) {n : Int} (hn : 16 ≤ n) (rs : List Int) (xr : Int → Int → Int) : stepR N 0 n rs xr = ⟨N, n, rs, 3, 0⟩ := by
  unfold stepR
  rw [show (((0 : Nat) : Int) + 1) = 1 from rfl, if_pos]
  left
  rw [h.norun hn]; omega
/-- a word of the page of data -/
theorem C3.put {N : Mv} {a b c : List Int} (h : C3 N a b c) (n v : Int) : C3 (putWord N 2 n v) a b (c.set (n % 8).toNat v) := by
  have hl := h.len
  have hs : ∀ j, (putWord N 2 n v).frs.getD j default = if j = 2 then { N.frs.getD 2 default with ws := (N.frs.getD 2 default).ws.set (n % 8).toNat v } else N.frs.getD j default := fun j => by
    show (N.frs.set ((2 : Int)).toNat _).getD j default = _
    exact getD_set _ _ _ _ (by show 2 < N.frs.length; omega)
  refine ⟨by show (N.frs.set _ _).length = 24; simpa using hl, ?_, ?_, ?_, fun j h3 hj => ?_⟩
  · rw [hs, if_neg (by omega)]; exact h.f0
  · rw [hs, if_neg (by omega)]; exact h.f1
  · rw [hs, if_pos rfl]; exact ⟨h.f2.1, h.f2.2.1, h.f2.2.2.1, by show (N.frs.getD 2 default).ws.set _ v = _; rw [h.f2.2.2.2]⟩
  · rw [hs, if_neg (by omega)]; exact h.no j h3 hj
theorem planned_c3 {N : Mv} {ps : List Pg} (h : Planned newM N 0 0 ps) (hl : ps.length = 3) (h0 : (ps.getD 0 default).at_ = 0 ∧ (ps.getD 0 default).r = 4) (h1 : (ps.getD 1 default).at_ = 1 ∧ (ps.getD 1 default).r = 4) (h2 : (ps.getD 2 default).at_ = 2 ∧ (ps.getD 2 default).r = 3) : C3 N (ps.getD 0 default).ws (ps.getD 1 default).ws (ps.getD 2 default).ws := by
  have g := good_iff.1 h.good
  have i0 := h.inn 0 (by omega)
  have i1 := h.inn 1 (by omega)
  have i2 := h.inn 2 (by omega)
  rw [h0.1, h0.2] at i0
  rw [h1.1, h1.2] at i1
  rw [h2.1, h2.2] at i2
  refine ⟨g.s1, i0, i1, i2, fun j h3 hj => ?_⟩
  rw [h.out j hj (by omega)]
  show ((List.replicate 24 zeroFr).getD j default).o = 0
  rw [rep_getD _ _ _ hj]; rfl

/-- the programs that touch what they must not: n is the number that each of them is told -/
def oddW (which n : Int) : List Int :=
  if which = 0 then [17, 0, 261, 0] else if which = 1 then [17, 0, 262, 0] else if which = 2 then [17, 24 + pick n 40, 261, 0] else if which = 3 then [17, 256 + pick n 1000, 262, 0] else if which = 4 then [17, 64 + pick n 24, 261, 0] else if which = 5 then [10 + pick n 6, 0] else [1, 0, 7, 16 + pick n 100]
def oddC (which n : Int) : List Int := oddW which n ++ List.replicate 16 0
/-- WHO TOUCHES WHAT IT MUST NOT IS BROKEN -/
theorem faulty {N : Mv} {which n : Int} (hw : 0 ≤ which ∧ which < 7) (h : C3 N ((oddC which n).take 8) (((oddC which n).drop 8).take 8) [0, 0, 0, 0, 0, 0, 0, 0]) : (runR 100 N 0 0 [1, 0, 0, 0] xorR).nd = 3 := by
  have p40 := pick_lt n (show (0 : Int) < 40 by decide)
  have p1000 := pick_lt n (show (0 : Int) < 1000 by decide)
  have p24 := pick_lt n (show (0 : Int) < 24 by decide)
  have p6 := pick_lt n (show (0 : Int) < 6 by decide)
  have p100 := pick_lt n (show (0 : Int) < 100 by decide)
  have hc : which = 0 ∨ which = 1 ∨ which = 2 ∨ which = 3 ∨ which = 4 ∨ which = 5 ∨ which = 6 := by omega
  rcases hc with rfl | rfl | rfl | rfl | rfl | rfl | rfl
  · have s1 : stepR N 0 0 [1, 0, 0, 0] xorR = ⟨N, 2, [1, 0, 0, 0], 0, 0⟩ := h.step rfl (n := 0) (by omega) _ _
    have s2 : stepR N 0 2 [1, 0, 0, 0] xorR = ⟨N, 4, [1, 0, 0, 0], 3, 0⟩ := by
      refine (h.step rfl (n := 2) (by omega) _ _).trans ?_
      show (if frmF N.frs 1 0 1 < 0 then (⟨N, 4, [1, 0, 0, 0], 3, 0⟩ : Rn) else _) = _
      rw [if_pos (by rw [h.nodata (by omega) (by omega) (.inl rfl)]; omega)]
    rw [runR_more (by rw [s1]), s1]; dsimp only
    rw [runR_stop (by rw [s2]; exact (by decide : ¬ (3 : Int) = 0)), s2]
  · have s1 : stepR N 0 0 [1, 0, 0, 0] xorR = ⟨N, 2, [1, 0, 0, 0], 0, 0⟩ := h.step rfl (n := 0) (by omega) _ _
    have s2 : stepR N 0 2 [1, 0, 0, 0] xorR = ⟨N, 4, [1, 0, 0, 0], 3, 0⟩ := by
      refine (h.step rfl (n := 2) (by omega) _ _).trans ?_
      show (if frmF N.frs 1 0 2 < 0 then (⟨N, 4, [1, 0, 0, 0], 3, 0⟩ : Rn) else _) = _
      rw [if_pos (by rw [h.nodata (by omega) (by omega) (.inr rfl)]; omega)]
    rw [runR_more (by rw [s1]), s1]; dsimp only
    rw [runR_stop (by rw [s2]; exact (by decide : ¬ (3 : Int) = 0)), s2]
  · generalize hz : 24 + pick n 40 = z at *
    have s1 : stepR N 0 0 [1, 0, 0, 0] xorR = ⟨N, 2, [1, z, 0, 0], 0, 0⟩ := by
      have := h.step rfl (n := 0) (by omega) [1, 0, 0, 0] xorR
      rw [← hz]; exact this
    have s2 : stepR N 0 2 [1, z, 0, 0] xorR = ⟨N, 4, [1, z, 0, 0], 3, 0⟩ := by
      refine (h.step rfl (n := 2) (by omega) _ _).trans ?_
      show (if frmF N.frs 1 z 1 < 0 then (⟨N, 4, [1, z, 0, 0], 3, 0⟩ : Rn) else _) = _
      rw [if_pos (by rw [h.nodata (by omega) (by omega) (.inl rfl)]; omega)]
    rw [runR_more (by rw [s1]), s1]; dsimp only
    rw [runR_stop (by rw [s2]; exact (by decide : ¬ (3 : Int) = 0)), s2]
  · generalize hz : 256 + pick n 1000 = z at *
    have s1 : stepR N 0 0 [1, 0, 0, 0] xorR = ⟨N, 2, [1, z, 0, 0], 0, 0⟩ := by
      have := h.step rfl (n := 0) (by omega) [1, 0, 0, 0] xorR
      rw [← hz]; exact this
    have s2 : stepR N 0 2 [1, z, 0, 0] xorR = ⟨N, 4, [1, z, 0, 0], 3, 0⟩ := by
      refine (h.step rfl (n := 2) (by omega) _ _).trans ?_
      show (if frmF N.frs 1 z 2 < 0 then (⟨N, 4, [1, z, 0, 0], 3, 0⟩ : Rn) else _) = _
      rw [if_pos (by rw [h.far (by omega) (.inr rfl)]; omega)]
    rw [runR_more (by rw [s1]), s1]; dsimp only
    rw [runR_stop (by rw [s2]; exact (by decide : ¬ (3 : Int) = 0)), s2]
  · generalize hz : 64 + pick n 24 = z at *
    have s1 : stepR N 0 0 [1, 0, 0, 0] xorR = ⟨N, 2, [1, z, 0, 0], 0, 0⟩ := by
      have := h.step rfl (n := 0) (by omega) [1, 0, 0, 0] xorR
      rw [← hz]; exact this
    have s2 : stepR N 0 2 [1, z, 0, 0] xorR = ⟨N, 4, [1, z, 0, 0], 3, 0⟩ := by
      refine (h.step rfl (n := 2) (by omega) _ _).trans ?_
      show (if frmF N.frs 1 z 1 < 0 then (⟨N, 4, [1, z, 0, 0], 3, 0⟩ : Rn) else _) = _
      rw [if_pos (by rw [h.far (by omega) (.inl rfl)]; omega)]
    rw [runR_more (by rw [s1]), s1]; dsimp only
    rw [runR_stop (by rw [s2]; exact (by decide : ¬ (3 : Int) = 0)), s2]
  · have s1 : stepR N 0 0 [1, 0, 0, 0] xorR = ⟨N, 2, [1, 0, 0, 0], 3, 0⟩ := by
      refine (h.step rfl (n := 0) (by omega) _ _).trans ?_
      show doR N 0 0 [1, 0, 0, 0] (10 + pick n 6) 0 xorR = _
      have k : kindR (10 + pick n 6) = 10 + pick n 6 := by unfold kindR; omega
      unfold doR
      rw [k, if_neg (by omega), if_neg (by omega), if_neg (by omega), if_neg (by omega), if_neg (by omega), if_neg (by omega), if_neg (by omega), if_neg (by omega), if_neg (by omega)]
      rfl
    rw [runR_stop (by rw [s1]; exact (by decide : ¬ (3 : Int) = 0)), s1]
  · generalize hz : 16 + pick n 100 = z at *
    have s1 : stepR N 0 0 [1, 0, 0, 0] xorR = ⟨N, 2, [0, 0, 0, 0], 0, 0⟩ := h.step rfl (n := 0) (by omega) _ _
    have s2 : stepR N 0 2 [0, 0, 0, 0] xorR = ⟨N, z, [0, 0, 0, 0], 0, 0⟩ := by
      have := h.step rfl (n := 2) (by omega) [0, 0, 0, 0] xorR
      rw [← hz]; exact this
    have s3 := h.nostep (n := z) (by omega) [0, 0, 0, 0] xorR
    rw [runR_more (by rw [s1]), s1]; dsimp only
    rw [runR_more (by rw [s2]), s2]; dsimp only
    rw [runR_stop (by rw [s3]; exact (by decide : ¬ (3 : Int) = 0)), s3]

end Go.Proofs.YtdngbojbpmdegaaGreatDoor

namespace Go.Proofs.YtdngbojbpmdegaaGreatDoor
open Go.RowKit
set_option linter.unusedVariables false
section
variable {P : Program} {ops : Array Oper} {Q : Exit → Act → World → Prop} {md : Region.Mode}

variable {i1 i2 : Nat} {d1 d2 : Tmp} {o1 o2 : Obj} {N last : Nat} {E : List Nat}

theorem alloc_old {wt : World} {g : Nat} {o : Obj} (ob : Obj) (h : wt.heap[g]? = some o) : (wt.alloc ob).heap[g]? = some o :=
  (((Below.refl wt.heap.size wt).alloc (Nat.le_refl _) ob).block g (Array.getElem?_eq_some_iff.1 h).1).trans h
end
end Go.Proofs.YtdngbojbpmdegaaGreatDoor
