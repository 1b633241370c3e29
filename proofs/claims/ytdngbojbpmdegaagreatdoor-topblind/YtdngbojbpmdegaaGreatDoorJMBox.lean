/-
  What the call started (riddletop) answers: an image that may be, a machine with that image as its first enclave, and true: it is never refused. The conditions: the raw things are within the reach of the form; the library's tables are laid. Who owns the machine sees the same, whatever is in enclaves (own work): two machines that differ in the words of pages that are enclaves' alone answer each act alike, and differ no more behind it. No condition but that both may be. A variable that holds a machine of its own in memory, and one that holds an outcome (own work): what a store into them makes of them. No condition beside the cells.
-/
import Derived.Test.YtdngbojbpmdegaaGreatDoorJImageMath
import Derived.Test.YtdngbojbpmdegaaGreatDoorImgWalk
import Derived.Test.YtdngbojbpmdegaaGreatDoorJPlan
import Derived.Deep.RegionHeld3
import Derived.Deep.DeepCutAuto
import Derived.BigQuiet
import Derived.Test.YtdngbojbpmdegaaGreatDoorJTopLog
import Derived.Test.YtdngbojbpmdegaaGreatDoorJHostRan
import Derived.Test.YtdngbojbpmdegaaGreatDoorRunResume
namespace Go.Proofs.YtdngbojbpmdegaaGreatDoor
open Go.RowKit
set_option maxRecDepth 100000
set_option linter.unusedVariables false

/-- a block without a number is none of the pages' -/
theorem ints_far {w w' : World} {G : Nat} {a : Option Addr} {xs : List Int} (h : Ints w a xs) (hG : ∀ o n, w.cell? ⟨G, o, none⟩ ≠ some (.int .i64 n)) (hw : ∀ c, c ≠ G → w'.heap[c]? = w.heap[c]?) : Ints w' a xs := by
  rcases h with h | ⟨b, off, h1, h2⟩
  · exact .inl h
  · by_cases e : xs = []
    · exact .inl e
    · have h0 : 0 < xs.length := List.length_pos_iff.2 e
      have hb : b ≠ G := fun q => hG _ _ (q ▸ h2 0 h0)
      exact .inr ⟨b, off, h1, fun j hj => (World.cell?_of_block (hw b hb)).trans (h2 j hj)⟩
theorem pages_far {w w' : World} {G : Nat} {a : Option Addr} {ps : List Pg} (h : PagesAt w a ps) (hG : ∀ o n, w.cell? ⟨G, o, none⟩ ≠ some (.int .i64 n)) (hw : ∀ c, c ≠ G → w'.heap[c]? = w.heap[c]?) : PagesAt w' a ps := by
  refine ⟨?_, fun j hj => by
    obtain ⟨o1, o2, o3, o4, o5⟩ := h.ok j hj
    exact ⟨o1, o2, o3, ints_far o4 hG hw, o5⟩⟩
  rcases h.at_ with h1 | ⟨b, off, h1, h2⟩
  · exact .inl h1
  · by_cases e : ps = []
    · exact .inl e
    · have h0 : 0 < ps.length := List.length_pos_iff.2 e
      have hb : b ≠ G := fun q => hG _ _ (q ▸ (h2 0 h0).1)
      refine .inr ⟨b, off, h1, fun j hj => ?_⟩
      obtain ⟨c0, c1, c2⟩ := h2 j hj
      exact ⟨(World.cell?_of_block (hw b hb)).trans c0, (World.cell?_of_block (hw b hb)).trans c1, (World.cell?_of_block (hw b hb)).trans c2⟩
theorem no_ints {w : World} {G : Nat} {t : TypeId} {fr : Nat × Nat} (h : w.heap[G]? = some (.cells #[.slice none 0 0, .slice none 0 0, .slice none 0 0] t fr)) (o : Nat) (n : Int) : w.cell? ⟨G, o, none⟩ ≠ some (.int .i64 n) := by
  intro q
  simp only [World.cell?, h] at q
  match o with
  | 0 => simp at q
  | 1 => simp at q
  | 2 => simp at q
  | o + 3 => simp at q
/-- what started answers -/
def StartSaid (f : Int) (w : World) (y : Ending) (w' : World) : Prop := ∃ a ps cap M N, y = .returned (.tuple #[.slice a ps.length cap, M.val, .bool true]) ∧ PagesAt w' a ps ∧ imageF ps = 0 ∧ 4 ≤ ps.length ∧ M.Same N ∧ Planned newM N 0 (pick f (24 - ps.length + 1)).toNat ps ∧ Told N ∧ Owned w.heap.size w' M ∧ Below w.heap.size w w'
theorem outer_plan {ps : List Pg} {e f : Int} : ∀ x ∈ planL ps e f, x.outer := by
  intro x hx
  unfold planL at hx
  simp only [List.mem_append, List.mem_cons, List.not_mem_nil, or_false] at hx
  rcases hx with ((hx | rfl) | hx) | rfl
  · unfold pokeK at hx
    obtain ⟨i, _, hx⟩ := List.mem_flatMap.1 hx
    unfold pokeP at hx
    obtain ⟨j, _, rfl⟩ := List.mem_map.1 hx
    exact ⟨(by decide : ¬ (7 : Int) = 8), (by decide : ¬ (7 : Int) = 9)⟩
  · exact ⟨(by decide : ¬ (1 : Int) = 8), (by decide : ¬ (1 : Int) = 9)⟩
  · unfold putK at hx
    obtain ⟨i, _, hx⟩ := List.mem_flatMap.1 hx
    simp only [List.mem_cons, List.not_mem_nil, or_false] at hx
    rcases hx with rfl | rfl
    · exact ⟨(by decide : ¬ (2 : Int) = 8), (by decide : ¬ (2 : Int) = 9)⟩
    · exact ⟨(by decide : ¬ (3 : Int) = 8), (by decide : ¬ (3 : Int) = 9)⟩
  · exact ⟨(by decide : ¬ (4 : Int) = 8), (by decide : ¬ (4 : Int) = 9)⟩
/-- an image that is built on a new machine -/
theorem new_planned {ps : List Pg} (hi : imageF ps = 0) {f0 : Nat} (hf : f0 + ps.length ≤ 24) : ∃ N, Planned newM N 0 f0 ps ∧ Steps newM (planL ps 1 f0) N ∧ Told N := by
  obtain ⟨N, h1, h2⟩ := plan_steps (M := newM) new_good (m := 0) (by omega) (by unfold creI newM; rfl) hi hf (fun j hj => by
    show ((List.replicate 24 zeroFr).getD (f0 + j) default).o = 0
    rw [rep_getD _ _ _ (by omega)]; rfl)
  have h2' : Steps newM (planL ps 1 f0) N := h2
  refine ⟨N, h1, h2', ?_⟩
  have := told_hst (planL ps 1 f0) ⟨newM, noC⟩ new_good told_new (fun x hx => outer_plan x hx)
  rw [(h2' noC).1] at this
  exact this

set_option maxHeartbeats 8000000 in
theorem started_ok (a : Option Addr) (rs : List Rw) (cap : Nat) (R : Rw) (f : Int) (w : World) (hl : rs.length ≤ maxLen) (hx : RawsAt w a rs) (hR : R.Ok) (wf : (Lit.int .i64 f).wf = true) (ht : Tab w) :
    Calls Tryz.prog 32 #[.slice a rs.length cap, R.val, .int .i64 f] w (StartSaid f w) := by
  unfold StartSaid
  have hI := fun w' (hb : Below w.heap.size w w') => image_any a rs cap R w' hl (hx.below hb) hR
  obtain ⟨rk, ra, rb, rc⟩ := R
  unfold Rw.val at hI ⊢
  dsimp only at hI ⊢
  obtain ⟨W2, hW2⟩ : ∃ W2, Hid (W2 = (w.alloc (.cells #[.int .i64 rk, .int .i64 ra, .int .i64 rb, .int .i64 rc] 61)).alloc (.cells #[.slice none 0 0, .slice none 0 0, .slice none 0 0] 29)) := ⟨_, rfl⟩
  have B2 : Hid (Below w.heap.size w W2) := show Below _ _ _ by rw [hW2.out]; exact ((Below.refl _ _).alloc (Nat.le_refl _) _).alloc (by simp) _
  have hI2 := hI W2 B2.out
  have r0 : Hid (W2.cell? ⟨w.heap.size, 0, none⟩ = some (.int .i64 rk)) := show _ = _ by rw [hW2.out, World.cell?_alloc_past _ _ _ (by simp), World.cell?_alloc_at _ _ _ _ rfl]; rfl
  have r1 : Hid (W2.cell? ⟨w.heap.size, 1, none⟩ = some (.int .i64 ra)) := show _ = _ by rw [hW2.out, World.cell?_alloc_past _ _ _ (by simp), World.cell?_alloc_at _ _ _ _ rfl]; rfl
  have r2 : Hid (W2.cell? ⟨w.heap.size, 2, none⟩ = some (.int .i64 rb)) := show _ = _ by rw [hW2.out, World.cell?_alloc_past _ _ _ (by simp), World.cell?_alloc_at _ _ _ _ rfl]; rfl
  have r3 : Hid (W2.cell? ⟨w.heap.size, 3, none⟩ = some (.int .i64 rc)) := show _ = _ by rw [hW2.out, World.cell?_alloc_past _ _ _ (by simp), World.cell?_alloc_at _ _ _ _ rfl]; rfl
  have q2 : Hid (W2.heap[w.heap.size + 1]? = some (.cells #[.slice none 0 0, .slice none 0 0, .slice none 0 0] 29 (0, 0))) := show _ = _ by
    rw [hW2.out]
    have := Go.Deep.blk_alloc_new (w.alloc (.cells #[.int .i64 rk, .int .i64 ra, .int .i64 rb, .int .i64 rc] 61)) (.cells #[.slice none 0 0, .slice none 0 0, .slice none 0 0] 29)
    rw [World.size_alloc] at this
    exact this
  have hz2 : Hid (W2.heap.size = w.heap.size + 2) := show _ = _ by rw [hW2.out, World.size_alloc, World.size_alloc]
  have HT : Hid (Tab w) := ht
  clear hI hx hR ht
  go_enter Tryz.func32, Tryz.ntmps32
  go_upto_region 1 with fail
  rw [← hW2.out]
  have s0 := r0.out
  have s1 := r1.out
  have s2 := r2.out
  have s3 := r3.out
  have lt0 : w.heap.size < W2.heap.size := by have := hz2.out; omega
  clear hW2
  go_upto_region 2 with (go_at_call 25; refine hI2.mono ?_; clear hI2; rintro e w1 ⟨b, ps, c, rfl, hpa, hif, h4, hb1⟩)
  have h8 := image_len hif
  have HPA : Hid (_) := hpa
  have HIF : Hid (_) := hif
  have HB1 : Hid (_) := hb1
  have hw1 : IntKind.i64.wrap (24 - (ps.length : Int)) = 24 - (ps.length : Int) := by rw [IntKind.wrap_i64]; omega
  have hw2 : IntKind.i64.wrap (24 - (ps.length : Int) + 1) = 24 - (ps.length : Int) + 1 := by rw [IntKind.wrap_i64]; omega
  have hpk := pick_lt f (many := 24 - (ps.length : Int) + 1) (by omega)
  have hP := fun w' => Picked_any f (24 - (ps.length : Int) + 1) w' wf (by omega) (by omega)
  obtain ⟨f0, hf0⟩ : ∃ f0 : Nat, pick f (24 - (ps.length : Int) + 1) = (f0 : Int) := ⟨(pick f (24 - (ps.length : Int) + 1)).toNat, by omega⟩
  rw [hf0] at hP hpk
  have HF0 : Hid (_) := hf0
  have hpl := plan_good b ps c 1 f0 w1 (by unfold maxLen; omega) hpa (by unfold planE; rw [if_pos hif, if_pos]; rw [Bool.and_eq_true]; exact ⟨by decide, inB_iff.2 ⟨by omega, by omega⟩⟩)
  clear hf0 hpa hif hb1 s0 s1 s2 s3
  go_upto_region 3 with (first | (go_at_call 35; refine (hP _).mono ?_; rintro e w' ⟨rfl, rfl⟩) | (go_at_call 24; refine hpl.mono ?_; clear hpl; rintro e w2 ⟨v, rfl, hown, hb2⟩))
  obtain ⟨la, lc, rfl, hrow⟩ := acts_row hown
  have hll := plan_len HIF.out 1 (f0 : Int)
  have hlen : (planL ps 1 (f0 : Int)).length ≤ 200 := by omega
  have s12 : Hid (Below W2.heap.size W2 w2) := show Below _ _ _ from HB1.out.trans (hb2.mono HB1.out.size)
  have hrun := runH_any none [] 0 la (planL ps 1 (f0 : Int)) lc w2 (.inl rfl) ⟨by simp [maxLen], fun s hs => by simp at hs, by simp, fun x hx => by simp at hx⟩ hrow (by unfold maxLen; omega) (plan_ok HIF.out ⟨by omega, by omega⟩ ⟨by omega, by omega⟩) (HT.out.below (B2.out.trans (s12.out.mono B2.out.size)))
  have hR0 := runF_nil hlen
  unfold HostSaid at hrun
  rw [hR0, if_pos rfl, if_pos rfl, if_pos rfl] at hrun
  obtain ⟨N, hPN, hSN, hTN⟩ := new_planned HIF.out (f0 := f0) (by omega)
  have hst := hSN ⟨none, [], 0, none, [], 0⟩
  have e0 : hs0 [] = ⟨newM, ⟨none, [], 0, none, [], 0⟩⟩ := rfl
  rw [e0, hst.1] at hrun
  obtain ⟨xs, hxs⟩ : ∃ xs, xs = hans ⟨newM, ⟨none, [], 0, none, [], 0⟩⟩ (planL ps 1 (f0 : Int)) := ⟨_, rfl⟩
  have hxl : xs.length ≤ 200 := by rw [hxs, hans_len]; exact hlen
  have hxe : (xs.any fun x => x.1 != 0) = false := by
    rw [List.any_eq_false]
    intro x hx
    rw [hxs] at hx
    simp [hst.2 x hx]
  rw [← hxs] at hrun
  have HN : Hid (_) := And.intro hPN hTN
  clear hst hSN hPN hTN hxs e0 hR0 hown hrow
  generalize (planL ps 1 (f0 : Int)).length = nl at *
  have HS12 : Hid (_) := s12
  have HHT : Hid (Below w2.heap.size w2 w2) := Below.refl _ _
  go_upto_region 4 with (go_at_call 13; refine hrun.mono ?_; clear hrun; rintro y w3 ⟨aa, acap, zs, M, C, rfl, hzr, rfl, hMs, hCs, hO, hCO, hb3⟩; unfold Mv.val Cv.val)
  obtain ⟨fa, frs, fcap, ea, ens, ecap, qa, qus, qcap⟩ := M
  obtain ⟨ta, tr, tcap, na, ns, ncap⟩ := C
  dsimp only at hMs hCs hO hCO ⊢
  have hg := good_iff.1 HN.out.1.good
  have h24 : frs.length = 24 := hMs.len.trans hg.s1
  have h4e : ens.length = 4 := (congrArg List.length hMs.en).trans hg.s2
  have H24 : Hid (_) := And.intro h24 h4e
  rw [h24, h4e]
  obtain ⟨W4, hW4⟩ : ∃ W4, Hid (W4 = (w3.alloc (.cells #[.slice fa 24 fcap, .slice ea 4 ecap, .slice qa qus.length qcap] 29)).alloc (.cells #[.slice ta tr.length tcap, .slice na ns.length ncap] 32)) := ⟨_, rfl⟩
  obtain ⟨P, hP⟩ : ∃ P, Hid (P = w3.heap.size) := ⟨_, rfl⟩
  have c0 : W4.cell? ⟨P, 0, none⟩ = some (.slice fa 24 fcap) := by rw [hW4.out, hP.out, World.cell?_alloc_past _ _ _ (by simp), World.cell?_alloc_at _ _ _ _ rfl]; rfl
  have c1 : W4.cell? ⟨P, 1, none⟩ = some (.slice ea 4 ecap) := by rw [hW4.out, hP.out, World.cell?_alloc_past _ _ _ (by simp), World.cell?_alloc_at _ _ _ _ rfl]; rfl
  have c2 : W4.cell? ⟨P, 2, none⟩ = some (.slice qa qus.length qcap) := by rw [hW4.out, hP.out, World.cell?_alloc_past _ _ _ (by simp), World.cell?_alloc_at _ _ _ _ rfl]; rfl
  have B34 : Hid (Below w3.heap.size w3 W4) := show Below _ _ _ by rw [hW4.out]; exact ((Below.refl _ _).alloc (Nat.le_refl _) _).alloc (by simp) _
  have B24 : Hid (Below W2.heap.size W2 W4) := show Below _ _ _ from (HS12.out.trans (hb3.mono HS12.out.size)).trans (B34.out.mono (Nat.le_trans HS12.out.size hb3.size))
  have B14 : Hid (Below w1.heap.size w1 W4) := show Below _ _ _ from (hb2.trans (hb3.mono hb2.size)).trans (B34.out.mono (Nat.le_trans hb2.size hb3.size))
  have BW4 : Hid (Below w.heap.size w W4) := show Below _ _ _ from B2.out.trans (B24.out.mono B2.out.size)
  have k7 : Hid (W4.heap[w.heap.size + 1]? = some (.cells #[.slice none 0 0, .slice none 0 0, .slice none 0 0] 29 (0, 0))) := show _ = _ from (B24.out.block _ (by have := hz2.out; omega)).trans q2.out
  have HO4 : Hid (Owned w2.heap.size W4 ⟨fa, frs, fcap, ea, ens, ecap, qa, qus, qcap⟩) := hO.below B34.out
  have HG2 : Hid (w.heap.size + 1 < w2.heap.size) := show _ < _ by have := hz2.out; have := HS12.out.size; omega
  have HX4 := fun w' (hb : Below W4.heap.size W4 w') => sta1_errs aa zs acap w' (by unfold maxLen; omega) (RowsAt.below (cells := anCells) (fun _ => rfl) (RowsAt.below (cells := anCells) (fun _ => rfl) hzr B34.out) hb)
  rw [hxe] at HX4
  have HX : Hid (_) := HX4
  have HMS : Hid (_) := hMs
  have ltP : P < W4.heap.size := lt_of_cell c0
  have lt7 : w.heap.size + 1 < W4.heap.size := by have := hz2.out; have := B24.out.size; omega
  have a0 : W4.cell? ⟨w.heap.size + 1, 0, none⟩ = some (.slice none 0 0) := by simp [World.cell?, k7.out]
  have a1 : W4.cell? ⟨w.heap.size + 1, 1, none⟩ = some (.slice none 0 0) := by simp [World.cell?, k7.out]
  have a2 : W4.cell? ⟨w.heap.size + 1, 2, none⟩ = some (.slice none 0 0) := by simp [World.cell?, k7.out]
  have zf : ∀ o, W4.frozen? ⟨w.heap.size + 1, o, none⟩ = false := fun o => by simp [World.frozen?, k7.out]
  have z0 := zf 0; have z1 := zf 1; have z2 := zf 2
  have hne : ¬ w.heap.size + 1 = P := by rw [hP.out]; have := hz2.out; have := HS12.out.size; have := hb3.size; omega
  have hne' : ¬ P = w.heap.size + 1 := fun e => hne e.symm
  rw [← hW4.out, ← hP.out]
  clear hW4 hP hO hCO hzr hb3 hMs hCs HX4 hg h24 h4e zf hb2 s12
  have A7 : Hid (_) := And.intro a0 (And.intro a1 a2)
  have Z7 : Hid (_) := And.intro z0 (And.intro z1 z2)
  have C7 : Hid (_) := And.intro c0 (And.intro c1 c2)
  have L7 : Hid (_) := And.intro ltP lt7
  go_region_held3 (fun w' => w'.cell? ⟨P, 0, none⟩ = some (.slice fa 24 fcap) ∧ w'.cell? ⟨P, 1, none⟩ = some (.slice ea 4 ecap) ∧ w'.cell? ⟨P, 2, none⟩ = some (.slice qa qus.length qcap)) (first | (with_reducible exact ⟨c0, c1, c2⟩) | (with_reducible exact ⟨d0, d1, d2⟩) | go_keep)
    (first
    | (go_at_call 86; refine (HX.out _ (by repeat (first | (with_reducible exact Below.refl _ _) | (with_reducible refine Below.drew ?_)))).mono ?_; rintro y w5 ⟨rfl, hb5⟩; have HB5 : Hid (Below W4.heap.size W4 w5) := (show Below _ _ _ from (Below.refl W4.heap.size W4).drew.trans hb5); have d0 := (hb5.cell (p := ⟨P, 0, none⟩) L7.out.1).trans C7.out.1; have d1 := (hb5.cell (p := ⟨P, 1, none⟩) L7.out.1).trans C7.out.2.1; have d2 := (hb5.cell (p := ⟨P, 2, none⟩) L7.out.1).trans C7.out.2.2; have y0 := (hb5.cell (p := ⟨w.heap.size + 1, 0, none⟩) L7.out.2).trans A7.out.1; have y1 := (hb5.cell (p := ⟨w.heap.size + 1, 1, none⟩) L7.out.2).trans A7.out.2.1; have y2 := (hb5.cell (p := ⟨w.heap.size + 1, 2, none⟩) L7.out.2).trans A7.out.2.2; have x0 := (hb5.frozen (p := ⟨w.heap.size + 1, 0, none⟩) L7.out.2).trans Z7.out.1; have x1 := (hb5.frozen (p := ⟨w.heap.size + 1, 1, none⟩) L7.out.2).trans Z7.out.2.1; have x2 := (hb5.frozen (p := ⟨w.heap.size + 1, 2, none⟩) L7.out.2).trans Z7.out.2.2; have l5 := Nat.lt_of_lt_of_le L7.out.1 hb5.size; have l6 := Nat.lt_of_lt_of_le L7.out.2 hb5.size; clear hb5)
    | fail)
  all_goals
    go_wp2
    refine bp_genR fun V9 hV9 => ?_
    obtain ⟨k0, k1, k2⟩ := blk3' (b := w.heap.size + 1) (v0 := .slice fa 24 fcap) (v1 := .slice ea 4 ecap) (v2 := .slice qa qus.length qcap) y0 y1 y2
    rw [← hV9] at k0 k1 k2
    have hh : ∀ c, c ≠ w.heap.size + 1 → V9.heap[c]? = w5.heap[c]? := fun c hc => by rw [hV9]; exact blk3_heap' c hc
    have hs9 : V9.heap.size = w5.heap.size := by rw [hV9]; simp [World.setCell]
    have B9 : Below w.heap.size w V9 := by rw [hV9]; exact blk3_below' (BW4.out.trans (HB5.out.mono BW4.out.size)) (by omega)
    have PW5 : PagesAt w5 b ps := (HPA.out.below B14.out).below HB5.out
    have P9 : PagesAt V9 b ps := pages_far PW5 (no_ints ((HB5.out.block _ lt7).trans k7.out)) hh
    have O9 : Owned w2.heap.size V9 ⟨fa, frs, fcap, ea, ens, ecap, qa, qus, qcap⟩ := (HO4.out.below HB5.out).keep (fun c hc _ => hh c (by have := HG2.out; omega)) (by omega)
    clear hV9
    (try simp only [Exit.inBlock, Exit.then])
    refine bodyPost_ret (by simp [results, Tryz.results32, go_sem, k0, k1, k2]; try rfl) rfl ?_
    refine ⟨b, ps, c, ⟨fa, frs, fcap, ea, ens, ecap, qa, qus, qcap⟩, N, ?_, P9, HIF.out, h4, HMS.out, ?_, HN.out.2, O9.mono (by have := HG2.out; omega), B9⟩
    · unfold Mv.val; dsimp only; rw [H24.out.1, H24.out.2]
    · rw [HF0.out, Int.toNat_natCast]; exact HN.out.1

end Go.Proofs.YtdngbojbpmdegaaGreatDoor

namespace Go.Proofs.YtdngbojbpmdegaaGreatDoor
open Go.RowKit

/-- the same but for the words of pages that are somebody's -/
structure Blind (M N : Mv) : Prop where
  len : N.frs.length = M.frs.length
  ens : N.ens = M.ens
  own : ∀ j, (N.frs.getD j default).o = (M.frs.getD j default).o ∧ (N.frs.getD j default).at_ = (M.frs.getD j default).at_ ∧ (N.frs.getD j default).r = (M.frs.getD j default).r
  ws : ∀ j, (M.frs.getD j default).o = 0 → (N.frs.getD j default).ws = (M.frs.getD j default).ws
theorem Blind.place {M N : Mv} (h : Blind M N) (e a : Int) : placeOf N.frs e a = placeOf M.frs e a := by
  have e1 : N.frs.map (fun f => (f.o, f.at_)) = M.frs.map (fun f => (f.o, f.at_)) := by
    apply List.ext_getElem (by simpa using h.len)
    intro j h1 h2
    have h3 : j < N.frs.length := by simpa using h1
    have h4 : j < M.frs.length := by simpa using h2
    obtain ⟨a, b, _⟩ := h.own j
    simp only [List.getD_eq_getElem?_getD, List.getElem?_eq_getElem h3, List.getElem?_eq_getElem h4, Option.getD_some] at a b
    simp [a, b]
  have e2 : ∀ (l : List Fr), l.findIdx? (plB e a) = (l.map (fun f => (f.o, f.at_))).findIdx? (fun q => decide (0 < e) && (q.1 == e) && (q.2 == a)) := fun l => by
    rw [List.findIdx?_map]; rfl
  unfold placeOf idxOf
  rw [e2, e2, e1]
theorem Blind.ask {M N : Mv} (h : Blind M N) (hz : machF M = 0) (hy : machF N = 0) (e s : Int) : askF N e s = askF M e s := by unfold askF; rw [hz, hy, h.ens]
theorem Blind.word {M N : Mv} (hz : machF M = 0) (hy : machF N = 0) (f a : Int) : wordF N f a = wordF M f a := by unfold wordF; rw [hz, hy]
/-- what an act of who owns the machine answers: the machine, a number, an error -/
def outM (M : Mv) (x : Ac) : Mv := if x.k = 1 then creM M else if x.k = 2 then putM M x.e x.f x.at_ x.r else if x.k = 4 then startM M x.e else if x.k = 5 then remM M x.e else if x.k = 6 then M else pokeM M x.f x.at_ x.n
def outN (M : Mv) (x : Ac) : Int := if x.k = 1 then creN M else if x.k = 6 then peekN M x.f x.at_ else 0
def outE (M : Mv) (x : Ac) : Int := if x.k = 1 then creF M else if x.k = 2 then putF M x.e x.f x.at_ x.r else if x.k = 4 then askF M x.e 1 else if x.k = 5 then askF M x.e (-1) else if x.k = 6 then wordF M x.f x.at_ else pokeF M x.f x.at_ x.n
theorem out_good {M : Mv} (hz : machF M = 0) {x : Ac} (h : outE M x = 0) : machF (outM M x) = 0 := by
  unfold outE at h
  unfold outM
  split at h
  · rename_i c; rw [if_pos c]; exact create_good h
  · rename_i c; rw [if_neg c]
    split at h
    · rename_i c; rw [if_pos c]; exact put_good h
    · rename_i c; rw [if_neg c]
      split at h
      · rename_i c; rw [if_pos c]; exact start_good h
      · rename_i c; rw [if_neg c]
        split at h
        · rename_i c; rw [if_pos c]; exact remove_good h
        · rename_i c; rw [if_neg c]
          split at h
          · rename_i c; rw [if_pos c]; exact hz
          · rename_i c; rw [if_neg c]; exact poke_good h
theorem blind_code {M N : Mv} (h : Blind M N) (hz : machF M = 0) (hy : machF N = 0) (x : Ac) : outE N x = outE M x ∧ outN N x = outN M x := by
  have h1 : creI N = creI M := by unfold creI; rw [h.ens]
  have h2 : creF N = creF M := by unfold creF; rw [hz, hy, h1]
  have h3 : creN N = creN M := by unfold creN; rw [h2, h1]
  have h4 : wordF N x.f x.at_ = wordF M x.f x.at_ := Blind.word hz hy _ _
  have h5 : logF N = logF M := by funext m s; unfold logF; rw [h.ens]
  refine ⟨?_, ?_⟩
  · unfold outE putF pokeF
    rw [h2, h.ask hz hy, h.ask hz hy, h4, (h.own _).1, h.place, h5]
  · unfold outN peekN
    rw [h3, h4, (h.own _).1]
    split
    · rfl
    · split
      · split
        · split
          · rename_i q; rw [h.ws _ q]
          · rfl
        · rfl
      · rfl
theorem Blind.set {M N : Mv} (h : Blind M N) (k : Nat) {f g : Fr} (h1 : g.o = f.o) (h2 : g.at_ = f.at_) (h3 : g.r = f.r) (h4 : f.o = 0 → g.ws = f.ws) {E : List En} : Blind { M with frs := M.frs.set k f, ens := E } { N with frs := N.frs.set k g, ens := E } := by
  refine ⟨by simpa using h.len, rfl, fun j => ?_, fun j q => ?_⟩
  · show ((N.frs.set k g).getD j default).o = ((M.frs.set k f).getD j default).o ∧ ((N.frs.set k g).getD j default).at_ = ((M.frs.set k f).getD j default).at_ ∧ ((N.frs.set k g).getD j default).r = ((M.frs.set k f).getD j default).r
    rw [getD_set_any, getD_set_any, h.len]
    split
    · exact ⟨h1, h2, h3⟩
    · exact h.own j
  · show ((N.frs.set k g).getD j default).ws = ((M.frs.set k f).getD j default).ws
    have q' : ((M.frs.set k f).getD j default).o = 0 := q
    rw [getD_set_any] at q' ⊢
    rw [getD_set_any, h.len]
    split
    · rename_i c; rw [if_pos c] at q'; exact h4 q'
    · rename_i c; rw [if_neg c] at q'; exact h.ws j q'
theorem Blind.enc {M N : Mv} (h : Blind M N) (E : List En) : Blind { M with ens := E } { N with ens := E } := ⟨h.len, rfl, h.own, h.ws⟩
theorem blind_act {M N : Mv} (h : Blind M N) (hz : machF M = 0) (hy : machF N = 0) (x : Ac) (h0 : outE M x = 0) : Blind (outM M x) (outM N x) := by
  have hc := (blind_code h hz hy x).1
  have h1 : outE N x = 0 := by rw [hc]; exact h0
  have hI : creI N = creI M := by unfold creI; rw [h.ens]
  clear hc
  unfold outE at h0 h1
  unfold outM
  split at h0
  · rename_i c
    rw [if_pos c] at h1
    rw [if_pos c, if_pos c]
    unfold creM
    rw [if_pos h0, if_pos h1, hI, h.ens]
    exact h.enc _
  · rename_i c
    rw [if_neg c] at h1
    rw [if_neg c, if_neg c]
    split at h0
    · rename_i c
      rw [if_pos c] at h1
      rw [if_pos c, if_pos c]
      unfold putM
      rw [if_pos h0, if_pos h1, h.ens]
      have ho : (M.frs.getD x.f.toNat default).o = 0 := by
        unfold putF at h0
        split at h0
        · split at h0
          · split at h0
            · split at h0
              · rename_i q; exact q
              · omega
            · omega
          · omega
        · rename_i q; exact absurd h0 q
      exact h.set x.f.toNat (f := putFr M x.f.toNat x.e x.at_ x.r) (g := putFr N x.f.toNat x.e x.at_ x.r) rfl rfl rfl (fun _ => h.ws _ ho)
    · rename_i c
      rw [if_neg c] at h1
      rw [if_neg c, if_neg c]
      split at h0
      · rename_i c
        rw [if_pos c] at h1
        rw [if_pos c, if_pos c]
        unfold startM
        rw [if_pos h0, if_pos h1, h.ens]
        exact h.enc _
      · rename_i c
        rw [if_neg c] at h1
        rw [if_neg c, if_neg c]
        split at h0
        · rename_i c
          rw [if_pos c] at h1
          rw [if_pos c, if_pos c]
          unfold remM
          rw [if_pos h0, if_pos h1, h.ens]
          have hr : ∀ j, (N.frs.map (remFr x.e)).getD j default = (if j < N.frs.length then remFr x.e (N.frs.getD j default) else default) ∧ (M.frs.map (remFr x.e)).getD j default = (if j < N.frs.length then remFr x.e (M.frs.getD j default) else default) := fun j => by
            by_cases c : j < N.frs.length
            · rw [if_pos c, if_pos c, frmap_getD _ c, frmap_getD _ (by rw [← h.len]; exact c)]; exact ⟨rfl, rfl⟩
            · rw [if_neg c, if_neg c]
              constructor
              · rw [List.getD_eq_getElem?_getD, List.getElem?_eq_none (by simpa using Nat.le_of_not_lt c)]; rfl
              · rw [List.getD_eq_getElem?_getD, List.getElem?_eq_none (by rw [h.len] at c; simpa using Nat.le_of_not_lt c)]; rfl
          refine ⟨by simpa using h.len, rfl, fun j => ?_, fun j q => ?_⟩
          · show ((N.frs.map (remFr x.e)).getD j default).o = ((M.frs.map (remFr x.e)).getD j default).o ∧ ((N.frs.map (remFr x.e)).getD j default).at_ = ((M.frs.map (remFr x.e)).getD j default).at_ ∧ ((N.frs.map (remFr x.e)).getD j default).r = ((M.frs.map (remFr x.e)).getD j default).r
            rw [(hr j).1, (hr j).2]
            unfold remFr
            rw [(h.own j).1]
            split
            · split
              · exact ⟨rfl, rfl, rfl⟩
              · exact h.own j
            · exact ⟨rfl, rfl, rfl⟩
          · show ((N.frs.map (remFr x.e)).getD j default).ws = ((M.frs.map (remFr x.e)).getD j default).ws
            have q' : ((M.frs.map (remFr x.e)).getD j default).o = 0 := q
            rw [(hr j).2] at q' ⊢
            rw [(hr j).1]
            unfold remFr at q' ⊢
            rw [(h.own j).1]
            split
            · rename_i cj
              rw [if_pos cj] at q'
              split
              · rfl
              · rename_i ce; rw [if_neg ce] at q'; exact h.ws j q'
            · rfl
        · rename_i c
          rw [if_neg c] at h1
          rw [if_neg c, if_neg c]
          split at h0
          · rename_i c
            rw [if_pos c, if_pos c]
            exact h
          · rename_i c
            rw [if_neg c] at h1
            rw [if_neg c, if_neg c]
            unfold pokeM
            rw [if_pos h0, if_pos h1, (h.own _).1]
            split
            · rename_i ho
              have := h.set x.f.toNat (f := { M.frs.getD x.f.toNat default with ws := (M.frs.getD x.f.toNat default).ws.set x.at_.toNat x.n }) (g := { N.frs.getD x.f.toNat default with ws := (N.frs.getD x.f.toNat default).ws.set x.at_.toNat x.n }) (h.own _).1 (h.own _).2.1 (h.own _).2.2 (fun _ => by dsimp only; rw [h.ws _ ho]) (E := M.ens)
              have e : ({ N with frs := N.frs.set x.f.toNat { N.frs.getD x.f.toNat default with ws := (N.frs.getD x.f.toNat default).ws.set x.at_.toNat x.n } } : Mv) = { N with frs := N.frs.set x.f.toNat { N.frs.getD x.f.toNat default with ws := (N.frs.getD x.f.toNat default).ws.set x.at_.toNat x.n }, ens := M.ens } := by rw [← h.ens]
              rw [e]; exact this
            · exact h
/-- the words of pages that are somebody's are others, that may be -/
theorem blind_good {M N : Mv} (h : Blind M N) (hq : N.qus = M.qus) (hz : machF M = 0) (hw : ∀ j, j < 24 → mayW (N.frs.getD j default).ws = true) : machF N = 0 := by
  have g := good_iff.1 hz
  refine good_iff.2 ⟨by rw [h.len]; exact g.s1, by rw [h.ens]; exact g.s2, by rw [hq]; exact g.s3, by rw [h.ens]; exact g.en, fun j hj => ?_, fun i j hij hj h0 hc => ?_, by rw [hq]; exact g.qu⟩
  · have hf := goodFr_iff.1 (g.fr j hj)
    obtain ⟨a, b, c⟩ := h.own j
    rw [h.ens]
    refine goodFr_iff.2 ⟨hw j hj, by rw [a]; exact hf.2.1, by rw [b]; exact hf.2.2.1, by rw [c]; exact hf.2.2.2.1, fun q => ?_, fun q => ?_⟩
    · rw [a] at q; rw [b, c]; exact hf.2.2.2.2.1 q
    · rw [a] at q ⊢; exact hf.2.2.2.2.2 q
  · obtain ⟨a, b, _⟩ := h.own j
    obtain ⟨a', b', _⟩ := h.own i
    rw [a] at h0
    rw [a, b, a', b'] at hc
    exact g.tw i j hij hj h0 hc

end Go.Proofs.YtdngbojbpmdegaaGreatDoor

namespace Go.Proofs.YtdngbojbpmdegaaGreatDoor
open Go.RowKit
set_option maxRecDepth 100000
set_option linter.unusedVariables false

/-- a variable that holds a machine of its own -/
structure MBox (n0 : Nat) (w : World) (b : Nat) (M : Mv) : Prop where
  c0 : w.cell? ⟨b, 0, none⟩ = some (.slice M.fa M.frs.length M.fcap)
  c1 : w.cell? ⟨b, 1, none⟩ = some (.slice M.ea M.ens.length M.ecap)
  c2 : w.cell? ⟨b, 2, none⟩ = some (.slice M.qa M.qus.length M.qcap)
  fz : ∀ o, w.frozen? ⟨b, o, none⟩ = false
  lt : b < w.heap.size
  own : Owned n0 w M
  off : ¬ Mine M b
theorem MBox.keepH {n0 : Nat} {w w' : World} {b : Nat} {M : Mv} (h : MBox n0 w b M) (hw : ∀ c, c = b ∨ Mine M c → w'.heap[c]? = w.heap[c]?) (hs : w.heap.size ≤ w'.heap.size) : MBox n0 w' b M := by
  have hc : ∀ o, w'.cell? ⟨b, o, none⟩ = w.cell? ⟨b, o, none⟩ := fun o => World.cell?_of_block (hw b (.inl rfl))
  exact ⟨(hc 0).trans h.c0, (hc 1).trans h.c1, (hc 2).trans h.c2, fun o => (World.frozen?_of_block (hw b (.inl rfl))).trans (h.fz o), Nat.lt_of_lt_of_le h.lt hs, h.own.keepM (fun c hc => hw c (.inr hc)) hs, h.off⟩
theorem MBox.old {n0 : Nat} {w : World} {b : Nat} {M : Mv} (h : MBox n0 w b M) {c : Nat} (hc : c = b ∨ Mine M c) : c < w.heap.size := by
  rcases hc with rfl | hc
  · exact h.lt
  · exact (Mine.fresh h.own hc).2
theorem MBox.keep {n0 : Nat} {w w' : World} {b : Nat} {M : Mv} (h : MBox n0 w b M) (hb : Below w.heap.size w w') : MBox n0 w' b M :=
  h.keepH (fun c hc => hb.block c (h.old hc)) hb.size
theorem MBox.far {n0 : Nat} {w : World} {b : Nat} {M : Mv} (h : MBox n0 w b M) {c : Nat} (hc : ¬ (c = b ∨ Mine M c)) (o : Nat) (v : Value) : MBox n0 (w.setCell ⟨c, o, none⟩ v) b M :=
  h.keepH (fun d hd => set_heap _ _ _ _ _ (fun e => hc (e ▸ hd))) (by simp [World.setCell])
theorem MBox.mono {n0 n1 : Nat} {w : World} {b : Nat} {M : Mv} (h : MBox n0 w b M) (hn : n1 ≤ n0) : MBox n1 w b M := ⟨h.c0, h.c1, h.c2, h.fz, h.lt, h.own.mono hn, h.off⟩
theorem MBox.of_block {n0 : Nat} {w : World} {b : Nat} {M : Mv} {t : TypeId} (hO : Owned n0 w M) (hb : w.heap[b]? = some (.cells #[.slice M.fa M.frs.length M.fcap, .slice M.ea M.ens.length M.ecap, .slice M.qa M.qus.length M.qcap] t (0, 0))) (off : ¬ Mine M b) : MBox n0 w b M :=
  ⟨by simp [World.cell?, hb], by simp [World.cell?, hb], by simp [World.cell?, hb], fun o => by simp [World.frozen?, hb], (Array.getElem?_eq_some_iff.1 hb).1, hO, off⟩
/-- a machine is taken over -/
theorem MBox.putM {n0 n1 : Nat} {w : World} {b : Nat} {M N : Mv} (h : MBox n0 w b M) (hO : Owned n1 w N) (off : ¬ Mine N b) :
    MBox n1 (((w.setCell ⟨b, 0, none⟩ (.slice N.fa N.frs.length N.fcap)).setCell ⟨b, 1, none⟩ (.slice N.ea N.ens.length N.ecap)).setCell ⟨b, 2, none⟩ (.slice N.qa N.qus.length N.qcap)) b N := by
  obtain ⟨k0, k1, k2⟩ := blk3 (v0 := .slice N.fa N.frs.length N.fcap) (v1 := .slice N.ea N.ens.length N.ecap) (v2 := .slice N.qa N.qus.length N.qcap) h.c0 h.c1 h.c2
  have hf : ∀ o, (((w.setCell ⟨b, 0, none⟩ (.slice N.fa N.frs.length N.fcap)).setCell ⟨b, 1, none⟩ (.slice N.ea N.ens.length N.ecap)).setCell ⟨b, 2, none⟩ (.slice N.qa N.qus.length N.qcap)).frozen? ⟨b, o, none⟩ = false := fun o => by rw [World.frozen?_setCell, World.frozen?_setCell, World.frozen?_setCell]; exact h.fz o
  have hh := fun c hc => blk3_heap (w := w) (b := b) (v0 := .slice N.fa N.frs.length N.fcap) (v1 := .slice N.ea N.ens.length N.ecap) (v2 := .slice N.qa N.qus.length N.qcap) c hc
  have hz : (((w.setCell ⟨b, 0, none⟩ (.slice N.fa N.frs.length N.fcap)).setCell ⟨b, 1, none⟩ (.slice N.ea N.ens.length N.ecap)).setCell ⟨b, 2, none⟩ (.slice N.qa N.qus.length N.qcap)).heap.size = w.heap.size := blk3_size
  generalize ((w.setCell ⟨b, 0, none⟩ (.slice N.fa N.frs.length N.fcap)).setCell ⟨b, 1, none⟩ (.slice N.ea N.ens.length N.ecap)).setCell ⟨b, 2, none⟩ (.slice N.qa N.qus.length N.qcap) = V at k0 k1 k2 hf hh hz
  exact ⟨k0, k1, k2, hf, by rw [hz]; exact h.lt, hO.keepM (fun c hc => hh c (fun q => off (q ▸ hc))) (by rw [hz]; exact Nat.le_refl _), off⟩
/-- a variable that holds an outcome -/
structure OBox (w : World) (b : Nat) (nd v : Int) : Prop where
  c0 : w.cell? ⟨b, 0, none⟩ = some (.int .i64 nd)
  c1 : w.cell? ⟨b, 1, none⟩ = some (.int .i64 v)
  fz : ∀ o, w.frozen? ⟨b, o, none⟩ = false
  lt : b < w.heap.size
theorem OBox.keepH {w w' : World} {b : Nat} {nd v : Int} (h : OBox w b nd v) (hw : w'.heap[b]? = w.heap[b]?) (hs : w.heap.size ≤ w'.heap.size) : OBox w' b nd v :=
  ⟨(World.cell?_of_block hw).trans h.c0, (World.cell?_of_block hw).trans h.c1, fun o => (World.frozen?_of_block hw).trans (h.fz o), Nat.lt_of_lt_of_le h.lt hs⟩
theorem OBox.keep {w w' : World} {b : Nat} {nd v : Int} (h : OBox w b nd v) (hb : Below w.heap.size w w') : OBox w' b nd v := h.keepH (hb.block b h.lt) hb.size
theorem OBox.far {w : World} {b : Nat} {nd v : Int} (h : OBox w b nd v) {c : Nat} (hc : c ≠ b) (o : Nat) (x : Value) : OBox (w.setCell ⟨c, o, none⟩ x) b nd v :=
  h.keepH (set_heap _ _ _ _ _ (Ne.symm hc)) (by simp [World.setCell])
theorem OBox.of_block {w : World} {b : Nat} {nd v : Int} {t : TypeId} (hb : w.heap[b]? = some (.cells #[.int .i64 nd, .int .i64 v] t (0, 0))) : OBox w b nd v :=
  ⟨by simp [World.cell?, hb], by simp [World.cell?, hb], fun o => by simp [World.frozen?, hb], (Array.getElem?_eq_some_iff.1 hb).1⟩
theorem OBox.put {w : World} {b : Nat} {nd v : Int} (h : OBox w b nd v) (nd' v' : Int) : OBox ((w.setCell ⟨b, 0, none⟩ (.int .i64 nd')).setCell ⟨b, 1, none⟩ (.int .i64 v')) b nd' v' := by
  have oth : ∀ (V : World) (i j : Nat) (x : Value), i ≠ j → (V.setCell ⟨b, i, none⟩ x).cell? ⟨b, j, none⟩ = V.cell? ⟨b, j, none⟩ := fun V i j x hij => World.cell?_setCell_other _ _ _ _ (by intro q; simp only [Addr.mk.injEq, true_and, and_true] at q; exact hij q)
  exact ⟨(oth _ 1 0 _ (by omega)).trans (World.cell?_setCell_same _ _ _ h.c0), World.cell?_setCell_same _ _ _ ((oth w 0 1 _ (by omega)).trans h.c1), fun o => by rw [World.frozen?_setCell, World.frozen?_setCell]; exact h.fz o, by simp [World.setCell]; exact h.lt⟩
end Go.Proofs.YtdngbojbpmdegaaGreatDoor
