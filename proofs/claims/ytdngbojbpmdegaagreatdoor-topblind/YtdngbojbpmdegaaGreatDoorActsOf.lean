/-
  What the call Acts (riddlekeep) answers: a list of its own of acts of who owns the machine, none of them an Enter or a Resume, each within the reach of the form. The conditions: the raw things' cells are there.
-/
import Derived.Test.YtdngbojbpmdegaaGreatDoorJImageMath
import Derived.Test.YtdngbojbpmdegaaGreatDoorJPlan
import Derived.Deep.RegionHeld3
import Derived.Deep.DeepCutAuto
import Derived.Deep.CutBlock
import Derived.Deep.RegionLaw
namespace Go.Proofs.YtdngbojbpmdegaaGreatDoor
open Go.RowKit
set_option maxRecDepth 100000
set_option linter.unusedVariables false

structure ActOk (mea : Bool) (x : Ac) : Prop where
  k : 1 ≤ x.k ∧ x.k ≤ 7
  m : x.k = 3 → mea = true
  e : 0 ≤ x.e ∧ x.e ≤ 65535
  f : 0 ≤ x.f ∧ x.f ≤ 65535
  at_ : 0 ≤ x.at_ ∧ x.at_ ≤ 65535
  r : 0 ≤ x.r ∧ x.r ≤ 65535
  n : 0 ≤ x.n ∧ x.n ≤ 65535
  fu : x.fuel = 0
structure ActBox (w : World) (b : Nat) (x : Ac) : Prop where
  c0 : w.cell? ⟨b, 0, none⟩ = some (.int .i64 x.k)
  c1 : w.cell? ⟨b, 1, none⟩ = some (.int .i64 x.e)
  c2 : w.cell? ⟨b, 2, none⟩ = some (.int .i64 x.f)
  c3 : w.cell? ⟨b, 3, none⟩ = some (.int .i64 x.at_)
  c4 : w.cell? ⟨b, 4, none⟩ = some (.int .i64 x.r)
  c5 : w.cell? ⟨b, 5, none⟩ = some (.int .i64 x.n)
  c6 : w.cell? ⟨b, 6, none⟩ = some (.int .i64 x.fuel)
theorem actbox_of {w : World} {b : Nat} {x : Ac} {t : TypeId} {fr : Nat × Nat} (h : w.heap[b]? = some (.cells #[.int .i64 x.k, .int .i64 x.e, .int .i64 x.f, .int .i64 x.at_, .int .i64 x.r, .int .i64 x.n, .int .i64 x.fuel] t fr)) : ActBox w b x :=
  ⟨by simp [World.cell?, h], by simp [World.cell?, h], by simp [World.cell?, h], by simp [World.cell?, h], by simp [World.cell?, h], by simp [World.cell?, h], by simp [World.cell?, h]⟩
theorem frz_block {w : World} {b : Nat} {cs : Array Value} {t : TypeId} (h : w.heap[b]? = some (.cells cs t (0, 0))) (o : Nat) : w.frozen? ⟨b, o, none⟩ = false := by
  simp [World.frozen?, h]
theorem act_oth {w : World} {b i j : Nat} {v : Value} (h : i ≠ j) : (w.setCell ⟨b, i, none⟩ v).cell? ⟨b, j, none⟩ = w.cell? ⟨b, j, none⟩ := World.cell?_setCell_other _ _ _ _ (by intro q; simp only [Addr.mk.injEq, true_and, and_true] at q; exact h q)
theorem act_set {w : World} {b i : Nat} {v u : Value} (h : w.cell? ⟨b, i, none⟩ = some u) : (w.setCell ⟨b, i, none⟩ v).cell? ⟨b, i, none⟩ = some v := World.cell?_setCell_same _ _ _ h
theorem leaf7 {mea : Bool} {W1 w : World} {b : Nat} {y : Ac} (x : Ac) (hx : ActOk mea x) (h : ActBox w b y) (hb : Below b W1 w) (hz : b + 1 ≤ w.heap.size) :
    ActBox (((((((w.setCell ⟨b, 0, none⟩ (.int .i64 x.k)).setCell ⟨b, 1, none⟩ (.int .i64 x.e)).setCell ⟨b, 2, none⟩ (.int .i64 x.f)).setCell ⟨b, 3, none⟩ (.int .i64 x.at_)).setCell ⟨b, 4, none⟩ (.int .i64 x.r)).setCell ⟨b, 5, none⟩ (.int .i64 x.n)).setCell ⟨b, 6, none⟩ (.int .i64 x.fuel)) b x ∧ ActOk mea x ∧ Below b W1 (((((((w.setCell ⟨b, 0, none⟩ (.int .i64 x.k)).setCell ⟨b, 1, none⟩ (.int .i64 x.e)).setCell ⟨b, 2, none⟩ (.int .i64 x.f)).setCell ⟨b, 3, none⟩ (.int .i64 x.at_)).setCell ⟨b, 4, none⟩ (.int .i64 x.r)).setCell ⟨b, 5, none⟩ (.int .i64 x.n)).setCell ⟨b, 6, none⟩ (.int .i64 x.fuel)) ∧ b + 1 ≤ (((((((w.setCell ⟨b, 0, none⟩ (.int .i64 x.k)).setCell ⟨b, 1, none⟩ (.int .i64 x.e)).setCell ⟨b, 2, none⟩ (.int .i64 x.f)).setCell ⟨b, 3, none⟩ (.int .i64 x.at_)).setCell ⟨b, 4, none⟩ (.int .i64 x.r)).setCell ⟨b, 5, none⟩ (.int .i64 x.n)).setCell ⟨b, 6, none⟩ (.int .i64 x.fuel)).heap.size := by
  have le : b ≤ b := Nat.le_refl _
  refine ⟨⟨?_, ?_, ?_, ?_, ?_, ?_, ?_⟩, hx, ((((((hb.setCell le _).setCell le _).setCell le _).setCell le _).setCell le _).setCell le _).setCell le _, by simpa [World.setCell] using hz⟩
  · rw [act_oth (by omega), act_oth (by omega), act_oth (by omega), act_oth (by omega), act_oth (by omega), act_oth (by omega)]; exact act_set h.c0
  · rw [act_oth (by omega), act_oth (by omega), act_oth (by omega), act_oth (by omega), act_oth (by omega)]; exact act_set (by rw [act_oth (by omega)]; exact h.c1)
  · rw [act_oth (by omega), act_oth (by omega), act_oth (by omega), act_oth (by omega)]; exact act_set (by rw [act_oth (by omega), act_oth (by omega)]; exact h.c2)
  · rw [act_oth (by omega), act_oth (by omega), act_oth (by omega)]; exact act_set (by rw [act_oth (by omega), act_oth (by omega), act_oth (by omega)]; exact h.c3)
  · rw [act_oth (by omega), act_oth (by omega)]; exact act_set (by rw [act_oth (by omega), act_oth (by omega), act_oth (by omega), act_oth (by omega)]; exact h.c4)
  · rw [act_oth (by omega)]; exact act_set (by rw [act_oth (by omega), act_oth (by omega), act_oth (by omega), act_oth (by omega), act_oth (by omega)]; exact h.c5)
  · exact act_set (by rw [act_oth (by omega), act_oth (by omega), act_oth (by omega), act_oth (by omega), act_oth (by omega), act_oth (by omega)]; exact h.c6)
theorem ActBox.drew {w : World} {b : Nat} {x : Ac} (h : ActBox w b x) : ActBox w.drew b x := ⟨h.c0, h.c1, h.c2, h.c3, h.c4, h.c5, h.c6⟩
theorem leafd {mea : Bool} {W V : World} {b : Nat} {x : Ac} (h : ActBox V b x ∧ ActOk mea x ∧ Below b W V ∧ b + 1 ≤ V.heap.size) : ∃ x : Ac, ActBox V.drew b x ∧ ActOk mea x ∧ Below b W V.drew ∧ b + 1 ≤ V.drew.heap.size :=
  ⟨x, h.1.drew, h.2.1, h.2.2.1.drew, h.2.2.2⟩
theorem leaf2 {mea : Bool} {W1 w : World} {b : Nat} {y : Ac} (x : Ac) (hx : ActOk mea x) (h : ActBox w b y) (hb : Below b W1 w) (hz : b + 1 ≤ w.heap.size) (e : x = { y with k := x.k, r := x.r }) :
    ActBox ((w.setCell ⟨b, 0, none⟩ (.int .i64 x.k)).setCell ⟨b, 4, none⟩ (.int .i64 x.r)) b x ∧ ActOk mea x ∧ Below b W1 ((w.setCell ⟨b, 0, none⟩ (.int .i64 x.k)).setCell ⟨b, 4, none⟩ (.int .i64 x.r)) ∧ b + 1 ≤ ((w.setCell ⟨b, 0, none⟩ (.int .i64 x.k)).setCell ⟨b, 4, none⟩ (.int .i64 x.r)).heap.size := by
  have le : b ≤ b := Nat.le_refl _
  have e1 : x.e = y.e := by rw [e]
  have e2 : x.f = y.f := by rw [e]
  have e3 : x.at_ = y.at_ := by rw [e]
  have e5 : x.n = y.n := by rw [e]
  have e6 : x.fuel = y.fuel := by rw [e]
  refine ⟨⟨?_, ?_, ?_, ?_, ?_, ?_, ?_⟩, hx, (hb.setCell le _).setCell le _, by simpa [World.setCell] using hz⟩
  · rw [act_oth (by omega)]; exact act_set h.c0
  · rw [act_oth (by omega), act_oth (by omega), e1]; exact h.c1
  · rw [act_oth (by omega), act_oth (by omega), e2]; exact h.c2
  · rw [act_oth (by omega), act_oth (by omega), e3]; exact h.c3
  · exact act_set (by rw [act_oth (by omega)]; exact h.c4)
  · rw [act_oth (by omega), act_oth (by omega), e5]; exact h.c5
  · rw [act_oth (by omega), act_oth (by omega), e6]; exact h.c6
theorem owns_belowA {w w' : World} {B : Nat} {v : Value} {l : List Ac} (h : Owns w B v l) (hb : Below w.heap.size w w') : Owns w' B v l :=
  World.ownsRow.kept (row := none) h ⟨hb.os, hb.tape, hb.output, hb.size, fun k hk _ => hb.block k hk⟩ (by cases hv : v.ownBlock <;> simp)
def rawBox (rk ra rb rc : Int) : Obj := .cells #[.int .i64 rk, .int .i64 ra, .int .i64 rb, .int .i64 rc] 61

set_option maxHeartbeats 8000000 in
theorem acts_any (a : Option Addr) (rs : List Rw) (cap : Nat) (most : Nat) (mea : Bool) (w : World) (hl : rs.length ≤ maxLen) (hx : RawsAt w a rs) (hm : most ≤ 1000) :
    Calls Tryz.prog 26 #[.slice a rs.length cap, .int .i64 (most : Int), .bool mea] w fun e w' => ∃ v l, e = .returned v ∧ Owns w' w.heap.size v l ∧ l.length ≤ most ∧ (∀ x ∈ l, ActOk mea x) ∧ Below w.heap.size w w' := by
  unfold maxLen at hl
  obtain ⟨i0, hi, hz0, hz1, hz2⟩ := info_parts act_info
  have HX : Hid (RawsAt w a rs) := hx
  clear hx
  go_enter Tryz.func26, Tryz.ntmps26
  go_wp2
  go_loopw [7, 8] (fun v i wr => ∃ (k : Nat) (l : List Ac), k ≤ rs.length ∧ k ≤ most ∧ i = .int .i64 k ∧ Hid (l.length = k) ∧ Hid (Owns wr w.heap.size v l) ∧ Hid (∀ x ∈ l, ActOk mea x) ∧ Below w.heap.size w wr ∧ w.heap.size ≤ wr.heap.size) (fun _ i _ => rs.length - (intOf i).toNat)
  case atStart => exact ⟨0, [], Nat.zero_le _, Nat.zero_le _, rfl, (show _ = _ from rfl), World.ownsRow_nil _ _ _ _, fun n hn => absurd hn (by simp), Below.refl _ _, Nat.le_refl _⟩
  case round =>
    obtain ⟨k, l, hk, hkm, rfl, hll, hown, hok, hbel, hsz⟩ := hrel
    by_cases hgo : k < rs.length ∧ k < most
    · obtain ⟨hlt, hlm⟩ := hgo
      rcases HX.out.at_ with rfl | ⟨b, off, rfl, hc⟩
      · simp at hlt
      · obtain ⟨c0, c1, c2, c3⟩ := hc k hlt
        have hok' := HX.out.ok k hlt
        generalize rs.getD k default = R at c0 c1 c2 c3 hok'
        obtain ⟨rk, ra, rb, rc⟩ := R
        obtain ⟨w0, w1, w2, w3⟩ := hok'
        dsimp only at c0 c1 c2 c3 w0 w1 w2 w3
        have d0 := keep_cell hbel c0
        have d1 := keep_cell hbel c1
        have d2 := keep_cell hbel c2
        have d3 := keep_cell hbel c3
        have hkx : (k : Int) < (rs.length : Int) := by omega
        have hkm' : (k : Int) < (most : Int) := by omega
        clear c0 c1 c2 c3 hc
        go_upto_region 6 with fail
        obtain ⟨pe1, pe2⟩ := pick_lt ra (many := 3) (by omega)
        obtain ⟨pf1, pf2⟩ := pick_lt rb (many := 24) (by omega)
        obtain ⟨pt1, pt2⟩ := pick_lt rc (many := 8) (by omega)
        obtain ⟨pr1, pr2⟩ := pick_lt ra (many := 8) (by omega)
        obtain ⟨pn1, pn2⟩ := pick_lt ra (many := 65536) (by omega)
        obtain ⟨pk1, pk2⟩ := pick_lt rk (many := 30) (by omega)
        obtain ⟨W1, hW1⟩ : ∃ W1, Hid (W1 = wr.alloc (rawBox rk ra rb rc)) := ⟨_, rfl⟩
        have hr0 : Hid (W1.cell? ⟨wr.heap.size, 0, none⟩ = some (.int .i64 rk)) := show _ = _ by rw [hW1.out]; exact World.cell?_alloc_at _ _ _ _ rfl
        have hr1 : Hid (W1.cell? ⟨wr.heap.size, 1, none⟩ = some (.int .i64 ra)) := show _ = _ by rw [hW1.out]; exact World.cell?_alloc_at _ _ _ _ rfl
        have hr2 : Hid (W1.cell? ⟨wr.heap.size, 2, none⟩ = some (.int .i64 rb)) := show _ = _ by rw [hW1.out]; exact World.cell?_alloc_at _ _ _ _ rfl
        have hr3 : Hid (W1.cell? ⟨wr.heap.size, 3, none⟩ = some (.int .i64 rc)) := show _ = _ by rw [hW1.out]; exact World.cell?_alloc_at _ _ _ _ rfl
        have hbW : Hid (Below w.heap.size w W1) := show Below _ _ _ by rw [hW1.out]; exact hbel.alloc hsz _
        have hoW : Hid (Owns W1 w.heap.size u7 l) := show Owns _ _ _ _ by rw [hW1.out]; exact owns_alloc hown.out _
        have hsW : W1.heap.size = wr.heap.size + 1 := by rw [hW1.out]; simp
        obtain ⟨P, hP⟩ : ∃ P, Hid (P = wr.heap.size) := ⟨_, rfl⟩
        rw [show (wr.alloc (.cells #[.int .i64 rk, .int .i64 ra, .int .i64 rb, .int .i64 rc] 61)) = W1 from hW1.out.symm, ← hP.out]
        rw [← hP.out] at hr0 hr1 hr2 hr3 hsW
        have hPw : Hid (w.heap.size ≤ P) := show _ ≤ _ by rw [hP.out]; exact hsz
        clear hW1 hP hown hbel hsz d0 d1 d2 d3
        have t0 := hr0.out
        have t1 := hr1.out
        have t2 := hr2.out
        have t3 := hr3.out
        have hwr : IntKind.i64.wrap (1 + pick ra 3) = 1 + pick ra 3 := by rw [IntKind.wrap_i64]; omega
        go_cut [10] (fun s10 wx => s10 = .pointer (some ⟨P + 1, 0, none⟩) ∧ wx = (W1.alloc (.cells #[.int .i64 0, .int .i64 (1 + pick ra 3), .int .i64 (pick rb 24), .int .i64 (pick rc 8), .int .i64 0, .int .i64 0, .int .i64 0] 68)).drew)
        case first =>
          go_region_held3 (fun w' => w'.cell? ⟨P, 1, none⟩ = some (.int .i64 ra) ∧ w'.cell? ⟨P, 2, none⟩ = some (.int .i64 rb) ∧ w'.cell? ⟨P, 3, none⟩ = some (.int .i64 rc)) (first | exact ⟨t1, t2, t3⟩ | go_keep)
            (first
              | (go_at_call 17; refine (picked_any _ _ _ (by assumption) (by omega) (by omega)).mono ?_; rintro e w' ⟨rfl, rfl⟩)
              | fail)
          all_goals
            go_wp2
            go_meet
            exact ⟨rfl, rfl⟩
        case rest =>
          obtain ⟨rfl, rfl⟩ := hcut
          obtain ⟨W2, hW2⟩ : ∃ W2, Hid (W2 = (W1.alloc (.cells #[.int .i64 0, .int .i64 (1 + pick ra 3), .int .i64 (pick rb 24), .int .i64 (pick rc 8), .int .i64 0, .int .i64 0, .int .i64 0] 68)).drew) := ⟨_, rfl⟩
          have hb2 : Hid (Below W1.heap.size W1 W2) := show Below _ _ _ by rw [hW2.out]; exact ((Below.refl _ _).alloc (Nat.le_refl _) _).drew
          have hz2' : Hid (W2.heap.size = P + 2) := show _ = _ by rw [hW2.out]; show (W1.alloc _).heap.size = _; rw [World.size_alloc]; omega
          have q2 : Hid (W2.heap[P + 1]? = some (.cells #[.int .i64 0, .int .i64 (1 + pick ra 3), .int .i64 (pick rb 24), .int .i64 (pick rc 8), .int .i64 0, .int .i64 0, .int .i64 0] 68 (0, 0))) := show _ = _ by rw [hW2.out, ← hsW]; exact Go.Deep.blk_alloc_new W1 _
          rw [← hW2.out]
          have g0 : W2.cell? ⟨P, 0, none⟩ = some (.int .i64 rk) := (hb2.out.cell (p := ⟨P, 0, none⟩) (by dsimp only; omega)).trans hr0.out
          have g1 : W2.cell? ⟨P, 1, none⟩ = some (.int .i64 ra) := (hb2.out.cell (p := ⟨P, 1, none⟩) (by dsimp only; omega)).trans hr1.out
          have b0 : W2.cell? ⟨P + 1, 0, none⟩ = some (.int .i64 0) := by simp [World.cell?, q2.out]
          have b1 : W2.cell? ⟨P + 1, 1, none⟩ = some (.int .i64 (1 + pick ra 3)) := by simp [World.cell?, q2.out]
          have b2 : W2.cell? ⟨P + 1, 2, none⟩ = some (.int .i64 (pick rb 24)) := by simp [World.cell?, q2.out]
          have b3 : W2.cell? ⟨P + 1, 3, none⟩ = some (.int .i64 (pick rc 8)) := by simp [World.cell?, q2.out]
          have b4 : W2.cell? ⟨P + 1, 4, none⟩ = some (.int .i64 0) := by simp [World.cell?, q2.out]
          have b5 : W2.cell? ⟨P + 1, 5, none⟩ = some (.int .i64 0) := by simp [World.cell?, q2.out]
          have b6 : W2.cell? ⟨P + 1, 6, none⟩ = some (.int .i64 0) := by simp [World.cell?, q2.out]
          have zf : ∀ o, W2.frozen? ⟨P + 1, o, none⟩ = false := fun o => frz_block q2.out o
          have z0 := zf 0; have z1 := zf 1; have z2 := zf 2; have z3 := zf 3; have z4 := zf 4; have z5 := zf 5; have z6 := zf 6
          have lt1 : P < W2.heap.size := by have := hz2'.out; omega
          have lt2 : P + 1 < W2.heap.size := by have := hz2'.out; omega
          have BX : Hid (ActBox W2 (P + 1) ⟨0, 1 + pick ra 3, pick rb 24, pick rc 8, 0, 0, 0⟩) := actbox_of (x := ⟨0, 1 + pick ra 3, pick rb 24, pick rc 8, 0, 0, 0⟩) q2.out
          have HB2 : Hid (Below (P + 1) W1 W2) := show Below _ _ _ by rw [← hsW]; exact hb2.out
          have HZ2 : Hid (P + 1 + 1 ≤ W2.heap.size) := show _ ≤ _ by have := hz2'.out; omega
          clear hW2 t0 t1 t2 t3 zf
          go_upto_block 2 with (go_at_call 17; refine (picked_any _ _ _ (by assumption) (by omega) (by omega)).mono ?_; rintro e w' ⟨rfl, rfl⟩)
          obtain ⟨K, hK⟩ : ∃ K, pick rk 30 = K := ⟨_, rfl⟩
          rw [hK] at pk1 pk2 ⊢
          clear hK
          go_cut [] (fun wx => ∃ x : Ac, ActBox wx (P + 1) x ∧ ActOk mea x ∧ Below (P + 1) W1 wx ∧ P + 2 ≤ wx.heap.size)
          case first =>
            by_cases k10 : K < 10
            · have t10 : (decide (K < 10)) = true := by simpa using k10
              go_wp2
              go_meet
              exact ⟨_, leaf7 ⟨6, 0, pick rb 24, pick rc 8, 0, 0, 0⟩ ⟨⟨by first | decide | (dsimp only; omega), by first | decide | (dsimp only; omega)⟩, fun h3 => absurd (show (6 : Int) = 3 from h3) (by decide), ⟨by first | decide | (dsimp only; omega), by first | decide | (dsimp only; omega)⟩, ⟨by first | decide | (dsimp only; omega), by first | decide | (dsimp only; omega)⟩, ⟨by first | decide | (dsimp only; omega), by first | decide | (dsimp only; omega)⟩, ⟨by first | decide | (dsimp only; omega), by first | decide | (dsimp only; omega)⟩, ⟨by first | decide | (dsimp only; omega), by first | decide | (dsimp only; omega)⟩, rfl⟩ BX.out HB2.out HZ2.out⟩
            · by_cases k18 : K < 18
              · have POK : Hid (ActOk mea ⟨7, 0, pick rb 24, pick rc 8, 0, pick ra 65536, 0⟩) := show ActOk _ _ from ⟨⟨by first | decide | (dsimp only; omega), by first | decide | (dsimp only; omega)⟩, fun h3 => absurd (show (7 : Int) = 3 from h3) (by decide), ⟨by first | decide | (dsimp only; omega), by first | decide | (dsimp only; omega)⟩, ⟨by first | decide | (dsimp only; omega), by first | decide | (dsimp only; omega)⟩, ⟨by first | decide | (dsimp only; omega), by first | decide | (dsimp only; omega)⟩, ⟨by first | decide | (dsimp only; omega), by first | decide | (dsimp only; omega)⟩, ⟨by first | decide | (dsimp only; omega), by first | decide | (dsimp only; omega)⟩, rfl⟩
                go_upto_region 12 with fail
                go_region_law (first
                  | (go_simp; go_at_call 17; refine (picked_any _ _ _ (by assumption) (by omega) (by omega)).mono ?_; rintro e w' ⟨rfl, rfl⟩; dsimp only)
                  | fail)
                all_goals
                  go_wp2
                  go_meet
                  exact leafd (leaf7 ⟨7, 0, pick rb 24, pick rc 8, 0, pick ra 65536, 0⟩ POK.out BX.out HB2.out HZ2.out)
              · by_cases k22 : K < 22
                · go_wp2_with (go_at_call 17; refine (picked_any _ _ _ (by assumption) (by omega) (by omega)).mono ?_; rintro e w' ⟨rfl, rfl⟩)
                  go_meet
                  exact ⟨_, leaf2 ⟨2, 1 + pick ra 3, pick rb 24, pick rc 8, pick ra 8, 0, 0⟩ ⟨⟨by first | decide | (dsimp only; omega), by first | decide | (dsimp only; omega)⟩, fun h3 => absurd (show (2 : Int) = 3 from h3) (by decide), ⟨by first | decide | (dsimp only; omega), by first | decide | (dsimp only; omega)⟩, ⟨by first | decide | (dsimp only; omega), by first | decide | (dsimp only; omega)⟩, ⟨by first | decide | (dsimp only; omega), by first | decide | (dsimp only; omega)⟩, ⟨by first | decide | (dsimp only; omega), by first | decide | (dsimp only; omega)⟩, ⟨by first | decide | (dsimp only; omega), by first | decide | (dsimp only; omega)⟩, rfl⟩ BX.out HB2.out HZ2.out rfl⟩
                · by_cases k25 : K < 25
                  · cases mea with
                    | true =>
                      go_wp2
                      go_meet
                      exact ⟨_, leaf7 ⟨3, 1 + pick ra 3, 0, pick rc 8, 0, 0, 0⟩ ⟨⟨by first | decide | (dsimp only; omega), by first | decide | (dsimp only; omega)⟩, fun _ => rfl, ⟨by first | decide | (dsimp only; omega), by first | decide | (dsimp only; omega)⟩, ⟨by first | decide | (dsimp only; omega), by first | decide | (dsimp only; omega)⟩, ⟨by first | decide | (dsimp only; omega), by first | decide | (dsimp only; omega)⟩, ⟨by first | decide | (dsimp only; omega), by first | decide | (dsimp only; omega)⟩, ⟨by first | decide | (dsimp only; omega), by first | decide | (dsimp only; omega)⟩, rfl⟩ BX.out HB2.out HZ2.out⟩
                    | false =>
                      have k27 : K < 27 := by omega
                      go_wp2
                      go_meet
                      exact ⟨_, leaf7 ⟨1, 0, 0, 0, 0, 0, 0⟩ ⟨⟨by first | decide | (dsimp only; omega), by first | decide | (dsimp only; omega)⟩, fun h3 => absurd (show (1 : Int) = 3 from h3) (by decide), ⟨by first | decide | (dsimp only; omega), by first | decide | (dsimp only; omega)⟩, ⟨by first | decide | (dsimp only; omega), by first | decide | (dsimp only; omega)⟩, ⟨by first | decide | (dsimp only; omega), by first | decide | (dsimp only; omega)⟩, ⟨by first | decide | (dsimp only; omega), by first | decide | (dsimp only; omega)⟩, ⟨by first | decide | (dsimp only; omega), by first | decide | (dsimp only; omega)⟩, rfl⟩ BX.out HB2.out HZ2.out⟩
                  · by_cases k27 : K < 27
                    · cases mea with
                      | true =>
                        go_wp2
                        go_meet
                        exact ⟨_, leaf7 ⟨1, 0, 0, 0, 0, 0, 0⟩ ⟨⟨by first | decide | (dsimp only; omega), by first | decide | (dsimp only; omega)⟩, fun h3 => absurd (show (1 : Int) = 3 from h3) (by decide), ⟨by first | decide | (dsimp only; omega), by first | decide | (dsimp only; omega)⟩, ⟨by first | decide | (dsimp only; omega), by first | decide | (dsimp only; omega)⟩, ⟨by first | decide | (dsimp only; omega), by first | decide | (dsimp only; omega)⟩, ⟨by first | decide | (dsimp only; omega), by first | decide | (dsimp only; omega)⟩, ⟨by first | decide | (dsimp only; omega), by first | decide | (dsimp only; omega)⟩, rfl⟩ BX.out HB2.out HZ2.out⟩
                      | false =>
                        go_wp2
                        go_meet
                        exact ⟨_, leaf7 ⟨1, 0, 0, 0, 0, 0, 0⟩ ⟨⟨by first | decide | (dsimp only; omega), by first | decide | (dsimp only; omega)⟩, fun h3 => absurd (show (1 : Int) = 3 from h3) (by decide), ⟨by first | decide | (dsimp only; omega), by first | decide | (dsimp only; omega)⟩, ⟨by first | decide | (dsimp only; omega), by first | decide | (dsimp only; omega)⟩, ⟨by first | decide | (dsimp only; omega), by first | decide | (dsimp only; omega)⟩, ⟨by first | decide | (dsimp only; omega), by first | decide | (dsimp only; omega)⟩, ⟨by first | decide | (dsimp only; omega), by first | decide | (dsimp only; omega)⟩, rfl⟩ BX.out HB2.out HZ2.out⟩
                    · by_cases k7 : K = 27
                      · have t7 : (K == 27) = true := by simpa using k7
                        clear k7
                        cases mea with
                        | true =>
                          go_wp2
                          go_meet
                          exact ⟨_, leaf7 ⟨4, 1 + pick ra 3, 0, 0, 0, 0, 0⟩ ⟨⟨by first | decide | (dsimp only; omega), by first | decide | (dsimp only; omega)⟩, fun h3 => absurd (show (4 : Int) = 3 from h3) (by decide), ⟨by first | decide | (dsimp only; omega), by first | decide | (dsimp only; omega)⟩, ⟨by first | decide | (dsimp only; omega), by first | decide | (dsimp only; omega)⟩, ⟨by first | decide | (dsimp only; omega), by first | decide | (dsimp only; omega)⟩, ⟨by first | decide | (dsimp only; omega), by first | decide | (dsimp only; omega)⟩, ⟨by first | decide | (dsimp only; omega), by first | decide | (dsimp only; omega)⟩, rfl⟩ BX.out HB2.out HZ2.out⟩
                        | false =>
                          go_wp2
                          go_meet
                          exact ⟨_, leaf7 ⟨4, 1 + pick ra 3, 0, 0, 0, 0, 0⟩ ⟨⟨by first | decide | (dsimp only; omega), by first | decide | (dsimp only; omega)⟩, fun h3 => absurd (show (4 : Int) = 3 from h3) (by decide), ⟨by first | decide | (dsimp only; omega), by first | decide | (dsimp only; omega)⟩, ⟨by first | decide | (dsimp only; omega), by first | decide | (dsimp only; omega)⟩, ⟨by first | decide | (dsimp only; omega), by first | decide | (dsimp only; omega)⟩, ⟨by first | decide | (dsimp only; omega), by first | decide | (dsimp only; omega)⟩, ⟨by first | decide | (dsimp only; omega), by first | decide | (dsimp only; omega)⟩, rfl⟩ BX.out HB2.out HZ2.out⟩
                      · have t7 : (K == 27) = false := by simpa using k7
                        by_cases k8 : K = 28
                        · have t8 : (K == 28) = true := by simpa using k8
                          clear k7 k8
                          cases mea with
                          | true =>
                            go_wp2
                            go_meet
                            exact ⟨_, leaf7 ⟨5, 1 + pick ra 3, 0, 0, 0, 0, 0⟩ ⟨⟨by first | decide | (dsimp only; omega), by first | decide | (dsimp only; omega)⟩, fun h3 => absurd (show (5 : Int) = 3 from h3) (by decide), ⟨by first | decide | (dsimp only; omega), by first | decide | (dsimp only; omega)⟩, ⟨by first | decide | (dsimp only; omega), by first | decide | (dsimp only; omega)⟩, ⟨by first | decide | (dsimp only; omega), by first | decide | (dsimp only; omega)⟩, ⟨by first | decide | (dsimp only; omega), by first | decide | (dsimp only; omega)⟩, ⟨by first | decide | (dsimp only; omega), by first | decide | (dsimp only; omega)⟩, rfl⟩ BX.out HB2.out HZ2.out⟩
                          | false =>
                            go_wp2
                            go_meet
                            exact ⟨_, leaf7 ⟨5, 1 + pick ra 3, 0, 0, 0, 0, 0⟩ ⟨⟨by first | decide | (dsimp only; omega), by first | decide | (dsimp only; omega)⟩, fun h3 => absurd (show (5 : Int) = 3 from h3) (by decide), ⟨by first | decide | (dsimp only; omega), by first | decide | (dsimp only; omega)⟩, ⟨by first | decide | (dsimp only; omega), by first | decide | (dsimp only; omega)⟩, ⟨by first | decide | (dsimp only; omega), by first | decide | (dsimp only; omega)⟩, ⟨by first | decide | (dsimp only; omega), by first | decide | (dsimp only; omega)⟩, ⟨by first | decide | (dsimp only; omega), by first | decide | (dsimp only; omega)⟩, rfl⟩ BX.out HB2.out HZ2.out⟩
                        · have t8 : (K == 28) = false := by simpa using k8
                          clear k7 k8
                          cases mea with
                          | true =>
                            go_wp2
                            go_meet
                            exact ⟨_, leaf7 ⟨7, 0, pick rb 24, pick rc 8, 0, 0, 0⟩ ⟨⟨by first | decide | (dsimp only; omega), by first | decide | (dsimp only; omega)⟩, fun h3 => absurd (show (7 : Int) = 3 from h3) (by decide), ⟨by first | decide | (dsimp only; omega), by first | decide | (dsimp only; omega)⟩, ⟨by first | decide | (dsimp only; omega), by first | decide | (dsimp only; omega)⟩, ⟨by first | decide | (dsimp only; omega), by first | decide | (dsimp only; omega)⟩, ⟨by first | decide | (dsimp only; omega), by first | decide | (dsimp only; omega)⟩, ⟨by first | decide | (dsimp only; omega), by first | decide | (dsimp only; omega)⟩, rfl⟩ BX.out HB2.out HZ2.out⟩
                          | false =>
                            go_wp2
                            go_meet
                            exact ⟨_, leaf7 ⟨7, 0, pick rb 24, pick rc 8, 0, 0, 0⟩ ⟨⟨by first | decide | (dsimp only; omega), by first | decide | (dsimp only; omega)⟩, fun h3 => absurd (show (7 : Int) = 3 from h3) (by decide), ⟨by first | decide | (dsimp only; omega), by first | decide | (dsimp only; omega)⟩, ⟨by first | decide | (dsimp only; omega), by first | decide | (dsimp only; omega)⟩, ⟨by first | decide | (dsimp only; omega), by first | decide | (dsimp only; omega)⟩, ⟨by first | decide | (dsimp only; omega), by first | decide | (dsimp only; omega)⟩, ⟨by first | decide | (dsimp only; omega), by first | decide | (dsimp only; omega)⟩, rfl⟩ BX.out HB2.out HZ2.out⟩
          case rest =>
            obtain ⟨x, hbx, hxo, hbc, hzc⟩ := hcut
            rename World => V
            have hoV : Owns V w.heap.size u7 l := owns_belowA hoW.out (by rw [hsW]; exact hbc)
            have hbV : Below w.heap.size w V := hbW.out.trans (hbc.mono (by have := hPw.out; omega))
            obtain ⟨c0, c1, c2, c3, c4, c5, c6⟩ := hbx
            have hcells := new_cells V x
            have hownA := World.ownsRow.alloc hoV (.cells #[.int .i64 x.k, .int .i64 x.e, .int .i64 x.f, .int .i64 x.at_, .int .i64 x.r, .int .i64 x.n, .int .i64 x.fuel] 68)
            have HA : Hid (∀ v' w2, w2.ownsRow w.heap.size 68 7 v' (l.length + 1) (rowA l ++ rowA [x]) → (V.alloc (.cells #[.int .i64 x.k, .int .i64 x.e, .int .i64 x.f, .int .i64 x.at_, .int .i64 x.r, .int .i64 x.n, .int .i64 x.fuel] 68)).grownBy w2 u7.ownBlock →
                Owns w2 w.heap.size v' (l ++ [x]) ∧ Below w.heap.size w w2 ∧ w.heap.size ≤ w2.heap.size) := fun v' w2 g1 g2 => owns_next (new := [x]) hoV g1 g2 hbV (by have := hPw.out; omega)
            have HLL : Hid (l.length + 1 ≤ 1001) := show _ ≤ _ by have := hll.out; omega
            have HSZ : Hid (w.heap.size ≤ V.heap.size) := show _ ≤ _ by have := hPw.out; omega
            have lt9 : P + 1 < V.heap.size := by omega
            have HOX : Hid (∀ y ∈ l ++ [x], ActOk mea y) := fun y hy => by
              rcases List.mem_append.1 hy with hy | hy
              · exact hok.out y hy
              · simp only [List.mem_cons, List.not_mem_nil, or_false] at hy
                rw [hy]; exact hxo
            clear hbc hoV hbV hoW hbW hr0 hr1 hr2 hr3 hb2 q2 BX HB2 HZ2 b0 b1 b2 b3 b4 b5 b6 g0 g1 z0 z1 z2 z3 z4 z5 z6 lt1 lt2
            go_wp2_with (at_builtin; refine wpList_append_own _ rfl _ _ 23 rfl w.heap.size 68 i0 _ 7 56 Tryz.underlying23 hi hz0 hz1 hz2 rfl (by decide) _ _ _ rfl hownA ⟨V.heap.size, 0, none⟩ 1 1 (rowA [x]) rfl rfl hcells (rowA_cells_one _) (by have := HLL.out; unfold maxLen; omega) (by have := HLL.out; omega) (by have := HSZ.out; simp; omega) ?_)
            intro v' w2 g1 g2 _
            have R := HA.out v' w2 g1 g2
            clear HA g1 g2 hownA hcells
            go_wp2
            go_roundw
            case rel => exact ⟨k + 1, l ++ [x], by omega, by omega, by go_num, (show _ = _ by simp [hll.out]), R.1, HOX, R.2.1, R.2.2⟩
            case measure => simp [intOf]; omega
    · have hge : ¬ ((k : Int) < (rs.length : Int) ∧ (k : Int) < (most : Int)) := by omega
      by_cases h1 : k < rs.length
      · have hk1 : (k : Int) < (rs.length : Int) := by omega
        have hk2 : ¬ (k : Int) < (most : Int) := by omega
        clear hge hgo HX
        go_wp2
        go_ret
        exact ⟨_, rfl, l, hown.out, by rw [hll.out]; exact hkm, hok.out, hbel⟩
      · have hk1 : ¬ (k : Int) < (rs.length : Int) := by omega
        clear hge hgo HX
        go_wp2
        go_ret
        exact ⟨_, rfl, l, hown.out, by rw [hll.out]; exact hkm, hok.out, hbel⟩

end Go.Proofs.YtdngbojbpmdegaaGreatDoor
