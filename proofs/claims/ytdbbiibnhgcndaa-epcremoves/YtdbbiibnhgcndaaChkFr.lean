/-
  What the calls isFrame and haveTwins (epc), and the functions that Check hands on, answer for every machine: whether a frame, an enclave, a quote is one that may be, whether two frames are one page. The condition: the cells are there, there are four enclaves.
-/
import Derived.Test.YtdbbiibnhgcndaaChkEn
import Derived.Test.YtdbbiibnhgcndaaPagesC
import Derived.Test.YtdbbiibnhgcndaaIdxCheck
import Derived.Deep.QuietTactic
import Derived.BigQuiet
namespace Go.Proofs.Ytdbbiibnhgcndaa
open Go.RowKit

/-- may the frame be? -/
def Fr.good (ens : List En) (f : Fr) : Bool := (pageF f.at_ f.r f.ws == 0) && inB f.o 0 4 && (if f.o = 0 then (f.at_ == 0) && (f.r == 0) else (ens.getD (f.o - 1).toNat default).st != 0)
/-- may the quote be? -/
def Qu.good (q : Qu) : Bool := decide (q.log.size ≤ 1000) && inB q.data 0 65535

theorem RowsAt.en0 {w : World} {a : Option Addr} {ens : List En} (h : RowsAt w 7 En.cells a ens) {j : Nat} (hj : j < ens.length) : ∃ b off, a = some ⟨b, off, none⟩ ∧ w.cell? ⟨b, off + j * 7, none⟩ = some (.int .i64 (ens.getD j default).st) := by
  rcases h with rfl | ⟨b, off, h1, h2⟩
  · simp at hj
  · exact ⟨b, off, h1, h2 j hj 0 (by omega)⟩

set_option maxHeartbeats 1600000 in
theorem isFrame_any (o fat r : Int) (fa : Option Addr) (ws : List Int) (fcap : Nat) (ea : Option Addr) (ens : List En) (ecap : Nat) (w : World) (hr : (Lit.int .i64 r).wf = true) (hl : ws.length ≤ maxLen) (hi : Ints w fa ws) (he : RowsAt w 7 En.cells ea ens) (h4 : ens.length = 4) :
    Calls Try.prog 69 #[.agg #[.int .i64 o, .int .i64 fat, .int .i64 r, .slice fa ws.length fcap], .slice ea 4 ecap] w fun e w' =>
      e = .returned (.bool (Fr.good ens ⟨o, fat, r, fa, ws, fcap⟩)) ∧ Below w.heap.size w w' := by
  have hcall := fun w' (h : Below w.heap.size w w') => checkPage_any fat r fa ws fcap w' hr hl (hi.below h)
  have B2 : ∀ o1 o2, Hid (Below w.heap.size w ((w.alloc o1).alloc o2)) := fun o1 o2 => ((Below.refl _ _).alloc (Nat.le_refl _) _).alloc (by simp) _
  have E0 : Hid (Fr.good ens ⟨o, fat, r, fa, ws, fcap⟩ = ((pageF fat r ws == 0) && inB o 0 4 && (if o = 0 then (fat == 0) && (r == 0) else (ens.getD (o - 1).toNat default).st != 0))) := rfl
  generalize Fr.good ens ⟨o, fat, r, fa, ws, fcap⟩ = G at E0 ⊢
  generalize pageF fat r ws = z at hcall E0
  obtain ⟨nl, hnl⟩ : ∃ nl, ws.length = nl := ⟨_, rfl⟩
  rw [hnl] at hcall ⊢
  clear hnl hl hi hr
  by_cases hz : z = 0
  · subst hz
    by_cases c1 : o < 0
    · have EG : G = false := by rw [E0.out, inB_low (show ¬ 0 ≤ o by omega)]; simp
      subst EG
      clear E0 he
      go_enter Try.func69, Try.ntmps69
      go_wp2_with (go_at_call 23; refine (hcall _ (B2 _ _).out).mono ?_; rintro e w1 ⟨rfl, hb⟩; obtain ⟨hc, hf⟩ := bcell hb)
      go_ret
      exact ⟨rfl, (B2 _ _).out.trans (hb.mono (by simp; omega))⟩
    by_cases c2 : 4 < o
    · have EG : G = false := by rw [E0.out, inB_high (show ¬ o ≤ 4 by omega)]; simp
      subst EG
      clear E0 he
      go_enter Try.func69, Try.ntmps69
      go_wp2_with (go_at_call 23; refine (hcall _ (B2 _ _).out).mono ?_; rintro e w1 ⟨rfl, hb⟩; obtain ⟨hc, hf⟩ := bcell hb)
      go_ret
      exact ⟨rfl, (B2 _ _).out.trans (hb.mono (by simp; omega))⟩
    rw [inB_true (show 0 ≤ o by omega) (show o ≤ 4 by omega)] at E0
    by_cases c3 : o = 0
    · subst c3
      have E1 : Hid (G = ((fat == 0) && (r == 0))) := by show G = _; rw [E0.out]; simp
      clear E0 he
      by_cases c4 : fat = 0
      · subst c4
        have EG : G = (r == 0) := by rw [E1.out]; simp
        subst EG
        clear E1
        go_enter Try.func69, Try.ntmps69
        go_wp2_with (go_at_call 23; refine (hcall _ (B2 _ _).out).mono ?_; rintro e w1 ⟨rfl, hb⟩; obtain ⟨hc, hf⟩ := bcell hb)
        go_ret
        exact ⟨rfl, (B2 _ _).out.trans (hb.mono (by simp; omega))⟩
      · have c4' : (fat == 0) = false := by simpa using c4
        have EG : G = false := by rw [E1.out]; simp [c4]
        subst EG
        clear E1
        go_enter Try.func69, Try.ntmps69
        go_wp2_with (go_at_call 23; refine (hcall _ (B2 _ _).out).mono ?_; rintro e w1 ⟨rfl, hb⟩; obtain ⟨hc, hf⟩ := bcell hb)
        go_ret
        exact ⟨rfl, (B2 _ _).out.trans (hb.mono (by simp; omega))⟩
    · obtain rfl | rfl | rfl | rfl : o = 1 ∨ o = 2 ∨ o = 3 ∨ o = 4 := by omega
      · obtain ⟨b, off, rfl, hs⟩ := he.en0 (j := 0) (by omega)
        have EG : Hid (G = ((ens.getD 0 default).st != 0)) := by show G = _; rw [E0.out]; simp
        generalize (ens.getD 0 default).st = s at hs EG
        simp at hs
        clear E0 he
        go_enter Try.func69, Try.ntmps69
        go_wp2_with (go_at_call 23; refine (hcall _ (B2 _ _).out).mono ?_; rintro e w1 ⟨rfl, hb⟩; obtain ⟨hc, hf⟩ := bcell hb; have q1 : w1.cell? ⟨b, off, none⟩ = some (.int .i64 s) := (((B2 _ _).out.trans (hb.mono (by simp; omega))).cell (p := ⟨b, off, none⟩) (lt_of_cell hs)).trans hs)
        go_ret
        exact ⟨ret_bool EG.out.symm, (B2 _ _).out.trans (hb.mono (by simp; omega))⟩
      · obtain ⟨b, off, rfl, hs⟩ := he.en0 (j := 1) (by omega)
        have EG : Hid (G = ((ens.getD 1 default).st != 0)) := by show G = _; rw [E0.out]; simp
        generalize (ens.getD 1 default).st = s at hs EG
        simp at hs
        clear E0 he
        go_enter Try.func69, Try.ntmps69
        go_wp2_with (go_at_call 23; refine (hcall _ (B2 _ _).out).mono ?_; rintro e w1 ⟨rfl, hb⟩; obtain ⟨hc, hf⟩ := bcell hb; have q1 : w1.cell? ⟨b, off + 7, none⟩ = some (.int .i64 s) := (((B2 _ _).out.trans (hb.mono (by simp; omega))).cell (p := ⟨b, _, none⟩) (lt_of_cell hs)).trans hs)
        go_ret
        exact ⟨ret_bool EG.out.symm, (B2 _ _).out.trans (hb.mono (by simp; omega))⟩
      · obtain ⟨b, off, rfl, hs⟩ := he.en0 (j := 2) (by omega)
        have EG : Hid (G = ((ens.getD 2 default).st != 0)) := by show G = _; rw [E0.out]; simp
        generalize (ens.getD 2 default).st = s at hs EG
        simp at hs
        clear E0 he
        go_enter Try.func69, Try.ntmps69
        go_wp2_with (go_at_call 23; refine (hcall _ (B2 _ _).out).mono ?_; rintro e w1 ⟨rfl, hb⟩; obtain ⟨hc, hf⟩ := bcell hb; have q1 : w1.cell? ⟨b, off + 14, none⟩ = some (.int .i64 s) := (((B2 _ _).out.trans (hb.mono (by simp; omega))).cell (p := ⟨b, _, none⟩) (lt_of_cell hs)).trans hs)
        go_ret
        exact ⟨ret_bool EG.out.symm, (B2 _ _).out.trans (hb.mono (by simp; omega))⟩
      · obtain ⟨b, off, rfl, hs⟩ := he.en0 (j := 3) (by omega)
        have EG : Hid (G = ((ens.getD 3 default).st != 0)) := by show G = _; rw [E0.out]; simp
        generalize (ens.getD 3 default).st = s at hs EG
        simp at hs
        clear E0 he
        go_enter Try.func69, Try.ntmps69
        go_wp2_with (go_at_call 23; refine (hcall _ (B2 _ _).out).mono ?_; rintro e w1 ⟨rfl, hb⟩; obtain ⟨hc, hf⟩ := bcell hb; have q1 : w1.cell? ⟨b, off + 21, none⟩ = some (.int .i64 s) := (((B2 _ _).out.trans (hb.mono (by simp; omega))).cell (p := ⟨b, _, none⟩) (lt_of_cell hs)).trans hs)
        go_ret
        exact ⟨ret_bool EG.out.symm, (B2 _ _).out.trans (hb.mono (by simp; omega))⟩
  · have hz1 : (z != 0) = true := by simpa using hz
    have EG : G = false := by rw [E0.out]; simp [hz]
    subst EG
    clear E0 he
    go_enter Try.func69, Try.ntmps69
    go_wp2_with (go_at_call 23; refine (hcall _ (B2 _ _).out).mono ?_; rintro e w1 ⟨rfl, hb⟩; obtain ⟨hc, hf⟩ := bcell hb)
    go_ret
    exact ⟨rfl, (B2 _ _).out.trans (hb.mono (by simp; omega))⟩

theorem badFrame_any (o fat r : Int) (fa : Option Addr) (ws : List Int) (fcap : Nat) (ea : Option Addr) (ens : List En) (ecap B : Nat) (w : World) (hr : (Lit.int .i64 r).wf = true) (hl : ws.length ≤ maxLen) (hi : Ints w fa ws) (he : RowsAt w 7 En.cells ea ens) (h4 : ens.length = 4)
    (hm : w.cell? ⟨B, 1, none⟩ = some (.slice ea 4 ecap)) :
    Calls Try.prog 68 #[.agg #[.int .i64 o, .int .i64 fat, .int .i64 r, .slice fa ws.length fcap], .pointer (some ⟨B, 0, none⟩)] w fun e w' =>
      e = .returned (.bool (!Fr.good ens ⟨o, fat, r, fa, ws, fcap⟩)) ∧ Below w.heap.size w w' := by
  have hcall := fun w' (h : Below w.heap.size w w') => isFrame_any o fat r fa ws fcap ea ens ecap w' hr hl (hi.below h) (he.below (fun _ => rfl) h) h4
  have B1 : ∀ o, Hid (Below w.heap.size w (w.alloc o)) := fun o => (Below.refl _ _).alloc (Nat.le_refl _) _
  have lb : B < w.heap.size := lt_of_cell hm
  generalize Fr.good ens ⟨o, fat, r, fa, ws, fcap⟩ = G at hcall ⊢
  clear hr hl hi he h4
  go_enter Try.func68, Try.ntmps68
  go_wp2_with (go_at_call 69; refine (hcall _ (B1 _).out).mono ?_; rintro e w1 ⟨rfl, hb⟩)
  go_ret
  exact ⟨rfl, (B1 _).out.trans (hb.mono (by simp))⟩

theorem badEnclave_any (st pc g0 g1 g2 g3 : Int) (lg : ByteArray) (w : World) (hl : lg.size ≤ maxLen) :
    Calls Try.prog 70 #[.agg #[.int .i64 st, .string lg, .int .i64 pc, .int .i64 g0, .int .i64 g1, .int .i64 g2, .int .i64 g3]] w fun e w' =>
      e = .returned (.bool (!En.good ⟨st, lg, pc, g0, g1, g2, g3⟩)) ∧ Below w.heap.size w w' := by
  have hcall := fun w' => isEnclave_any st pc g0 g1 g2 g3 lg w' hl
  have B1 : ∀ o, Hid (Below w.heap.size w (w.alloc o)) := fun o => (Below.refl _ _).alloc (Nat.le_refl _) _
  generalize En.good ⟨st, lg, pc, g0, g1, g2, g3⟩ = G at hcall ⊢
  clear hl
  go_enter Try.func70, Try.ntmps70
  go_wp2_with (go_at_call 71; refine (hcall _).mono ?_; rintro e w1 ⟨rfl, hb⟩)
  go_ret
  exact ⟨rfl, (B1 _).out.trans (hb.mono (by simp))⟩

theorem badQuote_any (lg : ByteArray) (da : Int) (w : World) (hl : lg.size ≤ maxLen) :
    Calls Try.prog 72 #[.agg #[.string lg, .int .i64 da]] w fun e w' => e = .returned (.bool (!Qu.good ⟨lg, da⟩)) ∧ Below w.heap.size w w' := by
  have hcall := fun w' => isWord_any da w'
  have B1 : ∀ o, Hid (Below w.heap.size w (w.alloc o)) := fun o => (Below.refl _ _).alloc (Nat.le_refl _) _
  unfold Qu.good
  dsimp only
  generalize inB da 0 65535 = G at hcall ⊢
  unfold maxLen at hl
  by_cases c : lg.size ≤ 1000
  · have c' : ¬ ((1000 : Int) < (lg.size : Int)) := by omega
    rw [decide_eq_true c]
    go_enter Try.func72, Try.ntmps72
    go_wp2_with (go_at_call 73; refine (hcall _).mono ?_; rintro e w1 ⟨rfl, rfl⟩)
    go_ret
    exact ⟨rfl, (B1 _).out⟩
  · have c' : (1000 : Int) < (lg.size : Int) := by omega
    rw [decide_eq_false c]
    go_enter Try.func72, Try.ntmps72
    go_wp2
    go_ret
    exact ⟨rfl, (B1 _).out⟩

/-- does one ahead have the same owner and place? -/
def twB (o at_ : Int) (g : Fr) : Bool := (g.o == o) && (g.at_ == at_)
theorem twin_any (o fat r : Int) (fa : Option Addr) (n fcap : Nat) (o1 at1 : Int) (B : Nat) (w : World) (h0 : w.cell? ⟨B, 0, none⟩ = some (.int .i64 o1)) (h1 : w.cell? ⟨B, 1, none⟩ = some (.int .i64 at1)) :
    Calls Try.prog 93 #[.agg #[.int .i64 o, .int .i64 fat, .int .i64 r, .slice fa n fcap], .pointer (some ⟨B, 0, none⟩)] w fun e w' =>
      e = .returned (.bool ((o == o1) && (fat == at1))) ∧ Below w.heap.size w w' := by
  have lb : B < w.heap.size := lt_of_cell h0
  have B1 : ∀ o, Hid (Below w.heap.size w (w.alloc o)) := fun o => (Below.refl _ _).alloc (Nat.le_refl _) _
  by_cases c1 : o = o1
  · subst c1
    go_enter Try.func93, Try.ntmps93
    go_wp2
    go_ret
    exact ⟨ret_bool (by simp), (B1 _).out⟩
  · have c1' : (o == o1) = false := by simpa using c1
    go_enter Try.func93, Try.ntmps93
    go_wp2
    go_ret
    exact ⟨ret_bool (by simp [c1]), (B1 _).out⟩

end Go.Proofs.Ytdbbiibnhgcndaa
