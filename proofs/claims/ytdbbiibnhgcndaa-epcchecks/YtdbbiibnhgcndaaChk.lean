/-
  What the call Check (epc) answers for every machine: what it is refused for; it turns nothing that was in memory. The condition: the machine's cells are there.
-/
import Derived.Test.YtdbbiibnhgcndaaChkFr
namespace Go.Proofs.Ytdbbiibnhgcndaa
open Go.RowKit

/-- is the frame number k a page that one ahead is, too? -/
def twAt (frs : List Fr) (k : Nat) : Bool := ((frs.getD k default).o != 0) && (frs.take k).any (twB (frs.getD k default).o (frs.getD k default).at_)
def twins (frs : List Fr) : Bool := (List.range frs.length).any (twAt frs)
theorem twins_at {frs : List Fr} {k : Nat} (hk : k < frs.length) (h : twAt frs k = true) : twins frs = true := List.any_eq_true.2 ⟨k, by simpa using hk, h⟩
theorem twins_none {frs : List Fr} (h : ∀ j, j < frs.length → twAt frs j = false) : twins frs = false := by
  rw [twins, List.any_eq_false]
  intro j hj
  simp [h j (by simpa using hj)]
theorem RowsAt.take {α : Type} [Inhabited α] {w : World} {c : Nat} {cells : α → List Value} {a : Option Addr} {xs : List α} (h : RowsAt w c cells a xs) (k : Nat) : RowsAt w c cells a (xs.take k) := by
  rcases h with rfl | ⟨b, off, h1, h2⟩
  · left; simp
  · refine .inr ⟨b, off, h1, fun j hj i hi => ?_⟩
    have hj' : j < k ∧ j < xs.length := by simp at hj; omega
    have := h2 j hj'.2 i hi
    simpa [List.getD_eq_getElem?_getD, List.getElem?_take, hj'.1] using this
theorem snoc_tw {frs : List Fr} {k : Nat} (h : Hid (∀ j, j < k → twAt frs j = false)) (hg : twAt frs k = false) : Hid (∀ j, j < k + 1 → twAt frs j = false) := fun j hj => by
  by_cases e : j < k
  · exact h.out j e
  · have : j = k := by omega
    subst this; exact hg

set_option maxHeartbeats 1600000 in
theorem haveTwins_any (a : Option Addr) (frs : List Fr) (cap : Nat) (w : World) (hl : frs.length ≤ maxLen) (hcp : frs.length ≤ cap) (hx : RowsAt w 4 Fr.cells a frs) :
    Calls Try.prog 77 #[.slice a frs.length cap] w fun e w' => e = .returned (.bool (twins frs)) ∧ Below w.heap.size w w' := by
  have hl0 := hl
  unfold maxLen at hl
  rcases hx with rfl | ⟨b, off, rfl, hc⟩
  · go_enter Try.func77, Try.ntmps77
    go_wp2
    refine wp_loop_rounds 1 ?_
    rw [rounds_succ]
    go_wp2
    go_ret
    exact ⟨rfl, Below.refl _ _⟩
  · have hR : RowsAt w 4 Fr.cells (some ⟨b, off, none⟩) frs := .inr ⟨b, off, rfl, hc⟩
    go_enter Try.func77, Try.ntmps77
    go_wp2
    go_loopw [8] (fun i wr => ∃ k : Nat, k ≤ frs.length ∧ i = .int .i64 k ∧ Below w.heap.size w wr ∧ Hid (∀ j, j < k → twAt frs j = false)) (fun i _ => frs.length - (intOf i).toNat)
    case atStart => exact ⟨0, Nat.zero_le _, rfl, Below.refl _ _, fun j hj => absurd hj (by omega)⟩
    case round =>
      obtain ⟨k, hk, rfl, hbel, hid⟩ := hrel
      by_cases hlt : k < frs.length
      · have k0 := hc k hlt 0 (by omega)
        have k1 := hc k hlt 1 (by omega)
        have k2 := hc k hlt 2 (by omega)
        have k3 := hc k hlt 3 (by omega)
        have HT : Hid (twAt frs k = (((frs.getD k default).o != 0) && (frs.take k).any (twB (frs.getD k default).o (frs.getD k default).at_))) := rfl
        obtain ⟨P, hP⟩ : ∃ P, frs.getD k default = P := ⟨_, rfl⟩
        rw [hP] at k0 k1 k2 k3 HT
        clear hP
        obtain ⟨o, fat, r, fa, ws, fcap⟩ := P
        dsimp only at HT
        have bl : b < w.heap.size := lt_of_cell (show w.cell? ⟨b, off + k * 4, none⟩ = some (.int .i64 o) from k0)
        have l0 : wr.cell? ⟨b, off + k * 4, none⟩ = some (.int .i64 o) := (hbel.cell (p := ⟨b, _, none⟩) bl).trans k0
        have l1 : wr.cell? ⟨b, off + k * 4 + 1, none⟩ = some (.int .i64 fat) := (hbel.cell (p := ⟨b, _, none⟩) bl).trans k1
        have l2 : wr.cell? ⟨b, off + k * 4 + 2, none⟩ = some (.int .i64 r) := (hbel.cell (p := ⟨b, _, none⟩) bl).trans k2
        have l3 : wr.cell? ⟨b, off + k * 4 + 3, none⟩ = some (.slice fa ws.length fcap) := (hbel.cell (p := ⟨b, _, none⟩) bl).trans k3
        have B1 : ∀ o, Hid (Below wr.heap.size wr (wr.alloc o)) := fun o => (Below.refl _ _).alloc (Nat.le_refl _) _
        have hcall := fun (w' : World) (B cp : Nat) (h : Below w.heap.size w w') (h0 : w'.cell? ⟨B, 0, none⟩ = some (.int .i64 o)) (h1 : w'.cell? ⟨B, 1, none⟩ = some (.int .i64 fat)) =>
          twin_contains (some ⟨b, off, none⟩) (frs.take k) cp (.pointer (some ⟨B, 0, none⟩)) (twB o fat) w' (by simp; omega) ((RowsAt.below (cells := Fr.cells) (fun _ => rfl) hR h).take k)
            (fun j hj w'' hb' => twin_any _ _ _ _ _ _ o fat B w'' ((hb'.cell (p := ⟨B, 0, none⟩) (lt_of_cell h0)).trans h0) ((hb'.cell (p := ⟨B, 1, none⟩) (lt_of_cell h1)).trans h1))
        rw [show (frs.take k).length = k by simp; omega] at hcall
        clear k0 k1 k2 k3 hc hR hl0
        generalize (frs.take k).any (twB o fat) = z at hcall HT
        by_cases c0 : o = 0
        · subst c0
          have HT' : Hid (twAt frs k = false) := by show twAt frs k = _; rw [HT.out]; simp
          clear HT
          go_wp2
          go_roundw
          case rel => exact ⟨k + 1, by omega, by go_num, hbel.trans ((B1 _).out.mono hbel.size), snoc_tw hid HT'.out⟩
          case measure => simp [intOf]; omega
        · have c0' : (o != 0) = true := by simpa using c0
          have HT' : Hid (twAt frs k = z) := by show twAt frs k = _; rw [HT.out, c0']; simp
          clear HT
          cases z with
          | false =>
            go_wp2_with (go_at_call 75; refine (hcall _ _ _ (hbel.trans ((B1 _).out.mono hbel.size)) (by rw [World.cell?_alloc_at _ _ _ _ (by simp)]; rfl) (by rw [World.cell?_alloc_at _ _ _ _ (by simp)]; rfl)).mono ?_; rintro e w1 ⟨rfl, hb⟩)
            go_roundw
            case rel => exact ⟨k + 1, by omega, by go_num, (hbel.trans ((B1 _).out.mono hbel.size)).trans (hb.mono (by have := hbel.size; simp; omega)), snoc_tw hid HT'.out⟩
            case measure => simp [intOf]; omega
          | true =>
            go_wp2_with (go_at_call 75; refine (hcall _ _ _ (hbel.trans ((B1 _).out.mono hbel.size)) (by rw [World.cell?_alloc_at _ _ _ _ (by simp)]; rfl) (by rw [World.cell?_alloc_at _ _ _ _ (by simp)]; rfl)).mono ?_; rintro e w1 ⟨rfl, hb⟩)
            go_ret
            exact ⟨ret_bool (twins_at hlt HT'.out).symm, (hbel.trans ((B1 _).out.mono hbel.size)).trans (hb.mono (by have := hbel.size; simp; omega))⟩
      · have hkl : k = frs.length := by omega
        subst hkl
        clear hc hR
        go_wp2
        go_ret
        exact ⟨ret_bool (twins_none hid.out).symm, hbel⟩

/-- what a machine is refused for (0: nothing) -/
def machF (M : Mv) : Int :=
  if M.frs.length = 24 ∧ M.ens.length = 4 ∧ M.qus.length ≤ 40 then
    (if M.ens.any (fun e => !e.good) || M.frs.any (fun f => !Fr.good M.ens f) || M.qus.any (fun q => !q.good) || twins M.frs then 8 else 0)
  else 1
theorem or4 (a b c d : Bool) : (if (a || b || c || d) = true then (8 : Int) else 0) = if a then 8 else if b then 8 else if c then 8 else if d then 8 else 0 := by
  cases a <;> cases b <;> cases c <;> cases d <;> rfl

set_option maxHeartbeats 1600000 in
theorem checkM_any (M : Mv) (w : World) (hM : MachAt w M) :
    Calls Try.prog 35 #[M.val] w fun e w' => e = .returned (.int .i64 (machF M)) ∧ Below w.heap.size w w' := by
  have B1 : ∀ o, Hid (Below w.heap.size w (w.alloc o)) := fun o => (Below.refl _ _).alloc (Nat.le_refl _) _
  have hl1 := hM.frl
  have hl2 := hM.enl
  have hl3 := hM.qul
  unfold maxLen at hl1 hl2 hl3
  unfold Mv.val
  by_cases s1 : M.frs.length = 24
  · by_cases s2 : M.ens.length = 4
    · by_cases s3 : M.qus.length ≤ 40
      · have h1 := fun w' (h : Below w.heap.size w w') => bad2_contains M.ea M.ens M.ecap (fun e => !e.good) w' hM.enl (hM.below h).en (fun j hj w'' hb' => badEnclave_any _ _ _ _ _ _ _ w'' (hM.enok j hj).len)
        have h2 := fun w' (B : Nat) (h : Below w.heap.size w w') (hm : w'.cell? ⟨B, 1, none⟩ = some (.slice M.ea 4 M.ecap)) => bad1_contains M.fa M.frs M.fcap (.pointer (some ⟨B, 0, none⟩)) (fun f => !Fr.good M.ens f) w' hM.frl (hM.below h).fr (fun j hj w'' hb' => by
          have h' := h.trans (hb'.mono h.size)
          have ok := (hM.below h').frok j hj
          exact badFrame_any _ _ _ _ _ _ M.ea M.ens M.ecap B w'' ok.wr ok.len ok.ints (hM.below h').en s2 ((hb'.cell (p := ⟨B, 1, none⟩) (lt_of_cell hm)).trans hm))
        have h3 := fun w' (h : Below w.heap.size w w') => bad3_contains M.qa M.qus M.qcap (fun q => !q.good) w' hM.qul (hM.below h).qu (fun j hj w'' hb' => badQuote_any _ _ w'' (hM.quok j hj).len)
        have h4 := fun w' (h : Below w.heap.size w w') => haveTwins_any M.fa M.frs M.fcap w' hM.frl hM.frc (hM.below h).fr
        have E : machF M = (if M.ens.any (fun e => !e.good) then 8 else if M.frs.any (fun f => !Fr.good M.ens f) then 8 else if M.qus.any (fun q => !q.good) then 8 else if twins M.frs then 8 else 0) := by
          unfold machF
          rw [if_pos ⟨s1, s2, s3⟩, or4]
        rw [E]
        clear E
        generalize M.ens.any (fun e => !e.good) = z1 at h1 ⊢
        generalize M.frs.any (fun f => !Fr.good M.ens f) = z2 at h2 ⊢
        generalize M.qus.any (fun q => !q.good) = z3 at h3 ⊢
        generalize twins M.frs = z4 at h4 ⊢
        rw [s1] at h2 h4 ⊢
        rw [s2] at h1 ⊢
        have s3' : ¬ ((40 : Int) < (M.qus.length : Int)) := by omega
        obtain ⟨fa, frs, fcap, ea, ens, ecap, qa, qus, qcap⟩ := M
        dsimp only at *
        generalize qus.length = nq at *
        clear hM s1 s2 hl1 hl2
        have HX : ∀ w1 w2 : World, Hid (Below w.heap.size w w1 → Below w1.heap.size w1 w2 → Below w.heap.size w w2) := fun w1 w2 => fun p q => p.trans (q.mono p.size)
        cases z1 with
        | true =>
          go_enter Try.func35, Try.ntmps35
          go_wp2_with (go_at_call 74; refine (h1 _ (B1 _).out).mono ?_; rintro e w1 ⟨rfl, hb1⟩; obtain ⟨hc, hf⟩ := bcell hb1)
          go_ret
          exact ⟨rfl, (HX _ _).out (B1 _).out hb1⟩
        | false =>
          cases z2 with
          | true =>
            go_enter Try.func35, Try.ntmps35
            go_wp2_with (first
              | (go_at_call 74; refine (h1 _ (B1 _).out).mono ?_; rintro e w1 ⟨rfl, hb1⟩; have H1 : Hid (Below w.heap.size w w1) := (HX _ _).out (B1 _).out hb1; have hm1 : w1.cell? ⟨w.heap.size, 1, none⟩ = some (.slice ea 4 ecap) := (hb1.cell (p := ⟨w.heap.size, 1, none⟩) (by simp)).trans (by rw [World.cell?_alloc_at _ _ _ _ rfl]; rfl); have hm0 : w1.cell? ⟨w.heap.size, 0, none⟩ = some (.slice fa 24 fcap) := (hb1.cell (p := ⟨w.heap.size, 0, none⟩) (by simp)).trans (by rw [World.cell?_alloc_at _ _ _ _ rfl]; rfl); have hm2 : w1.cell? ⟨w.heap.size, 2, none⟩ = some (.slice qa nq qcap) := (hb1.cell (p := ⟨w.heap.size, 2, none⟩) (by simp)).trans (by rw [World.cell?_alloc_at _ _ _ _ rfl]; rfl))
              | (go_at_call 75; refine (h2 _ _ H1.out hm1).mono ?_; rintro e w2 ⟨rfl, hb2⟩; have H2 : Hid (Below w.heap.size w w2) := (HX _ _).out H1.out hb2; have hn0 : w2.cell? ⟨w.heap.size, 0, none⟩ = some (.slice fa 24 fcap) := (hb2.cell (p := ⟨w.heap.size, 0, none⟩) (lt_of_cell hm0)).trans hm0; have hn2 : w2.cell? ⟨w.heap.size, 2, none⟩ = some (.slice qa nq qcap) := (hb2.cell (p := ⟨w.heap.size, 2, none⟩) (lt_of_cell hm2)).trans hm2)
              | fail)
            go_ret
            exact ⟨rfl, H2.out⟩
          | false =>
            cases z3 with
            | true =>
              go_enter Try.func35, Try.ntmps35
              go_wp2_with (first
                | (go_at_call 74; refine (h1 _ (B1 _).out).mono ?_; rintro e w1 ⟨rfl, hb1⟩; have H1 : Hid (Below w.heap.size w w1) := (HX _ _).out (B1 _).out hb1; have hm1 : w1.cell? ⟨w.heap.size, 1, none⟩ = some (.slice ea 4 ecap) := (hb1.cell (p := ⟨w.heap.size, 1, none⟩) (by simp)).trans (by rw [World.cell?_alloc_at _ _ _ _ rfl]; rfl); have hm0 : w1.cell? ⟨w.heap.size, 0, none⟩ = some (.slice fa 24 fcap) := (hb1.cell (p := ⟨w.heap.size, 0, none⟩) (by simp)).trans (by rw [World.cell?_alloc_at _ _ _ _ rfl]; rfl); have hm2 : w1.cell? ⟨w.heap.size, 2, none⟩ = some (.slice qa nq qcap) := (hb1.cell (p := ⟨w.heap.size, 2, none⟩) (by simp)).trans (by rw [World.cell?_alloc_at _ _ _ _ rfl]; rfl))
                | (go_at_call 75; refine (h2 _ _ H1.out hm1).mono ?_; rintro e w2 ⟨rfl, hb2⟩; have H2 : Hid (Below w.heap.size w w2) := (HX _ _).out H1.out hb2; have hn0 : w2.cell? ⟨w.heap.size, 0, none⟩ = some (.slice fa 24 fcap) := (hb2.cell (p := ⟨w.heap.size, 0, none⟩) (lt_of_cell hm0)).trans hm0; have hn2 : w2.cell? ⟨w.heap.size, 2, none⟩ = some (.slice qa nq qcap) := (hb2.cell (p := ⟨w.heap.size, 2, none⟩) (lt_of_cell hm2)).trans hm2)
                | (go_at_call 76; refine (h3 _ H2.out).mono ?_; rintro e w3 ⟨rfl, hb3⟩; have H3 : Hid (Below w.heap.size w w3) := (HX _ _).out H2.out hb3; have hp0 : w3.cell? ⟨w.heap.size, 0, none⟩ = some (.slice fa 24 fcap) := (hb3.cell (p := ⟨w.heap.size, 0, none⟩) (lt_of_cell hn0)).trans hn0)
                | fail)
              go_ret
              exact ⟨rfl, H3.out⟩
            | false =>
              cases z4
              all_goals
                go_enter Try.func35, Try.ntmps35
                go_wp2_with (first
                  | (go_at_call 74; refine (h1 _ (B1 _).out).mono ?_; rintro e w1 ⟨rfl, hb1⟩; have H1 : Hid (Below w.heap.size w w1) := (HX _ _).out (B1 _).out hb1; have hm1 : w1.cell? ⟨w.heap.size, 1, none⟩ = some (.slice ea 4 ecap) := (hb1.cell (p := ⟨w.heap.size, 1, none⟩) (by simp)).trans (by rw [World.cell?_alloc_at _ _ _ _ rfl]; rfl); have hm0 : w1.cell? ⟨w.heap.size, 0, none⟩ = some (.slice fa 24 fcap) := (hb1.cell (p := ⟨w.heap.size, 0, none⟩) (by simp)).trans (by rw [World.cell?_alloc_at _ _ _ _ rfl]; rfl); have hm2 : w1.cell? ⟨w.heap.size, 2, none⟩ = some (.slice qa nq qcap) := (hb1.cell (p := ⟨w.heap.size, 2, none⟩) (by simp)).trans (by rw [World.cell?_alloc_at _ _ _ _ rfl]; rfl))
                  | (go_at_call 75; refine (h2 _ _ H1.out hm1).mono ?_; rintro e w2 ⟨rfl, hb2⟩; have H2 : Hid (Below w.heap.size w w2) := (HX _ _).out H1.out hb2; have hn0 : w2.cell? ⟨w.heap.size, 0, none⟩ = some (.slice fa 24 fcap) := (hb2.cell (p := ⟨w.heap.size, 0, none⟩) (lt_of_cell hm0)).trans hm0; have hn2 : w2.cell? ⟨w.heap.size, 2, none⟩ = some (.slice qa nq qcap) := (hb2.cell (p := ⟨w.heap.size, 2, none⟩) (lt_of_cell hm2)).trans hm2)
                  | (go_at_call 76; refine (h3 _ H2.out).mono ?_; rintro e w3 ⟨rfl, hb3⟩; have H3 : Hid (Below w.heap.size w w3) := (HX _ _).out H2.out hb3; have hp0 : w3.cell? ⟨w.heap.size, 0, none⟩ = some (.slice fa 24 fcap) := (hb3.cell (p := ⟨w.heap.size, 0, none⟩) (lt_of_cell hn0)).trans hn0)
                  | (go_at_call 77; refine (h4 _ H3.out).mono ?_; rintro e w4 ⟨rfl, hb4⟩; have H4 : Hid (Below w.heap.size w w4) := (HX _ _).out H3.out hb4)
                  | fail)
                go_ret
                exact ⟨rfl, H4.out⟩
      · have s3' : (40 : Int) < (M.qus.length : Int) := by omega
        have E : machF M = 1 := by unfold machF; rw [if_neg (by omega)]
        rw [E, s1, s2]
        clear hM E
        go_enter Try.func35, Try.ntmps35
        go_wp2
        go_ret
        exact ⟨rfl, (B1 _).out⟩
    · have s2' : ((M.ens.length : Int) != 4) = true := by simp; omega
      have E : machF M = 1 := by unfold machF; rw [if_neg (by omega)]
      rw [E, s1]
      clear hM E
      go_enter Try.func35, Try.ntmps35
      go_wp2
      go_ret
      exact ⟨rfl, (B1 _).out⟩
  · have s1' : ((M.frs.length : Int) != 24) = true := by simp; omega
    have E : machF M = 1 := by unfold machF; rw [if_neg (by omega)]
    rw [E]
    clear hM E
    go_enter Try.func35, Try.ntmps35
    go_wp2
    go_ret
    exact ⟨rfl, (B1 _).out⟩

end Go.Proofs.Ytdbbiibnhgcndaa
