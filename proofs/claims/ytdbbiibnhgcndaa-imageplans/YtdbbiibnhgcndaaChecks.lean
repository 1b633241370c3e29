/-
  What the calls Check (image) and ImageFault (riddleref) answer for every list of pages: both answer what the image is refused for, and turn nothing that was in memory.
-/
import Derived.Test.YtdbbiibnhgcndaaPages
import Derived.Test.YtdbbiibnhgcndaaOpenPage
import Derived.Deep.QuietTactic
import Derived.BigQuiet
import Derived.Outline
namespace Go.Proofs.Ytdbbiibnhgcndaa
open Go.RowKit

/-- what a page is refused for -/
def Pg.f (p : Pg) : Int := pageF p.at_ p.r p.ws
/-- what is wrong with the rest of an image (0: nothing), behind a page at a place -/
def imgF : Option Int → List Pg → Int
  | _, [] => 0
  | none, p :: l => if p.f = 0 then imgF (some p.at_) l else p.f
  | some q, p :: l => if p.f = 0 then (if p.at_ ≤ q then 12 else imgF (some p.at_) l) else p.f
/-- the place of the page ahead of number k -/
def prev (ps : List Pg) (k : Nat) : Option Int := if k = 0 then none else some (ps.getD (k - 1) default).at_
def imageF (ps : List Pg) : Int := imgF none ps

theorem drop_at (ps : List Pg) (k : Nat) (h : k < ps.length) : ps.drop k = ps.getD k default :: ps.drop (k + 1) := by
  rw [List.drop_eq_getElem_cons h]; simp [List.getD_eq_getElem?_getD, h]
theorem imgF_bad (ps : List Pg) (k : Nat) (h : k < ps.length) (hz : ¬ (ps.getD k default).f = 0) : imgF (prev ps k) (ps.drop k) = (ps.getD k default).f := by
  rw [drop_at ps k h]
  cases prev ps k <;> simp only [imgF, if_neg hz]
theorem imgF_first (ps : List Pg) (h : 0 < ps.length) (hz : (ps.getD 0 default).f = 0) : imgF (prev ps 0) (ps.drop 0) = imgF (prev ps (0 + 1)) (ps.drop (0 + 1)) := by
  rw [drop_at ps 0 h]
  simp only [prev, imgF, if_pos hz, if_true]
  simp
theorem imgF_order (ps : List Pg) (k : Nat) (h : k < ps.length) (h0 : 0 < k) (hz : (ps.getD k default).f = 0) (hq : (ps.getD k default).at_ ≤ (ps.getD (k - 1) default).at_) : imgF (prev ps k) (ps.drop k) = 12 := by
  rw [drop_at ps k h, prev, if_neg (by omega)]
  simp only [imgF, if_pos hz, if_pos hq]
theorem imgF_next (ps : List Pg) (k : Nat) (h : k < ps.length) (h0 : 0 < k) (hz : (ps.getD k default).f = 0) (hq : ¬ (ps.getD k default).at_ ≤ (ps.getD (k - 1) default).at_) : imgF (prev ps k) (ps.drop k) = imgF (prev ps (k + 1)) (ps.drop (k + 1)) := by
  rw [drop_at ps k h, prev, if_neg (by omega)]
  simp only [imgF, if_pos hz, if_neg hq]
  simp [prev]
theorem imgF_end (ps : List Pg) : imgF (prev ps ps.length) (ps.drop ps.length) = 0 := by
  rw [List.drop_length]
  cases prev ps ps.length <;> rfl

theorem Pg.Ok.below {w w' : World} {p : Pg} (h : p.Ok w) (hb : Below w.heap.size w w') : p.Ok w' := ⟨h.wat, h.wr, h.len, h.ints.below hb, h.wws⟩
theorem PagesAt.below {w w' : World} {a : Option Addr} {ps : List Pg} (h : PagesAt w a ps) (hb : Below w.heap.size w w') : PagesAt w' a ps := by
  refine ⟨?_, fun j hj => (h.ok j hj).below hb⟩
  rcases h.at_ with h | ⟨b, off, h1, h2⟩
  · exact .inl h
  · refine .inr ⟨b, off, h1, fun j hj => ?_⟩
    obtain ⟨c0, c1, c2⟩ := h2 j hj
    exact ⟨(hb.cell (p := ⟨b, _, none⟩) (lt_of_cell c0)).trans c0, (hb.cell (p := ⟨b, _, none⟩) (lt_of_cell c1)).trans c1, (hb.cell (p := ⟨b, _, none⟩) (lt_of_cell c2)).trans c2⟩

theorem PagesAt.cells {w : World} {b off : Nat} {ps : List Pg} (h : PagesAt w (some ⟨b, off, none⟩) ps) {j : Nat} (hj : j < ps.length) :
    w.cell? ⟨b, off + j * 3, none⟩ = some (.int .i64 (ps.getD j default).at_) ∧ w.cell? ⟨b, off + j * 3 + 1, none⟩ = some (.int .i64 (ps.getD j default).r) ∧
      w.cell? ⟨b, off + j * 3 + 2, none⟩ = some (.slice (ps.getD j default).a (ps.getD j default).ws.length (ps.getD j default).cap) := by
  rcases h.at_ with rfl | ⟨b', off', h1, h2⟩
  · simp at hj
  · simp at h1
    obtain ⟨rfl, rfl⟩ := h1
    exact h2 j hj

theorem round_below {w wr w1 : World} {o : Obj} (h : Below w.heap.size w wr) (hb : Below (wr.alloc o).heap.size (wr.alloc o) w1) (n : Nat) : Below w.heap.size w (w1.drewN n) :=
  below_drewN (h.trans ((((Below.refl _ _).alloc (Nat.le_refl _) _).trans (hb.mono (by simp))).mono h.size)) n

set_option maxHeartbeats 800000 in
theorem check_any (a : Option Addr) (ps : List Pg) (cap : Nat) (w : World) (hl : ps.length ≤ maxLen) (hx : PagesAt w a ps) :
    Calls Try.prog 25 #[.slice a ps.length cap] w fun e w' => e = .returned (.int .i64 (imageF ps)) ∧ Below w.heap.size w w' := by
  unfold maxLen at hl
  rcases hx.at_ with rfl | ⟨b, off, rfl, hc⟩
  · clear hx
    go_enter Try.func25, Try.ntmps25
    go_wp2
    refine wp_loop_rounds 1 ?_
    rw [rounds_succ]
    go_wp2
    go_ret
    exact ⟨rfl, Below.refl _ _⟩
  · clear hc
    go_enter Try.func25, Try.ntmps25
    go_wp2
    go_loopw [8] (fun i wr => ∃ k : Nat, k ≤ ps.length ∧ i = .int .i64 k ∧ Below w.heap.size w wr ∧ Hid (imageF ps = imgF (prev ps k) (ps.drop k))) (fun i _ => ps.length - (intOf i).toNat)
    case atStart => exact ⟨0, Nat.zero_le _, rfl, Below.refl _ _, rfl⟩
    case round =>
      obtain ⟨k, hk, rfl, hbel, hid⟩ := hrel
      have hX := hx.below hbel
      by_cases hlt : k < ps.length
      · rcases hX.at_ with rfl | ⟨b', off', hab, hc⟩
        · simp at hlt
        · simp at hab
          obtain ⟨rfl, rfl⟩ := hab
          obtain ⟨c0, c1, c2⟩ := hc k hlt
          have hpre : 0 < k → wr.cell? ⟨b, off + (k - 1) * 3, none⟩ = some (.int .i64 (ps.getD (k - 1) default).at_) := fun _ => (hc (k - 1) (by omega)).1
          have hok := hX.ok k hlt
          obtain ⟨P, hP⟩ : ∃ P, ps.getD k default = P := ⟨_, rfl⟩
          obtain ⟨q, hq⟩ : ∃ q, (ps.getD (k - 1) default).at_ = q := ⟨_, rfl⟩
          rw [hP] at c0 c1 c2 hok
          rw [hq] at hpre
          have HP : Hid (ps.getD k default = P) := hP
          have HQ : Hid ((ps.getD (k - 1) default).at_ = q) := hq
          clear hP hq hc hx hX
          obtain ⟨pat, pr, pa, pws, pcap⟩ := P
          have hcall := fun w' (h : Below wr.heap.size wr w') => checkPage_any pat pr pa pws pcap w' hok.wr hok.len (hok.ints.below h)
          have HF : Hid ((Pg.mk pat pr pa pws pcap).f = pageF pat pr pws) := rfl
          clear hok
          dsimp only at c0 c1 c2
          generalize pageF pat pr pws = z at hcall HF
          by_cases hz : z = 0
          · subst hz
            by_cases hk0 : k = 0
            · subst hk0
              clear hpre
              simp at c0 c1 c2
              go_wp2_with (go_at_call 23; go_must (refine (hcall _ ((Below.refl _ _).alloc (Nat.le_refl _) _)).mono ?_); rintro e w1 ⟨rfl, hb⟩; obtain ⟨hc, hf⟩ := bcell hb)
              go_quiet (fail)
              go_wp2
              go_roundw
              case rel => exact ⟨0 + 1, by omega, by go_num, round_below hbel hb _, by rw [hid.out, imgF_first ps hlt (by rw [HP.out]; exact HF.out)]; exact rfl⟩
              case measure => simp [intOf]; omega
            · have hk1 : (0 : Int) < (k : Int) := by omega
              have hk2 : 0 < k := by omega
              have hp := hpre hk2
              clear hpre
              go_wp2_with (go_at_call 23; go_must (refine (hcall _ ((Below.refl _ _).alloc (Nat.le_refl _) _)).mono ?_); rintro e w1 ⟨rfl, hb⟩; obtain ⟨hc, hf⟩ := bcell hb)
              have hpw : w1.cell? ⟨b, off + (k - 1) * 3, none⟩ = some (.int .i64 q) := by
                rw [hc _ _ (by have := lt_of_cell hp; simp at this; simp; omega), World.cell?_alloc_past _ _ _ (by have := lt_of_cell hp; simpa using this)]; exact hp
              by_cases hle : pat ≤ q
              · go_quiet (fail)
                go_wp2
                go_ret
                exact ⟨ret_int (by rw [hid.out, imgF_order ps k hlt hk2 (by rw [HP.out]; exact HF.out) (by rw [HP.out, HQ.out]; exact hle)]), round_below hbel hb _⟩
              · go_quiet (fail)
                go_wp2
                go_roundw
                case rel => exact ⟨k + 1, by omega, by go_num, round_below hbel hb _, by rw [hid.out, imgF_next ps k hlt hk2 (by rw [HP.out]; exact HF.out) (by rw [HP.out, HQ.out]; exact hle)]; exact rfl⟩
                case measure => simp [intOf]; omega
          · have hz1 : (z != 0) = true := by simpa using hz
            clear hpre
            go_wp2_with (go_at_call 23; go_must (refine (hcall _ ((Below.refl _ _).alloc (Nat.le_refl _) _)).mono ?_); rintro e w1 ⟨rfl, hb⟩; obtain ⟨hc, hf⟩ := bcell hb)
            go_ret
            exact ⟨ret_int (by rw [hid.out, imgF_bad ps k hlt (by rw [HP.out, HF.out]; exact hz), HP.out, HF.out]), round_below hbel hb 0⟩
      · have hkl : k = ps.length := by omega
        subst hkl
        go_wp2
        go_ret
        exact ⟨ret_int (by rw [hid.out, imgF_end]), hbel⟩

theorem round_below' {w wr w1 : World} (h : Below w.heap.size w wr) (hb : Below wr.heap.size wr w1) (n : Nat) : Below w.heap.size w (w1.drewN n) :=
  below_drewN (h.trans (hb.mono h.size)) n

set_option maxHeartbeats 800000 in
theorem imageFault_any (a : Option Addr) (ps : List Pg) (cap : Nat) (w : World) (hl : ps.length ≤ maxLen) (hx : PagesAt w a ps) :
    Calls Try.prog 26 #[.slice a ps.length cap] w fun e w' => e = .returned (.int .i64 (imageF ps)) ∧ Below w.heap.size w w' := by
  unfold maxLen at hl
  rcases hx.at_ with rfl | ⟨b, off, rfl, hc⟩
  · clear hx
    go_enter Try.func26, Try.ntmps26
    go_wp2
    refine wp_loop_rounds 1 ?_
    rw [rounds_succ]
    go_wp2
    go_ret
    exact ⟨rfl, Below.refl _ _⟩
  · clear hc
    go_enter Try.func26, Try.ntmps26
    go_wp2
    go_loopw [3] (fun i wr => ∃ k : Nat, k ≤ ps.length ∧ i = .int .i64 k ∧ Below w.heap.size w wr ∧ Hid (imageF ps = imgF (prev ps k) (ps.drop k))) (fun i _ => ps.length - (intOf i).toNat)
    case atStart => exact ⟨0, Nat.zero_le _, rfl, Below.refl _ _, rfl⟩
    case round =>
      obtain ⟨k, hk, rfl, hbel, hid⟩ := hrel
      have hX := hx.below hbel
      by_cases hlt : k < ps.length
      · rcases hX.at_ with rfl | ⟨b', off', hab, hc⟩
        · simp at hlt
        · simp at hab
          obtain ⟨rfl, rfl⟩ := hab
          obtain ⟨c0, c1, c2⟩ := hc k hlt
          have hpre : 0 < k → wr.cell? ⟨b, off + (k - 1) * 3, none⟩ = some (.int .i64 (ps.getD (k - 1) default).at_) := fun _ => (hc (k - 1) (by omega)).1
          have hok := hX.ok k hlt
          obtain ⟨P, hP⟩ : ∃ P, ps.getD k default = P := ⟨_, rfl⟩
          obtain ⟨q, hq⟩ : ∃ q, (ps.getD (k - 1) default).at_ = q := ⟨_, rfl⟩
          rw [hP] at c0 c1 c2 hok
          rw [hq] at hpre
          have HP : Hid (ps.getD k default = P) := hP
          have HQ : Hid ((ps.getD (k - 1) default).at_ = q) := hq
          clear hP hq hc hx hX
          obtain ⟨pat, pr, pa, pws, pcap⟩ := P
          have hcall := fun w' (h : Below wr.heap.size wr w') => pageFault_any pat pr pa pws pcap w' hok.len (hok.ints.below h)
          have HF : Hid ((Pg.mk pat pr pa pws pcap).f = pageF pat pr pws) := rfl
          clear hok
          dsimp only at c0 c1 c2
          generalize pageF pat pr pws = z at hcall HF
          by_cases hz : z = 0
          · subst hz
            by_cases hk0 : k = 0
            · subst hk0
              clear hpre
              simp at c0 c1 c2
              go_wp2_with (go_at_call 24; go_must (refine (hcall _ (Below.refl _ _)).mono ?_); rintro e w1 ⟨rfl, hb⟩; obtain ⟨hc, hf⟩ := bcell hb)
              go_quiet (fail)
              go_wp2
              go_roundw
              case rel => exact ⟨0 + 1, by omega, by go_num, round_below' hbel hb _, by rw [hid.out, imgF_first ps hlt (by rw [HP.out]; exact HF.out)]; exact rfl⟩
              case measure => simp [intOf]; omega
            · have hk1 : (0 : Int) < (k : Int) := by omega
              have hk2 : 0 < k := by omega
              have hp := hpre hk2
              clear hpre
              go_wp2_with (go_at_call 24; go_must (refine (hcall _ (Below.refl _ _)).mono ?_); rintro e w1 ⟨rfl, hb⟩; obtain ⟨hc, hf⟩ := bcell hb)
              have hpw : w1.cell? ⟨b, off + (k - 1) * 3, none⟩ = some (.int .i64 q) := by
                rw [hc _ _ (lt_of_cell hp)]; exact hp
              have hcw : w1.cell? ⟨b, off + k * 3, none⟩ = some (.int .i64 pat) := by rw [hc _ _ (lt_of_cell c0)]; exact c0
              by_cases hle : pat ≤ q
              · go_quiet (fail)
                go_wp2
                go_ret
                exact ⟨ret_int (by rw [hid.out, imgF_order ps k hlt hk2 (by rw [HP.out]; exact HF.out) (by rw [HP.out, HQ.out]; exact hle)]), round_below' hbel hb _⟩
              · go_quiet (fail)
                go_wp2
                go_roundw
                case rel => exact ⟨k + 1, by omega, by go_num, round_below' hbel hb _, by rw [hid.out, imgF_next ps k hlt hk2 (by rw [HP.out]; exact HF.out) (by rw [HP.out, HQ.out]; exact hle)]; exact rfl⟩
                case measure => simp [intOf]; omega
          · have hz1 : (z != 0) = true := by simpa using hz
            clear hpre
            go_wp2_with (go_at_call 24; go_must (refine (hcall _ (Below.refl _ _)).mono ?_); rintro e w1 ⟨rfl, hb⟩; obtain ⟨hc, hf⟩ := bcell hb)
            go_ret
            exact ⟨ret_int (by rw [hid.out, imgF_bad ps k hlt (by rw [HP.out, HF.out]; exact hz), HP.out, HF.out]), round_below' hbel hb 0⟩
      · have hkl : k = ps.length := by omega
        subst hkl
        go_wp2
        go_ret
        exact ⟨ret_int (by rw [hid.out, imgF_end]), hbel⟩

end Go.Proofs.Ytdbbiibnhgcndaa
