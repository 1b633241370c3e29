/-
  What samePages (riddlekeep) answers, for every two lists of pages: whether their pages hold the same; nothing that was in memory turns.
-/
import Derived.Test.YtdbbiibnhgcndaaDoorDecode
namespace Go.Proofs.YtdbbiibnhgcndaaDoor
open Go.RowKit

theorem Ints.drewNK {w : World} {a : Option Addr} {xs : List Int} (h : Ints w a xs) (n : Nat) : Ints (w.drewN n) a xs := h.below (below_drewN (Below.refl _ _) n)
theorem eq_upto {α : Type} [Inhabited α] {xs ys : List α} (hl : xs.length = ys.length) (d : α) (h : ∀ j, j < xs.length → xs.getD j d = ys.getD j d) : xs = ys := by
  apply List.ext_getElem hl
  intro i h1 h2
  have := h i h1
  simpa [List.getD_eq_getElem?_getD, h1, h2] using this

set_option maxHeartbeats 1000000 in
theorem equal_any (a b : Option Addr) (xs ys : List Int) (ca cb : Nat) (w : World) (hl : xs.length ≤ maxLen) (hl2 : ys.length ≤ maxLen) (ha : Ints w a xs) (hb : Ints w b ys) :
    Calls Tryd.prog 44 #[.slice a xs.length ca, .slice b ys.length cb] w fun e w' => e = .returned (.bool (decide (xs = ys))) ∧ ∃ n, w' = w.drewN n := by
  unfold maxLen at hl hl2
  by_cases hlen : xs.length = ys.length
  · rcases ha with rfl | ⟨ba, oa, rfl, hca⟩
    · have : ys = [] := List.eq_nil_of_length_eq_zero hlen.symm
      subst this
      clear hlen
      go_enter Tryd.func44, Tryd.ntmps44
      go_wp2
      refine wp_loop_rounds 1 ?_
      rw [rounds_succ]
      go_wp2
      go_ret
      exact ⟨rfl, 0, rfl⟩
    · rcases hb with rfl | ⟨bb, ob, rfl, hcb⟩
      · have : xs = [] := List.eq_nil_of_length_eq_zero hlen
        subst this
        clear hlen hca
        go_enter Tryd.func44, Tryd.ntmps44
        go_wp2
        refine wp_loop_rounds 1 ?_
        rw [rounds_succ]
        go_wp2
        go_ret
        exact ⟨rfl, 0, rfl⟩
      · have HLE : Hid (xs.length = ys.length) := hlen
        rw [← hlen]
        have hcb' : ∀ j, j < xs.length → w.cell? ⟨bb, ob + j, none⟩ = some (.int .i64 (ys.getD j 0)) := fun j hj => hcb j (by omega)
        clear hlen hcb hl2
        go_enter Tryd.func44, Tryd.ntmps44
        go_wp2
        go_loopw [13] (fun i wr => ∃ k : Nat, k ≤ xs.length ∧ i = .int .i64 k ∧ Hid (∀ j, j < k → xs.getD j 0 = ys.getD j 0) ∧ ∃ n, wr = w.drewN n) (fun i _ => xs.length - (intOf i).toNat)
        case atStart => exact ⟨0, Nat.zero_le _, rfl, fun j hj => absurd hj (by omega), 0, rfl⟩
        case round =>
          obtain ⟨k, hk, rfl, hid, n, rfl⟩ := hrel
          by_cases hlt : k < xs.length
          · have h1 := hca k hlt
            have h2 := hcb' k hlt
            by_cases he : xs.getD k 0 = ys.getD k 0
            · rw [← he] at h2
              have HN : Hid (∀ j, j < k + 1 → xs.getD j 0 = ys.getD j 0) := fun j hj => by
                by_cases e : j < k
                · exact hid.out j e
                · have : j = k := by omega
                  subst this; exact he
              clear he
              generalize xs.getD k 0 = z at h1 h2
              clear hca hcb'
              go_wp2
              go_quiet (fail)
              go_wp2
              go_roundw
              case rel => exact ⟨k + 1, by omega, by go_num, HN, _, rfl⟩
              case measure => simp [intOf]; omega
            · have HN : Hid (decide (xs = ys) = false) := show decide (xs = ys) = false by
                rw [decide_eq_false_iff_not]; intro e; rw [e] at he; exact he rfl
              have hne : (xs.getD k 0 != ys.getD k 0) = true := by simpa using he
              clear he
              generalize xs.getD k 0 = z at h1 hne
              generalize ys.getD k 0 = y at h2 hne
              clear hca hcb'
              go_wp2
              go_quiet (fail)
              go_wp2
              go_ret
              exact ⟨ret_bool HN.out.symm, _, World.drewN_drewN _ _ _⟩
          · have hkl : k = xs.length := by omega
            subst hkl
            have HN : Hid (decide (xs = ys) = true) := show decide (xs = ys) = true by
              rw [decide_eq_true_iff]; exact eq_upto HLE.out 0 hid.out
            clear hca hcb'
            go_wp2
            go_ret
            exact ⟨ret_bool HN.out.symm, n, rfl⟩
  · have HN : Hid (decide (xs = ys) = false) := show decide (xs = ys) = false by
      rw [decide_eq_false_iff_not]; intro e; rw [e] at hlen; exact hlen rfl
    have hne : ((xs.length : Int) != (ys.length : Int)) = true := by simp; omega
    clear hlen ha hb
    go_enter Tryd.func44, Tryd.ntmps44
    go_wp2
    go_ret
    exact ⟨ret_bool HN.out.symm, 0, rfl⟩

theorem dat_eq (p q : Pg) : decide (p.dat = q.dat) = ((p.at_ == q.at_) && (p.r == q.r) && decide (p.ws = q.ws)) := by
  rw [Bool.eq_iff_iff]
  simp [Pg.dat, and_assoc]

set_option maxHeartbeats 1000000 in
theorem samePage_any (p q : Pg) (w : World) (hp : p.Ok w) (hq : q.Ok w) :
    Calls Tryd.prog 43 #[p.val, q.val] w fun e w' => e = .returned (.bool (decide (p.dat = q.dat))) ∧ Below w.heap.size w w' := by
  have hE := fun w' (h : Below w.heap.size w w') => equal_any p.a q.a p.ws q.ws p.cap q.cap w' hp.len hq.len (hp.ints.below h) (hq.ints.below h)
  rw [dat_eq]
  obtain ⟨pat, pr, pa, pws, pcap⟩ := p
  obtain ⟨qat, qr, qa, qws, qcap⟩ := q
  dsimp only [Pg.val] at hE ⊢
  generalize decide (pws = qws) = c at hE ⊢
  have hE2 := fun (o o' : Obj) => hE ((w.alloc o).alloc o') (((Below.refl _ _).alloc (Nat.le_refl _) _).alloc (by simp) _)
  clear hE hp hq
  cases h1 : (pat == qat) <;> cases h2 : (pr == qr) <;> cases c
  all_goals
    go_enter Tryd.func43, Tryd.ntmps43
    go_wp2_with (go_at_call 44; go_must (refine (hE2 _ _).mono ?_); rintro e w1 ⟨rfl, n, rfl⟩)
    go_ret
    first | exact ⟨rfl, ((Below.refl _ _).alloc (Nat.le_refl _) _).alloc (by simp) _⟩ | exact ⟨rfl, below_drewN (((Below.refl _ _).alloc (Nat.le_refl _) _).alloc (by simp) _) _⟩

theorem map_eq_upto {ps qs : List Pg} (hl : ps.length = qs.length) (h : ∀ j, j < ps.length → (ps.getD j default).dat = (qs.getD j default).dat) : ps.map Pg.dat = qs.map Pg.dat := by
  apply List.ext_getElem (by simpa using hl)
  intro i h1 h2
  simp only [List.length_map] at h1 h2
  have := h i h1
  simpa [List.getD_eq_getElem?_getD, h1, h2] using this
theorem map_ne {ps qs : List Pg} {k : Nat} (hk : k < ps.length) (hl : ps.length = qs.length) (h : ¬ (ps.getD k default).dat = (qs.getD k default).dat) : ¬ ps.map Pg.dat = qs.map Pg.dat := fun e => by
  have := congrArg (fun l => l[k]?) e
  have hk2 : k < qs.length := by omega
  simp [hk, hk2] at this
  apply h
  simpa [List.getD_eq_getElem?_getD, hk, hk2] using this

set_option maxHeartbeats 2000000 in
theorem equalFunc_any (a b : Option Addr) (ps qs : List Pg) (ca cb : Nat) (w : World) (hl : ps.length ≤ 1000) (_hl2 : qs.length ≤ 1000) (ha : PagesAt w a ps) (hb : PagesAt w b qs) :
    Calls Tryd.prog 42 #[.slice a ps.length ca, .slice b qs.length cb, .func (.func 43) #[] #[]] w fun e w' => e = .returned (.bool (decide (ps.map Pg.dat = qs.map Pg.dat))) ∧ Below w.heap.size w w' := by
  by_cases hlen : ps.length = qs.length
  · have HLE : Hid (ps.length = qs.length) := hlen
    rw [← hlen]
    have HA : Hid (PagesAt w a ps) := ha
    have HB : Hid (PagesAt w b qs) := hb
    clear hlen ha hb _hl2
    go_enter Tryd.func42, Tryd.ntmps42
    go_wp2
    go_loopw [17] (fun i wr => ∃ k : Nat, k ≤ ps.length ∧ i = .int .i64 k ∧ Hid (∀ j, j < k → (ps.getD j default).dat = (qs.getD j default).dat) ∧ Below w.heap.size w wr) (fun i _ => ps.length - (intOf i).toNat)
    case atStart => exact ⟨0, Nat.zero_le _, rfl, fun j hj => absurd hj (by omega), Below.refl _ _⟩
    case round =>
      obtain ⟨k, hk, rfl, hid, hbel⟩ := hrel
      by_cases hlt : k < ps.length
      · have hX := HA.out.below hbel
        have hY := HB.out.below hbel
        have hlt2 : k < qs.length := by have := HLE.out; omega
        rcases HA.out.at_ with rfl | ⟨ba, oa, rfl, _⟩
        · simp at hlt
        · rcases HB.out.at_ with rfl | ⟨bb, ob, rfl, _⟩
          · simp at hlt2
          · obtain ⟨a0, a1, a2⟩ := hX.cells hlt
            obtain ⟨b0, b1, b2⟩ := hY.cells hlt2
            have oka := hX.ok k hlt
            have okb := hY.ok k hlt2
            have HN : Hid ((ps.getD k default).dat = (qs.getD k default).dat → ∀ j, j < k + 1 → (ps.getD j default).dat = (qs.getD j default).dat) := fun he j hj => by
              by_cases e : j < k
              · exact hid.out j e
              · have : j = k := by omega
                subst this; exact he
            have HM : Hid (¬ (ps.getD k default).dat = (qs.getD k default).dat → decide (ps.map Pg.dat = qs.map Pg.dat) = false) := fun he => decide_eq_false (map_ne hlt HLE.out he)
            generalize ps.getD k default = P at a0 a1 a2 oka HN HM
            generalize qs.getD k default = R at b0 b1 b2 okb HN HM
            have hcall := fun w' (h : Below wr.heap.size wr w') => samePage_any P R w' (oka.below h) (okb.below h)
            obtain ⟨pat, pr, pa, pws, pcap⟩ := P
            obtain ⟨rat, rr, ra, rws, rcap⟩ := R
            dsimp only [Pg.val] at a0 a1 a2 b0 b1 b2 hcall
            have hcall2 := fun (o o' : Obj) => hcall ((wr.alloc o).alloc o') (((Below.refl _ _).alloc (Nat.le_refl _) _).alloc (by simp) _)
            have lta := lt_of_cell a0
            have ltb := lt_of_cell b0
            have hlq : (k : Int) < (ps.length : Int) := by omega
            clear hcall oka okb hX hY HA HB
            by_cases he : (Pg.mk pat pr pa pws pcap).dat = (Pg.mk rat rr ra rws rcap).dat
            · have HN2 : Hid _ := HN.out he
              rw [decide_eq_true he] at hcall2
              clear HN HM he
              go_wp2_with (go_at_call 43; go_must (refine (hcall2 _ _).mono ?_); rintro e w1 ⟨rfl, hb1⟩)
              go_roundw
              case rel => exact ⟨k + 1, by omega, by go_num, HN2, hbel.trans ((((Below.refl _ _).alloc (Nat.le_refl _) _).alloc (by simp) _).trans (hb1.mono (by simp; omega)) |>.mono hbel.size)⟩
              case measure => simp [intOf]; omega
            · have HM2 : Hid _ := HM.out he
              rw [decide_eq_false he] at hcall2
              clear HN HM he
              go_wp2_with (go_at_call 43; go_must (refine (hcall2 _ _).mono ?_); rintro e w1 ⟨rfl, hb1⟩)
              go_ret
              exact ⟨ret_bool HM2.out.symm, hbel.trans ((((Below.refl _ _).alloc (Nat.le_refl _) _).alloc (by simp) _).trans (hb1.mono (by simp; omega)) |>.mono hbel.size)⟩
      · have hkl : k = ps.length := by omega
        subst hkl
        have HM : Hid (decide (ps.map Pg.dat = qs.map Pg.dat) = true) := decide_eq_true (map_eq_upto HLE.out hid.out)
        clear HA HB
        go_wp2
        go_ret
        exact ⟨ret_bool HM.out.symm, hbel⟩
  · have HN : Hid (decide (ps.map Pg.dat = qs.map Pg.dat) = false) := decide_eq_false fun e => hlen (by simpa using congrArg List.length e)
    have hne : ((ps.length : Int) != (qs.length : Int)) = true := by simp; omega
    clear hlen ha hb
    go_enter Tryd.func42, Tryd.ntmps42
    go_wp2
    go_ret
    exact ⟨ret_bool HN.out.symm, Below.refl _ _⟩

theorem samePages_any (a b : Option Addr) (ps qs : List Pg) (ca cb : Nat) (w : World) (hl : ps.length ≤ 1000) (hl2 : qs.length ≤ 1000) (ha : PagesAt w a ps) (hb : PagesAt w b qs) :
    Calls Tryd.prog 21 #[.slice a ps.length ca, .slice b qs.length cb] w fun e w' => e = .returned (.bool (decide (ps.map Pg.dat = qs.map Pg.dat))) ∧ Below w.heap.size w w' := by
  have h := equalFunc_any a b ps qs ca cb w hl hl2 ha hb
  generalize decide (ps.map Pg.dat = qs.map Pg.dat) = c at h ⊢
  clear ha hb hl hl2
  go_enter Tryd.func21, Tryd.ntmps21
  go_wp2_with (go_at_call 42; go_must (refine h.mono ?_); rintro e w1 ⟨rfl, hb1⟩)
  go_ret
  exact ⟨rfl, hb1⟩

end Go.Proofs.YtdbbiibnhgcndaaDoor
