/-
  What the calls Check (trust) and ChallengerFault (riddleref) answer for every challenger: what it is refused for. They turn nothing. No condition.
-/
import Derived.Test.YtdbbiibnhgcndaaChal
import Derived.Test.YtdbbiibnhgcndaaIdxBase
import Derived.Handy
import Derived.Outline
import Derived.Deep.CutRange
namespace Go.Proofs.Ytdbbiibnhgcndaa
open Go.RowKit

def tooLong (s : ByteArray) : Bool := decide (1000 < (s.size : Int))
def noNonce (n : Int) : Bool := !inB n 0 1
/-- what a challenger is refused for (0: nothing) -/
def chF (tr : List ByteArray) (ns : List Int) : Int := if 4 < tr.length ∨ 20 < ns.length then 1 else if tr.any tooLong || ns.any noNonce then 8 else 0
theorem chF_zero {tr : List ByteArray} {ns : List Int} (h : chF tr ns = 0) : tr.length ≤ 4 ∧ ns.length ≤ 20 ∧ tr.any tooLong = false ∧ ns.any noNonce = false := by
  unfold chF at h
  split at h
  · omega
  · rename_i h1
    split at h
    · omega
    · rename_i h2
      simp only [Bool.or_eq_true, not_or, Bool.not_eq_true] at h2
      exact ⟨by omega, by omega, h2.1, h2.2⟩

set_option maxHeartbeats 400000 in
theorem tooLong_any (s : ByteArray) (w : World) : Calls Try.prog 85 #[.string s] w fun e w' => e = .returned (.bool (tooLong s)) ∧ Below w.heap.size w w' := by
  unfold tooLong
  go_enter Try.func85, Try.ntmps85
  go_wp2
  go_ret
  exact ⟨rfl, Below.refl _ _⟩
theorem noNonce_any (n : Int) (w : World) : Calls Try.prog 86 #[.int .i64 n] w fun e w' => e = .returned (.bool (noNonce n)) ∧ Below w.heap.size w w' := by
  have hE : noNonce n = (n != 0 && n != 1) := by
    unfold noNonce inB
    rw [Bool.eq_iff_iff]
    simp
    omega
  rw [hE]
  by_cases h0 : n = 0
  · subst h0
    go_enter Try.func86, Try.ntmps86
    go_wp2
    go_ret
    exact ⟨rfl, Below.refl _ _⟩
  · have h1 : (n != 0) = true := by simpa using h0
    rw [h1]
    clear h0 hE
    go_enter Try.func86, Try.ntmps86
    go_wp2
    go_ret
    exact ⟨rfl, Below.refl _ _⟩

set_option maxHeartbeats 800000 in
theorem tooLong_index (a : Option Addr) (xs : List ByteArray) (cap : Nat) (p : ByteArray → Bool) (w : World) (hl : xs.length ≤ maxLen) (hx : Texts w a xs)
    (hp : ∀ x w', Below w.heap.size w w' → Calls Try.prog 85 #[.string x] w' fun e w'' => e = .returned (.bool (p x)) ∧ Below w'.heap.size w' w'') :
    Calls Try.prog 95 #[.slice a xs.length cap, .func (.func 85) #[] #[]] w fun e w' => e = .returned (.int .i64 (idxOf p xs)) ∧ Below w.heap.size w w' := by
  unfold maxLen at hl
  rcases hx with rfl | ⟨b, off, rfl, hc⟩
  · clear hp
    go_enter Try.func95, Try.ntmps95
    go_wp2
    refine wp_loop_rounds 1 ?_
    rw [rounds_succ]
    go_wp2
    go_ret
    exact ⟨rfl, Below.refl _ _⟩
  · go_enter Try.func95, Try.ntmps95
    go_wp2
    go_loopw [8] (fun i wr => ∃ k : Nat, k ≤ xs.length ∧ i = .int .i64 k ∧ Below w.heap.size w wr ∧ Hid (∀ j, j < k → p (xs.getD j default) = false)) (fun i _ => xs.length - (intOf i).toNat)
    case atStart => exact ⟨0, Nat.zero_le _, rfl, Below.refl _ _, fun j hj => absurd hj (by omega)⟩
    case round =>
      obtain ⟨k, hk, rfl, hbel, hid⟩ := hrel
      by_cases hlt : k < xs.length
      · have k0 := hc k hlt
        obtain ⟨P, hP⟩ : ∃ P, xs.getD k default = P := ⟨_, rfl⟩
        rw [hP] at k0
        have HP : Hid (xs.getD k default = P) := hP
        have hcall := hp P
        clear hP hc hp
        have bl : b < w.heap.size := lt_of_cell k0
        have l0 : wr.cell? ⟨b, off + k, none⟩ = some (.string P) := (hbel.cell (p := ⟨b, _, none⟩) bl).trans k0
        clear k0 bl
        obtain ⟨z, hz⟩ : ∃ z, p P = z := ⟨_, rfl⟩
        rw [hz] at hcall
        have HZ : Hid (p (xs.getD k default) = z) := by rw [HP.out]; exact hz
        clear hz
        cases z with
        | false =>
          go_wp2_with (go_at_call 85; refine (hcall _ hbel).mono ?_; rintro e w1 ⟨rfl, hb1⟩)
          go_roundw
          case rel => exact ⟨k + 1, by omega, by go_num, hbel.trans (hb1.mono hbel.size), snoc_false hid HZ.out⟩
          case measure => simp [intOf]; omega
        | true =>
          go_wp2_with (go_at_call 85; refine (hcall _ hbel).mono ?_; rintro e w1 ⟨rfl, hb1⟩)
          go_ret
          exact ⟨ret_int (idxOf_at hlt hid.out HZ.out).symm, hbel.trans (hb1.mono hbel.size)⟩
      · have hkl : k = xs.length := by omega
        subst hkl
        clear hp hc
        go_wp2
        go_ret
        exact ⟨ret_int (idxOf_none hid.out).symm, hbel⟩

theorem tooLong_contains (a : Option Addr) (xs : List ByteArray) (cap : Nat) (p : ByteArray → Bool) (w : World) (hl : xs.length ≤ maxLen) (hx : Texts w a xs)
    (hp : ∀ x w', Below w.heap.size w w' → Calls Try.prog 85 #[.string x] w' fun e w'' => e = .returned (.bool (p x)) ∧ Below w'.heap.size w' w'') :
    Calls Try.prog 87 #[.slice a xs.length cap, .func (.func 85) #[] #[]] w fun e w' => e = .returned (.bool (xs.any p)) ∧ Below w.heap.size w w' := by
  have hI := tooLong_index a xs cap  p w hl hx hp
  have E := idxOf_any p xs
  generalize idxOf p xs = z at hI E
  rw [← E]
  clear hx hl hp E
  go_enter Try.func87, Try.ntmps87
  go_wp2_with (go_at_call 95; refine hI.mono ?_; rintro e w' ⟨rfl, hb⟩)
  go_ret
  exact ⟨rfl, hb⟩

set_option maxHeartbeats 800000 in
theorem noNonce_index (a : Option Addr) (xs : List Int) (cap : Nat) (p : Int → Bool) (w : World) (hl : xs.length ≤ maxLen) (hx : Ints w a xs)
    (hp : ∀ x w', Below w.heap.size w w' → Calls Try.prog 86 #[.int .i64 x] w' fun e w'' => e = .returned (.bool (p x)) ∧ Below w'.heap.size w' w'') :
    Calls Try.prog 89 #[.slice a xs.length cap, .func (.func 86) #[] #[]] w fun e w' => e = .returned (.int .i64 (idxOf p xs)) ∧ Below w.heap.size w w' := by
  unfold maxLen at hl
  rcases hx with rfl | ⟨b, off, rfl, hc⟩
  · clear hp
    go_enter Try.func89, Try.ntmps89
    go_wp2
    refine wp_loop_rounds 1 ?_
    rw [rounds_succ]
    go_wp2
    go_ret
    exact ⟨rfl, Below.refl _ _⟩
  · go_enter Try.func89, Try.ntmps89
    go_wp2
    go_loopw [8] (fun i wr => ∃ k : Nat, k ≤ xs.length ∧ i = .int .i64 k ∧ Below w.heap.size w wr ∧ Hid (∀ j, j < k → p (xs.getD j default) = false)) (fun i _ => xs.length - (intOf i).toNat)
    case atStart => exact ⟨0, Nat.zero_le _, rfl, Below.refl _ _, fun j hj => absurd hj (by omega)⟩
    case round =>
      obtain ⟨k, hk, rfl, hbel, hid⟩ := hrel
      by_cases hlt : k < xs.length
      · have k0 := hc k hlt
        obtain ⟨P, hP⟩ : ∃ P, xs.getD k 0 = P := ⟨_, rfl⟩
        rw [hP] at k0
        have HP : Hid (xs.getD k default = P) := hP
        have hcall := hp P
        clear hP hc hp
        have bl : b < w.heap.size := lt_of_cell k0
        have l0 : wr.cell? ⟨b, off + k, none⟩ = some (.int .i64 P) := (hbel.cell (p := ⟨b, _, none⟩) bl).trans k0
        clear k0 bl
        obtain ⟨z, hz⟩ : ∃ z, p P = z := ⟨_, rfl⟩
        rw [hz] at hcall
        have HZ : Hid (p (xs.getD k default) = z) := by rw [HP.out]; exact hz
        clear hz
        cases z with
        | false =>
          go_wp2_with (go_at_call 86; refine (hcall _ hbel).mono ?_; rintro e w1 ⟨rfl, hb1⟩)
          go_roundw
          case rel => exact ⟨k + 1, by omega, by go_num, hbel.trans (hb1.mono hbel.size), snoc_false hid HZ.out⟩
          case measure => simp [intOf]; omega
        | true =>
          go_wp2_with (go_at_call 86; refine (hcall _ hbel).mono ?_; rintro e w1 ⟨rfl, hb1⟩)
          go_ret
          exact ⟨ret_int (idxOf_at hlt hid.out HZ.out).symm, hbel.trans (hb1.mono hbel.size)⟩
      · have hkl : k = xs.length := by omega
        subst hkl
        clear hp hc
        go_wp2
        go_ret
        exact ⟨ret_int (idxOf_none hid.out).symm, hbel⟩

theorem noNonce_contains (a : Option Addr) (xs : List Int) (cap : Nat) (p : Int → Bool) (w : World) (hl : xs.length ≤ maxLen) (hx : Ints w a xs)
    (hp : ∀ x w', Below w.heap.size w w' → Calls Try.prog 86 #[.int .i64 x] w' fun e w'' => e = .returned (.bool (p x)) ∧ Below w'.heap.size w' w'') :
    Calls Try.prog 60 #[.slice a xs.length cap, .func (.func 86) #[] #[]] w fun e w' => e = .returned (.bool (xs.any p)) ∧ Below w.heap.size w w' := by
  have hI := noNonce_index a xs cap  p w hl hx hp
  have E := idxOf_any p xs
  generalize idxOf p xs = z at hI E
  rw [← E]
  clear hx hl hp E
  go_enter Try.func60, Try.ntmps60
  go_wp2_with (go_at_call 89; refine hI.mono ?_; rintro e w' ⟨rfl, hb⟩)
  go_ret
  exact ⟨rfl, hb⟩

theorem box2 {x v : World} {a b : Value} {t : TypeId} (h : Below (x.alloc (.cells #[a, b] t)).heap.size (x.alloc (.cells #[a, b] t)) v) :
    v.cell? ⟨x.heap.size, 0, none⟩ = some a ∧ v.cell? ⟨x.heap.size, 1, none⟩ = some b ∧ x.heap.size < v.heap.size := by
  refine ⟨(h.cell (p := ⟨x.heap.size, 0, none⟩) (by simp)).trans ?_, (h.cell (p := ⟨x.heap.size, 1, none⟩) (by simp)).trans ?_, by have := h.size; simp at this; omega⟩
  · rw [World.cell?_alloc_at _ _ _ _ rfl]; rfl
  · rw [World.cell?_alloc_at _ _ _ _ rfl]; rfl

set_option maxRecDepth 100000 in
set_option maxHeartbeats 1600000 in
theorem checkC_any (C : Cv) (w : World) (hC : ChalAt w C) :
    Calls Try.prog 49 #[C.val] w fun x w' => x = .returned (.int .i64 (chF C.tr C.ns)) ∧ Below w.heap.size w w' := by
  have h1 := fun w' (h : Below w.heap.size w w') => tooLong_contains C.ta C.tr C.tcap tooLong w' hC.ok.trl (hC.tr.below h) (fun s w'' _ => tooLong_any s w'')
  have h2 := fun w' (h : Below w.heap.size w w') => noNonce_contains C.na C.ns C.ncap noNonce w' hC.ok.nsl (hC.ns.below h) (fun s w'' _ => noNonce_any s w'')
  have B1 : ∀ o, Hid (Below w.heap.size w (w.alloc o)) := fun o => (Below.refl _ _).alloc (Nat.le_refl _) _
  have hl1 := hC.ok.trl
  have hl2 := hC.ok.nsl
  unfold maxLen at hl1 hl2
  unfold Cv.val chF
  clear hC
  obtain ⟨ta, tr, tcap, na, ns, ncap⟩ := C
  dsimp only at *
  by_cases k1 : 4 < tr.length
  · rw [if_pos (.inl k1)]
    clear h1 h2
    go_enter Try.func49, Try.ntmps49
    go_wp2
    go_ret
    exact ⟨rfl, (B1 _).out⟩
  · by_cases k2 : 20 < ns.length
    · rw [if_pos (.inr k2)]
      clear h1 h2
      go_enter Try.func49, Try.ntmps49
      go_wp2
      go_ret
      exact ⟨rfl, (B1 _).out⟩
    · rw [if_neg (by omega)]
      generalize tr.any tooLong = z1 at h1
      generalize ns.any noNonce = z2 at h2
      cases z1 with
      | true =>
        clear h2
        go_enter Try.func49, Try.ntmps49
        go_wp2_with (go_at_call 87; refine (h1 _ (B1 _).out).mono ?_; rintro x w1 ⟨rfl, hb1⟩)
        go_ret
        exact ⟨rfl, (B1 _).out.trans (hb1.mono (by simp))⟩
      | false =>
        cases z2
        all_goals
          go_enter Try.func49, Try.ntmps49
          go_wp2_with (first
            | (go_at_call 87; refine (h1 _ (B1 _).out).mono ?_; rintro x w1 ⟨rfl, hb1⟩; obtain ⟨m0, m1, ml⟩ := box2 hb1; have HB1 : Hid (Below w.heap.size w w1) := (B1 _).out.trans (hb1.mono (by simp)); clear hb1)
            | (go_at_call 60; refine (h2 _ HB1.out).mono ?_; rintro x w2 ⟨rfl, hb2⟩)
            | fail)
          go_ret
          exact ⟨rfl, HB1.out.trans (hb2.mono HB1.out.size)⟩

theorem any_at {α : Type} [Inhabited α] {p : α → Bool} {xs : List α} {k : Nat} (hk : k < xs.length) (hg : p (xs.getD k default) = true) : xs.any p = true :=
  List.any_eq_true.2 ⟨_, List.getElem_mem hk, by simpa [List.getD_eq_getElem?_getD, hk] using hg⟩
theorem any_none {α : Type} [Inhabited α] {p : α → Bool} {xs : List α} (h : ∀ j, j < xs.length → p (xs.getD j default) = false) : xs.any p = false := by
  rw [List.any_eq_false]
  intro x hx
  obtain ⟨i, hi, rfl⟩ := List.getElem_of_mem hx
  have := h i hi
  simp [List.getD_eq_getElem?_getD, hi] at this
  simp [this]

set_option maxRecDepth 100000 in
set_option maxHeartbeats 1600000 in
theorem faultC_any (C : Cv) (w : World) (hC : ChalAt w C) :
    Calls Try.prog 50 #[C.val] w fun x w' => x = .returned (.int .i64 (chF C.tr C.ns)) ∧ Below w.heap.size w w' := by
  obtain ⟨z, hz⟩ : ∃ z, Hid (chF C.tr C.ns = z) := ⟨_, rfl⟩
  rw [hz.out]
  have hl1 := hC.ok.trl
  have hl2 := hC.ok.nsl
  unfold maxLen at hl1 hl2
  have hT := hC.tr
  have hN := hC.ns
  unfold Cv.val
  clear hC
  obtain ⟨ta, tr, tcap, na, ns, ncap⟩ := C
  dsimp only at *
  obtain ⟨W2, hW2⟩ : ∃ W2, Hid (W2 = w.alloc (.cells #[.slice ta tr.length tcap, .slice na ns.length ncap] 61)) := ⟨_, rfl⟩
  have HBW : Hid (Below w.heap.size w W2) := by show Below _ _ _; rw [hW2.out]; exact (Below.refl _ _).alloc (Nat.le_refl _) _
  have p0 : W2.cell? ⟨w.heap.size, 0, none⟩ = some (.slice ta tr.length tcap) := by rw [hW2.out, World.cell?_alloc_at _ _ _ _ rfl]; rfl
  have p1 : W2.cell? ⟨w.heap.size, 1, none⟩ = some (.slice na ns.length ncap) := by rw [hW2.out, World.cell?_alloc_at _ _ _ _ rfl]; rfl
  replace hT := hT.below HBW.out
  replace hN := hN.below HBW.out
  by_cases k1 : 4 < tr.length
  · obtain rfl : z = 1 := by rw [← hz.out]; unfold chF; rw [if_pos (.inl k1)]
    clear hT hN hz
    go_enter Try.func50, Try.ntmps50
    go_upto_region 1 with fail
    rw [← hW2.out]
    go_wp2
    go_ret
    exact ⟨rfl, HBW.out⟩
  · by_cases k2 : 20 < ns.length
    · obtain rfl : z = 1 := by rw [← hz.out]; unfold chF; rw [if_pos (.inr k2)]
      clear hT hN hz
      go_enter Try.func50, Try.ntmps50
      go_upto_region 1 with fail
      rw [← hW2.out]
      go_wp2
      go_ret
      exact ⟨rfl, HBW.out⟩
    · have HZ : Hid (z = if tr.any tooLong || ns.any noNonce then 8 else 0) := by show z = _; rw [← hz.out]; unfold chF; rw [if_neg (by omega)]
      clear hz
      go_enter Try.func50, Try.ntmps50
      go_upto_region 1 with fail
      rw [← hW2.out]
      go_wp2
      go_loop [3] (fun i => ∃ k : Nat, k ≤ tr.length ∧ i = .int .i64 k ∧ Hid (∀ j, j < k → tooLong (tr.getD j default) = false)) (fun i => tr.length - (intOf i).toNat)
      case atStart => exact ⟨0, Nat.zero_le _, rfl, fun j hj => absurd hj (by omega)⟩
      case round =>
        obtain ⟨k, hk, rfl, hid⟩ := hrel
        by_cases hlt : k < tr.length
        · rcases hT with rfl | ⟨b, off, rfl, hc⟩
          · simp at hlt
          · have k0 := hc k hlt
            obtain ⟨P, hP⟩ : ∃ P, tr.getD k default = P := ⟨_, rfl⟩
            rw [hP] at k0
            have HP : Hid (tr.getD k default = P) := hP
            clear hP hc hN
            by_cases hs : 1000 < (P.size : Int)
            · have HT : Hid (tooLong (tr.getD k default) = true) := by show _ = _; rw [HP.out]; simp [tooLong, hs]
              go_wp2
              go_ret
              refine ⟨ret_int ?_, HBW.out⟩
              rw [HZ.out, any_at hlt HT.out]; rfl
            · have HT : Hid (tooLong (tr.getD k default) = false) := by show _ = _; rw [HP.out]; simp [tooLong, hs]
              go_wp2
              go_round
              case rel => exact ⟨k + 1, by omega, by go_num, snoc_false hid HT.out⟩
              case measure => simp [intOf]; omega
        · have hkl : k = tr.length := by omega
          subst hkl
          have HZ2 : Hid (z = if ns.any noNonce then 8 else 0) := by show z = _; rw [HZ.out, any_none hid.out]; simp
          clear HZ hid
          go_wp2
          go_loop [4] (fun i => ∃ k : Nat, k ≤ ns.length ∧ i = .int .i64 k ∧ Hid (∀ j, j < k → noNonce (ns.getD j default) = false)) (fun i => ns.length - (intOf i).toNat)
          case atStart => exact ⟨0, Nat.zero_le _, rfl, fun j hj => absurd hj (by omega)⟩
          case round =>
            obtain ⟨k, hk, rfl, hid⟩ := hrel
            by_cases hlt : k < ns.length
            · rcases hN with rfl | ⟨b, off, rfl, hc⟩
              · simp at hlt
              · have k0 := hc k hlt
                obtain ⟨P, hP⟩ : ∃ P, ns.getD k 0 = P := ⟨_, rfl⟩
                rw [hP] at k0
                have HP : Hid (ns.getD k default = P) := hP
                clear hP hc hT
                cases hs : inB P 0 1 with
                | false =>
                  have HT : Hid (noNonce (ns.getD k default) = true) := by show _ = _; rw [HP.out]; simp [noNonce, hs]
                  go_wp2_with (go_at_call 61; refine (in_any _ _ _ _).mono ?_; rintro e w' ⟨rfl, rfl⟩)
                  go_ret
                  refine ⟨ret_int ?_, HBW.out⟩
                  rw [HZ2.out, any_at hlt HT.out]; rfl
                | true =>
                  have HT : Hid (noNonce (ns.getD k default) = false) := by show _ = _; rw [HP.out]; simp [noNonce, hs]
                  go_wp2_with (go_at_call 61; refine (in_any _ _ _ _).mono ?_; rintro e w' ⟨rfl, rfl⟩)
                  go_round
                  case rel => exact ⟨k + 1, by omega, by go_num, snoc_false hid HT.out⟩
                  case measure => simp [intOf]; omega
            · have hkl : k = ns.length := by omega
              subst hkl
              go_wp2
              go_ret
              refine ⟨ret_int ?_, HBW.out⟩
              rw [HZ2.out, any_none hid.out]; rfl

end Go.Proofs.Ytdbbiibnhgcndaa
