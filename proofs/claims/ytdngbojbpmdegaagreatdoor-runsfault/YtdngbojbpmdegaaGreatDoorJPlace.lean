/-
  What a machine that may be is (own work): of frames, enclaves and quotes each on its own; and that another word, frame or enclave leaves it so. No condition. What slices.IndexFunc and slices.ContainsFunc answer at a list of frames, for Place: the first element, or whether there is one, of which the function that is handed in answers true. The condition: what that function answers. What the calls Place (epc) and PlaceOf (riddleref) answer for every machine: both answer the first frame that is the enclave's and stands at the place, or -1, and turn nothing that was in memory. No condition beside the machine's cells.
-/
import Derived.Test.YtdngbojbpmdegaaGreatDoorJEnc
import Derived.Test.YtdngbojbpmdegaaGreatDoorJIdxBase
import Derived.Deep.QuietTactic
import Derived.BigQuiet
namespace Go.Proofs.YtdngbojbpmdegaaGreatDoor
open Go.RowKit

structure Good (M : Mv) : Prop where
  s1 : M.frs.length = 24
  s2 : M.ens.length = 4
  s3 : M.qus.length ≤ 40
  en : ∀ i, i < 4 → (M.ens.getD i default).good = true
  fr : ∀ j, j < 24 → Fr.good M.ens (M.frs.getD j default) = true
  tw : ∀ i j, i < j → j < 24 → (M.frs.getD j default).o ≠ 0 → ¬ ((M.frs.getD i default).o = (M.frs.getD j default).o ∧ (M.frs.getD i default).at_ = (M.frs.getD j default).at_)
  qu : ∀ q ∈ M.qus, q.good = true
theorem all_getD {α : Type} [Inhabited α] {p : α → Bool} {l : List α} {n : Nat} (hl : l.length = n) : l.all p = true ↔ ∀ i, i < n → p (l.getD i default) = true := by
  subst hl
  rw [List.all_eq_true]
  constructor
  · intro h i hi
    exact h _ (by simp [List.getD_eq_getElem?_getD, hi])
  · intro h x hx
    obtain ⟨i, hi, e⟩ := List.mem_iff_getElem.1 hx
    have := h i hi
    simpa [List.getD_eq_getElem?_getD, hi, e] using this
theorem twAt_iff {frs : List Fr} {k : Nat} (hk : k ≤ frs.length) : twAt frs k = true ↔ (frs.getD k default).o ≠ 0 ∧ ∃ i, i < k ∧ (frs.getD i default).o = (frs.getD k default).o ∧ (frs.getD i default).at_ = (frs.getD k default).at_ := by
  unfold twAt
  simp only [Bool.and_eq_true, bne_iff_ne, ne_eq, List.any_eq_true, twB, beq_iff_eq]
  constructor
  · rintro ⟨h0, x, hx, h1, h2⟩
    obtain ⟨i, hi, e⟩ := List.mem_iff_getElem.1 hx
    have hik : i < k := by simp at hi; omega
    refine ⟨h0, i, hik, ?_⟩
    have : frs.getD i default = x := by
      rw [← e]
      have hl : i < frs.length := by omega
      simp [List.getD_eq_getElem?_getD, hl]
    rw [this]
    exact ⟨h1, h2⟩
  · rintro ⟨h0, i, hi, h1, h2⟩
    have hl : i < frs.length := by omega
    refine ⟨h0, frs.getD i default, ?_, h1, h2⟩
    rw [List.mem_iff_getElem]
    exact ⟨i, by simp; omega, by simp [List.getD_eq_getElem?_getD, hl]⟩
theorem good_iff {M : Mv} : machF M = 0 ↔ Good M := by
  constructor
  · intro h
    obtain ⟨s1, s2, s3⟩ := machF_sizes h
    obtain ⟨h1, h2, h3⟩ := machF_all h
    refine ⟨s1, s2, s3, (all_getD s2).1 h1, fun j hj => machF_frame h hj, fun i j hij hj h0 hc => ?_, fun q hq => List.all_eq_true.1 h3 q hq⟩
    have := List.all_eq_true.1 h2 j (by simpa using hj)
    unfold frOk at this
    rw [Bool.and_eq_true] at this
    have t := (twAt_iff (frs := M.frs) (k := j) (by omega)).2 ⟨h0, i, hij, hc⟩
    simp [t] at this
  · intro h
    rw [machF_eq h.s1 h.s2 h.s3, if_pos]
    simp only [Bool.and_eq_true]
    refine ⟨⟨(all_getD h.s2).2 h.en, List.all_eq_true.2 fun j hj => ?_⟩, List.all_eq_true.2 h.qu⟩
    have hj' : j < 24 := by simpa using hj
    unfold frOk
    rw [Bool.and_eq_true]
    refine ⟨h.fr j hj', ?_⟩
    cases ht : twAt M.frs j with
    | false => rfl
    | true =>
      obtain ⟨h0, i, hi, hc⟩ := (twAt_iff (by have := h.s1; omega)).1 ht
      exact absurd hc (h.tw i j hi hj' h0)
theorem goodFr_iff {ens : List En} {f : Fr} : Fr.good ens f = true ↔ mayW f.ws = true ∧ inB f.o 0 4 = true ∧ inB f.at_ 0 7 = true ∧ inB f.r 0 7 = true ∧ (f.o = 0 → f.at_ = 0 ∧ f.r = 0) ∧ (f.o ≠ 0 → (ens.getD (f.o - 1).toNat default).st ≠ 0) := by
  obtain ⟨o, fat, r, fa, ws, fcap⟩ := f
  rw [good_eq]
  simp only [Bool.and_eq_true]
  by_cases h : o = 0
  · simp [h, and_assoc]
  · simp [h, and_assoc]
theorem goodFr_ens {ens ens' : List En} {f : Fr} (h : Fr.good ens f = true) (hs : ∀ i, (ens.getD i default).st ≠ 0 → (ens'.getD i default).st ≠ 0) : Fr.good ens' f = true := by
  rw [goodFr_iff] at h ⊢
  exact ⟨h.1, h.2.1, h.2.2.1, h.2.2.2.1, h.2.2.2.2.1, fun h0 => hs _ (h.2.2.2.2.2 h0)⟩
theorem getD_set_any {α : Type} [Inhabited α] (xs : List α) (k j : Nat) (x : α) : (xs.set k x).getD j default = if j = k ∧ k < xs.length then x else xs.getD j default := by
  by_cases hk : k < xs.length
  · rw [getD_set _ _ _ _ hk]; simp [hk]
  · rw [List.set_eq_of_length_le (by omega)]; simp [hk]
/-- another list of enclaves, each that was one is one still -/
theorem Good.ens {M : Mv} (h : Good M) {k : Nat} {E : En} (hE : E.good = true) (hs : (M.ens.getD k default).st ≠ 0 → E.st ≠ 0) : Good { M with ens := M.ens.set k E } := by
  refine ⟨h.s1, by simpa using h.s2, h.s3, fun i hi => ?_, fun j hj => goodFr_ens (h.fr j hj) fun i hi => ?_, h.tw, h.qu⟩
  · show ((M.ens.set k E).getD i default).good = true
    rw [getD_set_any]; split
    · exact hE
    · exact h.en i hi
  · show ((M.ens.set k E).getD i default).st ≠ 0
    rw [getD_set_any]; split
    · rename_i e; rw [e.1] at hi; exact hs hi
    · exact hi
/-- another frame -/
theorem Good.frm {M : Mv} (h : Good M) {k : Nat} {f : Fr} (hf : Fr.good M.ens f = true) (ht : ∀ i, i < 24 → i ≠ k → f.o ≠ 0 → ¬ ((M.frs.getD i default).o = f.o ∧ (M.frs.getD i default).at_ = f.at_)) : Good { M with frs := M.frs.set k f } := by
  refine ⟨by simpa using h.s1, h.s2, h.s3, h.en, fun j hj => ?_, fun i j hij hj h0 hc => ?_, h.qu⟩
  · show Fr.good M.ens ((M.frs.set k f).getD j default) = true
    rw [getD_set_any]; split
    · exact hf
    · exact h.fr j hj
  · have hj0 : ((M.frs.set k f).getD j default).o ≠ 0 := h0
    have hc' : ((M.frs.set k f).getD i default).o = ((M.frs.set k f).getD j default).o ∧ ((M.frs.set k f).getD i default).at_ = ((M.frs.set k f).getD j default).at_ := hc
    rw [getD_set_any] at hj0
    rw [getD_set_any, getD_set_any] at hc'
    have hl := h.s1
    by_cases ej : j = k ∧ k < M.frs.length
    · rw [if_pos ej] at hj0 hc'
      rw [if_neg (by omega)] at hc'
      exact ht i (by omega) (by omega) hj0 hc'
    · rw [if_neg ej] at hj0 hc'
      by_cases ei : i = k ∧ k < M.frs.length
      · rw [if_pos ei] at hc'
        exact ht j hj (by omega) (by rw [hc'.1]; exact hj0) ⟨hc'.1.symm, hc'.2.symm⟩
      · rw [if_neg ei] at hc'
        exact h.tw i j hij hj hj0 hc'
theorem mayW_set {ws : List Int} (h : mayW ws = true) {p : Nat} {n : Int} (hn : inB n 0 65535 = true) : mayW (ws.set p n) = true := by
  unfold mayW at h ⊢
  simp only [Bool.and_eq_true, beq_iff_eq, List.length_set] at h ⊢
  refine ⟨h.1, List.all_eq_true.2 fun x hx => ?_⟩
  rcases List.mem_or_eq_of_mem_set hx with hx | rfl
  · exact List.all_eq_true.1 h.2 x hx
  · exact hn
/-- a word of a frame is another one -/
theorem Good.word {M : Mv} (h : Good M) {k p : Nat} (hk : k < 24) {n : Int} (hn : inB n 0 65535 = true) : Good { M with frs := M.frs.set k { M.frs.getD k default with ws := (M.frs.getD k default).ws.set p n } } := by
  have hg := goodFr_iff.1 (h.fr k hk)
  refine h.frm (goodFr_iff.2 ⟨mayW_set hg.1 hn, hg.2.1, hg.2.2.1, hg.2.2.2.1, hg.2.2.2.2.1, hg.2.2.2.2.2⟩) fun i hi hik h0 hc => ?_
  rcases Nat.lt_or_ge i k with hl | hl
  · exact h.tw i k hl hk h0 hc
  · exact h.tw k i (by omega) hi (by rw [hc.1]; exact h0) ⟨hc.1.symm, hc.2.symm⟩
theorem enGood_iff {e : En} : e.good = true ↔ inB e.st 0 4 = true ∧ e.log.size ≤ 1000 ∧ (e.st = 0 → e.log.size = 0) ∧ (if e.st = 3 then inB e.pc 0 65535 = true ∧ e.words = true else e.pc = 0 ∧ e.zeros = true) := by
  unfold En.good
  simp only [Bool.and_eq_true, decide_eq_true_eq, Bool.or_eq_true, bne_iff_ne, ne_eq, beq_iff_eq]
  by_cases h3 : e.st = 3
  · by_cases h0 : e.st = 0
    · omega
    · simp [h3, and_assoc]
  · by_cases h0 : e.st = 0
    · simp [h0, and_assoc]
    · simp [h3, h0, and_assoc]

end Go.Proofs.YtdngbojbpmdegaaGreatDoor

namespace Go.Proofs.YtdngbojbpmdegaaGreatDoor
open Go.RowKit

set_option maxHeartbeats 800000 in
theorem place_index (a : Option Addr) (xs : List Fr) (cap : Nat) (c0 c1 : Value) (p : Fr → Bool) (w : World) (hl : xs.length ≤ maxLen) (hx : RowsAt w 4 Fr.cells a xs)
    (hp : ∀ j, j < xs.length → ∀ w', Below w.heap.size w w' → Calls Tryz.prog 66 #[.agg #[.int .i64 (xs.getD j default).o, .int .i64 (xs.getD j default).at_, .int .i64 (xs.getD j default).r, .slice (xs.getD j default).a (xs.getD j default).ws.length (xs.getD j default).cap], c0, c1] w' fun e w'' => e = .returned (.bool (p (xs.getD j default))) ∧ Below w'.heap.size w' w'') :
    Calls Tryz.prog 67 #[.slice a xs.length cap, .func (.func 66) #[] #[c0, c1]] w fun e w' => e = .returned (.int .i64 (idxOf p xs)) ∧ Below w.heap.size w w' := by
  unfold maxLen at hl
  rcases hx with rfl | ⟨b, off, rfl, hc⟩
  · clear hp
    go_enter Tryz.func67, Tryz.ntmps67
    go_wp2
    refine wp_loop_rounds 1 ?_
    rw [rounds_succ]
    go_wp2
    go_ret
    exact ⟨rfl, Below.refl _ _⟩
  · go_enter Tryz.func67, Tryz.ntmps67
    go_wp2
    go_loopw [8] (fun i wr => ∃ k : Nat, k ≤ xs.length ∧ i = .int .i64 k ∧ Below w.heap.size w wr ∧ Hid (∀ j, j < k → p (xs.getD j default) = false)) (fun i _ => xs.length - (intOf i).toNat)
    case atStart => exact ⟨0, Nat.zero_le _, rfl, Below.refl _ _, fun j hj => absurd hj (by omega)⟩
    case round =>
      obtain ⟨k, hk, rfl, hbel, hid⟩ := hrel
      by_cases hlt : k < xs.length
      · have k0 := hc k hlt 0 (by omega); have k1 := hc k hlt 1 (by omega); have k2 := hc k hlt 2 (by omega); have k3 := hc k hlt 3 (by omega)
        have hcall := hp k hlt
        have HP : Hid (xs.getD k default = xs.getD k default) := rfl
        obtain ⟨P, hP⟩ : ∃ P, xs.getD k default = P := ⟨_, rfl⟩
        rw [hP] at k0 k1 k2 k3 hcall
        have HP : Hid (xs.getD k default = P) := hP
        clear hP hc hp
        have HQ : Hid (p P = p P) := rfl
        obtain ⟨o, at_, r, fa, ws, fcap⟩ := P
        simp only [Fr.cells] at k0 k1 k2 k3
        have bl : b < w.heap.size := lt_of_cell k0
        have l0 : wr.cell? ⟨b, off + k * 4, none⟩ = some (.int .i64 o) := (hbel.cell (p := ⟨b, _, none⟩) bl).trans k0; have l1 : wr.cell? ⟨b, off + k * 4 + 1, none⟩ = some (.int .i64 at_) := (hbel.cell (p := ⟨b, _, none⟩) bl).trans k1; have l2 : wr.cell? ⟨b, off + k * 4 + 2, none⟩ = some (.int .i64 r) := (hbel.cell (p := ⟨b, _, none⟩) bl).trans k2; have l3 : wr.cell? ⟨b, off + k * 4 + 3, none⟩ = some (.slice fa ws.length fcap) := (hbel.cell (p := ⟨b, _, none⟩) bl).trans k3
        clear k0 k1 k2 k3 bl
        obtain ⟨z, hz⟩ : ∃ z, p ⟨o, at_, r, fa, ws, fcap⟩ = z := ⟨_, rfl⟩
        rw [hz] at hcall
        have HZ : Hid (p (xs.getD k default) = z) := by rw [HP.out]; exact hz
        clear hz HQ
        cases z with
        | false =>
          go_wp2_with (go_at_call 66; refine (hcall _ hbel).mono ?_; rintro e w1 ⟨rfl, hb1⟩)
          go_roundw
          case rel => exact ⟨k + 1, by omega, by go_num, hbel.trans (hb1.mono hbel.size), snoc_false hid HZ.out⟩
          case measure => simp [intOf]; omega
        | true =>
          go_wp2_with (go_at_call 66; refine (hcall _ hbel).mono ?_; rintro e w1 ⟨rfl, hb1⟩)
          go_ret
          exact ⟨ret_int (idxOf_at hlt hid.out HZ.out).symm, hbel.trans (hb1.mono hbel.size)⟩
      · have hkl : k = xs.length := by omega
        subst hkl
        clear hp hc
        go_wp2
        go_ret
        exact ⟨ret_int (idxOf_none hid.out).symm, hbel⟩

end Go.Proofs.YtdngbojbpmdegaaGreatDoor

namespace Go.Proofs.YtdngbojbpmdegaaGreatDoor
open Go.RowKit

/-- is it the enclave's page at the place? -/
def plB (e at_ : Int) (f : Fr) : Bool := decide (0 < e) && (f.o == e) && (f.at_ == at_)
def placeOf (frs : List Fr) (e at_ : Int) : Int := idxOf (plB e at_) frs

theorem place1_any (o fat r e at_ : Int) (fa : Option Addr) (n fcap : Nat) (b1 b2 : Nat) (w : World) (h1 : w.cell? ⟨b1, 0, none⟩ = some (.int .i64 e)) (h2 : w.cell? ⟨b2, 0, none⟩ = some (.int .i64 at_)) :
    Calls Tryz.prog 66 #[.agg #[.int .i64 o, .int .i64 fat, .int .i64 r, .slice fa n fcap], .pointer (some ⟨b1, 0, none⟩), .pointer (some ⟨b2, 0, none⟩)] w fun x w' =>
      x = .returned (.bool (decide (0 < e) && (o == e) && (fat == at_))) ∧ Below w.heap.size w w' := by
  have l1 : b1 < w.heap.size := lt_of_cell h1
  have l2 : b2 < w.heap.size := lt_of_cell h2
  by_cases c1 : 0 < e
  · by_cases c2 : o = e
    · subst c2
      by_cases c3 : fat = at_
      · subst c3
        go_enter Tryz.func66, Tryz.ntmps66
        go_wp2
        go_ret
        exact ⟨ret_bool (by simp [c1]), (Below.refl _ _).alloc (Nat.le_refl _) _⟩
      · have c3' : (fat == at_) = false := by simpa using c3
        go_enter Tryz.func66, Tryz.ntmps66
        go_wp2
        go_ret
        exact ⟨ret_bool (by simp [c3]), (Below.refl _ _).alloc (Nat.le_refl _) _⟩
    · have c2' : (o == e) = false := by simpa using c2
      go_enter Tryz.func66, Tryz.ntmps66
      go_wp2
      go_ret
      exact ⟨ret_bool (by simp [c2]), (Below.refl _ _).alloc (Nat.le_refl _) _⟩
  · go_enter Tryz.func66, Tryz.ntmps66
    go_wp2
    go_ret
    exact ⟨ret_bool (by rw [decide_eq_false (by omega)]; rfl), (Below.refl _ _).alloc (Nat.le_refl _) _⟩

set_option maxHeartbeats 800000 in
theorem place_any (M : Mv) (e at_ : Int) (w : World) (hM : MachAt w M) :
    Calls Tryz.prog 22 #[M.val, .int .i64 e, .int .i64 at_] w fun x w' => x = .returned (.int .i64 (placeOf M.frs e at_)) ∧ Below w.heap.size w w' := by
  have hI := fun (w' : World) (b1 b2 : Nat) (hb : Below w.heap.size w w') (h1 : w'.cell? ⟨b1, 0, none⟩ = some (.int .i64 e)) (h2 : w'.cell? ⟨b2, 0, none⟩ = some (.int .i64 at_)) =>
    place_index M.fa M.frs M.fcap (.pointer (some ⟨b1, 0, none⟩)) (.pointer (some ⟨b2, 0, none⟩)) (plB e at_) w' hM.frl (hM.below hb).fr
      (fun j hj w'' hb' => place1_any _ _ _ e at_ _ _ _ b1 b2 w'' ((hb'.cell (p := ⟨b1, 0, none⟩) (lt_of_cell h1)).trans h1) ((hb'.cell (p := ⟨b2, 0, none⟩) (lt_of_cell h2)).trans h2))
  unfold placeOf Mv.val
  generalize idxOf (plB e at_) M.frs = z at hI
  obtain ⟨fa, frs, fcap, ea, ens, ecap, qa, qus, qcap⟩ := M
  dsimp only at hI ⊢
  clear hM
  generalize frs.length = nf at hI ⊢
  generalize ens.length = ne at hI ⊢
  generalize qus.length = nq at hI ⊢
  go_enter Tryz.func22, Tryz.ntmps22
  have B3 : ∀ o1 o2 o3, Hid (Below w.heap.size w (((w.alloc o1).alloc o2).alloc o3)) := fun o1 o2 o3 => (((Below.refl _ _).alloc (Nat.le_refl _) _).alloc (by simp) _).alloc (by simp; omega) _
  go_wp2_with (go_at_call 67; refine (hI _ _ _ (B3 _ _ _).out (by rw [World.cell?_alloc_past _ _ _ (by simp), World.cell?_alloc_at _ _ _ _ (by simp)]; rfl) (by rw [World.cell?_alloc_at _ _ _ _ (by simp)]; rfl)).mono ?_; rintro x w' ⟨rfl, hb⟩)
  go_ret
  exact ⟨rfl, (B3 _ _ _).out.trans (hb.mono (by simp; omega))⟩

end Go.Proofs.YtdngbojbpmdegaaGreatDoor
