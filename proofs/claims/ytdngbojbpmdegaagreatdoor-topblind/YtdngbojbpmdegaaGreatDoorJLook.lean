/-
  What the call checkQuote (trust) answers: what Look refuses. It turns nothing. The condition: the cells are there. What the call Look (trust) answers: the nonce is back, or what is refused, in memory of its own; it turns nothing that was in memory. The condition: the lists are within the reach of the form.
-/
import Derived.Test.YtdngbojbpmdegaaGreatDoorJCCopy
namespace Go.Proofs.YtdngbojbpmdegaaGreatDoor
open Go.RowKit

def qeq (m q : Qu) : Bool := (m.log.toList == q.log.toList) && (m.data == q.data)
def teq (a b : ByteArray) : Bool := a.toList == b.toList
/-- what Look refuses (0: nothing) -/
def lookE (C : Cv) (made : List Qu) (q : Qu) : Int := if chF C.tr C.ns = 0 then (if made.any (fun m => qeq m q) = true then (if 1 ≤ q.data ∧ q.data ≤ (C.ns.length : Int) then (if C.ns.getD (q.data - 1).toNat 0 = 1 then 6 else if C.tr.any (fun t => teq t q.log) = true then 0 else 11) else 5) else 4) else chF C.tr C.ns
def backC (C : Cv) (q : Qu) : Cv := { C with ns := C.ns.set (q.data - 1).toNat 1 }
def lookC (C : Cv) (made : List Qu) (q : Qu) : Cv := if lookE C made q = 0 then backC C q else noC
theorem lookE_same {C D : Cv} (h : C.Same D) (made : List Qu) (q : Qu) : lookE C made q = lookE D made q := by unfold lookE; rw [h.tr, h.ns]
theorem lookC_same {C D : Cv} (h : C.Same D) (made : List Qu) (q : Qu) : (lookC C made q).Same (lookC D made q) := by
  unfold lookC
  rw [lookE_same h]
  split
  · exact ⟨h.tr, by unfold backC; dsimp only; rw [h.ns]⟩
  · exact Cv.Same.refl _
theorem lookE_zero {C : Cv} {made : List Qu} {q : Qu} (h : lookE C made q = 0) : chF C.tr C.ns = 0 ∧ 1 ≤ q.data ∧ q.data ≤ (C.ns.length : Int) := by
  unfold lookE at h
  split at h
  · rename_i h0
    split at h
    · split at h
      · rename_i h1; exact ⟨h0, h1⟩
      · omega
    · omega
  · rename_i h0; exact absurd h h0

/-- a nonce is another one -/
theorem COwn.setN {n0 : Nat} {w : World} {C : Cv} (h : COwn n0 w C) {g o : Nat} (ha : C.na = some ⟨g, o, none⟩) {m : Nat} (hm : m < C.ns.length) {n : Int} (wn : (Lit.int .i64 n).wf = true) :
    COwn n0 (w.setCell ⟨g, o + m, none⟩ (.int .i64 n)) { C with ns := C.ns.set m n } := by
  have lN := ownsRow_block h.ns g o none ha
  refine ⟨ownsRow_keep h.tr fun b o' s e => Below.heap_setCell _ _ _ _ (fun q => h.off b o' s o none e (by rw [ha]; simpa using q.symm)), ?_, h.off, ⟨h.ok.trl, h.ok.trok, by simpa using h.ok.nsl, fun x hx => ?_⟩⟩
  · have h1 := h.ns.1
    rcases h.ns.2 with ⟨hv, h0⟩ | ⟨g', cap', cur, hv, hb, hg, q1, q2, q3, q4⟩
    · omega
    · simp only [Value.slice.injEq] at hv
      obtain ⟨e1, _, e3⟩ := hv
      rw [ha] at e1
      simp only [Option.some.injEq, Addr.mk.injEq, and_true] at e1
      obtain ⟨rfl, rfl⟩ := e1
      refine ⟨by simp [wvals], .inr ⟨g, cap', cur.set! m (.int .i64 n), by simp [ha, e3], hb, ?_, by simpa using q1, q2, by simpa using q3, ?_⟩⟩
      · simp [World.setCell, Array.getElem?_modify, hg]
      · have hmc : m < cur.size := by rw [q3]; omega
        simp only [List.length_set] at *
        have e : wvals (C.ns.set m n) = (wvals C.ns).set m (.int .i64 n) := by simp [wvals, List.map_set]
        rw [e]
        have : (cur.set! m (Value.int .i64 n)).toList = cur.toList.set m (.int .i64 n) := by simp
        rw [this, List.take_set, q4]
  · rcases List.mem_or_eq_of_mem_set hx with hx | rfl
    · exact h.ok.nsw x hx
    · exact wn

theorem isQuote_any (m q : Qu) (b : Nat) (w : World) (h0 : w.cell? ⟨b, 0, none⟩ = some (.string q.log)) (h1 : w.cell? ⟨b, 1, none⟩ = some (.int .i64 q.data)) :
    Calls Tryz.prog 154 #[.agg #[.string m.log, .int .i64 m.data], .pointer (some ⟨b, 0, none⟩)] w fun e w' => e = .returned (.bool (qeq m q)) ∧ Below w.heap.size w w' := by
  unfold qeq
  obtain ⟨ml, md⟩ := m
  obtain ⟨ql, qd⟩ := q
  dsimp only at *
  have hE : ∀ w', (Op.equalIn 10000 90 (.agg #[.string ml, .int .i64 md]) (.agg #[.string ql, .int .i64 qd])).run Tryz.prog w' = .ok ((ml.toList == ql.toList) && (md == qd)) w' := fun w' => eq_quote 9998 ml ql md qd w'
  have hlt : b < w.heap.size := lt_of_cell h0
  generalize ((ml.toList == ql.toList) && (md == qd)) = z at hE
  go_enter Tryz.func154, Tryz.ntmps154
  go_wp2
  go_ret
  exact ⟨rfl, (Below.refl _ _).alloc (Nat.le_refl _) _⟩
theorem isLog_any (l : ByteArray) (q : Qu) (b : Nat) (w : World) (h0 : w.cell? ⟨b, 0, none⟩ = some (.string q.log)) :
    Calls Tryz.prog 155 #[.string l, .pointer (some ⟨b, 0, none⟩)] w fun e w' => e = .returned (.bool (teq l q.log)) ∧ Below w.heap.size w w' := by
  unfold teq
  obtain ⟨ql, qd⟩ := q
  dsimp only at *
  go_enter Tryz.func155, Tryz.ntmps155
  go_wp2
  go_ret
  exact ⟨rfl, Below.refl _ _⟩

set_option maxHeartbeats 800000 in
theorem isQuote_index (a : Option Addr) (xs : List Qu) (cap : Nat) (c0 : Value) (p : Qu → Bool) (w : World) (hl : xs.length ≤ maxLen) (hx : RowsAt w 2 Qu.cells a xs)
    (hp : ∀ j, j < xs.length → ∀ w', Below w.heap.size w w' → Calls Tryz.prog 154 #[.agg #[.string (xs.getD j default).log, .int .i64 (xs.getD j default).data], c0] w' fun e w'' => e = .returned (.bool (p (xs.getD j default))) ∧ Below w'.heap.size w' w'') :
    Calls Tryz.prog 118 #[.slice a xs.length cap, .func (.func 154) #[] #[c0]] w fun e w' => e = .returned (.int .i64 (idxOf p xs)) ∧ Below w.heap.size w w' := by
  unfold maxLen at hl
  rcases hx with rfl | ⟨b, off, rfl, hc⟩
  · clear hp
    go_enter Tryz.func118, Tryz.ntmps118
    go_wp2
    refine wp_loop_rounds 1 ?_
    rw [rounds_succ]
    go_wp2
    go_ret
    exact ⟨rfl, Below.refl _ _⟩
  · go_enter Tryz.func118, Tryz.ntmps118
    go_wp2
    go_loopw [8] (fun i wr => ∃ k : Nat, k ≤ xs.length ∧ i = .int .i64 k ∧ Below w.heap.size w wr ∧ Hid (∀ j, j < k → p (xs.getD j default) = false)) (fun i _ => xs.length - (intOf i).toNat)
    case atStart => exact ⟨0, Nat.zero_le _, rfl, Below.refl _ _, fun j hj => absurd hj (by omega)⟩
    case round =>
      obtain ⟨k, hk, rfl, hbel, hid⟩ := hrel
      by_cases hlt : k < xs.length
      · have k0 := hc k hlt 0 (by omega); have k1 := hc k hlt 1 (by omega)
        have hcall := hp k hlt
        have HP : Hid (xs.getD k default = xs.getD k default) := rfl
        obtain ⟨P, hP⟩ : ∃ P, xs.getD k default = P := ⟨_, rfl⟩
        rw [hP] at k0 k1 hcall
        have HP : Hid (xs.getD k default = P) := hP
        clear hP hc hp
        have HQ : Hid (p P = p P) := rfl
        obtain ⟨lg, da⟩ := P
        simp only [Qu.cells] at k0 k1
        have bl : b < w.heap.size := lt_of_cell k0
        have l0 : wr.cell? ⟨b, off + k * 2, none⟩ = some (.string lg) := (hbel.cell (p := ⟨b, _, none⟩) bl).trans k0; have l1 : wr.cell? ⟨b, off + k * 2 + 1, none⟩ = some (.int .i64 da) := (hbel.cell (p := ⟨b, _, none⟩) bl).trans k1
        clear k0 k1 bl
        obtain ⟨z, hz⟩ : ∃ z, p ⟨lg, da⟩ = z := ⟨_, rfl⟩
        rw [hz] at hcall
        have HZ : Hid (p (xs.getD k default) = z) := by rw [HP.out]; exact hz
        clear hz HQ
        cases z with
        | false =>
          go_wp2_with (go_at_call 154; refine (hcall _ hbel).mono ?_; rintro e w1 ⟨rfl, hb1⟩)
          go_roundw
          case rel => exact ⟨k + 1, by omega, by go_num, hbel.trans (hb1.mono hbel.size), snoc_false hid HZ.out⟩
          case measure => simp [intOf]; omega
        | true =>
          go_wp2_with (go_at_call 154; refine (hcall _ hbel).mono ?_; rintro e w1 ⟨rfl, hb1⟩)
          go_ret
          exact ⟨ret_int (idxOf_at hlt hid.out HZ.out).symm, hbel.trans (hb1.mono hbel.size)⟩
      · have hkl : k = xs.length := by omega
        subst hkl
        clear hp hc
        go_wp2
        go_ret
        exact ⟨ret_int (idxOf_none hid.out).symm, hbel⟩

theorem isQuote_contains (a : Option Addr) (xs : List Qu) (cap : Nat) (c0 : Value) (p : Qu → Bool) (w : World) (hl : xs.length ≤ maxLen) (hx : RowsAt w 2 Qu.cells a xs)
    (hp : ∀ j, j < xs.length → ∀ w', Below w.heap.size w w' → Calls Tryz.prog 154 #[.agg #[.string (xs.getD j default).log, .int .i64 (xs.getD j default).data], c0] w' fun e w'' => e = .returned (.bool (p (xs.getD j default))) ∧ Below w'.heap.size w' w'') :
    Calls Tryz.prog 80 #[.slice a xs.length cap, .func (.func 154) #[] #[c0]] w fun e w' => e = .returned (.bool (xs.any p)) ∧ Below w.heap.size w w' := by
  have hI := isQuote_index a xs cap c0 p w hl hx hp
  have E := idxOf_any p xs
  generalize idxOf p xs = z at hI E
  rw [← E]
  clear hx hl hp E
  go_enter Tryz.func80, Tryz.ntmps80
  go_wp2_with (go_at_call 118; refine hI.mono ?_; rintro e w' ⟨rfl, hb⟩)
  go_ret
  exact ⟨rfl, hb⟩

set_option maxHeartbeats 800000 in
theorem isLog_index (a : Option Addr) (xs : List ByteArray) (cap : Nat) (c0 : Value) (p : ByteArray → Bool) (w : World) (hl : xs.length ≤ maxLen) (hx : Texts w a xs)
    (hp : ∀ x w', Below w.heap.size w w' → Calls Tryz.prog 155 #[.string x, c0] w' fun e w'' => e = .returned (.bool (p x)) ∧ Below w'.heap.size w' w'') :
    Calls Tryz.prog 120 #[.slice a xs.length cap, .func (.func 155) #[] #[c0]] w fun e w' => e = .returned (.int .i64 (idxOf p xs)) ∧ Below w.heap.size w w' := by
  unfold maxLen at hl
  rcases hx with rfl | ⟨b, off, rfl, hc⟩
  · clear hp
    go_enter Tryz.func120, Tryz.ntmps120
    go_wp2
    refine wp_loop_rounds 1 ?_
    rw [rounds_succ]
    go_wp2
    go_ret
    exact ⟨rfl, Below.refl _ _⟩
  · go_enter Tryz.func120, Tryz.ntmps120
    go_wp2
    go_loopw [8] (fun i wr => ∃ k : Nat, k ≤ xs.length ∧ i = .int .i64 k ∧ Below w.heap.size w wr ∧ Hid (∀ j, j < k → p (xs.getD j default) = false)) (fun i _ => xs.length - (intOf i).toNat)
    case atStart => exact ⟨0, Nat.zero_le _, rfl, Below.refl _ _, fun j hj => absurd hj (by omega)⟩
    case round =>
      obtain ⟨k, hk, rfl, hbel, hid⟩ := hrel
      by_cases hlt : k < xs.length
      · have k0 := hc k hlt
        obtain ⟨P, hP⟩ : ∃ P, xs.getD k default = P := ⟨_, rfl⟩
        rw [hP] at k0
        have HP : Hid (xs.getD k default = P) := hP
        have hcall := hp P
        clear hP hc hp
        have bl : b < w.heap.size := lt_of_cell k0
        have l0 : wr.cell? ⟨b, off + k, none⟩ = some (.string P) := (hbel.cell (p := ⟨b, _, none⟩) bl).trans k0
        clear k0 bl
        obtain ⟨z, hz⟩ : ∃ z, p P = z := ⟨_, rfl⟩
        rw [hz] at hcall
        have HZ : Hid (p (xs.getD k default) = z) := by rw [HP.out]; exact hz
        clear hz
        cases z with
        | false =>
          go_wp2_with (go_at_call 155; refine (hcall _ hbel).mono ?_; rintro e w1 ⟨rfl, hb1⟩)
          go_roundw
          case rel => exact ⟨k + 1, by omega, by go_num, hbel.trans (hb1.mono hbel.size), snoc_false hid HZ.out⟩
          case measure => simp [intOf]; omega
        | true =>
          go_wp2_with (go_at_call 155; refine (hcall _ hbel).mono ?_; rintro e w1 ⟨rfl, hb1⟩)
          go_ret
          exact ⟨ret_int (idxOf_at hlt hid.out HZ.out).symm, hbel.trans (hb1.mono hbel.size)⟩
      · have hkl : k = xs.length := by omega
        subst hkl
        clear hp hc
        go_wp2
        go_ret
        exact ⟨ret_int (idxOf_none hid.out).symm, hbel⟩

theorem isLog_contains (a : Option Addr) (xs : List ByteArray) (cap : Nat) (c0 : Value) (p : ByteArray → Bool) (w : World) (hl : xs.length ≤ maxLen) (hx : Texts w a xs)
    (hp : ∀ x w', Below w.heap.size w w' → Calls Tryz.prog 155 #[.string x, c0] w' fun e w'' => e = .returned (.bool (p x)) ∧ Below w'.heap.size w' w'') :
    Calls Tryz.prog 84 #[.slice a xs.length cap, .func (.func 155) #[] #[c0]] w fun e w' => e = .returned (.bool (xs.any p)) ∧ Below w.heap.size w w' := by
  have hI := isLog_index a xs cap c0 p w hl hx hp
  have E := idxOf_any p xs
  generalize idxOf p xs = z at hI E
  rw [← E]
  clear hx hl hp E
  go_enter Tryz.func84, Tryz.ntmps84
  go_wp2_with (go_at_call 120; refine hI.mono ?_; rintro e w' ⟨rfl, hb⟩)
  go_ret
  exact ⟨rfl, hb⟩

set_option maxRecDepth 100000 in
set_option maxHeartbeats 4000000 in
theorem checkQuote_any (C : Cv) (ma : Option Addr) (made : List Qu) (mcap : Nat) (q : Qu) (w : World) (hC : ChalAt w C) (hml : made.length ≤ maxLen) (hm : RowsAt w 2 Qu.cells ma made) (hq : q.Ok) :
    Calls Tryz.prog 145 #[C.val, .slice ma made.length mcap, .agg #[.string q.log, .int .i64 q.data]] w fun x w' => x = .returned (.int .i64 (lookE C made q)) ∧ Below w.heap.size w w' := by
  obtain ⟨W2, hW2⟩ : ∃ W2, Hid (W2 = (w.alloc (.cells #[.slice C.ta C.tr.length C.tcap, .slice C.na C.ns.length C.ncap] 32)).alloc (.cells #[.string q.log, .int .i64 q.data] 90)) := ⟨_, rfl⟩
  have BW : Hid (Below w.heap.size w W2) := by show Below _ _ _; rw [hW2.out]; exact ((Below.refl _ _).alloc (Nat.le_refl _) _).alloc (by simp) _
  have hC2 := hC.below BW.out
  have p0 : W2.cell? ⟨w.heap.size, 0, none⟩ = some (.slice C.ta C.tr.length C.tcap) := by rw [hW2.out, World.cell?_alloc_past _ _ _ (by simp), World.cell?_alloc_at _ _ _ _ rfl]; rfl
  have p1 : W2.cell? ⟨w.heap.size, 1, none⟩ = some (.slice C.na C.ns.length C.ncap) := by rw [hW2.out, World.cell?_alloc_past _ _ _ (by simp), World.cell?_alloc_at _ _ _ _ rfl]; rfl
  have u0 : W2.cell? ⟨w.heap.size + 1, 0, none⟩ = some (.string q.log) := by rw [hW2.out, World.cell?_alloc_at _ _ _ _ (by simp)]; rfl
  have u1 : W2.cell? ⟨w.heap.size + 1, 1, none⟩ = some (.int .i64 q.data) := by rw [hW2.out, World.cell?_alloc_at _ _ _ _ (by simp)]; rfl
  have l0 : w.heap.size < W2.heap.size := lt_of_cell p0
  have l1 : w.heap.size + 1 < W2.heap.size := lt_of_cell u0
  have h1 := checkC_any C W2 hC2
  have hm2 : RowsAt W2 2 Qu.cells ma made := RowsAt.below (cells := Qu.cells) (fun _ => rfl) hm BW.out
  have h2 := fun w1 (h : Below W2.heap.size W2 w1) => isQuote_contains ma made mcap (.pointer (some ⟨w.heap.size + 1, 0, none⟩)) (fun m => qeq m q) w1 hml (hm2.below (cells := Qu.cells) (fun _ => rfl) h) (fun j hj w' hb => isQuote_any _ q _ w' ((hb.cell (p := ⟨w.heap.size + 1, 0, none⟩) (Nat.lt_of_lt_of_le l1 h.size)).trans ((h.cell (p := ⟨w.heap.size + 1, 0, none⟩) l1).trans u0)) ((hb.cell (p := ⟨w.heap.size + 1, 1, none⟩) (Nat.lt_of_lt_of_le l1 h.size)).trans ((h.cell (p := ⟨w.heap.size + 1, 1, none⟩) l1).trans u1)))
  have h3 := fun w1 (h : Below W2.heap.size W2 w1) => isLog_contains C.ta C.tr C.tcap (.pointer (some ⟨w.heap.size + 1, 0, none⟩)) (fun t => teq t q.log) w1 hC.ok.trl (hC2.tr.below h) (fun t w' hb => isLog_any t q _ w' ((hb.cell (p := ⟨w.heap.size + 1, 0, none⟩) (Nat.lt_of_lt_of_le l1 h.size)).trans ((h.cell (p := ⟨w.heap.size + 1, 0, none⟩) l1).trans u0)))
  have HN : Hid (∀ w1, Below W2.heap.size W2 w1 → Ints w1 C.na C.ns) := fun w1 h => hC2.ns.below h
  have HP0 : Hid (_) := p0
  have HP1 : Hid (_) := p1
  have HU1 : Hid (_) := u1
  have hwd := i64_wf hq.wd
  unfold lookE
  unfold Cv.val at h1 ⊢
  obtain ⟨ta, tr, tcap, na, ns, ncap⟩ := C
  obtain ⟨ql, qd⟩ := q
  dsimp only at *
  clear hC hC2 hq hm hm2
  obtain ⟨X, hX⟩ : ∃ X, Hid ((if chF tr ns = 0 then (if made.any (fun m => qeq m ⟨ql, qd⟩) = true then (if 1 ≤ qd ∧ qd ≤ (ns.length : Int) then (if ns.getD (qd - 1).toNat 0 = 1 then 6 else if tr.any (fun t => teq t ql) = true then 0 else 11) else 5) else 4) else chF tr ns) = X) := ⟨_, rfl⟩
  rw [hX.out]
  by_cases hz : chF tr ns = 0
  · replace hX : Hid ((if made.any (fun m => qeq m ⟨ql, qd⟩) = true then (if 1 ≤ qd ∧ qd ≤ (ns.length : Int) then (if ns.getD (qd - 1).toNat 0 = 1 then (6 : Int) else if tr.any (fun t => teq t ql) = true then 0 else 11) else 5) else 4) = X) := by show _ = _; rw [← hX.out, if_pos hz]
    rw [hz] at h1
    clear hz
    generalize (made.any fun m => qeq m ⟨ql, qd⟩) = z2 at h2 hX
    generalize (tr.any fun t => teq t ql) = z3 at h3 hX
    cases z2 with
    | false =>
      obtain rfl : X = 4 := by rw [← hX.out]; rfl
      clear hX h3
      go_enter Tryz.func145, Tryz.ntmps145
      go_upto_region 1 with fail
      rw [← hW2.out]
      go_wp2_with (first
        | (go_at_call 29; refine h1.mono ?_; rintro x w1 ⟨rfl, hb1⟩; have HB1 : Hid (_) := hb1; clear hb1)
        | (go_at_call 80; refine (h2 _ HB1.out).mono ?_; rintro x w3 ⟨rfl, hb3⟩; have HB3 : Hid (_) := hb3; clear hb3)
        | fail)
      go_ret
      exact ⟨rfl, BW.out.trans ((HB1.out.trans (HB3.out.mono HB1.out.size)).mono BW.out.size)⟩
    | true =>
      replace hX : Hid ((if 1 ≤ qd ∧ qd ≤ (ns.length : Int) then (if ns.getD (qd - 1).toNat 0 = 1 then (6 : Int) else if z3 = true then 0 else 11) else 5) = X) := by show _ = _; rw [← hX.out, if_pos rfl]
      by_cases k1 : 1 ≤ qd
      · by_cases k2 : qd ≤ (ns.length : Int)
        · replace hX : Hid ((if ns.getD (qd - 1).toNat 0 = 1 then (6 : Int) else if z3 = true then 0 else 11) = X) := by show _ = _; rw [← hX.out, if_pos (show 1 ≤ qd ∧ qd ≤ (ns.length : Int) from ⟨k1, k2⟩)]
          obtain ⟨m, rfl⟩ : ∃ m : Nat, qd = (m : Int) + 1 := ⟨(qd - 1).toNat, by omega⟩
          have hmn : m < ns.length := by omega
          rw [show ((m : Int) + 1 - 1).toNat = m by omega] at hX
          have hwm : IntKind.i64.wrap ((m : Int) + 1 - 1) = (m : Int) := by rw [IntKind.wrap_i64]; omega
          have k1' : ¬ ((m : Int) + 1 < 1) := by omega
          have k2' : ¬ ((ns.length : Int) < (m : Int) + 1) := by omega
          have k3 : (m : Int) < (ns.length : Int) := by omega
          obtain ⟨nb, no, hna, hc⟩ : ∃ nb no, na = some ⟨nb, no, none⟩ ∧ Hid (∀ w1, Below W2.heap.size W2 w1 → w1.cell? ⟨nb, no + m, none⟩ = some (.int .i64 (ns.getD m 0))) := by
            rcases HN.out W2 (Below.refl _ _) with e | ⟨nb, no, e, hc⟩
            · rw [e] at hmn; simp at hmn
            · exact ⟨nb, no, e, fun w1 hb => (hb.cell (p := ⟨nb, no + m, none⟩) (lt_of_cell (hc m hmn))).trans (hc m hmn)⟩
          subst hna
          generalize ns.getD m 0 = v at hc hX
          clear HN
          by_cases hv : v = 1
          · subst hv
            obtain rfl : X = 6 := by rw [← hX.out, if_pos rfl]
            clear hX h3
            go_enter Tryz.func145, Tryz.ntmps145
            go_upto_region 1 with fail
            rw [← hW2.out]
            go_wp2_with (first
              | (go_at_call 29; refine h1.mono ?_; rintro x w1 ⟨rfl, hb1⟩; have HB1 : Hid (_) := hb1; clear hb1)
              | (go_at_call 80; refine (h2 _ HB1.out).mono ?_; rintro x w3 ⟨rfl, hb3⟩; have HB3 : Hid (Below W2.heap.size W2 w3) := HB1.out.trans (hb3.mono HB1.out.size); have c1 := hc.out _ HB3.out; have P0 : w3.cell? ⟨w.heap.size, 0, none⟩ = some (.slice ta tr.length tcap) := (HB3.out.cell (p := ⟨w.heap.size, 0, none⟩) l0).trans HP0.out; have P1 : w3.cell? ⟨w.heap.size, 1, none⟩ = some (.slice (some ⟨nb, no, none⟩) ns.length ncap) := (HB3.out.cell (p := ⟨w.heap.size, 1, none⟩) l0).trans HP1.out; have U1 : w3.cell? ⟨w.heap.size + 1, 1, none⟩ = some (.int .i64 ((m : Int) + 1)) := (HB3.out.cell (p := ⟨w.heap.size + 1, 1, none⟩) l1).trans HU1.out; clear hb3)
              | fail)
            go_ret
            exact ⟨rfl, BW.out.trans (HB3.out.mono BW.out.size)⟩
          · have hv1 : (v == 1) = false := by simpa using hv
            replace hX : Hid ((if z3 = true then (0 : Int) else 11) = X) := by show _ = _; rw [← hX.out, if_neg hv]
            clear hv
            cases z3 with
            | false =>
              obtain rfl : X = 11 := by rw [← hX.out]; rfl
              clear hX
              go_enter Tryz.func145, Tryz.ntmps145
              go_upto_region 1 with fail
              rw [← hW2.out]
              go_wp2_with (first
                | (go_at_call 29; refine h1.mono ?_; rintro x w1 ⟨rfl, hb1⟩; have HB1 : Hid (_) := hb1; clear hb1)
                | (go_at_call 80; refine (h2 _ HB1.out).mono ?_; rintro x w3 ⟨rfl, hb3⟩; have HB3 : Hid (Below W2.heap.size W2 w3) := HB1.out.trans (hb3.mono HB1.out.size); have c1 := hc.out _ HB3.out; have P0 : w3.cell? ⟨w.heap.size, 0, none⟩ = some (.slice ta tr.length tcap) := (HB3.out.cell (p := ⟨w.heap.size, 0, none⟩) l0).trans HP0.out; have P1 : w3.cell? ⟨w.heap.size, 1, none⟩ = some (.slice (some ⟨nb, no, none⟩) ns.length ncap) := (HB3.out.cell (p := ⟨w.heap.size, 1, none⟩) l0).trans HP1.out; have U1 : w3.cell? ⟨w.heap.size + 1, 1, none⟩ = some (.int .i64 ((m : Int) + 1)) := (HB3.out.cell (p := ⟨w.heap.size + 1, 1, none⟩) l1).trans HU1.out; clear hb3)
                | (go_at_call 84; refine (h3 _ HB3.out).mono ?_; rintro x w4 ⟨rfl, hb4⟩; have HB4 : Hid (_) := hb4; clear hb4)
                | fail)
              go_ret
              exact ⟨rfl, BW.out.trans ((HB3.out.trans (HB4.out.mono HB3.out.size)).mono BW.out.size)⟩
            | true =>
              obtain rfl : X = 0 := by rw [← hX.out]; rfl
              clear hX
              go_enter Tryz.func145, Tryz.ntmps145
              go_upto_region 1 with fail
              rw [← hW2.out]
              go_wp2_with (first
                | (go_at_call 29; refine h1.mono ?_; rintro x w1 ⟨rfl, hb1⟩; have HB1 : Hid (_) := hb1; clear hb1)
                | (go_at_call 80; refine (h2 _ HB1.out).mono ?_; rintro x w3 ⟨rfl, hb3⟩; have HB3 : Hid (Below W2.heap.size W2 w3) := HB1.out.trans (hb3.mono HB1.out.size); have c1 := hc.out _ HB3.out; have P0 : w3.cell? ⟨w.heap.size, 0, none⟩ = some (.slice ta tr.length tcap) := (HB3.out.cell (p := ⟨w.heap.size, 0, none⟩) l0).trans HP0.out; have P1 : w3.cell? ⟨w.heap.size, 1, none⟩ = some (.slice (some ⟨nb, no, none⟩) ns.length ncap) := (HB3.out.cell (p := ⟨w.heap.size, 1, none⟩) l0).trans HP1.out; have U1 : w3.cell? ⟨w.heap.size + 1, 1, none⟩ = some (.int .i64 ((m : Int) + 1)) := (HB3.out.cell (p := ⟨w.heap.size + 1, 1, none⟩) l1).trans HU1.out; clear hb3)
                | (go_at_call 84; refine (h3 _ HB3.out).mono ?_; rintro x w4 ⟨rfl, hb4⟩; have HB4 : Hid (_) := hb4; clear hb4)
                | fail)
              go_ret
              exact ⟨rfl, BW.out.trans ((HB3.out.trans (HB4.out.mono HB3.out.size)).mono BW.out.size)⟩
        · obtain rfl : X = 5 := by rw [← hX.out, if_neg (by omega)]
          have k1' : ¬ (qd < 1) := by omega
          have k2' : (ns.length : Int) < qd := by omega
          clear hX h3 HN
          go_enter Tryz.func145, Tryz.ntmps145
          go_upto_region 1 with fail
          rw [← hW2.out]
          go_wp2_with (first
            | (go_at_call 29; refine h1.mono ?_; rintro x w1 ⟨rfl, hb1⟩; have HB1 : Hid (_) := hb1; clear hb1)
            | (go_at_call 80; refine (h2 _ HB1.out).mono ?_; rintro x w3 ⟨rfl, hb3⟩; have HB3 : Hid (Below W2.heap.size W2 w3) := HB1.out.trans (hb3.mono HB1.out.size); have P1 : w3.cell? ⟨w.heap.size, 1, none⟩ = some (.slice na ns.length ncap) := (HB3.out.cell (p := ⟨w.heap.size, 1, none⟩) l0).trans HP1.out; have U1 : w3.cell? ⟨w.heap.size + 1, 1, none⟩ = some (.int .i64 qd) := (HB3.out.cell (p := ⟨w.heap.size + 1, 1, none⟩) l1).trans HU1.out; clear hb3)
            | fail)
          go_ret
          exact ⟨rfl, BW.out.trans (HB3.out.mono BW.out.size)⟩
      · obtain rfl : X = 5 := by rw [← hX.out, if_neg (by omega)]
        have k1' : qd < 1 := by omega
        clear hX h3 HN
        go_enter Tryz.func145, Tryz.ntmps145
        go_upto_region 1 with fail
        rw [← hW2.out]
        go_wp2_with (first
          | (go_at_call 29; refine h1.mono ?_; rintro x w1 ⟨rfl, hb1⟩; have HB1 : Hid (_) := hb1; clear hb1)
          | (go_at_call 80; refine (h2 _ HB1.out).mono ?_; rintro x w3 ⟨rfl, hb3⟩; have HB3 : Hid (Below W2.heap.size W2 w3) := HB1.out.trans (hb3.mono HB1.out.size); have U1 : w3.cell? ⟨w.heap.size + 1, 1, none⟩ = some (.int .i64 qd) := (HB3.out.cell (p := ⟨w.heap.size + 1, 1, none⟩) l1).trans HU1.out; clear hb3)
          | fail)
        go_ret
        exact ⟨rfl, BW.out.trans (HB3.out.mono BW.out.size)⟩
  · obtain rfl : X = chF tr ns := by rw [← hX.out, if_neg hz]
    have hz1 : (chF tr ns != 0) = true := by simpa using hz
    clear hX hz h2 h3
    generalize chF tr ns = z at h1 hz1 ⊢
    go_enter Tryz.func145, Tryz.ntmps145
    go_upto_region 1 with fail
    rw [← hW2.out]
    go_wp2_with (go_at_call 29; refine h1.mono ?_; rintro x w1 ⟨rfl, hb1⟩)
    go_ret
    exact ⟨rfl, BW.out.trans (hb1.mono BW.out.size)⟩

end Go.Proofs.YtdngbojbpmdegaaGreatDoor

namespace Go.Proofs.YtdngbojbpmdegaaGreatDoor
open Go.RowKit

/-- what the boxes of Look hold behind a call that makes memory -/
theorem boxes_look {w w1 : World} {c0 c1 l d : Value} {t0 t1 t2 : TypeId} (hb : Below (((w.alloc (.cells #[c0, c1] t0)).alloc (.cells #[l, d] t1)).alloc (.cells #[.slice none 0 0, .slice none 0 0] t2)).heap.size (((w.alloc (.cells #[c0, c1] t0)).alloc (.cells #[l, d] t1)).alloc (.cells #[.slice none 0 0, .slice none 0 0] t2)) w1) :
    w1.cell? ⟨w.heap.size, 0, none⟩ = some c0 ∧ w1.cell? ⟨w.heap.size, 1, none⟩ = some c1 ∧ w1.cell? ⟨w.heap.size + 1, 0, none⟩ = some l ∧ w1.cell? ⟨w.heap.size + 1, 1, none⟩ = some d ∧
      w1.cell? ⟨w.heap.size + 1 + 1, 0, none⟩ = some (.slice none 0 0) ∧ w1.cell? ⟨w.heap.size + 1 + 1, 1, none⟩ = some (.slice none 0 0) ∧ (∀ o, w1.frozen? ⟨w.heap.size + 1 + 1, o, none⟩ = false) ∧ w.heap.size + 1 + 1 < w1.heap.size := by
  refine ⟨(hb.cell (p := ⟨w.heap.size, 0, none⟩) (by first | (simp; done) | (simp; omega))).trans ?_, (hb.cell (p := ⟨w.heap.size, 1, none⟩) (by first | (simp; done) | (simp; omega))).trans ?_, (hb.cell (p := ⟨w.heap.size + 1, 0, none⟩) (by first | (simp; done) | (simp; omega))).trans ?_, (hb.cell (p := ⟨w.heap.size + 1, 1, none⟩) (by first | (simp; done) | (simp; omega))).trans ?_, (hb.cell (p := ⟨w.heap.size + 1 + 1, 0, none⟩) (by simp)).trans ?_, (hb.cell (p := ⟨w.heap.size + 1 + 1, 1, none⟩) (by simp)).trans ?_,
    fun o => (hb.frozen (p := ⟨w.heap.size + 1 + 1, o, none⟩) (by simp)).trans (World.frozen?_alloc_at _ _ _ _ (by simp)), by have := hb.size; simp at this; omega⟩
  · rw [World.cell?_alloc_past _ _ _ (by first | (simp; done) | (simp; omega)), World.cell?_alloc_past _ _ _ (by simp), World.cell?_alloc_at _ _ _ _ rfl]; rfl
  · rw [World.cell?_alloc_past _ _ _ (by first | (simp; done) | (simp; omega)), World.cell?_alloc_past _ _ _ (by simp), World.cell?_alloc_at _ _ _ _ rfl]; rfl
  · rw [World.cell?_alloc_past _ _ _ (by simp), World.cell?_alloc_at _ _ _ _ (by simp)]; rfl
  · rw [World.cell?_alloc_past _ _ _ (by simp), World.cell?_alloc_at _ _ _ _ (by simp)]; rfl
  · rw [World.cell?_alloc_at _ _ _ _ (by simp)]; rfl
  · rw [World.cell?_alloc_at _ _ _ _ (by simp)]; rfl
/-- the last stores: a copy in a variable, its nonce, the answer -/
theorem look_end {w1 w2 : World} {N : Cv} {g m R : Nat} (hO : COwn w1.heap.size w2 N) (hna : N.na = some ⟨g, 0, none⟩) (hm : m < N.ns.length) (hRlt : R < w1.heap.size) {ob : Obj} {v0 v1 x0 x1 : Value}
    (r0 : w2.cell? ⟨R, 0, none⟩ = some x0) (r1 : w2.cell? ⟨R, 1, none⟩ = some x1) {w : World} (hR : w.heap.size ≤ R) (hb : Below w.heap.size w w2) {V9 : World} (h9 : V9 = ((((w2.setCell ⟨g, m, none⟩ (.int .i64 1)).setCell ⟨R, 0, none⟩ v0).setCell ⟨R, 1, none⟩ v1).alloc ob)) :
    V9.cell? ⟨R, 0, none⟩ = some v0 ∧ V9.cell? ⟨R, 1, none⟩ = some v1 ∧ COwn w1.heap.size V9 { N with ns := N.ns.set m 1 } ∧ Below w.heap.size w V9 := by
  have lN := ownsRow_block hO.ns g 0 none hna
  have lT := ownsRow_block hO.tr
  have hO2 := hO.setN hna hm (n := 1) (by decide)
  rw [Nat.zero_add] at hO2
  have q0 : (w2.setCell ⟨g, m, none⟩ (.int .i64 1)).cell? ⟨R, 0, none⟩ = some x0 := by
    rw [World.cell?_setCell_other _ _ _ _ (by intro q; simp only [Addr.mk.injEq] at q; have := lN.1; omega)]; exact r0
  have q1 : (w2.setCell ⟨g, m, none⟩ (.int .i64 1)).cell? ⟨R, 1, none⟩ = some x1 := by
    rw [World.cell?_setCell_other _ _ _ _ (by intro q; simp only [Addr.mk.injEq] at q; have := lN.1; omega)]; exact r1
  obtain ⟨k0, k1⟩ := blk2 (v0 := v0) (v1 := v1) q0 q1
  have sz : (((w2.setCell ⟨g, m, none⟩ (.int .i64 1)).setCell ⟨R, 0, none⟩ v0).setCell ⟨R, 1, none⟩ v1).heap.size = w2.heap.size := by simp [World.setCell]
  have K0 : V9.cell? ⟨R, 0, none⟩ = some v0 := by rw [h9, World.cell?_alloc_past _ _ _ (by omega)]; exact k0
  have K1 : V9.cell? ⟨R, 1, none⟩ = some v1 := by rw [h9, World.cell?_alloc_past _ _ _ (by omega)]; exact k1
  have H9 : ∀ b, b ≠ R → b < w2.heap.size → V9.heap[b]? = (w2.setCell ⟨g, m, none⟩ (.int .i64 1)).heap[b]? := fun b hb hl => by rw [h9, Below.heap_alloc _ _ _ (by omega), Below.heap_setCell _ _ _ _ hb, Below.heap_setCell _ _ _ _ hb]
  refine ⟨K0, K1, ⟨ownsRow_keep hO2.tr fun b o s e => H9 b (by have := (lT b o s e).1; omega) (lT b o s e).2.1, ownsRow_keep hO2.ns fun b o s e => ?_, hO2.off, hO2.ok⟩, ?_⟩
  · dsimp only at e
    rw [hna] at e
    simp only [Option.some.injEq, Addr.mk.injEq] at e
    have := lN.1
    have := lN.2.1
    exact H9 b (by omega) (by omega)
  · rw [h9]
    exact (((hb.setCell (by have := lN.1; dsimp only; omega) _).setCell hR _).setCell hR _).alloc (by rw [sz]; exact hb.size) _

set_option maxRecDepth 100000 in
set_option maxHeartbeats 4000000 in
theorem look_any (C : Cv) (ma : Option Addr) (made : List Qu) (mcap : Nat) (q : Qu) (w : World) (hC : ChalAt w C) (hF : C.Fits) (hml : made.length ≤ maxLen) (hm : RowsAt w 2 Qu.cells ma made) (hq : q.Ok) :
    Calls Tryz.prog 134 #[C.val, .slice ma made.length mcap, .agg #[.string q.log, .int .i64 q.data]] w fun x w' => ∃ N : Cv, x = .returned (.tuple #[N.val, .int .i64 (lookE C made q)]) ∧ N.Same (lookC C made q) ∧ COwn w.heap.size w' N ∧ Below w.heap.size w w' := by
  have h1 := fun w' (h : Below w.heap.size w w') => checkQuote_any C ma made mcap q w' (hC.below h) hml (RowsAt.below (cells := Qu.cells) (fun _ => rfl) hm h) hq
  have h2 := fun w' (h : Below w.heap.size w w') => copyC_any C w' (hC.below h) hF
  have HZ : Hid (lookE C made q = 0 → 1 ≤ q.data ∧ q.data ≤ (C.ns.length : Int)) := fun h => (lookE_zero h).2
  unfold lookC backC
  obtain ⟨E, hE⟩ : ∃ E, Hid (lookE C made q = E) := ⟨_, rfl⟩
  rw [hE.out] at HZ h1 ⊢
  have hl := hC.ok.nsl
  unfold maxLen at hl
  unfold Cv.val at *
  obtain ⟨ta, tr, tcap, na, ns, ncap⟩ := C
  obtain ⟨ql, qd⟩ := q
  dsimp only at *
  clear hC hm hE hq
  have B3 : ∀ o1 o2 o3, Hid (Below w.heap.size w (((w.alloc o1).alloc o2).alloc o3)) := fun o1 o2 o3 => a3B _ _ _ _
  have HX : ∀ o1 o2 o3 w1, Hid (Below (((w.alloc o1).alloc o2).alloc o3).heap.size (((w.alloc o1).alloc o2).alloc o3) w1 → Below w.heap.size w w1) := fun o1 o2 o3 w1 h => (B3 o1 o2 o3).out.trans (h.mono (by first | (simp; done) | (simp; omega)))
  by_cases hz : E = 0
  · subst hz
    obtain ⟨z1, z2⟩ := HZ.out rfl
    clear HZ
    rw [if_pos rfl]
    obtain ⟨m, rfl⟩ : ∃ m : Nat, qd = (m : Int) + 1 := ⟨(qd - 1).toNat, by omega⟩
    rw [show ((m : Int) + 1 - 1).toNat = m by omega]
    have HMN : Hid (m < ns.length) := by show m < _; omega
    have hwm : IntKind.i64.wrap ((m : Int) + 1 - 1) = (m : Int) := by rw [IntKind.wrap_i64]; omega
    clear z1 z2
    go_enter Tryz.func134, Tryz.ntmps134
    go_wp2_with (first
      | (go_at_call 145; refine (h1 _ (B3 _ _ _).out).mono ?_; rintro x w1 ⟨rfl, hb1⟩; obtain ⟨m0, m1, u0, u1, r0, r1, rf, rl⟩ := boxes_look hb1; have HB1 : Hid (Below w.heap.size w w1) := (HX _ _ _ _).out hb1; clear hb1)
      | (go_at_call 42; refine (h2 _ HB1.out).mono ?_; rintro x w2 ⟨N, rfl, hS, hO, hb2⟩; obtain ⟨nta, ntr, ntcap, nna, nns, nncap⟩ := N
         obtain ⟨eT, eN⟩ := hS
         dsimp only at eT eN
         subst eT eN
         obtain ⟨g, cp, hv, hg1, hg2⟩ := hO.ns.form (by dsimp only; have := HMN.out; omega)
         simp only [Value.slice.injEq] at hv
         obtain ⟨hv1, _, hv3⟩ := hv
         subst hv1 hv3
         have HON : Hid (_) := hO
         have HB2 : Hid (_) := hb2
         have nlt : (m : Int) < (nns.length : Int) := by have := HMN.out; omega
         have g0 : ∃ y, w2.cell? ⟨g, m, none⟩ = some y := by
           have := hO.at_.ns
           rcases this with e | ⟨b, off, e, hc⟩
           · dsimp only at e; have := HMN.out; rw [e] at this; simp at this
           · simp only [Option.some.injEq, Addr.mk.injEq, and_true] at e
             obtain ⟨rfl, rfl⟩ := e
             have := hc m HMN.out
             rw [Nat.zero_add] at this
             exact ⟨_, this⟩
         obtain ⟨y, g0⟩ := g0
         have gf : w2.frozen? ⟨g, m, none⟩ = false := (ownsRow_block hO.ns g 0 none rfl).2.2 m
         have R0 : w2.cell? ⟨w.heap.size + 1 + 1, 0, none⟩ = some (.slice none 0 0) := (hb2.cell (p := ⟨w.heap.size + 1 + 1, 0, none⟩) rl).trans r0
         have R1 : w2.cell? ⟨w.heap.size + 1 + 1, 1, none⟩ = some (.slice none 0 0) := (hb2.cell (p := ⟨w.heap.size + 1 + 1, 1, none⟩) rl).trans r1
         have RF0 : w2.frozen? ⟨w.heap.size + 1 + 1, 0, none⟩ = false := (hb2.frozen (p := ⟨w.heap.size + 1 + 1, 0, none⟩) rl).trans (rf 0)
         have RF1 : w2.frozen? ⟨w.heap.size + 1 + 1, 1, none⟩ = false := (hb2.frozen (p := ⟨w.heap.size + 1 + 1, 1, none⟩) rl).trans (rf 1)
         have U1 : w2.cell? ⟨w.heap.size + 1, 1, none⟩ = some (.int .i64 ((m : Int) + 1)) := (hb2.cell (p := ⟨w.heap.size + 1, 1, none⟩) (by dsimp only; omega)).trans u1
         have RL : w.heap.size + 1 + 1 < w2.heap.size := lt_of_cell R0
         have UL : w.heap.size + 1 < w2.heap.size := lt_of_cell U1
         have hgl : g < w2.heap.size := hg2
         have hgne : g ≠ w.heap.size + 1 + 1 := by omega
         have hgne' : g ≠ w2.heap.size := by omega
         clear hO hb2 m0 m1 u0 u1 r0 r1 rf hg1 hg2; dsimp only)
      | fail)
    refine bp_gen fun V9 hV9 => ?_
    obtain ⟨k0, k1, hO9, hB9⟩ := look_end HON.out rfl HMN.out (by have := HB1.out.size; omega) R0 R1 (by omega) (HB1.out.trans (HB2.out.mono HB1.out.size)) hV9
    clear hV9
    (try simp only [Exit.inBlock, Exit.then])
    refine bodyPost_ret (by simp [results, Tryz.results134, go_sem, k0, k1]; try rfl) rfl ?_
    exact ⟨⟨nta, ntr, ntcap, some ⟨g, 0, none⟩, nns.set m 1, nncap⟩, by simp, ⟨rfl, rfl⟩, hO9.mono HB1.out.size, hB9⟩
  · have hz1 : (E != 0) = true := by simpa using hz
    rw [if_neg hz]
    clear hz h2 HZ
    go_enter Tryz.func134, Tryz.ntmps134
    go_wp2_with (go_at_call 145; refine (h1 _ (B3 _ _ _).out).mono ?_; rintro x w1 ⟨rfl, hb1⟩; obtain ⟨m0, m1, u0, u1, r0, r1, rf, rl⟩ := boxes_look hb1; have HB1 : Hid (Below w.heap.size w w1) := (HX _ _ _ _).out hb1; have rf0 := rf 0; have rf1 := rf 1; clear hb1)
    obtain ⟨k0, k1⟩ := blk2 (v0 := .slice none 0 0) (v1 := .slice none 0 0) r0 r1
    (try simp only [Exit.inBlock, Exit.then])
    refine bodyPost_ret (by simp [results, Tryz.results134, go_sem, k0, k1]; try rfl) rfl ?_
    exact ⟨noC, rfl, Cv.Same.refl _, noC_own _ _, (HB1.out.setCell (by dsimp only; omega) _).setCell (by dsimp only; omega) _⟩

end Go.Proofs.YtdngbojbpmdegaaGreatDoor
