/-
  What the call checkQuote (trust) answers: what Look refuses. It turns nothing. The condition: the cells are there.
-/
import Derived.Test.YtdbbiibnhgcndaaChalChk
import Derived.Test.YtdbbiibnhgcndaaCCopy
namespace Go.Proofs.Ytdbbiibnhgcndaa
open Go.RowKit

def qeq (m q : Qu) : Bool := (m.log.toList == q.log.toList) && (m.data == q.data)
def teq (a b : ByteArray) : Bool := a.toList == b.toList
/-- what Look refuses (0: nothing) -/
def lookE (C : Cv) (made : List Qu) (q : Qu) : Int := if chF C.tr C.ns = 0 then (if made.any (fun m => qeq m q) = true then (if 1 ≤ q.data ∧ q.data ≤ (C.ns.length : Int) then (if C.ns.getD (q.data - 1).toNat 0 = 1 then 6 else if C.tr.any (fun t => teq t q.log) = true then 0 else 11) else 5) else 4) else chF C.tr C.ns
def backC (C : Cv) (q : Qu) : Cv := { C with ns := C.ns.set (q.data - 1).toNat 1 }
def lookC (C : Cv) (made : List Qu) (q : Qu) : Cv := if lookE C made q = 0 then backC C q else noC
theorem lookE_same {C D : Cv} (h : C.Same D) (made : List Qu) (q : Qu) : lookE C made q = lookE D made q := by unfold lookE; rw [h.tr, h.ns]
theorem lookC_same {C D : Cv} (h : C.Same D) (made : List Qu) (q : Qu) : (lookC C made q).Same (lookC D made q) := by
  unfold lookC
  rw [lookE_same h]
  split
  · exact ⟨h.tr, by unfold backC; dsimp only; rw [h.ns]⟩
  · exact Cv.Same.refl _
theorem lookE_zero {C : Cv} {made : List Qu} {q : Qu} (h : lookE C made q = 0) : chF C.tr C.ns = 0 ∧ 1 ≤ q.data ∧ q.data ≤ (C.ns.length : Int) := by
  unfold lookE at h
  split at h
  · rename_i h0
    split at h
    · split at h
      · rename_i h1; exact ⟨h0, h1⟩
      · omega
    · omega
  · rename_i h0; exact absurd h h0

/-- a nonce is another one -/
theorem COwn.setN {n0 : Nat} {w : World} {C : Cv} (h : COwn n0 w C) {g o : Nat} (ha : C.na = some ⟨g, o, none⟩) {m : Nat} (hm : m < C.ns.length) {n : Int} (wn : (Lit.int .i64 n).wf = true) :
    COwn n0 (w.setCell ⟨g, o + m, none⟩ (.int .i64 n)) { C with ns := C.ns.set m n } := by
  have lN := ownsRow_block h.ns g o none ha
  refine ⟨ownsRow_keep h.tr fun b o' s e => Below.heap_setCell _ _ _ _ (fun q => h.off b o' s o none e (by rw [ha]; simpa using q.symm)), ?_, h.off, ⟨h.ok.trl, h.ok.trok, by simpa using h.ok.nsl, fun x hx => ?_⟩⟩
  · have h1 := h.ns.1
    rcases h.ns.2 with ⟨hv, h0⟩ | ⟨g', cap', cur, hv, hb, hg, q1, q2, q3, q4⟩
    · omega
    · simp only [Value.slice.injEq] at hv
      obtain ⟨e1, _, e3⟩ := hv
      rw [ha] at e1
      simp only [Option.some.injEq, Addr.mk.injEq, and_true] at e1
      obtain ⟨rfl, rfl⟩ := e1
      refine ⟨by simp [wvals], .inr ⟨g, cap', cur.set! m (.int .i64 n), by simp [ha, e3], hb, ?_, by simpa using q1, q2, by simpa using q3, ?_⟩⟩
      · simp [World.setCell, Array.getElem?_modify, hg]
      · have hmc : m < cur.size := by rw [q3]; omega
        simp only [List.length_set] at *
        have e : wvals (C.ns.set m n) = (wvals C.ns).set m (.int .i64 n) := by simp [wvals, List.map_set]
        rw [e]
        have : (cur.set! m (Value.int .i64 n)).toList = cur.toList.set m (.int .i64 n) := by simp
        rw [this, List.take_set, q4]
  · rcases List.mem_or_eq_of_mem_set hx with hx | rfl
    · exact h.ok.nsw x hx
    · exact wn

theorem isQuote_any (m q : Qu) (b : Nat) (w : World) (h0 : w.cell? ⟨b, 0, none⟩ = some (.string q.log)) (h1 : w.cell? ⟨b, 1, none⟩ = some (.int .i64 q.data)) :
    Calls Try.prog 96 #[.agg #[.string m.log, .int .i64 m.data], .pointer (some ⟨b, 0, none⟩)] w fun e w' => e = .returned (.bool (qeq m q)) ∧ Below w.heap.size w w' := by
  unfold qeq
  obtain ⟨ml, md⟩ := m
  obtain ⟨ql, qd⟩ := q
  dsimp only at *
  have hE : ∀ w', (Op.equalIn 10000 69 (.agg #[.string ml, .int .i64 md]) (.agg #[.string ql, .int .i64 qd])).run Try.prog w' = .ok ((ml.toList == ql.toList) && (md == qd)) w' := fun w' => eq_quote 9998 ml ql md qd w'
  have hlt : b < w.heap.size := lt_of_cell h0
  generalize ((ml.toList == ql.toList) && (md == qd)) = z at hE
  go_enter Try.func96, Try.ntmps96
  go_wp2
  go_ret
  exact ⟨rfl, (Below.refl _ _).alloc (Nat.le_refl _) _⟩
theorem isLog_any (l : ByteArray) (q : Qu) (b : Nat) (w : World) (h0 : w.cell? ⟨b, 0, none⟩ = some (.string q.log)) :
    Calls Try.prog 97 #[.string l, .pointer (some ⟨b, 0, none⟩)] w fun e w' => e = .returned (.bool (teq l q.log)) ∧ Below w.heap.size w w' := by
  unfold teq
  obtain ⟨ql, qd⟩ := q
  dsimp only at *
  go_enter Try.func97, Try.ntmps97
  go_wp2
  go_ret
  exact ⟨rfl, Below.refl _ _⟩

set_option maxHeartbeats 800000 in
theorem isQuote_index (a : Option Addr) (xs : List Qu) (cap : Nat) (c0 : Value) (p : Qu → Bool) (w : World) (hl : xs.length ≤ maxLen) (hx : RowsAt w 2 Qu.cells a xs)
    (hp : ∀ j, j < xs.length → ∀ w', Below w.heap.size w w' → Calls Try.prog 96 #[.agg #[.string (xs.getD j default).log, .int .i64 (xs.getD j default).data], c0] w' fun e w'' => e = .returned (.bool (p (xs.getD j default))) ∧ Below w'.heap.size w' w'') :
    Calls Try.prog 92 #[.slice a xs.length cap, .func (.func 96) #[] #[c0]] w fun e w' => e = .returned (.int .i64 (idxOf p xs)) ∧ Below w.heap.size w w' := by
  unfold maxLen at hl
  rcases hx with rfl | ⟨b, off, rfl, hc⟩
  · clear hp
    go_enter Try.func92, Try.ntmps92
    go_wp2
    refine wp_loop_rounds 1 ?_
    rw [rounds_succ]
    go_wp2
    go_ret
    exact ⟨rfl, Below.refl _ _⟩
  · go_enter Try.func92, Try.ntmps92
    go_wp2
    go_loopw [8] (fun i wr => ∃ k : Nat, k ≤ xs.length ∧ i = .int .i64 k ∧ Below w.heap.size w wr ∧ Hid (∀ j, j < k → p (xs.getD j default) = false)) (fun i _ => xs.length - (intOf i).toNat)
    case atStart => exact ⟨0, Nat.zero_le _, rfl, Below.refl _ _, fun j hj => absurd hj (by omega)⟩
    case round =>
      obtain ⟨k, hk, rfl, hbel, hid⟩ := hrel
      by_cases hlt : k < xs.length
      · have k0 := hc k hlt 0 (by omega); have k1 := hc k hlt 1 (by omega)
        have hcall := hp k hlt
        have HP : Hid (xs.getD k default = xs.getD k default) := rfl
        obtain ⟨P, hP⟩ : ∃ P, xs.getD k default = P := ⟨_, rfl⟩
        rw [hP] at k0 k1 hcall
        have HP : Hid (xs.getD k default = P) := hP
        clear hP hc hp
        have HQ : Hid (p P = p P) := rfl
        obtain ⟨lg, da⟩ := P
        simp only [Qu.cells] at k0 k1
        have bl : b < w.heap.size := lt_of_cell k0
        have l0 : wr.cell? ⟨b, off + k * 2, none⟩ = some (.string lg) := (hbel.cell (p := ⟨b, _, none⟩) bl).trans k0; have l1 : wr.cell? ⟨b, off + k * 2 + 1, none⟩ = some (.int .i64 da) := (hbel.cell (p := ⟨b, _, none⟩) bl).trans k1
        clear k0 k1 bl
        obtain ⟨z, hz⟩ : ∃ z, p ⟨lg, da⟩ = z := ⟨_, rfl⟩
        rw [hz] at hcall
        have HZ : Hid (p (xs.getD k default) = z) := by rw [HP.out]; exact hz
        clear hz HQ
        cases z with
        | false =>
          go_wp2_with (go_at_call 96; refine (hcall _ hbel).mono ?_; rintro e w1 ⟨rfl, hb1⟩)
          go_roundw
          case rel => exact ⟨k + 1, by omega, by go_num, hbel.trans (hb1.mono hbel.size), snoc_false hid HZ.out⟩
          case measure => simp [intOf]; omega
        | true =>
          go_wp2_with (go_at_call 96; refine (hcall _ hbel).mono ?_; rintro e w1 ⟨rfl, hb1⟩)
          go_ret
          exact ⟨ret_int (idxOf_at hlt hid.out HZ.out).symm, hbel.trans (hb1.mono hbel.size)⟩
      · have hkl : k = xs.length := by omega
        subst hkl
        clear hp hc
        go_wp2
        go_ret
        exact ⟨ret_int (idxOf_none hid.out).symm, hbel⟩

theorem isQuote_contains (a : Option Addr) (xs : List Qu) (cap : Nat) (c0 : Value) (p : Qu → Bool) (w : World) (hl : xs.length ≤ maxLen) (hx : RowsAt w 2 Qu.cells a xs)
    (hp : ∀ j, j < xs.length → ∀ w', Below w.heap.size w w' → Calls Try.prog 96 #[.agg #[.string (xs.getD j default).log, .int .i64 (xs.getD j default).data], c0] w' fun e w'' => e = .returned (.bool (p (xs.getD j default))) ∧ Below w'.heap.size w' w'') :
    Calls Try.prog 76 #[.slice a xs.length cap, .func (.func 96) #[] #[c0]] w fun e w' => e = .returned (.bool (xs.any p)) ∧ Below w.heap.size w w' := by
  have hI := isQuote_index a xs cap c0 p w hl hx hp
  have E := idxOf_any p xs
  generalize idxOf p xs = z at hI E
  rw [← E]
  clear hx hl hp E
  go_enter Try.func76, Try.ntmps76
  go_wp2_with (go_at_call 92; refine hI.mono ?_; rintro e w' ⟨rfl, hb⟩)
  go_ret
  exact ⟨rfl, hb⟩

set_option maxHeartbeats 800000 in
theorem isLog_index (a : Option Addr) (xs : List ByteArray) (cap : Nat) (c0 : Value) (p : ByteArray → Bool) (w : World) (hl : xs.length ≤ maxLen) (hx : Texts w a xs)
    (hp : ∀ x w', Below w.heap.size w w' → Calls Try.prog 97 #[.string x, c0] w' fun e w'' => e = .returned (.bool (p x)) ∧ Below w'.heap.size w' w'') :
    Calls Try.prog 95 #[.slice a xs.length cap, .func (.func 97) #[] #[c0]] w fun e w' => e = .returned (.int .i64 (idxOf p xs)) ∧ Below w.heap.size w w' := by
  unfold maxLen at hl
  rcases hx with rfl | ⟨b, off, rfl, hc⟩
  · clear hp
    go_enter Try.func95, Try.ntmps95
    go_wp2
    refine wp_loop_rounds 1 ?_
    rw [rounds_succ]
    go_wp2
    go_ret
    exact ⟨rfl, Below.refl _ _⟩
  · go_enter Try.func95, Try.ntmps95
    go_wp2
    go_loopw [8] (fun i wr => ∃ k : Nat, k ≤ xs.length ∧ i = .int .i64 k ∧ Below w.heap.size w wr ∧ Hid (∀ j, j < k → p (xs.getD j default) = false)) (fun i _ => xs.length - (intOf i).toNat)
    case atStart => exact ⟨0, Nat.zero_le _, rfl, Below.refl _ _, fun j hj => absurd hj (by omega)⟩
    case round =>
      obtain ⟨k, hk, rfl, hbel, hid⟩ := hrel
      by_cases hlt : k < xs.length
      · have k0 := hc k hlt
        obtain ⟨P, hP⟩ : ∃ P, xs.getD k default = P := ⟨_, rfl⟩
        rw [hP] at k0
        have HP : Hid (xs.getD k default = P) := hP
        have hcall := hp P
        clear hP hc hp
        have bl : b < w.heap.size := lt_of_cell k0
        have l0 : wr.cell? ⟨b, off + k, none⟩ = some (.string P) := (hbel.cell (p := ⟨b, _, none⟩) bl).trans k0
        clear k0 bl
        obtain ⟨z, hz⟩ : ∃ z, p P = z := ⟨_, rfl⟩
        rw [hz] at hcall
        have HZ : Hid (p (xs.getD k default) = z) := by rw [HP.out]; exact hz
        clear hz
        cases z with
        | false =>
          go_wp2_with (go_at_call 97; refine (hcall _ hbel).mono ?_; rintro e w1 ⟨rfl, hb1⟩)
          go_roundw
          case rel => exact ⟨k + 1, by omega, by go_num, hbel.trans (hb1.mono hbel.size), snoc_false hid HZ.out⟩
          case measure => simp [intOf]; omega
        | true =>
          go_wp2_with (go_at_call 97; refine (hcall _ hbel).mono ?_; rintro e w1 ⟨rfl, hb1⟩)
          go_ret
          exact ⟨ret_int (idxOf_at hlt hid.out HZ.out).symm, hbel.trans (hb1.mono hbel.size)⟩
      · have hkl : k = xs.length := by omega
        subst hkl
        clear hp hc
        go_wp2
        go_ret
        exact ⟨ret_int (idxOf_none hid.out).symm, hbel⟩

theorem isLog_contains (a : Option Addr) (xs : List ByteArray) (cap : Nat) (c0 : Value) (p : ByteArray → Bool) (w : World) (hl : xs.length ≤ maxLen) (hx : Texts w a xs)
    (hp : ∀ x w', Below w.heap.size w w' → Calls Try.prog 97 #[.string x, c0] w' fun e w'' => e = .returned (.bool (p x)) ∧ Below w'.heap.size w' w'') :
    Calls Try.prog 87 #[.slice a xs.length cap, .func (.func 97) #[] #[c0]] w fun e w' => e = .returned (.bool (xs.any p)) ∧ Below w.heap.size w w' := by
  have hI := isLog_index a xs cap c0 p w hl hx hp
  have E := idxOf_any p xs
  generalize idxOf p xs = z at hI E
  rw [← E]
  clear hx hl hp E
  go_enter Try.func87, Try.ntmps87
  go_wp2_with (go_at_call 95; refine hI.mono ?_; rintro e w' ⟨rfl, hb⟩)
  go_ret
  exact ⟨rfl, hb⟩

set_option maxRecDepth 100000 in
set_option maxHeartbeats 4000000 in
theorem checkQuote_any (C : Cv) (ma : Option Addr) (made : List Qu) (mcap : Nat) (q : Qu) (w : World) (hC : ChalAt w C) (hml : made.length ≤ maxLen) (hm : RowsAt w 2 Qu.cells ma made) (hq : q.Ok) :
    Calls Try.prog 88 #[C.val, .slice ma made.length mcap, .agg #[.string q.log, .int .i64 q.data]] w fun x w' => x = .returned (.int .i64 (lookE C made q)) ∧ Below w.heap.size w w' := by
  obtain ⟨W2, hW2⟩ : ∃ W2, Hid (W2 = (w.alloc (.cells #[.slice C.ta C.tr.length C.tcap, .slice C.na C.ns.length C.ncap] 61)).alloc (.cells #[.string q.log, .int .i64 q.data] 69)) := ⟨_, rfl⟩
  have BW : Hid (Below w.heap.size w W2) := by show Below _ _ _; rw [hW2.out]; exact ((Below.refl _ _).alloc (Nat.le_refl _) _).alloc (by simp) _
  have hC2 := hC.below BW.out
  have p0 : W2.cell? ⟨w.heap.size, 0, none⟩ = some (.slice C.ta C.tr.length C.tcap) := by rw [hW2.out, World.cell?_alloc_past _ _ _ (by simp), World.cell?_alloc_at _ _ _ _ rfl]; rfl
  have p1 : W2.cell? ⟨w.heap.size, 1, none⟩ = some (.slice C.na C.ns.length C.ncap) := by rw [hW2.out, World.cell?_alloc_past _ _ _ (by simp), World.cell?_alloc_at _ _ _ _ rfl]; rfl
  have u0 : W2.cell? ⟨w.heap.size + 1, 0, none⟩ = some (.string q.log) := by rw [hW2.out, World.cell?_alloc_at _ _ _ _ (by simp)]; rfl
  have u1 : W2.cell? ⟨w.heap.size + 1, 1, none⟩ = some (.int .i64 q.data) := by rw [hW2.out, World.cell?_alloc_at _ _ _ _ (by simp)]; rfl
  have l0 : w.heap.size < W2.heap.size := lt_of_cell p0
  have l1 : w.heap.size + 1 < W2.heap.size := lt_of_cell u0
  have h1 := checkC_any C W2 hC2
  have hm2 : RowsAt W2 2 Qu.cells ma made := RowsAt.below (cells := Qu.cells) (fun _ => rfl) hm BW.out
  have h2 := fun w1 (h : Below W2.heap.size W2 w1) => isQuote_contains ma made mcap (.pointer (some ⟨w.heap.size + 1, 0, none⟩)) (fun m => qeq m q) w1 hml (hm2.below (cells := Qu.cells) (fun _ => rfl) h) (fun j hj w' hb => isQuote_any _ q _ w' ((hb.cell (p := ⟨w.heap.size + 1, 0, none⟩) (Nat.lt_of_lt_of_le l1 h.size)).trans ((h.cell (p := ⟨w.heap.size + 1, 0, none⟩) l1).trans u0)) ((hb.cell (p := ⟨w.heap.size + 1, 1, none⟩) (Nat.lt_of_lt_of_le l1 h.size)).trans ((h.cell (p := ⟨w.heap.size + 1, 1, none⟩) l1).trans u1)))
  have h3 := fun w1 (h : Below W2.heap.size W2 w1) => isLog_contains C.ta C.tr C.tcap (.pointer (some ⟨w.heap.size + 1, 0, none⟩)) (fun t => teq t q.log) w1 hC.ok.trl (hC2.tr.below h) (fun t w' hb => isLog_any t q _ w' ((hb.cell (p := ⟨w.heap.size + 1, 0, none⟩) (Nat.lt_of_lt_of_le l1 h.size)).trans ((h.cell (p := ⟨w.heap.size + 1, 0, none⟩) l1).trans u0)))
  have HN : Hid (∀ w1, Below W2.heap.size W2 w1 → Ints w1 C.na C.ns) := fun w1 h => hC2.ns.below h
  have HP0 : Hid (_) := p0
  have HP1 : Hid (_) := p1
  have HU1 : Hid (_) := u1
  have hwd := i64_wf hq.wd
  unfold lookE
  unfold Cv.val at h1 ⊢
  obtain ⟨ta, tr, tcap, na, ns, ncap⟩ := C
  obtain ⟨ql, qd⟩ := q
  dsimp only at *
  clear hC hC2 hq hm hm2
  obtain ⟨X, hX⟩ : ∃ X, Hid ((if chF tr ns = 0 then (if made.any (fun m => qeq m ⟨ql, qd⟩) = true then (if 1 ≤ qd ∧ qd ≤ (ns.length : Int) then (if ns.getD (qd - 1).toNat 0 = 1 then 6 else if tr.any (fun t => teq t ql) = true then 0 else 11) else 5) else 4) else chF tr ns) = X) := ⟨_, rfl⟩
  rw [hX.out]
  by_cases hz : chF tr ns = 0
  · replace hX : Hid ((if made.any (fun m => qeq m ⟨ql, qd⟩) = true then (if 1 ≤ qd ∧ qd ≤ (ns.length : Int) then (if ns.getD (qd - 1).toNat 0 = 1 then (6 : Int) else if tr.any (fun t => teq t ql) = true then 0 else 11) else 5) else 4) = X) := by show _ = _; rw [← hX.out, if_pos hz]
    rw [hz] at h1
    clear hz
    generalize (made.any fun m => qeq m ⟨ql, qd⟩) = z2 at h2 hX
    generalize (tr.any fun t => teq t ql) = z3 at h3 hX
    cases z2 with
    | false =>
      obtain rfl : X = 4 := by rw [← hX.out]; rfl
      clear hX h3
      go_enter Try.func88, Try.ntmps88
      go_upto_region 1 with fail
      rw [← hW2.out]
      go_wp2_with (first
        | (go_at_call 49; refine h1.mono ?_; rintro x w1 ⟨rfl, hb1⟩; have HB1 : Hid (_) := hb1; clear hb1)
        | (go_at_call 76; refine (h2 _ HB1.out).mono ?_; rintro x w3 ⟨rfl, hb3⟩; have HB3 : Hid (_) := hb3; clear hb3)
        | fail)
      go_ret
      exact ⟨rfl, BW.out.trans ((HB1.out.trans (HB3.out.mono HB1.out.size)).mono BW.out.size)⟩
    | true =>
      replace hX : Hid ((if 1 ≤ qd ∧ qd ≤ (ns.length : Int) then (if ns.getD (qd - 1).toNat 0 = 1 then (6 : Int) else if z3 = true then 0 else 11) else 5) = X) := by show _ = _; rw [← hX.out, if_pos rfl]
      by_cases k1 : 1 ≤ qd
      · by_cases k2 : qd ≤ (ns.length : Int)
        · replace hX : Hid ((if ns.getD (qd - 1).toNat 0 = 1 then (6 : Int) else if z3 = true then 0 else 11) = X) := by show _ = _; rw [← hX.out, if_pos (show 1 ≤ qd ∧ qd ≤ (ns.length : Int) from ⟨k1, k2⟩)]
          obtain ⟨m, rfl⟩ : ∃ m : Nat, qd = (m : Int) + 1 := ⟨(qd - 1).toNat, by omega⟩
          have hmn : m < ns.length := by omega
          rw [show ((m : Int) + 1 - 1).toNat = m by omega] at hX
          have hwm : IntKind.i64.wrap ((m : Int) + 1 - 1) = (m : Int) := by rw [IntKind.wrap_i64]; omega
          have k1' : ¬ ((m : Int) + 1 < 1) := by omega
          have k2' : ¬ ((ns.length : Int) < (m : Int) + 1) := by omega
          have k3 : (m : Int) < (ns.length : Int) := by omega
          obtain ⟨nb, no, hna, hc⟩ : ∃ nb no, na = some ⟨nb, no, none⟩ ∧ Hid (∀ w1, Below W2.heap.size W2 w1 → w1.cell? ⟨nb, no + m, none⟩ = some (.int .i64 (ns.getD m 0))) := by
            rcases HN.out W2 (Below.refl _ _) with e | ⟨nb, no, e, hc⟩
            · rw [e] at hmn; simp at hmn
            · exact ⟨nb, no, e, fun w1 hb => (hb.cell (p := ⟨nb, no + m, none⟩) (lt_of_cell (hc m hmn))).trans (hc m hmn)⟩
          subst hna
          generalize ns.getD m 0 = v at hc hX
          clear HN
          by_cases hv : v = 1
          · subst hv
            obtain rfl : X = 6 := by rw [← hX.out, if_pos rfl]
            clear hX h3
            go_enter Try.func88, Try.ntmps88
            go_upto_region 1 with fail
            rw [← hW2.out]
            go_wp2_with (first
              | (go_at_call 49; refine h1.mono ?_; rintro x w1 ⟨rfl, hb1⟩; have HB1 : Hid (_) := hb1; clear hb1)
              | (go_at_call 76; refine (h2 _ HB1.out).mono ?_; rintro x w3 ⟨rfl, hb3⟩; have HB3 : Hid (Below W2.heap.size W2 w3) := HB1.out.trans (hb3.mono HB1.out.size); have c1 := hc.out _ HB3.out; have P0 : w3.cell? ⟨w.heap.size, 0, none⟩ = some (.slice ta tr.length tcap) := (HB3.out.cell (p := ⟨w.heap.size, 0, none⟩) l0).trans HP0.out; have P1 : w3.cell? ⟨w.heap.size, 1, none⟩ = some (.slice (some ⟨nb, no, none⟩) ns.length ncap) := (HB3.out.cell (p := ⟨w.heap.size, 1, none⟩) l0).trans HP1.out; have U1 : w3.cell? ⟨w.heap.size + 1, 1, none⟩ = some (.int .i64 ((m : Int) + 1)) := (HB3.out.cell (p := ⟨w.heap.size + 1, 1, none⟩) l1).trans HU1.out; clear hb3)
              | fail)
            go_ret
            exact ⟨rfl, BW.out.trans (HB3.out.mono BW.out.size)⟩
          · have hv1 : (v == 1) = false := by simpa using hv
            replace hX : Hid ((if z3 = true then (0 : Int) else 11) = X) := by show _ = _; rw [← hX.out, if_neg hv]
            clear hv
            cases z3 with
            | false =>
              obtain rfl : X = 11 := by rw [← hX.out]; rfl
              clear hX
              go_enter Try.func88, Try.ntmps88
              go_upto_region 1 with fail
              rw [← hW2.out]
              go_wp2_with (first
                | (go_at_call 49; refine h1.mono ?_; rintro x w1 ⟨rfl, hb1⟩; have HB1 : Hid (_) := hb1; clear hb1)
                | (go_at_call 76; refine (h2 _ HB1.out).mono ?_; rintro x w3 ⟨rfl, hb3⟩; have HB3 : Hid (Below W2.heap.size W2 w3) := HB1.out.trans (hb3.mono HB1.out.size); have c1 := hc.out _ HB3.out; have P0 : w3.cell? ⟨w.heap.size, 0, none⟩ = some (.slice ta tr.length tcap) := (HB3.out.cell (p := ⟨w.heap.size, 0, none⟩) l0).trans HP0.out; have P1 : w3.cell? ⟨w.heap.size, 1, none⟩ = some (.slice (some ⟨nb, no, none⟩) ns.length ncap) := (HB3.out.cell (p := ⟨w.heap.size, 1, none⟩) l0).trans HP1.out; have U1 : w3.cell? ⟨w.heap.size + 1, 1, none⟩ = some (.int .i64 ((m : Int) + 1)) := (HB3.out.cell (p := ⟨w.heap.size + 1, 1, none⟩) l1).trans HU1.out; clear hb3)
                | (go_at_call 87; refine (h3 _ HB3.out).mono ?_; rintro x w4 ⟨rfl, hb4⟩; have HB4 : Hid (_) := hb4; clear hb4)
                | fail)
              go_ret
              exact ⟨rfl, BW.out.trans ((HB3.out.trans (HB4.out.mono HB3.out.size)).mono BW.out.size)⟩
            | true =>
              obtain rfl : X = 0 := by rw [← hX.out]; rfl
              clear hX
              go_enter Try.func88, Try.ntmps88
              go_upto_region 1 with fail
              rw [← hW2.out]
              go_wp2_with (first
                | (go_at_call 49; refine h1.mono ?_; rintro x w1 ⟨rfl, hb1⟩; have HB1 : Hid (_) := hb1; clear hb1)
                | (go_at_call 76; refine (h2 _ HB1.out).mono ?_; rintro x w3 ⟨rfl, hb3⟩; have HB3 : Hid (Below W2.heap.size W2 w3) := HB1.out.trans (hb3.mono HB1.out.size); have c1 := hc.out _ HB3.out; have P0 : w3.cell? ⟨w.heap.size, 0, none⟩ = some (.slice ta tr.length tcap) := (HB3.out.cell (p := ⟨w.heap.size, 0, none⟩) l0).trans HP0.out; have P1 : w3.cell? ⟨w.heap.size, 1, none⟩ = some (.slice (some ⟨nb, no, none⟩) ns.length ncap) := (HB3.out.cell (p := ⟨w.heap.size, 1, none⟩) l0).trans HP1.out; have U1 : w3.cell? ⟨w.heap.size + 1, 1, none⟩ = some (.int .i64 ((m : Int) + 1)) := (HB3.out.cell (p := ⟨w.heap.size + 1, 1, none⟩) l1).trans HU1.out; clear hb3)
                | (go_at_call 87; refine (h3 _ HB3.out).mono ?_; rintro x w4 ⟨rfl, hb4⟩; have HB4 : Hid (_) := hb4; clear hb4)
                | fail)
              go_ret
              exact ⟨rfl, BW.out.trans ((HB3.out.trans (HB4.out.mono HB3.out.size)).mono BW.out.size)⟩
        · obtain rfl : X = 5 := by rw [← hX.out, if_neg (by omega)]
          have k1' : ¬ (qd < 1) := by omega
          have k2' : (ns.length : Int) < qd := by omega
          clear hX h3 HN
          go_enter Try.func88, Try.ntmps88
          go_upto_region 1 with fail
          rw [← hW2.out]
          go_wp2_with (first
            | (go_at_call 49; refine h1.mono ?_; rintro x w1 ⟨rfl, hb1⟩; have HB1 : Hid (_) := hb1; clear hb1)
            | (go_at_call 76; refine (h2 _ HB1.out).mono ?_; rintro x w3 ⟨rfl, hb3⟩; have HB3 : Hid (Below W2.heap.size W2 w3) := HB1.out.trans (hb3.mono HB1.out.size); have P1 : w3.cell? ⟨w.heap.size, 1, none⟩ = some (.slice na ns.length ncap) := (HB3.out.cell (p := ⟨w.heap.size, 1, none⟩) l0).trans HP1.out; have U1 : w3.cell? ⟨w.heap.size + 1, 1, none⟩ = some (.int .i64 qd) := (HB3.out.cell (p := ⟨w.heap.size + 1, 1, none⟩) l1).trans HU1.out; clear hb3)
            | fail)
          go_ret
          exact ⟨rfl, BW.out.trans (HB3.out.mono BW.out.size)⟩
      · obtain rfl : X = 5 := by rw [← hX.out, if_neg (by omega)]
        have k1' : qd < 1 := by omega
        clear hX h3 HN
        go_enter Try.func88, Try.ntmps88
        go_upto_region 1 with fail
        rw [← hW2.out]
        go_wp2_with (first
          | (go_at_call 49; refine h1.mono ?_; rintro x w1 ⟨rfl, hb1⟩; have HB1 : Hid (_) := hb1; clear hb1)
          | (go_at_call 76; refine (h2 _ HB1.out).mono ?_; rintro x w3 ⟨rfl, hb3⟩; have HB3 : Hid (Below W2.heap.size W2 w3) := HB1.out.trans (hb3.mono HB1.out.size); have U1 : w3.cell? ⟨w.heap.size + 1, 1, none⟩ = some (.int .i64 qd) := (HB3.out.cell (p := ⟨w.heap.size + 1, 1, none⟩) l1).trans HU1.out; clear hb3)
          | fail)
        go_ret
        exact ⟨rfl, BW.out.trans (HB3.out.mono BW.out.size)⟩
  · obtain rfl : X = chF tr ns := by rw [← hX.out, if_neg hz]
    have hz1 : (chF tr ns != 0) = true := by simpa using hz
    clear hX hz h2 h3
    generalize chF tr ns = z at h1 hz1 ⊢
    go_enter Try.func88, Try.ntmps88
    go_upto_region 1 with fail
    rw [← hW2.out]
    go_wp2_with (go_at_call 49; refine h1.mono ?_; rintro x w1 ⟨rfl, hb1⟩)
    go_ret
    exact ⟨rfl, BW.out.trans (hb1.mono BW.out.size)⟩

end Go.Proofs.Ytdbbiibnhgcndaa
