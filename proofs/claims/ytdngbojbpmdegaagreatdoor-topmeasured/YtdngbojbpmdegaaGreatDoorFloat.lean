import Derived.Test.YtdngbojbpmdegaaGreatDoorJLogged
import Derived.Below
import Derived.Deep.Heap
namespace Go.Proofs.YtdngbojbpmdegaaGreatDoor
open Go.RowKit
set_option linter.unusedVariables false
section
variable {P : Program} {ops : Array Oper} {Q : Exit -> Act -> World -> Prop} {md : Region.Mode}
theorem wpOp_unput {j : Nat} {oj : Oper} {d : Option Tmp} {v : Value} (hj : ops[j]? = some oj) (h1 : ∀ t, d = some t -> t ∉ oj.looksAt ops) (h2 : ∀ t, d = some t -> oj.dst ≠ some t) (hsj : ∀ cs b, oj.op ≠ .select cs b)
    (hQ : ∀ c a w, Q (.panic c) a w -> Q (.panic c) (a.put d v) w) {K : Act -> World -> Prop} {a : Act} {w : World} (h : wpOp P ops Q j K a w) :
    wpOp P ops Q j (fun a' w' => ∃ a'', a' = a''.put d v /\ K a'' w') (a.put d v) w := by
  unfold wpOp at *
  simp only [hj] at *
  rw [wanted_put oj a d v h1]
  split
  · rename_i hw
    simp only [hw, if_true] at h
    rcases h with h | ⟨hasks, hlets⟩
    case inr => exact .inr ⟨by unfold Oper.asks at *; rw [execOp_put oj hsj a d v h1]; exact hasks, hlets⟩
    refine .inl ?_
    unfold Oper.wp at *
    rw [execOp_put oj hsj a d v h1]
    generalize (execOp a.eval oj).run P w = r at *
    cases r with
    | ok n w' =>
      cases n <;> simp only [Oper.upon] at h ⊢
      case value u => exact ⟨a.put oj.dst u, Act.put_comm a v u h2, h⟩
      case skip => exact ⟨a.put oj.dst undef, Act.put_comm a v undef h2, h⟩
      case defer dd => exact ⟨_, by rw [Act.put_defers, Act.put_comm _ v undef h2], h⟩
      case enter f args =>
        refine Calls.mono h fun e w'' he => ?_
        cases e with
        | returned u => exact ⟨_, Act.put_comm a v u h2, he⟩
        | panicked c => exact hQ _ _ _ he
        | outgrown => exact he
      case row row args => exact Rows.mono h fun u w'' he => ⟨_, Act.put_comm a v u h2, he⟩
    | halt x w' =>
      cases x <;> simp only [Oper.upon] at h ⊢
      case panic u => exact hQ _ _ _ h
  · rename_i hw
    simp only [hw] at h
    exact ⟨_, Act.put_comm a v undef h2, h⟩
def ptrV (g : Nat) : Value := .pointer (some ⟨g, 0, none⟩)
def edgeB (md : Region.Mode) (o : Oper) (i : Nat) : Bool := o.after.any fun e => Region.binds md e && (e.on == i)
def stB (md : Region.Mode) (ops : Array Oper) (E : List Nat) (i1 i2 : Nat) (d1 d2 : Tmp) (last : Nat) : Bool :=
  (List.range ops.size).all fun j => match ops[j]? with
    | none => true
    | some o => if j = i1 ∨ j = i2 then o.after.isEmpty
      else if E.contains j then !edgeB md o i1 && !edgeB md o i2 && !(o.looksAt ops).contains d1 && !(o.looksAt ops).contains d2 && (o.dst != some d1) && (o.dst != some d2)
      else waitsB md ops ops.size j last
def wpFl (P : Program) (md : Region.Mode) (ops : Array Oper) (Q : Exit -> Act -> World -> Prop) (i1 i2 : Nat) (d1 d2 : Tmp) (o1 o2 : Obj) (last N : Nat) : Nat -> List (Nat × Nat) -> Array Bool -> Act -> World -> Prop
  | 0, I, seen, a, w => ∀ w', Below w.heap.size w w' ->
      (∀ g1 g2, w'.heap[g1]? = some o1 -> w'.heap[g2]? = some o2 -> g1 ≠ g2 -> (∀ p ∈ I, g1 < p.1 ∨ p.2 <= g1) -> (∀ p ∈ I, g2 < p.1 ∨ p.2 <= g2) -> wpAny P md ops Q N ((seen.setIfInBounds i1 true).setIfInBounds i2 true) ((a.put (some d1) (ptrV g1)).put (some d2) (ptrV g2)) w') /\
      (∀ g1, w'.heap[g1]? = some o1 -> (∀ p ∈ I, g1 < p.1 ∨ p.2 <= g1) -> wpAny P md ops Q (N + 1) (seen.setIfInBounds i1 true) (a.put (some d1) (ptrV g1)) w') /\
      (∀ g2, w'.heap[g2]? = some o2 -> (∀ p ∈ I, g2 < p.1 ∨ p.2 <= g2) -> wpAny P md ops Q (N + 1) (seen.setIfInBounds i2 true) (a.put (some d2) (ptrV g2)) w') /\
      wpAny P md ops Q (N + 2) seen a w'
  | n + 1, I, seen, a, w => seen.getD last true = false /\ (∃ j ∈ Region.ready md ops seen, j ≠ i1 /\ j ≠ i2) /\ ∀ w', Below w.heap.size w w' -> ∀ j ∈ Region.ready md ops seen, j ≠ i1 -> j ≠ i2 ->
      wpOp P ops Q j (fun a' w'' => Below w'.heap.size w' w'' /\ wpFl P md ops Q i1 i2 d1 d2 o1 o2 last N n ((w'.heap.size, w''.heap.size) :: I) (seen.setIfInBounds j true) a' w'') a w'
variable {i1 i2 : Nat} {d1 d2 : Tmp} {o1 o2 : Obj} {N last : Nat} {E : List Nat}
theorem no_edge {o : Oper} {i : Nat} (h : edgeB md o i = false) : ∀ e ∈ o.after, Region.binds md e = true -> e.on ≠ i := fun e he hb q => by
  have : edgeB md o i = true := by
    unfold edgeB
    rw [Array.any_eq_true']
    exact ⟨e, he, by rw [hb, q]; simp⟩
  rw [h] at this
  cases this
theorem seen_of {seen : Array Bool} {i : Nat} (h : seen.getD i true = false) : (seen.setIfInBounds i true).getD i true = true := by
  rcases Nat.lt_or_ge i seen.size with q | q
  · simp [q]
  · simp [Array.getElem?_eq_none q] at h
theorem ready_ne {seen : Array Bool} {i j : Nat} (h : seen.getD i true = false) (hj : j ∈ Region.ready md ops (seen.setIfInBounds i true)) : j ≠ i := fun e => by
  subst e
  have h1 := (mem_ready.1 hj).1
  rw [seen_of h] at h1
  cases h1
theorem unseen_ne {seen : Array Bool} {i j : Nat} (hij : i ≠ j) (h : seen.getD j true = false) : (seen.setIfInBounds i true).getD j true = false := by rw [getD_set_ne true hij]; exact h
theorem stB_at (hst : stB md ops E i1 i2 d1 d2 last = true) {j : Nat} {o : Oper} (ho : ops[j]? = some o) :
    ((j = i1 ∨ j = i2) /\ o.after = #[]) ∨ (¬ (j = i1 ∨ j = i2) /\ E.contains j = true /\ edgeB md o i1 = false /\ edgeB md o i2 = false /\ d1 ∉ o.looksAt ops /\ d2 ∉ o.looksAt ops /\ o.dst ≠ some d1 /\ o.dst ≠ some d2) ∨
      (¬ (j = i1 ∨ j = i2) /\ waitsB md ops ops.size j last = true) := by
  unfold stB at hst
  rw [List.all_eq_true] at hst
  have h := hst j (List.mem_range.2 (Array.getElem?_eq_some_iff.1 ho).1)
  rw [ho] at h
  dsimp only at h
  split at h
  · rename_i q
    exact .inl ⟨q, by simpa using h⟩
  · rename_i q
    split at h
    · rename_i c
      simp only [Bool.and_eq_true, Bool.not_eq_true', bne_iff_ne, ne_eq] at h
      obtain ⟨⟨⟨⟨⟨a, b⟩, c1⟩, c2⟩, e1⟩, e2⟩ := h
      exact .inr (.inl ⟨q, c, a, b, by simpa using c1, by simpa using c2, e1, e2⟩)
    · rename_i c
      exact .inr (.inr ⟨q, h⟩)
theorem ready_drop {seen : Array Bool} {i j : Nat} {o : Oper} (ho : ops[j]? = some o) (hn : edgeB md o i = false) (hij : j ≠ i) (hj : j ∈ Region.ready md ops (seen.setIfInBounds i true)) : j ∈ Region.ready md ops seen := by
  rw [mem_ready] at hj ⊢
  obtain ⟨h1, o', ho', hall⟩ := hj
  rw [ho] at ho'
  cases ho'
  refine ⟨by rw [getD_set_ne true (Ne.symm hij)] at h1; exact h1, o, ho, fun e he hb => ?_⟩
  have h2 := hall e he hb
  rw [getD_set_ne false (Ne.symm (no_edge hn e he hb))] at h2
  exact h2
theorem late_no {seen : Array Bool} {j last : Nat} {o : Oper} (hc : Shut9 md ops seen) (ho : ops[j]? = some o) (he : waitsB md ops ops.size j last = true) (hs : seen.getD last true = false) (hj : j ∈ Region.ready md ops seen) : False := by
  obtain ⟨_, o', ho', hall⟩ := mem_ready.1 hj
  rw [ho] at ho'
  cases ho'
  have h := waits_seen hc last ops.size j o ho hall he
  rcases Nat.lt_or_ge last seen.size with q | q
  · simp [q] at hs h; rw [hs] at h; cases h
  · simp [Array.getElem?_eq_none q] at hs
theorem two_ready (hst : stB md ops E i1 i2 d1 d2 last = true) {seen : Array Bool} {i : Nat} (hi : i = i1 ∨ i = i2) (hs : seen.getD i true = false) (hlt : i < ops.size) : i ∈ Region.ready md ops seen := by
  have ho : ops[i]? = some ops[i] := Array.getElem?_eq_getElem hlt
  rcases stB_at hst ho with ⟨_, h⟩ | ⟨h, _⟩ | ⟨h, _⟩
  · exact mem_ready.2 ⟨hs, _, ho, fun e he => by rw [h] at he; simp at he⟩
  · exact absurd hi h
  · exact absurd hi h
theorem alloc_old {wt : World} {g : Nat} {o : Obj} (ob : Obj) (h : wt.heap[g]? = some o) : (wt.alloc ob).heap[g]? = some o :=
  (((Below.refl wt.heap.size wt).alloc (Nat.le_refl _) ob).block g (Array.getElem?_eq_some_iff.1 h).1).trans h
theorem fl_step (hst : stB md ops E i1 i2 d1 d2 last = true) (hn : i1 ≠ i2) (hd : d1 ≠ d2) (hl1 : i1 < ops.size) (hl2 : i2 < ops.size)
    (A1 : ∀ a w (K : Act -> World -> Prop), K (a.put (some d1) (ptrV w.heap.size)) (w.alloc o1) -> wpOp P ops Q i1 K a w)
    (A2 : ∀ a w (K : Act -> World -> Prop), K (a.put (some d2) (ptrV w.heap.size)) (w.alloc o2) -> wpOp P ops Q i2 K a w)
    {m : Nat} {I : List (Nat × Nat)} {seen : Array Bool} {a : Act} {w : World} (s1 : seen.getD i1 true = false) (s2 : seen.getD i2 true = false) (hI : ∀ p ∈ I, p.2 <= w.heap.size)
    (c11 : ∀ wt, Below w.heap.size w wt -> ∀ g1 g2, wt.heap[g1]? = some o1 -> wt.heap[g2]? = some o2 -> g1 ≠ g2 -> (∀ p ∈ I, g1 < p.1 ∨ p.2 <= g1) -> (∀ p ∈ I, g2 < p.1 ∨ p.2 <= g2) -> wpAny P md ops Q m ((seen.setIfInBounds i1 true).setIfInBounds i2 true) ((a.put (some d1) (ptrV g1)).put (some d2) (ptrV g2)) wt)
    (o10 : ∀ wt, Below w.heap.size w wt -> ∀ g1, wt.heap[g1]? = some o1 -> (∀ p ∈ I, g1 < p.1 ∨ p.2 <= g1) -> ∀ j ∈ Region.ready md ops (seen.setIfInBounds i1 true), j ≠ i2 -> wpOp P ops Q j (wpAny P md ops Q m ((seen.setIfInBounds i1 true).setIfInBounds j true)) (a.put (some d1) (ptrV g1)) wt)
    (o01 : ∀ wt, Below w.heap.size w wt -> ∀ g2, wt.heap[g2]? = some o2 -> (∀ p ∈ I, g2 < p.1 ∨ p.2 <= g2) -> ∀ j ∈ Region.ready md ops (seen.setIfInBounds i2 true), j ≠ i1 -> wpOp P ops Q j (wpAny P md ops Q m ((seen.setIfInBounds i2 true).setIfInBounds j true)) (a.put (some d2) (ptrV g2)) wt)
    (o00 : ∀ wt, Below w.heap.size w wt -> ∀ j ∈ Region.ready md ops seen, j ≠ i1 -> j ≠ i2 -> wpOp P ops Q j (wpAny P md ops Q (m + 1) (seen.setIfInBounds j true)) a wt) :
    (∀ wt, Below w.heap.size w wt -> ∀ g1, wt.heap[g1]? = some o1 -> (∀ p ∈ I, g1 < p.1 ∨ p.2 <= g1) -> wpAny P md ops Q (m + 1) (seen.setIfInBounds i1 true) (a.put (some d1) (ptrV g1)) wt) /\
    (∀ wt, Below w.heap.size w wt -> ∀ g2, wt.heap[g2]? = some o2 -> (∀ p ∈ I, g2 < p.1 ∨ p.2 <= g2) -> wpAny P md ops Q (m + 1) (seen.setIfInBounds i2 true) (a.put (some d2) (ptrV g2)) wt) /\
    (∀ wt, Below w.heap.size w wt -> wpAny P md ops Q (m + 2) seen a wt) := by
  have hnew : ∀ {wt : World}, Below w.heap.size w wt -> ∀ p ∈ I, wt.heap.size < p.1 ∨ p.2 <= wt.heap.size := fun hb p hp => .inr (Nat.le_trans (hI p hp) hb.size)
  have hlt : ∀ {wt : World} {g : Nat} {o : Obj}, wt.heap[g]? = some o -> g ≠ wt.heap.size := fun h e => by have := (Array.getElem?_eq_some_iff.1 h).1; omega
  have q10 : ∀ wt, Below w.heap.size w wt -> ∀ g1, wt.heap[g1]? = some o1 -> (∀ p ∈ I, g1 < p.1 ∨ p.2 <= g1) -> wpAny P md ops Q (m + 1) (seen.setIfInBounds i1 true) (a.put (some d1) (ptrV g1)) wt := fun wt hb g1 z1 a1 => by
    refine ⟨fun h => ?_, fun j hj => ?_⟩
    · have := two_ready hst (.inr rfl) (unseen_ne hn s2) hl2
      rw [h] at this
      cases this
    · by_cases e : j = i2
      · subst e
        exact A2 _ _ _ (c11 _ (hb.alloc hb.size _) g1 _ (alloc_old _ z1) (Go.Deep.blk_alloc_new _ _) (hlt z1) a1 (hnew hb))
      · exact o10 wt hb g1 z1 a1 j hj e
  have q01 : ∀ wt, Below w.heap.size w wt -> ∀ g2, wt.heap[g2]? = some o2 -> (∀ p ∈ I, g2 < p.1 ∨ p.2 <= g2) -> wpAny P md ops Q (m + 1) (seen.setIfInBounds i2 true) (a.put (some d2) (ptrV g2)) wt := fun wt hb g2 z2 a2 => by
    refine ⟨fun h => ?_, fun j hj => ?_⟩
    · have := two_ready hst (.inl rfl) (unseen_ne (Ne.symm hn) s1) hl1
      rw [h] at this
      cases this
    · by_cases e : j = i1
      · subst e
        have h := c11 _ (hb.alloc hb.size o1) wt.heap.size g2 (Go.Deep.blk_alloc_new _ _) (alloc_old _ z2) (Ne.symm (hlt z2)) (hnew hb) a2
        rw [Array.setIfInBounds_comm _ _ hn, <- Act.put_comm a (x := some d2) (y := some d1) (ptrV g2) (ptrV wt.heap.size) (fun d hd' e' => hd (Option.some.inj (e'.trans hd'.symm)))] at h
        exact A1 _ _ _ h
      · exact o01 wt hb g2 z2 a2 j hj e
  refine ⟨q10, q01, fun wt hb => ⟨fun h => ?_, fun j hj => ?_⟩⟩
  · have := two_ready hst (.inl rfl) s1 hl1
    rw [h] at this
    cases this
  · by_cases e : j = i1
    · subst e
      exact A1 _ _ _ (q10 _ (hb.alloc hb.size _) _ (Go.Deep.blk_alloc_new _ _) (hnew hb))
    · by_cases e2 : j = i2
      · subst e2
        exact A2 _ _ _ (q01 _ (hb.alloc hb.size _) _ (Go.Deep.blk_alloc_new _ _) (hnew hb))
      · exact o00 wt hb j hj e e2
theorem fl_sound (hst : stB md ops E i1 i2 d1 d2 last = true) (hn : i1 ≠ i2) (hd : d1 ≠ d2) (hl1 : i1 < ops.size) (hl2 : i2 < ops.size) (hsel : ∀ (j : Nat) (o : Oper) cs b, ops[j]? = some o -> o.op ≠ .select cs b)
    (hQ : ∀ (d : Option Tmp) (v : Value) c a w, Q (.panic c) a w -> Q (.panic c) (a.put d v) w)
    (A1 : ∀ a w (K : Act -> World -> Prop), K (a.put (some d1) (ptrV w.heap.size)) (w.alloc o1) -> wpOp P ops Q i1 K a w)
    (hlast : last ≠ i1 /\ last ≠ i2)
    (A2 : ∀ a w (K : Act -> World -> Prop), K (a.put (some d2) (ptrV w.heap.size)) (w.alloc o2) -> wpOp P ops Q i2 K a w) :
    ∀ (n : Nat) (I : List (Nat × Nat)) (seen : Array Bool) (a : Act) (w : World), Shut9 md ops seen -> seen.getD i1 true = false -> seen.getD i2 true = false -> (∀ p ∈ I, p.2 <= w.heap.size) -> wpFl P md ops Q i1 i2 d1 d2 o1 o2 last N n I seen a w ->
      (∀ wt, Below w.heap.size w wt -> ∀ g1 g2, wt.heap[g1]? = some o1 -> wt.heap[g2]? = some o2 -> g1 ≠ g2 -> (∀ p ∈ I, g1 < p.1 ∨ p.2 <= g1) -> (∀ p ∈ I, g2 < p.1 ∨ p.2 <= g2) -> wpAny P md ops Q (N + n) ((seen.setIfInBounds i1 true).setIfInBounds i2 true) ((a.put (some d1) (ptrV g1)).put (some d2) (ptrV g2)) wt) /\
      (∀ wt, Below w.heap.size w wt -> ∀ g1, wt.heap[g1]? = some o1 -> (∀ p ∈ I, g1 < p.1 ∨ p.2 <= g1) -> wpAny P md ops Q (N + n + 1) (seen.setIfInBounds i1 true) (a.put (some d1) (ptrV g1)) wt) /\
      (∀ wt, Below w.heap.size w wt -> ∀ g2, wt.heap[g2]? = some o2 -> (∀ p ∈ I, g2 < p.1 ∨ p.2 <= g2) -> wpAny P md ops Q (N + n + 1) (seen.setIfInBounds i2 true) (a.put (some d2) (ptrV g2)) wt) /\
      (∀ wt, Below w.heap.size w wt -> wpAny P md ops Q (N + n + 2) seen a wt)
  | 0, I, seen, a, w, sh, s1, s2, hI, h => ⟨fun wt hb => (h wt hb).1, fun wt hb => (h wt hb).2.1, fun wt hb => (h wt hb).2.2.1, fun wt hb => (h wt hb).2.2.2⟩
  | n + 1, I, seen, a, w, sh, s1, s2, hI, h => by
    obtain ⟨j0, hj0, hj01, hj02⟩ := h.2.1
    have sl := h.1
    have sh1 : Shut9 md ops (seen.setIfInBounds i1 true) := sh.more (two_ready hst (.inl rfl) s1 hl1)
    have sh2 : Shut9 md ops (seen.setIfInBounds i2 true) := sh.more (two_ready hst (.inr rfl) s2 hl2)
    have sh12 : Shut9 md ops ((seen.setIfInBounds i1 true).setIfInBounds i2 true) := sh1.more (two_ready hst (.inr rfl) (unseen_ne hn s2) hl2)
    have next : ∀ {wt w'' : World}, Below w.heap.size w wt -> Below wt.heap.size wt w'' -> ∀ p ∈ (wt.heap.size, w''.heap.size) :: I, p.2 <= w''.heap.size := fun {wt w''} hb hb2 p hp => by
      rcases List.mem_cons.1 hp with rfl | hp
      · exact Nat.le_refl _
      · exact Nat.le_trans (hI p hp) (Nat.le_trans hb.size hb2.size)
    have away : ∀ {wt w'' : World} {g : Nat} {o : Obj}, wt.heap[g]? = some o -> (∀ p ∈ I, g < p.1 ∨ p.2 <= g) -> ∀ p ∈ (wt.heap.size, w''.heap.size) :: I, g < p.1 ∨ p.2 <= g := fun {wt w'' g o} hz ha p hp => by
      rcases List.mem_cons.1 hp with rfl | hp
      · exact .inl (Array.getElem?_eq_some_iff.1 hz).1
      · exact ha p hp
    have keepz : ∀ {wt w'' : World} {g : Nat} {o : Obj}, Below wt.heap.size wt w'' -> wt.heap[g]? = some o -> w''.heap[g]? = some o := fun hb hz => (hb.block _ (Array.getElem?_eq_some_iff.1 hz).1).trans hz
    have c11 : ∀ wt, Below w.heap.size w wt -> ∀ g1 g2, wt.heap[g1]? = some o1 -> wt.heap[g2]? = some o2 -> g1 ≠ g2 -> (∀ p ∈ I, g1 < p.1 ∨ p.2 <= g1) -> (∀ p ∈ I, g2 < p.1 ∨ p.2 <= g2) -> wpAny P md ops Q (N + (n + 1)) ((seen.setIfInBounds i1 true).setIfInBounds i2 true) ((a.put (some d1) (ptrV g1)).put (some d2) (ptrV g2)) wt := fun wt hb g1 g2 z1 z2 hne a1 a2 => by
      refine ⟨fun hr => ?_, fun j hj => ?_⟩
      · have := ready_mono (ready_mono hj0 hj01) hj02
        rw [hr] at this
        cases this
      · have hj2 := ready_ne (unseen_ne hn s2) hj
        have hj1 : j ≠ i1 := by
          rw [Array.setIfInBounds_comm _ _ hn] at hj
          exact ready_ne (unseen_ne (Ne.symm hn) s1) hj
        obtain ⟨_, o, ho, _⟩ := mem_ready.1 hj
        rcases stB_at hst ho with ⟨q, _⟩ | ⟨_, _, e1, e2, l1, l2, t1, t2⟩ | ⟨_, e3⟩
        · omega
        · have hjs := ready_drop ho e1 hj1 (ready_drop ho e2 hj2 hj)
          have hw := h.2.2 wt hb j hjs hj1 hj2
          have hU1 := wpOp_unput (d := some d1) (v := ptrV g1) ho (fun t ht => by cases ht; exact l1) (fun t ht => by cases ht; exact t1) (fun cs b => hsel j o cs b ho) (fun c a w => hQ _ _ c a w) hw
          have hU2 := wpOp_unput (d := some d2) (v := ptrV g2) ho (fun t ht => by cases ht; exact l2) (fun t ht => by cases ht; exact t2) (fun cs b => hsel j o cs b ho) (fun c a w => hQ _ _ c a w) hU1
          refine wpOp_mono (fun a' w'' k => ?_) hU2
          obtain ⟨b1, rfl, b2, rfl, hb2, hfl⟩ := k
          have hih := (fl_sound hst hn hd hl1 hl2 hsel hQ A1 hlast A2 n _ (seen.setIfInBounds j true) b2 w'' (sh.more hjs) (unseen_ne hj1 s1) (unseen_ne hj2 s2) (next hb hb2) hfl).1 w'' (Below.refl _ _) g1 g2 (keepz hb2 z1) (keepz hb2 z2) hne (away z1 a1) (away z2 a2)
          rw [Array.setIfInBounds_comm _ _ hj1, Array.setIfInBounds_comm _ _ hj2] at hih
          exact hih
        · exact (late_no sh12 ho e3 (unseen_ne (Ne.symm hlast.2) (unseen_ne (Ne.symm hlast.1) sl)) hj).elim
    refine ⟨c11, fl_step hst hn hd hl1 hl2 A1 A2 s1 s2 hI c11 (fun wt hb g1 z1 a1 j hj hj2 => ?_) (fun wt hb g2 z2 a2 j hj hj1 => ?_) (fun wt hb j hj hj1 hj2 => ?_)⟩
    · have hj1 := ready_ne s1 hj
      obtain ⟨_, o, ho, _⟩ := mem_ready.1 hj
      rcases stB_at hst ho with ⟨q, _⟩ | ⟨_, _, e1, e2, l1, l2, t1, t2⟩ | ⟨_, e3⟩
      · omega
      · have hjs := ready_drop ho e1 hj1 hj
        have hw := h.2.2 wt hb j hjs hj1 hj2
        have hU1 := wpOp_unput (d := some d1) (v := ptrV g1) ho (fun t ht => by cases ht; exact l1) (fun t ht => by cases ht; exact t1) (fun cs b => hsel j o cs b ho) (fun c a w => hQ _ _ c a w) hw
        refine wpOp_mono (fun a' w'' k => ?_) hU1
        obtain ⟨b2, rfl, hb2, hfl⟩ := k
        have hih := (fl_sound hst hn hd hl1 hl2 hsel hQ A1 hlast A2 n _ (seen.setIfInBounds j true) b2 w'' (sh.more hjs) (unseen_ne hj1 s1) (unseen_ne hj2 s2) (next hb hb2) hfl).2.1 w'' (Below.refl _ _) g1 (keepz hb2 z1) (away z1 a1)
        rw [Array.setIfInBounds_comm _ _ hj1] at hih
        exact hih
      · exact (late_no sh1 ho e3 (unseen_ne (Ne.symm hlast.1) sl) hj).elim
    · have hj2 := ready_ne s2 hj
      obtain ⟨_, o, ho, _⟩ := mem_ready.1 hj
      rcases stB_at hst ho with ⟨q, _⟩ | ⟨_, _, e1, e2, l1, l2, t1, t2⟩ | ⟨_, e3⟩
      · omega
      · have hjs := ready_drop ho e2 hj2 hj
        have hw := h.2.2 wt hb j hjs hj1 hj2
        have hU1 := wpOp_unput (d := some d2) (v := ptrV g2) ho (fun t ht => by cases ht; exact l2) (fun t ht => by cases ht; exact t2) (fun cs b => hsel j o cs b ho) (fun c a w => hQ _ _ c a w) hw
        refine wpOp_mono (fun a' w'' k => ?_) hU1
        obtain ⟨b2, rfl, hb2, hfl⟩ := k
        have hih := (fl_sound hst hn hd hl1 hl2 hsel hQ A1 hlast A2 n _ (seen.setIfInBounds j true) b2 w'' (sh.more hjs) (unseen_ne hj1 s1) (unseen_ne hj2 s2) (next hb hb2) hfl).2.2.1 w'' (Below.refl _ _) g2 (keepz hb2 z2) (away z2 a2)
        rw [Array.setIfInBounds_comm _ _ hj2] at hih
        exact hih
      · exact (late_no sh2 ho e3 (unseen_ne (Ne.symm hlast.2) sl) hj).elim
    · have hw := h.2.2 wt hb j hj hj1 hj2
      refine wpOp_mono (fun a' w'' k => ?_) hw
      exact (fl_sound hst hn hd hl1 hl2 hsel hQ A1 hlast A2 n _ (seen.setIfInBounds j true) a' w'' (sh.more hj) (unseen_ne hj1 s1) (unseen_ne hj2 s2) (next hb k.1) k.2).2.2.2 w'' (Below.refl _ _)
theorem wpOp_if {l : List Oper} {j : Nat} {oj : Oper} {K : Act -> World -> Prop} {a : Act} {w : World} (hi : l[j]? = some oj) (h : if Region.wanted oj (yielded l.toArray a.tmps) = true then Oper.wp P oj a w K Q else K (a.put oj.dst undef) w) : wpOp P l.toArray Q j K a w := by
  have hi' : l.toArray[j]? = some oj := by rw [List.getElem?_toArray]; exact hi
  unfold wpOp
  simp only [hi']
  split
  · rename_i hw
    rw [if_pos hw] at h
    exact .inl h
  · rename_i hw
    rw [if_neg hw] at h
    exact h
theorem fl_oneL {l : List Oper} {j : Nat} {oj : Oper} {n : Nat} {I : List (Nat × Nat)} {seen : Array Bool} {a : Act} {w : World} (hi : l[j]? = some oj) (hr : (Region.ready md l.toArray seen).filter (fun k => k != i1 && k != i2) = [j]) (hla : (!(seen.getD last true)) = true)
    (h : ∀ w', Below w.heap.size w w' -> ∀ K' : Act -> World -> Prop, (∀ a' w'', Below w'.heap.size w' w'' -> wpFl P md l.toArray Q i1 i2 d1 d2 o1 o2 last N n ((w'.heap.size, w''.heap.size) :: I) (seen.setIfInBounds j true) a' w'' -> K' a' w'') ->
      if Region.wanted oj (yielded l.toArray a.tmps) = true then Oper.wp P oj a w' K' Q else K' (a.put oj.dst undef) w') : wpFl P md l.toArray Q i1 i2 d1 d2 o1 o2 last N (n + 1) I seen a w := by
  have hmem : ∀ k, k ∈ Region.ready md l.toArray seen -> k ≠ i1 -> k ≠ i2 -> k = j := fun k hk h1 h2 => by
    have : k ∈ (Region.ready md l.toArray seen).filter (fun k => k != i1 && k != i2) := List.mem_filter.2 ⟨hk, by simp [h1, h2]⟩
    rw [hr] at this
    simpa using this
  have hj : j ∈ (Region.ready md l.toArray seen).filter (fun k => k != i1 && k != i2) := by rw [hr]; simp
  obtain ⟨hj1, hj2⟩ := List.mem_filter.1 hj
  simp only [Bool.and_eq_true, bne_iff_ne, ne_eq] at hj2
  have hi' : l.toArray[j]? = some oj := by rw [List.getElem?_toArray]; exact hi
  refine ⟨by simpa using hla, ⟨j, hj1, hj2.1, hj2.2⟩, fun w' hb k hk h1 h2 => ?_⟩
  obtain rfl := hmem k hk h1 h2
  have g := h w' hb (fun a' w'' => Below w'.heap.size w' w'' /\ wpFl P md l.toArray Q i1 i2 d1 d2 o1 o2 last N n ((w'.heap.size, w''.heap.size) :: I) (seen.setIfInBounds _ true) a' w'') (fun a' w'' hb' hf => ⟨hb', hf⟩)
  unfold wpOp
  simp only [hi']
  split
  · rename_i hw
    rw [if_pos hw] at g
    exact .inl g
  · rename_i hw
    rw [if_neg hw] at g
    exact g
theorem any_twoL {l : List Oper} {i j : Nat} {oi oj : Oper} {n : Nat} {seen : Array Bool} {a : Act} {w : World} (hi : l[i]? = some oi) (hj : l[j]? = some oj) (hr : Region.ready md l.toArray seen = [i, j])
    (h1 : ∀ K' : Act -> World -> Prop, (∀ a w, wpAny P md l.toArray Q n (seen.setIfInBounds i true) a w -> K' a w) -> if Region.wanted oi (yielded l.toArray a.tmps) = true then Oper.wp P oi a w K' Q else K' (a.put oi.dst undef) w)
    (h2 : ∀ K' : Act -> World -> Prop, (∀ a w, wpAny P md l.toArray Q n (seen.setIfInBounds j true) a w -> K' a w) -> if Region.wanted oj (yielded l.toArray a.tmps) = true then Oper.wp P oj a w K' Q else K' (a.put oj.dst undef) w) : wpAny P md l.toArray Q (n + 1) seen a w :=
  wpAny_ready hr (by simp) (AllReady.cons (by rw [List.getElem?_toArray]; exact hi) h1 (AllReady.cons (by rw [List.getElem?_toArray]; exact hj) h2 AllReady.nil))
theorem any_floatL {l : List Oper} (E : List Nat) {i1 i2 : Nat} {d1 d2 : Tmp} {o1 o2 : Obj} (last N n : Nat) {seen : Array Bool} {a : Act} {w : World} (hst : stB md l.toArray E i1 i2 d1 d2 last = true) (hn : (i1 != i2 && d1 != d2 && decide (i1 < l.length) && decide (i2 < l.length) && last != i1 && last != i2) = true) (hs : Region.noSelect l.toArray = true)
    (hu : (!(seen.getD i1 true) && !(seen.getD i2 true) && shutB md l.toArray seen) = true) (hQ : ∀ (d : Option Tmp) (v : Value) c a w, Q (.panic c) a w -> Q (.panic c) (a.put d v) w)
    (A1 : ∀ a w (K : Act -> World -> Prop), K (a.put (some d1) (ptrV w.heap.size)) (w.alloc o1) -> wpOp P l.toArray Q i1 K a w)
    (A2 : ∀ a w (K : Act -> World -> Prop), K (a.put (some d2) (ptrV w.heap.size)) (w.alloc o2) -> wpOp P l.toArray Q i2 K a w)
    (h : wpFl P md l.toArray Q i1 i2 d1 d2 o1 o2 last N n [(0, w.heap.size)] seen a w) : wpAny P md l.toArray Q (N + n + 2) seen a w := by
  simp only [Bool.and_eq_true, bne_iff_ne, ne_eq, decide_eq_true_eq, Bool.not_eq_true'] at hn hu
  exact (fl_sound hst hn.1.1.1.1.1 hn.1.1.1.1.2 (by simpa using hn.1.1.1.2) (by simpa using hn.1.1.2) (Region.noSelect_spec hs) hQ A1 ⟨hn.1.2, hn.2⟩ A2 n _ seen a w (shut_of hu.2) hu.1.1 hu.1.2 (fun p hp => by simp at hp; rw [hp]; exact Nat.le_refl _) h).2.2.2 w (Below.refl _ _)
end
end Go.Proofs.YtdngbojbpmdegaaGreatDoor
