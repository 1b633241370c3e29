/-
  How a challenger is read out of memory (own work): what it trusts, its nonces, their cells; and one in memory of its own. No condition.
-/
import Derived.Test.YtdbbiibnhgcndaaAppRows
namespace Go.Proofs.Ytdbbiibnhgcndaa
open Go.ChangeShapes Go.WideShapes Go.ChangeAt Go.RowKit Go.Joins

def tcell (s : ByteArray) : List Value := [.string s]
def ncell (n : Int) : List Value := [.int .i64 n]
/-- A slice of texts: where it has elements it leads to their cells. -/
def Texts (w : World) (a : Option Addr) (xs : List ByteArray) : Prop :=
  xs = [] ∨ ∃ b off, a = some ⟨b, off, none⟩ ∧ ∀ j, j < xs.length → w.cell? ⟨b, off + j, none⟩ = some (.string (xs.getD j default))
theorem texts_rows {w : World} {a : Option Addr} {xs : List ByteArray} (h : Texts w a xs) : RowsAt w 1 tcell a xs := by
  rcases h with rfl | ⟨b, off, h1, h2⟩
  · exact .inl rfl
  · refine .inr ⟨b, off, h1, fun j hj i hi => ?_⟩
    obtain rfl : i = 0 := by omega
    show w.cell? ⟨b, off + j * 1 + 0, none⟩ = some (.string (xs.getD j default))
    rw [Nat.mul_one, Nat.add_zero]
    exact h2 j hj
theorem rows_texts {w : World} {a : Option Addr} {xs : List ByteArray} (h : RowsAt w 1 tcell a xs) : Texts w a xs := by
  rcases h with rfl | ⟨b, off, h1, h2⟩
  · exact .inl rfl
  · refine .inr ⟨b, off, h1, fun j hj => ?_⟩
    have := h2 j hj 0 (by omega)
    simpa [tcell] using this
theorem Texts.below {w w' : World} {a : Option Addr} {xs : List ByteArray} (h : Texts w a xs) (hb : Below w.heap.size w w') : Texts w' a xs := by
  rcases h with h | ⟨b, off, h1, h2⟩
  · exact .inl h
  · exact .inr ⟨b, off, h1, fun j hj => (hb.cell (p := ⟨b, off + j, none⟩) (lt_of_cell (h2 j hj))).trans (h2 j hj)⟩

/-- A challenger: its two lists, and where they are. -/
structure Cv where
  ta : Option Addr
  tr : List ByteArray
  tcap : Nat
  na : Option Addr
  ns : List Int
  ncap : Nat
def Cv.val (C : Cv) : Value := .agg #[.slice C.ta C.tr.length C.tcap, .slice C.na C.ns.length C.ncap]
structure Cv.Ok (C : Cv) : Prop where
  trl : C.tr.length ≤ maxLen
  trok : ∀ s ∈ C.tr, s.size ≤ maxLen
  nsl : C.ns.length ≤ maxLen
  nsw : ∀ n ∈ C.ns, (Lit.int .i64 n).wf = true
structure ChalAt (w : World) (C : Cv) : Prop where
  tr : Texts w C.ta C.tr
  ns : Ints w C.na C.ns
  ok : C.Ok
structure Cv.Fits (C : Cv) : Prop where
  tr : C.tr.length * 16 ≤ 140737488351232
  ns : C.ns.length * 8 ≤ 140737488351232
/-- the same trusts, the same nonces -/
structure Cv.Same (C D : Cv) : Prop where
  tr : C.tr = D.tr
  ns : C.ns = D.ns
theorem Cv.Same.refl (C : Cv) : C.Same C := ⟨rfl, rfl⟩
theorem Cv.Same.symm {C D : Cv} (h : C.Same D) : D.Same C := ⟨h.tr.symm, h.ns.symm⟩
theorem Cv.Same.trans {C D E : Cv} (h : C.Same D) (k : D.Same E) : C.Same E := ⟨h.tr.trans k.tr, h.ns.trans k.ns⟩
theorem Cv.Fits.same {C D : Cv} (h : C.Fits) (hs : D.Same C) : D.Fits := ⟨by rw [hs.tr]; exact h.tr, by rw [hs.ns]; exact h.ns⟩
theorem Cv.Ok.same {C D : Cv} (h : C.Ok) (hs : D.Same C) : D.Ok := ⟨by rw [hs.tr]; exact h.trl, by rw [hs.tr]; exact h.trok, by rw [hs.ns]; exact h.nsl, by rw [hs.ns]; exact h.nsw⟩
theorem ChalAt.below {w w' : World} {C : Cv} (h : ChalAt w C) (hb : Below w.heap.size w w') : ChalAt w' C := ⟨h.tr.below hb, h.ns.below hb, h.ok⟩

set_option maxRecDepth 100000 in
theorem open_challenger {H : Type} {enc : TypeId × Value → H} {W : World} {r : Reach} {b0 base : Nat} {sp : Nat → Bool} {full : Bool} {v : Value} {d : DataW H} {p : List MemPlace}
    (hv : Value.okWide Try.prog W r b0 61 v) (h : DataW.Trod enc Try.prog W base sp full 61 v d p) :
    ∃ C : Cv, v = C.val ∧ ChalAt W C ∧ ((∀ n ∈ d.weights Try.prog 61, n ≤ reachBytes) → C.Fits) := by
  obtain ⟨c0, c1, y0, y1, m, rfl, rfl, rfl, hy0, hy1⟩ := open_agg2 Try.underlying61 (by kernel_rfl) (by kernel_rfl) hv h
  obtain ⟨ta, tcap, tr, rfl, f1, f2, f3, f4⟩ := open_rows 1 16 tcell (fun s => s.size ≤ maxLen) (fun _ => True) (by omega) Try.underlying59 (by kernel_rfl) (by kernel_rfl) (fun _ => rfl) (fun _ cs' _ _ h => by
    have hl : ∃ v0, cs' = [v0] := by
      obtain ⟨s, e0, _, _⟩ := DataW.trod_string Try.underlying9 h
      exact ⟨_, e0⟩
    obtain ⟨v0, rfl⟩ := hl
    obtain ⟨s, rfl, hs⟩ := open_text_cell h
    exact ⟨s, rfl, hs, fun _ => trivial⟩) hy0
  obtain ⟨na, ncap, ns, rfl, g1, g2, g3, g4⟩ := open_row_cells hy1
  refine ⟨⟨ta, tr, tcap, na, ns, ncap⟩, rfl, ⟨rows_texts f2, g2, ⟨f1.1, fun s hs => ?_, g1, g3⟩⟩, fun hb => ?_⟩
  · obtain ⟨i, hi, rfl⟩ := List.getElem_of_mem hs
    have := f3 i hi
    simpa [List.getD_eq_getElem?_getD, hi] using this
  · have k0 := f4 fun n hn => hb n (by simp only [DataW.weights, Try.underlying61]; exact DataW.weights_mem_each (j := 0) rfl rfl n hn)
    have k1 := g4 fun n hn => hb n (by simp only [DataW.weights, Try.underlying61]; exact DataW.weights_mem_each (j := 1) rfl rfl n hn)
    exact ⟨k0.1, k1⟩

set_option maxRecDepth 100000 in
theorem open_quotes {H : Type} {enc : TypeId × Value → H} {W : World} {base : Nat} {sp : Nat → Bool} {full : Bool} {a0 : Option Addr} {len0 cap0 : Nat} {d : DataW H} {p : List MemPlace}
    (h : DataW.Trod enc Try.prog W base sp full 41 (.slice a0 len0 cap0) d p) : ∃ qs : List Qu, qs.length = len0 ∧ qs.length ≤ maxLen ∧ RowsAt W 2 Qu.cells a0 qs ∧ (∀ j, j < qs.length → (qs.getD j default).Ok) ∧
      ((∀ n ∈ d.weights Try.prog 41, n ≤ reachBytes) → qs.length * 24 ≤ 140737488351232) := by
  obtain ⟨fuel, hf⟩ := h
  obtain ⟨a, cap, qs, hv, q1, q2, q3, q4⟩ := open_rows 2 24 Qu.cells Qu.Ok (fun _ => True) (by omega) Try.underlying41 (by kernel_rfl) (by kernel_rfl) (fun _ => rfl) (fun _ _ _ _ h => by obtain ⟨q, h1, h2⟩ := open_quote h; exact ⟨q, h1, h2, fun _ => trivial⟩) (v := .slice a0 len0 cap0) (by simpa [Value.cells] using hf)
  simp only [Value.slice.injEq] at hv
  obtain ⟨rfl, rfl, rfl⟩ := hv
  exact ⟨qs, rfl, q1.1, q2, q3, fun hb => (q4 hb).1⟩
set_option maxRecDepth 100000 in
theorem open_quote_arg {H : Type} {enc : TypeId × Value → H} {W : World} {r : Reach} {b0 base : Nat} {sp : Nat → Bool} {full : Bool} {v : Value} {d : DataW H} {p : List MemPlace}
    (hv : Value.okWide Try.prog W r b0 69 v) (h : DataW.Trod enc Try.prog W base sp full 69 v d p) : ∃ q : Qu, v = .agg #[.string q.log, .int .i64 q.data] ∧ q.Ok := by
  obtain ⟨c0, c1, y0, y1, m, rfl, rfl, rfl, hy0, hy1⟩ := open_agg2 Try.underlying69 (by kernel_rfl) (by kernel_rfl) hv h
  obtain ⟨s0, rfl, w0⟩ := open_text_cell hy0
  obtain ⟨n1, rfl, w1⟩ := open_int_cell hy1
  exact ⟨⟨s0, n1⟩, rfl, ⟨w0, w1⟩⟩

/-- A challenger in memory of its own. -/
structure COwn (n0 : Nat) (w : World) (C : Cv) : Prop where
  tr : w.ownsRow n0 9 1 (.slice C.ta C.tr.length C.tcap) C.tr.length (C.tr.flatMap tcell)
  ns : w.ownsRow n0 3 1 (.slice C.na C.ns.length C.ncap) C.ns.length (wvals C.ns)
  off : Off C.ta C.na
  ok : C.Ok
theorem tcell_len (q : ByteArray) : (tcell q).length = 1 := rfl
theorem tcell_one : ∀ q : ByteArray, ∀ v ∈ tcell q, v.oneCell' = true := fun q v hv => by
  simp [tcell] at hv; subst hv; rfl
theorem texts_len (xs : List ByteArray) : (xs.flatMap tcell).length = xs.length := by
  have := flat_len (cells := tcell) (c := 1) tcell_len xs
  simpa using this
theorem texts_of_row {n0 : Nat} {w : World} {e : TypeId} {a : Option Addr} {cap : Nat} {xs : List ByteArray} (h : w.ownsRow n0 e 1 (.slice a xs.length cap) xs.length (xs.flatMap tcell)) : Texts w a xs := by
  rcases h.2 with ⟨_, h0⟩ | ⟨g, cap', cur, hv, _, hg, _, _, _, ht⟩
  · exact .inl (List.length_eq_zero_iff.1 h0)
  · simp only [Value.slice.injEq] at hv
    rw [hv.1]
    refine rows_texts ?_
    have e1 : cur = (xs.flatMap tcell ++ cur.toList.drop (xs.length * 1)).toArray := by
      have : xs.flatMap tcell = cur.toList.take (xs.length * 1) := by rw [← ht]
      rw [this]
      simp
    rw [e1] at hg
    exact rows_of_block (cells := tcell) (c := 1) tcell_len hg
theorem ints_of_row {n0 : Nat} {w : World} {e : TypeId} {a : Option Addr} {cap : Nat} {xs : List Int} (h : w.ownsRow n0 e 1 (.slice a xs.length cap) xs.length (wvals xs)) : Ints w a xs := by
  rcases h.2 with ⟨_, h0⟩ | ⟨g, cap', cur, hv, _, hg, _, _, _, ht⟩
  · exact .inl (List.length_eq_zero_iff.1 h0)
  · simp only [Value.slice.injEq] at hv
    rw [hv.1]
    have e1 : cur = (wvals xs ++ cur.toList.drop (xs.length * 1)).toArray := by
      have : wvals xs = cur.toList.take (xs.length * 1) := by rw [← ht]
      rw [this]
      simp
    rw [e1] at hg
    exact ints_of_block hg
theorem COwn.at_ {n0 : Nat} {w : World} {C : Cv} (h : COwn n0 w C) : ChalAt w C := ⟨texts_of_row h.tr, ints_of_row h.ns, h.ok⟩
/-- what is owned stays where its blocks stay -/
theorem ownsRow_keep {n0 : Nat} {w w' : World} {e : TypeId} {c n cap : Nat} {a : Option Addr} {xs : List Value} (h : w.ownsRow n0 e c (.slice a n cap) n xs) (hw : ∀ b o s, a = some ⟨b, o, s⟩ → w'.heap[b]? = w.heap[b]?) : w'.ownsRow n0 e c (.slice a n cap) n xs := by
  refine ⟨h.1, ?_⟩
  rcases h.2 with h2 | ⟨g, cap', cur, hv, hb, hg, h3⟩
  · exact .inl h2
  · refine .inr ⟨g, cap', cur, hv, hb, ?_, h3⟩
    simp only [Value.slice.injEq] at hv
    rw [hw g 0 none hv.1]
    exact hg
theorem ownsRow_mono {n0 n1 : Nat} {w : World} {e : TypeId} {c n : Nat} {v : Value} {xs : List Value} (h : w.ownsRow n0 e c v n xs) (hn : n1 ≤ n0) : w.ownsRow n1 e c v n xs := by
  refine ⟨h.1, ?_⟩
  rcases h.2 with h2 | ⟨g, cap, cur, hv, hb, h3⟩
  · exact .inl h2
  · exact .inr ⟨g, cap, cur, hv, Nat.le_trans hn hb, h3⟩
theorem ownsRow_block {n0 : Nat} {w : World} {e : TypeId} {c n cap : Nat} {a : Option Addr} {xs : List Value} (h : w.ownsRow n0 e c (.slice a n cap) n xs) : ∀ b o s, a = some ⟨b, o, s⟩ → n0 ≤ b ∧ b < w.heap.size ∧ (∀ i, w.frozen? ⟨b, i, none⟩ = false) := by
  intro b o s ha
  rcases h.2 with ⟨hv, _⟩ | ⟨g, cap', cur, hv, hb, hg, h3⟩
  · simp only [Value.slice.injEq] at hv
    rw [hv.1] at ha; cases ha
  · simp only [Value.slice.injEq] at hv
    rw [hv.1] at ha
    simp only [Option.some.injEq, Addr.mk.injEq] at ha
    obtain ⟨rfl, _⟩ := ha
    exact ⟨hb, (Array.getElem?_eq_some_iff.1 hg).1, frozen_of_block hg⟩
theorem COwn.below {n0 : Nat} {w w' : World} {C : Cv} (h : COwn n0 w C) (hb : Below w.heap.size w w') : COwn n0 w' C :=
  ⟨ownsRow_keep h.tr fun b o s e => hb.block _ (ownsRow_block h.tr b o s e).2.1, ownsRow_keep h.ns fun b o s e => hb.block _ (ownsRow_block h.ns b o s e).2.1, h.off, h.ok⟩
theorem COwn.mono {n0 n1 : Nat} {w : World} {C : Cv} (h : COwn n0 w C) (hn : n1 ≤ n0) : COwn n1 w C := ⟨ownsRow_mono h.tr hn, ownsRow_mono h.ns hn, h.off, h.ok⟩
/-- no challenger -/
def noC : Cv := ⟨none, [], 0, none, [], 0⟩
theorem noC_own (n0 : Nat) (w : World) : COwn n0 w noC := ⟨World.ownsRow_nil _ _ _ _, World.ownsRow_nil _ _ _ _, fun _ _ _ _ _ e _ => (by cases e), ⟨Nat.zero_le _, fun s hs => (by cases hs), Nat.zero_le _, fun s hs => (by cases hs)⟩⟩

end Go.Proofs.Ytdbbiibnhgcndaa
