/-
  What becomes of a machine in memory of its own where one frame is laid anew, with words in a new block (own work). No condition beside the cells.
-/
import Derived.Test.YtdbbiibnhgcndaaOwn
namespace Go.Proofs.Ytdbbiibnhgcndaa
open Go.RowKit

theorem Owned.newFr {n0 : Nat} {w w' : World} {M : Mv} (h : Owned n0 w M) {fb fo k g : Nat} (he : M.fa = some ⟨fb, fo, none⟩) (hk : k < M.frs.length) {f' : Fr} (hs : w.heap.size ≤ w'.heap.size) (_hn : n0 ≤ w.heap.size)
    (hold : ∀ b, b < w.heap.size → b ≠ fb → w'.heap[b]? = w.heap[b]?) (hrow : RowsAt w' 4 Fr.cells M.fa (M.frs.set k f')) (hfz : ∀ o, w'.frozen? ⟨fb, o, none⟩ = false)
    (ha : f'.a = some ⟨g, 0, none⟩) (hg : w.heap.size ≤ g) (hgw : w'.heap[g]? = some (.cells (wvals f'.ws).toArray 3 (0, 0)))
    (wo : (Lit.int .i64 f'.o).wf = true) (wat : (Lit.int .i64 f'.at_).wf = true) (wr : (Lit.int .i64 f'.r).wf = true) (wl : f'.ws.length ≤ maxLen) (ww : ∀ n ∈ f'.ws, (Lit.int .i64 n).wf = true) :
    Owned n0 w' { M with frs := M.frs.set k f' } := by
  have lf := h.nf fb fo none he
  have hc : ∀ b o, b < w.heap.size → b ≠ fb → w'.cell? ⟨b, o, none⟩ = w.cell? ⟨b, o, none⟩ := fun b o hb hn => World.cell?_of_block (hold b hb hn)
  have rows : ∀ {α : Type} [Inhabited α] {c : Nat} {cells : α → List Value} {a : Option Addr} {xs : List α}, New n0 w a → Off a (some ⟨fb, fo, none⟩) → RowsAt w c cells a xs → RowsAt w' c cells a xs := fun {α} _ {c cells a xs} hA ho hx => by
    rcases hx with e | ⟨b, off, h1, h2⟩
    · exact .inl e
    · exact .inr ⟨b, off, h1, fun j hj i hi => (hc b _ (hA b off none h1).2.1 (ho.ne b off none h1)).trans (h2 j hj i hi)⟩
  have ints : ∀ {a : Option Addr} {xs : List Int}, New n0 w a → Off a (some ⟨fb, fo, none⟩) → Ints w a xs → Ints w' a xs := fun {a xs} hA ho hx => by
    rcases hx with e | ⟨b, off, h1, h2⟩
    · exact .inl e
    · exact .inr ⟨b, off, h1, fun j hj => (hc b _ (hA b off none h1).2.1 (ho.ne b off none h1)).trans (h2 j hj)⟩
  have new : ∀ {a : Option Addr}, New n0 w a → Off a (some ⟨fb, fo, none⟩) → New n0 w' a := fun {a} hA ho b o s e => ⟨(hA b o s e).1, Nat.lt_of_lt_of_le (hA b o s e).2.1 hs, fun o' =>
    (World.frozen?_of_block (w := w) (a := ⟨b, o', none⟩) (hold b (hA b o s e).2.1 (ho.ne b o s e))).trans ((hA b o s e).2.2 o')⟩
  have fe : Off M.ea (some ⟨fb, fo, none⟩) := (he ▸ h.fe : Off (some ⟨fb, fo, none⟩) M.ea).symm
  have fq : Off M.qa (some ⟨fb, fo, none⟩) := (he ▸ h.fq : Off (some ⟨fb, fo, none⟩) M.qa).symm
  have wf : ∀ j, j < M.frs.length → Off (M.frs.getD j default).a (some ⟨fb, fo, none⟩) := fun j hj => he ▸ h.wf j hj
  have hlen : (M.frs.set k f').length = M.frs.length := by simp
  have gl : g < w'.heap.size := (Array.getElem?_eq_some_iff.1 hgw).1
  have offg : ∀ {a : Option Addr}, New n0 w a → Off (some ⟨g, 0, none⟩) a := fun {a} hA b o s o' s' e e' => by
    simp only [Option.some.injEq, Addr.mk.injEq] at e
    have := (hA b o' s' e').2.1
    omega
  have gd : ∀ j, (M.frs.set k f').getD j default = if j = k then f' else M.frs.getD j default := fun j => getD_set _ _ _ _ hk
  refine ⟨⟨hrow, by dsimp only; rw [hlen]; exact h.at_.frl, by dsimp only; rw [hlen]; exact h.at_.frc, fun j hj => ?_, rows h.ne fe h.at_.en, h.at_.enl, h.at_.enok, rows h.nq fq h.at_.qu, h.at_.qul, h.at_.quok⟩,
    fun b o s e => ?_, new h.ne fe, new h.nq fq, fun j hj => ?_, h.fe, h.fq, h.eq, fun j hj => ?_, fun j hj => ?_, fun j hj => ?_, fun i j hi hj hij => ?_⟩
  · have hj' : j < M.frs.length := by simpa using hj
    show ((M.frs.set k f').getD j default).Ok w'
    rw [gd]; split
    · exact ⟨wo, wat, wr, wl, by rw [ha]; exact ints_of_block (rest := []) (by simpa using hgw), ww⟩
    · have q := h.at_.frok j hj'
      exact ⟨q.wo, q.wat, q.wr, q.len, ints (h.nw j hj') (wf j hj') q.ints, q.wws⟩
  · have := h.nf b o s e
    have e2 : b = fb := by
      have e' : M.fa = some ⟨b, o, s⟩ := e
      rw [he] at e'
      simp only [Option.some.injEq, Addr.mk.injEq] at e'
      exact e'.1.symm
    exact ⟨this.1, Nat.lt_of_lt_of_le this.2.1 hs, fun o' => by rw [e2]; exact hfz o'⟩
  · have hj' : j < M.frs.length := by simpa using hj
    show New n0 w' ((M.frs.set k f').getD j default).a
    rw [gd]; split
    · rw [ha]
      intro b o s e
      simp only [Option.some.injEq, Addr.mk.injEq] at e
      rw [← e.1]
      exact ⟨by omega, gl, frozen_of_block hgw⟩
    · exact new (h.nw j hj') (wf j hj')
  · have hj' : j < M.frs.length := by simpa using hj
    show Off ((M.frs.set k f').getD j default).a M.fa
    rw [gd]; split
    · rw [ha]; exact offg h.nf
    · exact h.wf j hj'
  · have hj' : j < M.frs.length := by simpa using hj
    show Off ((M.frs.set k f').getD j default).a M.ea
    rw [gd]; split
    · rw [ha]; exact offg h.ne
    · exact h.we j hj'
  · have hj' : j < M.frs.length := by simpa using hj
    show Off ((M.frs.set k f').getD j default).a M.qa
    rw [gd]; split
    · rw [ha]; exact offg h.nq
    · exact h.wq j hj'
  · have hj' : j < M.frs.length := by simpa using hj
    have hi' : i < M.frs.length := by simpa using hi
    show Off ((M.frs.set k f').getD i default).a ((M.frs.set k f').getD j default).a
    rw [gd, gd]
    by_cases e1 : i = k
    · by_cases e2 : j = k
      · omega
      · rw [if_pos e1, if_neg e2, ha]; exact offg (h.nw j hj')
    · by_cases e2 : j = k
      · rw [if_neg e1, if_pos e2, ha]; exact (offg (h.nw i hi')).symm
      · rw [if_neg e1, if_neg e2]; exact h.ww i j hi' hj' hij
/-- a frame that all share, its words 0 -/
def zeroFr : Fr := ⟨0, 0, 0, none, List.replicate 8 0, 0⟩

end Go.Proofs.Ytdbbiibnhgcndaa
