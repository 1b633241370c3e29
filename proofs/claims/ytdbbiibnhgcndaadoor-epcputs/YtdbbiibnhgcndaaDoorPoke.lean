/-
  What the calls Poke (epc) and PokedOf (riddleref) answer for every machine and numbers: both what the document asks, in memory of their own; they turn nothing that was in memory. The condition: the lists are within the reach of the form.
-/
import Derived.Test.YtdbbiibnhgcndaaDoorStart
namespace Go.Proofs.YtdbbiibnhgcndaaDoor
open Go.RowKit

/-- the argument's variable, and the answer's, behind a call that makes new memory alone -/
theorem boxes_at (w : World) (a b c : Value) : ∀ w1, Below ((w.alloc (.cells #[a, b, c] 51)).alloc (.cells #[.slice none 0 0, .slice none 0 0, .slice none 0 0] 51)).heap.size ((w.alloc (.cells #[a, b, c] 51)).alloc (.cells #[.slice none 0 0, .slice none 0 0, .slice none 0 0] 51)) w1 →
      w1.cell? ⟨w.heap.size, 0, none⟩ = some a ∧ w1.cell? ⟨w.heap.size, 1, none⟩ = some b ∧ w1.cell? ⟨w.heap.size, 2, none⟩ = some c ∧
      w1.cell? ⟨w.heap.size + 1, 0, none⟩ = some (.slice none 0 0) ∧ w1.cell? ⟨w.heap.size + 1, 1, none⟩ = some (.slice none 0 0) ∧ w1.cell? ⟨w.heap.size + 1, 2, none⟩ = some (.slice none 0 0) ∧ (∀ o, w1.frozen? ⟨w.heap.size + 1, o, none⟩ = false) ∧ w.heap.size + 1 < w1.heap.size := fun w1 hb => by
  refine ⟨(hb.cell (p := ⟨w.heap.size, 0, none⟩) (by simp; omega)).trans ?_, (hb.cell (p := ⟨w.heap.size, 1, none⟩) (by simp; omega)).trans ?_, (hb.cell (p := ⟨w.heap.size, 2, none⟩) (by simp; omega)).trans ?_, (hb.cell (p := ⟨w.heap.size + 1, 0, none⟩) (by simp)).trans ?_, (hb.cell (p := ⟨w.heap.size + 1, 1, none⟩) (by simp)).trans ?_, (hb.cell (p := ⟨w.heap.size + 1, 2, none⟩) (by simp)).trans ?_, fun o => (hb.frozen (p := ⟨w.heap.size + 1, o, none⟩) (by simp)).trans (World.frozen?_alloc_at _ _ _ _ (by simp)), by have := hb.size; simp at this; omega⟩
  · rw [World.cell?_alloc_past _ _ _ (by simp), World.cell?_alloc_at _ _ _ _ rfl]; rfl
  · rw [World.cell?_alloc_past _ _ _ (by simp), World.cell?_alloc_at _ _ _ _ rfl]; rfl
  · rw [World.cell?_alloc_past _ _ _ (by simp), World.cell?_alloc_at _ _ _ _ rfl]; rfl
  · rw [World.cell?_alloc_at _ _ _ _ (by simp)]; rfl
  · rw [World.cell?_alloc_at _ _ _ _ (by simp)]; rfl
  · rw [World.cell?_alloc_at _ _ _ _ (by simp)]; rfl

/-- what a poke is refused for -/
def pokeF (M : Mv) (f at_ n : Int) : Int := if wordF M f at_ = 0 then (if inB n 0 65535 = true then 0 else 2) else wordF M f at_
def pokeM (M : Mv) (f at_ n : Int) : Mv := if pokeF M f at_ n = 0 then (if (M.frs.getD f.toNat default).o = 0 then { M with frs := M.frs.set f.toNat { M.frs.getD f.toNat default with ws := (M.frs.getD f.toNat default).ws.set at_.toNat n } } else M) else noM
theorem wordF_same {M N : Mv} (h : M.Same N) (f at_ : Int) : wordF M f at_ = wordF N f at_ := by unfold wordF; rw [machF_same h]
theorem pokeF_same {M N : Mv} (h : M.Same N) (f at_ n : Int) : pokeF M f at_ n = pokeF N f at_ n := by unfold pokeF; rw [wordF_same h]
theorem word_same {M N : Mv} (h : N.Same M) {j : Nat} (hj : j < M.frs.length) (m : Nat) (n : Int) (f g : Fr) (hf : f = { N.frs.getD j default with ws := (N.frs.getD j default).ws.set m n }) (hg : g = { M.frs.getD j default with ws := (M.frs.getD j default).ws.set m n }) : Mv.Same { N with frs := N.frs.set j f } { M with frs := M.frs.set j g } := by
  have hj' : j < N.frs.length := by rw [h.len]; exact hj
  refine ⟨by simpa using h.len, fun i hi => ?_, h.en, h.qu⟩
  have hi' : i < N.frs.length := by simpa using hi
  show ((N.frs.set j f).getD i default).Same ((M.frs.set j g).getD i default)
  rw [getD_set _ _ _ _ hj', getD_set _ _ _ _ hj]
  by_cases e : i = j
  · subst e
    rw [if_pos rfl, if_pos rfl, hf, hg]
    obtain ⟨a, b, c, d⟩ := h.fr i hi'
    exact ⟨a, b, c, by show List.set _ _ _ = List.set _ _ _; rw [d]⟩
  · rw [if_neg e, if_neg e]
    exact h.fr i hi'
theorem pokeF_zero {M : Mv} {f at_ n : Int} (h : pokeF M f at_ n = 0) : wordF M f at_ = 0 ∧ inB n 0 65535 = true := by
  unfold pokeF at h
  split at h
  · rename_i h1
    split at h
    · rename_i h2; exact ⟨h1, h2⟩
    · simp at h
  · rename_i h1; exact absurd h h1
theorem pokeM_same {M N : Mv} (h : N.Same M) (f at_ n : Int) : (pokeM N f at_ n).Same (pokeM M f at_ n) := by
  unfold pokeM
  rw [pokeF_same h]
  by_cases hz : pokeF M f at_ n = 0
  · rw [if_pos hz, if_pos hz]
    obtain ⟨h1, _⟩ := pokeF_zero hz
    obtain ⟨g0, g1, _⟩ := wordF_zero h1
    have b := inB_iff.1 g1
    have hs := (machF_sizes g0).1
    have hj : f.toNat < M.frs.length := by omega
    rw [(h.fr f.toNat (by rw [h.len]; exact hj)).1]
    split
    · exact word_same h hj at_.toNat n _ _ rfl rfl
    · exact h
  · rw [if_neg hz, if_neg hz]; exact Mv.Same.refl _

/-- a word of a new machine: where it lies, and that it may be written -/
theorem poke_at {n0 : Nat} {w : World} {N M : Mv} (hO : Owned n0 w N) (hS : N.Same M) (hz : machF M = 0) {j m : Nat} (hj : j < 24) (hm : m < 8) :
    ∃ nb no wb wo wc, N.fa = some ⟨nb, no, none⟩ ∧ (N.frs.getD j default).a = some ⟨wb, wo, none⟩ ∧ w.cell? ⟨nb, no + j * 4, none⟩ = some (.int .i64 (M.frs.getD j default).o) ∧ w.cell? ⟨nb, no + j * 4 + 3, none⟩ = some (.slice (some ⟨wb, wo, none⟩) 8 wc) ∧
      w.cell? ⟨wb, wo + m, none⟩ = some (.int .i64 ((N.frs.getD j default).ws.getD m 0)) ∧ w.frozen? ⟨wb, wo + m, none⟩ = false ∧ wb < w.heap.size ∧ n0 ≤ wb ∧ (N.frs.getD j default).ws.length = 8 := by
  have hs := (machF_sizes hz).1
  have hjN : j < N.frs.length := by rw [hS.len]; omega
  obtain ⟨s1, s2, s3, s4⟩ := hS.fr j hjN
  obtain ⟨nb, no, e, c0, _, _, c3⟩ := hO.at_.frame (j := j) hjN
  have h8 : (N.frs.getD j default).ws.length = 8 := by rw [s4]; exact (machF_words hz hj).1
  rcases (hO.at_.frok j hjN).ints with h0 | ⟨b, off, ha, hc⟩
  · rw [h0] at h8; simp at h8
  · have nn := hO.nw j hjN b off none ha
    exact ⟨nb, no, b, off, (N.frs.getD j default).cap, e, ha, by rw [c0, s1], by rw [c3, h8, ha], hc m (by omega), nn.2.2 _, nn.2.1, nn.1, h8⟩

end Go.Proofs.YtdbbiibnhgcndaaDoor
