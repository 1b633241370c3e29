/-
  Plain mathematics of pages and words (own work): when words may be a page's, and what a page or an image is refused for. Nothing here speaks of the program; no conditions.
-/
namespace Go.Proofs.Ytdbbiibnhgcndaa

/-- from lo to hi -/
def inB (n lo hi : Int) : Bool := decide (lo ≤ n) && decide (n ≤ hi)
theorem inB_true {n lo hi : Int} (a : lo ≤ n) (b : n ≤ hi) : inB n lo hi = true := by simp [inB, a, b]
theorem inB_low {n lo hi : Int} (a : ¬ lo ≤ n) : inB n lo hi = false := by simp [inB, a]
theorem inB_high {n lo hi : Int} (b : ¬ n ≤ hi) : inB n lo hi = false := by simp [inB, b]
theorem inB_iff {n lo hi : Int} : inB n lo hi = true ↔ lo ≤ n ∧ n ≤ hi := by simp [inB]

/-- may these be a page's words? -/
def mayW (l : List Int) : Bool := (l.length == 8) && l.all fun n => inB n 0 65535
theorem mayW_len {l : List Int} (h : ¬ l.length = 8) : mayW l = false := by simp [mayW, h]
theorem all_upto (l : List Int) (h : ∀ j, j < l.length → inB (l.getD j 0) 0 65535 = true) : (l.all fun n => inB n 0 65535) = true := by
  rw [List.all_eq_true]
  intro x hx
  obtain ⟨i, hi, rfl⟩ := List.getElem_of_mem hx
  have := h i hi
  simpa [List.getD_eq_getElem?_getD, hi] using this
theorem not_all (l : List Int) (k : Nat) (hk : k < l.length) (h : inB (l.getD k 0) 0 65535 = false) : (l.all fun n => inB n 0 65535) = false := by
  rw [List.all_eq_false]
  refine ⟨l[k], List.getElem_mem hk, ?_⟩
  have : inB l[k] 0 65535 = false := by simpa [List.getD_eq_getElem?_getD, hk] using h
  simp [this]
theorem mayW_bad (l : List Int) (k : Nat) (hk : k < l.length) (h : inB (l.getD k 0) 0 65535 = false) : mayW l = false := by
  simp only [mayW, not_all l k hk h, Bool.and_false]
theorem mayW_good (l : List Int) (h : ∀ j, j < l.length → inB (l.getD j 0) 0 65535 = true) : mayW l = (l.length == 8) := by
  simp only [mayW, all_upto l h, Bool.and_true]

theorem mayW_iff {ws : List Int} : mayW ws = true ↔ ws.length = 8 ∧ ∀ n ∈ ws, 0 ≤ n ∧ n ≤ 65535 := by
  simp [mayW, inB]
/-- what a page is refused for, of: its place may be, its rights may be, its words may be -/
def pf (a b c : Bool) : Int := if a && b then (if c then 0 else 4) else 2
/-- what a page is refused for (0: nothing) -/
def pageF (at_ r : Int) (ws : List Int) : Int := pf (inB at_ 0 7) (inB r 0 7) (mayW ws)

end Go.Proofs.Ytdbbiibnhgcndaa
