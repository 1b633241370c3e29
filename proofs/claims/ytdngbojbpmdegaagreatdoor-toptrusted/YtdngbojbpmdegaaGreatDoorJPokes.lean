/-
  Two images that may be are measured the same only if their pages hold the same (own work, plain mathematics of the measured text). The condition: nothing is wrong with either. What becomes of a new machine (own work): the steps of PagesApart and of StartsClose, reckoned. No condition but the numbers' bounds. What was measured of an enclave tells just what is in it (own work): whatever who owns the machine did, the log of an enclave that never ran is the row of its pages and of words that its pages hold still. No condition. What the call Copy (image) answers for every list of pages: a list in new memory whose pages hold the same; nothing that was in memory turns. The condition: the list and each page's words are within the reach of the form (fewer than 2^47 bytes). What the call Copy (image) answers, said more closely: the new list and each page's words lie in blocks of their own, apart from one another; and what a store into one of them makes of the list. The condition: as Copy's. What samePages (riddlekeep) answers, for every two lists of pages: whether their pages hold the same; nothing that was in memory turns. Of images that are touched (own work): a word, a right or the last page is another one, and the image may still be; but it holds something else. No condition. Lists of acts in memory (own work): a list that the call itself makes, act behind act; the acts that build an image. No condition. An image that is built as it is planned (own work): each act of the plan is done without an error, and the enclave is Ready, measured as it is expected, its pages in the frames that were asked for. The conditions: nothing is wrong with the image, the frames are nobody's and the enclave is the first that is Empty. What the call picked (riddlekeep) answers: a number below many, of each number. The condition: many is from 1 to 1000000. A list of acts that a call has made, as a row that may be read, and what host.Run says of a script without trusts (own work). No condition. What the call pokes (image) answers, for an image that may be: a new list that holds a poke for each word; nothing that was in memory turns.
-/
import Derived.Test.YtdngbojbpmdegaaGreatDoorJExpects
import Derived.Test.YtdngbojbpmdegaaGreatDoorJHostMath
import Derived.Deep.OwnRows
import Derived.Laws.CopyOwn
import Derived.Test.YtdngbojbpmdegaaGreatDoorJAc
import Derived.Deep.Heap
import Derived.Test.YtdngbojbpmdegaaGreatDoorJOpenCells
import Derived.Test.YtdngbojbpmdegaaGreatDoorHostRun
namespace Go.Proofs.YtdngbojbpmdegaaGreatDoor
open Go.RowKit

/-- the number that digits tell -/
def val (l : List UInt8) : Nat := l.foldl (fun a c => 10 * a + (c.toNat - 48)) 0
theorem itoa_dig {x : Int} (h : 0 ≤ x) : Lib.itoa x = Lib.decDigits x.toNat := by
  obtain ⟨n, rfl⟩ : ∃ n : Nat, x = (n : Int) := ⟨x.toNat, by omega⟩
  rw [Lib.itoa_nonneg]; rfl
end Go.Proofs.YtdngbojbpmdegaaGreatDoor

namespace Go.Proofs.YtdngbojbpmdegaaGreatDoor
open Go.RowKit

end Go.Proofs.YtdngbojbpmdegaaGreatDoor

namespace Go.Proofs.YtdngbojbpmdegaaGreatDoor
open Go.RowKit

/-- an entry of a log -/
inductive Lg where
  | pg (a r : Int)
  | wd (a : Int) (ws : List Int)
def Lg.bytes : Lg → List UInt8
  | .pg a r => entryL sPage [a, r]
  | .wd a ws => entryL sWords (a :: ws)
def Lg.Pos : Lg → Prop
  | .pg a r => 0 ≤ a ∧ 0 ≤ r
  | .wd a ws => 0 ≤ a ∧ ∀ n ∈ ws, 0 ≤ n
def Lg.isPg : Lg → Bool
  | .pg _ _ => true
  | .wd _ _ => false
/-- whose a frame is -/
def ownB (e : Int) (f : Fr) : Bool := f.o == e
theorem countP_upto {p q : Fr → Bool} {xs ys : List Fr} (hl : xs.length = ys.length) (h : ∀ j, j < xs.length → p (xs.getD j default) = q (ys.getD j default)) : xs.countP p = ys.countP q := by
  have e : xs.map p = ys.map q := by
    apply List.ext_getElem (by simpa using hl)
    intro j h1 h2
    have h3 : j < xs.length := by simpa using h1
    have h4 : j < ys.length := by simpa using h2
    have := h j h3
    simpa [List.getD_eq_getElem?_getD, h3, h4] using this
  have e1 : ∀ (zs : List Fr) (r : Fr → Bool), zs.countP r = (zs.map r).countP id := fun zs r => by rw [List.countP_map]; rfl
  rw [e1 xs p, e1 ys q, e]

/-- what the log of an enclave tells, and that it is so -/
structure Logs (M : Mv) (m : Nat) (L : List Lg) : Prop where
  log : (M.ens.getD m default).log = txt (sOpen ++ L.flatMap Lg.bytes)
  pos : ∀ x ∈ L, x.Pos
  pg : ∀ a r, Lg.pg a r ∈ L → ∃ j, j < 24 ∧ (M.frs.getD j default).o = (m : Int) + 1 ∧ (M.frs.getD j default).at_ = a ∧ (M.frs.getD j default).r = r
  wd : ∀ a ws, Lg.wd a ws ∈ L → ∃ j, j < 24 ∧ (M.frs.getD j default).o = (m : Int) + 1 ∧ (M.frs.getD j default).at_ = a ∧ (M.frs.getD j default).ws = ws
  cnt : M.frs.countP (ownB ((m : Int) + 1)) = L.countP Lg.isPg
/-- no frame of it is another one -/
def Kept (M M' : Mv) (m : Nat) : Prop := ∀ j, j < 24 → (M.frs.getD j default).o = (m : Int) + 1 ∨ (M'.frs.getD j default).o = (m : Int) + 1 → M'.frs.getD j default = M.frs.getD j default
theorem kept_count {M M' : Mv} {m : Nat} (h1 : M.frs.length = 24) (h2 : M'.frs.length = 24) (hk : Kept M M' m) : M'.frs.countP (ownB ((m : Int) + 1)) = M.frs.countP (ownB ((m : Int) + 1)) := by
  refine countP_upto (by rw [h1, h2]) fun j hj => ?_
  have hk' := hk j (by omega)
  unfold ownB
  by_cases c : (M.frs.getD j default).o = (m : Int) + 1
  · rw [hk' (.inl c)]
  · by_cases c' : (M'.frs.getD j default).o = (m : Int) + 1
    · rw [hk' (.inr c')]
    · rw [beq_eq_false_iff_ne.2 c, beq_eq_false_iff_ne.2 c']
theorem Logs.keep {M M' : Mv} {m : Nat} {L : List Lg} (h : Logs M m L) (h1 : M.frs.length = 24) (h2 : M'.frs.length = 24) (hl : (M'.ens.getD m default).log = (M.ens.getD m default).log) (hk : Kept M M' m) : Logs M' m L := by
  refine ⟨hl.trans h.log, h.pos, fun a r hx => ?_, fun a ws hx => ?_, (kept_count h1 h2 hk).trans h.cnt⟩
  · obtain ⟨j, hj, e1, e2, e3⟩ := h.pg a r hx
    have e := hk j hj (.inl e1)
    exact ⟨j, hj, by rw [e]; exact e1, by rw [e]; exact e2, by rw [e]; exact e3⟩
  · obtain ⟨j, hj, e1, e2, e3⟩ := h.wd a ws hx
    have e := hk j hj (.inl e1)
    exact ⟨j, hj, by rw [e]; exact e1, by rw [e]; exact e2, by rw [e]; exact e3⟩

end Go.Proofs.YtdngbojbpmdegaaGreatDoor

namespace Go.Proofs.YtdngbojbpmdegaaGreatDoor
open Go.RowKit

/-- two pages hold the same -/
def Pg.Same (q p : Pg) : Prop := q.at_ = p.at_ ∧ q.r = p.r ∧ q.ws = p.ws
theorem Ints.blocks {w w' : World} {a : Option Addr} {xs : List Int} {B : Nat} (h : Ints w a xs) (ha : ∀ b off s, a = some ⟨b, off, s⟩ → b ≠ B) (hb : ∀ b, b < w.heap.size → b ≠ B → w'.heap[b]? = w.heap[b]?) : Ints w' a xs := by
  rcases h with h | ⟨b, off, h1, h2⟩
  · exact .inl h
  · exact .inr ⟨b, off, h1, fun j hj => (World.cell?_of_block (w := w) (hb b (lt_of_cell (h2 j hj)) (ha b off none h1))).trans (h2 j hj)⟩
theorem Pg.Ok.blocks {w w' : World} {p : Pg} {B : Nat} (h : p.Ok w) (ha : ∀ b off s, p.a = some ⟨b, off, s⟩ → b ≠ B) (hb : ∀ b, b < w.heap.size → b ≠ B → w'.heap[b]? = w.heap[b]?) : p.Ok w' :=
  ⟨h.wat, h.wr, h.len, h.ints.blocks ha hb, h.wws⟩

/-- the words of a page as cells -/
def wcells (ws : List Int) : List Value := ws.map (Value.int .i64)
theorem wcells_get (ws : List Int) (j : Nat) (h : j < ws.length) : (wcells ws)[j]? = some (.int .i64 (ws.getD j 0)) := by
  simp [wcells, h, List.getD_eq_getElem?_getD]

/-- the world behind the stores of a round, ahead of the copying of the words -/
def W7 (wr : World) (B k : Nat) (pat pr : Int) (pa : Option Addr) (pws : List Int) (pcap : Nat) : World :=
  (((((wr.setCell ⟨B, k * 3, none⟩ (.int .i64 pat)).setCell ⟨B, k * 3 + 1, none⟩ (.int .i64 pr)).setCell ⟨B, k * 3 + 2, none⟩ (.slice pa pws.length pcap)).setCell ⟨B, k * 3 + 2, none⟩ (.slice (some ⟨wr.heap.size + 1, 0, none⟩) pws.length pws.length)).alloc
    (.cells #[.int .i64 pat, .int .i64 pr, .slice pa pws.length pcap] 116)).alloc (.cells (madeCells #[.int .i64 0] pws.length) 3)

end Go.Proofs.YtdngbojbpmdegaaGreatDoor

namespace Go.Proofs.YtdngbojbpmdegaaGreatDoor
open Go.RowKit

/-- a list of pages in a block of its own, each page's words in a block of their own -/
structure OwnedP (w : World) (B : Nat) (qs : List Pg) : Prop where
  row : ∃ F, w.rowIs B 116 (qs.length * 3) F ∧ ∀ j, j < qs.length → F (j * 3) = .int .i64 (qs.getD j default).at_ ∧ F (j * 3 + 1) = .int .i64 (qs.getD j default).r ∧ F (j * 3 + 2) = .slice (qs.getD j default).a (qs.getD j default).ws.length (qs.getD j default).cap
  own : ∀ j, j < qs.length → ∃ g, (qs.getD j default).a = some ⟨g, 0, none⟩ ∧ B < g ∧ w.heap[g]? = some (.cells (wcells (qs.getD j default).ws).toArray 3 (0, 0))
  apart : ∀ i j, i < qs.length → j < qs.length → i ≠ j → (qs.getD i default).a ≠ (qs.getD j default).a
  fit : ∀ j, j < qs.length → (Lit.int .i64 (qs.getD j default).at_).wf = true ∧ (Lit.int .i64 (qs.getD j default).r).wf = true ∧ (qs.getD j default).ws.length ≤ maxLen ∧ ∀ n ∈ (qs.getD j default).ws, (Lit.int .i64 n).wf = true

theorem wcells_cell {w : World} {g : Nat} {ws : List Int} (h : w.heap[g]? = some (.cells (wcells ws).toArray 3 (0, 0))) (j : Nat) (hj : j < ws.length) : w.cell? ⟨g, 0 + j, none⟩ = some (.int .i64 (ws.getD j 0)) := by
  have := wcells_get ws j hj
  simp [World.cell?, h, this]
theorem OwnedP.pages {w : World} {B : Nat} {qs : List Pg} (h : OwnedP w B qs) : PagesAt w (some ⟨B, 0, none⟩) qs := by
  obtain ⟨F, hF, hc⟩ := h.row
  refine ⟨.inr ⟨B, 0, rfl, fun j hj => ?_⟩, fun j hj => ?_⟩
  · obtain ⟨s1, s2, s3⟩ := hc j hj
    have r0 := hF.cell (i := j * 3) (by omega)
    have r1 := hF.cell (i := j * 3 + 1) (by omega)
    have r2 := hF.cell (i := j * 3 + 2) (by omega)
    rw [s1] at r0
    rw [s2] at r1
    rw [s3] at r2
    simp only [Nat.zero_add]
    exact ⟨r0, r1, r2⟩
  · obtain ⟨f1, f2, f3, f4⟩ := h.fit j hj
    obtain ⟨g, hg, _, hh⟩ := h.own j hj
    exact ⟨f1, f2, f3, .inr ⟨g, 0, hg, fun i hi => wcells_cell hh i hi⟩, f4⟩

theorem getD_set_eq (qs : List Pg) (j : Nat) (p : Pg) (hj : j < qs.length) : (qs.set j p).getD j default = p := by simp [List.getD_eq_getElem?_getD, hj]
theorem getD_set_ne (qs : List Pg) (i j : Nat) (p : Pg) (h : i ≠ j) : (qs.set j p).getD i default = qs.getD i default := by
  simp [List.getD_eq_getElem?_getD, List.getElem?_set_ne (Ne.symm h)]

/-- a right is another one -/
theorem OwnedP.right {w : World} {B : Nat} {qs : List Pg} (h : OwnedP w B qs) (j : Nat) (hj : j < qs.length) (r : Int) (hr : (Lit.int .i64 r).wf = true) :
    PagesAt (w.setCell ⟨B, j * 3 + 1, none⟩ (.int .i64 r)) (some ⟨B, 0, none⟩) (qs.set j ⟨(qs.getD j default).at_, r, (qs.getD j default).a, (qs.getD j default).ws, (qs.getD j default).cap⟩) := by
  obtain ⟨F, hF, hc⟩ := h.row
  refine OwnedP.pages (B := B) ⟨⟨_, by simpa using hF.set (j * 3 + 1) (.int .i64 r), fun i hi => ?_⟩, fun i hi => ?_, fun i k hi hk hik => ?_, fun i hi => ?_⟩
  · have hi' : i < qs.length := by simpa using hi
    obtain ⟨s1, s2, s3⟩ := hc i hi'
    by_cases e : i = j
    · subst e
      rw [getD_set_eq _ _ _ hj]
      simp [s1, s3]
    · rw [getD_set_ne _ _ _ _ e, if_neg (by omega), if_neg (by omega), if_neg (by omega)]
      exact ⟨s1, s2, s3⟩
  · have hi' : i < qs.length := by simpa using hi
    obtain ⟨g, g1, g2, g3⟩ := h.own i hi'
    have keep : (w.setCell ⟨B, j * 3 + 1, none⟩ (.int .i64 r)).heap[g]? = w.heap[g]? := Go.Deep.blk_setCell_other _ _ _ _ (by simp; omega)
    by_cases e : i = j
    · subst e
      rw [getD_set_eq _ _ _ hj]
      exact ⟨g, g1, g2, keep.trans g3⟩
    · rw [getD_set_ne _ _ _ _ e]
      exact ⟨g, g1, g2, keep.trans g3⟩
  · have hi' : i < qs.length := by simpa using hi
    have hk' : k < qs.length := by simpa using hk
    have key : ∀ x, x < qs.length → ((qs.set j ⟨(qs.getD j default).at_, r, (qs.getD j default).a, (qs.getD j default).ws, (qs.getD j default).cap⟩).getD x default).a = (qs.getD x default).a := fun x hx => by
      by_cases e : x = j
      · subst e; rw [getD_set_eq _ _ _ hj]
      · rw [getD_set_ne _ _ _ _ e]
    rw [key i hi', key k hk']
    exact h.apart i k hi' hk' hik
  · have hi' : i < qs.length := by simpa using hi
    obtain ⟨f1, f2, f3, f4⟩ := h.fit i hi'
    by_cases e : i = j
    · subst e
      rw [getD_set_eq _ _ _ hj]
      exact ⟨f1, hr, f3, f4⟩
    · rw [getD_set_ne _ _ _ _ e]
      exact ⟨f1, f2, f3, f4⟩

theorem wcells_set (ws : List Int) (k : Nat) (x : Int) : ((wcells ws).toArray.setIfInBounds k (.int .i64 x)) = (wcells (ws.set k x)).toArray := by
  apply Array.ext'
  simp [wcells, List.map_set]

/-- a word is another one -/
theorem OwnedP.word {w : World} {B : Nat} {qs : List Pg} (h : OwnedP w B qs) (j : Nat) (hj : j < qs.length) (g : Nat) (hg : (qs.getD j default).a = some ⟨g, 0, none⟩) (k : Nat) (x : Int) (hx : (Lit.int .i64 x).wf = true) :
    PagesAt (w.setCell ⟨g, k, none⟩ (.int .i64 x)) (some ⟨B, 0, none⟩) (qs.set j ⟨(qs.getD j default).at_, (qs.getD j default).r, (qs.getD j default).a, (qs.getD j default).ws.set k x, (qs.getD j default).cap⟩) := by
  obtain ⟨F, hF, hc⟩ := h.row
  obtain ⟨g', e1, e2, e3⟩ := h.own j hj
  have hgg : g' = g := by rw [hg] at e1; simpa using e1.symm
  subst hgg
  refine OwnedP.pages (B := B) ⟨⟨F, by simpa using hF.setOther (a := ⟨g', k, none⟩) (by simp; omega) (.int .i64 x), fun i hi => ?_⟩, fun i hi => ?_, fun i m hi hm him => ?_, fun i hi => ?_⟩
  · have hi' : i < qs.length := by simpa using hi
    obtain ⟨s1, s2, s3⟩ := hc i hi'
    by_cases e : i = j
    · subst e
      rw [getD_set_eq _ _ _ hj]
      exact ⟨s1, s2, by rw [s3]; simp⟩
    · rw [getD_set_ne _ _ _ _ e]
      exact ⟨s1, s2, s3⟩
  · have hi' : i < qs.length := by simpa using hi
    by_cases e : i = j
    · subst e
      rw [getD_set_eq _ _ _ hj]
      refine ⟨g', hg, e2, ?_⟩
      dsimp only
      rw [← wcells_set]
      simp [World.setCell, Array.getElem?_modify, e3]
    · rw [getD_set_ne _ _ _ _ e]
      obtain ⟨u, u1, u2, u3⟩ := h.own i hi'
      refine ⟨u, u1, u2, (Go.Deep.blk_setCell_other _ _ _ _ ?_).trans u3⟩
      have := h.apart i j hi' hj e
      rw [u1, hg] at this
      intro q
      exact this (by simp at q; rw [q])
  · have hi' : i < qs.length := by simpa using hi
    have hm' : m < qs.length := by simpa using hm
    have key : ∀ y, y < qs.length → ((qs.set j ⟨(qs.getD j default).at_, (qs.getD j default).r, (qs.getD j default).a, (qs.getD j default).ws.set k x, (qs.getD j default).cap⟩).getD y default).a = (qs.getD y default).a := fun y hy => by
      by_cases e : y = j
      · subst e; rw [getD_set_eq _ _ _ hj]
      · rw [getD_set_ne _ _ _ _ e]
    rw [key i hi', key m hm']
    exact h.apart i m hi' hm' him
  · have hi' : i < qs.length := by simpa using hi
    obtain ⟨f1, f2, f3, f4⟩ := h.fit i hi'
    by_cases e : i = j
    · subst e
      rw [getD_set_eq _ _ _ hj]
      refine ⟨f1, f2, by simpa using f3, fun n hn => ?_⟩
      rcases List.mem_or_eq_of_mem_set hn with hn | rfl
      · exact f4 n hn
      · exact hx
    · rw [getD_set_ne _ _ _ _ e]
      exact ⟨f1, f2, f3, f4⟩

end Go.Proofs.YtdngbojbpmdegaaGreatDoor

namespace Go.Proofs.YtdngbojbpmdegaaGreatDoor
open Go.RowKit

end Go.Proofs.YtdngbojbpmdegaaGreatDoor

namespace Go.Proofs.YtdngbojbpmdegaaGreatDoor
open Go.RowKit

theorem mem_getD {ps : List Pg} {j : Nat} (hj : j < ps.length) : ps.getD j default ∈ ps := by simp [List.getD_eq_getElem?_getD, hj]

end Go.Proofs.YtdngbojbpmdegaaGreatDoor

namespace Go.Proofs.YtdngbojbpmdegaaGreatDoor
open Go.RowKit

/-- the pokes of one page's words -/
def pokeP (f : Int) (ws : List Int) (j : Nat) : List Ac := (List.range j).map fun (i : Nat) => ⟨7, 0, f, (i : Int), 0, ws.getD i 0, 0⟩
/-- the pokes of the first k pages -/
def pokeK (ps : List Pg) (f : Int) (k : Nat) : List Ac := (List.range k).flatMap fun (i : Nat) => pokeP (f + i) (ps.getD i default).ws (ps.getD i default).ws.length
/-- the puts and measures of the first k pages -/
def putK (ps : List Pg) (e f : Int) (k : Nat) : List Ac := (List.range k).flatMap fun (i : Nat) => [⟨2, e, f + i, (ps.getD i default).at_, (ps.getD i default).r, 0, 0⟩, ⟨3, e, 0, (ps.getD i default).at_, 0, 0, 0⟩]
def planL (ps : List Pg) (e f : Int) : List Ac := pokeK ps f ps.length ++ [⟨1, 0, 0, 0, 0, 0, 0⟩] ++ putK ps e f ps.length ++ [⟨4, e, 0, 0, 0, 0, 0⟩]

theorem pokeP_succ (f : Int) (ws : List Int) (j : Nat) : pokeP f ws (j + 1) = pokeP f ws j ++ [⟨7, 0, f, (j : Int), 0, ws.getD j 0, 0⟩] := by
  simp [pokeP, List.range_succ]
theorem pokeK_succ (ps : List Pg) (f : Int) (k : Nat) : pokeK ps f (k + 1) = pokeK ps f k ++ pokeP (f + k) (ps.getD k default).ws (ps.getD k default).ws.length := by
  simp [pokeK, List.range_succ]
theorem putK_succ (ps : List Pg) (e f : Int) (k : Nat) : putK ps e f (k + 1) = putK ps e f k ++ [⟨2, e, f + k, (ps.getD k default).at_, (ps.getD k default).r, 0, 0⟩, ⟨3, e, 0, (ps.getD k default).at_, 0, 0, 0⟩] := by
  simp [putK, List.range_succ]
theorem pokeP_len (f : Int) (ws : List Int) (j : Nat) : (pokeP f ws j).length = j := by simp [pokeP]
theorem pokeK_len (ps : List Pg) (f : Int) : ∀ k, (∀ j, j < k → (ps.getD j default).ws.length = 8) → (pokeK ps f k).length = 8 * k
  | 0, _ => by simp [pokeK]
  | k + 1, h => by
    rw [pokeK_succ, List.length_append, pokeK_len ps f k fun j hj => h j (by omega), pokeP_len, h k (by omega)]
    omega
theorem putK_len (ps : List Pg) (e f : Int) : ∀ k, (putK ps e f k).length = 2 * k
  | 0 => by simp [putK]
  | k + 1 => by rw [putK_succ, List.length_append, putK_len ps e f k]; simp; omega

end Go.Proofs.YtdngbojbpmdegaaGreatDoor

namespace Go.Proofs.YtdngbojbpmdegaaGreatDoor
open Go.RowKit

theorem hst_append (s : Hs) (a b : List Ac) : hst s (a ++ b) = hst (hst s a) b := List.foldl_append
theorem hans_append (s : Hs) (a b : List Ac) : hans s (a ++ b) = hans s a ++ hans (hst s a) b := by
  induction a generalizing s with
  | nil => rfl
  | cons x a ih => simp only [List.cons_append, hans, ih]; rfl
/-- acts that turn the machine alone, each done without an error -/
def Steps (M : Mv) (l : List Ac) (M' : Mv) : Prop := ∀ C, hst ⟨M, C⟩ l = ⟨M', C⟩ ∧ ∀ x ∈ hans ⟨M, C⟩ l, x.1 = 0
theorem Steps.nil (M : Mv) : Steps M [] M := fun C => ⟨rfl, fun x hx => by cases hx⟩
theorem Steps.append {M M' M'' : Mv} {a b : List Ac} (h : Steps M a M') (g : Steps M' b M'') : Steps M (a ++ b) M'' := fun C => by
  obtain ⟨h1, h2⟩ := h C
  obtain ⟨g1, g2⟩ := g C
  refine ⟨by rw [hst_append, h1, g1], fun x hx => ?_⟩
  rw [hans_append, h1] at hx
  rcases List.mem_append.1 hx with hx | hx
  · exact h2 x hx
  · exact g2 x hx
theorem Steps.one {M M' : Mv} {x : Ac} (hk : x.k ≠ 10 ∧ x.k ≠ 11) (hc : ∀ C, actC M C x = 0) (hm : ∀ C, actM M C x = M') : Steps M [x] M' := fun C => by
  refine ⟨?_, fun y hy => ?_⟩
  · show (⟨actM M C x, actD M C x⟩ : Hs) = _
    rw [hm C]
    unfold actD
    rw [if_neg hk.1, if_neg hk.2]
  · have : y = (actC M C x, actN M C x) := by simpa [hans] using hy
    rw [this]; exact hc C
theorem take_set {α : Type} (xs old : List α) (d : α) {j : Nat} (h1 : j < xs.length) (h2 : j < old.length) : (xs.take j ++ old.drop j).set j (xs.getD j d) = xs.take (j + 1) ++ old.drop (j + 1) := by
  have e1 : (xs.take j).length = j := by simp; omega
  rw [List.set_append_right _ _ (by omega), e1, Nat.sub_self, List.drop_eq_getElem_cons h2, List.set_cons_zero, List.take_succ_eq_append_getElem h1, List.append_assoc, show xs.getD j d = xs[j] from by simp [List.getD_eq_getElem?_getD, h1]]
  rfl
theorem nd_small : ∀ (k n : Nat), n < 10 ^ (k + 1) → (Lib.decDigits n).length ≤ k + 1
  | 0, n, h => by rw [Lib.decDigits, dif_pos (by omega)]; simp
  | k + 1, n, h => by
    rw [Lib.decDigits]
    split
    · simp
    · have := nd_small k (n / 10) (by rw [Nat.pow_succ] at h; omega)
      rw [List.length_append]
      simp only [List.length_cons, List.length_nil]
      omega
theorem nums_small (k : Nat) : ∀ (xs : List Int), (∀ n ∈ xs, 0 ≤ n ∧ n.toNat < 10 ^ (k + 1)) → (numsL xs).length ≤ (k + 2) * xs.length
  | [], _ => by simp [numsL]
  | x :: xs, h => by
    have h1 := nums_small k xs fun n hn => h n (by simp [hn])
    have h2 := h x (by simp)
    have h3 := nd_small k x.toNat h2.2
    have e : numsL (x :: xs) = 32 :: Lib.decDigits x.toNat ++ numsL xs := by simp [numsL, itoa_dig h2.1]
    rw [e, List.length_append, List.length_cons, List.length_cons, Nat.mul_succ]
    omega
theorem page_short {p : Pg} (h : p.f = 0) : (entryL sPage [p.at_, p.r]).length ≤ 9 ∧ (entryL sWords (p.at_ :: p.ws)).length ≤ 60 := by
  obtain ⟨h1, h2, h3⟩ := Pg.f_zero h
  have b1 := inB_iff.1 h1
  have b2 := inB_iff.1 h2
  obtain ⟨hl, ha⟩ := mayW_iff.1 h3
  have e1 := nums_small 0 [p.at_, p.r] fun n hn => by
    simp at hn
    rcases hn with rfl | rfl
    · exact ⟨b1.1, by omega⟩
    · exact ⟨b2.1, by omega⟩
  have e2 := nums_small 4 (p.at_ :: p.ws) fun n hn => by
    rcases List.mem_cons.1 hn with rfl | hn
    · exact ⟨b1.1, by omega⟩
    · exact ⟨(ha n hn).1, by have := (ha n hn).2; omega⟩
  simp only [List.length_cons, List.length_nil] at e1 e2
  rw [hl] at e2
  unfold entryL
  simp only [sPage, sWords, List.length_append, List.length_cons, List.length_nil]
  omega
theorem exp_short {ps : List Pg} (h : imageF ps = 0) (k : Nat) : (expK ps k).size ≤ 5 + 69 * (ps.take k).length := by
  unfold expK expL
  rw [txt_size, List.length_append]
  have h1 : ∀ (l : List Pg), (∀ p ∈ l, p.f = 0) → (l.flatMap pageL).length ≤ 69 * l.length := by
    intro l
    induction l with
    | nil => intro _; simp
    | cons p l ih =>
      intro hp
      have a1 := page_short (hp p (by simp))
      have a2 := ih fun q hq => hp q (by simp [hq])
      simp only [List.flatMap_cons, List.length_append, List.length_cons, pageL]
      omega
  have h2 := h1 (ps.take k) fun p hp => imgF_all ps none h p (List.mem_of_mem_take hp)
  simp only [sOpen, List.length_cons, List.length_nil]
  omega
end Go.Proofs.YtdngbojbpmdegaaGreatDoor

namespace Go.Proofs.YtdngbojbpmdegaaGreatDoor
open Go.RowKit

/-- a number from 0 to many - 1 -/
def pick (n many : Int) : Int := (if n < 0 then -(n + 1) else n) % many
theorem pick_lt (n : Int) {many : Int} (h : 0 < many) : 0 ≤ pick n many ∧ pick n many < many := ⟨Int.emod_nonneg _ (by omega), Int.emod_lt_of_pos _ h⟩

theorem picked_any (n many : Int) (w : World) (hn : (Lit.int .i64 n).wf = true) (h0 : 0 < many) (h1 : many ≤ 1000000) :
    Calls Tryz.prog 17 #[.int .i64 n, .int .i64 many] w fun e w' => e = .returned (.int .i64 (pick n many)) ∧ w = w' := by
  have hb := i64_wf hn
  have hne : ¬ many = 0 := by omega
  by_cases h : n < 0
  · have hp : pick n many = (-(n + 1)) % many := by unfold pick; rw [if_pos h]
    rw [hp]
    have h2 : 0 ≤ -(n + 1) := by omega
    clear hn hp
    go_enter Tryz.func17, Tryz.ntmps17
    go_wp2
    go_ret
    exact ⟨by apply ret_int; rw [← Int.neg_tmod, Int.tmod_eq_emod_of_nonneg h2], rfl⟩
  · have hp : pick n many = n % many := by unfold pick; rw [if_neg h]
    rw [hp]
    have h2 : 0 ≤ n := by omega
    clear hn hp
    go_enter Tryz.func17, Tryz.ntmps17
    go_wp2
    go_ret
    exact ⟨by first | rfl | (apply ret_int; rw [Int.tmod_eq_emod_of_nonneg h2]), rfl⟩

end Go.Proofs.YtdngbojbpmdegaaGreatDoor

namespace Go.Proofs.YtdngbojbpmdegaaGreatDoor
open Go.RowKit
set_option maxRecDepth 100000

theorem acts_row {w : World} {B : Nat} {v : Value} {l : List Ac} (h : Owns w B v l) : ∃ a cap, v = .slice a l.length cap ∧ RowsAt w 7 Ac.cells a l := by
  rcases h.2 with ⟨hv, h0⟩ | ⟨g, cap, cur, hv, _, hg, _, _, _, h4⟩
  · exact ⟨none, 0, by rw [hv, h0], .inl (List.eq_nil_of_length_eq_zero h0)⟩
  · refine ⟨some ⟨g, 0, none⟩, cap, hv, ?_⟩
    have e : cur = (l.flatMap Ac.cells ++ cur.toList.drop (l.length * 7)).toArray := by
      have : (rowA l ++ cur.toList.drop (l.length * 7)).toArray = cur := by rw [← h4, List.take_append_drop]
      exact this.symm
    rw [e] at hg
    exact rows_of_block (cells := Ac.cells) (c := 7) (fun _ => rfl) hg
theorem Picked_any (n many : Int) (w : World) (hn : (Lit.int .i64 n).wf = true) (h0 : 0 < many) (h1 : many ≤ 1000000) :
    Calls Tryz.prog 35 #[.int .i64 n, .int .i64 many] w fun e w' => e = .returned (.int .i64 (pick n many)) ∧ w = w' := by
  have h := fun w' => picked_any n many w' hn h0 h1
  generalize pick n many = z at h ⊢
  go_enter Tryz.func35, Tryz.ntmps35
  go_wp2_with (go_at_call 17; refine (h _).mono ?_; rintro e w' ⟨rfl, rfl⟩)
  go_ret
  exact ⟨rfl, rfl⟩
theorem plan_len {ps : List Pg} (h : imageF ps = 0) (e f : Int) : (planL ps e f).length ≤ 82 := by
  have h8 := image_len h
  unfold planL
  rw [List.length_append, List.length_append, List.length_append, putK_len, pokeK_len ps f _ (image_words h)]
  simp only [List.length_cons, List.length_nil]
  omega
theorem plan_ok {ps : List Pg} (h : imageF ps = 0) {e f : Int} (he : 0 ≤ e ∧ e ≤ 65535) (hf : 0 ≤ f ∧ f ≤ 1000) : ∀ x ∈ planL ps e f, x.Ok := by
  have h8 := image_len h
  have hpf := imgF_all ps none h
  have wz : (Lit.int .i64 0).wf = true := by decide
  intro x hx
  unfold planL at hx
  simp only [List.mem_append, List.mem_cons, List.not_mem_nil, or_false] at hx
  rcases hx with ((hx | rfl) | hx) | rfl
  · unfold pokeK at hx
    obtain ⟨i, hi, hx⟩ := List.mem_flatMap.1 hx
    have hil : i < ps.length := by simpa using hi
    unfold pokeP at hx
    obtain ⟨j, hj, rfl⟩ := List.mem_map.1 hx
    have hjl : j < (ps.getD i default).ws.length := by simpa using hj
    have hw := mayW_iff.1 (Pg.f_zero (hpf _ (mem_getD hil))).2.2
    have hn := hw.2 _ (getD_mem hjl)
    have := hw.1
    exact ⟨(by decide : (Lit.int .i64 7).wf = true), wz, wf_of (by dsimp only; omega), wf_of (by dsimp only; omega), wz, wf_of (by dsimp only; omega), wz⟩
  · exact ⟨(by decide : (Lit.int .i64 1).wf = true), wz, wz, wz, wz, wz, wz⟩
  · unfold putK at hx
    obtain ⟨i, hi, hx⟩ := List.mem_flatMap.1 hx
    have hil : i < ps.length := by simpa using hi
    obtain ⟨b1, b2, _⟩ := Pg.f_zero (hpf _ (mem_getD hil))
    have b1 := inB_iff.1 b1
    have b2 := inB_iff.1 b2
    simp only [List.mem_cons, List.not_mem_nil, or_false] at hx
    rcases hx with rfl | rfl
    · exact ⟨(by decide : (Lit.int .i64 2).wf = true), wf_of (by dsimp only; omega), wf_of (by dsimp only; omega), wf_of (by dsimp only; omega), wf_of (by dsimp only; omega), wz, wz⟩
    · exact ⟨(by decide : (Lit.int .i64 3).wf = true), wf_of (by dsimp only; omega), wz, wf_of (by dsimp only; omega), wz, wz, wz⟩
  · exact ⟨(by decide : (Lit.int .i64 4).wf = true), wf_of (by dsimp only; omega), wz, wz, wz, wz, wz⟩

end Go.Proofs.YtdngbojbpmdegaaGreatDoor

namespace Go.Proofs.YtdngbojbpmdegaaGreatDoor
open Go.RowKit
set_option maxRecDepth 100000

theorem owns_next {w0 w1 w2 : World} {B : Nat} {v v' : Value} {l new : List Ac} {o : Obj} (hown : Owns w1 B v l) (hown' : w2.ownsRow B 68 7 v' (l.length + new.length) (rowA l ++ rowA new)) (hgrow : (w1.alloc o).grownBy w2 v.ownBlock) (hb : Below B w0 w1) (hB : B ≤ w1.heap.size) :
    Owns w2 B v' (l ++ new) ∧ Below B w0 w2 ∧ B ≤ w2.heap.size := by
  have hs := hgrow.size
  refine ⟨by unfold Owns; rw [List.length_append, rowA_append]; exact hown', (hb.alloc hB o).grown hgrow (by simp; omega) (fun k hk => (hown.lt k hk).1), by simp at hs; omega⟩

theorem new_cells (w : World) (x : Ac) : ∀ j u, (rowA [x])[j]? = some u → (w.alloc (.cells #[.int .i64 x.k, .int .i64 x.e, .int .i64 x.f, .int .i64 x.at_, .int .i64 x.r, .int .i64 x.n, .int .i64 x.fuel] 68)).cell? ((⟨w.heap.size, 0, none⟩ : Addr).add j) = some u := by
  intro j u hj
  rw [add_at, World.cell?_alloc_at _ _ _ _ rfl]
  rw [rowA_one] at hj
  simpa [Ac.cells] using hj

set_option maxHeartbeats 4000000 in
theorem pokes_any (a : Option Addr) (ps : List Pg) (cap : Nat) (f : Int) (w : World) (hl : ps.length ≤ 8) (hx : PagesAt w a ps) (h8 : ∀ j, j < ps.length → (ps.getD j default).ws.length = 8) (hf0 : 0 ≤ f) (hf : f ≤ 24) :
    Calls Tryz.prog 70 #[.slice a ps.length cap, .int .i64 f] w fun e w' => ∃ v, e = .returned v ∧ Owns w' w.heap.size v (pokeK ps f ps.length) ∧ Below w.heap.size w w' := by
  obtain ⟨i0, hi, hz0, hz1, hz2⟩ := info_parts act_info
  have HX : Hid (PagesAt w a ps) := hx
  have H8 : Hid (∀ j, j < ps.length → (ps.getD j default).ws.length = 8) := h8
  clear hx h8
  go_enter Tryz.func70, Tryz.ntmps70
  go_wp2
  go_loopw [5, 12] (fun v i wr => ∃ k : Nat, k ≤ ps.length ∧ i = .int .i64 k ∧ Owns wr w.heap.size v (pokeK ps f k) ∧ Below w.heap.size w wr ∧ w.heap.size ≤ wr.heap.size) (fun _ i _ => ps.length - (intOf i).toNat)
  case atStart => exact ⟨0, Nat.zero_le _, rfl, World.ownsRow_nil _ _ _ _, Below.refl _ _, Nat.le_refl _⟩
  case round =>
    obtain ⟨k, hk, rfl, hown, hbel, hsz⟩ := hrel
    by_cases hlt : k < ps.length
    · have hX := HX.out.below hbel
      rcases HX.out.at_ with rfl | ⟨b, off, rfl, hc⟩
      · simp at hlt
      · obtain ⟨c0, c1, c2⟩ := hX.cells hlt
        have hok := HX.out.ok k hlt
        have hw8 := H8.out k hlt
        have HN : Hid _ := pokeK_succ ps f k
        have hpl : (pokeK ps f k).length = 8 * k := pokeK_len ps f k fun j hj => H8.out j (by omega)
        obtain ⟨P, hP⟩ : ∃ P, ps.getD k default = P := ⟨_, rfl⟩
        rw [hP] at c0 c1 c2 hok hw8 HN
        obtain ⟨pat, pr, pa, pws, pcap⟩ := P
        dsimp only at c0 c1 c2 hw8 HN
        have HI : Hid (Ints w pa pws) := hok.ints
        have HW : Hid (pws.length = 8) := hw8
        rw [hw8] at c2
        clear hP hok hX hw8 hc
        generalize pokeK ps f k = L at hown HN hpl
        go_wp2
        go_loopw [5, 20] (fun v i wr2 => ∃ j : Nat, j ≤ 8 ∧ i = .int .i64 j ∧ Owns wr2 w.heap.size v (L ++ pokeP (f + k) pws j) ∧ Below w.heap.size w wr2 ∧ w.heap.size ≤ wr2.heap.size) (fun _ i _ => 8 - (intOf i).toNat)
        case atStart => exact ⟨0, by omega, rfl, by unfold Owns; simpa [pokeP] using World.ownsRow.alloc hown _, hbel.alloc hsz _, by simp; omega⟩
        case round =>
          obtain ⟨j, hj, rfl, hown2, hbel2, hsz2⟩ := hrel
          clear hown hbel hsz c0 c1 c2
          by_cases hlj : j < 8
          · rcases HI.out.below hbel2 with h0 | ⟨pb, po, rfl, hcw⟩
            · have := HW.out; rw [h0] at this; simp at this
            · have hcj := hcw j (by have := HW.out; omega)
              have HP : Hid _ := pokeP_succ (f + k) pws j
              obtain ⟨z, hz⟩ : ∃ z, pws.getD j 0 = z := ⟨_, rfl⟩
              rw [hz] at hcj HP
              have HLL : Hid ((L ++ pokeP (f + k) pws j).length = 8 * k + j) := show (L ++ pokeP (f + k) pws j).length = 8 * k + j by rw [List.length_append, pokeP_len, hpl]
              have hcells := new_cells wr ⟨7, 0, f + k, j, 0, z, 0⟩
              have HA : Hid (∀ v' w2, w2.ownsRow w.heap.size 68 7 v' ((L ++ pokeP (f + k) pws j).length + 1) (rowA (L ++ pokeP (f + k) pws j) ++ rowA [⟨7, 0, f + k, j, 0, z, 0⟩]) → (wr.alloc (.cells #[.int .i64 7, .int .i64 0, .int .i64 (f + k), .int .i64 j, .int .i64 0, .int .i64 z, .int .i64 0] 68)).grownBy w2 u5.ownBlock →
                  Owns w2 w.heap.size v' (L ++ pokeP (f + k) pws (j + 1)) ∧ Below w.heap.size w w2 ∧ w.heap.size ≤ w2.heap.size) := fun v' w2 g1 g2 => by
                have := owns_next (new := [⟨7, 0, f + k, j, 0, z, 0⟩]) hown2 g1 g2 hbel2 hsz2
                rw [HP.out, ← List.append_assoc]
                exact this
              have hownA := World.ownsRow.alloc hown2 (.cells #[.int .i64 7, .int .i64 0, .int .i64 (f + k), .int .i64 j, .int .i64 0, .int .i64 z, .int .i64 0] 68)
              generalize L ++ pokeP (f + k) pws j = M at hownA HA HLL
              clear hcw hz hown2 HX H8 HN HI HP hbel2
              go_wp2_with (at_builtin; refine wpList_append_own _ rfl _ _ 23 rfl w.heap.size 68 i0 _ 7 56 Tryz.underlying23 hi hz0 hz1 hz2 rfl (by decide) _ _ _ rfl hownA ⟨wr.heap.size, 0, none⟩ 1 1 (rowA [⟨7, 0, f + k, j, 0, z, 0⟩]) rfl rfl hcells (rowA_cells_one _) (by have := HLL.out; unfold maxLen; omega) (by have := HLL.out; omega) (by simp; omega) ?_)
              intro v' w2 g1 g2 _
              have R := HA.out v' w2 g1 g2
              clear HA g1 g2 hownA hcells
              go_wp2
              go_roundw
              case rel => exact ⟨j + 1, by omega, by go_num, R.1, R.2.1, R.2.2⟩
              case measure => simp [intOf]; omega
          · have hj8 : j = 8 := by omega
            subst hj8
            have HN' : Hid (pokeK ps f (k + 1) = L ++ pokeP (f + k) pws 8) := by have := HN.out; rw [HW.out] at this; exact this
            clear HI HN HX H8
            go_wp2
            go_roundw
            case rel => exact ⟨k + 1, by omega, by go_num, by rw [HN'.out]; exact hown2, hbel2, hsz2⟩
            case measure => simp [intOf]; omega
    · have hkl : k = ps.length := by omega
      subst hkl
      clear HX H8
      go_wp2
      go_ret
      exact ⟨_, rfl, hown, hbel⟩

end Go.Proofs.YtdngbojbpmdegaaGreatDoor
