/-
  What was measured of an enclave tells just what is in it (own work): whatever who owns the machine did, the log of an enclave that never ran is the row of its pages and of words that its pages hold still. No condition. What the call Copy (image) answers for every list of pages: a list in new memory whose pages hold the same; nothing that was in memory turns. The condition: the list and each page's words are within the reach of the form (fewer than 2^47 bytes). What the call Copy (image) answers, said more closely: the new list and each page's words lie in blocks of their own, apart from one another; and what a store into one of them makes of the list. The condition: as Copy's. What samePages (riddlekeep) answers, for every two lists of pages: whether their pages hold the same; nothing that was in memory turns. Of images that are touched (own work): a word, a right or the last page is another one, and the image may still be; but it holds something else. No condition. Lists of acts in memory (own work): a list that the call itself makes, act behind act; the acts that build an image. No condition.
-/
import Derived.Test.YtdngbojbpmdegaaGreatDoorJHostMath
import Derived.Test.YtdngbojbpmdegaaGreatDoorJKeepMath
import Derived.Test.YtdngbojbpmdegaaGreatDoorJChecks
import Derived.Deep.OwnRows
import Derived.Laws.CopyOwn
import Derived.Test.YtdngbojbpmdegaaGreatDoorJAc
import Derived.Deep.Heap
namespace Go.Proofs.YtdngbojbpmdegaaGreatDoor
open Go.RowKit

/-- an entry of a log -/
inductive Lg where
  | pg (a r : Int)
  | wd (a : Int) (ws : List Int)
def Lg.bytes : Lg → List UInt8
  | .pg a r => entryL sPage [a, r]
  | .wd a ws => entryL sWords (a :: ws)
def Lg.Pos : Lg → Prop
  | .pg a r => 0 ≤ a ∧ 0 ≤ r
  | .wd a ws => 0 ≤ a ∧ ∀ n ∈ ws, 0 ≤ n
def Lg.isPg : Lg → Bool
  | .pg _ _ => true
  | .wd _ _ => false
/-- whose a frame is -/
def ownB (e : Int) (f : Fr) : Bool := f.o == e
theorem countP_upto {p q : Fr → Bool} {xs ys : List Fr} (hl : xs.length = ys.length) (h : ∀ j, j < xs.length → p (xs.getD j default) = q (ys.getD j default)) : xs.countP p = ys.countP q := by
  have e : xs.map p = ys.map q := by
    apply List.ext_getElem (by simpa using hl)
    intro j h1 h2
    have h3 : j < xs.length := by simpa using h1
    have h4 : j < ys.length := by simpa using h2
    have := h j h3
    simpa [List.getD_eq_getElem?_getD, h3, h4] using this
  have e1 : ∀ (zs : List Fr) (r : Fr → Bool), zs.countP r = (zs.map r).countP id := fun zs r => by rw [List.countP_map]; rfl
  rw [e1 xs p, e1 ys q, e]

/-- what the log of an enclave tells, and that it is so -/
structure Logs (M : Mv) (m : Nat) (L : List Lg) : Prop where
  log : (M.ens.getD m default).log = txt (sOpen ++ L.flatMap Lg.bytes)
  pos : ∀ x ∈ L, x.Pos
  pg : ∀ a r, Lg.pg a r ∈ L → ∃ j, j < 24 ∧ (M.frs.getD j default).o = (m : Int) + 1 ∧ (M.frs.getD j default).at_ = a ∧ (M.frs.getD j default).r = r
  wd : ∀ a ws, Lg.wd a ws ∈ L → ∃ j, j < 24 ∧ (M.frs.getD j default).o = (m : Int) + 1 ∧ (M.frs.getD j default).at_ = a ∧ (M.frs.getD j default).ws = ws
  cnt : M.frs.countP (ownB ((m : Int) + 1)) = L.countP Lg.isPg
/-- no frame of it is another one -/
def Kept (M M' : Mv) (m : Nat) : Prop := ∀ j, j < 24 → (M.frs.getD j default).o = (m : Int) + 1 ∨ (M'.frs.getD j default).o = (m : Int) + 1 → M'.frs.getD j default = M.frs.getD j default
theorem kept_count {M M' : Mv} {m : Nat} (h1 : M.frs.length = 24) (h2 : M'.frs.length = 24) (hk : Kept M M' m) : M'.frs.countP (ownB ((m : Int) + 1)) = M.frs.countP (ownB ((m : Int) + 1)) := by
  refine countP_upto (by rw [h1, h2]) fun j hj => ?_
  have hk' := hk j (by omega)
  unfold ownB
  by_cases c : (M.frs.getD j default).o = (m : Int) + 1
  · rw [hk' (.inl c)]
  · by_cases c' : (M'.frs.getD j default).o = (m : Int) + 1
    · rw [hk' (.inr c')]
    · rw [beq_eq_false_iff_ne.2 c, beq_eq_false_iff_ne.2 c']
theorem Logs.keep {M M' : Mv} {m : Nat} {L : List Lg} (h : Logs M m L) (h1 : M.frs.length = 24) (h2 : M'.frs.length = 24) (hl : (M'.ens.getD m default).log = (M.ens.getD m default).log) (hk : Kept M M' m) : Logs M' m L := by
  refine ⟨hl.trans h.log, h.pos, fun a r hx => ?_, fun a ws hx => ?_, (kept_count h1 h2 hk).trans h.cnt⟩
  · obtain ⟨j, hj, e1, e2, e3⟩ := h.pg a r hx
    have e := hk j hj (.inl e1)
    exact ⟨j, hj, by rw [e]; exact e1, by rw [e]; exact e2, by rw [e]; exact e3⟩
  · obtain ⟨j, hj, e1, e2, e3⟩ := h.wd a ws hx
    have e := hk j hj (.inl e1)
    exact ⟨j, hj, by rw [e]; exact e1, by rw [e]; exact e2, by rw [e]; exact e3⟩

/-- what holds of every enclave that never ran -/
def Told (M : Mv) : Prop := ∀ m, m < 4 → (M.ens.getD m default).st = 0 ∨ (((M.ens.getD m default).st = 1 ∨ (M.ens.getD m default).st = 2) ∧ ∃ L, Logs M m L)
theorem told_new : Told newM := fun m hm => by
  left
  show ((List.replicate 4 (default : En)).getD m default).st = 0
  rw [rep_getD _ _ _ hm]; rfl
/-- an enclave that is not concerned -/
theorem told_keep {M M' : Mv} {m : Nat} (h1 : M.frs.length = 24) (h2 : M'.frs.length = 24) (hl : M'.ens.getD m default = M.ens.getD m default) (hk : Kept M M' m)
    (h : (M.ens.getD m default).st = 0 ∨ (((M.ens.getD m default).st = 1 ∨ (M.ens.getD m default).st = 2) ∧ ∃ L, Logs M m L)) : (M'.ens.getD m default).st = 0 ∨ (((M'.ens.getD m default).st = 1 ∨ (M'.ens.getD m default).st = 2) ∧ ∃ L, Logs M' m L) := by
  rw [hl]
  rcases h with h | ⟨h, L, hL⟩
  · exact .inl h
  · exact .inr ⟨h, L, hL.keep h1 h2 (by rw [hl]) hk⟩
theorem kept_refl (M M' : Mv) (m : Nat) (h : M'.frs = M.frs) : Kept M M' m := fun j _ _ => by rw [h]
theorem told_create {M : Mv} (hg : Good M) (h : Told M) (hF : creF M = 0) : Told (creM M) := by
  intro m hm
  unfold creM
  rw [if_pos hF]
  have hz : machF M = 0 := good_iff.2 hg
  unfold creF at hF
  rw [if_pos hz] at hF
  rcases idxOf_cases emptyB M.ens with ⟨e, _⟩ | ⟨k, e, hk, hb, _⟩
  · rw [if_pos (by unfold creI; omega)] at hF; omega
  · have ek : (creI M).toNat = k := by unfold creI; rw [e]; omega
    rw [ek]
    have s2 := hg.s2
    by_cases c : m = k
    · right
      subst c
      have st0 : (M.ens.getD m default).st = 0 := by simpa [emptyB] using hb
      have eE : ((M.ens.set m openE).getD m default) = openE := by rw [getD_set_any, if_pos ⟨rfl, hk⟩]
      refine ⟨.inl (by show ((M.ens.set m openE).getD m default).st = 1; rw [eE]; rfl), [], ?_, (fun x hx => by cases hx), (fun a r hx => by cases hx), (fun a r hx => by cases hx), ?_⟩
      · show ((M.ens.set m openE).getD m default).log = _
        rw [eE]; rfl
      · show M.frs.countP _ = 0
        rw [List.countP_eq_zero]
        intro f hf hb
        obtain ⟨j, hj, ej⟩ := List.mem_iff_getElem.1 hf
        have hj24 : j < 24 := by have := hg.s1; omega
        have hfr := goodFr_iff.1 (hg.fr j hj24)
        have ef : M.frs.getD j default = f := by simp [List.getD_eq_getElem?_getD, hj, ej]
        rw [ef] at hfr
        have ho : f.o = (m : Int) + 1 := by simpa [ownB] using hb
        have := hfr.2.2.2.2.2 (by omega)
        rw [ho, show ((m : Int) + 1 - 1).toNat = m by omega] at this
        exact this st0
    · exact told_keep hg.s1 hg.s1 (by show (M.ens.set k openE).getD m default = _; rw [getD_set_any, if_neg (fun q => c q.1)]) (kept_refl _ _ _ rfl) (h m hm)
theorem told_put {M : Mv} {e f a r : Int} (hg : Good M) (h : Told M) (hF : putF M e f a r = 0) : Told (putM M e f a r) := by
  intro m hm
  unfold putM
  rw [if_pos hF]
  unfold putF at hF
  split at hF
  · rename_i hz
    obtain ⟨hz0, m0, rfl, hm4, hst, hs1⟩ := askF_zero hz
    have st1 := hs1 (by omega)
    rw [show ((m0 : Int) + 1 - 1).toNat = m0 by omega] at hF ⊢
    split at hF
    · rename_i hf
      have hfi := inB_iff.1 hf
      split at hF
      · rename_i ha
        rw [Bool.and_eq_true] at ha
        have a1 := inB_iff.1 ha.1
        have a2 := inB_iff.1 ha.2
        split at hF
        · rename_i ho
          have l1 := hg.s1
          have l2 := hg.s2
          obtain ⟨k, hk, hk24⟩ : ∃ k : Nat, f.toNat = k ∧ k < 24 := ⟨_, rfl, by omega⟩
          rw [hk] at ho ⊢
          have hset : ∀ j, j ≠ k → (M.frs.set k (putFr M k ((m0 : Int) + 1) a r)).getD j default = M.frs.getD j default := fun j hj => by rw [getD_set_any, if_neg (fun q => hj q.1)]
          have hsk : (M.frs.set k (putFr M k ((m0 : Int) + 1) a r)).getD k default = putFr M k ((m0 : Int) + 1) a r := by rw [getD_set_any, if_pos ⟨rfl, by omega⟩]
          by_cases c : m = m0
          · subst c
            rcases h m hm with q | ⟨_, L, hL⟩
            · exact absurd q hst
            · right
              have eE : (M.ens.set m ((M.ens.getD m default).withLog (putS a r))).getD m default = (M.ens.getD m default).withLog (putS a r) := by rw [getD_set_any, if_pos ⟨rfl, by omega⟩]
              refine ⟨.inl (by show ((M.ens.set m ((M.ens.getD m default).withLog (putS a r))).getD m default).st = 1; rw [eE]; exact st1), L ++ [.pg a r], ?_, ?_, ?_, ?_, ?_⟩
              · show ((M.ens.set m ((M.ens.getD m default).withLog (putS a r))).getD m default).log = _
                rw [eE]
                show (M.ens.getD m default).log ++ putS a r = _
                rw [hL.log]
                unfold putS
                rw [txt_append]
                simp [Lg.bytes]
              · intro x hx
                rcases List.mem_append.1 hx with hx | hx
                · exact hL.pos x hx
                · simp only [List.mem_cons, List.not_mem_nil, or_false] at hx
                  subst hx
                  exact ⟨a1.1, a2.1⟩
              · intro a' r' hx
                rcases List.mem_append.1 hx with hx | hx
                · obtain ⟨j, hj, e1, e2, e3⟩ := hL.pg a' r' hx
                  have hjk : j ≠ k := by intro q; rw [q, ho] at e1; omega
                  refine ⟨j, hj, ?_⟩
                  show ((M.frs.set k (putFr M k ((m : Int) + 1) a r)).getD j default).o = _ ∧ _
                  rw [hset j hjk]
                  exact ⟨e1, e2, e3⟩
                · simp only [List.mem_cons, List.not_mem_nil, or_false, Lg.pg.injEq] at hx
                  obtain ⟨rfl, rfl⟩ := hx
                  refine ⟨k, hk24, ?_⟩
                  show ((M.frs.set k (putFr M k ((m : Int) + 1) a' r')).getD k default).o = _ ∧ _
                  rw [hsk]
                  exact ⟨rfl, rfl, rfl⟩
              · intro a' ws hx
                rcases List.mem_append.1 hx with hx | hx
                · obtain ⟨j, hj, e1, e2, e3⟩ := hL.wd a' ws hx
                  have hjk : j ≠ k := by intro q; rw [q, ho] at e1; omega
                  refine ⟨j, hj, ?_⟩
                  show ((M.frs.set k (putFr M k ((m : Int) + 1) a r)).getD j default).o = _ ∧ _
                  rw [hset j hjk]
                  exact ⟨e1, e2, e3⟩
                · simp only [List.mem_cons, List.not_mem_nil, or_false] at hx
                  cases hx
              · show (M.frs.set k _).countP _ = _
                have hkl : k < M.frs.length := by omega
                rw [List.countP_set hkl, List.countP_append, ← hL.cnt]
                have e1 : M.frs[k] = M.frs.getD k default := by simp [List.getD_eq_getElem?_getD, hkl]
                have e2 : ownB ((m : Int) + 1) M.frs[k] = false := by rw [e1]; unfold ownB; rw [ho]; exact beq_eq_false_iff_ne.2 (by omega)
                have e3 : ownB ((m : Int) + 1) (putFr M k ((m : Int) + 1) a r) = true := beq_self_eq_true _
                rw [e2, e3]
                simp [Lg.isPg]
          · refine told_keep l1 (by simpa using l1) (by show (M.ens.set m0 _).getD m default = _; rw [getD_set_any, if_neg (fun q => c q.1)]) (fun j hj q => ?_) (h m hm)
            by_cases cj : j = k
            · subst cj
              exfalso
              rcases q with q | q
              · omega
              · have q' : ((M.frs.set j (putFr M j ((m0 : Int) + 1) a r)).getD j default).o = (m : Int) + 1 := q
                rw [hsk] at q'
                have : (m0 : Int) + 1 = (m : Int) + 1 := q'
                omega
            · exact hset j cj
        · omega
      · omega
    · omega
  · rename_i hz; exact absurd hF hz
theorem told_measure {M : Mv} {e a : Int} (hg : Good M) (h : Told M) (hF : meaF M e a = 0) : Told (meaM M e a) := by
  intro m hm
  unfold meaM
  rw [if_pos hF]
  unfold meaF at hF
  split at hF
  · rename_i hz
    obtain ⟨hz0, m0, rfl, hm4, hst, hs1⟩ := askF_zero hz
    have st1 := hs1 (by omega)
    rw [show ((m0 : Int) + 1 - 1).toNat = m0 by omega] at hF ⊢
    split at hF
    · omega
    · rename_i hp
      have l1 := hg.s1
      have l2 := hg.s2
      by_cases c : m = m0
      · subst c
        rcases h m hm with q | ⟨_, L, hL⟩
        · exact absurd q hst
        · right
          rcases place_cases M.frs ((m : Int) + 1) a with q | ⟨k, hk, hkl, hb⟩
          · exact absurd (by omega) hp
          · have eE : (M.ens.set m ((M.ens.getD m default).withLog (meaS M ((m : Int) + 1) a))).getD m default = (M.ens.getD m default).withLog (meaS M ((m : Int) + 1) a) := by rw [getD_set_any, if_pos ⟨rfl, by omega⟩]
            have eS : meaS M ((m : Int) + 1) a = txt (Lg.wd a (M.frs.getD k default).ws).bytes := by unfold meaS heldS; rw [hk, Int.toNat_natCast]; rfl
            simp only [plB, Bool.and_eq_true, beq_iff_eq] at hb
            have hfr := goodFr_iff.1 (hg.fr k (by omega))
            refine ⟨.inl (by show ((M.ens.set m ((M.ens.getD m default).withLog (meaS M ((m : Int) + 1) a))).getD m default).st = 1; rw [eE]; exact st1), L ++ [.wd a (M.frs.getD k default).ws], ?_, ?_, ?_, ?_, ?_⟩
            · show ((M.ens.set m ((M.ens.getD m default).withLog (meaS M ((m : Int) + 1) a))).getD m default).log = _
              rw [eE]
              show (M.ens.getD m default).log ++ meaS M ((m : Int) + 1) a = _
              rw [hL.log, eS, txt_append]
              simp
            · intro x hx
              rcases List.mem_append.1 hx with hx | hx
              · exact hL.pos x hx
              · simp only [List.mem_cons, List.not_mem_nil, or_false] at hx
                subst hx
                have h3 := inB_iff.1 hfr.2.2.1
                rw [hb.2] at h3
                exact ⟨h3.1, fun n hn => ((mayW_iff.1 hfr.1).2 n hn).1⟩
            · intro a' r' hx
              rcases List.mem_append.1 hx with hx | hx
              · exact hL.pg a' r' hx
              · simp only [List.mem_cons, List.not_mem_nil, or_false] at hx
                cases hx
            · intro a' ws hx
              rcases List.mem_append.1 hx with hx | hx
              · exact hL.wd a' ws hx
              · simp only [List.mem_cons, List.not_mem_nil, or_false, Lg.wd.injEq] at hx
                obtain ⟨rfl, rfl⟩ := hx
                exact ⟨k, by omega, hb.1.2, hb.2, rfl⟩
            · show M.frs.countP _ = _
              rw [List.countP_append, hL.cnt]
              simp [Lg.isPg]
      · exact told_keep l1 l1 (by show (M.ens.set m0 _).getD m default = _; rw [getD_set_any, if_neg (fun q => c q.1)]) (kept_refl _ _ _ rfl) (h m hm)
  · rename_i hz; exact absurd hF hz
theorem told_start {M : Mv} {e : Int} (hg : Good M) (h : Told M) (hF : askF M e 1 = 0) : Told (startM M e) := by
  intro m hm
  unfold startM
  rw [if_pos hF]
  obtain ⟨hz0, m0, rfl, hm4, hst, hs1⟩ := askF_zero hF
  rw [show ((m0 : Int) + 1 - 1).toNat = m0 by omega]
  have l2 := hg.s2
  by_cases c : m = m0
  · subst c
    rcases h m hm with q | ⟨_, L, hL⟩
    · exact absurd q hst
    · right
      have eE : (M.ens.set m { M.ens.getD m default with st := 2 }).getD m default = { M.ens.getD m default with st := 2 } := by rw [getD_set_any, if_pos ⟨rfl, by omega⟩]
      exact ⟨.inr (by show ((M.ens.set m { M.ens.getD m default with st := 2 }).getD m default).st = 2; rw [eE]), L, hL.keep hg.s1 hg.s1 (by show ((M.ens.set m { M.ens.getD m default with st := 2 }).getD m default).log = _; rw [eE]) (kept_refl _ _ _ rfl)⟩
  · exact told_keep hg.s1 hg.s1 (by show (M.ens.set m0 _).getD m default = _; rw [getD_set_any, if_neg (fun q => c q.1)]) (kept_refl _ _ _ rfl) (h m hm)
theorem told_remove {M : Mv} {e : Int} (hg : Good M) (h : Told M) (hF : askF M e (-1) = 0) : Told (remM M e) := by
  intro m hm
  unfold remM
  rw [if_pos hF]
  obtain ⟨hz0, m0, rfl, hm4, hst, hs1⟩ := askF_zero hF
  rw [show ((m0 : Int) + 1 - 1).toNat = m0 by omega]
  have l1 := hg.s1
  have l2 := hg.s2
  by_cases c : m = m0
  · left
    subst c
    show ((M.ens.set m default).getD m default).st = 0
    rw [getD_set_any, if_pos ⟨rfl, by omega⟩]; rfl
  · refine told_keep l1 (by simpa using l1) (by show (M.ens.set m0 _).getD m default = _; rw [getD_set_any, if_neg (fun q => c q.1)]) (fun j hj q => ?_) (h m hm)
    show (M.frs.map (remFr ((m0 : Int) + 1))).getD j default = _
    have q' : (M.frs.getD j default).o = (m : Int) + 1 ∨ ((M.frs.map (remFr ((m0 : Int) + 1))).getD j default).o = (m : Int) + 1 := q
    rw [frmap_getD _ (by omega)] at q' ⊢
    unfold remFr at q' ⊢
    split
    · rename_i ho
      exfalso
      rw [if_pos ho] at q'
      rcases q' with q' | q'
      · omega
      · have : (0 : Int) = (m : Int) + 1 := q'
        omega
    · rfl
theorem told_poke {M : Mv} {f a n : Int} (hg : Good M) (h : Told M) (hF : pokeF M f a n = 0) : Told (pokeM M f a n) := by
  intro m hm
  unfold pokeM
  rw [if_pos hF]
  split
  · rename_i ho
    have l1 := hg.s1
    refine told_keep l1 (by simpa using l1) rfl (fun j hj q => ?_) (h m hm)
    show (M.frs.set f.toNat _).getD j default = _
    have q' : (M.frs.getD j default).o = (m : Int) + 1 ∨ ((M.frs.set f.toNat { M.frs.getD f.toNat default with ws := (M.frs.getD f.toNat default).ws.set a.toNat n }).getD j default).o = (m : Int) + 1 := q
    rw [getD_set_any] at q' ⊢
    split
    · rename_i cj
      exfalso
      rw [if_pos cj, cj.1] at q'
      rcases q' with q' | q'
      · omega
      · have : (M.frs.getD f.toNat default).o = (m : Int) + 1 := q'
        omega
    · rfl
  · exact h m hm
/-- an act of who owns the machine -/
def Ac.outer (x : Ac) : Prop := x.k ≠ 8 ∧ x.k ≠ 9
theorem ite_told {c : Prop} [Decidable c] {A B : Mv} (h1 : c → Told A) (h2 : ¬ c → Told B) : Told (if c then A else B) := by
  split
  · rename_i h; exact h1 h
  · rename_i h; exact h2 h
theorem told_act {M : Mv} (hz : machF M = 0) (h : Told M) (C : Cv) (x : Ac) (hx : x.outer) : Told (actM M C x) := by
  have hg := good_iff.1 hz
  unfold actM
  exact ite_told (fun _ => ite_told (fun q => told_create hg h q) (fun _ => h)) (fun _ => ite_told (fun _ => ite_told (fun q => told_put hg h q) (fun _ => h)) (fun _ => ite_told (fun _ => ite_told (fun q => told_measure hg h q) (fun _ => h)) (fun _ => ite_told (fun _ => ite_told (fun q => told_start hg h q) (fun _ => h)) (fun _ =>
    ite_told (fun _ => ite_told (fun q => told_remove hg h q) (fun _ => h)) (fun _ => ite_told (fun _ => ite_told (fun q => told_poke hg h q) (fun _ => h)) (fun _ => ite_told (fun q => absurd q hx.1) (fun _ => ite_told (fun q => absurd q hx.2) (fun _ => h))))))))
theorem told_hst : ∀ (l : List Ac) (s : Hs), machF s.M = 0 → Told s.M → (∀ x ∈ l, x.outer) → Told (hst s l).M
  | [], _, _, h, _ => h
  | x :: l, s, hz, h, ho => told_hst l (hstep s x) (act_good s.C x hz) (told_act hz h s.C x (ho x (by simp))) fun y hy => ho y (by simp [hy])

theorem good_place {M : Mv} (hg : Good M) {m j : Nat} (hj : j < 24) {a : Int} (ho : (M.frs.getD j default).o = (m : Int) + 1) (ha : (M.frs.getD j default).at_ = a) : placeOf M.frs ((m : Int) + 1) a = (j : Int) := by
  have l1 := hg.s1
  refine place_at (by omega) (by simp only [plB, ho, ha, beq_self_eq_true, Bool.and_true, decide_eq_true_eq]; omega) fun i hi hij => ?_
  cases hb : plB ((m : Int) + 1) a (M.frs.getD i default) with
  | false => rfl
  | true =>
    simp only [plB, Bool.and_eq_true, beq_iff_eq] at hb
    exfalso
    rcases Nat.lt_or_gt_of_ne hij with q | q
    · exact hg.tw i j q hj (by omega) ⟨by rw [hb.1.2, ho], by rw [hb.2, ha]⟩
    · exact hg.tw j i q (by omega) (by omega) ⟨by rw [hb.1.2, ho], by rw [hb.2, ha]⟩
end Go.Proofs.YtdngbojbpmdegaaGreatDoor

namespace Go.Proofs.YtdngbojbpmdegaaGreatDoor
open Go.RowKit

/-- two pages hold the same -/
def Pg.Same (q p : Pg) : Prop := q.at_ = p.at_ ∧ q.r = p.r ∧ q.ws = p.ws
theorem Ints.blocks {w w' : World} {a : Option Addr} {xs : List Int} {B : Nat} (h : Ints w a xs) (ha : ∀ b off s, a = some ⟨b, off, s⟩ → b ≠ B) (hb : ∀ b, b < w.heap.size → b ≠ B → w'.heap[b]? = w.heap[b]?) : Ints w' a xs := by
  rcases h with h | ⟨b, off, h1, h2⟩
  · exact .inl h
  · exact .inr ⟨b, off, h1, fun j hj => (World.cell?_of_block (w := w) (hb b (lt_of_cell (h2 j hj)) (ha b off none h1))).trans (h2 j hj)⟩
theorem Pg.Ok.blocks {w w' : World} {p : Pg} {B : Nat} (h : p.Ok w) (ha : ∀ b off s, p.a = some ⟨b, off, s⟩ → b ≠ B) (hb : ∀ b, b < w.heap.size → b ≠ B → w'.heap[b]? = w.heap[b]?) : p.Ok w' :=
  ⟨h.wat, h.wr, h.len, h.ints.blocks ha hb, h.wws⟩

/-- the words of a page as cells -/
def wcells (ws : List Int) : List Value := ws.map (Value.int .i64)
theorem wcells_get (ws : List Int) (j : Nat) (h : j < ws.length) : (wcells ws)[j]? = some (.int .i64 (ws.getD j 0)) := by
  simp [wcells, h, List.getD_eq_getElem?_getD]

/-- the world behind the stores of a round, ahead of the copying of the words -/
def W7 (wr : World) (B k : Nat) (pat pr : Int) (pa : Option Addr) (pws : List Int) (pcap : Nat) : World :=
  (((((wr.setCell ⟨B, k * 3, none⟩ (.int .i64 pat)).setCell ⟨B, k * 3 + 1, none⟩ (.int .i64 pr)).setCell ⟨B, k * 3 + 2, none⟩ (.slice pa pws.length pcap)).setCell ⟨B, k * 3 + 2, none⟩ (.slice (some ⟨wr.heap.size + 1, 0, none⟩) pws.length pws.length)).alloc
    (.cells #[.int .i64 pat, .int .i64 pr, .slice pa pws.length pcap] 116)).alloc (.cells (madeCells #[.int .i64 0] pws.length) 3)

end Go.Proofs.YtdngbojbpmdegaaGreatDoor

namespace Go.Proofs.YtdngbojbpmdegaaGreatDoor
open Go.RowKit

/-- a list of pages in a block of its own, each page's words in a block of their own -/
structure OwnedP (w : World) (B : Nat) (qs : List Pg) : Prop where
  row : ∃ F, w.rowIs B 116 (qs.length * 3) F ∧ ∀ j, j < qs.length → F (j * 3) = .int .i64 (qs.getD j default).at_ ∧ F (j * 3 + 1) = .int .i64 (qs.getD j default).r ∧ F (j * 3 + 2) = .slice (qs.getD j default).a (qs.getD j default).ws.length (qs.getD j default).cap
  own : ∀ j, j < qs.length → ∃ g, (qs.getD j default).a = some ⟨g, 0, none⟩ ∧ B < g ∧ w.heap[g]? = some (.cells (wcells (qs.getD j default).ws).toArray 3 (0, 0))
  apart : ∀ i j, i < qs.length → j < qs.length → i ≠ j → (qs.getD i default).a ≠ (qs.getD j default).a
  fit : ∀ j, j < qs.length → (Lit.int .i64 (qs.getD j default).at_).wf = true ∧ (Lit.int .i64 (qs.getD j default).r).wf = true ∧ (qs.getD j default).ws.length ≤ maxLen ∧ ∀ n ∈ (qs.getD j default).ws, (Lit.int .i64 n).wf = true

theorem wcells_cell {w : World} {g : Nat} {ws : List Int} (h : w.heap[g]? = some (.cells (wcells ws).toArray 3 (0, 0))) (j : Nat) (hj : j < ws.length) : w.cell? ⟨g, 0 + j, none⟩ = some (.int .i64 (ws.getD j 0)) := by
  have := wcells_get ws j hj
  simp [World.cell?, h, this]
theorem OwnedP.pages {w : World} {B : Nat} {qs : List Pg} (h : OwnedP w B qs) : PagesAt w (some ⟨B, 0, none⟩) qs := by
  obtain ⟨F, hF, hc⟩ := h.row
  refine ⟨.inr ⟨B, 0, rfl, fun j hj => ?_⟩, fun j hj => ?_⟩
  · obtain ⟨s1, s2, s3⟩ := hc j hj
    have r0 := hF.cell (i := j * 3) (by omega)
    have r1 := hF.cell (i := j * 3 + 1) (by omega)
    have r2 := hF.cell (i := j * 3 + 2) (by omega)
    rw [s1] at r0
    rw [s2] at r1
    rw [s3] at r2
    simp only [Nat.zero_add]
    exact ⟨r0, r1, r2⟩
  · obtain ⟨f1, f2, f3, f4⟩ := h.fit j hj
    obtain ⟨g, hg, _, hh⟩ := h.own j hj
    exact ⟨f1, f2, f3, .inr ⟨g, 0, hg, fun i hi => wcells_cell hh i hi⟩, f4⟩

theorem getD_set_eq (qs : List Pg) (j : Nat) (p : Pg) (hj : j < qs.length) : (qs.set j p).getD j default = p := by simp [List.getD_eq_getElem?_getD, hj]
theorem getD_set_ne (qs : List Pg) (i j : Nat) (p : Pg) (h : i ≠ j) : (qs.set j p).getD i default = qs.getD i default := by
  simp [List.getD_eq_getElem?_getD, List.getElem?_set_ne (Ne.symm h)]

/-- a right is another one -/
theorem OwnedP.right {w : World} {B : Nat} {qs : List Pg} (h : OwnedP w B qs) (j : Nat) (hj : j < qs.length) (r : Int) (hr : (Lit.int .i64 r).wf = true) :
    PagesAt (w.setCell ⟨B, j * 3 + 1, none⟩ (.int .i64 r)) (some ⟨B, 0, none⟩) (qs.set j ⟨(qs.getD j default).at_, r, (qs.getD j default).a, (qs.getD j default).ws, (qs.getD j default).cap⟩) := by
  obtain ⟨F, hF, hc⟩ := h.row
  refine OwnedP.pages (B := B) ⟨⟨_, by simpa using hF.set (j * 3 + 1) (.int .i64 r), fun i hi => ?_⟩, fun i hi => ?_, fun i k hi hk hik => ?_, fun i hi => ?_⟩
  · have hi' : i < qs.length := by simpa using hi
    obtain ⟨s1, s2, s3⟩ := hc i hi'
    by_cases e : i = j
    · subst e
      rw [getD_set_eq _ _ _ hj]
      simp [s1, s3]
    · rw [getD_set_ne _ _ _ _ e, if_neg (by omega), if_neg (by omega), if_neg (by omega)]
      exact ⟨s1, s2, s3⟩
  · have hi' : i < qs.length := by simpa using hi
    obtain ⟨g, g1, g2, g3⟩ := h.own i hi'
    have keep : (w.setCell ⟨B, j * 3 + 1, none⟩ (.int .i64 r)).heap[g]? = w.heap[g]? := Go.Deep.blk_setCell_other _ _ _ _ (by simp; omega)
    by_cases e : i = j
    · subst e
      rw [getD_set_eq _ _ _ hj]
      exact ⟨g, g1, g2, keep.trans g3⟩
    · rw [getD_set_ne _ _ _ _ e]
      exact ⟨g, g1, g2, keep.trans g3⟩
  · have hi' : i < qs.length := by simpa using hi
    have hk' : k < qs.length := by simpa using hk
    have key : ∀ x, x < qs.length → ((qs.set j ⟨(qs.getD j default).at_, r, (qs.getD j default).a, (qs.getD j default).ws, (qs.getD j default).cap⟩).getD x default).a = (qs.getD x default).a := fun x hx => by
      by_cases e : x = j
      · subst e; rw [getD_set_eq _ _ _ hj]
      · rw [getD_set_ne _ _ _ _ e]
    rw [key i hi', key k hk']
    exact h.apart i k hi' hk' hik
  · have hi' : i < qs.length := by simpa using hi
    obtain ⟨f1, f2, f3, f4⟩ := h.fit i hi'
    by_cases e : i = j
    · subst e
      rw [getD_set_eq _ _ _ hj]
      exact ⟨f1, hr, f3, f4⟩
    · rw [getD_set_ne _ _ _ _ e]
      exact ⟨f1, f2, f3, f4⟩

theorem wcells_set (ws : List Int) (k : Nat) (x : Int) : ((wcells ws).toArray.setIfInBounds k (.int .i64 x)) = (wcells (ws.set k x)).toArray := by
  apply Array.ext'
  simp [wcells, List.map_set]

/-- a word is another one -/
theorem OwnedP.word {w : World} {B : Nat} {qs : List Pg} (h : OwnedP w B qs) (j : Nat) (hj : j < qs.length) (g : Nat) (hg : (qs.getD j default).a = some ⟨g, 0, none⟩) (k : Nat) (x : Int) (hx : (Lit.int .i64 x).wf = true) :
    PagesAt (w.setCell ⟨g, k, none⟩ (.int .i64 x)) (some ⟨B, 0, none⟩) (qs.set j ⟨(qs.getD j default).at_, (qs.getD j default).r, (qs.getD j default).a, (qs.getD j default).ws.set k x, (qs.getD j default).cap⟩) := by
  obtain ⟨F, hF, hc⟩ := h.row
  obtain ⟨g', e1, e2, e3⟩ := h.own j hj
  have hgg : g' = g := by rw [hg] at e1; simpa using e1.symm
  subst hgg
  refine OwnedP.pages (B := B) ⟨⟨F, by simpa using hF.setOther (a := ⟨g', k, none⟩) (by simp; omega) (.int .i64 x), fun i hi => ?_⟩, fun i hi => ?_, fun i m hi hm him => ?_, fun i hi => ?_⟩
  · have hi' : i < qs.length := by simpa using hi
    obtain ⟨s1, s2, s3⟩ := hc i hi'
    by_cases e : i = j
    · subst e
      rw [getD_set_eq _ _ _ hj]
      exact ⟨s1, s2, by rw [s3]; simp⟩
    · rw [getD_set_ne _ _ _ _ e]
      exact ⟨s1, s2, s3⟩
  · have hi' : i < qs.length := by simpa using hi
    by_cases e : i = j
    · subst e
      rw [getD_set_eq _ _ _ hj]
      refine ⟨g', hg, e2, ?_⟩
      dsimp only
      rw [← wcells_set]
      simp [World.setCell, Array.getElem?_modify, e3]
    · rw [getD_set_ne _ _ _ _ e]
      obtain ⟨u, u1, u2, u3⟩ := h.own i hi'
      refine ⟨u, u1, u2, (Go.Deep.blk_setCell_other _ _ _ _ ?_).trans u3⟩
      have := h.apart i j hi' hj e
      rw [u1, hg] at this
      intro q
      exact this (by simp at q; rw [q])
  · have hi' : i < qs.length := by simpa using hi
    have hm' : m < qs.length := by simpa using hm
    have key : ∀ y, y < qs.length → ((qs.set j ⟨(qs.getD j default).at_, (qs.getD j default).r, (qs.getD j default).a, (qs.getD j default).ws.set k x, (qs.getD j default).cap⟩).getD y default).a = (qs.getD y default).a := fun y hy => by
      by_cases e : y = j
      · subst e; rw [getD_set_eq _ _ _ hj]
      · rw [getD_set_ne _ _ _ _ e]
    rw [key i hi', key m hm']
    exact h.apart i m hi' hm' him
  · have hi' : i < qs.length := by simpa using hi
    obtain ⟨f1, f2, f3, f4⟩ := h.fit i hi'
    by_cases e : i = j
    · subst e
      rw [getD_set_eq _ _ _ hj]
      refine ⟨f1, f2, by simpa using f3, fun n hn => ?_⟩
      rcases List.mem_or_eq_of_mem_set hn with hn | rfl
      · exact f4 n hn
      · exact hx
    · rw [getD_set_ne _ _ _ _ e]
      exact ⟨f1, f2, f3, f4⟩

end Go.Proofs.YtdngbojbpmdegaaGreatDoor

namespace Go.Proofs.YtdngbojbpmdegaaGreatDoor
open Go.RowKit

end Go.Proofs.YtdngbojbpmdegaaGreatDoor

namespace Go.Proofs.YtdngbojbpmdegaaGreatDoor
open Go.RowKit

theorem imgF_step {p : Pg} {l : List Pg} {o : Option Int} (h : imgF o (p :: l) = 0) : p.f = 0 ∧ (∀ q, o = some q → ¬ p.at_ ≤ q) ∧ imgF (some p.at_) l = 0 := by
  have hp := imgF_all _ _ h p (by simp)
  refine ⟨hp, fun q hq => ?_, ?_⟩
  · subst hq
    intro e
    simp [imgF, hp, e] at h
  · cases o with
    | none => simpa [imgF, hp] using h
    | some z =>
      by_cases e : p.at_ ≤ z
      · simp [imgF, hp, e] at h
      · simpa [imgF, hp, e] using h
theorem mem_getD {ps : List Pg} {j : Nat} (hj : j < ps.length) : ps.getD j default ∈ ps := by simp [List.getD_eq_getElem?_getD, hj]

end Go.Proofs.YtdngbojbpmdegaaGreatDoor

namespace Go.Proofs.YtdngbojbpmdegaaGreatDoor
open Go.RowKit

/-- the pokes of one page's words -/
def pokeP (f : Int) (ws : List Int) (j : Nat) : List Ac := (List.range j).map fun (i : Nat) => ⟨7, 0, f, (i : Int), 0, ws.getD i 0, 0⟩
/-- the pokes of the first k pages -/
def pokeK (ps : List Pg) (f : Int) (k : Nat) : List Ac := (List.range k).flatMap fun (i : Nat) => pokeP (f + i) (ps.getD i default).ws (ps.getD i default).ws.length
/-- the puts and measures of the first k pages -/
def putK (ps : List Pg) (e f : Int) (k : Nat) : List Ac := (List.range k).flatMap fun (i : Nat) => [⟨2, e, f + i, (ps.getD i default).at_, (ps.getD i default).r, 0, 0⟩, ⟨3, e, 0, (ps.getD i default).at_, 0, 0, 0⟩]
def planL (ps : List Pg) (e f : Int) : List Ac := pokeK ps f ps.length ++ [⟨1, 0, 0, 0, 0, 0, 0⟩] ++ putK ps e f ps.length ++ [⟨4, e, 0, 0, 0, 0, 0⟩]

theorem pokeP_succ (f : Int) (ws : List Int) (j : Nat) : pokeP f ws (j + 1) = pokeP f ws j ++ [⟨7, 0, f, (j : Int), 0, ws.getD j 0, 0⟩] := by
  simp [pokeP, List.range_succ]
theorem pokeK_succ (ps : List Pg) (f : Int) (k : Nat) : pokeK ps f (k + 1) = pokeK ps f k ++ pokeP (f + k) (ps.getD k default).ws (ps.getD k default).ws.length := by
  simp [pokeK, List.range_succ]
theorem putK_succ (ps : List Pg) (e f : Int) (k : Nat) : putK ps e f (k + 1) = putK ps e f k ++ [⟨2, e, f + k, (ps.getD k default).at_, (ps.getD k default).r, 0, 0⟩, ⟨3, e, 0, (ps.getD k default).at_, 0, 0, 0⟩] := by
  simp [putK, List.range_succ]
theorem pokeP_len (f : Int) (ws : List Int) (j : Nat) : (pokeP f ws j).length = j := by simp [pokeP]
theorem pokeK_len (ps : List Pg) (f : Int) : ∀ k, (∀ j, j < k → (ps.getD j default).ws.length = 8) → (pokeK ps f k).length = 8 * k
  | 0, _ => by simp [pokeK]
  | k + 1, h => by
    rw [pokeK_succ, List.length_append, pokeK_len ps f k fun j hj => h j (by omega), pokeP_len, h k (by omega)]
    omega
theorem putK_len (ps : List Pg) (e f : Int) : ∀ k, (putK ps e f k).length = 2 * k
  | 0 => by simp [putK]
  | k + 1 => by rw [putK_succ, List.length_append, putK_len ps e f k]; simp; omega

end Go.Proofs.YtdngbojbpmdegaaGreatDoor
