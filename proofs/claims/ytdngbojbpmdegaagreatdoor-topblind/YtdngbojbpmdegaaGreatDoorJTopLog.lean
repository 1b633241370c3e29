/-
  What the calls Expect (image) and ExpectedOf (riddleref) answer, for every list of pages: both the same text and the same error number; nothing that was in memory turns. Two images that may be are measured the same only if their pages hold the same (own work, plain mathematics of the measured text). The condition: nothing is wrong with either. What becomes of a new machine (own work): the steps of PagesApart and of StartsClose, reckoned. No condition but the numbers' bounds. What was measured of an enclave tells just what is in it (own work): whatever who owns the machine did, the log of an enclave that never ran is the row of its pages and of words that its pages hold still. No condition.
-/
import Derived.Test.YtdngbojbpmdegaaGreatDoorJPutMath
import Derived.Test.YtdngbojbpmdegaaGreatDoorJImageMath
import Derived.Deep.RegionHeld3
import Derived.Test.YtdngbojbpmdegaaGreatDoorJHostMath
namespace Go.Proofs.YtdngbojbpmdegaaGreatDoor
open Go.RowKit

/-- what is measured of one page -/
def pageL (p : Pg) : List UInt8 := entryL sPage [p.at_, p.r] ++ entryL sWords (p.at_ :: p.ws)
def sOpen : List UInt8 := [111, 112, 101, 110, 59]
/-- what is measured of an image -/
def expL (ps : List Pg) : List UInt8 := sOpen ++ ps.flatMap pageL
def expK (ps : List Pg) (k : Nat) : ByteArray := txt (expL (ps.take k))
theorem expK_succ (ps : List Pg) (k : Nat) (hk : k < ps.length) : expK ps k ++ (putS (ps.getD k default).at_ (ps.getD k default).r ++ heldS (ps.getD k default).at_ (ps.getD k default).ws) = expK ps (k + 1) := by
  unfold expK expL putS heldS
  rw [txt_append, txt_append, List.take_succ_eq_append_getElem hk, List.flatMap_append]
  have e : ps[k] = ps.getD k default := by simp [List.getD_eq_getElem?_getD, hk]
  rw [e]
  simp [pageL]
theorem expK_end (ps : List Pg) : expK ps ps.length = txt (expL ps) := by
  unfold expK; rw [List.take_of_length_le (Nat.le_refl _)]
theorem append3 (a b c : ByteArray) : a ++ b ++ c = a ++ (b ++ c) := by
  apply ByteArray.ext
  simp [ByteArray.data_append]
end Go.Proofs.YtdngbojbpmdegaaGreatDoor

namespace Go.Proofs.YtdngbojbpmdegaaGreatDoor
open Go.RowKit

/-- the number that digits tell -/
def val (l : List UInt8) : Nat := l.foldl (fun a c => 10 * a + (c.toNat - 48)) 0
theorem itoa_dig {x : Int} (h : 0 ≤ x) : Lib.itoa x = Lib.decDigits x.toNat := by
  obtain ⟨n, rfl⟩ : ∃ n : Nat, x = (n : Int) := ⟨x.toNat, by omega⟩
  rw [Lib.itoa_nonneg]; rfl
end Go.Proofs.YtdngbojbpmdegaaGreatDoor

namespace Go.Proofs.YtdngbojbpmdegaaGreatDoor
open Go.RowKit

theorem place_at {frs : List Fr} {e a : Int} {k : Nat} (hk : k < frs.length) (h : plB e a (frs.getD k default) = true) (hu : ∀ j, j < frs.length → j ≠ k → plB e a (frs.getD j default) = false) : placeOf frs e a = (k : Int) := by
  rcases place_cases frs e a with hp | ⟨j, hp, hj, hb⟩
  · exfalso
    have := place_none (show placeOf frs e a < 0 by omega) (frs.getD k default) (by simp [List.getD_eq_getElem?_getD, hk])
    rw [h] at this; cases this
  · by_cases e1 : j = k
    · rw [hp, e1]
    · rw [hu j hj e1] at hb; cases hb
theorem place_not {frs : List Fr} {e a : Int} (hu : ∀ j, j < frs.length → plB e a (frs.getD j default) = false) : placeOf frs e a = -1 := by
  rcases place_cases frs e a with hp | ⟨j, hp, hj, hb⟩
  · exact hp
  · rw [hu j hj] at hb; cases hb
theorem askF_of {M : Mv} {m : Nat} {s : Int} (hz : machF M = 0) (hm : m < 4) (h0 : (M.ens.getD m default).st ≠ 0) (hs : 0 ≤ s → (M.ens.getD m default).st = s) : askF M ((m : Int) + 1) s = 0 := by
  unfold askF
  rw [if_pos hz, if_pos (inB_iff.2 ⟨by omega, by omega⟩), show ((m : Int) + 1 - 1).toNat = m by omega, if_neg h0, if_neg (fun hh => hh.2 (hs hh.1))]
theorem wordF_of {M : Mv} {k p : Nat} (hz : machF M = 0) (hk : k < 24) (hp : p < 8) : wordF M k p = 0 := by
  unfold wordF
  rw [if_pos hz, if_pos]
  rw [Bool.and_eq_true]
  exact ⟨inB_iff.2 ⟨by omega, by omega⟩, inB_iff.2 ⟨by omega, by omega⟩⟩
theorem pokeF_of {M : Mv} {k p : Nat} {v : Int} (hz : machF M = 0) (hk : k < 24) (hp : p < 8) (hv : inB v 0 65535 = true) : pokeF M k p v = 0 := by
  unfold pokeF
  rw [if_pos (wordF_of hz hk hp), if_pos hv]
theorem putF_of {M : Mv} {m k : Nat} {a r : Int} (hz : machF M = 0) (hm : m < 4) (hs : (M.ens.getD m default).st = 1) (hk : k < 24) (ha : inB a 0 7 = true) (hr : inB r 0 7 = true) (ho : (M.frs.getD k default).o = 0) (hp : placeOf M.frs ((m : Int) + 1) a < 0) (hl : (M.ens.getD m default).log.size ≤ 900) :
    putF M ((m : Int) + 1) k a r = 0 ∧ machF (putM M ((m : Int) + 1) k a r) = 0 ∧ putM M ((m : Int) + 1) k a r = { M with frs := M.frs.set k (putFr M k ((m : Int) + 1) a r), ens := M.ens.set m ((M.ens.getD m default).withLog (putS a r)) } := by
  have hai := inB_iff.1 ha
  have hri := inB_iff.1 hr
  have hlog : logF M m (putS a r) = 0 := by
    unfold logF
    have := putS_size a r (wf_of (by omega)) (wf_of (by omega))
    rw [if_neg (by omega)]
  have h1 : putF M ((m : Int) + 1) k a r = 0 := by
    unfold putF
    rw [if_pos (askF_of hz hm (by omega) (fun _ => hs)), if_pos (inB_iff.2 ⟨by omega, by omega⟩), if_pos (by rw [ha, hr]; rfl), show ((k : Int)).toNat = k from Int.toNat_natCast k, if_pos ho, if_pos hp, show ((m : Int) + 1 - 1).toNat = m by omega, hlog]
  refine ⟨h1, put_good h1, ?_⟩
  unfold putM
  rw [if_pos h1, show ((m : Int) + 1 - 1).toNat = m by omega, show ((k : Int)).toNat = k from Int.toNat_natCast k]
end Go.Proofs.YtdngbojbpmdegaaGreatDoor

namespace Go.Proofs.YtdngbojbpmdegaaGreatDoor
open Go.RowKit

/-- an entry of a log -/
inductive Lg where
  | pg (a r : Int)
  | wd (a : Int) (ws : List Int)
def Lg.bytes : Lg → List UInt8
  | .pg a r => entryL sPage [a, r]
  | .wd a ws => entryL sWords (a :: ws)
def Lg.Pos : Lg → Prop
  | .pg a r => 0 ≤ a ∧ 0 ≤ r
  | .wd a ws => 0 ≤ a ∧ ∀ n ∈ ws, 0 ≤ n
def Lg.isPg : Lg → Bool
  | .pg _ _ => true
  | .wd _ _ => false
/-- whose a frame is -/
def ownB (e : Int) (f : Fr) : Bool := f.o == e
theorem countP_upto {p q : Fr → Bool} {xs ys : List Fr} (hl : xs.length = ys.length) (h : ∀ j, j < xs.length → p (xs.getD j default) = q (ys.getD j default)) : xs.countP p = ys.countP q := by
  have e : xs.map p = ys.map q := by
    apply List.ext_getElem (by simpa using hl)
    intro j h1 h2
    have h3 : j < xs.length := by simpa using h1
    have h4 : j < ys.length := by simpa using h2
    have := h j h3
    simpa [List.getD_eq_getElem?_getD, h3, h4] using this
  have e1 : ∀ (zs : List Fr) (r : Fr → Bool), zs.countP r = (zs.map r).countP id := fun zs r => by rw [List.countP_map]; rfl
  rw [e1 xs p, e1 ys q, e]

/-- what the log of an enclave tells, and that it is so -/
structure Logs (M : Mv) (m : Nat) (L : List Lg) : Prop where
  log : (M.ens.getD m default).log = txt (sOpen ++ L.flatMap Lg.bytes)
  pos : ∀ x ∈ L, x.Pos
  pg : ∀ a r, Lg.pg a r ∈ L → ∃ j, j < 24 ∧ (M.frs.getD j default).o = (m : Int) + 1 ∧ (M.frs.getD j default).at_ = a ∧ (M.frs.getD j default).r = r
  wd : ∀ a ws, Lg.wd a ws ∈ L → ∃ j, j < 24 ∧ (M.frs.getD j default).o = (m : Int) + 1 ∧ (M.frs.getD j default).at_ = a ∧ (M.frs.getD j default).ws = ws
  cnt : M.frs.countP (ownB ((m : Int) + 1)) = L.countP Lg.isPg
/-- no frame of it is another one -/
def KeptM (M M' : Mv) (m : Nat) : Prop := ∀ j, j < 24 → (M.frs.getD j default).o = (m : Int) + 1 ∨ (M'.frs.getD j default).o = (m : Int) + 1 → M'.frs.getD j default = M.frs.getD j default
theorem kept_count {M M' : Mv} {m : Nat} (h1 : M.frs.length = 24) (h2 : M'.frs.length = 24) (hk : KeptM M M' m) : M'.frs.countP (ownB ((m : Int) + 1)) = M.frs.countP (ownB ((m : Int) + 1)) := by
  refine countP_upto (by rw [h1, h2]) fun j hj => ?_
  have hk' := hk j (by omega)
  unfold ownB
  by_cases c : (M.frs.getD j default).o = (m : Int) + 1
  · rw [hk' (.inl c)]
  · by_cases c' : (M'.frs.getD j default).o = (m : Int) + 1
    · rw [hk' (.inr c')]
    · rw [beq_eq_false_iff_ne.2 c, beq_eq_false_iff_ne.2 c']
theorem Logs.keep {M M' : Mv} {m : Nat} {L : List Lg} (h : Logs M m L) (h1 : M.frs.length = 24) (h2 : M'.frs.length = 24) (hl : (M'.ens.getD m default).log = (M.ens.getD m default).log) (hk : KeptM M M' m) : Logs M' m L := by
  refine ⟨hl.trans h.log, h.pos, fun a r hx => ?_, fun a ws hx => ?_, (kept_count h1 h2 hk).trans h.cnt⟩
  · obtain ⟨j, hj, e1, e2, e3⟩ := h.pg a r hx
    have e := hk j hj (.inl e1)
    exact ⟨j, hj, by rw [e]; exact e1, by rw [e]; exact e2, by rw [e]; exact e3⟩
  · obtain ⟨j, hj, e1, e2, e3⟩ := h.wd a ws hx
    have e := hk j hj (.inl e1)
    exact ⟨j, hj, by rw [e]; exact e1, by rw [e]; exact e2, by rw [e]; exact e3⟩

/-- what holds of every enclave that never ran -/
def Told (M : Mv) : Prop := ∀ m, m < 4 → (M.ens.getD m default).st = 0 ∨ (((M.ens.getD m default).st = 1 ∨ (M.ens.getD m default).st = 2) ∧ ∃ L, Logs M m L)
theorem told_new : Told newM := fun m hm => by
  left
  show ((List.replicate 4 (default : En)).getD m default).st = 0
  rw [rep_getD _ _ _ hm]; rfl
/-- an enclave that is not concerned -/
theorem told_keep {M M' : Mv} {m : Nat} (h1 : M.frs.length = 24) (h2 : M'.frs.length = 24) (hl : M'.ens.getD m default = M.ens.getD m default) (hk : KeptM M M' m)
    (h : (M.ens.getD m default).st = 0 ∨ (((M.ens.getD m default).st = 1 ∨ (M.ens.getD m default).st = 2) ∧ ∃ L, Logs M m L)) : (M'.ens.getD m default).st = 0 ∨ (((M'.ens.getD m default).st = 1 ∨ (M'.ens.getD m default).st = 2) ∧ ∃ L, Logs M' m L) := by
  rw [hl]
  rcases h with h | ⟨h, L, hL⟩
  · exact .inl h
  · exact .inr ⟨h, L, hL.keep h1 h2 (by rw [hl]) hk⟩
theorem kept_refl (M M' : Mv) (m : Nat) (h : M'.frs = M.frs) : KeptM M M' m := fun j _ _ => by rw [h]
theorem told_create {M : Mv} (hg : Good M) (h : Told M) (hF : creF M = 0) : Told (creM M) := by
  intro m hm
  unfold creM
  rw [if_pos hF]
  have hz : machF M = 0 := good_iff.2 hg
  unfold creF at hF
  rw [if_pos hz] at hF
  rcases idxOf_cases emptyB M.ens with ⟨e, _⟩ | ⟨k, e, hk, hb, _⟩
  · rw [if_pos (by unfold creI; omega)] at hF; omega
  · have ek : (creI M).toNat = k := by unfold creI; rw [e]; omega
    rw [ek]
    have s2 := hg.s2
    by_cases c : m = k
    · right
      subst c
      have st0 : (M.ens.getD m default).st = 0 := by simpa [emptyB] using hb
      have eE : ((M.ens.set m openE).getD m default) = openE := by rw [getD_set_any, if_pos ⟨rfl, hk⟩]
      refine ⟨.inl (by show ((M.ens.set m openE).getD m default).st = 1; rw [eE]; rfl), [], ?_, (fun x hx => by cases hx), (fun a r hx => by cases hx), (fun a r hx => by cases hx), ?_⟩
      · show ((M.ens.set m openE).getD m default).log = _
        rw [eE]; rfl
      · show M.frs.countP _ = 0
        rw [List.countP_eq_zero]
        intro f hf hb
        obtain ⟨j, hj, ej⟩ := List.mem_iff_getElem.1 hf
        have hj24 : j < 24 := by have := hg.s1; omega
        have hfr := goodFr_iff.1 (hg.fr j hj24)
        have ef : M.frs.getD j default = f := by simp [List.getD_eq_getElem?_getD, hj, ej]
        rw [ef] at hfr
        have ho : f.o = (m : Int) + 1 := by simpa [ownB] using hb
        have := hfr.2.2.2.2.2 (by omega)
        rw [ho, show ((m : Int) + 1 - 1).toNat = m by omega] at this
        exact this st0
    · exact told_keep hg.s1 hg.s1 (by show (M.ens.set k openE).getD m default = _; rw [getD_set_any, if_neg (fun q => c q.1)]) (kept_refl _ _ _ rfl) (h m hm)
theorem told_put {M : Mv} {e f a r : Int} (hg : Good M) (h : Told M) (hF : putF M e f a r = 0) : Told (putM M e f a r) := by
  intro m hm
  unfold putM
  rw [if_pos hF]
  unfold putF at hF
  split at hF
  · rename_i hz
    obtain ⟨hz0, m0, rfl, hm4, hst, hs1⟩ := askF_zero hz
    have st1 := hs1 (by omega)
    rw [show ((m0 : Int) + 1 - 1).toNat = m0 by omega] at hF ⊢
    split at hF
    · rename_i hf
      have hfi := inB_iff.1 hf
      split at hF
      · rename_i ha
        rw [Bool.and_eq_true] at ha
        have a1 := inB_iff.1 ha.1
        have a2 := inB_iff.1 ha.2
        split at hF
        · rename_i ho
          have l1 := hg.s1
          have l2 := hg.s2
          obtain ⟨k, hk, hk24⟩ : ∃ k : Nat, f.toNat = k ∧ k < 24 := ⟨_, rfl, by omega⟩
          rw [hk] at ho ⊢
          have hset : ∀ j, j ≠ k → (M.frs.set k (putFr M k ((m0 : Int) + 1) a r)).getD j default = M.frs.getD j default := fun j hj => by rw [getD_set_any, if_neg (fun q => hj q.1)]
          have hsk : (M.frs.set k (putFr M k ((m0 : Int) + 1) a r)).getD k default = putFr M k ((m0 : Int) + 1) a r := by rw [getD_set_any, if_pos ⟨rfl, by omega⟩]
          by_cases c : m = m0
          · subst c
            rcases h m hm with q | ⟨_, L, hL⟩
            · exact absurd q hst
            · right
              have eE : (M.ens.set m ((M.ens.getD m default).withLog (putS a r))).getD m default = (M.ens.getD m default).withLog (putS a r) := by rw [getD_set_any, if_pos ⟨rfl, by omega⟩]
              refine ⟨.inl (by show ((M.ens.set m ((M.ens.getD m default).withLog (putS a r))).getD m default).st = 1; rw [eE]; exact st1), L ++ [.pg a r], ?_, ?_, ?_, ?_, ?_⟩
              · show ((M.ens.set m ((M.ens.getD m default).withLog (putS a r))).getD m default).log = _
                rw [eE]
                show (M.ens.getD m default).log ++ putS a r = _
                rw [hL.log]
                unfold putS
                rw [txt_append]
                simp [Lg.bytes]
              · intro x hx
                rcases List.mem_append.1 hx with hx | hx
                · exact hL.pos x hx
                · simp only [List.mem_cons, List.not_mem_nil, or_false] at hx
                  subst hx
                  exact ⟨a1.1, a2.1⟩
              · intro a' r' hx
                rcases List.mem_append.1 hx with hx | hx
                · obtain ⟨j, hj, e1, e2, e3⟩ := hL.pg a' r' hx
                  have hjk : j ≠ k := by intro q; rw [q, ho] at e1; omega
                  refine ⟨j, hj, ?_⟩
                  show ((M.frs.set k (putFr M k ((m : Int) + 1) a r)).getD j default).o = _ ∧ _
                  rw [hset j hjk]
                  exact ⟨e1, e2, e3⟩
                · simp only [List.mem_cons, List.not_mem_nil, or_false, Lg.pg.injEq] at hx
                  obtain ⟨rfl, rfl⟩ := hx
                  refine ⟨k, hk24, ?_⟩
                  show ((M.frs.set k (putFr M k ((m : Int) + 1) a' r')).getD k default).o = _ ∧ _
                  rw [hsk]
                  exact ⟨rfl, rfl, rfl⟩
              · intro a' ws hx
                rcases List.mem_append.1 hx with hx | hx
                · obtain ⟨j, hj, e1, e2, e3⟩ := hL.wd a' ws hx
                  have hjk : j ≠ k := by intro q; rw [q, ho] at e1; omega
                  refine ⟨j, hj, ?_⟩
                  show ((M.frs.set k (putFr M k ((m : Int) + 1) a r)).getD j default).o = _ ∧ _
                  rw [hset j hjk]
                  exact ⟨e1, e2, e3⟩
                · simp only [List.mem_cons, List.not_mem_nil, or_false] at hx
                  cases hx
              · show (M.frs.set k _).countP _ = _
                have hkl : k < M.frs.length := by omega
                rw [List.countP_set hkl, List.countP_append, ← hL.cnt]
                have e1 : M.frs[k] = M.frs.getD k default := by simp [List.getD_eq_getElem?_getD, hkl]
                have e2 : ownB ((m : Int) + 1) M.frs[k] = false := by rw [e1]; unfold ownB; rw [ho]; exact beq_eq_false_iff_ne.2 (by omega)
                have e3 : ownB ((m : Int) + 1) (putFr M k ((m : Int) + 1) a r) = true := beq_self_eq_true _
                rw [e2, e3]
                simp [Lg.isPg]
          · refine told_keep l1 (by simpa using l1) (by show (M.ens.set m0 _).getD m default = _; rw [getD_set_any, if_neg (fun q => c q.1)]) (fun j hj q => ?_) (h m hm)
            by_cases cj : j = k
            · subst cj
              exfalso
              rcases q with q | q
              · omega
              · have q' : ((M.frs.set j (putFr M j ((m0 : Int) + 1) a r)).getD j default).o = (m : Int) + 1 := q
                rw [hsk] at q'
                have : (m0 : Int) + 1 = (m : Int) + 1 := q'
                omega
            · exact hset j cj
        · omega
      · omega
    · omega
  · rename_i hz; exact absurd hF hz
theorem told_measure {M : Mv} {e a : Int} (hg : Good M) (h : Told M) (hF : meaF M e a = 0) : Told (meaM M e a) := by
  intro m hm
  unfold meaM
  rw [if_pos hF]
  unfold meaF at hF
  split at hF
  · rename_i hz
    obtain ⟨hz0, m0, rfl, hm4, hst, hs1⟩ := askF_zero hz
    have st1 := hs1 (by omega)
    rw [show ((m0 : Int) + 1 - 1).toNat = m0 by omega] at hF ⊢
    split at hF
    · omega
    · rename_i hp
      have l1 := hg.s1
      have l2 := hg.s2
      by_cases c : m = m0
      · subst c
        rcases h m hm with q | ⟨_, L, hL⟩
        · exact absurd q hst
        · right
          rcases place_cases M.frs ((m : Int) + 1) a with q | ⟨k, hk, hkl, hb⟩
          · exact absurd (by omega) hp
          · have eE : (M.ens.set m ((M.ens.getD m default).withLog (meaS M ((m : Int) + 1) a))).getD m default = (M.ens.getD m default).withLog (meaS M ((m : Int) + 1) a) := by rw [getD_set_any, if_pos ⟨rfl, by omega⟩]
            have eS : meaS M ((m : Int) + 1) a = txt (Lg.wd a (M.frs.getD k default).ws).bytes := by unfold meaS heldS; rw [hk, Int.toNat_natCast]; rfl
            simp only [plB, Bool.and_eq_true, beq_iff_eq] at hb
            have hfr := goodFr_iff.1 (hg.fr k (by omega))
            refine ⟨.inl (by show ((M.ens.set m ((M.ens.getD m default).withLog (meaS M ((m : Int) + 1) a))).getD m default).st = 1; rw [eE]; exact st1), L ++ [.wd a (M.frs.getD k default).ws], ?_, ?_, ?_, ?_, ?_⟩
            · show ((M.ens.set m ((M.ens.getD m default).withLog (meaS M ((m : Int) + 1) a))).getD m default).log = _
              rw [eE]
              show (M.ens.getD m default).log ++ meaS M ((m : Int) + 1) a = _
              rw [hL.log, eS, txt_append]
              simp
            · intro x hx
              rcases List.mem_append.1 hx with hx | hx
              · exact hL.pos x hx
              · simp only [List.mem_cons, List.not_mem_nil, or_false] at hx
                subst hx
                have h3 := inB_iff.1 hfr.2.2.1
                rw [hb.2] at h3
                exact ⟨h3.1, fun n hn => ((mayW_iff.1 hfr.1).2 n hn).1⟩
            · intro a' r' hx
              rcases List.mem_append.1 hx with hx | hx
              · exact hL.pg a' r' hx
              · simp only [List.mem_cons, List.not_mem_nil, or_false] at hx
                cases hx
            · intro a' ws hx
              rcases List.mem_append.1 hx with hx | hx
              · exact hL.wd a' ws hx
              · simp only [List.mem_cons, List.not_mem_nil, or_false, Lg.wd.injEq] at hx
                obtain ⟨rfl, rfl⟩ := hx
                exact ⟨k, by omega, hb.1.2, hb.2, rfl⟩
            · show M.frs.countP _ = _
              rw [List.countP_append, hL.cnt]
              simp [Lg.isPg]
      · exact told_keep l1 l1 (by show (M.ens.set m0 _).getD m default = _; rw [getD_set_any, if_neg (fun q => c q.1)]) (kept_refl _ _ _ rfl) (h m hm)
  · rename_i hz; exact absurd hF hz
theorem told_start {M : Mv} {e : Int} (hg : Good M) (h : Told M) (hF : askF M e 1 = 0) : Told (startM M e) := by
  intro m hm
  unfold startM
  rw [if_pos hF]
  obtain ⟨hz0, m0, rfl, hm4, hst, hs1⟩ := askF_zero hF
  rw [show ((m0 : Int) + 1 - 1).toNat = m0 by omega]
  have l2 := hg.s2
  by_cases c : m = m0
  · subst c
    rcases h m hm with q | ⟨_, L, hL⟩
    · exact absurd q hst
    · right
      have eE : (M.ens.set m { M.ens.getD m default with st := 2 }).getD m default = { M.ens.getD m default with st := 2 } := by rw [getD_set_any, if_pos ⟨rfl, by omega⟩]
      exact ⟨.inr (by show ((M.ens.set m { M.ens.getD m default with st := 2 }).getD m default).st = 2; rw [eE]), L, hL.keep hg.s1 hg.s1 (by show ((M.ens.set m { M.ens.getD m default with st := 2 }).getD m default).log = _; rw [eE]) (kept_refl _ _ _ rfl)⟩
  · exact told_keep hg.s1 hg.s1 (by show (M.ens.set m0 _).getD m default = _; rw [getD_set_any, if_neg (fun q => c q.1)]) (kept_refl _ _ _ rfl) (h m hm)
theorem told_remove {M : Mv} {e : Int} (hg : Good M) (h : Told M) (hF : askF M e (-1) = 0) : Told (remM M e) := by
  intro m hm
  unfold remM
  rw [if_pos hF]
  obtain ⟨hz0, m0, rfl, hm4, hst, hs1⟩ := askF_zero hF
  rw [show ((m0 : Int) + 1 - 1).toNat = m0 by omega]
  have l1 := hg.s1
  have l2 := hg.s2
  by_cases c : m = m0
  · left
    subst c
    show ((M.ens.set m default).getD m default).st = 0
    rw [getD_set_any, if_pos ⟨rfl, by omega⟩]; rfl
  · refine told_keep l1 (by simpa using l1) (by show (M.ens.set m0 _).getD m default = _; rw [getD_set_any, if_neg (fun q => c q.1)]) (fun j hj q => ?_) (h m hm)
    show (M.frs.map (remFr ((m0 : Int) + 1))).getD j default = _
    have q' : (M.frs.getD j default).o = (m : Int) + 1 ∨ ((M.frs.map (remFr ((m0 : Int) + 1))).getD j default).o = (m : Int) + 1 := q
    rw [frmap_getD _ (by omega)] at q' ⊢
    unfold remFr at q' ⊢
    split
    · rename_i ho
      exfalso
      rw [if_pos ho] at q'
      rcases q' with q' | q'
      · omega
      · have : (0 : Int) = (m : Int) + 1 := q'
        omega
    · rfl
theorem told_poke {M : Mv} {f a n : Int} (hg : Good M) (h : Told M) (hF : pokeF M f a n = 0) : Told (pokeM M f a n) := by
  intro m hm
  unfold pokeM
  rw [if_pos hF]
  split
  · rename_i ho
    have l1 := hg.s1
    refine told_keep l1 (by simpa using l1) rfl (fun j hj q => ?_) (h m hm)
    show (M.frs.set f.toNat _).getD j default = _
    have q' : (M.frs.getD j default).o = (m : Int) + 1 ∨ ((M.frs.set f.toNat { M.frs.getD f.toNat default with ws := (M.frs.getD f.toNat default).ws.set a.toNat n }).getD j default).o = (m : Int) + 1 := q
    rw [getD_set_any] at q' ⊢
    split
    · rename_i cj
      exfalso
      rw [if_pos cj, cj.1] at q'
      rcases q' with q' | q'
      · omega
      · have : (M.frs.getD f.toNat default).o = (m : Int) + 1 := q'
        omega
    · rfl
  · exact h m hm
/-- an act of who owns the machine -/
def Ac.outer (x : Ac) : Prop := x.k ≠ 8 ∧ x.k ≠ 9
theorem ite_told {c : Prop} [Decidable c] {A B : Mv} (h1 : c → Told A) (h2 : ¬ c → Told B) : Told (if c then A else B) := by
  split
  · rename_i h; exact h1 h
  · rename_i h; exact h2 h
theorem told_act {M : Mv} (hz : machF M = 0) (h : Told M) (C : Cv) (x : Ac) (hx : x.outer) : Told (actM M C x) := by
  have hg := good_iff.1 hz
  unfold actM
  exact ite_told (fun _ => ite_told (fun q => told_create hg h q) (fun _ => h)) (fun _ => ite_told (fun _ => ite_told (fun q => told_put hg h q) (fun _ => h)) (fun _ => ite_told (fun _ => ite_told (fun q => told_measure hg h q) (fun _ => h)) (fun _ => ite_told (fun _ => ite_told (fun q => told_start hg h q) (fun _ => h)) (fun _ =>
    ite_told (fun _ => ite_told (fun q => told_remove hg h q) (fun _ => h)) (fun _ => ite_told (fun _ => ite_told (fun q => told_poke hg h q) (fun _ => h)) (fun _ => ite_told (fun q => absurd q hx.1) (fun _ => ite_told (fun q => absurd q hx.2) (fun _ => h))))))))
theorem told_hst : ∀ (l : List Ac) (s : Hs), machF s.M = 0 → Told s.M → (∀ x ∈ l, x.outer) → Told (hst s l).M
  | [], _, _, h, _ => h
  | x :: l, s, hz, h, ho => told_hst l (hstep s x) (act_good s.C x hz) (told_act hz h s.C x (ho x (by simp))) fun y hy => ho y (by simp [hy])

theorem good_place {M : Mv} (hg : Good M) {m j : Nat} (hj : j < 24) {a : Int} (ho : (M.frs.getD j default).o = (m : Int) + 1) (ha : (M.frs.getD j default).at_ = a) : placeOf M.frs ((m : Int) + 1) a = (j : Int) := by
  have l1 := hg.s1
  refine place_at (by omega) (by simp only [plB, ho, ha, beq_self_eq_true, Bool.and_true, decide_eq_true_eq]; omega) fun i hi hij => ?_
  cases hb : plB ((m : Int) + 1) a (M.frs.getD i default) with
  | false => rfl
  | true =>
    simp only [plB, Bool.and_eq_true, beq_iff_eq] at hb
    exfalso
    rcases Nat.lt_or_gt_of_ne hij with q | q
    · exact hg.tw i j q hj (by omega) ⟨by rw [hb.1.2, ho], by rw [hb.2, ha]⟩
    · exact hg.tw j i q (by omega) (by omega) ⟨by rw [hb.1.2, ho], by rw [hb.2, ha]⟩
end Go.Proofs.YtdngbojbpmdegaaGreatDoor
