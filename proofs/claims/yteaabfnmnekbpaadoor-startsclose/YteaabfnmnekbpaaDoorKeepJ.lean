/-
  What becomes of a new machine (own work): the steps of PagesApart and of StartsClose, reckoned. No condition but the numbers' bounds. What the call Put (epc) answers for every machine, enclave, frame, place and rights: what the document asks, in memory of its own; it turns nothing that was in memory. The conditions: the lists are within the reach of the form; the library's tables are laid. What the call Measure (epc) answers for every machine, enclave and place: what the document asks, in memory of its own; it turns nothing that was in memory. The conditions: the lists are within the reach of the form; the library's tables are laid. What the call picked (riddlekeep) answers: a number below many, of each number. The condition: many is from 1 to 1000000. A variable that holds a machine (own work): what it holds behind a call of epc, and the calls' contracts at it. The conditions: the machine may be; the library's tables are laid.
-/
import Derived.Test.YteaabfnmnekbpaaDoorGood
import Derived.Test.YteaabfnmnekbpaaDoorPutMath
import Derived.Test.YteaabfnmnekbpaaDoorMeasMath
import Derived.Test.YteaabfnmnekbpaaDoorSmall
namespace Go.Proofs.YteaabfnmnekbpaaDoor
open Go.RowKit

theorem place_at {frs : List Fr} {e a : Int} {k : Nat} (hk : k < frs.length) (h : plB e a (frs.getD k default) = true) (hu : ∀ j, j < frs.length → j ≠ k → plB e a (frs.getD j default) = false) : placeOf frs e a = (k : Int) := by
  rcases place_cases frs e a with hp | ⟨j, hp, hj, hb⟩
  · exfalso
    have := place_none (show placeOf frs e a < 0 by omega) (frs.getD k default) (by simp [List.getD_eq_getElem?_getD, hk])
    rw [h] at this; cases this
  · by_cases e1 : j = k
    · rw [hp, e1]
    · rw [hu j hj e1] at hb; cases hb
theorem place_not {frs : List Fr} {e a : Int} (hu : ∀ j, j < frs.length → plB e a (frs.getD j default) = false) : placeOf frs e a = -1 := by
  rcases place_cases frs e a with hp | ⟨j, hp, hj, hb⟩
  · exact hp
  · rw [hu j hj] at hb; cases hb
theorem plB_own {e a : Int} {f : Fr} (h : f.o ≠ e) : plB e a f = false := by simp [plB, h]
theorem plB_at {e a : Int} {f : Fr} (h : f.at_ ≠ a) : plB e a f = false := by simp [plB, h]
theorem askF_of {M : Mv} {m : Nat} {s : Int} (hz : machF M = 0) (hm : m < 4) (h0 : (M.ens.getD m default).st ≠ 0) (hs : 0 ≤ s → (M.ens.getD m default).st = s) : askF M ((m : Int) + 1) s = 0 := by
  unfold askF
  rw [if_pos hz, if_pos (inB_iff.2 ⟨by omega, by omega⟩), show ((m : Int) + 1 - 1).toNat = m by omega, if_neg h0, if_neg (fun hh => hh.2 (hs hh.1))]
theorem wordF_of {M : Mv} {k p : Nat} (hz : machF M = 0) (hk : k < 24) (hp : p < 8) : wordF M k p = 0 := by
  unfold wordF
  rw [if_pos hz, if_pos]
  rw [Bool.and_eq_true]
  exact ⟨inB_iff.2 ⟨by omega, by omega⟩, inB_iff.2 ⟨by omega, by omega⟩⟩
theorem pokeF_of {M : Mv} {k p : Nat} {v : Int} (hz : machF M = 0) (hk : k < 24) (hp : p < 8) (hv : inB v 0 65535 = true) : pokeF M k p v = 0 := by
  unfold pokeF
  rw [if_pos (wordF_of hz hk hp), if_pos hv]
/-- an enclave that is opened, and no frame is anybody's -/
theorem made_open {M : Mv} (hz : machF M = 0) (he : M.ens = List.replicate 4 default) : creF M = 0 ∧ creN M = 1 ∧ machF (creM M) = 0 ∧ creM M = { M with ens := (List.replicate 4 default).set 0 openE } := by
  have hi : creI M = 0 := by unfold creI; rw [he]; rfl
  have h1 : creF M = 0 := by unfold creF; rw [if_pos hz, hi]; rfl
  refine ⟨h1, by unfold creN; rw [if_pos h1, hi]; rfl, create_good h1, ?_⟩
  unfold creM; rw [if_pos h1, hi, he]; rfl
theorem putF_of {M : Mv} {m k : Nat} {a r : Int} (hz : machF M = 0) (hm : m < 4) (hs : (M.ens.getD m default).st = 1) (hk : k < 24) (ha : inB a 0 7 = true) (hr : inB r 0 7 = true) (ho : (M.frs.getD k default).o = 0) (hp : placeOf M.frs ((m : Int) + 1) a < 0) (hl : (M.ens.getD m default).log.size ≤ 900) :
    putF M ((m : Int) + 1) k a r = 0 ∧ machF (putM M ((m : Int) + 1) k a r) = 0 ∧ putM M ((m : Int) + 1) k a r = { M with frs := M.frs.set k (putFr M k ((m : Int) + 1) a r), ens := M.ens.set m ((M.ens.getD m default).withLog (putS a r)) } := by
  have hai := inB_iff.1 ha
  have hri := inB_iff.1 hr
  have hlog : logF M m (putS a r) = 0 := by
    unfold logF
    have := putS_size a r (wf_of (by omega)) (wf_of (by omega))
    rw [if_neg (by omega)]
  have h1 : putF M ((m : Int) + 1) k a r = 0 := by
    unfold putF
    rw [if_pos (askF_of hz hm (by omega) (fun _ => hs)), if_pos (inB_iff.2 ⟨by omega, by omega⟩), if_pos (by rw [ha, hr]; rfl), show ((k : Int)).toNat = k from Int.toNat_natCast k, if_pos ho, if_pos hp, show ((m : Int) + 1 - 1).toNat = m by omega, hlog]
  refine ⟨h1, put_good h1, ?_⟩
  unfold putM
  rw [if_pos h1, show ((m : Int) + 1 - 1).toNat = m by omega, show ((k : Int)).toNat = k from Int.toNat_natCast k]
theorem new_owner {k : Nat} {f : Fr} (hf : f.o = 0) {j : Nat} (hj : j < 24) : (((List.replicate 24 zeroFr).set k f).getD j default).o = 0 := by
  rw [getD_set_any]; split
  · exact hf
  · rw [rep_getD _ _ _ hj]; rfl

/-- the steps of PagesApart -/
structure Apart2 (k p : Nat) (a v a2 : Int) (C1 C2 C3 C4 C5 : Mv) : Prop where
  e1 : C1 = pokeM newM k p 7
  e2 : C2 = creM C1
  e3 : C3 = putM C2 1 k a 1
  e4 : C4 = pokeM C3 k p v
  e5 : C5 = remM C4 1
  f1 : pokeF newM k p 7 = 0
  f2 : creF C1 = 0
  n2 : creN C1 = 1
  f3 : putF C2 1 k a 1 = 0
  w3 : wordF C3 k p = 0
  p3 : peekN C3 k p = 65535
  f4 : pokeF C3 k p v = 0
  t3 : putF C3 1 k a2 0 = 6
  f5 : askF C4 1 (-1) = 0
  w5 : wordF C5 k p = 0
  p5 : peekN C5 k p = 0
  g5 : machF C5 = 0
  x4 : (C4.frs.getD k default).ws.getD p 0 = 7
  l4 : C4.frs.length = 24 ∧ (C4.frs.getD k default).ws.length = 8
  a3 : placeOf C3.frs 1 a = (k : Int)
theorem apart2 {k p : Nat} (hk : k < 24) (hp : p < 8) {a v a2 : Int} (ha : inB a 0 7 = true) (hv : inB v 0 65535 = true) (ha2 : inB a2 0 7 = true) : ∃ C1 C2 C3 C4 C5, Apart2 k p a v a2 C1 C2 C3 C4 C5 := by
  have f1 : pokeF newM k p 7 = 0 := pokeF_of new_good hk hp (by decide)
  have g1 := poke_good f1
  have kk : ((k : Int)).toNat = k := Int.toNat_natCast k
  have pp : ((p : Int)).toNat = p := Int.toNat_natCast p
  have z0 : newM.frs.getD k default = zeroFr := rep_getD _ _ _ hk
  have c1 : pokeM newM k p 7 = { newM with frs := (List.replicate 24 zeroFr).set k { zeroFr with ws := (List.replicate 8 (0 : Int)).set p 7 } } := by
    unfold pokeM
    rw [if_pos f1, kk, z0, pp, if_pos (show zeroFr.o = 0 from rfl)]
    rfl
  obtain ⟨C1, h1⟩ : ∃ C1, C1 = pokeM newM k p 7 := ⟨_, rfl⟩
  rw [← h1] at g1 c1
  obtain ⟨f2, n2, g2, c2⟩ := made_open g1 (by rw [c1]; rfl)
  obtain ⟨C2, h2⟩ : ∃ C2, C2 = creM C1 := ⟨_, rfl⟩
  rw [← h2] at g2 c2
  have c2f : C2.frs = (List.replicate 24 zeroFr).set k { zeroFr with ws := (List.replicate 8 (0 : Int)).set p 7 } := by rw [c2, c1]
  have o2 : ∀ j, j < 24 → (C2.frs.getD j default).o = 0 := fun j hj => by rw [c2f]; exact new_owner rfl hj
  have e2 : C2.ens.getD 0 default = openE := by rw [c2]; rfl
  obtain ⟨f3, g3, c3⟩ := putF_of (m := 0) (k := k) (a := a) (r := 1) g2 (by omega) (by rw [e2]; rfl) hk ha (by decide) (o2 k hk) (by
    rw [place_not (fun j hj => plB_own (by rw [o2 j (by rw [c2f] at hj; simpa using hj)]; omega))]; omega) (by rw [e2]; decide)
  rw [show (((0 : Nat) : Int) + 1) = 1 by omega] at f3 g3 c3
  obtain ⟨C3, h3⟩ : ∃ C3, C3 = putM C2 1 k a 1 := ⟨_, rfl⟩
  rw [← h3] at g3 c3
  have hl2 : C2.frs.length = 24 := by rw [c2f]; simp
  have c3k : C3.frs.getD k default = putFr C2 k 1 a 1 := by
    rw [c3]; show (C2.frs.set k _).getD k default = _
    rw [getD_set _ _ _ _ (by omega), if_pos rfl]
  have c3o : ∀ j, j < 24 → j ≠ k → (C3.frs.getD j default).o = 0 := fun j hj hne => by
    rw [c3]; show ((C2.frs.set k _).getD j default).o = 0
    rw [getD_set _ _ _ _ (by omega), if_neg hne]; exact o2 j hj
  have l3 : C3.frs.length = 24 := by rw [c3]; show (C2.frs.set k _).length = 24; simpa using hl2
  have ws2 : (C2.frs.getD k default).ws = (List.replicate 8 (0 : Int)).set p 7 := by
    rw [c2f, getD_set _ _ _ _ (by simpa using hk), if_pos rfl]
  have w3 : wordF C3 k p = 0 := wordF_of g3 hk hp
  have ow3 : (C3.frs.getD k default).o = 1 := by rw [c3k]; rfl
  have f4 : pokeF C3 k p v = 0 := pokeF_of g3 hk hp hv
  have c4 : pokeM C3 k p v = C3 := by unfold pokeM; rw [if_pos f4, kk, if_neg (by omega)]
  have e3 : (C3.ens.getD 0 default).st = 1 := by
    rw [c3]; show ((C2.ens.set 0 _).getD 0 default).st = 1
    rw [getD_set_any, e2]; split
    · rfl
    · rfl
  have f5 : askF C3 1 (-1) = 0 := by
    have := askF_of (M := C3) (m := 0) (s := -1) g3 (by omega) (by omega) (fun h => absurd h (by omega))
    simpa using this
  have g5 := remove_good f5
  have r5 : (remM C3 1).frs.getD k default = zeroFr := by
    unfold remM; rw [if_pos f5]; show (C3.frs.map (remFr 1)).getD k default = _
    rw [frmap_getD _ (by omega)]; unfold remFr; rw [if_pos ow3]
  have w5 : wordF (remM C3 1) k p = 0 := wordF_of g5 hk hp
  refine ⟨C1, C2, C3, C3, remM C3 1, ⟨h1, h2, h3, c4.symm, rfl, f1, f2, n2, f3, w3, ?_, f4, ?_, f5, w5, ?_, g5, ?_, ⟨l3, ?_⟩, ?_⟩⟩
  · unfold peekN; rw [if_pos w3, kk, if_neg (by omega)]
  · unfold putF
    have ask : askF C3 1 1 = 0 := by
      have := askF_of (M := C3) (m := 0) (s := 1) g3 (by omega) (by omega) (fun _ => e3)
      simpa using this
    rw [if_pos ask, if_pos (inB_iff.2 ⟨by omega, by omega⟩), if_pos (by rw [ha2]; rfl), kk, if_neg (by omega)]
  · unfold peekN; rw [if_pos w5, kk, r5, if_pos (show zeroFr.o = 0 from rfl), pp]
    exact rep_getD 8 (0 : Int) 0 hp
  · rw [c3k]; show (C2.frs.getD k default).ws.getD p 0 = 7
    rw [ws2]
    simp [List.getD_eq_getElem?_getD, hp]
  · rw [c3k]; show (C2.frs.getD k default).ws.length = 8
    rw [ws2]; simp
  · refine place_at (by omega) ?_ (fun j hj hne => plB_own (by rw [c3o j (by omega) hne]; omega))
    rw [c3k]; simp [plB, putFr]

/-- the steps of StartsClose -/
structure Close (a b : Int) (C1 C2 C3 C4 : Mv) : Prop where
  e1 : C1 = creM newM
  e2 : C2 = putM C1 1 3 a 1
  e3 : C3 = meaM C2 1 a
  e4 : C4 = startM C3 1
  f1 : creF newM = 0
  n1 : creN newM = 1
  f2 : putF C1 1 3 a 1 = 0
  f3 : meaF C2 1 a = 0
  t3 : meaF C3 1 b = 5
  f4 : askF C3 1 1 = 0
  p4 : putF C4 1 4 b 1 = 8
  m4 : meaF C4 1 a = 8
  s4 : askF C4 1 1 = 8
  n4 : askF C4 2 1 = 5
theorem close {a b : Int} (ha : inB a 0 7 = true) (hab : b ≠ a) : ∃ C1 C2 C3 C4, Close a b C1 C2 C3 C4 := by
  have hai := inB_iff.1 ha
  obtain ⟨f1, n1, g1, c1⟩ := made_open new_good (by rfl)
  obtain ⟨C1, h1⟩ : ∃ C1, C1 = creM newM := ⟨_, rfl⟩
  rw [← h1] at g1 c1
  have o1 : ∀ j, j < 24 → (C1.frs.getD j default).o = 0 := fun j hj => by
    rw [c1]; show ((List.replicate 24 zeroFr).getD j default).o = 0
    rw [rep_getD _ _ _ hj]; rfl
  have l1 : C1.frs.length = 24 := by rw [c1]; simp [newM]
  have e1 : C1.ens.getD 0 default = openE := by rw [c1]; rfl
  obtain ⟨f2, g2, c2⟩ := putF_of (m := 0) (k := 3) (a := a) (r := 1) g1 (by omega) (by rw [e1]; rfl) (by omega) ha (by decide) (o1 3 (by omega)) (by
    rw [place_not (fun j hj => plB_own (by rw [o1 j (by omega)]; omega))]; omega) (by rw [e1]; decide)
  rw [show (((0 : Nat) : Int) + 1) = 1 by omega] at f2 g2 c2
  obtain ⟨C2, h2⟩ : ∃ C2, C2 = putM C1 1 (3 : Nat) a 1 := ⟨_, rfl⟩
  rw [← h2] at g2 c2
  have l2 : C2.frs.length = 24 := by rw [c2]; show (C1.frs.set 3 _).length = 24; simpa using l1
  have c23 : C2.frs.getD 3 default = putFr C1 3 1 a 1 := by
    rw [c2]; show (C1.frs.set 3 _).getD 3 default = _
    rw [getD_set _ _ _ _ (by omega), if_pos rfl]
  have c2o : ∀ j, j < 24 → j ≠ 3 → (C2.frs.getD j default).o = 0 := fun j hj hne => by
    rw [c2]; show ((C1.frs.set 3 _).getD j default).o = 0
    rw [getD_set _ _ _ _ (by omega), if_neg hne]; exact o1 j hj
  have hlE : C1.ens.length = 4 := by rw [c1]; rfl
  have e2 : C2.ens.getD 0 default = openE.withLog (putS a 1) := by
    rw [c2]; show (C1.ens.set 0 _).getD 0 default = _
    rw [getD_set _ _ _ _ (by omega), if_pos rfl, e1]
  have pl2 : placeOf C2.frs 1 a = ((3 : Nat) : Int) := by
    refine place_at (by omega) ?_ (fun j hj hne => plB_own (by rw [c2o j (by omega) hne]; omega))
    rw [c23]; simp [plB, putFr]
  have ask2 : askF C2 1 1 = 0 := by
    have := askF_of (M := C2) (m := 0) (s := 1) g2 (by omega) (by rw [e2]; show (1 : Int) ≠ 0; omega) (fun _ => by rw [e2]; rfl)
    simpa using this
  have hsz : (meaS C2 1 a).size ≤ 400 := by
    unfold meaS; rw [pl2, Int.toNat_natCast, c23]
    show (heldS a (C1.frs.getD 3 default).ws).size ≤ 400
    have w3 : (C1.frs.getD 3 default).ws = List.replicate 8 0 := by
      rw [c1]; show ((List.replicate 24 zeroFr).getD 3 default).ws = _
      rw [rep_getD _ _ _ (by omega)]; rfl
    rw [w3]
    unfold heldS entryL
    rw [txt_size, List.length_append, List.length_append]
    have := numsL_le (a :: List.replicate 8 0) fun n hn => by
      rcases List.mem_cons.1 hn with rfl | hn
      · exact wf_of (by omega)
      · rw [List.eq_of_mem_replicate hn]; decide
    simp only [sWords, List.length_cons, List.length_nil, List.length_replicate] at this ⊢
    omega
  have f3 : meaF C2 1 a = 0 := by
    unfold meaF
    rw [if_pos ask2, pl2, if_neg (by omega)]
    unfold logF
    rw [show ((1 : Int) - 1).toNat = 0 by rfl, e2, if_neg]
    have := putS_size a 1 (wf_of (by omega)) (by decide)
    show ¬ ((openE.log ++ putS a 1).size + _ > 1000)
    rw [ByteArray.size_append, show openE.log.size = 5 by rfl]
    omega
  have g3 := measure_good f3
  obtain ⟨C3, h3⟩ : ∃ C3, C3 = meaM C2 1 a := ⟨_, rfl⟩
  have c3 : C3 = { C2 with ens := C2.ens.set 0 ((C2.ens.getD 0 default).withLog (meaS C2 1 a)) } := by rw [h3]; unfold meaM; rw [if_pos f3]; rfl
  rw [← h3] at g3
  have hlE2 : C2.ens.length = 4 := (good_iff.1 g2).s2
  have e3 : (C3.ens.getD 0 default).st = 1 := by
    rw [c3]; show ((C2.ens.set 0 _).getD 0 default).st = 1
    rw [getD_set _ _ _ _ (by omega), if_pos rfl, e2]; rfl
  have ask3 : askF C3 1 1 = 0 := by
    have := askF_of (M := C3) (m := 0) (s := 1) g3 (by omega) (by omega) (fun _ => e3)
    simpa using this
  have g4 := start_good ask3
  have hlE3 : C3.ens.length = 4 := (good_iff.1 g3).s2
  have c4 : startM C3 1 = { C3 with ens := C3.ens.set 0 { C3.ens.getD 0 default with st := 2 } } := by unfold startM; rw [if_pos ask3]; rfl
  have e4 : ((startM C3 1).ens.getD 0 default).st = 2 := by
    rw [c4]; show ((C3.ens.set 0 _).getD 0 default).st = 2
    rw [getD_set _ _ _ _ (by omega), if_pos rfl]
  have e41 : ((startM C3 1).ens.getD 1 default).st = 0 := by
    rw [c4]; show ((C3.ens.set 0 _).getD 1 default).st = 0
    rw [getD_set _ _ _ _ (by omega), if_neg (by omega), c3]
    show ((C2.ens.set 0 _).getD 1 default).st = 0
    rw [getD_set _ _ _ _ (by omega), if_neg (by omega), c2]
    show ((C1.ens.set 0 _).getD 1 default).st = 0
    rw [getD_set _ _ _ _ (by omega), if_neg (by omega), c1]; rfl
  have s4 : askF (startM C3 1) 1 1 = 8 := by
    unfold askF
    rw [if_pos g4, if_pos (by decide), show ((1 : Int) - 1).toNat = 0 by rfl, if_neg (by omega), if_pos ⟨by omega, by omega⟩]
  refine ⟨C1, C2, C3, startM C3 1, ⟨h1, h2, h3, rfl, f1, n1, f2, f3, ?_, ask3, ?_, ?_, s4, ?_⟩⟩
  · unfold meaF
    rw [if_pos ask3, place_not, if_pos (by omega)]
    intro j hj
    have hj' : j < 24 := by have := (good_iff.1 g3).s1; omega
    rw [c3]
    show plB 1 b (C2.frs.getD j default) = false
    by_cases e : j = 3
    · subst e; rw [c23]; exact plB_at (fun h => hab h.symm)
    · exact plB_own (by rw [c2o j hj' e]; omega)
  · unfold putF; rw [s4, if_neg (by omega)]
  · unfold meaF; rw [s4, if_neg (by omega)]
  · unfold askF
    rw [if_pos g4, if_pos (by decide), show ((2 : Int) - 1).toNat = 1 by rfl, if_pos e41]

end Go.Proofs.YteaabfnmnekbpaaDoor

namespace Go.Proofs.YteaabfnmnekbpaaDoor
open Go.RowKit

set_option maxRecDepth 100000 in
set_option maxHeartbeats 4000000 in
theorem put_any (M : Mv) (e f a r : Int) (w : World) (hM : MachAt w M) (hF : M.Fits) (wa : (Lit.int .i64 a).wf = true) (wr : (Lit.int .i64 r).wf = true) (ht : Tab w) :
    Calls Tryd.prog 7 #[M.val, .int .i64 e, .int .i64 f, .int .i64 a, .int .i64 r] w fun x w' => ∃ N : Mv, x = .returned (.tuple #[N.val, .int .i64 (putF M e f a r)]) ∧ N.Same (putM M e f a r) ∧ Owned w.heap.size w' N ∧ Below w.heap.size w w' := by
  have h1 := fun w' (h : Below w.heap.size w w') => checkOpened_any M e w' (hM.below h)
  have h3 := fun w' (h : Below w.heap.size w w') => added_any a r w' wa wr (ht.below h)
  have h4 := fun w' (h : Below w.heap.size w w') => place_any M e a w' (hM.below h)
  obtain ⟨RM, hRM⟩ : ∃ RM, Hid (RM = putM M e f a r) := ⟨_, rfl⟩
  obtain ⟨rf, hrf⟩ : ∃ rf, Hid (rf = putF M e f a r) := ⟨_, rfl⟩
  rw [← hRM.out, ← hrf.out]
  have hF0 : putF M e f a r = if askF M e 1 = 0 then (if inB f 0 23 = true then (if (inB a 0 7 && inB r 0 7) = true then (if (M.frs.getD f.toNat default).o = 0 then (if placeOf M.frs e a < 0 then logF M (e - 1).toNat (putS a r) else 6) else 6) else 2) else 2) else askF M e 1 := rfl
  by_cases hz : askF M e 1 = 0
  · rw [if_pos hz] at hF0
    rw [hz] at h1
    cases hf : inB f 0 23 with
    | false =>
      rw [hf, if_neg (by decide)] at hF0
      have e1 : rf = 2 := by rw [hrf.out, hF0]
      have RN : RM = noM := by rw [hRM.out]; exact putM_bad (by rw [hF0]; decide)
      subst RN e1
      clear hRM hrf hF0 hM hF hz h3 h4 ht
      unfold Mv.val at h1 ⊢
      obtain ⟨fa, frs, fcap, ea, ens, ecap, qa, qus, qcap⟩ := M
      dsimp only at *
      have B2 : ∀ o1 o2, Hid (Below w.heap.size w ((w.alloc o1).alloc o2)) := fun o1 o2 => a2B _ _ _
      have HX : ∀ o1 o2 w1, Hid (Below ((w.alloc o1).alloc o2).heap.size ((w.alloc o1).alloc o2) w1 → Below w.heap.size w w1) := fun o1 o2 w1 h => (B2 o1 o2).out.trans (h.mono (by simp; omega))
      have CF : Hid (_) := boxes_blk w (.slice fa frs.length fcap) (.slice ea ens.length ecap) (.slice qa qus.length qcap)
      go_enter Tryd.func7, Tryd.ntmps7
      go_wp2_with (first
        | (go_at_call 16; refine (h1 _ (B2 _ _).out).mono ?_; rintro x w1 ⟨rfl, hb1⟩; obtain ⟨AB, RB⟩ := CF.out w1 hb1; have HAB1 : Hid (_) := AB; have HRB1 : Hid (_) := RB; have HB1 : Hid (Below w.heap.size w w1) := (HX _ _ _).out hb1; obtain ⟨m0, m1, m2, _, _, _, ml⟩ := box_cells AB; clear hb1 CF AB RB; obtain ⟨r0, r1, r2, rf0, rf1, rf2, rl⟩ := box_cells HRB1.out)
        | (go_at_call 17; refine (isFrameNumber_any _ _).mono ?_; rintro x w0 ⟨rfl, rfl⟩)
        | fail)
      obtain ⟨k0, k1, k2⟩ := blk3 (v0 := .slice none 0 0) (v1 := .slice none 0 0) (v2 := .slice none 0 0) r0 r1 r2
      (try simp only [Exit.inBlock, Exit.then])
      refine bodyPost_ret (by simp [results, Tryd.results7, go_sem, k0, k1, k2]; try rfl) rfl ?_
      exact ⟨noM, rfl, Mv.Same.refl _, noM_own _ _, blk3_below HB1.out (by omega)⟩
    | true =>
      rw [hf, if_pos rfl] at hF0
      cases ha : (inB a 0 7 && inB r 0 7) with
      | false =>
        rw [ha, if_neg (by decide)] at hF0
        simp only [ha, Bool.false_eq_true, if_false] at h3
        have e1 : rf = 2 := by rw [hrf.out, hF0]
        have RN : RM = noM := by rw [hRM.out]; exact putM_bad (by rw [hF0]; decide)
        subst RN e1
        clear hRM hrf hF0 hM hF hz h4 ht
        unfold Mv.val at h1 ⊢
        obtain ⟨fa, frs, fcap, ea, ens, ecap, qa, qus, qcap⟩ := M
        dsimp only at *
        have B2 : ∀ o1 o2, Hid (Below w.heap.size w ((w.alloc o1).alloc o2)) := fun o1 o2 => a2B _ _ _
        have HX : ∀ o1 o2 w1, Hid (Below ((w.alloc o1).alloc o2).heap.size ((w.alloc o1).alloc o2) w1 → Below w.heap.size w w1) := fun o1 o2 w1 h => (B2 o1 o2).out.trans (h.mono (by simp; omega))
        have CF : Hid (_) := boxes_blk w (.slice fa frs.length fcap) (.slice ea ens.length ecap) (.slice qa qus.length qcap)
        go_enter Tryd.func7, Tryd.ntmps7
        go_wp2_with (first
          | (go_at_call 16; refine (h1 _ (B2 _ _).out).mono ?_; rintro x w1 ⟨rfl, hb1⟩; obtain ⟨AB, RB⟩ := CF.out w1 hb1; have HAB1 : Hid (_) := AB; have HRB1 : Hid (_) := RB; have HB1 : Hid (Below w.heap.size w w1) := (HX _ _ _).out hb1; obtain ⟨m0, m1, m2, _, _, _, ml⟩ := box_cells AB; clear hb1 CF AB RB)
          | (go_at_call 17; refine (isFrameNumber_any _ _).mono ?_; rintro x w0 ⟨rfl, rfl⟩)
          | (go_at_call 18; refine (h3 _ HB1.out).mono ?_; rintro x w2 ⟨rfl, hb2⟩; have HAB2 : Hid (_) := ((hb2.block _ (Array.getElem?_eq_some_iff.1 HAB1.out).1).trans HAB1.out); have HRB2 : Hid (_) := ((hb2.block _ (Array.getElem?_eq_some_iff.1 HRB1.out).1).trans HRB1.out); have HB2 : Hid (Below w.heap.size w w2) := HB1.out.trans (hb2.mono HB1.out.size); clear m0 m1 m2 ml; obtain ⟨m0, m1, m2, _, _, _, ml⟩ := box_cells HAB2.out; clear hb2 HAB1 HRB1; obtain ⟨r0, r1, r2, rf0, rf1, rf2, rl⟩ := box_cells HRB2.out)
          | fail)
        obtain ⟨k0, k1, k2⟩ := blk3 (v0 := .slice none 0 0) (v1 := .slice none 0 0) (v2 := .slice none 0 0) r0 r1 r2
        (try simp only [Exit.inBlock, Exit.then])
        refine bodyPost_ret (by simp [results, Tryd.results7, go_sem, k0, k1, k2]; try rfl) rfl ?_
        exact ⟨noM, rfl, Mv.Same.refl _, noM_own _ _, blk3_below HB2.out (by omega)⟩
      | true =>
        rw [ha, if_pos rfl] at hF0
        simp only [ha, if_true] at h3
        obtain ⟨s, HS⟩ : ∃ s, Hid (putS a r = s) := ⟨_, rfl⟩
        have hss : s.size ≤ 1000000 := by have := putS_size a r wa wr; rw [HS.out] at this; omega
        rw [HS.out] at h3 hF0
        obtain ⟨hz0, m, rfl, hm4, _, _⟩ := askF_zero hz
        have hfi := inB_iff.1 hf
        obtain ⟨j, rfl⟩ : ∃ j : Nat, f = (j : Int) := ⟨f.toNat, by omega⟩
        have hj : j < 24 := by omega
        have hji : (j : Int) < 24 := by omega
        simp only [Int.toNat_natCast, show ((m : Int) + 1 - 1).toNat = m by omega] at hF0
        have HS24 : Hid (M.frs.length = 24) := (machF_sizes hz0).1
        have HS4 : Hid (M.ens.length = 4) := (machF_sizes hz0).2.1
        obtain ⟨fb, fo, hfa, hfr⟩ := fr_at hM (j := j) (by have := HS24.out; omega)
        obtain ⟨ow, HOW⟩ : ∃ ow, Hid ((M.frs.getD j default).o = ow) := ⟨_, rfl⟩
        have hown := fun w1 (h : Below w.heap.size w w1) => (hfr w1 h).1
        rw [HOW.out] at hF0 hown
        clear hfr
        by_cases ho : ow = 0
        · subst ho
          rw [if_pos rfl] at hF0
          obtain ⟨pl, hpl⟩ : ∃ pl, Hid (placeOf M.frs ((m : Int) + 1) a = pl) := ⟨_, rfl⟩
          rw [hpl.out] at hF0 h4
          by_cases hp : pl < 0
          · rw [if_pos hp] at hF0
            have h5 := fun w' (h : Below w.heap.size w w') => logged_any M m s w' (hM.below h) hF hz0 hm4 hss
            have HMM : Hid (M = M) := rfl
            by_cases hl : logF M m s = 0
            · rw [hl] at hF0 h5
              have e1 : rf = 0 := by rw [hrf.out, hF0]
              have RN : Hid (RM = { M with frs := M.frs.set j (putFr M j ((m : Int) + 1) a r), ens := M.ens.set m ((M.ens.getD m default).withLog s) }) := by
                show _ = _
                rw [hRM.out]; unfold putM; rw [hF0, if_pos rfl, HS.out, show ((m : Int) + 1 - 1).toNat = m by omega, Int.toNat_natCast]
              have HL : Hid (logM M m s = { M with ens := M.ens.set m ((M.ens.getD m default).withLog s) }) := by show _ = _; unfold logM; rw [hl, if_pos rfl]
              have wwa := wa
              have wwr := wr
              have wwm : (Lit.int .i64 ((m : Int) + 1)).wf = true := wf_of (by omega)
              have HW : Hid (_) := And.intro wwm (And.intro wwa wwr)
              subst e1
              clear hRM hrf hF0 hM hF hz hz0 hfi hss hl wa wr wwa wwr wwm
              unfold Mv.val at h1 h4 h5 ⊢
              obtain ⟨fa, frs, fcap, ea, ens, ecap, qa, qus, qcap⟩ := M
              dsimp only at *
              have B2 : ∀ o1 o2, Hid (Below w.heap.size w ((w.alloc o1).alloc o2)) := fun o1 o2 => a2B _ _ _
              have HX : ∀ o1 o2 w1, Hid (Below ((w.alloc o1).alloc o2).heap.size ((w.alloc o1).alloc o2) w1 → Below w.heap.size w w1) := fun o1 o2 w1 h => (B2 o1 o2).out.trans (h.mono (by simp; omega))
              have CF : Hid (_) := boxes_blk w (.slice fa frs.length fcap) (.slice ea ens.length ecap) (.slice qa qus.length qcap)
              subst hfa
              rw [HS24.out] at h1 h4 h5 CF ⊢
              go_enter Tryd.func7, Tryd.ntmps7
              go_upto_region 12 with (first
                | (go_at_call 16; refine (h1 _ (B2 _ _).out).mono ?_; rintro x w1 ⟨rfl, hb1⟩; obtain ⟨AB, RB⟩ := CF.out w1 hb1; have HAB1 : Hid (_) := AB; have HRB1 : Hid (_) := RB; have HB1 : Hid (Below w.heap.size w w1) := (HX _ _ _).out hb1; obtain ⟨m0, m1, m2, _, _, _, ml⟩ := box_cells AB; clear hb1 CF AB RB)
                | (go_at_call 17; refine (isFrameNumber_any _ _).mono ?_; rintro x w0 ⟨rfl, rfl⟩)
                | (go_at_call 18; refine (h3 _ HB1.out).mono ?_; rintro x w2 ⟨rfl, hb2⟩; have HAB2 : Hid (_) := ((hb2.block _ (Array.getElem?_eq_some_iff.1 HAB1.out).1).trans HAB1.out); have HRB2 : Hid (_) := ((hb2.block _ (Array.getElem?_eq_some_iff.1 HRB1.out).1).trans HRB1.out); have HB2 : Hid (Below w.heap.size w w2) := HB1.out.trans (hb2.mono HB1.out.size); clear m0 m1 m2 ml; obtain ⟨m0, m1, m2, _, _, _, ml⟩ := box_cells HAB2.out; clear hb2 HAB1 HRB1; have t0 := hown _ HB2.out)
                | (go_at_call 19; refine (h4 _ HB2.out).mono ?_; rintro x w3 ⟨rfl, hb3⟩; have HAB3 : Hid (_) := ((hb3.block _ (Array.getElem?_eq_some_iff.1 HAB2.out).1).trans HAB2.out); have HRB3 : Hid (_) := ((hb3.block _ (Array.getElem?_eq_some_iff.1 HRB2.out).1).trans HRB2.out); have HB3 : Hid (Below w.heap.size w w3) := HB2.out.trans (hb3.mono HB2.out.size); clear m0 m1 m2 ml; obtain ⟨m0, m1, m2, _, _, _, ml⟩ := box_cells HAB3.out; clear hb3 HAB2 HRB2)
                | (go_at_call 20; refine (h5 _ HB3.out).mono ?_; rintro x w4 ⟨N, rfl, hS, hO, hb4⟩; obtain ⟨nfa, nfrs, nfcap, nea, nens, necap, nqa, nqus, nqcap⟩ := N; have HSN : Hid (_) := hS; have HON : Hid (_) := hO; have HB34 : Hid (_) := hb4; have HRL : Hid (w.heap.size + 1 < w3.heap.size) := (Array.getElem?_eq_some_iff.1 HRB3.out).1; have HRB4 : Hid (_) := ((hb4.block _ HRL.out).trans HRB3.out); have HB4 : Hid (Below w.heap.size w w4) := HB3.out.trans (hb4.mono HB3.out.size); clear hS hO hb4 m0 m1 m2 ml HAB3 HRB3; have H24 : Hid (nfrs.length = 24) := (by have := HSN.out.len; rw [HL.out] at this; exact this.trans HS24.out); rw [H24.out]; dsimp only)
                | fail)
              obtain ⟨nb, no, hnfa, _, _, _, _⟩ := HON.out.at_.frame (j := j) (by dsimp only; have := H24.out; omega)
              dsimp only at hnfa
              subst hnfa
              obtain ⟨W5, hW5⟩ : ∃ W5, Hid (W5 = w4.alloc (.cells #[.slice (some ⟨nb, no, none⟩) 24 nfcap, .slice nea nens.length necap, .slice nqa nqus.length nqcap] 26)) := ⟨_, rfl⟩
              rw [← hW5.out]
              have HO5 : Hid (Owned w3.heap.size W5 _) := HON.out.below (w' := W5) (by rw [hW5.out]; exact (Below.refl _ _).alloc (Nat.le_refl _) _)
              have HB5 : Hid (Below w.heap.size w W5) := by show Below _ _ _; rw [hW5.out]; exact HB4.out.alloc HB4.out.size _
              have HBX5 : Hid (W5.heap[w4.heap.size]? = some (.cells #[.slice (some ⟨nb, no, none⟩) 24 nfcap, .slice nea nens.length necap, .slice nqa nqus.length nqcap] 26 (0, 0))) := by show _ = _; rw [hW5.out]; exact a11 _ _
              have HR5 : Hid (W5.heap[w.heap.size + 1]? = some (.cells #[.slice none 0 0, .slice none 0 0, .slice none 0 0] 26 (0, 0))) := by show _ = _; rw [hW5.out, Below.heap_alloc _ _ _ (by have := HRL.out; have := HB34.out.size; omega)]; exact HRB4.out
              have nn := HON.out.nf nb no none rfl
              have nn5 := HO5.out.nf nb no none rfl
              obtain ⟨_, _, hx, t0', t1', t2', _⟩ := HO5.out.at_.frame (j := j) (by dsimp only; have := H24.out; omega)
              dsimp only at hx
              simp only [Option.some.injEq, Addr.mk.injEq, and_true] at hx
              obtain ⟨rfl, rfl⟩ := hx
              have f0 : W5.frozen? ⟨nb, no + j * 4, none⟩ = false := nn5.2.2 _
              have f1 : W5.frozen? ⟨nb, no + j * 4 + 1, none⟩ = false := nn5.2.2 _
              have f2 : W5.frozen? ⟨nb, no + j * 4 + 2, none⟩ = false := nn5.2.2 _
              have fl : nb < W5.heap.size := nn5.2.1
              have HNB : Hid (w3.heap.size ≤ nb ∧ nb < w4.heap.size) := ⟨nn.1, nn.2.1⟩
              obtain ⟨y0, y1, y2, _, _, _, yl⟩ := box_cells HBX5.out
              dsimp only at t0' t1' t2'
              generalize (nfrs.getD j default).o = u0 at t0'
              generalize (nfrs.getD j default).at_ = u1 at t1'
              generalize (nfrs.getD j default).r = u2 at t2'
              clear hW5 HRB4 HON nn nn5 h1 h3 h4 h5 hown t0 HX B2
              go_upto_region 16 with fail
              have HO6 := HO5.out.put3 (k := j) rfl (by dsimp only; have := H24.out; omega) HW.out.1 HW.out.2.1 HW.out.2.2
              dsimp only at HO6
              have HB6 := put3_below (v0 := .int .i64 ((m : Int) + 1)) (v1 := .int .i64 a) (v2 := .int .i64 r) (a := no + j * 4) HB5.out (show w.heap.size ≤ nb by have := HNB.out; have := HRL.out; omega)
              have k6 := fun b (hb : b ≠ nb) => put3_heap (w := W5) (fb := nb) (v0 := .int .i64 ((m : Int) + 1)) (v1 := .int .i64 a) (v2 := .int .i64 r) (a := no + j * 4) hb
              obtain ⟨W6, hW6⟩ : ∃ W6, Hid (W6 = ((W5.setCell ⟨nb, no + j * 4, none⟩ (.int .i64 ((m : Int) + 1))).setCell ⟨nb, no + j * 4 + 1, none⟩ (.int .i64 a)).setCell ⟨nb, no + j * 4 + 2, none⟩ (.int .i64 r)) := ⟨_, rfl⟩
              rw [← hW6.out] at HO6 HB6 k6 ⊢
              have HBX6 := (k6 w4.heap.size (by have := HNB.out; omega)).trans HBX5.out
              have HR6 := (k6 (w.heap.size + 1) (by have := HNB.out; have := HRL.out; omega)).trans HR5.out
              have HO6' : Hid (_) := HO6
              have HB6' : Hid (_) := HB6
              clear y0 y1 y2 yl t0' t1' t2' f0 f1 f2 fl
              obtain ⟨y0, y1, y2, _, _, _, yl⟩ := box_cells HBX6
              obtain ⟨r0, r1, r2, rf0, rf1, rf2, rl⟩ := box_cells HR6
              clear hW6 k6 HBX6 HR6 HO6 HB6 HBX5 HR5 HO5
              go_wp2
              obtain ⟨k0, k1, k2⟩ := blk3 (v0 := .slice (some ⟨nb, no, none⟩) 24 nfcap) (v1 := .slice nea nens.length necap) (v2 := .slice nqa nqus.length nqcap) r0 r1 r2
              (try simp only [Exit.inBlock, Exit.then])
              refine bodyPost_ret (by simp [results, Tryd.results7, go_sem, k0, k1, k2]; try rfl) rfl ?_
              refine ⟨⟨some ⟨nb, no, none⟩, nfrs.set j { nfrs.getD j default with o := (m : Int) + 1, at_ := a, r := r }, nfcap, nea, nens, necap, nqa, nqus, nqcap⟩, by simp [H24.out], ?_, (HO6'.out.keep (fun b hb _ => blk3_heap b (by have := HRL.out; omega)) (by rw [blk3_size]; exact Nat.le_refl _)).mono HB3.out.size, blk3_below HB6'.out (by omega)⟩
              have hs := HSN.out
              rw [HL.out] at hs
              have := set_same hs j { nfrs.getD j default with o := (m : Int) + 1, at_ := a, r := r } (putFr ⟨some ⟨fb, fo, none⟩, frs, fcap, ea, ens, ecap, qa, qus, qcap⟩ j ((m : Int) + 1) a r) (fun _ => ⟨rfl, rfl, rfl, ws_same hs j⟩)
              rw [RN.out]
              exact this
            · have e1 : rf = logF M m s := by rw [hrf.out, hF0]
              have RN : RM = noM := by rw [hRM.out]; exact putM_bad (by rw [hF0]; exact hl)
              have hl' : (logF M m s != 0) = true := by simpa using hl
              subst RN e1
              clear hRM hrf hF0 hM hF hz hz0 hfi hss hl
              generalize logF M m s = z at h5 hl' ⊢
              unfold Mv.val at h1 h4 h5 ⊢
              obtain ⟨fa, frs, fcap, ea, ens, ecap, qa, qus, qcap⟩ := M
              dsimp only at *
              have B2 : ∀ o1 o2, Hid (Below w.heap.size w ((w.alloc o1).alloc o2)) := fun o1 o2 => a2B _ _ _
              have HX : ∀ o1 o2 w1, Hid (Below ((w.alloc o1).alloc o2).heap.size ((w.alloc o1).alloc o2) w1 → Below w.heap.size w w1) := fun o1 o2 w1 h => (B2 o1 o2).out.trans (h.mono (by simp; omega))
              have CF : Hid (_) := boxes_blk w (.slice fa frs.length fcap) (.slice ea ens.length ecap) (.slice qa qus.length qcap)
              subst hfa
              rw [HS24.out] at h1 h4 h5 CF ⊢
              go_enter Tryd.func7, Tryd.ntmps7
              go_upto_region 12 with (first
                | (go_at_call 16; refine (h1 _ (B2 _ _).out).mono ?_; rintro x w1 ⟨rfl, hb1⟩; obtain ⟨AB, RB⟩ := CF.out w1 hb1; have HAB1 : Hid (_) := AB; have HRB1 : Hid (_) := RB; have HB1 : Hid (Below w.heap.size w w1) := (HX _ _ _).out hb1; obtain ⟨m0, m1, m2, _, _, _, ml⟩ := box_cells AB; clear hb1 CF AB RB)
                | (go_at_call 17; refine (isFrameNumber_any _ _).mono ?_; rintro x w0 ⟨rfl, rfl⟩)
                | (go_at_call 18; refine (h3 _ HB1.out).mono ?_; rintro x w2 ⟨rfl, hb2⟩; have HAB2 : Hid (_) := ((hb2.block _ (Array.getElem?_eq_some_iff.1 HAB1.out).1).trans HAB1.out); have HRB2 : Hid (_) := ((hb2.block _ (Array.getElem?_eq_some_iff.1 HRB1.out).1).trans HRB1.out); have HB2 : Hid (Below w.heap.size w w2) := HB1.out.trans (hb2.mono HB1.out.size); clear m0 m1 m2 ml; obtain ⟨m0, m1, m2, _, _, _, ml⟩ := box_cells HAB2.out; clear hb2 HAB1 HRB1; have t0 := hown _ HB2.out)
                | (go_at_call 19; refine (h4 _ HB2.out).mono ?_; rintro x w3 ⟨rfl, hb3⟩; have HAB3 : Hid (_) := ((hb3.block _ (Array.getElem?_eq_some_iff.1 HAB2.out).1).trans HAB2.out); have HRB3 : Hid (_) := ((hb3.block _ (Array.getElem?_eq_some_iff.1 HRB2.out).1).trans HRB2.out); have HB3 : Hid (Below w.heap.size w w3) := HB2.out.trans (hb3.mono HB2.out.size); clear m0 m1 m2 ml; obtain ⟨m0, m1, m2, _, _, _, ml⟩ := box_cells HAB3.out; clear hb3 HAB2 HRB2)
                | (go_at_call 20; refine (h5 _ HB3.out).mono ?_; rintro x w4 ⟨N, rfl, hS, hO, hb4⟩; obtain ⟨nfa, nfrs, nfcap, nea, nens, necap, nqa, nqus, nqcap⟩ := N; have HSN : Hid (_) := hS; have HON : Hid (_) := hO; have HB34 : Hid (_) := hb4; have HRL : Hid (w.heap.size + 1 < w3.heap.size) := (Array.getElem?_eq_some_iff.1 HRB3.out).1; have HRB4 : Hid (_) := ((hb4.block _ HRL.out).trans HRB3.out); have HB4 : Hid (Below w.heap.size w w4) := HB3.out.trans (hb4.mono HB3.out.size); clear hS hO hb4 m0 m1 m2 ml HAB3 HRB3; dsimp only)
                | fail)
              obtain ⟨W5, hW5⟩ : ∃ W5, Hid (W5 = w4.alloc (.cells #[.slice nfa nfrs.length nfcap, .slice nea nens.length necap, .slice nqa nqus.length nqcap] 26)) := ⟨_, rfl⟩
              rw [← hW5.out]
              have HB5 : Hid (Below w.heap.size w W5) := by show Below _ _ _; rw [hW5.out]; exact HB4.out.alloc HB4.out.size _
              have HR5 : W5.heap[w.heap.size + 1]? = some (.cells #[.slice none 0 0, .slice none 0 0, .slice none 0 0] 26 (0, 0)) := by rw [hW5.out, Below.heap_alloc _ _ _ (by have := HRL.out; have := HB34.out.size; omega)]; exact HRB4.out
              obtain ⟨r0, r1, r2, rf0, rf1, rf2, rl⟩ := box_cells HR5
              clear hW5 HR5 HRB4 HON h1 h3 h4 h5 hown t0 HX B2
              go_wp2
              obtain ⟨k0, k1, k2⟩ := blk3 (v0 := .slice none 0 0) (v1 := .slice none 0 0) (v2 := .slice none 0 0) r0 r1 r2
              (try simp only [Exit.inBlock, Exit.then])
              refine bodyPost_ret (by simp [results, Tryd.results7, go_sem, k0, k1, k2]; try rfl) rfl ?_
              exact ⟨noM, rfl, Mv.Same.refl _, noM_own _ _, blk3_below HB5.out (by omega)⟩
          · rw [if_neg hp] at hF0
            have hp' : 0 ≤ pl := by omega
            have e1 : rf = 6 := by rw [hrf.out, hF0]
            have RN : RM = noM := by rw [hRM.out]; exact putM_bad (by rw [hF0]; decide)
            subst RN e1
            clear hRM hrf hF0 hM hF hz hz0 hp hfi hss ht
            unfold Mv.val at h1 h4 ⊢
            obtain ⟨fa, frs, fcap, ea, ens, ecap, qa, qus, qcap⟩ := M
            dsimp only at *
            have B2 : ∀ o1 o2, Hid (Below w.heap.size w ((w.alloc o1).alloc o2)) := fun o1 o2 => a2B _ _ _
            have HX : ∀ o1 o2 w1, Hid (Below ((w.alloc o1).alloc o2).heap.size ((w.alloc o1).alloc o2) w1 → Below w.heap.size w w1) := fun o1 o2 w1 h => (B2 o1 o2).out.trans (h.mono (by simp; omega))
            have CF : Hid (_) := boxes_blk w (.slice fa frs.length fcap) (.slice ea ens.length ecap) (.slice qa qus.length qcap)
            subst hfa
            rw [HS24.out] at h1 h4 CF ⊢
            go_enter Tryd.func7, Tryd.ntmps7
            go_wp2_with (first
              | (go_at_call 16; refine (h1 _ (B2 _ _).out).mono ?_; rintro x w1 ⟨rfl, hb1⟩; obtain ⟨AB, RB⟩ := CF.out w1 hb1; have HAB1 : Hid (_) := AB; have HRB1 : Hid (_) := RB; have HB1 : Hid (Below w.heap.size w w1) := (HX _ _ _).out hb1; obtain ⟨m0, m1, m2, _, _, _, ml⟩ := box_cells AB; clear hb1 CF AB RB)
              | (go_at_call 17; refine (isFrameNumber_any _ _).mono ?_; rintro x w0 ⟨rfl, rfl⟩)
              | (go_at_call 18; refine (h3 _ HB1.out).mono ?_; rintro x w2 ⟨rfl, hb2⟩; have HAB2 : Hid (_) := ((hb2.block _ (Array.getElem?_eq_some_iff.1 HAB1.out).1).trans HAB1.out); have HRB2 : Hid (_) := ((hb2.block _ (Array.getElem?_eq_some_iff.1 HRB1.out).1).trans HRB1.out); have HB2 : Hid (Below w.heap.size w w2) := HB1.out.trans (hb2.mono HB1.out.size); clear m0 m1 m2 ml; obtain ⟨m0, m1, m2, _, _, _, ml⟩ := box_cells HAB2.out; clear hb2 HAB1 HRB1; have t0 := hown _ HB2.out)
              | (go_at_call 19; refine (h4 _ HB2.out).mono ?_; rintro x w3 ⟨rfl, hb3⟩; have HAB3 : Hid (_) := ((hb3.block _ (Array.getElem?_eq_some_iff.1 HAB2.out).1).trans HAB2.out); have HRB3 : Hid (_) := ((hb3.block _ (Array.getElem?_eq_some_iff.1 HRB2.out).1).trans HRB2.out); have HB3 : Hid (Below w.heap.size w w3) := HB2.out.trans (hb3.mono HB2.out.size); clear m0 m1 m2 ml; obtain ⟨m0, m1, m2, _, _, _, ml⟩ := box_cells HAB3.out; clear hb3 HAB2 HRB2; obtain ⟨r0, r1, r2, rf0, rf1, rf2, rl⟩ := box_cells HRB3.out)
              | fail)
            obtain ⟨k0, k1, k2⟩ := blk3 (v0 := .slice none 0 0) (v1 := .slice none 0 0) (v2 := .slice none 0 0) r0 r1 r2
            (try simp only [Exit.inBlock, Exit.then])
            refine bodyPost_ret (by simp [results, Tryd.results7, go_sem, k0, k1, k2]; try rfl) rfl ?_
            exact ⟨noM, rfl, Mv.Same.refl _, noM_own _ _, blk3_below HB3.out (by omega)⟩
        · rw [if_neg ho] at hF0
          have ho' : (ow != 0) = true := by simpa using ho
          have e1 : rf = 6 := by rw [hrf.out, hF0]
          have RN : RM = noM := by rw [hRM.out]; exact putM_bad (by rw [hF0]; decide)
          subst RN e1
          clear hRM hrf hF0 hM hF hz hz0 h4 hfi hss ho ht
          unfold Mv.val at h1 ⊢
          obtain ⟨fa, frs, fcap, ea, ens, ecap, qa, qus, qcap⟩ := M
          dsimp only at *
          have B2 : ∀ o1 o2, Hid (Below w.heap.size w ((w.alloc o1).alloc o2)) := fun o1 o2 => a2B _ _ _
          have HX : ∀ o1 o2 w1, Hid (Below ((w.alloc o1).alloc o2).heap.size ((w.alloc o1).alloc o2) w1 → Below w.heap.size w w1) := fun o1 o2 w1 h => (B2 o1 o2).out.trans (h.mono (by simp; omega))
          have CF : Hid (_) := boxes_blk w (.slice fa frs.length fcap) (.slice ea ens.length ecap) (.slice qa qus.length qcap)
          subst hfa
          rw [HS24.out] at h1 CF ⊢
          go_enter Tryd.func7, Tryd.ntmps7
          go_wp2_with (first
            | (go_at_call 16; refine (h1 _ (B2 _ _).out).mono ?_; rintro x w1 ⟨rfl, hb1⟩; obtain ⟨AB, RB⟩ := CF.out w1 hb1; have HAB1 : Hid (_) := AB; have HRB1 : Hid (_) := RB; have HB1 : Hid (Below w.heap.size w w1) := (HX _ _ _).out hb1; obtain ⟨m0, m1, m2, _, _, _, ml⟩ := box_cells AB; clear hb1 CF AB RB)
            | (go_at_call 17; refine (isFrameNumber_any _ _).mono ?_; rintro x w0 ⟨rfl, rfl⟩)
            | (go_at_call 18; refine (h3 _ HB1.out).mono ?_; rintro x w2 ⟨rfl, hb2⟩; have HAB2 : Hid (_) := ((hb2.block _ (Array.getElem?_eq_some_iff.1 HAB1.out).1).trans HAB1.out); have HRB2 : Hid (_) := ((hb2.block _ (Array.getElem?_eq_some_iff.1 HRB1.out).1).trans HRB1.out); have HB2 : Hid (Below w.heap.size w w2) := HB1.out.trans (hb2.mono HB1.out.size); clear m0 m1 m2 ml; obtain ⟨m0, m1, m2, _, _, _, ml⟩ := box_cells HAB2.out; clear hb2 HAB1 HRB1; obtain ⟨r0, r1, r2, rf0, rf1, rf2, rl⟩ := box_cells HRB2.out; have t0 := hown _ HB2.out)
            | fail)
          obtain ⟨k0, k1, k2⟩ := blk3 (v0 := .slice none 0 0) (v1 := .slice none 0 0) (v2 := .slice none 0 0) r0 r1 r2
          (try simp only [Exit.inBlock, Exit.then])
          refine bodyPost_ret (by simp [results, Tryd.results7, go_sem, k0, k1, k2]; try rfl) rfl ?_
          exact ⟨noM, rfl, Mv.Same.refl _, noM_own _ _, blk3_below HB2.out (by omega)⟩
  · have hz1 : (askF M e 1 != 0) = true := by simpa using hz
    have hz2 : (askF M e 1 == 0) = false := by simpa using hz
    have e1 : rf = askF M e 1 := by rw [hrf.out, hF0, if_neg hz]
    have RN : RM = noM := by rw [hRM.out]; exact putM_bad (by rw [hF0, if_neg hz]; exact hz)
    subst RN e1
    clear hRM hrf hF0 hM hF h3 h4 hz ht
    generalize askF M e 1 = z at h1 hz1 hz2 ⊢
    unfold Mv.val at h1 ⊢
    obtain ⟨fa, frs, fcap, ea, ens, ecap, qa, qus, qcap⟩ := M
    dsimp only at *
    have B2 : ∀ o1 o2, Hid (Below w.heap.size w ((w.alloc o1).alloc o2)) := fun o1 o2 => a2B _ _ _
    have HX : ∀ o1 o2 w1, Hid (Below ((w.alloc o1).alloc o2).heap.size ((w.alloc o1).alloc o2) w1 → Below w.heap.size w w1) := fun o1 o2 w1 h => (B2 o1 o2).out.trans (h.mono (by simp; omega))
    have CF : Hid (_) := boxes_blk w (.slice fa frs.length fcap) (.slice ea ens.length ecap) (.slice qa qus.length qcap)
    go_enter Tryd.func7, Tryd.ntmps7
    go_wp2_with (first
      | (go_at_call 16; refine (h1 _ (B2 _ _).out).mono ?_; rintro x w1 ⟨rfl, hb1⟩; obtain ⟨AB, RB⟩ := CF.out w1 hb1; have HAB1 : Hid (_) := AB; have HRB1 : Hid (_) := RB; have HB1 : Hid (Below w.heap.size w w1) := (HX _ _ _).out hb1; obtain ⟨m0, m1, m2, _, _, _, ml⟩ := box_cells AB; clear hb1 CF AB RB; obtain ⟨r0, r1, r2, rf0, rf1, rf2, rl⟩ := box_cells HRB1.out)
      | fail)
    obtain ⟨k0, k1, k2⟩ := blk3 (v0 := .slice none 0 0) (v1 := .slice none 0 0) (v2 := .slice none 0 0) r0 r1 r2
    (try simp only [Exit.inBlock, Exit.then])
    refine bodyPost_ret (by simp [results, Tryd.results7, go_sem, k0, k1, k2]; try rfl) rfl ?_
    exact ⟨noM, rfl, Mv.Same.refl _, noM_own _ _, blk3_below HB1.out (by omega)⟩

end Go.Proofs.YteaabfnmnekbpaaDoor

namespace Go.Proofs.YteaabfnmnekbpaaDoor
open Go.RowKit

set_option maxRecDepth 100000 in
set_option maxHeartbeats 4000000 in
theorem measure_any (M : Mv) (e a : Int) (w : World) (hM : MachAt w M) (hF : M.Fits) (wa : (Lit.int .i64 a).wf = true) (ht : Tab w) :
    Calls Tryd.prog 8 #[M.val, .int .i64 e, .int .i64 a] w fun x w' => ∃ N : Mv, x = .returned (.tuple #[N.val, .int .i64 (meaF M e a)]) ∧ N.Same (meaM M e a) ∧ Owned w.heap.size w' N ∧ Below w.heap.size w w' := by
  have h1 := fun w' (h : Below w.heap.size w w') => checkOpened_any M e w' (hM.below h)
  have h4 := fun w' (h : Below w.heap.size w w') => place_any M e a w' (hM.below h)
  obtain ⟨RM, hRM⟩ : ∃ RM, Hid (RM = meaM M e a) := ⟨_, rfl⟩
  obtain ⟨rf, hrf⟩ : ∃ rf, Hid (rf = meaF M e a) := ⟨_, rfl⟩
  rw [← hRM.out, ← hrf.out]
  have hF0 : meaF M e a = if askF M e 1 = 0 then (if placeOf M.frs e a < 0 then 5 else logF M (e - 1).toNat (meaS M e a)) else askF M e 1 := rfl
  by_cases hz : askF M e 1 = 0
  · rw [if_pos hz] at hF0
    rw [hz] at h1
    rcases place_cases M.frs e a with hp | ⟨k, hp, hk, hpl⟩
    · rw [hp, if_pos (by decide)] at hF0
      rw [hp] at h4
      have e1 : rf = 5 := by rw [hrf.out, hF0]
      have RN : RM = noM := by rw [hRM.out]; exact meaM_bad (by rw [hF0]; decide)
      subst RN e1
      clear hRM hrf hF0 hM hF hz hp ht
      unfold Mv.val at h1 h4 ⊢
      obtain ⟨fa, frs, fcap, ea, ens, ecap, qa, qus, qcap⟩ := M
      dsimp only at *
      have B2 : ∀ o1 o2, Hid (Below w.heap.size w ((w.alloc o1).alloc o2)) := fun o1 o2 => a2B _ _ _
      have HX : ∀ o1 o2 w1, Hid (Below ((w.alloc o1).alloc o2).heap.size ((w.alloc o1).alloc o2) w1 → Below w.heap.size w w1) := fun o1 o2 w1 h => (B2 o1 o2).out.trans (h.mono (by simp; omega))
      have CF : Hid (_) := boxes_blk w (.slice fa frs.length fcap) (.slice ea ens.length ecap) (.slice qa qus.length qcap)
      go_enter Tryd.func8, Tryd.ntmps8
      go_wp2_with (first
        | (go_at_call 16; refine (h1 _ (B2 _ _).out).mono ?_; rintro x w1 ⟨rfl, hb1⟩; obtain ⟨AB, RB⟩ := CF.out w1 hb1; have HAB1 : Hid (_) := AB; have HRB1 : Hid (_) := RB; have HB1 : Hid (Below w.heap.size w w1) := (HX _ _ _).out hb1; obtain ⟨m0, m1, m2, _, _, _, ml⟩ := box_cells AB; clear hb1 CF AB RB)
        | (go_at_call 19; refine (h4 _ HB1.out).mono ?_; rintro x w2 ⟨rfl, hb2⟩; have HAB2 : Hid (_) := ((hb2.block _ (Array.getElem?_eq_some_iff.1 HAB1.out).1).trans HAB1.out); have HRB2 : Hid (_) := ((hb2.block _ (Array.getElem?_eq_some_iff.1 HRB1.out).1).trans HRB1.out); have HB2 : Hid (Below w.heap.size w w2) := HB1.out.trans (hb2.mono HB1.out.size); clear m0 m1 m2 ml; obtain ⟨m0, m1, m2, _, _, _, ml⟩ := box_cells HAB2.out; clear hb2 HAB1 HRB1; obtain ⟨r0, r1, r2, rf0, rf1, rf2, rl⟩ := box_cells HRB2.out)
        | fail)
      obtain ⟨k0, k1, k2⟩ := blk3 (v0 := .slice none 0 0) (v1 := .slice none 0 0) (v2 := .slice none 0 0) r0 r1 r2
      (try simp only [Exit.inBlock, Exit.then])
      refine bodyPost_ret (by simp [results, Tryd.results8, go_sem, k0, k1, k2]; try rfl) rfl ?_
      exact ⟨noM, rfl, Mv.Same.refl _, noM_own _ _, blk3_below HB2.out (by omega)⟩
    · obtain ⟨eF, eM⟩ := meaM_log hz (by rw [hp]; omega)
      have hms : meaS M e a = heldS a (M.frs.getD k default).ws := by unfold meaS; rw [hp, Int.toNat_natCast]
      rw [hms] at eF eM
      obtain ⟨hz0, m, rfl, hm4, _, _⟩ := askF_zero hz
      rw [show ((m : Int) + 1 - 1).toNat = m by omega] at eF eM
      have HS24 : Hid (M.frs.length = 24) := (machF_sizes hz0).1
      have HS4 : Hid (M.ens.length = 4) := (machF_sizes hz0).2.1
      have hk24 : k < 24 := by have := HS24.out; omega
      have hki : (k : Int) < 24 := by omega
      obtain ⟨ia, iw⟩ := place_page hz0 hk24 hpl
      have hok := hM.frok k hk
      have hge : ¬ ((k : Int) < 0) := by omega
      obtain ⟨fb, fo, hfa, hfr⟩ := fr_at hM (j := k) hk
      have hown := fun w1 (h : Below w.heap.size w w1) => (hfr w1 h).2
      rw [hp] at h4
      have h8 : (M.frs.getD k default).ws.length = 8 := (machF_words hz0 hk24).1
      have hss := heldS_size a _ wa hok.wws h8
      have h5 := fun w' (h : Below w.heap.size w w') => held_any a (M.frs.getD k default).a (M.frs.getD k default).ws (M.frs.getD k default).cap w' wa hok.len (hok.ints.below h) (ht.below h)
      have hV : heldV a (M.frs.getD k default).ws = .tuple #[.string (heldS a (M.frs.getD k default).ws), .int .i64 0] := by unfold heldV; rw [if_pos ia, if_pos iw]
      rw [hV] at h5
      obtain ⟨s, HSS⟩ : ∃ s, Hid (heldS a (M.frs.getD k default).ws = s) := ⟨_, rfl⟩
      rw [HSS.out] at eF eM h5 hss
      have hs6 : s.size ≤ 1000000 := by omega
      clear hV hms hfr ia iw hF0
      generalize (M.frs.getD k default).ws.length = wl at h5 hown
      generalize (M.frs.getD k default).a = wad at h5 hown
      generalize (M.frs.getD k default).cap = wcap at h5 hown
      have h6 := fun w' (h : Below w.heap.size w w') => logged_any M m s w' (hM.below h) hF hz0 hm4 hs6
      have e1 : rf = logF M m s := by rw [hrf.out, eF]
      have RN : Hid (RM = logM M m s) := by show _ = _; rw [hRM.out, eM]
      rw [← RN.out] at h6
      subst e1
      clear hRM hrf hM hF hz hz0 hp hpl hk hok hss hs6 eF eM h8 ht wa
      generalize logF M m s = z at h6 ⊢
      unfold Mv.val at h1 h4 h6 ⊢
      obtain ⟨fa, frs, fcap, ea, ens, ecap, qa, qus, qcap⟩ := M
      dsimp only at *
      have B2 : ∀ o1 o2, Hid (Below w.heap.size w ((w.alloc o1).alloc o2)) := fun o1 o2 => a2B _ _ _
      have HX : ∀ o1 o2 w1, Hid (Below ((w.alloc o1).alloc o2).heap.size ((w.alloc o1).alloc o2) w1 → Below w.heap.size w w1) := fun o1 o2 w1 h => (B2 o1 o2).out.trans (h.mono (by simp; omega))
      have CF : Hid (_) := boxes_blk w (.slice fa frs.length fcap) (.slice ea ens.length ecap) (.slice qa qus.length qcap)
      subst hfa
      rw [HS24.out] at h1 h4 h6 CF ⊢
      go_enter Tryd.func8, Tryd.ntmps8
      go_wp2_with (first
        | (go_at_call 16; refine (h1 _ (B2 _ _).out).mono ?_; rintro x w1 ⟨rfl, hb1⟩; obtain ⟨AB, RB⟩ := CF.out w1 hb1; have HAB1 : Hid (_) := AB; have HRB1 : Hid (_) := RB; have HB1 : Hid (Below w.heap.size w w1) := (HX _ _ _).out hb1; obtain ⟨m0, m1, m2, _, _, _, ml⟩ := box_cells AB; clear hb1 CF AB RB)
        | (go_at_call 19; refine (h4 _ HB1.out).mono ?_; rintro x w2 ⟨rfl, hb2⟩; have HAB2 : Hid (_) := ((hb2.block _ (Array.getElem?_eq_some_iff.1 HAB1.out).1).trans HAB1.out); have HRB2 : Hid (_) := ((hb2.block _ (Array.getElem?_eq_some_iff.1 HRB1.out).1).trans HRB1.out); have HB2 : Hid (Below w.heap.size w w2) := HB1.out.trans (hb2.mono HB1.out.size); clear m0 m1 m2 ml; obtain ⟨m0, m1, m2, _, _, _, ml⟩ := box_cells HAB2.out; clear hb2 HAB1 HRB1; have t0 := hown _ HB2.out)
        | (go_at_call 21; refine (h5 _ HB2.out).mono ?_; rintro x w3 ⟨rfl, hb3⟩; have HAB3 : Hid (_) := ((hb3.block _ (Array.getElem?_eq_some_iff.1 HAB2.out).1).trans HAB2.out); have HRB3 : Hid (_) := ((hb3.block _ (Array.getElem?_eq_some_iff.1 HRB2.out).1).trans HRB2.out); have HB3 : Hid (Below w.heap.size w w3) := HB2.out.trans (hb3.mono HB2.out.size); clear m0 m1 m2 ml; obtain ⟨m0, m1, m2, _, _, _, ml⟩ := box_cells HAB3.out; clear hb3 HAB2 HRB2)
        | (go_at_call 20; refine (h6 _ HB3.out).mono ?_; rintro x w4 ⟨N, rfl, hS, hO, hb4⟩; obtain ⟨nfa, nfrs, nfcap, nea, nens, necap, nqa, nqus, nqcap⟩ := N; have HSN : Hid (_) := hS; have HON : Hid (_) := hO; have HB34 : Hid (_) := hb4; have HRL : Hid (w.heap.size + 1 < w3.heap.size) := (Array.getElem?_eq_some_iff.1 HRB3.out).1; have HB4 : Hid (Below w.heap.size w w4) := HB3.out.trans (hb4.mono HB3.out.size); obtain ⟨r0, r1, r2, rf0, rf1, rf2, rl⟩ := box_cells ((hb4.block _ HRL.out).trans HRB3.out); clear hS hO hb4 m0 m1 m2 ml HAB3 HRB3; dsimp only)
        | fail)
      obtain ⟨k0, k1, k2⟩ := blk3 (v0 := .slice nfa nfrs.length nfcap) (v1 := .slice nea nens.length necap) (v2 := .slice nqa nqus.length nqcap) r0 r1 r2
      (try simp only [Exit.inBlock, Exit.then])
      refine bodyPost_ret (by simp [results, Tryd.results8, go_sem, k0, k1, k2]; try rfl) rfl ?_
      exact ⟨⟨nfa, nfrs, nfcap, nea, nens, necap, nqa, nqus, nqcap⟩, rfl, HSN.out, (HON.out.keep (fun b hb _ => blk3_heap b (by have := HRL.out; omega)) (by rw [blk3_size]; exact Nat.le_refl _)).mono HB3.out.size, blk3_below HB4.out (by omega)⟩
  · have hz1 : (askF M e 1 != 0) = true := by simpa using hz
    have hz2 : (askF M e 1 == 0) = false := by simpa using hz
    have e1 : rf = askF M e 1 := by rw [hrf.out, hF0, if_neg hz]
    have RN : RM = noM := by rw [hRM.out]; exact meaM_bad (by rw [hF0, if_neg hz]; exact hz)
    subst RN e1
    clear hRM hrf hF0 hM hF hz ht h4
    generalize askF M e 1 = z at h1 hz1 hz2 ⊢
    unfold Mv.val at h1 ⊢
    obtain ⟨fa, frs, fcap, ea, ens, ecap, qa, qus, qcap⟩ := M
    dsimp only at *
    have B2 : ∀ o1 o2, Hid (Below w.heap.size w ((w.alloc o1).alloc o2)) := fun o1 o2 => a2B _ _ _
    have HX : ∀ o1 o2 w1, Hid (Below ((w.alloc o1).alloc o2).heap.size ((w.alloc o1).alloc o2) w1 → Below w.heap.size w w1) := fun o1 o2 w1 h => (B2 o1 o2).out.trans (h.mono (by simp; omega))
    have CF : Hid (_) := boxes_blk w (.slice fa frs.length fcap) (.slice ea ens.length ecap) (.slice qa qus.length qcap)
    go_enter Tryd.func8, Tryd.ntmps8
    go_wp2_with (first
      | (go_at_call 16; refine (h1 _ (B2 _ _).out).mono ?_; rintro x w1 ⟨rfl, hb1⟩; obtain ⟨AB, RB⟩ := CF.out w1 hb1; have HAB1 : Hid (_) := AB; have HRB1 : Hid (_) := RB; have HB1 : Hid (Below w.heap.size w w1) := (HX _ _ _).out hb1; obtain ⟨m0, m1, m2, _, _, _, ml⟩ := box_cells AB; clear hb1 CF AB RB; obtain ⟨r0, r1, r2, rf0, rf1, rf2, rl⟩ := box_cells HRB1.out)
      | fail)
    obtain ⟨k0, k1, k2⟩ := blk3 (v0 := .slice none 0 0) (v1 := .slice none 0 0) (v2 := .slice none 0 0) r0 r1 r2
    (try simp only [Exit.inBlock, Exit.then])
    refine bodyPost_ret (by simp [results, Tryd.results8, go_sem, k0, k1, k2]; try rfl) rfl ?_
    exact ⟨noM, rfl, Mv.Same.refl _, noM_own _ _, blk3_below HB1.out (by omega)⟩

end Go.Proofs.YteaabfnmnekbpaaDoor

namespace Go.Proofs.YteaabfnmnekbpaaDoor
open Go.RowKit

/-- a number from 0 to many - 1 -/
def pick (n many : Int) : Int := (if n < 0 then -(n + 1) else n) % many
theorem pick_lt (n : Int) {many : Int} (h : 0 < many) : 0 ≤ pick n many ∧ pick n many < many := ⟨Int.emod_nonneg _ (by omega), Int.emod_lt_of_pos _ h⟩

theorem picked_any (n many : Int) (w : World) (hn : (Lit.int .i64 n).wf = true) (h0 : 0 < many) (h1 : many ≤ 1000000) :
    Calls Tryd.prog 6 #[.int .i64 n, .int .i64 many] w fun e w' => e = .returned (.int .i64 (pick n many)) ∧ w = w' := by
  have hb := i64_wf hn
  have hne : ¬ many = 0 := by omega
  by_cases h : n < 0
  · have hp : pick n many = (-(n + 1)) % many := by unfold pick; rw [if_pos h]
    rw [hp]
    have h2 : 0 ≤ -(n + 1) := by omega
    clear hn hp
    go_enter Tryd.func6, Tryd.ntmps6
    go_wp2
    go_ret
    exact ⟨by apply ret_int; rw [← Int.neg_tmod, Int.tmod_eq_emod_of_nonneg h2], rfl⟩
  · have hp : pick n many = n % many := by unfold pick; rw [if_neg h]
    rw [hp]
    have h2 : 0 ≤ n := by omega
    clear hn hp
    go_enter Tryd.func6, Tryd.ntmps6
    go_wp2
    go_ret
    exact ⟨by first | rfl | (apply ret_int; rw [Int.tmod_eq_emod_of_nonneg h2]), rfl⟩

end Go.Proofs.YteaabfnmnekbpaaDoor

namespace Go.Proofs.YteaabfnmnekbpaaDoor
open Go.RowKit

structure Box (w W : World) (b : Nat) (N C : Mv) : Prop where
  bel : Below w.heap.size w W
  ge : w.heap.size ≤ b
  lt : b < W.heap.size
  c0 : W.cell? ⟨b, 0, none⟩ = some (.slice N.fa N.frs.length N.fcap)
  c1 : W.cell? ⟨b, 1, none⟩ = some (.slice N.ea N.ens.length N.ecap)
  c2 : W.cell? ⟨b, 2, none⟩ = some (.slice N.qa N.qus.length N.qcap)
  fz : ∀ o, W.frozen? ⟨b, o, none⟩ = false
  at_ : MachAt W N
  same : N.Same C
theorem wrap_wf (x : Int) : (Lit.int .i64 (IntKind.i64.wrap x)).wf = true := by
  rw [IntKind.wrap_i64]
  simp [Lit.wf, IntKind.min, IntKind.max, IntKind.bits, IntKind.signed]
  omega
theorem fits_good {M N : Mv} (hz : machF M = 0) (hs : N.Same M) : N.Fits := by
  have g := good_iff.1 hz
  refine fits_same (M := M) ⟨by rw [g.s1]; omega, fun j hj => ?_, by rw [g.s2]; omega, by have := g.s3; omega⟩ hs
  rw [(machF_words hz (by have := g.s1; omega)).1]; omega
theorem Box.keep {w W W' : World} {b : Nat} {N C : Mv} (h : Box w W b N C) (hb : Below W.heap.size W W') : Box w W' b N C :=
  ⟨h.bel.trans (hb.mono h.bel.size), h.ge, Nat.lt_of_lt_of_le h.lt hb.size, (hb.cell (p := ⟨b, 0, none⟩) h.lt).trans h.c0, (hb.cell (p := ⟨b, 1, none⟩) h.lt).trans h.c1, (hb.cell (p := ⟨b, 2, none⟩) h.lt).trans h.c2, fun o => (hb.frozen (p := ⟨b, o, none⟩) h.lt).trans (h.fz o), h.at_.below hb, h.same⟩
theorem Box.new {w W : World} {N C : Mv} (hb : Below w.heap.size w W) (hM : MachAt W N) (hs : N.Same C) : Box w (W.alloc (.cells #[.slice N.fa N.frs.length N.fcap, .slice N.ea N.ens.length N.ecap, .slice N.qa N.qus.length N.qcap] 26)) W.heap.size N C := by
  obtain ⟨x0, x1, x2, _, _, _, xl⟩ := box_cells (a11 W (.cells #[.slice N.fa N.frs.length N.fcap, .slice N.ea N.ens.length N.ecap, .slice N.qa N.qus.length N.qcap] 26))
  exact ⟨hb.alloc hb.size _, hb.size, xl, x0, x1, x2, fun o => frozen_of_block (a11 W _) o, hM.below ((Below.refl _ _).alloc (Nat.le_refl _) _), hs⟩
theorem Box.store {w W w1 : World} {b : Nat} {N C N' C' : Mv} (h : Box w W b N C) (hb : Below W.heap.size W w1) (hO : Owned W.heap.size w1 N') (hs : N'.Same C') :
    Box w (((w1.setCell ⟨b, 0, none⟩ (.slice N'.fa N'.frs.length N'.fcap)).setCell ⟨b, 1, none⟩ (.slice N'.ea N'.ens.length N'.ecap)).setCell ⟨b, 2, none⟩ (.slice N'.qa N'.qus.length N'.qcap)) b N' C' := by
  have h1 := h.keep hb
  obtain ⟨k0, k1, k2⟩ := blk3 (v0 := .slice N'.fa N'.frs.length N'.fcap) (v1 := .slice N'.ea N'.ens.length N'.ecap) (v2 := .slice N'.qa N'.qus.length N'.qcap) h1.c0 h1.c1 h1.c2
  refine ⟨blk3_below h1.bel h.ge, h.ge, by rw [blk3_size]; exact h1.lt, k0, k1, k2, fun o => ?_, (hO.keep (fun b' hb' _ => blk3_heap b' (by have := h.lt; omega)) (by rw [blk3_size]; exact Nat.le_refl _)).at_, hs⟩
  rw [World.frozen?_setCell, World.frozen?_setCell, World.frozen?_setCell]
  exact h1.fz o

theorem put_box {w W : World} {b : Nat} {N C : Mv} (bx : Box w W b N C) (hz : machF C = 0) (ht : Tab w) (e f a r : Int) (wa : (Lit.int .i64 a).wf = true) (wr : (Lit.int .i64 r).wf = true) {z : Int} (hf : putF C e f a r = z) :
    Calls Tryd.prog 7 #[N.val, .int .i64 e, .int .i64 f, .int .i64 a, .int .i64 r] W fun x w' => ∃ N' : Mv, x = .returned (.tuple #[N'.val, .int .i64 z]) ∧ N'.Same (putM C e f a r) ∧ Owned W.heap.size w' N' ∧ Below W.heap.size W w' := by
  refine (put_any N e f a r W bx.at_ (fits_good hz bx.same) wa wr (ht.below bx.bel)).mono ?_
  rintro x w' ⟨N', rfl, hS, hO, hb⟩
  rw [putF_same bx.same, hf]
  exact ⟨N', rfl, hS.trans (putM_same bx.same e f a r), hO, hb⟩

theorem measure_box {w W : World} {b : Nat} {N C : Mv} (bx : Box w W b N C) (hz : machF C = 0) (ht : Tab w) (e a : Int) (wa : (Lit.int .i64 a).wf = true) {z : Int} (hf : meaF C e a = z) :
    Calls Tryd.prog 8 #[N.val, .int .i64 e, .int .i64 a] W fun x w' => ∃ N' : Mv, x = .returned (.tuple #[N'.val, .int .i64 z]) ∧ N'.Same (meaM C e a) ∧ Owned W.heap.size w' N' ∧ Below W.heap.size W w' := by
  refine (measure_any N e a W bx.at_ (fits_good hz bx.same) wa (ht.below bx.bel)).mono ?_
  rintro x w' ⟨N', rfl, hS, hO, hb⟩
  rw [meaF_same bx.same, hf]
  exact ⟨N', rfl, hS.trans (meaM_same bx.same e a), hO, hb⟩

theorem start_box {w W : World} {b : Nat} {N C : Mv} (bx : Box w W b N C) (hz : machF C = 0) (e : Int) {z : Int} (hf : askF C e 1 = z) :
    Calls Tryd.prog 9 #[N.val, .int .i64 e] W fun x w' => ∃ N' : Mv, x = .returned (.tuple #[N'.val, .int .i64 z]) ∧ N'.Same (startM C e) ∧ Owned W.heap.size w' N' ∧ Below W.heap.size W w' := by
  refine (start_any N e W bx.at_ (fits_good hz bx.same)).mono ?_
  rintro x w' ⟨N', rfl, hS, hO, hb⟩
  rw [askF_same bx.same, hf]
  exact ⟨N', rfl, hS.trans (startM_same bx.same e), hO, hb⟩

theorem create_box {w W : World} {N C : Mv} (hw : Below w.heap.size w W) (hN : MachAt W N) (hs : N.Same C) (hz : machF C = 0) (ht : Tab w) {n z : Int} (hn : creN C = n) (hf : creF C = z) :
    Calls Tryd.prog 4 #[N.val] W fun x w' => ∃ N' : Mv, x = .returned (.tuple #[N'.val, .int .i64 n, .int .i64 z]) ∧ N'.Same (creM C) ∧ Owned W.heap.size w' N' ∧ Below W.heap.size W w' := by
  refine (create_any N W hN (fits_good hz hs) (ht.below hw)).mono ?_
  rintro x w' ⟨N', rfl, hS, hO, hb⟩
  rw [creF_same hs, creN_same hs, hf, hn]
  exact ⟨N', rfl, hS.trans (creM_same hs), hO, hb⟩
end Go.Proofs.YteaabfnmnekbpaaDoor
