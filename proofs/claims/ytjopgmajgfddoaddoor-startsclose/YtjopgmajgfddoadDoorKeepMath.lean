/-
  What becomes of a new machine (own work): the steps of PagesApart and of StartsClose, reckoned. No condition but the numbers' bounds.
-/
import Derived.Test.YtjopgmajgfddoadDoorGood
namespace Go.Proofs.YtjopgmajgfddoadDoor
open Go.RowKit

theorem place_at {frs : List Fr} {e a : Int} {k : Nat} (hk : k < frs.length) (h : plB e a (frs.getD k default) = true) (hu : ∀ j, j < frs.length → j ≠ k → plB e a (frs.getD j default) = false) : placeOf frs e a = (k : Int) := by
  rcases place_cases frs e a with hp | ⟨j, hp, hj, hb⟩
  · exfalso
    have := place_none (show placeOf frs e a < 0 by omega) (frs.getD k default) (by simp [List.getD_eq_getElem?_getD, hk])
    rw [h] at this; cases this
  · by_cases e1 : j = k
    · rw [hp, e1]
    · rw [hu j hj e1] at hb; cases hb
theorem place_not {frs : List Fr} {e a : Int} (hu : ∀ j, j < frs.length → plB e a (frs.getD j default) = false) : placeOf frs e a = -1 := by
  rcases place_cases frs e a with hp | ⟨j, hp, hj, hb⟩
  · exact hp
  · rw [hu j hj] at hb; cases hb
theorem plB_own {e a : Int} {f : Fr} (h : f.o ≠ e) : plB e a f = false := by simp [plB, h]
theorem plB_at {e a : Int} {f : Fr} (h : f.at_ ≠ a) : plB e a f = false := by simp [plB, h]
theorem askF_of {M : Mv} {m : Nat} {s : Int} (hz : machF M = 0) (hm : m < 4) (h0 : (M.ens.getD m default).st ≠ 0) (hs : 0 ≤ s → (M.ens.getD m default).st = s) : askF M ((m : Int) + 1) s = 0 := by
  unfold askF
  rw [if_pos hz, if_pos (inB_iff.2 ⟨by omega, by omega⟩), show ((m : Int) + 1 - 1).toNat = m by omega, if_neg h0, if_neg (fun hh => hh.2 (hs hh.1))]
theorem wordF_of {M : Mv} {k p : Nat} (hz : machF M = 0) (hk : k < 24) (hp : p < 8) : wordF M k p = 0 := by
  unfold wordF
  rw [if_pos hz, if_pos]
  rw [Bool.and_eq_true]
  exact ⟨inB_iff.2 ⟨by omega, by omega⟩, inB_iff.2 ⟨by omega, by omega⟩⟩
theorem pokeF_of {M : Mv} {k p : Nat} {v : Int} (hz : machF M = 0) (hk : k < 24) (hp : p < 8) (hv : inB v 0 65535 = true) : pokeF M k p v = 0 := by
  unfold pokeF
  rw [if_pos (wordF_of hz hk hp), if_pos hv]
/-- an enclave that is opened, and no frame is anybody's -/
theorem made_open {M : Mv} (hz : machF M = 0) (he : M.ens = List.replicate 4 default) : creF M = 0 ∧ creN M = 1 ∧ machF (creM M) = 0 ∧ creM M = { M with ens := (List.replicate 4 default).set 0 openE } := by
  have hi : creI M = 0 := by unfold creI; rw [he]; rfl
  have h1 : creF M = 0 := by unfold creF; rw [if_pos hz, hi]; rfl
  refine ⟨h1, by unfold creN; rw [if_pos h1, hi]; rfl, create_good h1, ?_⟩
  unfold creM; rw [if_pos h1, hi, he]; rfl
theorem putF_of {M : Mv} {m k : Nat} {a r : Int} (hz : machF M = 0) (hm : m < 4) (hs : (M.ens.getD m default).st = 1) (hk : k < 24) (ha : inB a 0 7 = true) (hr : inB r 0 7 = true) (ho : (M.frs.getD k default).o = 0) (hp : placeOf M.frs ((m : Int) + 1) a < 0) (hl : (M.ens.getD m default).log.size ≤ 900) :
    putF M ((m : Int) + 1) k a r = 0 ∧ machF (putM M ((m : Int) + 1) k a r) = 0 ∧ putM M ((m : Int) + 1) k a r = { M with frs := M.frs.set k (putFr M k ((m : Int) + 1) a r), ens := M.ens.set m ((M.ens.getD m default).withLog (putS a r)) } := by
  have hai := inB_iff.1 ha
  have hri := inB_iff.1 hr
  have hlog : logF M m (putS a r) = 0 := by
    unfold logF
    have := putS_size a r (wf_of (by omega)) (wf_of (by omega))
    rw [if_neg (by omega)]
  have h1 : putF M ((m : Int) + 1) k a r = 0 := by
    unfold putF
    rw [if_pos (askF_of hz hm (by omega) (fun _ => hs)), if_pos (inB_iff.2 ⟨by omega, by omega⟩), if_pos (by rw [ha, hr]; rfl), show ((k : Int)).toNat = k from Int.toNat_natCast k, if_pos ho, if_pos hp, show ((m : Int) + 1 - 1).toNat = m by omega, hlog]
  refine ⟨h1, put_good h1, ?_⟩
  unfold putM
  rw [if_pos h1, show ((m : Int) + 1 - 1).toNat = m by omega, show ((k : Int)).toNat = k from Int.toNat_natCast k]
theorem new_owner {k : Nat} {f : Fr} (hf : f.o = 0) {j : Nat} (hj : j < 24) : (((List.replicate 24 zeroFr).set k f).getD j default).o = 0 := by
  rw [getD_set_any]; split
  · exact hf
  · rw [rep_getD _ _ _ hj]; rfl

/-- the steps of PagesApart -/
structure Apart2 (k p : Nat) (a v a2 : Int) (C1 C2 C3 C4 C5 : Mv) : Prop where
  e1 : C1 = pokeM newM k p 7
  e2 : C2 = creM C1
  e3 : C3 = putM C2 1 k a 1
  e4 : C4 = pokeM C3 k p v
  e5 : C5 = remM C4 1
  f1 : pokeF newM k p 7 = 0
  f2 : creF C1 = 0
  n2 : creN C1 = 1
  f3 : putF C2 1 k a 1 = 0
  w3 : wordF C3 k p = 0
  p3 : peekN C3 k p = 65535
  f4 : pokeF C3 k p v = 0
  t3 : putF C3 1 k a2 0 = 6
  f5 : askF C4 1 (-1) = 0
  w5 : wordF C5 k p = 0
  p5 : peekN C5 k p = 0
  g5 : machF C5 = 0
  x4 : (C4.frs.getD k default).ws.getD p 0 = 7
  l4 : C4.frs.length = 24 ∧ (C4.frs.getD k default).ws.length = 8
  a3 : placeOf C3.frs 1 a = (k : Int)
theorem apart2 {k p : Nat} (hk : k < 24) (hp : p < 8) {a v a2 : Int} (ha : inB a 0 7 = true) (hv : inB v 0 65535 = true) (ha2 : inB a2 0 7 = true) : ∃ C1 C2 C3 C4 C5, Apart2 k p a v a2 C1 C2 C3 C4 C5 := by
  have f1 : pokeF newM k p 7 = 0 := pokeF_of new_good hk hp (by decide)
  have g1 := poke_good f1
  have kk : ((k : Int)).toNat = k := Int.toNat_natCast k
  have pp : ((p : Int)).toNat = p := Int.toNat_natCast p
  have z0 : newM.frs.getD k default = zeroFr := rep_getD _ _ _ hk
  have c1 : pokeM newM k p 7 = { newM with frs := (List.replicate 24 zeroFr).set k { zeroFr with ws := (List.replicate 8 (0 : Int)).set p 7 } } := by
    unfold pokeM
    rw [if_pos f1, kk, z0, pp, if_pos (show zeroFr.o = 0 from rfl)]
    rfl
  obtain ⟨C1, h1⟩ : ∃ C1, C1 = pokeM newM k p 7 := ⟨_, rfl⟩
  rw [← h1] at g1 c1
  obtain ⟨f2, n2, g2, c2⟩ := made_open g1 (by rw [c1]; rfl)
  obtain ⟨C2, h2⟩ : ∃ C2, C2 = creM C1 := ⟨_, rfl⟩
  rw [← h2] at g2 c2
  have c2f : C2.frs = (List.replicate 24 zeroFr).set k { zeroFr with ws := (List.replicate 8 (0 : Int)).set p 7 } := by rw [c2, c1]
  have o2 : ∀ j, j < 24 → (C2.frs.getD j default).o = 0 := fun j hj => by rw [c2f]; exact new_owner rfl hj
  have e2 : C2.ens.getD 0 default = openE := by rw [c2]; rfl
  obtain ⟨f3, g3, c3⟩ := putF_of (m := 0) (k := k) (a := a) (r := 1) g2 (by omega) (by rw [e2]; rfl) hk ha (by decide) (o2 k hk) (by
    rw [place_not (fun j hj => plB_own (by rw [o2 j (by rw [c2f] at hj; simpa using hj)]; omega))]; omega) (by rw [e2]; decide)
  rw [show (((0 : Nat) : Int) + 1) = 1 by omega] at f3 g3 c3
  obtain ⟨C3, h3⟩ : ∃ C3, C3 = putM C2 1 k a 1 := ⟨_, rfl⟩
  rw [← h3] at g3 c3
  have hl2 : C2.frs.length = 24 := by rw [c2f]; simp
  have c3k : C3.frs.getD k default = putFr C2 k 1 a 1 := by
    rw [c3]; show (C2.frs.set k _).getD k default = _
    rw [getD_set _ _ _ _ (by omega), if_pos rfl]
  have c3o : ∀ j, j < 24 → j ≠ k → (C3.frs.getD j default).o = 0 := fun j hj hne => by
    rw [c3]; show ((C2.frs.set k _).getD j default).o = 0
    rw [getD_set _ _ _ _ (by omega), if_neg hne]; exact o2 j hj
  have l3 : C3.frs.length = 24 := by rw [c3]; show (C2.frs.set k _).length = 24; simpa using hl2
  have ws2 : (C2.frs.getD k default).ws = (List.replicate 8 (0 : Int)).set p 7 := by
    rw [c2f, getD_set _ _ _ _ (by simpa using hk), if_pos rfl]
  have w3 : wordF C3 k p = 0 := wordF_of g3 hk hp
  have ow3 : (C3.frs.getD k default).o = 1 := by rw [c3k]; rfl
  have f4 : pokeF C3 k p v = 0 := pokeF_of g3 hk hp hv
  have c4 : pokeM C3 k p v = C3 := by unfold pokeM; rw [if_pos f4, kk, if_neg (by omega)]
  have e3 : (C3.ens.getD 0 default).st = 1 := by
    rw [c3]; show ((C2.ens.set 0 _).getD 0 default).st = 1
    rw [getD_set_any, e2]; split
    · rfl
    · rfl
  have f5 : askF C3 1 (-1) = 0 := by
    have := askF_of (M := C3) (m := 0) (s := -1) g3 (by omega) (by omega) (fun h => absurd h (by omega))
    simpa using this
  have g5 := remove_good f5
  have r5 : (remM C3 1).frs.getD k default = zeroFr := by
    unfold remM; rw [if_pos f5]; show (C3.frs.map (remFr 1)).getD k default = _
    rw [frmap_getD _ (by omega)]; unfold remFr; rw [if_pos ow3]
  have w5 : wordF (remM C3 1) k p = 0 := wordF_of g5 hk hp
  refine ⟨C1, C2, C3, C3, remM C3 1, ⟨h1, h2, h3, c4.symm, rfl, f1, f2, n2, f3, w3, ?_, f4, ?_, f5, w5, ?_, g5, ?_, ⟨l3, ?_⟩, ?_⟩⟩
  · unfold peekN; rw [if_pos w3, kk, if_neg (by omega)]
  · unfold putF
    have ask : askF C3 1 1 = 0 := by
      have := askF_of (M := C3) (m := 0) (s := 1) g3 (by omega) (by omega) (fun _ => e3)
      simpa using this
    rw [if_pos ask, if_pos (inB_iff.2 ⟨by omega, by omega⟩), if_pos (by rw [ha2]; rfl), kk, if_neg (by omega)]
  · unfold peekN; rw [if_pos w5, kk, r5, if_pos (show zeroFr.o = 0 from rfl), pp]
    exact rep_getD 8 (0 : Int) 0 hp
  · rw [c3k]; show (C2.frs.getD k default).ws.getD p 0 = 7
    rw [ws2]
    simp [List.getD_eq_getElem?_getD, hp]
  · rw [c3k]; show (C2.frs.getD k default).ws.length = 8
    rw [ws2]; simp
  · refine place_at (by omega) ?_ (fun j hj hne => plB_own (by rw [c3o j (by omega) hne]; omega))
    rw [c3k]; simp [plB, putFr]

/-- the steps of StartsClose -/
structure Close (a b : Int) (C1 C2 C3 C4 : Mv) : Prop where
  e1 : C1 = creM newM
  e2 : C2 = putM C1 1 3 a 1
  e3 : C3 = meaM C2 1 a
  e4 : C4 = startM C3 1
  f1 : creF newM = 0
  n1 : creN newM = 1
  f2 : putF C1 1 3 a 1 = 0
  f3 : meaF C2 1 a = 0
  t3 : meaF C3 1 b = 5
  f4 : askF C3 1 1 = 0
  p4 : putF C4 1 4 b 1 = 8
  m4 : meaF C4 1 a = 8
  s4 : askF C4 1 1 = 8
  n4 : askF C4 2 1 = 5
theorem close {a b : Int} (ha : inB a 0 7 = true) (hab : b ≠ a) : ∃ C1 C2 C3 C4, Close a b C1 C2 C3 C4 := by
  have hai := inB_iff.1 ha
  obtain ⟨f1, n1, g1, c1⟩ := made_open new_good (by rfl)
  obtain ⟨C1, h1⟩ : ∃ C1, C1 = creM newM := ⟨_, rfl⟩
  rw [← h1] at g1 c1
  have o1 : ∀ j, j < 24 → (C1.frs.getD j default).o = 0 := fun j hj => by
    rw [c1]; show ((List.replicate 24 zeroFr).getD j default).o = 0
    rw [rep_getD _ _ _ hj]; rfl
  have l1 : C1.frs.length = 24 := by rw [c1]; simp [newM]
  have e1 : C1.ens.getD 0 default = openE := by rw [c1]; rfl
  obtain ⟨f2, g2, c2⟩ := putF_of (m := 0) (k := 3) (a := a) (r := 1) g1 (by omega) (by rw [e1]; rfl) (by omega) ha (by decide) (o1 3 (by omega)) (by
    rw [place_not (fun j hj => plB_own (by rw [o1 j (by omega)]; omega))]; omega) (by rw [e1]; decide)
  rw [show (((0 : Nat) : Int) + 1) = 1 by omega] at f2 g2 c2
  obtain ⟨C2, h2⟩ : ∃ C2, C2 = putM C1 1 (3 : Nat) a 1 := ⟨_, rfl⟩
  rw [← h2] at g2 c2
  have l2 : C2.frs.length = 24 := by rw [c2]; show (C1.frs.set 3 _).length = 24; simpa using l1
  have c23 : C2.frs.getD 3 default = putFr C1 3 1 a 1 := by
    rw [c2]; show (C1.frs.set 3 _).getD 3 default = _
    rw [getD_set _ _ _ _ (by omega), if_pos rfl]
  have c2o : ∀ j, j < 24 → j ≠ 3 → (C2.frs.getD j default).o = 0 := fun j hj hne => by
    rw [c2]; show ((C1.frs.set 3 _).getD j default).o = 0
    rw [getD_set _ _ _ _ (by omega), if_neg hne]; exact o1 j hj
  have hlE : C1.ens.length = 4 := by rw [c1]; rfl
  have e2 : C2.ens.getD 0 default = openE.withLog (putS a 1) := by
    rw [c2]; show (C1.ens.set 0 _).getD 0 default = _
    rw [getD_set _ _ _ _ (by omega), if_pos rfl, e1]
  have pl2 : placeOf C2.frs 1 a = ((3 : Nat) : Int) := by
    refine place_at (by omega) ?_ (fun j hj hne => plB_own (by rw [c2o j (by omega) hne]; omega))
    rw [c23]; simp [plB, putFr]
  have ask2 : askF C2 1 1 = 0 := by
    have := askF_of (M := C2) (m := 0) (s := 1) g2 (by omega) (by rw [e2]; show (1 : Int) ≠ 0; omega) (fun _ => by rw [e2]; rfl)
    simpa using this
  have hsz : (meaS C2 1 a).size ≤ 400 := by
    unfold meaS; rw [pl2, Int.toNat_natCast, c23]
    show (heldS a (C1.frs.getD 3 default).ws).size ≤ 400
    have w3 : (C1.frs.getD 3 default).ws = List.replicate 8 0 := by
      rw [c1]; show ((List.replicate 24 zeroFr).getD 3 default).ws = _
      rw [rep_getD _ _ _ (by omega)]; rfl
    rw [w3]
    unfold heldS entryL
    rw [txt_size, List.length_append, List.length_append]
    have := numsL_le (a :: List.replicate 8 0) fun n hn => by
      rcases List.mem_cons.1 hn with rfl | hn
      · exact wf_of (by omega)
      · rw [List.eq_of_mem_replicate hn]; decide
    simp only [sWords, List.length_cons, List.length_nil, List.length_replicate] at this ⊢
    omega
  have f3 : meaF C2 1 a = 0 := by
    unfold meaF
    rw [if_pos ask2, pl2, if_neg (by omega)]
    unfold logF
    rw [show ((1 : Int) - 1).toNat = 0 by rfl, e2, if_neg]
    have := putS_size a 1 (wf_of (by omega)) (by decide)
    show ¬ ((openE.log ++ putS a 1).size + _ > 1000)
    rw [ByteArray.size_append, show openE.log.size = 5 by rfl]
    omega
  have g3 := measure_good f3
  obtain ⟨C3, h3⟩ : ∃ C3, C3 = meaM C2 1 a := ⟨_, rfl⟩
  have c3 : C3 = { C2 with ens := C2.ens.set 0 ((C2.ens.getD 0 default).withLog (meaS C2 1 a)) } := by rw [h3]; unfold meaM; rw [if_pos f3]; rfl
  rw [← h3] at g3
  have hlE2 : C2.ens.length = 4 := (good_iff.1 g2).s2
  have e3 : (C3.ens.getD 0 default).st = 1 := by
    rw [c3]; show ((C2.ens.set 0 _).getD 0 default).st = 1
    rw [getD_set _ _ _ _ (by omega), if_pos rfl, e2]; rfl
  have ask3 : askF C3 1 1 = 0 := by
    have := askF_of (M := C3) (m := 0) (s := 1) g3 (by omega) (by omega) (fun _ => e3)
    simpa using this
  have g4 := start_good ask3
  have hlE3 : C3.ens.length = 4 := (good_iff.1 g3).s2
  have c4 : startM C3 1 = { C3 with ens := C3.ens.set 0 { C3.ens.getD 0 default with st := 2 } } := by unfold startM; rw [if_pos ask3]; rfl
  have e4 : ((startM C3 1).ens.getD 0 default).st = 2 := by
    rw [c4]; show ((C3.ens.set 0 _).getD 0 default).st = 2
    rw [getD_set _ _ _ _ (by omega), if_pos rfl]
  have e41 : ((startM C3 1).ens.getD 1 default).st = 0 := by
    rw [c4]; show ((C3.ens.set 0 _).getD 1 default).st = 0
    rw [getD_set _ _ _ _ (by omega), if_neg (by omega), c3]
    show ((C2.ens.set 0 _).getD 1 default).st = 0
    rw [getD_set _ _ _ _ (by omega), if_neg (by omega), c2]
    show ((C1.ens.set 0 _).getD 1 default).st = 0
    rw [getD_set _ _ _ _ (by omega), if_neg (by omega), c1]; rfl
  have s4 : askF (startM C3 1) 1 1 = 8 := by
    unfold askF
    rw [if_pos g4, if_pos (by decide), show ((1 : Int) - 1).toNat = 0 by rfl, if_neg (by omega), if_pos ⟨by omega, by omega⟩]
  refine ⟨C1, C2, C3, startM C3 1, ⟨h1, h2, h3, rfl, f1, n1, f2, f3, ?_, ask3, ?_, ?_, s4, ?_⟩⟩
  · unfold meaF
    rw [if_pos ask3, place_not, if_pos (by omega)]
    intro j hj
    have hj' : j < 24 := by have := (good_iff.1 g3).s1; omega
    rw [c3]
    show plB 1 b (C2.frs.getD j default) = false
    by_cases e : j = 3
    · subst e; rw [c23]; exact plB_at (fun h => hab h.symm)
    · exact plB_own (by rw [c2o j hj' e]; omega)
  · unfold putF; rw [s4, if_neg (by omega)]
  · unfold meaF; rw [s4, if_neg (by omega)]
  · unfold askF
    rw [if_pos g4, if_pos (by decide), show ((2 : Int) - 1).toNat = 1 by rfl, if_pos e41]

end Go.Proofs.YtjopgmajgfddoadDoor
