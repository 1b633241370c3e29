/-
  What a machine that may be is (own work), and that what is done to it leaves it so: Poke, Create, Put, Measure, Start, Remove. No condition. What the call LookedOf (riddleref) answers: the nonce is back, or what is refused, in memory of its own; it turns nothing that was in memory. The condition: the lists are within the reach of the form. A variable that holds a challenger (own work): what it holds behind a call. No condition. What a script does, as a function of the lists alone (own work): act by act; two machines that hold the same answer the same; a machine that may be stays one. No condition.
-/
import Derived.Test.YtdngbojbpmdegaaGreatDoorJOwnNew
import Derived.Test.YtdngbojbpmdegaaGreatDoorJGoodM
import Derived.Test.YtdngbojbpmdegaaGreatDoorCreate
import Derived.Test.YtdngbojbpmdegaaGreatDoorRemove
import Derived.Test.YtdngbojbpmdegaaGreatDoorNew
import Derived.Test.YtdngbojbpmdegaaGreatDoorJLook
import Derived.Deep.QuietTactic
import Derived.BigQuiet
import Derived.Test.YtdngbojbpmdegaaGreatDoorJHostAsk
import Derived.Test.YtdngbojbpmdegaaGreatDoorHostDo
import Derived.Test.YtdngbojbpmdegaaGreatDoorJRunEnd
namespace Go.Proofs.YtdngbojbpmdegaaGreatDoor
open Go.RowKit

theorem poke_good {M : Mv} {f a n : Int} (hF : pokeF M f a n = 0) : machF (pokeM M f a n) = 0 := by
  unfold pokeM
  rw [if_pos hF]
  unfold pokeF at hF
  split at hF
  · rename_i hw
    obtain ⟨hz, hf, _⟩ := wordF_zero hw
    have hfi := inB_iff.1 hf
    split at hF
    · rename_i hn
      split
      · exact good_iff.2 ((good_iff.1 hz).word (by omega) hn)
      · exact hz
    · omega
  · rename_i hw; exact absurd hF hw
theorem create_good {M : Mv} (hF : creF M = 0) : machF (creM M) = 0 := by
  unfold creM
  rw [if_pos hF]
  unfold creF at hF
  split at hF
  · rename_i hz
    exact good_iff.2 ((good_iff.1 hz).ens (by decide) (fun _ => by decide))
  · rename_i hz; exact absurd hF hz
/-- a text more behind a log -/
theorem Good.logg {M : Mv} (h : Good M) {m : Nat} (hm : m < 4) {s : ByteArray} (h0 : (M.ens.getD m default).st ≠ 0) (hl : logF M m s = 0) : Good { M with ens := M.ens.set m ((M.ens.getD m default).withLog s) } := by
  refine h.ens (enGood_iff.2 ?_) (fun h => h)
  have hg := enGood_iff.1 (h.en m hm)
  refine ⟨hg.1, ?_, fun e => absurd e h0, hg.2.2.2⟩
  unfold logF at hl
  split at hl
  · omega
  · show ((M.ens.getD m default).log ++ s).size ≤ 1000
    rw [ByteArray.size_append]; omega
theorem place_none {frs : List Fr} {e a : Int} (h : placeOf frs e a < 0) : ∀ f ∈ frs, plB e a f = false := by
  unfold placeOf idxOf at h
  cases hf : frs.findIdx? (plB e a) with
  | none => intro f hx; simpa using List.findIdx?_eq_none_iff.1 hf f hx
  | some i => rw [hf] at h; simp only at h; omega
theorem put_good {M : Mv} {e f a r : Int} (hF : putF M e f a r = 0) : machF (putM M e f a r) = 0 := by
  unfold putM
  rw [if_pos hF]
  unfold putF at hF
  split at hF
  · rename_i hz
    obtain ⟨hz0, m, rfl, hm4, hst, _⟩ := askF_zero hz
    rw [show ((m : Int) + 1 - 1).toNat = m by omega] at hF ⊢
    split at hF
    · rename_i hf
      have hfi := inB_iff.1 hf
      split at hF
      · rename_i ha
        rw [Bool.and_eq_true] at ha
        split at hF
        · rename_i ho
          split at hF
          · rename_i hp
            have g := good_iff.1 hz0
            have hg := goodFr_iff.1 (g.fr f.toNat (by omega))
            have hpn := place_none hp
            have g1 := g.frm (k := f.toNat) (f := putFr M f.toNat ((m : Int) + 1) a r) (goodFr_iff.2 ⟨hg.1, inB_iff.2 ⟨by show (0 : Int) ≤ (m : Int) + 1; omega, by show (m : Int) + 1 ≤ 4; omega⟩, ha.1, ha.2, fun h => absurd h (by show (m : Int) + 1 ≠ 0; omega), fun _ => by show (M.ens.getD ((m : Int) + 1 - 1).toNat default).st ≠ 0; rw [show ((m : Int) + 1 - 1).toNat = m by omega]; exact hst⟩) (fun i hi _ _ hc => by
              have hil : i < M.frs.length := by have := g.s1; omega
              have := hpn (M.frs.getD i default) (by simp [List.getD_eq_getElem?_getD, hil])
              simp only [plB, hc.1, hc.2, putFr, beq_self_eq_true, Bool.and_true, decide_eq_false_iff_not] at this
              omega)
            exact good_iff.2 (g1.logg (m := m) hm4 hst hF)
          · omega
        · omega
      · omega
    · omega
  · rename_i hz; exact absurd hF hz
theorem measure_good {M : Mv} {e a : Int} (hF : meaF M e a = 0) : machF (meaM M e a) = 0 := by
  unfold meaM
  rw [if_pos hF]
  unfold meaF at hF
  split at hF
  · rename_i hz
    obtain ⟨hz0, m, rfl, hm4, hst, _⟩ := askF_zero hz
    rw [show ((m : Int) + 1 - 1).toNat = m by omega] at hF ⊢
    split at hF
    · omega
    · exact good_iff.2 ((good_iff.1 hz0).logg hm4 hst hF)
  · rename_i hz; exact absurd hF hz
theorem start_good {M : Mv} {e : Int} (hF : askF M e 1 = 0) : machF (startM M e) = 0 := by
  unfold startM
  rw [if_pos hF]
  obtain ⟨hz0, m, rfl, hm4, hst, hs1⟩ := askF_zero hF
  rw [show ((m : Int) + 1 - 1).toNat = m by omega]
  have g := good_iff.1 hz0
  have hg := enGood_iff.1 (g.en m hm4)
  have hs := hs1 (by omega)
  rw [hs] at hg
  exact good_iff.2 (g.ens (enGood_iff.2 ⟨(show inB 2 0 4 = true by decide), hg.2.1, fun h => absurd h (by show (2 : Int) ≠ 0; omega), by have h4 := hg.2.2.2; rw [if_neg (by omega)] at h4; show (if (2 : Int) = 3 then _ else _); rw [if_neg (by omega)]; exact h4⟩) (fun _ => by show (2 : Int) ≠ 0; omega))
theorem zeroFr_good (ens : List En) : Fr.good ens zeroFr = true := goodFr_iff.2 ⟨by decide, by decide, by decide, by decide, fun _ => ⟨rfl, rfl⟩, fun h => absurd rfl h⟩
theorem frmap_getD {l : List Fr} (g : Fr → Fr) {j : Nat} (hj : j < l.length) : (l.map g).getD j default = g (l.getD j default) := by simp [List.getD_eq_getElem?_getD, hj]
theorem remove_good {M : Mv} {e : Int} (hF : askF M e (-1) = 0) : machF (remM M e) = 0 := by
  unfold remM
  rw [if_pos hF]
  obtain ⟨hz0, m, rfl, hm4, hst, _⟩ := askF_zero hF
  rw [show ((m : Int) + 1 - 1).toNat = m by omega]
  have g := good_iff.1 hz0
  have hl : ∀ j, j < 24 → j < M.frs.length := fun j hj => by have := g.s1; omega
  refine good_iff.2 ⟨by simpa using g.s1, by simpa using g.s2, g.s3, fun i hi => ?_, fun j hj => ?_, fun i j hij hj h0 hc => ?_, g.qu⟩
  · show ((M.ens.set m default).getD i default).good = true
    rw [getD_set_any]; split
    · decide
    · exact g.en i hi
  · show Fr.good (M.ens.set m default) ((M.frs.map (remFr ((m : Int) + 1))).getD j default) = true
    rw [frmap_getD _ (hl j hj)]
    unfold remFr
    split
    · exact zeroFr_good _
    · rename_i ho
      have hg := goodFr_iff.1 (g.fr j hj)
      refine goodFr_iff.2 ⟨hg.1, hg.2.1, hg.2.2.1, hg.2.2.2.1, hg.2.2.2.2.1, fun h0 => ?_⟩
      have hb := inB_iff.1 hg.2.1
      rw [getD_set_any, if_neg (by omega)]
      exact hg.2.2.2.2.2 h0
  · have h0' : ((M.frs.map (remFr ((m : Int) + 1))).getD j default).o ≠ 0 := h0
    have hc' : ((M.frs.map (remFr ((m : Int) + 1))).getD i default).o = ((M.frs.map (remFr ((m : Int) + 1))).getD j default).o ∧ ((M.frs.map (remFr ((m : Int) + 1))).getD i default).at_ = ((M.frs.map (remFr ((m : Int) + 1))).getD j default).at_ := hc
    rw [frmap_getD _ (hl j hj)] at h0' hc'
    rw [frmap_getD _ (hl i (by omega))] at hc'
    unfold remFr at h0' hc'
    split at h0'
    · exact h0' rfl
    · rename_i hj1
      rw [if_neg hj1] at hc'
      split at hc'
      · exact h0' hc'.1.symm
      · exact g.tw i j hij hj h0' hc'
theorem new_good : machF newM = 0 := by
  refine good_iff.2 ⟨by simp [newM], by simp [newM], by simp [newM], fun i hi => ?_, fun j hj => ?_, fun i j hij hj h0 => ?_, fun q hq => by simp [newM] at hq⟩
  · show ((List.replicate 4 (default : En)).getD i default).good = true
    rw [rep_getD _ _ _ hi]; decide
  · show Fr.good _ ((List.replicate 24 zeroFr).getD j default) = true
    rw [rep_getD _ _ _ hj]; exact zeroFr_good _
  · exfalso
    have h0' : ((List.replicate 24 zeroFr).getD j default).o ≠ 0 := h0
    rw [rep_getD _ _ _ hj] at h0'
    exact h0' rfl

end Go.Proofs.YtdngbojbpmdegaaGreatDoor

namespace Go.Proofs.YtdngbojbpmdegaaGreatDoor
open Go.RowKit

end Go.Proofs.YtdngbojbpmdegaaGreatDoor

namespace Go.Proofs.YtdngbojbpmdegaaGreatDoor
open Go.RowKit

structure CBox (w W : World) (b : Nat) (N D : Cv) : Prop where
  bel : Below w.heap.size w W
  ge : w.heap.size ≤ b
  lt : b < W.heap.size
  c0 : W.cell? ⟨b, 0, none⟩ = some (.slice N.ta N.tr.length N.tcap)
  c1 : W.cell? ⟨b, 1, none⟩ = some (.slice N.na N.ns.length N.ncap)
  fz : ∀ o, W.frozen? ⟨b, o, none⟩ = false
  at_ : ChalAt W N
  same : N.Same D
theorem CBox.keep {w W W' : World} {b : Nat} {N D : Cv} (h : CBox w W b N D) (hb : Below W.heap.size W W') : CBox w W' b N D :=
  ⟨h.bel.trans (hb.mono h.bel.size), h.ge, Nat.lt_of_lt_of_le h.lt hb.size, (hb.cell (p := ⟨b, 0, none⟩) h.lt).trans h.c0, (hb.cell (p := ⟨b, 1, none⟩) h.lt).trans h.c1, fun o => (hb.frozen (p := ⟨b, o, none⟩) h.lt).trans (h.fz o), h.at_.below hb, h.same⟩
theorem CBox.new {w W : World} {N D : Cv} (hb : Below w.heap.size w W) (hM : ChalAt W N) (hs : N.Same D) (t : TypeId) : CBox w (W.alloc (.cells #[.slice N.ta N.tr.length N.tcap, .slice N.na N.ns.length N.ncap] t)) W.heap.size N D := by
  have h1 := a11 W (.cells #[.slice N.ta N.tr.length N.tcap, .slice N.na N.ns.length N.ncap] t)
  exact ⟨hb.alloc hb.size _, hb.size, by simp, by rw [World.cell?_alloc_at _ _ _ _ rfl]; rfl, by rw [World.cell?_alloc_at _ _ _ _ rfl]; rfl, fun o => frozen_of_block h1 o, hM.below ((Below.refl _ _).alloc (Nat.le_refl _) _), hs⟩
theorem CBox.store {w W w1 : World} {b : Nat} {N D N' D' : Cv} (h : CBox w W b N D) (hb : Below W.heap.size W w1) (hO : COwn W.heap.size w1 N') (hs : N'.Same D') :
    CBox w ((w1.setCell ⟨b, 0, none⟩ (.slice N'.ta N'.tr.length N'.tcap)).setCell ⟨b, 1, none⟩ (.slice N'.na N'.ns.length N'.ncap)) b N' D' := by
  have h1 := h.keep hb
  obtain ⟨k0, k1⟩ := blk2 (v0 := .slice N'.ta N'.tr.length N'.tcap) (v1 := .slice N'.na N'.ns.length N'.ncap) h1.c0 h1.c1
  have hh : ∀ b', b' ≠ b → ((w1.setCell ⟨b, 0, none⟩ (.slice N'.ta N'.tr.length N'.tcap)).setCell ⟨b, 1, none⟩ (.slice N'.na N'.ns.length N'.ncap)).heap[b']? = w1.heap[b']? := fun b' hb' => by rw [Below.heap_setCell _ _ _ _ hb', Below.heap_setCell _ _ _ _ hb']
  have lT := ownsRow_block hO.tr
  have lN := ownsRow_block hO.ns
  have hO2 : COwn W.heap.size ((w1.setCell ⟨b, 0, none⟩ (.slice N'.ta N'.tr.length N'.tcap)).setCell ⟨b, 1, none⟩ (.slice N'.na N'.ns.length N'.ncap)) N' :=
    ⟨ownsRow_keep hO.tr fun b' o s e => hh b' (by have := (lT b' o s e).1; have := h.lt; omega), ownsRow_keep hO.ns fun b' o s e => hh b' (by have := (lN b' o s e).1; have := h.lt; omega), hO.off, hO.ok⟩
  refine ⟨(h1.bel.setCell h.ge _).setCell h.ge _, h.ge, by simp [World.setCell]; exact h1.lt, k0, k1, fun o => ?_, hO2.at_, hs⟩
  rw [World.frozen?_setCell, World.frozen?_setCell]
  exact h1.fz o
theorem fits_chF {C N : Cv} (hz : chF C.tr C.ns = 0) (hs : N.Same C) : N.Fits := by
  have g := chF_zero hz
  exact ⟨by rw [hs.tr]; omega, by rw [hs.ns]; omega⟩
/-- a variable that was made ahead of a call -/
theorem zbox {X w2 : World} {b : Nat} {t : TypeId} (hX : X.heap[b]? = some (.cells #[.slice none 0 0, .slice none 0 0] t (0, 0))) (hb : Below X.heap.size X w2) :
    w2.cell? ⟨b, 0, none⟩ = some (.slice none 0 0) ∧ w2.cell? ⟨b, 1, none⟩ = some (.slice none 0 0) ∧ w2.frozen? ⟨b, 0, none⟩ = false ∧ w2.frozen? ⟨b, 1, none⟩ = false ∧ b < w2.heap.size := by
  have lt : b < X.heap.size := (Array.getElem?_eq_some_iff.1 hX).1
  have c0 : X.cell? ⟨b, 0, none⟩ = some (.slice none 0 0) := by simp [World.cell?, hX]
  have c1 : X.cell? ⟨b, 1, none⟩ = some (.slice none 0 0) := by simp [World.cell?, hX]
  exact ⟨(hb.cell (p := ⟨b, 0, none⟩) lt).trans c0, (hb.cell (p := ⟨b, 1, none⟩) lt).trans c1, (hb.frozen (p := ⟨b, 0, none⟩) lt).trans (frozen_of_block hX 0), (hb.frozen (p := ⟨b, 1, none⟩) lt).trans (frozen_of_block hX 1), Nat.lt_of_lt_of_le lt hb.size⟩
theorem zcbox {w X : World} {b : Nat} {t : TypeId} (hX : X.heap[b]? = some (.cells #[.slice none 0 0, .slice none 0 0] t (0, 0))) (hb : Below w.heap.size w X) (hge : w.heap.size ≤ b) : CBox w X b noC noC :=
  ⟨hb, hge, (Array.getElem?_eq_some_iff.1 hX).1, by simp [World.cell?, hX, noC], by simp [World.cell?, hX, noC], fun o => frozen_of_block hX o, (noC_own 0 X).at_, Cv.Same.refl _⟩

/-- a variable that was made ahead of a call -/
structure ZBox (w X w2 : World) (b : Nat) : Prop where
  e0 : w2.cell? ⟨b, 0, none⟩ = some (.slice none 0 0)
  e1 : w2.cell? ⟨b, 1, none⟩ = some (.slice none 0 0)
  z0 : w2.frozen? ⟨b, 0, none⟩ = false
  z1 : w2.frozen? ⟨b, 1, none⟩ = false
  lt : b < w2.heap.size
  st : ∀ N' D' : Cv, COwn X.heap.size w2 N' → N'.Same D' → CBox w ((w2.setCell ⟨b, 0, none⟩ (.slice N'.ta N'.tr.length N'.tcap)).setCell ⟨b, 1, none⟩ (.slice N'.na N'.ns.length N'.ncap)) b N' D'
theorem zbox' {w X w2 : World} {b : Nat} {t : TypeId} (hX : X.heap[b]? = some (.cells #[.slice none 0 0, .slice none 0 0] t (0, 0))) (hw : Below w.heap.size w X) (hge : w.heap.size ≤ b) (hb : Below X.heap.size X w2) : ZBox w X w2 b := by
  obtain ⟨a, b', c, d, e⟩ := zbox hX hb
  exact ⟨a, b', c, d, e, fun N' D' hO hs => (zcbox hX hw hge).store hb hO hs⟩
/-- a variable that lies there, empty -/
structure ZAt (w X : World) (b : Nat) : Prop where
  hX : ∃ t, X.heap[b]? = some (.cells #[.slice none 0 0, .slice none 0 0] t (0, 0))
  bel : Below w.heap.size w X
  ge : w.heap.size ≤ b
theorem ZAt.box {w X w2 : World} {b : Nat} (h : ZAt w X b) (hb : Below X.heap.size X w2) : ZBox w X w2 b := by
  obtain ⟨t, hX⟩ := h.hX
  exact zbox' hX h.bel h.ge hb
end Go.Proofs.YtdngbojbpmdegaaGreatDoor

namespace Go.Proofs.YtdngbojbpmdegaaGreatDoor
open Go.RowKit

theorem chkE_same {M N : Mv} {C D : Cv} (h : M.Same N) (k : C.Same D) (a : Int) : chkE M C a = chkE N D a := by
  unfold chkE; rw [h.qu, lookE_same k]
theorem chkD_same {M N : Mv} {C D : Cv} (h : M.Same N) (k : C.Same D) (a : Int) : (chkD M C a).Same (chkD N D a) := by
  unfold chkD
  rw [chkE_same h k, h.qu]
  split
  · exact lookC_same k _ _
  · exact k
theorem actC_same {M N : Mv} {C D : Cv} (h : M.Same N) (k : C.Same D) (x : Ac) : actC M C x = actC N D x := by
  unfold actC
  rw [creF_same h, putF_same h, meaF_same h, askF_same h, askF_same h, wordF_same h, pokeF_same h, entD_same h, entF_same h, resD_same h, fuelF_same h, askE_same k, chkE_same h k]
theorem fr_sameH {M N : Mv} (h : M.Same N) (k : Nat) : (M.frs.getD k default).o = (N.frs.getD k default).o ∧ (M.frs.getD k default).ws = (N.frs.getD k default).ws := by
  by_cases hk : k < M.frs.length
  · obtain ⟨a, b, c, d⟩ := h.fr k hk
    first | exact ⟨a, d⟩ | exact ⟨a.symm, d.symm⟩
  · have hl := h.len
    rw [List.getD_eq_getElem?_getD, List.getD_eq_getElem?_getD, List.getElem?_eq_none (by omega), List.getElem?_eq_none (by omega)]
    exact ⟨rfl, rfl⟩
theorem peekN_same {M N : Mv} (h : M.Same N) (f a : Int) : peekN M f a = peekN N f a := by
  unfold peekN
  rw [wordF_same h, (fr_sameH h _).1, (fr_sameH h _).2]
theorem actN_same {M N : Mv} {C D : Cv} (h : M.Same N) (k : C.Same D) (x : Ac) : actN M C x = actN N D x := by
  unfold actN
  rw [creN_same h, peekN_same h, entD_same h, entF_same h, entV_same h, resD_same h, resV_same h, fuelF_same h, askN_same k]
theorem ite_sameM {c : Prop} [Decidable c] {A B A' B' : Mv} (h1 : A.Same A') (h2 : B.Same B') : (if c then A else B).Same (if c then A' else B') := by
  split
  · exact h1
  · exact h2
theorem ite_sameC {c : Prop} [Decidable c] {A B A' B' : Cv} (h1 : A.Same A') (h2 : B.Same B') : (if c then A else B).Same (if c then A' else B') := by
  split
  · exact h1
  · exact h2
theorem actM_same {M N : Mv} {C D : Cv} (h : M.Same N) (x : Ac) : (actM M C x).Same (actM N D x) := by
  unfold actM
  rw [creF_same h, putF_same h, meaF_same h, askF_same h, askF_same h, pokeF_same h, entF_same h, fuelF_same h]
  exact ite_sameM (ite_sameM (creM_same h) h) (ite_sameM (ite_sameM (putM_same h _ _ _ _) h) (ite_sameM (ite_sameM (meaM_same h _ _) h) (ite_sameM (ite_sameM (startM_same h _) h) (ite_sameM (ite_sameM (remM_same h _) h) (ite_sameM (ite_sameM (pokeM_same h _ _ _) h) (ite_sameM (ite_sameM (entM_same h _ _ _) h) (ite_sameM (ite_sameM (resM_same h _ _) h) h)))))))
theorem actD_same {M N : Mv} {C D : Cv} (h : M.Same N) (k : C.Same D) (x : Ac) : (actD M C x).Same (actD N D x) := by
  unfold actD
  rw [askE_same k]
  exact ite_sameC (ite_sameC (askC_same k) k) (ite_sameC (chkD_same h k _) k)
/-- behind a run the machine is one that may be -/
theorem left_good {R : Rn} {m : Nat} (h : EndOk R m) (hm : m < 4) (hn : R.nd = 1 ∨ R.nd = 2 ∨ R.nd = 3) : Good (leftM R m) := by
  have he := enGood_iff.1 (h.good.en m hm)
  unfold leftM
  refine h.good.ens ?_ ?_
  · rw [enGood_iff]
    unfold leftE
    rcases hn with e | e | e
    · rw [if_pos e]
      exact ⟨(by decide : inB 2 0 4 = true), he.2.1, fun q => absurd (show (2 : Int) = 0 from q) (by decide), (by rw [if_neg (show ¬ (2 : Int) = 3 by decide)]; exact ⟨rfl, rfl⟩)⟩
    · rw [if_neg (by omega), if_pos e]
      refine ⟨(by decide : inB 3 0 4 = true), he.2.1, fun q => absurd (show (3 : Int) = 0 from q) (by decide), ?_⟩
      rw [if_pos rfl]
      refine ⟨inB_iff.2 ⟨h.pc.1, h.held e⟩, ?_⟩
      unfold En.words
      simp only [Bool.and_eq_true]
      exact ⟨⟨⟨inB_iff.2 (h.rs 0), inB_iff.2 (h.rs 1)⟩, inB_iff.2 (h.rs 2)⟩, inB_iff.2 (h.rs 3)⟩
    · rw [if_neg (by omega), if_neg (by omega)]
      exact ⟨(by decide : inB 4 0 4 = true), he.2.1, fun q => absurd (show (4 : Int) = 0 from q) (by decide), (by rw [if_neg (show ¬ (4 : Int) = 3 by decide)]; exact ⟨rfl, rfl⟩)⟩
  · intro _
    unfold leftE
    rcases hn with e | e | e
    · rw [if_pos e]; exact (by decide : (2 : Int) ≠ 0)
    · rw [if_neg (by omega), if_pos e]; exact (by decide : (3 : Int) ≠ 0)
    · rw [if_neg (by omega), if_neg (by omega)]; exact (by decide : (4 : Int) ≠ 0)
theorem ent_good {M : Mv} {e word fuel : Int} (h : entF M e word fuel = 0) : machF (entM M e word fuel) = 0 := by
  obtain ⟨m, f, rfl, rfl, hf, ho⟩ := ent_ok h
  unfold entM entR
  rw [if_pos h, good_iff, show ((m : Int) + 1 - 1).toNat = m by omega, Int.toNat_natCast]
  exact left_good (runR_end f ho) ho.m4 (runR_nd f M m 0 _ xorR)
theorem res_good {M : Mv} {e fuel : Int} (h : fuelF M e 3 fuel = 0) : machF (resM M e fuel) = 0 := by
  obtain ⟨m, f, rfl, rfl, hf, ho⟩ := res_ok h
  unfold resM resR
  rw [if_pos h, good_iff, show ((m : Int) + 1 - 1).toNat = m by omega, Int.toNat_natCast]
  exact left_good (runR_end f ho) ho.m4 (runR_nd f M m _ _ xorR)
theorem ite_good {c : Prop} [Decidable c] {A B : Mv} (h1 : c → machF A = 0) (h2 : machF B = 0) : machF (if c then A else B) = 0 := by
  split
  · rename_i h; exact h1 h
  · exact h2
theorem act_good {M : Mv} (C : Cv) (x : Ac) (h : machF M = 0) : machF (actM M C x) = 0 := by
  unfold actM
  exact ite_good (fun _ => ite_good create_good h) (ite_good (fun _ => ite_good put_good h) (ite_good (fun _ => ite_good measure_good h) (ite_good (fun _ => ite_good start_good h) (ite_good (fun _ => ite_good remove_good h) (ite_good (fun _ => ite_good poke_good h) (ite_good (fun _ => ite_good ent_good h) (ite_good (fun _ => ite_good res_good h) h)))))))
theorem ask_chF {C : Cv} (h : askE C = 0) : chF (askC C).tr (askC C).ns = 0 := by
  unfold askC
  rw [if_pos h]
  unfold askE at h
  by_cases h0 : chF C.tr C.ns = 0
  · rw [if_pos h0] at h
    by_cases h1 : 20 ≤ C.ns.length
    · rw [if_pos h1] at h; cases h
    · unfold moreC
      unfold chF at h0 ⊢
      dsimp only
      by_cases g1 : 4 < C.tr.length ∨ 20 < C.ns.length
      · rw [if_pos g1] at h0; cases h0
      · rw [if_neg g1] at h0
        rw [if_neg (by simp; omega)]
        by_cases g2 : (C.tr.any tooLong || C.ns.any noNonce) = true
        · rw [if_pos g2] at h0; cases h0
        · rw [if_neg]
          simp only [Bool.or_eq_true, not_or, Bool.not_eq_true, List.any_append] at g2 ⊢
          exact ⟨g2.1, g2.2, rfl⟩
  · rw [if_neg h0] at h; exact absurd h h0
theorem look_chF {C : Cv} {made : List Qu} {q : Qu} (h : lookE C made q = 0) : chF (lookC C made q).tr (lookC C made q).ns = 0 := by
  unfold lookC
  rw [if_pos h]
  have h0 : chF C.tr C.ns = 0 := by
    unfold lookE at h
    by_cases h0 : chF C.tr C.ns = 0
    · exact h0
    · rw [if_neg h0] at h; exact absurd h h0
  unfold backC
  unfold chF at h0 ⊢
  dsimp only
  by_cases g1 : 4 < C.tr.length ∨ 20 < C.ns.length
  · rw [if_pos g1] at h0; cases h0
  · rw [if_neg g1] at h0
    rw [if_neg (by simpa using g1)]
    by_cases g2 : (C.tr.any tooLong || C.ns.any noNonce) = true
    · rw [if_pos g2] at h0; cases h0
    · rw [if_neg]
      simp only [Bool.or_eq_true, not_or, Bool.not_eq_true] at g2 ⊢
      have g3 := g2.2
      refine ⟨g2.1, ?_⟩
      rw [List.any_eq_false] at g3 ⊢
      intro n hn
      rcases List.mem_or_eq_of_mem_set hn with q' | q'
      · exact g3 n q'
      · subst q'; decide
theorem act_chF {M : Mv} {C : Cv} (x : Ac) (h : chF C.tr C.ns = 0) : chF (actD M C x).tr (actD M C x).ns = 0 := by
  unfold actD
  split
  · split
    · rename_i g; exact ask_chF g
    · exact h
  · split
    · unfold chkD
      split
      · rename_i g
        unfold chkE at g
        by_cases r : 0 ≤ x.at_ ∧ x.at_ < (M.qus.length : Int)
        · rw [if_pos r] at g; exact look_chF g
        · rw [if_neg r] at g; cases g
      · exact h
    · exact h

/-- a script, act by act -/
structure Hs where
  M : Mv
  C : Cv
def hstep (s : Hs) (x : Ac) : Hs := ⟨actM s.M s.C x, actD s.M s.C x⟩
def hst (s : Hs) (l : List Ac) : Hs := l.foldl hstep s
/-- the answers: a code and a number each -/
def hans : Hs → List Ac → List (Int × Int)
  | _, [] => []
  | s, x :: l => (actC s.M s.C x, actN s.M s.C x) :: hans (hstep s x) l
theorem hst_snoc (s : Hs) (l : List Ac) (x : Ac) : hst s (l ++ [x]) = hstep (hst s l) x := by simp [hst]
theorem hans_len (s : Hs) (l : List Ac) : (hans s l).length = l.length := by
  induction l generalizing s with
  | nil => rfl
  | cons y l ih => simp only [hans, List.length_cons, ih]
theorem hst_good (s : Hs) (l : List Ac) (h : machF s.M = 0) (hc : chF s.C.tr s.C.ns = 0) : machF (hst s l).M = 0 ∧ chF (hst s l).C.tr (hst s l).C.ns = 0 := by
  induction l generalizing s with
  | nil => exact ⟨h, hc⟩
  | cons y l ih => exact ih (hstep s y) (act_good s.C y h) (act_chF y hc)
end Go.Proofs.YtdngbojbpmdegaaGreatDoor
