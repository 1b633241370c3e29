/-
  An image that is built as it is planned (own work): each act of the plan is done without an error, and the enclave is Ready, measured as it is expected, its pages in the frames that were asked for. The conditions: nothing is wrong with the image, the frames are nobody's and the enclave is the first that is Empty.
-/
import Derived.Test.YtdngbojbpmdegaaGreatDoorJTopLog
import Derived.Test.YtdngbojbpmdegaaGreatDoorJActs
namespace Go.Proofs.YtdngbojbpmdegaaGreatDoor
open Go.RowKit

theorem hst_append (s : Hs) (a b : List Ac) : hst s (a ++ b) = hst (hst s a) b := List.foldl_append
theorem hans_append (s : Hs) (a b : List Ac) : hans s (a ++ b) = hans s a ++ hans (hst s a) b := by
  induction a generalizing s with
  | nil => rfl
  | cons x a ih => simp only [List.cons_append, hans, ih]; rfl
/-- acts that turn the machine alone, each done without an error -/
def Steps (M : Mv) (l : List Ac) (M' : Mv) : Prop := ∀ C, hst ⟨M, C⟩ l = ⟨M', C⟩ ∧ ∀ x ∈ hans ⟨M, C⟩ l, x.1 = 0
theorem Steps.nil (M : Mv) : Steps M [] M := fun C => ⟨rfl, fun x hx => by cases hx⟩
theorem Steps.append {M M' M'' : Mv} {a b : List Ac} (h : Steps M a M') (g : Steps M' b M'') : Steps M (a ++ b) M'' := fun C => by
  obtain ⟨h1, h2⟩ := h C
  obtain ⟨g1, g2⟩ := g C
  refine ⟨by rw [hst_append, h1, g1], fun x hx => ?_⟩
  rw [hans_append, h1] at hx
  rcases List.mem_append.1 hx with hx | hx
  · exact h2 x hx
  · exact g2 x hx
theorem Steps.one {M M' : Mv} {x : Ac} (hk : x.k ≠ 10 ∧ x.k ≠ 11) (hc : ∀ C, actC M C x = 0) (hm : ∀ C, actM M C x = M') : Steps M [x] M' := fun C => by
  refine ⟨?_, fun y hy => ?_⟩
  · show (⟨actM M C x, actD M C x⟩ : Hs) = _
    rw [hm C]
    unfold actD
    rw [if_neg hk.1, if_neg hk.2]
  · have : y = (actC M C x, actN M C x) := by simpa [hans] using hy
    rw [this]; exact hc C
theorem steps_poke {M M' : Mv} {f a n : Int} (h : pokeF M f a n = 0) (hm : pokeM M f a n = M') : Steps M [⟨7, 0, f, a, 0, n, 0⟩] M' :=
  .one ⟨(show ¬ ((7 : Int) = 10) by decide), (show ¬ ((7 : Int) = 11) by decide)⟩ (fun C => by unfold actC; simp only [show ¬ ((7 : Int) = 1) by decide, show ¬ ((7 : Int) = 2) by decide, show ¬ ((7 : Int) = 3) by decide, show ¬ ((7 : Int) = 4) by decide, show ¬ ((7 : Int) = 5) by decide, show ¬ ((7 : Int) = 6) by decide, if_false, if_true]; exact h)
    (fun C => by unfold actM; simp only [show ¬ ((7 : Int) = 1) by decide, show ¬ ((7 : Int) = 2) by decide, show ¬ ((7 : Int) = 3) by decide, show ¬ ((7 : Int) = 4) by decide, show ¬ ((7 : Int) = 5) by decide, if_false, if_true]; rw [if_pos h]; exact hm)
theorem steps_create {M M' : Mv} (h : creF M = 0) (hm : creM M = M') : Steps M [⟨1, 0, 0, 0, 0, 0, 0⟩] M' :=
  .one ⟨(show ¬ ((1 : Int) = 10) by decide), (show ¬ ((1 : Int) = 11) by decide)⟩ (fun C => by unfold actC; simp only [if_true]; exact h) (fun C => by unfold actM; simp only [if_true]; rw [if_pos h]; exact hm)
theorem steps_put {M M' : Mv} {e f a r : Int} (h : putF M e f a r = 0) (hm : putM M e f a r = M') : Steps M [⟨2, e, f, a, r, 0, 0⟩] M' :=
  .one ⟨(show ¬ ((2 : Int) = 10) by decide), (show ¬ ((2 : Int) = 11) by decide)⟩ (fun C => by unfold actC; simp only [show ¬ ((2 : Int) = 1) by decide, if_false, if_true]; exact h)
    (fun C => by unfold actM; simp only [show ¬ ((2 : Int) = 1) by decide, if_false, if_true]; rw [if_pos h]; exact hm)
theorem steps_measure {M M' : Mv} {e a : Int} (h : meaF M e a = 0) (hm : meaM M e a = M') : Steps M [⟨3, e, 0, a, 0, 0, 0⟩] M' :=
  .one ⟨(show ¬ ((3 : Int) = 10) by decide), (show ¬ ((3 : Int) = 11) by decide)⟩ (fun C => by unfold actC; simp only [show ¬ ((3 : Int) = 1) by decide, show ¬ ((3 : Int) = 2) by decide, if_false, if_true]; exact h)
    (fun C => by unfold actM; simp only [show ¬ ((3 : Int) = 1) by decide, show ¬ ((3 : Int) = 2) by decide, if_false, if_true]; rw [if_pos h]; exact hm)
theorem steps_start {M M' : Mv} {e : Int} (h : askF M e 1 = 0) (hm : startM M e = M') : Steps M [⟨4, e, 0, 0, 0, 0, 0⟩] M' :=
  .one ⟨(show ¬ ((4 : Int) = 10) by decide), (show ¬ ((4 : Int) = 11) by decide)⟩ (fun C => by unfold actC; simp only [show ¬ ((4 : Int) = 1) by decide, show ¬ ((4 : Int) = 2) by decide, show ¬ ((4 : Int) = 3) by decide, if_false, if_true]; exact h)
    (fun C => by unfold actM; simp only [show ¬ ((4 : Int) = 1) by decide, show ¬ ((4 : Int) = 2) by decide, show ¬ ((4 : Int) = 3) by decide, if_false, if_true]; rw [if_pos h]; exact hm)

theorem take_set {α : Type} (xs old : List α) (d : α) {j : Nat} (h1 : j < xs.length) (h2 : j < old.length) : (xs.take j ++ old.drop j).set j (xs.getD j d) = xs.take (j + 1) ++ old.drop (j + 1) := by
  have e1 : (xs.take j).length = j := by simp; omega
  rw [List.set_append_right _ _ (by omega), e1, Nat.sub_self, List.drop_eq_getElem_cons h2, List.set_cons_zero, List.take_succ_eq_append_getElem h1, List.append_assoc, show xs.getD j d = xs[j] from by simp [List.getD_eq_getElem?_getD, h1]]
  rfl
/-- the pokes of one page -/
theorem steps_page {M : Mv} (hz : machF M = 0) {k : Nat} (hk : k < 24) (ho : (M.frs.getD k default).o = 0) {ws : List Int} (hw : mayW ws = true) : ∀ j, j ≤ 8 →
    machF { M with frs := M.frs.set k { M.frs.getD k default with ws := ws.take j ++ (M.frs.getD k default).ws.drop j } } = 0 ∧ Steps M (pokeP k ws j) { M with frs := M.frs.set k { M.frs.getD k default with ws := ws.take j ++ (M.frs.getD k default).ws.drop j } }
  | 0, _ => by
    have e : M.frs.set k { M.frs.getD k default with ws := ws.take 0 ++ (M.frs.getD k default).ws.drop 0 } = M.frs := by
      have hl := (good_iff.1 hz).s1
      apply List.ext_getElem (by simp)
      intro i h1 h2
      rw [List.getElem_set]
      split
      · rename_i q
        subst q
        simp [List.getD_eq_getElem?_getD, h2]
      · rfl
    rw [e]
    exact ⟨hz, Steps.nil M⟩
  | j + 1, hj => by
    obtain ⟨g, hs⟩ := steps_page hz hk ho hw j (by omega)
    have hl := (good_iff.1 hz).s1
    obtain ⟨hw8, hwn⟩ := mayW_iff.1 hw
    have ho8 := (machF_words hz hk).1
    have hx := hwn (ws.getD j 0) (getD_mem (by omega))
    rw [pokeP_succ]
    generalize hF : (M.frs.getD k default) = F at ho ho8 g hs ⊢
    obtain ⟨N, hN⟩ : ∃ N : Mv, N = { M with frs := M.frs.set k { F with ws := ws.take j ++ F.ws.drop j } } := ⟨_, rfl⟩
    rw [← hN] at g hs
    have eF : N.frs.getD k default = { F with ws := ws.take j ++ F.ws.drop j } := by rw [hN]; show (M.frs.set k _).getD k default = _; rw [getD_set_any, if_pos ⟨rfl, by omega⟩]
    have hp : pokeF N k j (ws.getD j 0) = 0 := pokeF_of g hk (by omega) (inB_iff.2 hx)
    have hm : pokeM N k j (ws.getD j 0) = { M with frs := M.frs.set k { F with ws := ws.take (j + 1) ++ F.ws.drop (j + 1) } } := by
      unfold pokeM
      rw [if_pos hp, Int.toNat_natCast, Int.toNat_natCast, eF, if_pos ho, hN]
      show ({ M with frs := (M.frs.set k _).set k { F with ws := (ws.take j ++ F.ws.drop j).set j (ws.getD j 0) } } : Mv) = _
      rw [List.set_set, take_set ws F.ws 0 (by omega) (by omega)]
    have g2 := poke_good hp
    rw [hm] at g2
    exact ⟨g2, hs.append (steps_poke hp hm)⟩
theorem page_done {ws old : List Int} (h : ws.length = 8) (h2 : old.length = 8) : ws.take 8 ++ old.drop 8 = ws := by
  rw [List.take_of_length_le (by omega), List.drop_eq_nil_of_le (by omega), List.append_nil]
/-- the frames of the first i pages hold their words -/
structure Filled (M N : Mv) (f0 : Nat) (ps : List Pg) (i : Nat) : Prop where
  good : machF N = 0
  ens : N.ens = M.ens
  qus : N.qus = M.qus
  inn : ∀ j, j < i → (N.frs.getD (f0 + j) default) = { M.frs.getD (f0 + j) default with ws := (ps.getD j default).ws }
  out : ∀ j, j < 24 → ¬ (f0 ≤ j ∧ j < f0 + i) → N.frs.getD j default = M.frs.getD j default
theorem steps_fill {M : Mv} (hz : machF M = 0) {f0 : Nat} {ps : List Pg} (hf : f0 + ps.length ≤ 24) (hw : ∀ j, j < ps.length → mayW (ps.getD j default).ws = true) (ho : ∀ j, j < ps.length → (M.frs.getD (f0 + j) default).o = 0) :
    ∀ i, i ≤ ps.length → ∃ N, Filled M N f0 ps i ∧ Steps M (pokeK ps f0 i) N
  | 0, _ => ⟨M, ⟨hz, rfl, rfl, fun j hj => absurd hj (by omega), fun j _ _ => rfl⟩, Steps.nil M⟩
  | i + 1, hi => by
    obtain ⟨N, hN, hs⟩ := steps_fill hz hf hw ho i (by omega)
    have hk : f0 + i < 24 := by omega
    have eN : N.frs.getD (f0 + i) default = M.frs.getD (f0 + i) default := hN.out _ hk (by omega)
    have hwi := hw i (by omega)
    have hl8 := (mayW_iff.1 hwi).1
    obtain ⟨g, hp⟩ := steps_page hN.good hk (by rw [eN]; exact ho i (by omega)) hwi 8 (Nat.le_refl _)
    rw [page_done hl8 (machF_words hN.good hk).1, eN] at g hp
    have hl := (good_iff.1 hN.good).s1
    refine ⟨_, ⟨g, hN.ens, hN.qus, fun j hj => ?_, fun j hj hn => ?_⟩, ?_⟩
    · show (N.frs.set (f0 + i) _).getD (f0 + j) default = _
      rw [getD_set_any]
      split
      · rename_i q
        have : j = i := by omega
        subst this
        rfl
      · rename_i q
        exact hN.inn j (by omega)
    · show (N.frs.set (f0 + i) _).getD j default = _
      rw [getD_set_any, if_neg (by omega)]
      exact hN.out j hj (by omega)
    · rw [pokeK_succ, hl8, show (f0 : Int) + (i : Int) = ((f0 + i : Nat) : Int) by omega]
      exact hs.append hp

theorem nd_small : ∀ (k n : Nat), n < 10 ^ (k + 1) → (Lib.decDigits n).length ≤ k + 1
  | 0, n, h => by rw [Lib.decDigits, dif_pos (by omega)]; simp
  | k + 1, n, h => by
    rw [Lib.decDigits]
    split
    · simp
    · have := nd_small k (n / 10) (by rw [Nat.pow_succ] at h; omega)
      rw [List.length_append]
      simp only [List.length_cons, List.length_nil]
      omega
theorem nums_small (k : Nat) : ∀ (xs : List Int), (∀ n ∈ xs, 0 ≤ n ∧ n.toNat < 10 ^ (k + 1)) → (numsL xs).length ≤ (k + 2) * xs.length
  | [], _ => by simp [numsL]
  | x :: xs, h => by
    have h1 := nums_small k xs fun n hn => h n (by simp [hn])
    have h2 := h x (by simp)
    have h3 := nd_small k x.toNat h2.2
    have e : numsL (x :: xs) = 32 :: Lib.decDigits x.toNat ++ numsL xs := by simp [numsL, itoa_dig h2.1]
    rw [e, List.length_append, List.length_cons, List.length_cons, Nat.mul_succ]
    omega
theorem page_short {p : Pg} (h : p.f = 0) : (entryL sPage [p.at_, p.r]).length ≤ 9 ∧ (entryL sWords (p.at_ :: p.ws)).length ≤ 60 := by
  obtain ⟨h1, h2, h3⟩ := Pg.f_zero h
  have b1 := inB_iff.1 h1
  have b2 := inB_iff.1 h2
  obtain ⟨hl, ha⟩ := mayW_iff.1 h3
  have e1 := nums_small 0 [p.at_, p.r] fun n hn => by
    simp at hn
    rcases hn with rfl | rfl
    · exact ⟨b1.1, by omega⟩
    · exact ⟨b2.1, by omega⟩
  have e2 := nums_small 4 (p.at_ :: p.ws) fun n hn => by
    rcases List.mem_cons.1 hn with rfl | hn
    · exact ⟨b1.1, by omega⟩
    · exact ⟨(ha n hn).1, by have := (ha n hn).2; omega⟩
  simp only [List.length_cons, List.length_nil] at e1 e2
  rw [hl] at e2
  unfold entryL
  simp only [sPage, sWords, List.length_append, List.length_cons, List.length_nil]
  omega
theorem exp_short {ps : List Pg} (h : imageF ps = 0) (k : Nat) : (expK ps k).size ≤ 5 + 69 * (ps.take k).length := by
  unfold expK expL
  rw [txt_size, List.length_append]
  have h1 : ∀ (l : List Pg), (∀ p ∈ l, p.f = 0) → (l.flatMap pageL).length ≤ 69 * l.length := by
    intro l
    induction l with
    | nil => intro _; simp
    | cons p l ih =>
      intro hp
      have a1 := page_short (hp p (by simp))
      have a2 := ih fun q hq => hp q (by simp [hq])
      simp only [List.flatMap_cons, List.length_append, List.length_cons, pageL]
      omega
  have h2 := h1 (ps.take k) fun p hp => imgF_all ps none h p (List.mem_of_mem_take hp)
  simp only [sOpen, List.length_cons, List.length_nil]
  omega
theorem imgF_above : ∀ (l : List Pg) (q : Int), imgF (some q) l = 0 → ∀ p ∈ l, q < p.at_
  | [], _, _, p, hp => by cases hp
  | x :: l, q, h, p, hp => by
    obtain ⟨_, h2, h3⟩ := imgF_step h
    have := h2 q rfl
    rcases List.mem_cons.1 hp with rfl | hp
    · omega
    · have := imgF_above l x.at_ h3 p hp
      omega
theorem imgF_rise : ∀ (l : List Pg) (o : Option Int), imgF o l = 0 → ∀ i j, i < j → j < l.length → (l.getD i default).at_ < (l.getD j default).at_
  | [], _, _, i, j, _, hj => by simp at hj
  | x :: l, o, h, i, 0, hij, _ => by omega
  | x :: l, o, h, 0, j + 1, _, hj => by
    obtain ⟨_, _, h3⟩ := imgF_step h
    have hj' : j < l.length := by simpa using hj
    have := imgF_above l x.at_ h3 (l.getD j default) (by simp [List.getD_eq_getElem?_getD, hj'])
    simpa using this
  | x :: l, o, h, i + 1, j + 1, hij, hj => by
    obtain ⟨_, _, h3⟩ := imgF_step h
    have := imgF_rise l _ h3 i j (by omega) (by simpa using hj)
    simpa using this

/-- the first i pages are the enclave's, and measured -/
structure Paged (M N : Mv) (m f0 : Nat) (ps : List Pg) (i : Nat) : Prop where
  good : machF N = 0
  ens : N.ens = M.ens.set m ⟨1, expK ps i, 0, 0, 0, 0, 0⟩
  qus : N.qus = M.qus
  inn : ∀ j, j < i → (N.frs.getD (f0 + j) default).o = (m : Int) + 1 ∧ (N.frs.getD (f0 + j) default).at_ = (ps.getD j default).at_ ∧ (N.frs.getD (f0 + j) default).r = (ps.getD j default).r ∧ (N.frs.getD (f0 + j) default).ws = (ps.getD j default).ws
  mid : ∀ j, i ≤ j → j < ps.length → (N.frs.getD (f0 + j) default).o = 0 ∧ (N.frs.getD (f0 + j) default).ws = (ps.getD j default).ws
  out : ∀ j, j < 24 → ¬ (f0 ≤ j ∧ j < f0 + ps.length) → N.frs.getD j default = M.frs.getD j default
theorem paged_owner {M N : Mv} {m f0 : Nat} {ps : List Pg} {i : Nat} (h : Paged M N m f0 ps i) (hn : ∀ j, j < 24 → (M.frs.getD j default).o ≠ (m : Int) + 1) {j : Nat} (hj : j < 24) (e : (N.frs.getD j default).o = (m : Int) + 1) : ∃ q, q < i ∧ j = f0 + q := by
  by_cases c : f0 ≤ j ∧ j < f0 + ps.length
  · obtain ⟨q, rfl⟩ : ∃ q, j = f0 + q := ⟨j - f0, by omega⟩
    by_cases c2 : q < i
    · exact ⟨q, c2, rfl⟩
    · have := (h.mid q (by omega) (by omega)).1
      omega
  · rw [h.out j hj c] at e
    exact absurd e (hn j hj)
theorem steps_pages {M N0 : Mv} {m : Nat} (hm : m < 4) {f0 : Nat} {ps : List Pg} (hf : f0 + ps.length ≤ 24) (hi : imageF ps = 0) (hl4 : M.ens.length = 4) (hn : ∀ j, j < 24 → (M.frs.getD j default).o ≠ (m : Int) + 1) (h0 : Paged M N0 m f0 ps 0) :
    ∀ i, i ≤ ps.length → ∃ N, Paged M N m f0 ps i ∧ Steps N0 (putK ps ((m : Int) + 1) f0 i) N
  | 0, _ => ⟨N0, h0, Steps.nil N0⟩
  | i + 1, hle => by
    obtain ⟨N, hN, hs⟩ := steps_pages hm hf hi hl4 hn h0 i (by omega)
    have g := good_iff.1 hN.good
    have hl := g.s1
    have hp8 := image_len hi
    have hpf := imgF_all ps none hi (ps.getD i default) (mem_getD (by omega))
    obtain ⟨b1, b2, b3⟩ := Pg.f_zero hpf
    have hk : f0 + i < 24 := by omega
    obtain ⟨mo, mw⟩ := hN.mid i (Nat.le_refl _) (by omega)
    have eE : N.ens.getD m default = ⟨1, expK ps i, 0, 0, 0, 0, 0⟩ := by rw [hN.ens, getD_set_any, if_pos ⟨rfl, by omega⟩]
    have sz := exp_short hi i
    have szl : (ps.take i).length ≤ 8 := by simp; omega
    have hno : placeOf N.frs ((m : Int) + 1) (ps.getD i default).at_ < 0 := by
      rw [place_not]
      · omega
      · intro j hj
        cases hb : plB ((m : Int) + 1) (ps.getD i default).at_ (N.frs.getD j default) with
        | false => rfl
        | true =>
          simp only [plB, Bool.and_eq_true, beq_iff_eq] at hb
          obtain ⟨q, hq, rfl⟩ := paged_owner hN hn (by omega) hb.1.2
          have h1 := (hN.inn q hq).2.1
          have h2 := imgF_rise ps none hi q i hq (by omega)
          omega
    obtain ⟨p1, p2, p3⟩ := putF_of (M := N) (m := m) (k := f0 + i) (a := (ps.getD i default).at_) (r := (ps.getD i default).r) hN.good hm (by rw [eE]) hk b1 b2 mo hno (by rw [eE]; show (expK ps i).size ≤ 900; omega)
    have s1 := steps_put p1 p3
    rw [p3] at p2
    obtain ⟨N2, hN2⟩ : ∃ N2 : Mv, N2 = { N with frs := N.frs.set (f0 + i) (putFr N (f0 + i) ((m : Int) + 1) (ps.getD i default).at_ (ps.getD i default).r), ens := N.ens.set m ((N.ens.getD m default).withLog (putS (ps.getD i default).at_ (ps.getD i default).r)) } := ⟨_, rfl⟩
    rw [← hN2] at s1 p2
    have eE2 : N2.ens.getD m default = ⟨1, expK ps i ++ putS (ps.getD i default).at_ (ps.getD i default).r, 0, 0, 0, 0, 0⟩ := by
      rw [hN2]
      show (N.ens.set m _).getD m default = _
      rw [getD_set_any, if_pos ⟨rfl, by have := g.s2; omega⟩, eE]; rfl
    have eK : N2.frs.getD (f0 + i) default = putFr N (f0 + i) ((m : Int) + 1) (ps.getD i default).at_ (ps.getD i default).r := by
      rw [hN2]
      show (N.frs.set (f0 + i) _).getD (f0 + i) default = _
      rw [getD_set_any, if_pos ⟨rfl, by omega⟩]
    have eJ : ∀ j, j ≠ f0 + i → N2.frs.getD j default = N.frs.getD j default := fun j hj => by
      rw [hN2]
      show (N.frs.set (f0 + i) _).getD j default = _
      rw [getD_set_any, if_neg (fun q => hj q.1)]
    have g2 := good_iff.1 p2
    have pl : placeOf N2.frs ((m : Int) + 1) (ps.getD i default).at_ = ((f0 + i : Nat) : Int) := good_place g2 hk (by rw [eK]; rfl) (by rw [eK]; rfl)
    have ask2 : askF N2 ((m : Int) + 1) 1 = 0 := askF_of p2 hm (by rw [eE2]; show (1 : Int) ≠ 0; decide) (fun _ => by rw [eE2])
    have eS : meaS N2 ((m : Int) + 1) (ps.getD i default).at_ = heldS (ps.getD i default).at_ (ps.getD i default).ws := by
      unfold meaS
      rw [pl, Int.toNat_natCast, eK]
      show heldS _ (N.frs.getD (f0 + i) default).ws = _
      rw [mw]
    obtain ⟨q1, q2⟩ := page_short hpf
    have mF : meaF N2 ((m : Int) + 1) (ps.getD i default).at_ = 0 := by
      unfold meaF
      rw [if_pos ask2, if_neg (by rw [pl]; omega), eS]
      unfold logF
      rw [show ((m : Int) + 1 - 1).toNat = m by omega, eE2, if_neg]
      show ¬ ((expK ps i ++ putS (ps.getD i default).at_ (ps.getD i default).r).size + _ > 1000)
      rw [ByteArray.size_append]
      unfold putS heldS
      rw [txt_size, txt_size]
      omega
    have mM : meaM N2 ((m : Int) + 1) (ps.getD i default).at_ = { N2 with ens := N2.ens.set m ⟨1, expK ps (i + 1), 0, 0, 0, 0, 0⟩ } := by
      unfold meaM
      rw [if_pos mF, show ((m : Int) + 1 - 1).toNat = m by omega, eS, eE2, ← expK_succ ps i (by omega)]
      show ({ N2 with ens := N2.ens.set m ⟨1, (expK ps i ++ putS (ps.getD i default).at_ (ps.getD i default).r) ++ heldS (ps.getD i default).at_ (ps.getD i default).ws, 0, 0, 0, 0, 0⟩ } : Mv) = _
      rw [append3]
    have g3 := measure_good mF
    rw [mM] at g3
    refine ⟨_, ⟨g3, ?_, ?_, fun j hj => ?_, fun j h1 h2 => ?_, fun j hj hc => ?_⟩, ?_⟩
    · show N2.ens.set m _ = _
      rw [hN2]
      show (N.ens.set m _).set m _ = _
      rw [List.set_set, hN.ens, List.set_set]
    · rw [hN2]; exact hN.qus
    · show (N2.frs.getD (f0 + j) default).o = _ ∧ (N2.frs.getD (f0 + j) default).at_ = _ ∧ (N2.frs.getD (f0 + j) default).r = _ ∧ (N2.frs.getD (f0 + j) default).ws = _
      by_cases c : j = i
      · subst c
        rw [eK]
        exact ⟨rfl, rfl, rfl, mw⟩
      · rw [eJ _ (by omega)]
        exact hN.inn j (by omega)
    · show (N2.frs.getD (f0 + j) default).o = _ ∧ (N2.frs.getD (f0 + j) default).ws = _
      rw [eJ _ (by omega)]
      exact hN.mid j (by omega) h2
    · show N2.frs.getD j default = _
      rw [eJ _ (by omega)]
      exact hN.out j hj hc
    · rw [putK_succ, show (f0 : Int) + (i : Int) = ((f0 + i : Nat) : Int) by omega]
      exact hs.append (s1.append (steps_measure mF mM))

/-- an image is built -/
structure Planned (M N : Mv) (m f0 : Nat) (ps : List Pg) : Prop where
  good : machF N = 0
  ens : N.ens = M.ens.set m ⟨2, txt (expL ps), 0, 0, 0, 0, 0⟩
  qus : N.qus = M.qus
  inn : ∀ j, j < ps.length → (N.frs.getD (f0 + j) default).o = (m : Int) + 1 ∧ (N.frs.getD (f0 + j) default).at_ = (ps.getD j default).at_ ∧ (N.frs.getD (f0 + j) default).r = (ps.getD j default).r ∧ (N.frs.getD (f0 + j) default).ws = (ps.getD j default).ws
  out : ∀ j, j < 24 → ¬ (f0 ≤ j ∧ j < f0 + ps.length) → N.frs.getD j default = M.frs.getD j default
/-- AN IMAGE THAT IS BUILT AS IT IS PLANNED IS MEASURED AS IT IS EXPECTED -/
theorem plan_steps {M : Mv} (hz : machF M = 0) {m : Nat} (hm : m < 4) (hc : creI M = (m : Int)) {f0 : Nat} {ps : List Pg} (hi : imageF ps = 0) (hf : f0 + ps.length ≤ 24) (ho : ∀ j, j < ps.length → (M.frs.getD (f0 + j) default).o = 0) :
    ∃ N, Planned M N m f0 ps ∧ Steps M (planL ps ((m : Int) + 1) f0) N := by
  have hg := good_iff.1 hz
  have hpf := imgF_all ps none hi
  have hst0 : (M.ens.getD m default).st = 0 := by
    rcases idxOf_cases emptyB M.ens with ⟨e, _⟩ | ⟨k, e, hk, hb, _⟩
    · unfold creI at hc; omega
    · have : k = m := by unfold creI at hc; omega
      subst this
      simpa [emptyB] using hb
  have hn : ∀ j, j < 24 → (M.frs.getD j default).o ≠ (m : Int) + 1 := fun j hj e => by
    have hfr := goodFr_iff.1 (hg.fr j hj)
    have := hfr.2.2.2.2.2 (by omega)
    rw [e, show ((m : Int) + 1 - 1).toNat = m by omega] at this
    exact this hst0
  obtain ⟨A, hA, sA⟩ := steps_fill hz hf (fun j hj => (Pg.f_zero (hpf _ (mem_getD hj))).2.2) ho ps.length (Nat.le_refl _)
  have hcA : creI A = (m : Int) := by unfold creI; rw [hA.ens]; exact hc
  have cF : creF A = 0 := by unfold creF; rw [if_pos hA.good, hcA, if_neg (by omega)]
  have cM : creM A = { A with ens := A.ens.set m openE } := by unfold creM; rw [if_pos cF, hcA, Int.toNat_natCast]
  have gB := create_good cF
  rw [cM] at gB
  have hPB : Paged M { A with ens := A.ens.set m openE } m f0 ps 0 := by
    refine ⟨gB, ?_, hA.qus, fun j hj => absurd hj (by omega), fun j _ hj => ?_, fun j hj hc => hA.out j hj hc⟩
    · show A.ens.set m openE = _
      rw [hA.ens]
      rfl
    · show (A.frs.getD (f0 + j) default).o = 0 ∧ (A.frs.getD (f0 + j) default).ws = _
      rw [hA.inn j hj]
      exact ⟨ho j hj, rfl⟩
  obtain ⟨P, hP, sP⟩ := steps_pages (M := M) hm hf hi hg.s2 hn hPB ps.length (Nat.le_refl _)
  have eE : P.ens.getD m default = ⟨1, expK ps ps.length, 0, 0, 0, 0, 0⟩ := by rw [hP.ens, getD_set_any, if_pos ⟨rfl, by have := hg.s2; omega⟩]
  have ask : askF P ((m : Int) + 1) 1 = 0 := askF_of hP.good hm (by rw [eE]; show (1 : Int) ≠ 0; decide) (fun _ => by rw [eE])
  have sM : startM P ((m : Int) + 1) = { P with ens := M.ens.set m ⟨2, txt (expL ps), 0, 0, 0, 0, 0⟩ } := by
    unfold startM
    rw [if_pos ask, show ((m : Int) + 1 - 1).toNat = m by omega, eE, hP.ens, List.set_set, expK_end]
  have gS := start_good ask
  rw [sM] at gS
  refine ⟨_, ⟨gS, rfl, hP.qus, fun j hj => hP.inn j hj, fun j hj hc => hP.out j hj hc⟩, ?_⟩
  unfold planL
  exact ((sA.append (steps_create cF cM)).append sP).append (steps_start ask sM)

end Go.Proofs.YtdngbojbpmdegaaGreatDoor
