/-
  What Put and Measure ask and answer (own work): the machine behind them, and what they are refused for; machines that hold the same are answered the same. No condition.
-/
import Derived.Test.YtdbbiibnhgcndaaDoorLogged
import Derived.Test.YtdbbiibnhgcndaaDoorPlace
import Derived.Test.YtdbbiibnhgcndaaDoorHeld
import Derived.Test.YtdbbiibnhgcndaaDoorLaid
namespace Go.Proofs.YtdbbiibnhgcndaaDoor
open Go.RowKit

theorem placeOf_norm (l : List Fr) (e a : Int) : placeOf (l.map Fr.norm) e a = placeOf l e a := by
  unfold placeOf idxOf
  rw [List.findIdx?_map]
  rfl
theorem placeOf_same {M N : Mv} (h : M.Same N) (e a : Int) : placeOf M.frs e a = placeOf N.frs e a := by
  rw [← placeOf_norm M.frs, norm_eq h, placeOf_norm]
theorem norm_at {M N : Mv} (h : M.Same N) (k : Nat) : (M.frs.getD k default).norm = (N.frs.getD k default).norm := by
  rw [← norm_getD, norm_eq h, norm_getD]
theorem own_same {M N : Mv} (h : M.Same N) (k : Nat) : (M.frs.getD k default).o = (N.frs.getD k default).o := by have := congrArg Fr.o (norm_at h k); exact this
theorem ws_same {M N : Mv} (h : M.Same N) (k : Nat) : (M.frs.getD k default).ws = (N.frs.getD k default).ws := by have := congrArg Fr.ws (norm_at h k); exact this
theorem set_same {M N : Mv} (h : N.Same M) (j : Nat) (f g : Fr) (hfg : j < M.frs.length → f.Same g) : Mv.Same { N with frs := N.frs.set j f } { M with frs := M.frs.set j g } := by
  by_cases hj : j < M.frs.length
  · have hj' : j < N.frs.length := by rw [h.len]; exact hj
    refine ⟨by simpa using h.len, fun i hi => ?_, h.en, h.qu⟩
    have hi' : i < N.frs.length := by simpa using hi
    show ((N.frs.set j f).getD i default).Same ((M.frs.set j g).getD i default)
    rw [getD_set _ _ _ _ hj', getD_set _ _ _ _ hj]
    by_cases e : i = j
    · rw [if_pos e, if_pos e]; exact hfg hj
    · rw [if_neg e, if_neg e]; exact h.fr i hi'
  · have hj' : ¬ j < N.frs.length := by rw [h.len]; exact hj
    rw [List.set_eq_of_length_le (by omega), List.set_eq_of_length_le (by omega)]
    exact h
theorem putS_size (p r : Int) (hp : (Lit.int .i64 p).wf = true) (hr : (Lit.int .i64 r).wf = true) : (putS p r).size ≤ 100 := by
  unfold putS entryL
  rw [txt_size, List.length_append, List.length_append]
  have := numsL_le [p, r] fun n hn => by
    simp only [List.mem_cons, List.not_mem_nil, or_false] at hn
    rcases hn with rfl | rfl
    · exact hp
    · exact hr
  simp only [sPage, List.length_cons, List.length_nil] at this ⊢
  omega
theorem heldS_size (p : Int) (ws : List Int) (hp : (Lit.int .i64 p).wf = true) (hw : ∀ n ∈ ws, (Lit.int .i64 n).wf = true) (h8 : ws.length = 8) : (heldS p ws).size ≤ 1000 := by
  unfold heldS entryL
  rw [txt_size, List.length_append, List.length_append]
  have := numsL_le (p :: ws) fun n hn => by
    rcases List.mem_cons.1 hn with rfl | hn
    · exact hp
    · exact hw n hn
  simp only [sWords, List.length_cons, List.length_nil] at this ⊢
  omega

/-- what Put is refused for -/
def putF (M : Mv) (e f a r : Int) : Int :=
  if askF M e 1 = 0 then (if inB f 0 23 = true then (if (inB a 0 7 && inB r 0 7) = true then (if (M.frs.getD f.toNat default).o = 0 then (if placeOf M.frs e a < 0 then logF M (e - 1).toNat (putS a r) else 6) else 6) else 2) else 2) else askF M e 1
def putFr (M : Mv) (j : Nat) (e a r : Int) : Fr := { M.frs.getD j default with o := e, at_ := a, r := r }
def putM (M : Mv) (e f a r : Int) : Mv :=
  if putF M e f a r = 0 then { M with frs := M.frs.set f.toNat (putFr M f.toNat e a r), ens := M.ens.set (e - 1).toNat ((M.ens.getD (e - 1).toNat default).withLog (putS a r)) } else noM
theorem logF_same {M N : Mv} (h : M.Same N) (m : Nat) (s : ByteArray) : logF M m s = logF N m s := by unfold logF; rw [h.en]
theorem putF_same {M N : Mv} (h : M.Same N) (e f a r : Int) : putF M e f a r = putF N e f a r := by
  unfold putF; rw [askF_same h, own_same h, placeOf_same h, logF_same h]
theorem putM_same {M N : Mv} (h : M.Same N) (e f a r : Int) : (putM M e f a r).Same (putM N e f a r) := by
  unfold putM
  rw [putF_same h, h.en]
  split
  · have := set_same h f.toNat (putFr M f.toNat e a r) (putFr N f.toNat e a r) (fun _ => ⟨rfl, rfl, rfl, ws_same h _⟩)
    exact ⟨this.len, this.fr, rfl, h.qu⟩
  · exact Mv.Same.refl _
theorem putM_bad {M : Mv} {e f a r : Int} (h : putF M e f a r ≠ 0) : putM M e f a r = noM := if_neg h
/-- what Measure is refused for -/
def meaS (M : Mv) (e a : Int) : ByteArray := heldS a (M.frs.getD (placeOf M.frs e a).toNat default).ws
def meaF (M : Mv) (e a : Int) : Int :=
  if askF M e 1 = 0 then (if placeOf M.frs e a < 0 then 5 else logF M (e - 1).toNat (meaS M e a)) else askF M e 1
def meaM (M : Mv) (e a : Int) : Mv :=
  if meaF M e a = 0 then { M with ens := M.ens.set (e - 1).toNat ((M.ens.getD (e - 1).toNat default).withLog (meaS M e a)) } else noM
theorem meaS_same {M N : Mv} (h : M.Same N) (e a : Int) : meaS M e a = meaS N e a := by unfold meaS; rw [placeOf_same h, ws_same h]
theorem meaF_same {M N : Mv} (h : M.Same N) (e a : Int) : meaF M e a = meaF N e a := by
  unfold meaF; rw [askF_same h, placeOf_same h, meaS_same h, logF_same h]
theorem meaM_same {M N : Mv} (h : M.Same N) (e a : Int) : (meaM M e a).Same (meaM N e a) := by
  unfold meaM
  rw [meaF_same h, meaS_same h, h.en]
  split
  · exact ⟨h.len, h.fr, rfl, h.qu⟩
  · exact Mv.Same.refl _
theorem meaM_bad {M : Mv} {e a : Int} (h : meaF M e a ≠ 0) : meaM M e a = noM := if_neg h
theorem fr_at {M : Mv} {w : World} (hM : MachAt w M) {j : Nat} (hj : j < M.frs.length) :
    ∃ fb fo, M.fa = some ⟨fb, fo, none⟩ ∧ ∀ w1, Below w.heap.size w w1 → w1.cell? ⟨fb, fo + j * 4, none⟩ = some (.int .i64 (M.frs.getD j default).o) ∧ w1.cell? ⟨fb, fo + j * 4 + 3, none⟩ = some (.slice (M.frs.getD j default).a (M.frs.getD j default).ws.length (M.frs.getD j default).cap) := by
  obtain ⟨fb, fo, e, c0, _, _, c3⟩ := hM.frame hj
  exact ⟨fb, fo, e, fun w1 hb => ⟨(hb.cell (p := ⟨fb, _, none⟩) (lt_of_cell c0)).trans c0, (hb.cell (p := ⟨fb, _, none⟩) (lt_of_cell c3)).trans c3⟩⟩
theorem Owned.put3 {n0 : Nat} {w : World} {M : Mv} (h : Owned n0 w M) {fb fo k : Nat} (he : M.fa = some ⟨fb, fo, none⟩) (hk : k < M.frs.length) {o a r : Int} (wo : (Lit.int .i64 o).wf = true) (wa : (Lit.int .i64 a).wf = true) (wr : (Lit.int .i64 r).wf = true) :
    Owned n0 (((w.setCell ⟨fb, fo + k * 4, none⟩ (.int .i64 o)).setCell ⟨fb, fo + k * 4 + 1, none⟩ (.int .i64 a)).setCell ⟨fb, fo + k * 4 + 2, none⟩ (.int .i64 r)) { M with frs := M.frs.set k { M.frs.getD k default with o := o, at_ := a, r := r } } := by
  obtain ⟨E, hE⟩ : ∃ E, E = M.frs.getD k default := ⟨_, rfl⟩
  have g : ∀ (N : Mv) (e : Fr), k < N.frs.length → (N.frs.set k e).getD k default = e := fun N e hk => by rw [getD_set _ _ _ _ hk, if_pos rfl]
  have step : ∀ {w : World} {N : Mv} (_ : Owned n0 w N) (_ : N.fa = some ⟨fb, fo, none⟩) (_ : k < N.frs.length) (i0 : Nat) (_ : i0 < 4) (e0 e' : Fr) (v : Value) (_ : N.frs.getD k default = e0) (_ : (e0.Ok w) → e'.Ok w) (_ : e'.a = e0.a) (_ : ∀ i, i < 4 → e'.cells[i]? = if i = i0 then some v else e0.cells[i]?),
      Owned n0 (w.setCell ⟨fb, fo + k * 4 + i0, none⟩ v) { N with frs := N.frs.set k e' } := fun h he hk i0 hi e0 e' v h0 hok ha hx => h.setFr he hk hi (hok (h0 ▸ h.at_.frok k hk)) (by rw [h0]; exact ha) (by rw [h0]; exact hx)
  have s1 := step h he hk 0 (by omega) E { E with o := o } (.int .i64 o) hE.symm (fun q => ⟨wo, q.wat, q.wr, q.len, q.ints, q.wws⟩) rfl (fun i hi => by match i, hi with | 0, _ => rfl | 1, _ => rfl | 2, _ => rfl | 3, _ => rfl)
  have s2 := step s1 he (by simpa using hk) 1 (by omega) _ { E with o := o, at_ := a } (.int .i64 a) (g _ _ hk) (fun q => ⟨q.wo, wa, q.wr, q.len, q.ints, q.wws⟩) rfl (fun i hi => by match i, hi with | 0, _ => rfl | 1, _ => rfl | 2, _ => rfl | 3, _ => rfl)
  have s3 := step s2 he (by simpa using hk) 2 (by omega) _ { E with o := o, at_ := a, r := r } (.int .i64 r) (g _ _ (by simpa using hk)) (fun q => ⟨q.wo, q.wat, wr, q.len, q.ints, q.wws⟩) rfl (fun i hi => by match i, hi with | 0, _ => rfl | 1, _ => rfl | 2, _ => rfl | 3, _ => rfl)
  simp only [List.set_set, Nat.add_zero] at s3
  rw [← hE]
  exact s3
theorem put3_below {w0 w : World} {B fb : Nat} {v0 v1 v2 : Value} {a : Nat} (h : Below B w0 w) (hb : B ≤ fb) : Below B w0 (((w.setCell ⟨fb, a, none⟩ v0).setCell ⟨fb, a + 1, none⟩ v1).setCell ⟨fb, a + 2, none⟩ v2) :=
  ((h.setCell (by simpa using hb) _).setCell (by simpa using hb) _).setCell (by simpa using hb) _
theorem put3_heap {w : World} {fb : Nat} {v0 v1 v2 : Value} {a b : Nat} (h : b ≠ fb) : (((w.setCell ⟨fb, a, none⟩ v0).setCell ⟨fb, a + 1, none⟩ v1).setCell ⟨fb, a + 2, none⟩ v2).heap[b]? = w.heap[b]? := by
  rw [Below.heap_setCell _ _ _ _ h, Below.heap_setCell _ _ _ _ h, Below.heap_setCell _ _ _ _ h]
theorem put3_size {w : World} {fb : Nat} {v0 v1 v2 : Value} {a : Nat} : (((w.setCell ⟨fb, a, none⟩ v0).setCell ⟨fb, a + 1, none⟩ v1).setCell ⟨fb, a + 2, none⟩ v2).heap.size = w.heap.size := by simp [World.setCell]

end Go.Proofs.YtdbbiibnhgcndaaDoor
