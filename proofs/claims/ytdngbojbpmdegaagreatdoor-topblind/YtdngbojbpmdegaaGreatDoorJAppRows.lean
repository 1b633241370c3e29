/-
  Two machines that hold the same run the same (own work). No condition. A core in memory, with a machine of its own (own work): what a store into it, or into the machine, makes of it. No condition beside the cells. What the calls fault, oneIf, load and store of package run do (own work). The conditions: the core holds a machine that may be; the address is from 0 to 65535. Appending a list of things to nil (own work): the new row holds just their cells, and what was in memory stays. The condition: the list is within the reach of the form.
-/
import Derived.Test.YtdngbojbpmdegaaGreatDoorJRunMath
import Derived.Test.YtdngbojbpmdegaaGreatDoorJRunFetch
import Derived.Deep.AppendLies
import Derived.Deep.RegionLaw
namespace Go.Proofs.YtdngbojbpmdegaaGreatDoor
open Go.RowKit

theorem placeOf_normR (l : List Fr) (e a : Int) : placeOf (l.map Fr.norm) e a = placeOf l e a := by
  unfold placeOf idxOf
  rw [List.findIdx?_map]
  rfl
theorem placeOf_sameR {M N : Mv} (h : M.Same N) (e a : Int) : placeOf M.frs e a = placeOf N.frs e a := by
  rw [← placeOf_normR M.frs, norm_eq h, placeOf_normR]
theorem norm_atR {M N : Mv} (h : M.Same N) (k : Nat) : (M.frs.getD k default).norm = (N.frs.getD k default).norm := by
  rw [← norm_getD, norm_eq h, norm_getD]
theorem same_o {M N : Mv} (h : M.Same N) (k : Nat) : (M.frs.getD k default).o = (N.frs.getD k default).o := by have := congrArg Fr.o (norm_atR h k); exact this
theorem same_r {M N : Mv} (h : M.Same N) (k : Nat) : (M.frs.getD k default).r = (N.frs.getD k default).r := by have := congrArg Fr.r (norm_atR h k); exact this
theorem same_at {M N : Mv} (h : M.Same N) (k : Nat) : (M.frs.getD k default).at_ = (N.frs.getD k default).at_ := by have := congrArg Fr.at_ (norm_atR h k); exact this
theorem same_ws {M N : Mv} (h : M.Same N) (k : Nat) : (M.frs.getD k default).ws = (N.frs.getD k default).ws := by have := congrArg Fr.ws (norm_atR h k); exact this
theorem frmF_same {M N : Mv} (h : M.Same N) (e n right : Int) : frmF M.frs e n right = frmF N.frs e n right := by
  unfold frmF shF
  rw [placeOf_sameR h, same_o h, same_r h]
theorem wordAt_same {M N : Mv} (h : M.Same N) (f n : Int) : wordAt M f n = wordAt N f n := by unfold wordAt; rw [same_ws h]
theorem putWord_same {M N : Mv} (h : M.Same N) (f n v : Int) : (putWord M f n v).Same (putWord N f n v) := by
  unfold putWord
  by_cases hj : f.toNat < N.frs.length
  · have hj' : f.toNat < M.frs.length := by rw [h.len]; exact hj
    refine ⟨by simpa using h.len, fun i hi => ?_, h.en, h.qu⟩
    have hi' : i < M.frs.length := by simpa using hi
    show ((M.frs.set _ _).getD i default).Same ((N.frs.set _ _).getD i default)
    rw [getD_set _ _ _ _ hj', getD_set _ _ _ _ hj]
    by_cases e : i = f.toNat
    · rw [if_pos e, if_pos e]
      exact ⟨same_o h _, same_at h _, same_r h _, by dsimp only; rw [same_ws h]⟩
    · rw [if_neg e, if_neg e]; exact h.fr i hi'
  · have hj' : ¬ f.toNat < M.frs.length := by rw [h.len]; exact hj
    rw [List.set_eq_of_length_le (by omega), List.set_eq_of_length_le (by omega)]
    exact h
theorem sayM_same {M N : Mv} (h : M.Same N) (m : Nat) (v : Int) : (sayM M m v).Same (sayM N m v) := ⟨h.len, h.fr, h.en, by unfold sayM; dsimp only; rw [h.en, h.qu]⟩
/-- two runs stand alike -/
structure Rn.Same (R S : Rn) : Prop where
  M : R.M.Same S.M
  pc : R.pc = S.pc
  rs : R.rs = S.rs
  nd : R.nd = S.nd
  v : R.v = S.v
theorem ite_same {c : Prop} [Decidable c] {A B A' B' : Rn} (h1 : A.Same A') (h2 : B.Same B') : (if c then A else B).Same (if c then A' else B') := by
  by_cases h : c
  · rw [if_pos h, if_pos h]; exact h1
  · rw [if_neg h, if_neg h]; exact h2
theorem doR_same {M N : Mv} (h : M.Same N) (m : Nat) (pc : Int) (rs : List Int) (x n : Int) (xr : Int → Int → Int) : (doR M m pc rs x n xr).Same (doR N m pc rs x n xr) := by
  unfold doR
  rw [frmF_same h, frmF_same h, wordAt_same h, show M.qus.length = N.qus.length by rw [h.qu]]
  repeat' refine ite_same ?_ ?_
  all_goals first | exact ⟨h, rfl, rfl, rfl, rfl⟩ | exact ⟨putWord_same h _ _ _, rfl, rfl, rfl, rfl⟩ | exact ⟨sayM_same h _ _, rfl, rfl, rfl, rfl⟩
theorem stepR_same {M N : Mv} (h : M.Same N) (m : Nat) (pc : Int) (rs : List Int) (xr : Int → Int → Int) : (stepR M m pc rs xr).Same (stepR N m pc rs xr) := by
  unfold stepR
  rw [frmF_same h, frmF_same h, wordAt_same h, wordAt_same h]
  exact ite_same ⟨h, rfl, rfl, rfl, rfl⟩ (doR_same h m pc rs _ _ xr)
theorem runR_same : ∀ (k : Nat) {M N : Mv} (_ : M.Same N) (m : Nat) (pc : Int) (rs : List Int) (xr : Int → Int → Int), (runR k M m pc rs xr).Same (runR k N m pc rs xr)
  | 0, _, _, h, _, _, _, _ => ⟨h, rfl, rfl, rfl, rfl⟩
  | k + 1, M, N, h, m, pc, rs, xr => by
    have hs := stepR_same h m pc rs xr
    unfold runR
    rw [hs.nd, hs.pc, hs.rs]
    exact ite_same (runR_same k hs.M m _ _ xr) hs
theorem leftM_same {R S : Rn} (h : R.Same S) (m : Nat) : (leftM R m).Same (leftM S m) := by
  refine ⟨h.M.len, h.M.fr, ?_, h.M.qu⟩
  unfold leftM leftE
  dsimp only
  rw [h.M.en, h.nd, h.pc, h.rs]
/-- one step more, as the loop takes it -/
theorem runR_stop {k : Nat} {M : Mv} {m : Nat} {pc : Int} {rs : List Int} {xr : Int → Int → Int} (h : ¬ (stepR M m pc rs xr).nd = 0) : runR (k + 1) M m pc rs xr = stepR M m pc rs xr := by
  rw [runR, if_neg h]
theorem runR_more {k : Nat} {M : Mv} {m : Nat} {pc : Int} {rs : List Int} {xr : Int → Int → Int} (h : (stepR M m pc rs xr).nd = 0) : runR (k + 1) M m pc rs xr = runR k (stepR M m pc rs xr).M m (stepR M m pc rs xr).pc (stepR M m pc rs xr).rs xr := by
  rw [runR, if_pos h]

end Go.Proofs.YtdngbojbpmdegaaGreatDoor

namespace Go.Proofs.YtdngbojbpmdegaaGreatDoor
open Go.RowKit

/-- a block in which something of the machine lies -/
def Mine (M : Mv) (b : Nat) : Prop := (∃ o s, M.fa = some ⟨b, o, s⟩) ∨ (∃ o s, M.ea = some ⟨b, o, s⟩) ∨ (∃ o s, M.qa = some ⟨b, o, s⟩) ∨ ∃ j, j < M.frs.length ∧ ∃ o s, (M.frs.getD j default).a = some ⟨b, o, s⟩
theorem Mine.fresh {n0 : Nat} {w : World} {M : Mv} (h : Owned n0 w M) {b : Nat} (hb : Mine M b) : n0 ≤ b ∧ b < w.heap.size := by
  rcases hb with ⟨o, s, e⟩ | ⟨o, s, e⟩ | ⟨o, s, e⟩ | ⟨j, hj, o, s, e⟩
  · exact ⟨(h.nf b o s e).1, (h.nf b o s e).2.1⟩
  · exact ⟨(h.ne b o s e).1, (h.ne b o s e).2.1⟩
  · exact ⟨(h.nq b o s e).1, (h.nq b o s e).2.1⟩
  · exact ⟨(h.nw j hj b o s e).1, (h.nw j hj b o s e).2.1⟩
theorem Owned.keepM {n0 : Nat} {w w' : World} {M : Mv} (h : Owned n0 w M) (hw : ∀ b, Mine M b → w'.heap[b]? = w.heap[b]?) (hs : w.heap.size ≤ w'.heap.size) : Owned n0 w' M := by
  have rows : ∀ {α : Type} [Inhabited α] {c : Nat} {cells : α → List Value} {a : Option Addr} {xs : List α}, (∀ b o s, a = some ⟨b, o, s⟩ → Mine M b) → RowsAt w c cells a xs → RowsAt w' c cells a xs := fun {α} _ {c cells a xs} ha hx => by
    rcases hx with e | ⟨b, off, h1, h2⟩
    · exact .inl e
    · exact .inr ⟨b, off, h1, fun j hj i hi => (World.cell?_of_block (hw b (ha b off none h1))).trans (h2 j hj i hi)⟩
  have new : ∀ {a : Option Addr}, (∀ b o s, a = some ⟨b, o, s⟩ → Mine M b) → New n0 w a → New n0 w' a := fun {a} ha hn b o s e => ⟨(hn b o s e).1, Nat.lt_of_lt_of_le (hn b o s e).2.1 hs, fun i => (World.frozen?_of_block (hw b (ha b o s e))).trans ((hn b o s e).2.2 i)⟩
  have mf : ∀ b o s, M.fa = some ⟨b, o, s⟩ → Mine M b := fun b o s e => .inl ⟨o, s, e⟩
  have me : ∀ b o s, M.ea = some ⟨b, o, s⟩ → Mine M b := fun b o s e => .inr (.inl ⟨o, s, e⟩)
  have mq : ∀ b o s, M.qa = some ⟨b, o, s⟩ → Mine M b := fun b o s e => .inr (.inr (.inl ⟨o, s, e⟩))
  have mw : ∀ j, j < M.frs.length → ∀ b o s, (M.frs.getD j default).a = some ⟨b, o, s⟩ → Mine M b := fun j hj b o s e => .inr (.inr (.inr ⟨j, hj, o, s, e⟩))
  refine ⟨⟨rows mf h.at_.fr, h.at_.frl, h.at_.frc, fun j hj => ?_, rows me h.at_.en, h.at_.enl, h.at_.enok, rows mq h.at_.qu, h.at_.qul, h.at_.quok⟩, new mf h.nf, new me h.ne, new mq h.nq, fun j hj => new (mw j hj) (h.nw j hj), h.fe, h.fq, h.eq, h.wf, h.we, h.wq, h.ww⟩
  have q := h.at_.frok j hj
  refine ⟨q.wo, q.wat, q.wr, q.len, ?_, q.wws⟩
  rcases q.ints with e | ⟨b, off, h1, h2⟩
  · exact .inl e
  · exact .inr ⟨b, off, h1, fun i hi => (World.cell?_of_block (hw b (mw j hj b off none h1))).trans (h2 i hi)⟩

structure Core (n0 : Nat) (w : World) (cb : Nat) (M : Mv) (e pc : Int) (rs : List Int) : Prop where
  at_ : CoreAt w cb M e pc rs
  own : Owned n0 w M
  q : QRow n0 w M
  ge : n0 ≤ cb
  off : ¬ Mine M cb
theorem Core.keepM {n0 : Nat} {w w' : World} {cb : Nat} {M : Mv} {e pc : Int} {rs : List Int} (h : Core n0 w cb M e pc rs) (hw : ∀ b, Mine M b ∨ b = cb → w'.heap[b]? = w.heap[b]?) (hs : w.heap.size ≤ w'.heap.size) : Core n0 w' cb M e pc rs := by
  have hc : ∀ o, w'.cell? ⟨cb, o, none⟩ = w.cell? ⟨cb, o, none⟩ := fun o => World.cell?_of_block (hw cb (.inr rfl))
  exact ⟨⟨(hc 0).trans h.at_.c0, (hc 1).trans h.at_.c1, (hc 2).trans h.at_.c2, (hc 3).trans h.at_.c3, (hc 4).trans h.at_.c4, fun i hi => (hc _).trans (h.at_.cr i hi), fun o => (World.frozen?_of_block (hw cb (.inr rfl))).trans (h.at_.fz o), Nat.lt_of_lt_of_le h.at_.lt hs⟩,
    h.own.keepM (fun b hb => hw b (.inl hb)) hs, h.q.keep fun b o s e => hw b (.inl (.inr (.inr (.inl ⟨o, s, e⟩)))), h.ge, h.off⟩
theorem Core.keep {n0 : Nat} {w w' : World} {cb : Nat} {M : Mv} {e pc : Int} {rs : List Int} (h : Core n0 w cb M e pc rs) (hb : Below w.heap.size w w') : Core n0 w' cb M e pc rs :=
  h.keepM (fun b q => hb.block b (by rcases q with q | rfl; exact (Mine.fresh h.own q).2; exact h.at_.lt)) hb.size
/-- a store into a block that is neither the core's nor the machine's -/
theorem Core.far {n0 : Nat} {w : World} {cb : Nat} {M : Mv} {e pc : Int} {rs : List Int} (h : Core n0 w cb M e pc rs) {b : Nat} (hb : ¬ Mine M b) (hn : b ≠ cb) (o : Nat) (v : Value) : Core n0 (w.setCell ⟨b, o, none⟩ v) cb M e pc rs :=
  h.keepM (fun b' q => Below.heap_setCell _ _ _ _ (fun e => by dsimp only at e; subst e; rcases q with q | q; exact hb q; exact hn q)) (by simp [World.setCell])
theorem set_heap (w : World) (cb o : Nat) (v : Value) (b : Nat) (h : b ≠ cb) : (w.setCell ⟨cb, o, none⟩ v).heap[b]? = w.heap[b]? := Below.heap_setCell _ _ _ _ h
/-- another address -/
theorem Core.pcSet {n0 : Nat} {w : World} {cb : Nat} {M : Mv} {e pc : Int} {rs : List Int} (h : Core n0 w cb M e pc rs) (pc' : Int) : Core n0 (w.setCell ⟨cb, 4, none⟩ (.int .i64 pc')) cb M e pc' rs := by
  have oth : ∀ o, o ≠ 4 → (w.setCell ⟨cb, 4, none⟩ (.int .i64 pc')).cell? ⟨cb, o, none⟩ = w.cell? ⟨cb, o, none⟩ := fun o ho => World.cell?_setCell_other _ _ _ _ (by intro q; simp only [Addr.mk.injEq, true_and, and_true] at q; omega)
  have hw : ∀ b, Mine M b → (w.setCell ⟨cb, 4, none⟩ (.int .i64 pc')).heap[b]? = w.heap[b]? := fun b hb => set_heap _ _ _ _ _ (fun e => h.off (e ▸ hb))
  exact ⟨⟨(oth 0 (by omega)).trans h.at_.c0, (oth 1 (by omega)).trans h.at_.c1, (oth 2 (by omega)).trans h.at_.c2, (oth 3 (by omega)).trans h.at_.c3, World.cell?_setCell_same _ _ _ h.at_.c4, fun i hi => (oth (5 + i) (by omega)).trans (h.at_.cr i hi), fun o => (World.frozen?_setCell _ _ _ _).trans (h.at_.fz o), by simp [World.setCell]; exact h.at_.lt⟩,
    h.own.keepM hw (by simp [World.setCell]), h.q.keep fun b o s e => hw b (.inr (.inr (.inl ⟨o, s, e⟩))), h.ge, h.off⟩
/-- another register -/
theorem Core.regSet {n0 : Nat} {w : World} {cb : Nat} {M : Mv} {e pc : Int} {rs : List Int} (h : Core n0 w cb M e pc rs) {a : Nat} (ha : a < 4) (hl : rs.length = 4) (v : Int) : Core n0 (w.setCell ⟨cb, 5 + a, none⟩ (.int .i64 v)) cb M e pc (rs.set a v) := by
  have oth : ∀ o, o ≠ 5 + a → (w.setCell ⟨cb, 5 + a, none⟩ (.int .i64 v)).cell? ⟨cb, o, none⟩ = w.cell? ⟨cb, o, none⟩ := fun o ho => World.cell?_setCell_other _ _ _ _ (by intro q; simp only [Addr.mk.injEq, true_and, and_true] at q; omega)
  have hw : ∀ b, Mine M b → (w.setCell ⟨cb, 5 + a, none⟩ (.int .i64 v)).heap[b]? = w.heap[b]? := fun b hb => set_heap _ _ _ _ _ (fun e => h.off (e ▸ hb))
  refine ⟨⟨(oth 0 (by omega)).trans h.at_.c0, (oth 1 (by omega)).trans h.at_.c1, (oth 2 (by omega)).trans h.at_.c2, (oth 3 (by omega)).trans h.at_.c3, (oth 4 (by omega)).trans h.at_.c4, fun i hi => ?_, fun o => (World.frozen?_setCell _ _ _ _).trans (h.at_.fz o), by simp [World.setCell]; exact h.at_.lt⟩,
    h.own.keepM hw (by simp [World.setCell]), h.q.keep fun b o s e => hw b (.inr (.inr (.inl ⟨o, s, e⟩))), h.ge, h.off⟩
  by_cases e : i = a
  · subst e
    rw [World.cell?_setCell_same _ _ _ (h.at_.cr i hi)]
    simp [List.getD_eq_getElem?_getD, hl, ha]
  · rw [oth (5 + i) (by omega), h.at_.cr i hi]
    simp [List.getD_eq_getElem?_getD, List.getElem?_set_ne (Ne.symm e)]
/-- another word of a frame -/
theorem Core.word {n0 : Nat} {w : World} {cb : Nat} {M : Mv} {e pc : Int} {rs : List Int} (h : Core n0 w cb M e pc rs) {b o k i : Nat} (hk : k < M.frs.length) (ha : (M.frs.getD k default).a = some ⟨b, o, none⟩) (hi : i < (M.frs.getD k default).ws.length) {v : Int} (wv : (Lit.int .i64 v).wf = true) :
    Core n0 (w.setCell ⟨b, o + i, none⟩ (.int .i64 v)) cb { M with frs := M.frs.set k { M.frs.getD k default with ws := (M.frs.getD k default).ws.set i v } } e pc rs := by
  have hbc : b ≠ cb := fun q => h.off (q ▸ .inr (.inr (.inr ⟨k, hk, o, none, ha⟩)))
  have hb : ∀ o', (w.setCell ⟨b, o + i, none⟩ (.int .i64 v)).cell? ⟨cb, o', none⟩ = w.cell? ⟨cb, o', none⟩ := fun o' => World.cell?_setCell_other _ _ _ _ (by intro q; simp only [Addr.mk.injEq] at q; exact hbc q.1)
  have addr : ∀ j, j < M.frs.length → ((M.frs.set k { M.frs.getD k default with ws := (M.frs.getD k default).ws.set i v }).getD j default).a = (M.frs.getD j default).a := fun j hj => by
    rw [getD_set _ _ _ _ hk]; split
    · rename_i e; subst e; rfl
    · rfl
  refine ⟨⟨?_, (hb 1).trans h.at_.c1, (hb 2).trans h.at_.c2, (hb 3).trans h.at_.c3, (hb 4).trans h.at_.c4, fun i hi => (hb _).trans (h.at_.cr i hi), fun o => (World.frozen?_setCell _ _ _ _).trans (h.at_.fz o), by simp [World.setCell]; exact h.at_.lt⟩, h.own.setWord hk ha hi wv, ?_, h.ge, ?_⟩
  · rw [hb 0, h.at_.c0]; simp
  · exact QRow.keep (M := M) h.q fun b' o' s e' => set_heap _ _ _ _ _ (fun q => by subst q; exact h.own.wq k hk b' o none o' s ha e')
  · rintro (q | q | q | ⟨j, hj, q⟩)
    · exact h.off (.inl q)
    · exact h.off (.inr (.inl q))
    · exact h.off (.inr (.inr (.inl q)))
    · have hj' : j < M.frs.length := by simpa using hj
      dsimp only at q
      rw [addr j hj'] at q
      exact h.off (.inr (.inr (.inr ⟨j, hj', q⟩)))

/-- what is neither the core's nor the machine's stays -/
def FarSame (M : Mv) (cb : Nat) (w w' : World) : Prop := ∀ b, b < w.heap.size → ¬ Mine M b → b ≠ cb → w'.heap[b]? = w.heap[b]?
theorem FarSame.refl (M : Mv) (cb : Nat) (w : World) : FarSame M cb w w := fun _ _ _ _ => rfl
theorem FarSame.below {M : Mv} {cb : Nat} {w w1 w2 : World} (h : FarSame M cb w w1) (hs : w.heap.size ≤ w1.heap.size) (hb : Below w1.heap.size w1 w2) : FarSame M cb w w2 := fun b hl hm hc => (hb.block b (by omega)).trans (h b hl hm hc)
theorem FarSame.set {M : Mv} {cb : Nat} {w w1 : World} (h : FarSame M cb w w1) {c : Nat} (hc : w.heap.size ≤ c ∨ Mine M c ∨ c = cb) (o : Nat) (v : Value) : FarSame M cb w (w1.setCell ⟨c, o, none⟩ v) := fun b hl hm hb => by
  rw [set_heap _ _ _ _ _ (by
    rintro rfl
    rcases hc with q | q | q
    · omega
    · exact hm q
    · exact hb q)]
  exact h b hl hm hb
/-- nothing new is the machine's of what was there -/
def MineSub (M M' : Mv) (n : Nat) : Prop := ∀ b, b < n → ¬ Mine M b → ¬ Mine M' b
theorem MineSub.refl (M : Mv) (n : Nat) : MineSub M M n := fun _ _ h => h
theorem FarSame.trans {M M' : Mv} {cb : Nat} {w w1 w2 : World} (h : FarSame M cb w w1) (hs : w.heap.size ≤ w1.heap.size) (hm : MineSub M M' w.heap.size) (h' : FarSame M' cb w1 w2) : FarSame M cb w w2 := fun b hl hn hc => (h' b (by omega) (hm b hl hn) hc).trans (h b hl hn hc)
theorem MineSub.trans {M M' M'' : Mv} {n n' : Nat} (h : MineSub M M' n) (hn : n ≤ n') (h' : MineSub M' M'' n') : MineSub M M'' n := fun b hl hm => h' b (by omega) (h b hl hm)

end Go.Proofs.YtdngbojbpmdegaaGreatDoor

namespace Go.Proofs.YtdngbojbpmdegaaGreatDoor
open Go.RowKit

theorem bp_genR {P : Program} {f : Func} {Q : Ending → World → Prop} {ex : Exit} {a : Act} {W : World} (h : ∀ W9, W9 = W → bodyPost P f Q ex a W9) : bodyPost P f Q ex a W := h W rfl
theorem blk2R {w : World} {b : Nat} {v0 v1 x0 x1 : Value} (h0 : w.cell? ⟨b, 0, none⟩ = some x0) (h1 : w.cell? ⟨b, 1, none⟩ = some x1) :
    ((w.setCell ⟨b, 0, none⟩ v0).setCell ⟨b, 1, none⟩ v1).cell? ⟨b, 0, none⟩ = some v0 ∧ ((w.setCell ⟨b, 0, none⟩ v0).setCell ⟨b, 1, none⟩ v1).cell? ⟨b, 1, none⟩ = some v1 := by
  refine ⟨?_, ?_⟩
  · rw [World.cell?_setCell_other _ _ _ _ (by simp)]
    exact World.cell?_setCell_same _ _ _ h0
  · exact World.cell?_setCell_same _ _ _ ((World.cell?_setCell_other _ _ _ _ (by simp)).trans h1)
theorem fault_run (w : World) : Calls Tryz.prog 147 #[] w fun x w' => x = .returned (.agg #[.int .i64 3, .int .i64 0]) ∧ Below w.heap.size w w' := by
  obtain ⟨W2, hW2⟩ : ∃ W2, Hid (W2 = w.alloc (.cells #[.int .i64 0, .int .i64 0] 47)) := ⟨_, rfl⟩
  have BW : Hid (Below w.heap.size w W2) := by show Below _ _ _; rw [hW2.out]; exact (Below.refl _ _).alloc (Nat.le_refl _) _
  have hblk : W2.heap[w.heap.size]? = some (.cells #[.int .i64 0, .int .i64 0] 47 (0, 0)) := by rw [hW2.out]; exact Go.Deep.blk_alloc_new _ _
  have r0 : W2.cell? ⟨w.heap.size, 0, none⟩ = some (.int .i64 0) := (by simp [World.cell?, hblk])
  have r1 : W2.cell? ⟨w.heap.size, 1, none⟩ = some (.int .i64 0) := (by simp [World.cell?, hblk])
  have f0 := frozen_of_block hblk 0
  have f1 := frozen_of_block hblk 1
  go_enter Tryz.func147, Tryz.ntmps147
  go_upto_region 1 with fail
  rw [← hW2.out]
  clear hblk
  go_wp2
  obtain ⟨k0, k1⟩ := blk2R (v0 := .int .i64 3) (v1 := .int .i64 0) r0 r1
  (try simp only [Exit.inBlock, Exit.then])
  refine bodyPost_ret (by simp [results, Tryz.results147, go_sem, k0, k1]; try rfl) rfl ?_
  exact ⟨rfl, (BW.out.setCell (by simp) _).setCell (by simp) _⟩
theorem oneIf_run (b : Bool) (w : World) : Calls Tryz.prog 148 #[.bool b] w fun x w' => x = .returned (.int .i64 (if b = true then 1 else 0)) ∧ w = w' := by
  cases b
  all_goals
    go_enter Tryz.func148, Tryz.ntmps148
    go_wp2
    go_ret
    exact ⟨rfl, rfl⟩

set_option maxRecDepth 100000 in
set_option maxHeartbeats 4000000 in
theorem load_none {n0 : Nat} {w : World} {cb : Nat} {M : Mv} {e pc : Int} {rs : List Int} (h : Core n0 w cb M e pc rs) (hG : Good M) (hn0 : n0 ≤ w.heap.size) {a : Nat} {n : Int} (h0 : 0 ≤ n) (hn : n ≤ 65535) (hf : wAddr M e n 1 = none) :
    Calls Tryz.prog 149 #[.pointer (some ⟨cb, 0, none⟩), .pointer (some ⟨cb, 5 + a, none⟩), .int .i64 n] w fun x w' => x = .returned (.agg #[.int .i64 3, .int .i64 0]) ∧ Core n0 w' cb M e pc rs ∧ Below n0 w w' ∧ FarSame M cb w w' := by
  obtain ⟨W2, hW2⟩ : ∃ W2, Hid (W2 = w.alloc (.cells #[.int .i64 0, .int .i64 0] 47)) := ⟨_, rfl⟩
  have BW : Hid (Below w.heap.size w W2) := by show Below _ _ _; rw [hW2.out]; exact (Below.refl _ _).alloc (Nat.le_refl _) _
  have hblk : W2.heap[w.heap.size]? = some (.cells #[.int .i64 0, .int .i64 0] 47 (0, 0)) := by rw [hW2.out]; exact Go.Deep.blk_alloc_new _ _
  have rl : w.heap.size < W2.heap.size := (Array.getElem?_eq_some_iff.1 hblk).1
  have RB : Hid (∀ w', Below W2.heap.size W2 w' → w'.heap[w.heap.size]? = some (.cells #[.int .i64 0, .int .i64 0] 47 (0, 0))) := fun w' h => (h.block _ rl).trans hblk
  have hMR : Hid (¬ Mine M w.heap.size) := fun q => by have := (Mine.fresh h.own q).2; omega
  have hRc : w.heap.size ≠ cb := by have := h.at_.lt; omega
  have HC2 : Hid (Core n0 W2 cb M e pc rs) := h.keep BW.out
  have hT := touch_run M e pc n 1 rs cb W2 HC2.out.at_ HC2.out.own.at_ hG h0 (by omega) (.inl rfl)
  rw [hf] at hT
  clear hf h hblk
  go_enter Tryz.func149, Tryz.ntmps149
  go_upto_region 1 with fail
  rw [← hW2.out]
  go_wp2_with (first
    | (go_at_call 156; refine hT.mono ?_; clear hT; rintro x w1 ⟨rfl, hb⟩; have HBa : Hid (_) := hb; clear hb)
    | (go_at_call 147; refine (fault_run _).mono ?_; rintro x W1 ⟨rfl, hb⟩; have HB1 : Hid (Below W2.heap.size W2 W1) := HBa.out.trans (hb.mono HBa.out.size); have hblk := RB.out W1 HB1.out; have r0 : W1.cell? ⟨w.heap.size, 0, none⟩ = some (.int .i64 0) := (by simp [World.cell?, hblk]); have r1 : W1.cell? ⟨w.heap.size, 1, none⟩ = some (.int .i64 0) := (by simp [World.cell?, hblk]); have f0 := frozen_of_block hblk 0; have f1 := frozen_of_block hblk 1; have rl1 := lt_of_cell r0; dsimp only at rl1; clear hblk; clear hb)
    | fail)
  refine bp_genR fun V9 hV9 => ?_
  obtain ⟨k0, k1⟩ := blk2R (v0 := .int .i64 3) (v1 := .int .i64 0) r0 r1
  rw [← hV9] at k0 k1
  have HC9 : Core n0 V9 cb M e pc rs := by rw [hV9]; exact ((HC2.out.keep HB1.out).far hMR.out hRc 0 _).far hMR.out hRc 1 _
  have HB9 : Below n0 w V9 := by rw [hV9]; exact (((BW.out.mono hn0).trans (HB1.out.mono (by have := BW.out.size; omega))).setCell hn0 _).setCell hn0 _
  have HF9 : FarSame M cb w V9 := by rw [hV9]; exact ((((FarSame.refl M cb w).below (Nat.le_refl _) BW.out).below BW.out.size HB1.out).set (.inl (Nat.le_refl _)) 0 _).set (.inl (Nat.le_refl _)) 1 _
  clear hV9
  (try simp only [Exit.inBlock, Exit.then])
  refine bodyPost_ret (by simp [results, Tryz.results149, go_sem, k0, k1]; try rfl) rfl ?_
  exact ⟨rfl, HC9, HB9, HF9⟩

set_option maxRecDepth 100000 in
set_option maxHeartbeats 4000000 in
theorem load_some {n0 : Nat} {w : World} {cb : Nat} {M : Mv} {e pc : Int} {rs : List Int} (h : Core n0 w cb M e pc rs) (hG : Good M) (hn0 : n0 ≤ w.heap.size) {a : Nat} (ha : a < 4) (hl : rs.length = 4) {n : Int} (h0 : 0 ≤ n) (hn : n ≤ 65535) {ad : Addr} (hf : wAddr M e n 1 = some ad) :
    Calls Tryz.prog 149 #[.pointer (some ⟨cb, 0, none⟩), .pointer (some ⟨cb, 5 + a, none⟩), .int .i64 n] w fun x w' => x = .returned (.agg #[.int .i64 0, .int .i64 0]) ∧ Core n0 w' cb M e pc (rs.set a (wordAt M (frmF M.frs e n 1) n)) ∧ Below n0 w w' ∧ FarSame M cb w w' := by
  obtain ⟨W2, hW2⟩ : ∃ W2, Hid (W2 = w.alloc (.cells #[.int .i64 0, .int .i64 0] 47)) := ⟨_, rfl⟩
  have BW : Hid (Below w.heap.size w W2) := by show Below _ _ _; rw [hW2.out]; exact (Below.refl _ _).alloc (Nat.le_refl _) _
  have hblk : W2.heap[w.heap.size]? = some (.cells #[.int .i64 0, .int .i64 0] 47 (0, 0)) := by rw [hW2.out]; exact Go.Deep.blk_alloc_new _ _
  have rl : w.heap.size < W2.heap.size := (Array.getElem?_eq_some_iff.1 hblk).1
  have RB : Hid (∀ w', Below W2.heap.size W2 w' → w'.heap[w.heap.size]? = some (.cells #[.int .i64 0, .int .i64 0] 47 (0, 0))) := fun w' h => (h.block _ rl).trans hblk
  have hMR : Hid (¬ Mine M w.heap.size) := fun q => by have := (Mine.fresh h.own q).2; omega
  have hRc : w.heap.size ≠ cb := by have := h.at_.lt; omega
  have HC2 : Hid (Core n0 W2 cb M e pc rs) := h.keep BW.out
  have hT := touch_run M e pc n 1 rs cb W2 HC2.out.at_ HC2.out.own.at_ hG h0 (by omega) (.inl rfl)
  rw [hf] at hT
  have HF : Hid (_) := hf
  have HG : Hid (_) := hG
  have HA : Hid (a < 4) := ha
  have HL : Hid (rs.length = 4) := hl
  clear hf h hblk hG hl
  obtain ⟨ab, ao, asp⟩ := ad
  obtain ⟨v, hv⟩ : ∃ v, Hid (wordAt M (frmF M.frs e n 1) n = v) := ⟨_, rfl⟩
  rw [hv.out]
  go_enter Tryz.func149, Tryz.ntmps149
  go_upto_region 1 with fail
  rw [← hW2.out]
  go_wp2_with (go_at_call 156; refine hT.mono ?_; clear hT; rintro x W1 ⟨rfl, hb⟩; have HB1 : Hid (_) := hb; have hC1 := HC2.out.keep hb; obtain ⟨sp, x1, _⟩ := wAddr_word hC1.own.at_ HG.out h0 HF.out; dsimp only at sp; subst sp; rw [hv.out] at x1; have g0 := hC1.at_.cr a HA.out; have gf := hC1.at_.fz (5 + a); have gl := hC1.at_.lt; have hblk := RB.out W1 HB1.out; have r0 : W1.cell? ⟨w.heap.size, 0, none⟩ = some (.int .i64 0) := (by simp [World.cell?, hblk]); have r1 : W1.cell? ⟨w.heap.size, 1, none⟩ = some (.int .i64 0) := (by simp [World.cell?, hblk]); have f0 := frozen_of_block hblk 0; have f1 := frozen_of_block hblk 1; have rl1 := lt_of_cell r0; dsimp only at rl1; clear hblk; clear hb hC1)
  refine bp_genR fun V9 hV9 => ?_
  have q0 : (W1.setCell ⟨cb, 5 + a, none⟩ (.int .i64 v)).cell? ⟨w.heap.size, 0, none⟩ = some (.int .i64 0) := (World.cell?_setCell_other _ _ _ _ (by intro q; simp only [Addr.mk.injEq] at q; exact hRc q.1.symm)).trans r0
  have q1 : (W1.setCell ⟨cb, 5 + a, none⟩ (.int .i64 v)).cell? ⟨w.heap.size, 1, none⟩ = some (.int .i64 0) := (World.cell?_setCell_other _ _ _ _ (by intro q; simp only [Addr.mk.injEq] at q; exact hRc q.1.symm)).trans r1
  obtain ⟨k0, k1⟩ := blk2R (v0 := .int .i64 0) (v1 := .int .i64 0) q0 q1
  rw [← hV9] at k0 k1
  have HC9 : Core n0 V9 cb M e pc (rs.set a v) := by rw [hV9]; exact (((HC2.out.keep HB1.out).regSet HA.out HL.out v).far hMR.out hRc 0 _).far hMR.out hRc 1 _
  have HB9 : Below n0 w V9 := by rw [hV9]; exact ((((BW.out.mono hn0).trans (HB1.out.mono (by have := BW.out.size; omega))).setCell HC2.out.ge _).setCell hn0 _).setCell hn0 _
  have HF9 : FarSame M cb w V9 := by rw [hV9]; exact (((((FarSame.refl M cb w).below (Nat.le_refl _) BW.out).below BW.out.size HB1.out).set (.inr (.inr rfl)) (5 + a) _).set (.inl (Nat.le_refl _)) 0 _).set (.inl (Nat.le_refl _)) 1 _
  clear hV9
  (try simp only [Exit.inBlock, Exit.then])
  refine bodyPost_ret (by simp [results, Tryz.results149, go_sem, k0, k1]; try rfl) rfl ?_
  exact ⟨rfl, HC9, HB9, HF9⟩

set_option maxRecDepth 100000 in
set_option maxHeartbeats 4000000 in
theorem store_none {n0 : Nat} {w : World} {cb : Nat} {M : Mv} {e pc : Int} {rs : List Int} (h : Core n0 w cb M e pc rs) (hG : Good M) (hn0 : n0 ≤ w.heap.size) {v n : Int} (h0 : 0 ≤ n) (hn : n ≤ 65535) (hf : wAddr M e n 2 = none) :
    Calls Tryz.prog 150 #[.pointer (some ⟨cb, 0, none⟩), .int .i64 v, .int .i64 n] w fun x w' => x = .returned (.agg #[.int .i64 3, .int .i64 0]) ∧ Core n0 w' cb M e pc rs ∧ Below n0 w w' ∧ FarSame M cb w w' := by
  obtain ⟨W2, hW2⟩ : ∃ W2, Hid (W2 = w.alloc (.cells #[.int .i64 0, .int .i64 0] 47)) := ⟨_, rfl⟩
  have BW : Hid (Below w.heap.size w W2) := by show Below _ _ _; rw [hW2.out]; exact (Below.refl _ _).alloc (Nat.le_refl _) _
  have hblk : W2.heap[w.heap.size]? = some (.cells #[.int .i64 0, .int .i64 0] 47 (0, 0)) := by rw [hW2.out]; exact Go.Deep.blk_alloc_new _ _
  have rl : w.heap.size < W2.heap.size := (Array.getElem?_eq_some_iff.1 hblk).1
  have RB : Hid (∀ w', Below W2.heap.size W2 w' → w'.heap[w.heap.size]? = some (.cells #[.int .i64 0, .int .i64 0] 47 (0, 0))) := fun w' h => (h.block _ rl).trans hblk
  have hMR : Hid (¬ Mine M w.heap.size) := fun q => by have := (Mine.fresh h.own q).2; omega
  have hRc : w.heap.size ≠ cb := by have := h.at_.lt; omega
  have HC2 : Hid (Core n0 W2 cb M e pc rs) := h.keep BW.out
  have hT := touch_run M e pc n 2 rs cb W2 HC2.out.at_ HC2.out.own.at_ hG h0 (by omega) (.inr (.inl rfl))
  rw [hf] at hT
  clear hf h hblk
  go_enter Tryz.func150, Tryz.ntmps150
  go_upto_region 1 with fail
  rw [← hW2.out]
  go_wp2_with (first
    | (go_at_call 156; refine hT.mono ?_; clear hT; rintro x w1 ⟨rfl, hb⟩; have HBa : Hid (_) := hb; clear hb)
    | (go_at_call 147; refine (fault_run _).mono ?_; rintro x W1 ⟨rfl, hb⟩; have HB1 : Hid (Below W2.heap.size W2 W1) := HBa.out.trans (hb.mono HBa.out.size); have hblk := RB.out W1 HB1.out; have r0 : W1.cell? ⟨w.heap.size, 0, none⟩ = some (.int .i64 0) := (by simp [World.cell?, hblk]); have r1 : W1.cell? ⟨w.heap.size, 1, none⟩ = some (.int .i64 0) := (by simp [World.cell?, hblk]); have f0 := frozen_of_block hblk 0; have f1 := frozen_of_block hblk 1; have rl1 := lt_of_cell r0; dsimp only at rl1; clear hblk; clear hb)
    | fail)
  refine bp_genR fun V9 hV9 => ?_
  obtain ⟨k0, k1⟩ := blk2R (v0 := .int .i64 3) (v1 := .int .i64 0) r0 r1
  rw [← hV9] at k0 k1
  have HC9 : Core n0 V9 cb M e pc rs := by rw [hV9]; exact ((HC2.out.keep HB1.out).far hMR.out hRc 0 _).far hMR.out hRc 1 _
  have HB9 : Below n0 w V9 := by rw [hV9]; exact (((BW.out.mono hn0).trans (HB1.out.mono (by have := BW.out.size; omega))).setCell hn0 _).setCell hn0 _
  have HF9 : FarSame M cb w V9 := by rw [hV9]; exact ((((FarSame.refl M cb w).below (Nat.le_refl _) BW.out).below BW.out.size HB1.out).set (.inl (Nat.le_refl _)) 0 _).set (.inl (Nat.le_refl _)) 1 _
  clear hV9
  (try simp only [Exit.inBlock, Exit.then])
  refine bodyPost_ret (by simp [results, Tryz.results150, go_sem, k0, k1]; try rfl) rfl ?_
  exact ⟨rfl, HC9, HB9, HF9⟩

set_option maxRecDepth 100000 in
set_option maxHeartbeats 4000000 in
theorem store_some {n0 : Nat} {w : World} {cb : Nat} {M : Mv} {e pc : Int} {rs : List Int} (h : Core n0 w cb M e pc rs) (hG : Good M) (hn0 : n0 ≤ w.heap.size) {v n : Int} (wv : (Lit.int .i64 v).wf = true) (h0 : 0 ≤ n) (hn : n ≤ 65535) {ad : Addr} (hf : wAddr M e n 2 = some ad) :
    Calls Tryz.prog 150 #[.pointer (some ⟨cb, 0, none⟩), .int .i64 v, .int .i64 n] w fun x w' => x = .returned (.agg #[.int .i64 0, .int .i64 0]) ∧ Core n0 w' cb (putWord M (frmF M.frs e n 2) n v) e pc rs ∧ Below n0 w w' ∧ FarSame M cb w w' ∧ MineSub M (putWord M (frmF M.frs e n 2) n v) w.heap.size := by
  obtain ⟨W2, hW2⟩ : ∃ W2, Hid (W2 = w.alloc (.cells #[.int .i64 0, .int .i64 0] 47)) := ⟨_, rfl⟩
  have BW : Hid (Below w.heap.size w W2) := by show Below _ _ _; rw [hW2.out]; exact (Below.refl _ _).alloc (Nat.le_refl _) _
  have hblk : W2.heap[w.heap.size]? = some (.cells #[.int .i64 0, .int .i64 0] 47 (0, 0)) := by rw [hW2.out]; exact Go.Deep.blk_alloc_new _ _
  have rl : w.heap.size < W2.heap.size := (Array.getElem?_eq_some_iff.1 hblk).1
  have RB : Hid (∀ w', Below W2.heap.size W2 w' → w'.heap[w.heap.size]? = some (.cells #[.int .i64 0, .int .i64 0] 47 (0, 0))) := fun w' h => (h.block _ rl).trans hblk
  have hMR : Hid (¬ Mine M w.heap.size) := fun q => by have := (Mine.fresh h.own q).2; omega
  have hRc : w.heap.size ≠ cb := by have := h.at_.lt; omega
  have HC2 : Hid (Core n0 W2 cb M e pc rs) := h.keep BW.out
  have hT := touch_run M e pc n 2 rs cb W2 HC2.out.at_ HC2.out.own.at_ hG h0 (by omega) (.inr (.inl rfl))
  rw [hf] at hT
  have HF : Hid (_) := hf
  have HG : Hid (_) := hG
  clear hf h hblk hG
  obtain ⟨ab, ao, asp⟩ := ad
  go_enter Tryz.func150, Tryz.ntmps150
  go_upto_region 1 with fail
  rw [← hW2.out]
  go_wp2_with (go_at_call 156; refine hT.mono ?_; clear hT; rintro x W1 ⟨rfl, hb⟩; have HB1 : Hid (_) := hb; have hC1 := HC2.out.keep hb; obtain ⟨sp, x1, _, k, hk, hfk, o, hoa, hae⟩ := wAddr_word hC1.own.at_ HG.out h0 HF.out; dsimp only at sp; subst sp; have HFK : Hid (_) := hfk; have HOA : Hid (_) := hoa; have HAE : Hid (_) := hae; have HK : Hid (_) := hk; have gf : W1.frozen? ⟨ab, ao, none⟩ = false := (hC1.own.nw k (by rw [HG.out.s1]; exact hk) ab o none hoa).2.2 ao; have gl := lt_of_cell x1; dsimp only at gl; have hab : ab ≠ w.heap.size := (fun q => hMR.out (.inr (.inr (.inr ⟨k, (by rw [HG.out.s1]; exact hk), o, none, (by rw [← q]; exact hoa)⟩)))); have hblk := RB.out W1 HB1.out; have r0 : W1.cell? ⟨w.heap.size, 0, none⟩ = some (.int .i64 0) := (by simp [World.cell?, hblk]); have r1 : W1.cell? ⟨w.heap.size, 1, none⟩ = some (.int .i64 0) := (by simp [World.cell?, hblk]); have f0 := frozen_of_block hblk 0; have f1 := frozen_of_block hblk 1; have rl1 := lt_of_cell r0; dsimp only at rl1; clear hblk; clear hb hC1 hfk hoa hae hk)
  refine bp_genR fun V9 hV9 => ?_
  have g := HG.out
  have hk24 : k < M.frs.length := by rw [g.s1]; exact HK.out
  have q0 : (W1.setCell ⟨ab, ao, none⟩ (.int .i64 v)).cell? ⟨w.heap.size, 0, none⟩ = some (.int .i64 0) := (World.cell?_setCell_other _ _ _ _ (by intro q; simp only [Addr.mk.injEq] at q; exact hab q.1)).trans r0
  have q1 : (W1.setCell ⟨ab, ao, none⟩ (.int .i64 v)).cell? ⟨w.heap.size, 1, none⟩ = some (.int .i64 0) := (World.cell?_setCell_other _ _ _ _ (by intro q; simp only [Addr.mk.injEq] at q; exact hab q.1)).trans r1
  obtain ⟨k0, k1⟩ := blk2R (v0 := .int .i64 0) (v1 := .int .i64 0) q0 q1
  rw [← hV9] at k0 k1
  have hg := goodFr_iff.1 (g.fr k HK.out)
  have hw8 : (M.frs.getD k default).ws.length = 8 := (mayW_iff.1 hg.1).1
  have eo : ao = o + (n % 8).toNat := by have := HAE.out; simp only [Addr.mk.injEq, true_and, and_true] at this; exact this
  have HC8 : Core n0 (W1.setCell ⟨ab, ao, none⟩ (.int .i64 v)) cb (putWord M (frmF M.frs e n 2) n v) e pc rs := by
    have := (HC2.out.keep HB1.out).word (k := k) hk24 HOA.out (i := (n % 8).toNat) (by rw [hw8]; omega) wv
    unfold putWord
    rw [HFK.out, Int.toNat_natCast, eo]
    exact this
  have msub : ∀ b, Mine (putWord M (frmF M.frs e n 2) n v) b → Mine M b := fun b q => by
    unfold putWord at q
    rw [HFK.out, Int.toNat_natCast] at q
    rcases q with q | q | q | ⟨j, hj, q⟩
    · exact .inl q
    · exact .inr (.inl q)
    · exact .inr (.inr (.inl q))
    · have hj' : j < M.frs.length := by simpa using hj
      refine .inr (.inr (.inr ⟨j, hj', ?_⟩))
      dsimp only at q
      rw [getD_set _ _ _ _ hk24] at q
      split at q
      · rename_i e'; subst e'; exact q
      · exact q
  have hMR2 : ¬ Mine (putWord M (frmF M.frs e n 2) n v) w.heap.size := fun q => hMR.out (msub _ q)
  have MS : MineSub M (putWord M (frmF M.frs e n 2) n v) w.heap.size := fun b _ hb q => hb (msub b q)
  have HC9 : Core n0 V9 cb (putWord M (frmF M.frs e n 2) n v) e pc rs := by rw [hV9]; exact (HC8.far hMR2 hRc 0 _).far hMR2 hRc 1 _
  have HB9 : Below n0 w V9 := by rw [hV9]; exact ((((BW.out.mono hn0).trans (HB1.out.mono (by have := BW.out.size; omega))).setCell (HC2.out.own.nw k hk24 ab o none HOA.out).1 _).setCell hn0 _).setCell hn0 _
  have HF9 : FarSame M cb w V9 := by rw [hV9]; exact (((((FarSame.refl M cb w).below (Nat.le_refl _) BW.out).below BW.out.size HB1.out).set (.inr (.inl (.inr (.inr (.inr ⟨k, hk24, o, none, HOA.out⟩))))) ao _).set (.inl (Nat.le_refl _)) 0 _).set (.inl (Nat.le_refl _)) 1 _
  clear hV9
  (try simp only [Exit.inBlock, Exit.then])
  refine bodyPost_ret (by simp [results, Tryz.results150, go_sem, k0, k1]; try rfl) rfl ?_
  exact ⟨rfl, HC9, HB9, HF9, MS⟩

end Go.Proofs.YtdngbojbpmdegaaGreatDoor

namespace Go.Proofs.YtdngbojbpmdegaaGreatDoor
open Go.RowKit

section
variable {α : Type} [Inhabited α] {P : Program} {c : Nat} {cells : α → List Value}
end
/-- an append whose run is known, at the list of a plain region -/
theorem wpList_append_eq {P : Program} {w w' : World} {ops : Array Oper} {rest : List Oper} {o : Oper} {a : Act} {Q : Exit → Act → World → Prop} (hgd : o.guard = none) (x y : Operand) (t : TypeId)
    (ho : o.op = .call { callee := .builtin .append, args := #[x, y], argTypes := #[t, t] }) (v u v' : Value) (hx : a.eval x = v) (hy : a.eval y = u) (hr : (Builtin.append_ #[t, t] o.type #[v, u]).run P w = .ok v' w')
    (h : wpList P ops Q rest (a.put o.dst v') w') : wpList P ops Q (o :: rest) a w :=
  wpList_plain hgd fun _ hK => by
    unfold Oper.wp execOp
    simp only [ho, resolve, invoke, builtin, Sem.run_bind, Sem.run_pure, Result.andThen_ok, List.map_toArray, List.map_cons, List.map_nil, hx, hy, hr]
    exact hK _ _ h
/-- a new row, or nothing -/
def RowIn (w : World) (n : Nat) (e : TypeId) (a : Option Addr) (L : List Value) : Prop := (a = none ∧ L = []) ∨ ∃ g zs, a = some ⟨g, 0, none⟩ ∧ n ≤ g ∧ w.heap[g]? = some (.cells (L ++ zs).toArray e (0, 0))
theorem ints_rows {w : World} {a : Option Addr} {ws : List Int} (h : Ints w a ws) : RowsAt w 1 (fun n : Int => [Value.int .i64 n]) a ws := by
  rcases h with rfl | ⟨b, off, h1, h2⟩
  · exact .inl rfl
  · refine .inr ⟨b, off, h1, fun j hj i hi => ?_⟩
    obtain rfl : i = 0 := by omega
    show w.cell? ⟨b, off + j * 1 + 0, none⟩ = some (.int .i64 (ws.getD j 0))
    rw [Nat.mul_one, Nat.add_zero]
    exact h2 j hj
theorem wvals_flat (ws : List Int) : (ws.flatMap fun n : Int => [Value.int .i64 n]) = wvals ws := by
  induction ws with
  | nil => rfl
  | cons a l ih => simp [wvals] at ih ⊢; exact ih

end Go.Proofs.YtdngbojbpmdegaaGreatDoor
