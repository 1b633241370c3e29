/-
  Machines in memory of their own (own work): rows of things as cells of a block, copies of rows of several cells each, and what a store into such a machine makes of it. No condition beside the cells.
-/
import Derived.Test.YtdbbiibnhgcndaaSameM
import Derived.Laws.CopyRow
import Derived.Laws.CopyOwn
import Derived.Deep.OwnRows
namespace Go.Proofs.Ytdbbiibnhgcndaa
open Go.RowKit

theorem run_copy_wide {P : Program} (w : World) (dT sT ty elem : TypeId) (c g o dLen dCap : Nat) (a : Addr) (sLen sCap : Nat) (cur : Array Value) (t : TypeId) (cs : List Value)
    (hu : P.underlying dT = some (.slice elem)) (hs : (P.info? elem).map (·.size) = some c)
    (hg : w.heap[g]? = some (.cells cur t (0, 0))) (hn : cs.length = Nat.min sLen dLen * c)
    (hsrc : ∀ (j : Nat) v, cs[j]? = some v → w.cell? (a.add j) = some v) (hfit : o + cs.length ≤ cur.size) (h1 : ∀ v ∈ cs, v.oneCell' = true) :
    (Builtin.copy_ #[dT, sT] ty #[.slice (some ⟨g, o, none⟩) dLen dCap, .slice (some a) sLen sCap]).run P w =
      .ok (goInt (Nat.min sLen dLen)) (w.setRow g (cur.toList.take o ++ cs ++ cur.toList.drop (o + cs.length)).toArray) := by
  have hl := run_loadCells_list (P := P) w a cs hsrc
  have hst := run_storeCells_at P g o t cs 0 cur w hg (by simpa using hfit) h1
  cases hq : P.info? elem with
  | none => simp [hq] at hs
  | some i =>
    have hi : i.size = c := by simpa [hq] using hs
    simp [Builtin.copy_, run_underlying hu, Builtin.lenOf, Builtin.firstCells, sizeOf, typeInfo, hq, hi, ← hn, hl, hst]
theorem run_copy_void {P : Program} (w : World) (dT sT ty elem : TypeId) (c : Nat) (d a : Option Addr) (dLen dCap sLen sCap : Nat) (hu : P.underlying dT = some (.slice elem)) (hs : (P.info? elem).map (·.size) = some c) (hn : Nat.min sLen dLen = 0) :
    (Builtin.copy_ #[dT, sT] ty #[.slice d dLen dCap, .slice a sLen sCap]).run P w = .ok (goInt 0) w := by
  cases hq : P.info? elem with
  | none => simp [hq] at hs
  | some i =>
    have hl : ∀ (x : Addr), (loadCells x 0).run P w = .ok #[] w := fun x => by simpa using run_loadCells_list (P := P) w x [] (by simp)
    cases d <;> cases a <;> simp [Builtin.copy_, run_underlying hu, Builtin.lenOf, Builtin.firstCells, sizeOf, typeInfo, hq, hn, storeCells, hl]

section
variable {α : Type} {c : Nat} {cells : α → List Value}

/-- things as cells, one behind the other -/
theorem flat_len (hcl : ∀ q, (cells q).length = c) : ∀ xs : List α, (xs.flatMap cells).length = xs.length * c
  | [] => by simp
  | x :: xs => by simp [flat_len hcl xs, hcl, Nat.add_mul]; omega
variable [Inhabited α]
theorem flat_get (hcl : ∀ q, (cells q).length = c) : ∀ (xs : List α) (j i : Nat), j < xs.length → i < c → (xs.flatMap cells)[j * c + i]? = (cells (xs.getD j default))[i]?
  | [], j, i, hj, _ => by simp at hj
  | x :: xs, 0, i, _, hi => by
    simp only [List.flatMap_cons, Nat.zero_mul, Nat.zero_add]
    rw [List.getElem?_append_left (by rw [hcl]; exact hi)]
    rfl
  | x :: xs, j + 1, i, hj, hi => by
    simp only [List.flatMap_cons]
    rw [List.getElem?_append_right (by rw [hcl, Nat.add_mul]; omega), hcl, show (j + 1) * c + i - c = j * c + i by rw [Nat.add_mul]; omega, flat_get hcl xs j i (by simpa using hj) hi]
    simp [List.getD_eq_getElem?_getD]
theorem rows_of_block (hcl : ∀ q, (cells q).length = c) {w : World} {B : Nat} {t : TypeId} {xs : List α} {rest : List Value} {fr : Nat × Nat} (h : w.heap[B]? = some (.cells (xs.flatMap cells ++ rest).toArray t fr)) : RowsAt w c cells (some ⟨B, 0, none⟩) xs := by
  refine .inr ⟨B, 0, rfl, fun j hj i hi => ?_⟩
  have hlt : j * c + i < (xs.flatMap cells).length := by
    rw [flat_len hcl]
    calc j * c + i < j * c + c := by omega
      _ = (j + 1) * c := by rw [Nat.add_mul]; omega
      _ ≤ xs.length * c := Nat.mul_le_mul_right _ hj
  rw [← flat_get hcl xs j i hj hi, Nat.zero_add]
  simp only [World.cell?, h]
  rw [List.getElem?_toArray, List.getElem?_append_left hlt]
  rfl
theorem src_of_rows (hcl : ∀ q, (cells q).length = c) (h0 : 0 < c) {w : World} {b off : Nat} {xs : List α} (h : ∀ j, j < xs.length → ∀ i, i < c → w.cell? ⟨b, off + j * c + i, none⟩ = (cells (xs.getD j default))[i]?) :
    ∀ (j : Nat) v, (xs.flatMap cells)[j]? = some v → w.cell? ((⟨b, off, none⟩ : Addr).add j) = some v := by
  intro j v hv
  have hj : j < xs.length * c := by
    have := (List.getElem?_eq_some_iff.1 hv).1
    rwa [flat_len hcl] at this
  have e : j = j / c * c + j % c := by rw [Nat.mul_comm]; exact (Nat.div_add_mod j c).symm
  have h1 : j / c < xs.length := (Nat.div_lt_iff_lt_mul h0).2 hj
  have h2 : j % c < c := Nat.mod_lt _ h0
  rw [add_at]
  have := h (j / c) h1 (j % c) h2
  rw [← flat_get hcl xs _ _ h1 h2, ← e, hv, Nat.add_assoc, ← e] at this
  exact this
/-- a cell of one thing is another one -/
theorem RowsAt.setCell (hcl : ∀ q, (cells q).length = c) {w : World} {b off k i0 : Nat} {xs : List α} {x' : α} {v : Value} (h : RowsAt w c cells (some ⟨b, off, none⟩) xs) (hk : k < xs.length) (hi : i0 < c)
    (hx : ∀ i, i < c → (cells x')[i]? = if i = i0 then some v else (cells (xs.getD k default))[i]?) : RowsAt (w.setCell ⟨b, off + k * c + i0, none⟩ v) c cells (some ⟨b, off, none⟩) (xs.set k x') := by
  rcases h with rfl | ⟨b', off', e, h⟩
  · simp at hk
  · simp only [Option.some.injEq, Addr.mk.injEq, and_true] at e
    obtain ⟨rfl, rfl⟩ := e
    refine .inr ⟨b, off, rfl, fun j hj i hic => ?_⟩
    have hj' : j < xs.length := by simpa using hj
    by_cases ej : j = k
    · subst ej
      have eg : (xs.set j x').getD j default = x' := by simp [List.getD_eq_getElem?_getD, hj']
      rw [eg, hx i hic]
      by_cases ei : i = i0
      · subst ei
        rw [if_pos rfl]
        have hc := h j hj' i hic
        have hk' : (cells (xs.getD j default))[i]? = some ((cells (xs.getD j default))[i]'(by rw [hcl]; exact hic)) := by simp [hcl, hic]
        rw [hk'] at hc
        exact World.cell?_setCell_same _ _ _ hc
      · rw [if_neg ei, World.cell?_setCell_other _ _ _ _ (by intro q; simp only [Addr.mk.injEq, true_and, and_true] at q; omega)]
        exact h j hj' i hic
    · have eg : (xs.set k x').getD j default = xs.getD j default := by simp [List.getD_eq_getElem?_getD, List.getElem?_set_ne (Ne.symm ej)]
      rw [eg, World.cell?_setCell_other _ _ _ _ ?_, h j hj' i hic]
      intro q
      simp only [Addr.mk.injEq, true_and, and_true] at q
      have q' : k * c + i0 = j * c + i := by omega
      have a1 : (k * c + i0) / c = k := by rw [Nat.add_comm, Nat.add_mul_div_right _ _ (by omega), Nat.div_eq_of_lt hi]; omega
      have a2 : (j * c + i) / c = j := by rw [Nat.add_comm, Nat.add_mul_div_right _ _ (by omega), Nat.div_eq_of_lt hic]; omega
      rw [q', a2] at a1
      exact ej a1
/-- what lies elsewhere stays -/
theorem RowsAt.outside {w w' : World} {B : Nat} {a : Option Addr} {xs : List α} (h : RowsAt w c cells a xs) (ha : ∀ b off s, a = some ⟨b, off, s⟩ → b ≠ B) (hw : ∀ q : Addr, q.block ≠ B → w'.cell? q = w.cell? q) : RowsAt w' c cells a xs := by
  rcases h with h | ⟨b, off, h1, h2⟩
  · exact .inl h
  · exact .inr ⟨b, off, h1, fun j hj i hi => (hw ⟨b, _, none⟩ (ha b off none h1)).trans (h2 j hj i hi)⟩
end
theorem Ints.outside {w w' : World} {B : Nat} {a : Option Addr} {xs : List Int} (h : Ints w a xs) (ha : ∀ b off s, a = some ⟨b, off, s⟩ → b ≠ B) (hw : ∀ q : Addr, q.block ≠ B → w'.cell? q = w.cell? q) : Ints w' a xs := by
  rcases h with h | ⟨b, off, h1, h2⟩
  · exact .inl h
  · exact .inr ⟨b, off, h1, fun j hj => (hw ⟨b, _, none⟩ (ha b off none h1)).trans (h2 j hj)⟩

/-- where a slice leads, if anywhere: new, not frozen -/
def New (n0 : Nat) (w : World) (a : Option Addr) : Prop := ∀ b off s, a = some ⟨b, off, s⟩ → n0 ≤ b ∧ b < w.heap.size ∧ ∀ o, w.frozen? ⟨b, o, none⟩ = false
/-- two slices lead to two blocks -/
def Off (a a' : Option Addr) : Prop := ∀ b off s off' s', a = some ⟨b, off, s⟩ → a' = some ⟨b, off', s'⟩ → False
theorem Off.symm {a a' : Option Addr} (h : Off a a') : Off a' a := fun b off s off' s' e e' => h b off' s' off s e' e
theorem Off.ne {a : Option Addr} {b off : Nat} {s : Option Nat} (h : Off a (some ⟨b, off, s⟩)) : ∀ b' off' s', a = some ⟨b', off', s'⟩ → b' ≠ b := fun b' off' s' e q => by subst q; exact h b' off' s' off s e rfl
/-- a machine in memory of its own -/
structure Owned (n0 : Nat) (w : World) (M : Mv) : Prop where
  at_ : MachAt w M
  nf : New n0 w M.fa
  ne : New n0 w M.ea
  nq : New n0 w M.qa
  nw : ∀ j, j < M.frs.length → New n0 w (M.frs.getD j default).a
  fe : Off M.fa M.ea
  fq : Off M.fa M.qa
  eq : Off M.ea M.qa
  wf : ∀ j, j < M.frs.length → Off (M.frs.getD j default).a M.fa
  we : ∀ j, j < M.frs.length → Off (M.frs.getD j default).a M.ea
  wq : ∀ j, j < M.frs.length → Off (M.frs.getD j default).a M.qa
  ww : ∀ i j, i < M.frs.length → j < M.frs.length → i ≠ j → Off (M.frs.getD i default).a (M.frs.getD j default).a

theorem New.below {n0 : Nat} {w w' : World} {a : Option Addr} (h : New n0 w a) (hf : ∀ q : Addr, w'.frozen? q = w.frozen? q) (hs : w.heap.size ≤ w'.heap.size) : New n0 w' a := fun b off s e => ⟨(h b off s e).1, Nat.lt_of_lt_of_le (h b off s e).2.1 hs, fun o => (hf _).trans ((h b off s e).2.2 o)⟩

/-- the enclaves are others -/
theorem Owned.setEns {n0 : Nat} {w w' : World} {M : Mv} (h : Owned n0 w M) {eb eo : Nat} (he : M.ea = some ⟨eb, eo, none⟩) {ens : List En} (hl : ens.length = M.ens.length) (hr : RowsAt w' 7 En.cells M.ea ens) (hok : ∀ j, j < ens.length → (ens.getD j default).Ok)
    (hw : ∀ q : Addr, q.block ≠ eb → w'.cell? q = w.cell? q) (hf : ∀ q : Addr, w'.frozen? q = w.frozen? q) (hs : w.heap.size ≤ w'.heap.size) : Owned n0 w' { M with ens := ens } := by
  have fe : Off M.fa (some ⟨eb, eo, none⟩) := he ▸ h.fe
  have eq : Off M.qa (some ⟨eb, eo, none⟩) := (he ▸ h.eq : Off (some ⟨eb, eo, none⟩) M.qa).symm
  have we : ∀ j, j < M.frs.length → Off (M.frs.getD j default).a (some ⟨eb, eo, none⟩) := fun j hj => he ▸ h.we j hj
  exact ⟨⟨h.at_.fr.outside fe.ne hw, h.at_.frl, h.at_.frc, fun j hj => ⟨(h.at_.frok j hj).wo, (h.at_.frok j hj).wat, (h.at_.frok j hj).wr, (h.at_.frok j hj).len, (h.at_.frok j hj).ints.outside (we j hj).ne hw, (h.at_.frok j hj).wws⟩,
    hr, by show ens.length ≤ maxLen; rw [hl]; exact h.at_.enl, hok, h.at_.qu.outside eq.ne hw, h.at_.qul, h.at_.quok⟩,
    h.nf.below hf hs, h.ne.below hf hs, h.nq.below hf hs, fun j hj => (h.nw j hj).below hf hs, h.fe, h.fq, h.eq, h.wf, h.we, h.wq, h.ww⟩

theorem getD_set {α : Type} [Inhabited α] (xs : List α) (k j : Nat) (x : α) (hk : k < xs.length) : (xs.set k x).getD j default = if j = k then x else xs.getD j default := by
  by_cases e : j = k
  · subst e; simp [List.getD_eq_getElem?_getD, hk]
  · simp [List.getD_eq_getElem?_getD, List.getElem?_set_ne (Ne.symm e), e]

/-- one enclave is another one -/
theorem Owned.setEn {n0 : Nat} {w : World} {M : Mv} (h : Owned n0 w M) {eb eo k i0 : Nat} (he : M.ea = some ⟨eb, eo, none⟩) (hk : k < M.ens.length) (hi : i0 < 7) {e' : En} {v : Value} (hok : e'.Ok)
    (hx : ∀ i, i < 7 → e'.cells[i]? = if i = i0 then some v else (M.ens.getD k default).cells[i]?) : Owned n0 (w.setCell ⟨eb, eo + k * 7 + i0, none⟩ v) { M with ens := M.ens.set k e' } := by
  refine h.setEns he (by simp) ?_ (fun j hj => ?_) (fun q hq => World.cell?_setCell_other _ _ _ _ (by intro e; rw [← e] at hq; exact hq rfl)) (fun q => World.frozen?_setCell _ _ _ _) (by simp [World.setCell])
  · have := h.at_.en
    rw [he] at this ⊢
    exact RowsAt.setCell (cells := En.cells) (fun _ => rfl) this hk hi hx
  · rw [getD_set _ _ _ _ hk]
    split
    · exact hok
    · exact h.at_.enok j (by simpa using hj)

/-- the frames are others, their words where they were -/
theorem Owned.setFr {n0 : Nat} {w : World} {M : Mv} (h : Owned n0 w M) {fb fo k i0 : Nat} (he : M.fa = some ⟨fb, fo, none⟩) (hk : k < M.frs.length) (hi : i0 < 4) {f' : Fr} {v : Value} (hok : f'.Ok w) (ha : f'.a = (M.frs.getD k default).a)
    (hx : ∀ i, i < 4 → f'.cells[i]? = if i = i0 then some v else (M.frs.getD k default).cells[i]?) : Owned n0 (w.setCell ⟨fb, fo + k * 4 + i0, none⟩ v) { M with frs := M.frs.set k f' } := by
  have hw : ∀ q : Addr, q.block ≠ fb → (w.setCell ⟨fb, fo + k * 4 + i0, none⟩ v).cell? q = w.cell? q := fun q hq => World.cell?_setCell_other _ _ _ _ (by intro e; rw [← e] at hq; exact hq rfl)
  have hf : ∀ q : Addr, (w.setCell ⟨fb, fo + k * 4 + i0, none⟩ v).frozen? q = w.frozen? q := fun q => World.frozen?_setCell _ _ _ _
  have hs : w.heap.size ≤ (w.setCell ⟨fb, fo + k * 4 + i0, none⟩ v).heap.size := by simp [World.setCell]
  have fe : Off M.ea (some ⟨fb, fo, none⟩) := (he ▸ h.fe : Off (some ⟨fb, fo, none⟩) M.ea).symm
  have fq : Off M.qa (some ⟨fb, fo, none⟩) := (he ▸ h.fq : Off (some ⟨fb, fo, none⟩) M.qa).symm
  have wf : ∀ j, j < M.frs.length → Off (M.frs.getD j default).a (some ⟨fb, fo, none⟩) := fun j hj => he ▸ h.wf j hj
  have key : ∀ j, j < M.frs.length → ((M.frs.set k f').getD j default).a = (M.frs.getD j default).a := fun j hj => by
    rw [getD_set _ _ _ _ hk]; split
    · rename_i e; subst e; exact ha
    · rfl
  have hlen : (M.frs.set k f').length = M.frs.length := by simp
  refine ⟨⟨?_, by dsimp only; rw [hlen]; exact h.at_.frl, by dsimp only; rw [hlen]; exact h.at_.frc, fun j hj => ?_, h.at_.en.outside fe.ne hw, h.at_.enl, h.at_.enok, h.at_.qu.outside fq.ne hw, h.at_.qul, h.at_.quok⟩,
    h.nf.below hf hs, h.ne.below hf hs, h.nq.below hf hs, fun j hj => ?_, h.fe, h.fq, h.eq, fun j hj => ?_, fun j hj => ?_, fun j hj => ?_, fun i j hi' hj hij => ?_⟩
  · have := h.at_.fr
    rw [he] at this
    show RowsAt _ 4 Fr.cells M.fa _
    rw [he]
    exact RowsAt.setCell (cells := Fr.cells) (fun _ => rfl) this hk hi hx
  · have hj' : j < M.frs.length := by simpa using hj
    show ((M.frs.set k f').getD j default).Ok _
    have o : ∀ f : Fr, f.Ok w → f.a = (M.frs.getD j default).a → f.Ok (w.setCell ⟨fb, fo + k * 4 + i0, none⟩ v) := fun f q e => ⟨q.wo, q.wat, q.wr, q.len, q.ints.outside (by rw [e]; exact (wf j hj').ne) hw, q.wws⟩
    rw [getD_set _ _ _ _ hk]; split
    · rename_i e; subst e; exact o _ hok ha
    · exact o _ (h.at_.frok j hj') rfl
  · have hj' : j < M.frs.length := by simpa using hj
    show New _ _ ((M.frs.set k f').getD j default).a
    rw [key j hj']
    exact (h.nw j hj').below hf hs
  · have hj' : j < M.frs.length := by simpa using hj
    show Off ((M.frs.set k f').getD j default).a _
    rw [key j hj']; exact h.wf j hj'
  · have hj' : j < M.frs.length := by simpa using hj
    show Off ((M.frs.set k f').getD j default).a _
    rw [key j hj']; exact h.we j hj'
  · have hj' : j < M.frs.length := by simpa using hj
    show Off ((M.frs.set k f').getD j default).a _
    rw [key j hj']; exact h.wq j hj'
  · have hj' : j < M.frs.length := by simpa using hj
    have hi'' : i < M.frs.length := by simpa using hi'
    show Off ((M.frs.set k f').getD i default).a ((M.frs.set k f').getD j default).a
    rw [key j hj', key i hi'']; exact h.ww i j hi'' hj' hij

/-- a word of a frame is another one -/
theorem Owned.setWord {n0 : Nat} {w : World} {M : Mv} (h : Owned n0 w M) {b off k m : Nat} (hk : k < M.frs.length) (ha : (M.frs.getD k default).a = some ⟨b, off, none⟩) (hm : m < (M.frs.getD k default).ws.length) {n : Int} (wn : (Lit.int .i64 n).wf = true) :
    Owned n0 (w.setCell ⟨b, off + m, none⟩ (.int .i64 n)) { M with frs := M.frs.set k { M.frs.getD k default with ws := (M.frs.getD k default).ws.set m n } } := by
  have hw : ∀ q : Addr, q.block ≠ b → (w.setCell ⟨b, off + m, none⟩ (.int .i64 n)).cell? q = w.cell? q := fun q hq => World.cell?_setCell_other _ _ _ _ (by intro e; rw [← e] at hq; exact hq rfl)
  have hf : ∀ q : Addr, (w.setCell ⟨b, off + m, none⟩ (.int .i64 n)).frozen? q = w.frozen? q := fun q => World.frozen?_setCell _ _ _ _
  have hs : w.heap.size ≤ (w.setCell ⟨b, off + m, none⟩ (.int .i64 n)).heap.size := by simp [World.setCell]
  have wf : Off M.fa (some ⟨b, off, none⟩) := (ha ▸ h.wf k hk : Off (some ⟨b, off, none⟩) M.fa).symm
  have we : Off M.ea (some ⟨b, off, none⟩) := (ha ▸ h.we k hk : Off (some ⟨b, off, none⟩) M.ea).symm
  have wq : Off M.qa (some ⟨b, off, none⟩) := (ha ▸ h.wq k hk : Off (some ⟨b, off, none⟩) M.qa).symm
  have ww : ∀ j, j < M.frs.length → j ≠ k → Off (M.frs.getD j default).a (some ⟨b, off, none⟩) := fun j hj e => ha ▸ h.ww j k hj hk e
  obtain ⟨f', hf'⟩ : ∃ f' : Fr, f' = { M.frs.getD k default with ws := (M.frs.getD k default).ws.set m n } := ⟨_, rfl⟩
  rw [← hf']
  have a' : f'.a = (M.frs.getD k default).a := by rw [hf']
  have cells' : f'.cells = (M.frs.getD k default).cells := by rw [hf']; simp [Fr.cells]
  have key : ∀ j, j < M.frs.length → ((M.frs.set k f').getD j default).a = (M.frs.getD j default).a := fun j hj => by
    rw [getD_set _ _ _ _ hk]; split
    · rename_i e; subst e; exact a'
    · rfl
  have hlen : (M.frs.set k f').length = M.frs.length := by simp
  refine ⟨⟨?_, by dsimp only; rw [hlen]; exact h.at_.frl, by dsimp only; rw [hlen]; exact h.at_.frc, fun j hj => ?_, h.at_.en.outside we.ne hw, h.at_.enl, h.at_.enok, h.at_.qu.outside wq.ne hw, h.at_.qul, h.at_.quok⟩,
    h.nf.below hf hs, h.ne.below hf hs, h.nq.below hf hs, fun j hj => ?_, h.fe, h.fq, h.eq, fun j hj => ?_, fun j hj => ?_, fun j hj => ?_, fun i j hi' hj hij => ?_⟩
  · rcases h.at_.fr.outside wf.ne hw with e | ⟨B, O, h1, h2⟩
    · left; show M.frs.set k f' = []; simp [e]
    · refine .inr ⟨B, O, h1, fun j hj i hi => ?_⟩
      have hj' : j < M.frs.length := by simpa using hj
      show _ = (((M.frs.set k f').getD j default).cells)[i]?
      have : ((M.frs.set k f').getD j default).cells = (M.frs.getD j default).cells := by
        rw [getD_set _ _ _ _ hk]; split
        · rename_i e; subst e; exact cells'
        · rfl
      rw [this]
      exact h2 j hj' i hi
  · have hj' : j < M.frs.length := by simpa using hj
    show ((M.frs.set k f').getD j default).Ok _
    rw [getD_set _ _ _ _ hk]; split
    · rename_i e
      subst e
      have q := h.at_.frok j hj'
      rw [hf']
      refine ⟨q.wo, q.wat, q.wr, by simpa using q.len, ?_, ?_⟩
      · rcases q.ints with e0 | ⟨B, O, h1, h2⟩
        · rw [e0] at hm; simp at hm
        · rw [ha] at h1
          simp only [Option.some.injEq, Addr.mk.injEq, and_true] at h1
          obtain ⟨rfl, rfl⟩ := h1
          refine .inr ⟨b, off, ha, fun i hi => ?_⟩
          have hi' : i < (M.frs.getD j default).ws.length := by simpa using hi
          by_cases ei : i = m
          · subst ei
            have := World.cell?_setCell_same _ _ (.int .i64 n) (h2 i hi')
            rw [this]
            show _ = some (Value.int .i64 (((M.frs.getD j default).ws.set i n).getD i 0))
            generalize (M.frs.getD j default).ws = l at hi' ⊢
            simp [List.getD_eq_getElem?_getD, hi']
          · rw [World.cell?_setCell_other _ _ _ _ (by intro q; simp only [Addr.mk.injEq, true_and, and_true] at q; omega), h2 i hi']
            show _ = some (Value.int .i64 (((M.frs.getD j default).ws.set m n).getD i 0))
            generalize (M.frs.getD j default).ws = l
            simp [List.getD_eq_getElem?_getD, List.getElem?_set_ne (Ne.symm ei)]
      · intro x hx
        rcases List.mem_or_eq_of_mem_set hx with hx | rfl
        · exact q.wws x hx
        · exact wn
    · rename_i e
      have q := h.at_.frok j hj'
      exact ⟨q.wo, q.wat, q.wr, q.len, q.ints.outside (ww j hj' e).ne hw, q.wws⟩
  · have hj' : j < M.frs.length := by simpa using hj
    show New _ _ ((M.frs.set k f').getD j default).a
    rw [key j hj']
    exact (h.nw j hj').below hf hs
  · have hj' : j < M.frs.length := by simpa using hj
    show Off ((M.frs.set k f').getD j default).a _
    rw [key j hj']; exact h.wf j hj'
  · have hj' : j < M.frs.length := by simpa using hj
    show Off ((M.frs.set k f').getD j default).a _
    rw [key j hj']; exact h.we j hj'
  · have hj' : j < M.frs.length := by simpa using hj
    show Off ((M.frs.set k f').getD j default).a _
    rw [key j hj']; exact h.wq j hj'
  · have hj' : j < M.frs.length := by simpa using hj
    have hi'' : i < M.frs.length := by simpa using hi'
    show Off ((M.frs.set k f').getD i default).a ((M.frs.set k f').getD j default).a
    rw [key j hj', key i hi'']; exact h.ww i j hi'' hj' hij

/-- words as cells -/
def wvals (ws : List Int) : List Value := ws.map (Value.int .i64)
theorem wvals_len (ws : List Int) : (wvals ws).length = ws.length := by simp [wvals]
theorem wvals_get (ws : List Int) (j : Nat) (h : j < ws.length) : (wvals ws)[j]? = some (.int .i64 (ws.getD j 0)) := by
  simp [wvals, h, List.getD_eq_getElem?_getD]
theorem wvals_one (xs : List Int) : ∀ v ∈ wvals xs, v.oneCell' = true := by
  intro v hv
  simp [wvals] at hv
  obtain ⟨n, _, rfl⟩ := hv
  rfl
theorem wvals_src {w : World} {a : Option Addr} {xs : List Int} (h : Ints w a xs) (h0 : 0 < (wvals xs).length) : ∃ ad, a = some ad ∧ ∀ (j : Nat) v, (wvals xs)[j]? = some v → w.cell? (ad.add j) = some v := by
  rcases h with rfl | ⟨b, off, h1, h2⟩
  · simp [wvals] at h0
  · refine ⟨_, h1, fun j v hv => ?_⟩
    have hj : j < xs.length := by
      have := (List.getElem?_eq_some_iff.1 hv).1
      rwa [wvals_len] at this
    rw [wvals_get xs j hj] at hv
    rw [add_at, h2 j hj]
    exact hv
theorem ints_of_block {w : World} {g : Nat} {ws : List Int} {rest : List Value} {t : TypeId} {fr : Nat × Nat} (h : w.heap[g]? = some (.cells (wvals ws ++ rest).toArray t fr)) : Ints w (some ⟨g, 0, none⟩) ws := by
  refine .inr ⟨g, 0, rfl, fun j hj => ?_⟩
  rw [← wvals_get ws j hj, Nat.zero_add]
  simp only [World.cell?, h]
  rw [List.getElem?_toArray, List.getElem?_append_left (by rw [wvals_len]; exact hj)]
  rfl
theorem frozen_of_block {w : World} {g : Nat} {cs : Array Value} {t : TypeId} (h : w.heap[g]? = some (.cells cs t (0, 0))) (o : Nat) : w.frozen? ⟨g, o, none⟩ = false := by
  simp [World.frozen?, h]

/-- a row is copied into a new one of its length -/
theorem copy_rows {α : Type} [Inhabited α] {P : Program} {c : Nat} {cells : α → List Value} (hcl : ∀ q, (cells q).length = c) (h0 : 0 < c) (h1 : ∀ q, ∀ v ∈ cells q, v.oneCell' = true) (w : World) (t ty e e' : TypeId) (hu : P.underlying t = some (.slice e)) (hs : (P.info? e).map (·.size) = some c)
    (Y cap : Nat) (a : Option Addr) (xs : List α) (hx : RowsAt w c cells a xs) (cur : Array Value) (hY : w.heap[Y]? = some (.cells cur e' (0, 0))) (hcur : cur.size = xs.length * c) :
    ∃ w', (Builtin.copy_ #[t, t] ty #[.slice (some ⟨Y, 0, none⟩) xs.length xs.length, .slice a xs.length cap]).run P w = .ok (goInt xs.length) w' ∧ w'.heap[Y]? = some (.cells (xs.flatMap cells).toArray e' (0, 0)) ∧
      (∀ b, b ≠ Y → w'.heap[b]? = w.heap[b]?) ∧ ∀ B w0, B ≤ Y → Below B w0 w → Below B w0 w' := by
  rcases hx with rfl | ⟨b, off, rfl, h⟩
  · refine ⟨w, ?_, ?_, fun _ _ => rfl, fun _ _ _ h => h⟩
    · have := run_copy_void (P := P) w t t ty e c (some ⟨Y, 0, none⟩) a 0 0 0 cap hu hs (by simp)
      simpa using this
    · rw [hY]
      have : cur = #[] := Array.eq_empty_of_size_eq_zero (by simpa using hcur)
      simp [this]
  · have hr := run_copy_wide (P := P) w t t ty e c Y 0 xs.length xs.length ⟨b, off, none⟩ xs.length cap cur e' (xs.flatMap cells) hu hs hY (by rw [flat_len hcl]; simp) (src_of_rows hcl h0 h)
      (by rw [flat_len hcl, hcur]; omega) (fun v hv => by obtain ⟨q, _, hq⟩ := List.mem_flatMap.1 hv; exact h1 q v hq)
    have hd : cur.toList.drop (0 + (xs.flatMap cells).length) = [] := List.drop_eq_nil_of_le (by rw [flat_len hcl]; simp [hcur])
    rw [hd] at hr
    refine ⟨w.setRow Y (xs.flatMap cells).toArray, by simpa using hr, setRow_heap w Y cur _ e' _ hY, fun b' hb => ?_, fun B w0 hB hb => below_setRow hb hB _⟩
    · unfold World.setRow
      simp [Array.getElem?_modify, Ne.symm hb]

theorem New.mono {n0 n1 : Nat} {w : World} {a : Option Addr} (h : New n0 w a) (hn : n1 ≤ n0) : New n1 w a := fun b o s e => ⟨Nat.le_trans hn (h b o s e).1, (h b o s e).2⟩
theorem Owned.mono {n0 n1 : Nat} {w : World} {M : Mv} (h : Owned n0 w M) (hn : n1 ≤ n0) : Owned n1 w M :=
  ⟨h.at_, h.nf.mono hn, h.ne.mono hn, h.nq.mono hn, fun j hj => (h.nw j hj).mono hn, h.fe, h.fq, h.eq, h.wf, h.we, h.wq, h.ww⟩
/-- a store into a block that is not the machine's changes nothing of it -/
theorem Owned.keep {n0 : Nat} {w w' : World} {M : Mv} (h : Owned n0 w M) (hw : ∀ b, n0 ≤ b → b < w.heap.size → w'.heap[b]? = w.heap[b]?) (hs : w.heap.size ≤ w'.heap.size) : Owned n0 w' M := by
  have hc : ∀ b o, n0 ≤ b → ∀ v, w.cell? ⟨b, o, none⟩ = some v → w'.cell? ⟨b, o, none⟩ = some v := fun b o hb v e => (World.cell?_of_block (w := w) (hw b hb (lt_of_cell e))).trans e
  have rows : ∀ {α : Type} [Inhabited α] {c : Nat} {cells : α → List Value} {a : Option Addr} {xs : List α}, (∀ q, (cells q).length = c) → New n0 w a → RowsAt w c cells a xs → RowsAt w' c cells a xs := fun {α} _ {c cells a xs} hcl ha hx => by
    rcases hx with e | ⟨b, off, h1, h2⟩
    · exact .inl e
    · refine .inr ⟨b, off, h1, fun j hj i hi => ?_⟩
      have hk : (cells (xs.getD j default))[i]? = some ((cells (xs.getD j default))[i]'(by rw [hcl]; exact hi)) := by simp [hcl, hi]
      have := h2 j hj i hi
      rw [hk] at this ⊢
      exact hc b _ (ha b off none h1).1 _ this
  have ints : ∀ {a : Option Addr} {xs : List Int}, New n0 w a → Ints w a xs → Ints w' a xs := fun {a xs} ha hx => by
    rcases hx with e | ⟨b, off, h1, h2⟩
    · exact .inl e
    · exact .inr ⟨b, off, h1, fun j hj => hc b _ (ha b off none h1).1 _ (h2 j hj)⟩
  have new : ∀ {a : Option Addr}, New n0 w a → New n0 w' a := fun {a} ha b o s e => ⟨(ha b o s e).1, Nat.lt_of_lt_of_le (ha b o s e).2.1 hs, fun o' =>
    (World.frozen?_of_block (w := w) (a := ⟨b, o', none⟩) (hw b (ha b o s e).1 (ha b o s e).2.1)).trans ((ha b o s e).2.2 o')⟩
  exact ⟨⟨rows (cells := Fr.cells) (fun _ => rfl) h.nf h.at_.fr, h.at_.frl, h.at_.frc, fun j hj => ⟨(h.at_.frok j hj).wo, (h.at_.frok j hj).wat, (h.at_.frok j hj).wr, (h.at_.frok j hj).len, ints (h.nw j hj) (h.at_.frok j hj).ints, (h.at_.frok j hj).wws⟩, rows (cells := En.cells) (fun _ => rfl) h.ne h.at_.en, h.at_.enl, h.at_.enok, rows (cells := Qu.cells) (fun _ => rfl) h.nq h.at_.qu, h.at_.qul, h.at_.quok⟩,
    new h.nf, new h.ne, new h.nq, fun j hj => new (h.nw j hj), h.fe, h.fq, h.eq, h.wf, h.we, h.wq, h.ww⟩
theorem Owned.below {n0 : Nat} {w w' : World} {M : Mv} (h : Owned n0 w M) (hb : Below w.heap.size w w') : Owned n0 w' M := h.keep (fun b _ hl => hb.block b hl) hb.size

end Go.Proofs.Ytdbbiibnhgcndaa
