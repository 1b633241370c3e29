/-
  How an argument that is a machine is read out of memory (own work): for every such reading there are its frames, its enclaves, its quotes, and their cells. No condition.
-/
import Derived.Test.YtdbbiibnhgcndaaOpenCells
import Derived.Test.YtdbbiibnhgcndaaSmall
namespace Go.Proofs.Ytdbbiibnhgcndaa
open Go.ChangeShapes Go.WideShapes Go.ChangeAt Go.RowKit Go.Joins

/-- A row of things of c cells each. -/
def RowsAt {α : Type} [Inhabited α] (w : World) (c : Nat) (cells : α → List Value) (a : Option Addr) (xs : List α) : Prop :=
  xs = [] ∨ ∃ b off, a = some ⟨b, off, none⟩ ∧ ∀ j, j < xs.length → ∀ i, i < c → w.cell? ⟨b, off + j * c + i, none⟩ = (cells (xs.getD j default))[i]?

theorem cells_at {w : World} {base n : Nat} {a : Addr} {cs : List Value} (h : w.cells? base a n = some cs) : cs.length = n ∧ ∀ i, i < n → w.cell? (a.add i) = cs[i]? := by
  obtain ⟨_, h2, h3⟩ := World.cells?_some h
  refine ⟨h2, fun i hi => ?_⟩
  rw [h3 i (by omega)]

theorem open_rows {α : Type} [Inhabited α] {H : Type} {enc : TypeId × Value → H} {W : World} {base fuel : Nat} {sp : Nat → Bool} {full : Bool} {t e : TypeId} {v : Value} {x : DataW H × List MemPlace}
    (c B : Nat) (cells : α → List Value) (Ok : α → Prop) (Wt : α → Prop) (h0 : 0 < c) (ht : Try.prog.underlying t = some (.slice e)) (hc : Try.prog.cellsOf e = c) (hB : Try.prog.bytesOf e = B)
    (hcl : ∀ q, (cells q).length = c)
    (each : ∀ n cs' d pl, DataW.trod enc Try.prog W base sp full n e cs' = some (d, pl) → ∃ q : α, cs' = cells q ∧ Ok q ∧ ((∀ n ∈ d.weights Try.prog e, n ≤ reachBytes) → Wt q))
    (h : DataW.trod enc Try.prog W base sp full fuel t [v] = some x) :
    ∃ a cap, ∃ xs : List α, v = .slice a xs.length cap ∧ (xs.length ≤ maxLen ∧ xs.length ≤ cap) ∧ RowsAt W c cells a xs ∧ (∀ j, j < xs.length → Ok (xs.getD j default)) ∧
      ((∀ n ∈ x.1.weights Try.prog t, n ≤ reachBytes) → xs.length * B ≤ 140737488351232 ∧ ∀ j, j < xs.length → Wt (xs.getD j default)) := by
  rcases Go.Deep.open_slice ht h with ⟨hcs, _⟩ | ⟨y, l, cp, m, n, D, Pl, hcs, _, hl, hm, hmm, hxd, hx⟩
  · simp at hcs
    subst hcs
    exact ⟨_, _, [], rfl, ⟨Nat.zero_le _, Nat.zero_le _⟩, .inl rfl, fun j hj => absurd hj (by simp), fun _ => ⟨by simp, fun j hj => absurd hj (by simp)⟩⟩
  · simp at hcs
    subst hcs
    have hlm : l ≤ m := by rw [hmm]; split <;> omega
    have each' : ∀ i, i < l → ∃ q : α, (∀ k, k < c → W.cell? ((y.add (i * c)).add k) = (cells q)[k]?) ∧ Ok q ∧ ((∀ n ∈ (D i).weights Try.prog e, n ≤ reachBytes) → Wt q) := by
      intro i hi
      obtain ⟨cs', h1, h2⟩ := hx i (by omega)
      rw [hc] at h1
      obtain ⟨_, h3⟩ := cells_at h1
      obtain ⟨q, rfl, hq, hw⟩ := each _ _ _ _ h2
      exact ⟨q, h3, hq, hw⟩
    obtain ⟨F, hF⟩ := Go.Deep.choose_lt each'
    refine ⟨some y, cp, (List.range l).map F, by simp, ⟨by simp; omega, by simp; omega⟩, ?_, fun j hj => ?_, fun hb => ⟨?_, fun j hj => ?_⟩⟩
    · by_cases hl0 : l = 0
      · left; simp [hl0]
      · right
        obtain ⟨b, off, spot⟩ := y
        have h := (hF 0 (by omega)).1 0 h0
        have hspot : spot = none := by
          have hk : (cells (F 0))[0]? = some ((cells (F 0))[0]'(by rw [hcl]; exact h0)) := by simp [hcl, h0]
          rw [hk] at h
          simpa [Addr.add] using World.cell?_spot h
        subst hspot
        refine ⟨b, off, rfl, fun j hj i hi => ?_⟩
        have hj' : j < l := by simpa using hj
        have := (hF j hj').1 i hi
        rw [add_at, add_at] at this
        simpa [List.getD_eq_getElem?_getD, hj'] using this
    · have hj' : j < l := by simpa using hj
      have := (hF j hj').2.1
      simpa [List.getD_eq_getElem?_getD, hj'] using this
    · simp only [hxd] at hb
      have := hb ((l + (m - l)) * B) (by simp only [DataW.weights, ht, hB]; simp)
      unfold reachBytes at this
      have h2 : l * B ≤ (l + (m - l)) * B := Nat.mul_le_mul_right _ (by omega)
      simp
      omega
    · have hj' : j < l := by simpa using hj
      have := (hF j hj').2.2 fun n hn => hb n (by
        simp only [hxd]
        simp only [DataW.weights, ht, List.mem_cons, List.mem_append]
        exact .inr (.inl (weightsAll_mem (d := D j) (by simp; exact ⟨j, hj', rfl⟩) n hn)))
      simpa [List.getD_eq_getElem?_getD, hj'] using this

/-- A frame: whose it is, where it stands, its rights, where its words are. -/
structure Fr where
  o : Int
  at_ : Int
  r : Int
  a : Option Addr
  ws : List Int
  cap : Nat
instance : Inhabited Fr := ⟨⟨0, 0, 0, none, [], 0⟩⟩
def Fr.cells (p : Fr) : List Value := [.int .i64 p.o, .int .i64 p.at_, .int .i64 p.r, .slice p.a p.ws.length p.cap]
structure Fr.Ok (w : World) (p : Fr) : Prop where
  wo : (Lit.int .i64 p.o).wf = true
  wat : (Lit.int .i64 p.at_).wf = true
  wr : (Lit.int .i64 p.r).wf = true
  len : p.ws.length ≤ maxLen
  ints : Ints w p.a p.ws
  wws : ∀ n ∈ p.ws, (Lit.int .i64 n).wf = true

/-- An enclave: its state, its log, where it stopped, its registers. -/
structure En where
  st : Int
  log : ByteArray
  pc : Int
  g0 : Int
  g1 : Int
  g2 : Int
  g3 : Int
instance : Inhabited En := ⟨⟨0, ByteArray.empty, 0, 0, 0, 0, 0⟩⟩
def En.cells (p : En) : List Value := [.int .i64 p.st, .string p.log, .int .i64 p.pc, .int .i64 p.g0, .int .i64 p.g1, .int .i64 p.g2, .int .i64 p.g3]
structure En.Ok (p : En) : Prop where
  wst : (Lit.int .i64 p.st).wf = true
  len : p.log.size ≤ maxLen
  wpc : (Lit.int .i64 p.pc).wf = true
  w0 : (Lit.int .i64 p.g0).wf = true
  w1 : (Lit.int .i64 p.g1).wf = true
  w2 : (Lit.int .i64 p.g2).wf = true
  w3 : (Lit.int .i64 p.g3).wf = true

/-- A quote: its log, its data. -/
structure Qu where
  log : ByteArray
  data : Int
instance : Inhabited Qu := ⟨⟨ByteArray.empty, 0⟩⟩
def Qu.cells (p : Qu) : List Value := [.string p.log, .int .i64 p.data]
structure Qu.Ok (p : Qu) : Prop where
  len : p.log.size ≤ maxLen
  wd : (Lit.int .i64 p.data).wf = true

/-- A machine: its three lists, and where they are. -/
structure Mv where
  fa : Option Addr
  frs : List Fr
  fcap : Nat
  ea : Option Addr
  ens : List En
  ecap : Nat
  qa : Option Addr
  qus : List Qu
  qcap : Nat
def Mv.val (M : Mv) : Value := .agg #[.slice M.fa M.frs.length M.fcap, .slice M.ea M.ens.length M.ecap, .slice M.qa M.qus.length M.qcap]
structure MachAt (w : World) (M : Mv) : Prop where
  fr : RowsAt w 4 Fr.cells M.fa M.frs
  frl : M.frs.length ≤ maxLen
  frc : M.frs.length ≤ M.fcap
  frok : ∀ j, j < M.frs.length → (M.frs.getD j default).Ok w
  en : RowsAt w 7 En.cells M.ea M.ens
  enl : M.ens.length ≤ maxLen
  enok : ∀ j, j < M.ens.length → (M.ens.getD j default).Ok
  qu : RowsAt w 2 Qu.cells M.qa M.qus
  qul : M.qus.length ≤ maxLen
  quok : ∀ j, j < M.qus.length → (M.qus.getD j default).Ok
structure Mv.Fits (M : Mv) : Prop where
  fr : M.frs.length * 48 ≤ 140737488351232
  ws : ∀ j, j < M.frs.length → (M.frs.getD j default).ws.length * 8 ≤ 140737488351232
  en : M.ens.length * 64 ≤ 140737488351232
  qu : M.qus.length * 24 ≤ 140737488351232

theorem open_text_cell {H : Type} {enc : TypeId × Value → H} {W : World} {base fuel : Nat} {sp : Nat → Bool} {full : Bool} {v : Value} {x : DataW H × List MemPlace}
    (h : DataW.trod enc Try.prog W base sp full fuel 9 [v] = some x) : ∃ s, v = .string s ∧ s.size ≤ maxLen := by
  obtain ⟨s, e0, _, wn⟩ := DataW.trod_string Try.underlying9 h
  simp at e0
  exact ⟨s, e0, wn⟩

theorem list4 {α : Type} {l : List α} (h : l.length = 4) : ∃ a b c d, l = [a, b, c, d] := by
  match l, h with
  | [a, b, c, d], _ => exact ⟨a, b, c, d, rfl⟩
theorem list7 {α : Type} {l : List α} (h : l.length = 7) : ∃ a b c d e f g, l = [a, b, c, d, e, f, g] := by
  match l, h with
  | [a, b, c, d, e, f, g], _ => exact ⟨a, b, c, d, e, f, g, rfl⟩
theorem list2 {α : Type} {l : List α} (h : l.length = 2) : ∃ a b, l = [a, b] := by
  match l, h with
  | [a, b], _ => exact ⟨a, b, rfl⟩

theorem open_frame {H : Type} {enc : TypeId × Value → H} {W : World} {base n : Nat} {sp : Nat → Bool} {full : Bool} {cs : List Value} {d : DataW H} {pl : List MemPlace}
    (h : DataW.trod enc Try.prog W base sp full n 83 cs = some (d, pl)) : ∃ q : Fr, cs = q.cells ∧ q.Ok W ∧ ((∀ n ∈ d.weights Try.prog 83, n ≤ reachBytes) → q.ws.length * 8 ≤ 140737488351232) := by
  obtain ⟨xs, n', _, hx, hl, hlen, hf⟩ := DataW.trod_struct Try.underlying83 h
  have ce : Try.prog.cellsOf 83 = 4 := by kernel_rfl
  rw [ce] at hl
  obtain ⟨v0, v1, v2, v3, rfl⟩ := list4 hl
  obtain ⟨y0, y1, y2, y3, rfl⟩ := list4 (by simpa using hlen)
  have o1 : Try.prog.cellsOf 3 = 1 := by kernel_rfl
  have o2 : Try.prog.cellsOf 22 = 1 := by kernel_rfl
  have g0 := hf 0 _ rfl
  have g1 := hf 1 _ rfl
  have g2 := hf 2 _ rfl
  have g3 := hf 3 _ rfl
  simp [o1, o2] at g0 g1 g2 g3
  obtain ⟨n0, rfl, w0⟩ := open_int_cell g0
  obtain ⟨n1, rfl, w1⟩ := open_int_cell g1
  obtain ⟨n2, rfl, w2⟩ := open_int_cell g2
  obtain ⟨a', cap', ws, rfl, hm', hx', hw, hwt⟩ := open_row_cells g3
  refine ⟨⟨n0, n1, n2, a', ws, cap'⟩, rfl, ⟨w0, w1, w2, hm', hx', hw⟩, fun hb => hwt fun n hn => hb n ?_⟩
  simp only [Prod.mk.injEq] at hx
  rw [hx.1]
  simp only [DataW.weights, Try.underlying83]
  exact DataW.weights_mem_each (j := 3) rfl rfl n hn

theorem open_enclave {H : Type} {enc : TypeId × Value → H} {W : World} {base n : Nat} {sp : Nat → Bool} {full : Bool} {cs : List Value} {d : DataW H} {pl : List MemPlace}
    (h : DataW.trod enc Try.prog W base sp full n 87 cs = some (d, pl)) : ∃ q : En, cs = q.cells ∧ q.Ok := by
  obtain ⟨xs, n', _, hx, hl, hlen, hf⟩ := DataW.trod_struct Try.underlying87 h
  have ce : Try.prog.cellsOf 87 = 7 := by kernel_rfl
  rw [ce] at hl
  obtain ⟨v0, v1, v2, v3, v4, v5, v6, rfl⟩ := list7 hl
  obtain ⟨y0, y1, y2, y3, rfl⟩ := list4 (by simpa using hlen)
  have o1 : Try.prog.cellsOf 3 = 1 := by kernel_rfl
  have o2 : Try.prog.cellsOf 9 = 1 := by kernel_rfl
  have o4 : Try.prog.cellsOf 85 = 4 := by kernel_rfl
  have g0 := hf 0 _ rfl
  have g1 := hf 1 _ rfl
  have g2 := hf 2 _ rfl
  have g3 := hf 3 _ rfl
  simp [o1, o2, o4] at g0 g1 g2 g3
  obtain ⟨n0, rfl, w0⟩ := open_int_cell g0
  obtain ⟨s1, rfl, w1⟩ := open_text_cell g1
  obtain ⟨n2, rfl, w2⟩ := open_int_cell g2
  obtain ⟨zs, m', _, hz, _, hzl, hzf⟩ := DataW.trod_array Try.underlying85 g3
  obtain ⟨z0, z1, z2, z3, rfl⟩ := list4 hzl
  have k0 := hzf 0 (by omega)
  have k1 := hzf 1 (by omega)
  have k2 := hzf 2 (by omega)
  have k3 := hzf 3 (by omega)
  simp [o1] at k0 k1 k2 k3
  obtain ⟨r0, rfl, u0⟩ := open_int_cell k0
  obtain ⟨r1, rfl, u1⟩ := open_int_cell k1
  obtain ⟨r2, rfl, u2⟩ := open_int_cell k2
  obtain ⟨r3, rfl, u3⟩ := open_int_cell k3
  exact ⟨⟨n0, s1, n2, r0, r1, r2, r3⟩, rfl, ⟨w0, w1, w2, u0, u1, u2, u3⟩⟩

theorem open_quote {H : Type} {enc : TypeId × Value → H} {W : World} {base n : Nat} {sp : Nat → Bool} {full : Bool} {cs : List Value} {d : DataW H} {pl : List MemPlace}
    (h : DataW.trod enc Try.prog W base sp full n 69 cs = some (d, pl)) : ∃ q : Qu, cs = q.cells ∧ q.Ok := by
  obtain ⟨xs, n', _, hx, hl, hlen, hf⟩ := DataW.trod_struct Try.underlying69 h
  have ce : Try.prog.cellsOf 69 = 2 := by kernel_rfl
  rw [ce] at hl
  obtain ⟨v0, v1, rfl⟩ := list2 hl
  obtain ⟨y0, y1, rfl⟩ := list2 (by simpa using hlen)
  have o1 : Try.prog.cellsOf 3 = 1 := by kernel_rfl
  have o2 : Try.prog.cellsOf 9 = 1 := by kernel_rfl
  have g0 := hf 0 _ rfl
  have g1 := hf 1 _ rfl
  simp [o1, o2] at g0 g1
  obtain ⟨s0, rfl, w0⟩ := open_text_cell g0
  obtain ⟨n1, rfl, w1⟩ := open_int_cell g1
  exact ⟨⟨s0, n1⟩, rfl, ⟨w0, w1⟩⟩

set_option maxRecDepth 100000 in
theorem open_machine {H : Type} {enc : TypeId × Value → H} {W : World} {r : Reach} {b0 base : Nat} {sp : Nat → Bool} {full : Bool} {v : Value} {d : DataW H} {p : List MemPlace}
    (hv : Value.okWide Try.prog W r b0 43 v) (h : DataW.Trod enc Try.prog W base sp full 43 v d p) :
    ∃ M : Mv, v = M.val ∧ MachAt W M ∧ ((∀ n ∈ d.weights Try.prog 43, n ≤ reachBytes) → M.Fits) := by
  obtain ⟨c0, c1, c2, y0, y1, y2, m, rfl, rfl, rfl, hy0, hy1, hy2⟩ := open_agg3 Try.underlying43 (by kernel_rfl) (by kernel_rfl) hv h
  obtain ⟨fa, fcap, frs, rfl, f1, f2, f3, f4⟩ := open_rows 4 48 Fr.cells (Fr.Ok W) (fun q => q.ws.length * 8 ≤ 140737488351232) (by omega) Try.underlying39 (by kernel_rfl) (by kernel_rfl) (fun _ => rfl) (fun _ _ _ _ h => open_frame h) hy0
  obtain ⟨ea, ecap, ens, rfl, e1, e2, e3, e4⟩ := open_rows 7 64 En.cells En.Ok (fun _ => True) (by omega) Try.underlying40 (by kernel_rfl) (by kernel_rfl) (fun _ => rfl) (fun _ _ _ _ h => by obtain ⟨q, h1, h2⟩ := open_enclave h; exact ⟨q, h1, h2, fun _ => trivial⟩) hy1
  obtain ⟨qa, qcap, qus, rfl, q1, q2, q3, q4⟩ := open_rows 2 24 Qu.cells Qu.Ok (fun _ => True) (by omega) Try.underlying41 (by kernel_rfl) (by kernel_rfl) (fun _ => rfl) (fun _ _ _ _ h => by obtain ⟨q, h1, h2⟩ := open_quote h; exact ⟨q, h1, h2, fun _ => trivial⟩) hy2
  refine ⟨⟨fa, frs, fcap, ea, ens, ecap, qa, qus, qcap⟩, rfl, ⟨f2, f1.1, f1.2, f3, e2, e1.1, e3, q2, q1.1, q3⟩, fun hb => ?_⟩
  have k0 := f4 fun n hn => hb n (by simp only [DataW.weights, Try.underlying43]; exact DataW.weights_mem_each (j := 0) rfl rfl n hn)
  have k1 := e4 fun n hn => hb n (by simp only [DataW.weights, Try.underlying43]; exact DataW.weights_mem_each (j := 1) rfl rfl n hn)
  have k2 := q4 fun n hn => hb n (by simp only [DataW.weights, Try.underlying43]; exact DataW.weights_mem_each (j := 2) rfl rfl n hn)
  exact ⟨k0.1, k0.2, k1.1, k2.1⟩

/-! What was read stays where new memory is made. -/
theorem RowsAt.below {α : Type} [Inhabited α] {w w' : World} {c : Nat} {cells : α → List Value} {a : Option Addr} {xs : List α} (hcl : ∀ q, (cells q).length = c) (h : RowsAt w c cells a xs) (hb : Below w.heap.size w w') : RowsAt w' c cells a xs := by
  rcases h with h | ⟨b, off, h1, h2⟩
  · exact .inl h
  · refine .inr ⟨b, off, h1, fun j hj i hi => ?_⟩
    have := h2 j hj i hi
    have hk : (cells (xs.getD j default))[i]? = some ((cells (xs.getD j default))[i]'(by rw [hcl]; exact hi)) := by simp [hcl, hi]
    rw [hk] at this ⊢
    exact (hb.cell (p := ⟨b, _, none⟩) (lt_of_cell this)).trans this
theorem Fr.Ok.below {w w' : World} {p : Fr} (h : p.Ok w) (hb : Below w.heap.size w w') : p.Ok w' := ⟨h.wo, h.wat, h.wr, h.len, h.ints.below hb, h.wws⟩
theorem MachAt.below {w w' : World} {M : Mv} (h : MachAt w M) (hb : Below w.heap.size w w') : MachAt w' M :=
  ⟨h.fr.below (fun _ => rfl) hb, h.frl, h.frc, fun j hj => (h.frok j hj).below hb, h.en.below (fun _ => rfl) hb, h.enl, h.enok, h.qu.below (fun _ => rfl) hb, h.qul, h.quok⟩

theorem MachAt.frame {w : World} {M : Mv} (h : MachAt w M) {j : Nat} (hj : j < M.frs.length) : ∃ b off, M.fa = some ⟨b, off, none⟩ ∧ w.cell? ⟨b, off + j * 4, none⟩ = some (.int .i64 (M.frs.getD j default).o) ∧
    w.cell? ⟨b, off + j * 4 + 1, none⟩ = some (.int .i64 (M.frs.getD j default).at_) ∧ w.cell? ⟨b, off + j * 4 + 2, none⟩ = some (.int .i64 (M.frs.getD j default).r) ∧
    w.cell? ⟨b, off + j * 4 + 3, none⟩ = some (.slice (M.frs.getD j default).a (M.frs.getD j default).ws.length (M.frs.getD j default).cap) := by
  rcases h.fr with h | ⟨b, off, h1, h2⟩
  · rw [h] at hj; simp at hj
  · exact ⟨b, off, h1, h2 j hj 0 (by omega), h2 j hj 1 (by omega), h2 j hj 2 (by omega), h2 j hj 3 (by omega)⟩
theorem MachAt.enclave {w : World} {M : Mv} (h : MachAt w M) {j : Nat} (hj : j < M.ens.length) : ∃ b off, M.ea = some ⟨b, off, none⟩ ∧ w.cell? ⟨b, off + j * 7, none⟩ = some (.int .i64 (M.ens.getD j default).st) ∧
    w.cell? ⟨b, off + j * 7 + 1, none⟩ = some (.string (M.ens.getD j default).log) ∧ w.cell? ⟨b, off + j * 7 + 2, none⟩ = some (.int .i64 (M.ens.getD j default).pc) ∧
    w.cell? ⟨b, off + j * 7 + 3, none⟩ = some (.int .i64 (M.ens.getD j default).g0) ∧ w.cell? ⟨b, off + j * 7 + 4, none⟩ = some (.int .i64 (M.ens.getD j default).g1) ∧
    w.cell? ⟨b, off + j * 7 + 5, none⟩ = some (.int .i64 (M.ens.getD j default).g2) ∧ w.cell? ⟨b, off + j * 7 + 6, none⟩ = some (.int .i64 (M.ens.getD j default).g3) := by
  rcases h.en with h | ⟨b, off, h1, h2⟩
  · rw [h] at hj; simp at hj
  · exact ⟨b, off, h1, h2 j hj 0 (by omega), h2 j hj 1 (by omega), h2 j hj 2 (by omega), h2 j hj 3 (by omega), h2 j hj 4 (by omega), h2 j hj 5 (by omega), h2 j hj 6 (by omega)⟩
theorem MachAt.quote {w : World} {M : Mv} (h : MachAt w M) {j : Nat} (hj : j < M.qus.length) : ∃ b off, M.qa = some ⟨b, off, none⟩ ∧ w.cell? ⟨b, off + j * 2, none⟩ = some (.string (M.qus.getD j default).log) ∧
    w.cell? ⟨b, off + j * 2 + 1, none⟩ = some (.int .i64 (M.qus.getD j default).data) := by
  rcases h.qu with h | ⟨b, off, h1, h2⟩
  · rw [h] at hj; simp at hj
  · exact ⟨b, off, h1, h2 j hj 0 (by omega), h2 j hj 1 (by omega)⟩

end Go.Proofs.Ytdbbiibnhgcndaa
