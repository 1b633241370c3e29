/-
  What an image that may be is like (own work): its pages may be, it has at most eight, each of eight words. The condition: nothing is wrong with it. What Code (riddlekeep) answers for every list of raw things and sixteen words: a new list of sixteen words that may be a page's; nothing that was in memory turns. What the call sameInts (riddlelaw) answers where both lists hold the same: true; it turns nothing but the count of draws. The condition: the cells are there. How an argument that is a machine is read out of memory (own work): for every such reading there are its frames, its enclaves, its quotes, and their cells. No condition. When two enclaves, two quotes, two lists of registers are equal, as the comparison of the language answers it (own work). No condition. What the call sameMachine (riddlelaw) answers where both machines hold the same: true; it turns nothing that was in memory. The condition: the machines' cells are there.
-/
import Derived.Test.YtdngbojbpmdegaaGreatDoorJChecks
import Derived.Test.YtdngbojbpmdegaaGreatDoorJBuilder
import Derived.Deep.RegionHeld3
import Derived.Deep.AppendLies
import Derived.Deep.LoopGhost
import Derived.Deep.QuietTactic
import Derived.BigQuiet
import Derived.DeepKeys
namespace Go.Proofs.YtdngbojbpmdegaaGreatDoor
open Go.RowKit

theorem pf_zero {a b c : Bool} (h : pf a b c = 0) : a = true ∧ b = true ∧ c = true := by
  cases a <;> cases b <;> cases c <;> simp [pf] at h ⊢
theorem Pg.f_zero {p : Pg} (h : p.f = 0) : inB p.at_ 0 7 = true ∧ inB p.r 0 7 = true ∧ mayW p.ws = true := pf_zero h
theorem imgF_all : ∀ (ps : List Pg) (o : Option Int), imgF o ps = 0 → ∀ p ∈ ps, p.f = 0
  | [], _, _, p, hp => by simp at hp
  | q :: l, o, h, p, hp => by
    have hq : q.f = 0 := by
      cases o with
      | none => by_cases e : q.f = 0; exact e; simp [imgF, e] at h
      | some z => by_cases e : q.f = 0; exact e; simp [imgF, e] at h
    have hl : imgF (some q.at_) l = 0 := by
      cases o with
      | none => simpa [imgF, hq] using h
      | some z =>
        by_cases e : q.at_ ≤ z
        · simp [imgF, hq, e] at h
        · simpa [imgF, hq, e] using h
    rcases List.mem_cons.1 hp with rfl | hp
    · exact hq
    · exact imgF_all l _ hl p hp
theorem imgF_len_some : ∀ (l : List Pg) (q : Int), q ≤ 7 → imgF (some q) l = 0 → (l.length : Int) ≤ 7 - q
  | [], q, hq, _ => by simp; omega
  | p :: l, q, hq, h => by
    have hp := imgF_all (p :: l) _ h p (by simp)
    have hb := inB_iff.1 (Pg.f_zero hp).1
    by_cases e : p.at_ ≤ q
    · simp [imgF, hp, e] at h
    · have hl : imgF (some p.at_) l = 0 := by simpa [imgF, hp, e] using h
      have := imgF_len_some l p.at_ hb.2 hl
      simp
      omega
theorem image_len {ps : List Pg} (h : imageF ps = 0) : ps.length ≤ 8 := by
  unfold imageF at h
  match ps, h with
  | [], _ => simp
  | p :: l, h =>
    have hp := imgF_all (p :: l) _ h p (by simp)
    have hb := inB_iff.1 (Pg.f_zero hp).1
    have hl : imgF (some p.at_) l = 0 := by simpa [imgF, hp] using h
    have := imgF_len_some l p.at_ hb.2 hl
    simp
    omega
theorem image_words {ps : List Pg} (h : imageF ps = 0) (j : Nat) (hj : j < ps.length) : (ps.getD j default).ws.length = 8 := by
  have := imgF_all ps none h (ps.getD j default) (by simp [List.getD_eq_getElem?_getD, hj])
  exact (mayW_iff.1 (Pg.f_zero this).2.2).1

theorem keep_cell {w w' : World} {a : Addr} {v : Value} (hb : Below w.heap.size w w') (h : w.cell? a = some v) : w'.cell? a = some v := (hb.cell (p := a) (lt_of_cell h)).trans h

end Go.Proofs.YtdngbojbpmdegaaGreatDoor

namespace Go.Proofs.YtdngbojbpmdegaaGreatDoor
open Go.RowKit
set_option maxRecDepth 100000

/-- the value owns these words -/
def OwnsI (w : World) (B : Nat) (v : Value) (xs : List Int) : Prop := w.ownsRow B 3 1 v xs.length (icells xs)
theorem icells_append (a b : List Int) : icells (a ++ b) = icells a ++ icells b := by simp [icells]
theorem icells_len (a : List Int) : (icells a).length = a.length := by simp [icells]
/-- words that may be a page's -/
def Small16 (xs : List Int) : Prop := ∀ n ∈ xs, 0 ≤ n ∧ n ≤ 65535
theorem small_append {a b : List Int} (h : Small16 a) (k : Small16 b) : Small16 (a ++ b) := fun n hn => by
  rcases List.mem_append.1 hn with hn | hn
  · exact h n hn
  · exact k n hn

end Go.Proofs.YtdngbojbpmdegaaGreatDoor

namespace Go.Proofs.YtdngbojbpmdegaaGreatDoor
open Go.RowKit

theorem Ints.drewN {w : World} {a : Option Addr} {xs : List Int} (h : Ints w a xs) (n : Nat) : Ints (w.drewN n) a xs := h.below (below_drewN (Below.refl _ _) n)

end Go.Proofs.YtdngbojbpmdegaaGreatDoor

namespace Go.Proofs.YtdngbojbpmdegaaGreatDoor
open Go.ChangeShapes Go.WideShapes Go.ChangeAt Go.RowKit Go.Joins

/-- A row of things of c cells each. -/
def RowsAt {α : Type} [Inhabited α] (w : World) (c : Nat) (cells : α → List Value) (a : Option Addr) (xs : List α) : Prop :=
  xs = [] ∨ ∃ b off, a = some ⟨b, off, none⟩ ∧ ∀ j, j < xs.length → ∀ i, i < c → w.cell? ⟨b, off + j * c + i, none⟩ = (cells (xs.getD j default))[i]?

/-- A frame: whose it is, where it stands, its rights, where its words are. -/
structure Fr where
  o : Int
  at_ : Int
  r : Int
  a : Option Addr
  ws : List Int
  cap : Nat
instance : Inhabited Fr := ⟨⟨0, 0, 0, none, [], 0⟩⟩
def Fr.cells (p : Fr) : List Value := [.int .i64 p.o, .int .i64 p.at_, .int .i64 p.r, .slice p.a p.ws.length p.cap]
structure Fr.Ok (w : World) (p : Fr) : Prop where
  wo : (Lit.int .i64 p.o).wf = true
  wat : (Lit.int .i64 p.at_).wf = true
  wr : (Lit.int .i64 p.r).wf = true
  len : p.ws.length ≤ maxLen
  ints : Ints w p.a p.ws
  wws : ∀ n ∈ p.ws, (Lit.int .i64 n).wf = true

/-- An enclave: its state, its log, where it stopped, its registers. -/
structure En where
  st : Int
  log : ByteArray
  pc : Int
  g0 : Int
  g1 : Int
  g2 : Int
  g3 : Int
instance : Inhabited En := ⟨⟨0, ByteArray.empty, 0, 0, 0, 0, 0⟩⟩
def En.cells (p : En) : List Value := [.int .i64 p.st, .string p.log, .int .i64 p.pc, .int .i64 p.g0, .int .i64 p.g1, .int .i64 p.g2, .int .i64 p.g3]
structure En.Ok (p : En) : Prop where
  wst : (Lit.int .i64 p.st).wf = true
  len : p.log.size ≤ maxLen
  wpc : (Lit.int .i64 p.pc).wf = true
  w0 : (Lit.int .i64 p.g0).wf = true
  w1 : (Lit.int .i64 p.g1).wf = true
  w2 : (Lit.int .i64 p.g2).wf = true
  w3 : (Lit.int .i64 p.g3).wf = true

/-- A quote: its log, its data. -/
structure Qu where
  log : ByteArray
  data : Int
instance : Inhabited Qu := ⟨⟨ByteArray.empty, 0⟩⟩
def Qu.cells (p : Qu) : List Value := [.string p.log, .int .i64 p.data]
structure Qu.Ok (p : Qu) : Prop where
  len : p.log.size ≤ maxLen
  wd : (Lit.int .i64 p.data).wf = true

/-- A machine: its three lists, and where they are. -/
structure Mv where
  fa : Option Addr
  frs : List Fr
  fcap : Nat
  ea : Option Addr
  ens : List En
  ecap : Nat
  qa : Option Addr
  qus : List Qu
  qcap : Nat
def Mv.val (M : Mv) : Value := .agg #[.slice M.fa M.frs.length M.fcap, .slice M.ea M.ens.length M.ecap, .slice M.qa M.qus.length M.qcap]
structure MachAt (w : World) (M : Mv) : Prop where
  fr : RowsAt w 4 Fr.cells M.fa M.frs
  frl : M.frs.length ≤ maxLen
  frc : M.frs.length ≤ M.fcap
  frok : ∀ j, j < M.frs.length → (M.frs.getD j default).Ok w
  en : RowsAt w 7 En.cells M.ea M.ens
  enl : M.ens.length ≤ maxLen
  enok : ∀ j, j < M.ens.length → (M.ens.getD j default).Ok
  qu : RowsAt w 2 Qu.cells M.qa M.qus
  qul : M.qus.length ≤ maxLen
  quok : ∀ j, j < M.qus.length → (M.qus.getD j default).Ok
structure Mv.Fits (M : Mv) : Prop where
  fr : M.frs.length * 48 ≤ 140737488351232
  ws : ∀ j, j < M.frs.length → (M.frs.getD j default).ws.length * 8 ≤ 140737488351232
  en : M.ens.length * 64 ≤ 140737488351232
  qu : M.qus.length * 24 ≤ 140737488351232

/-! What was read stays where new memory is made. -/
theorem RowsAt.below {α : Type} [Inhabited α] {w w' : World} {c : Nat} {cells : α → List Value} {a : Option Addr} {xs : List α} (hcl : ∀ q, (cells q).length = c) (h : RowsAt w c cells a xs) (hb : Below w.heap.size w w') : RowsAt w' c cells a xs := by
  rcases h with h | ⟨b, off, h1, h2⟩
  · exact .inl h
  · refine .inr ⟨b, off, h1, fun j hj i hi => ?_⟩
    have := h2 j hj i hi
    have hk : (cells (xs.getD j default))[i]? = some ((cells (xs.getD j default))[i]'(by rw [hcl]; exact hi)) := by simp [hcl, hi]
    rw [hk] at this ⊢
    exact (hb.cell (p := ⟨b, _, none⟩) (lt_of_cell this)).trans this
theorem Fr.Ok.below {w w' : World} {p : Fr} (h : p.Ok w) (hb : Below w.heap.size w w') : p.Ok w' := ⟨h.wo, h.wat, h.wr, h.len, h.ints.below hb, h.wws⟩
theorem MachAt.below {w w' : World} {M : Mv} (h : MachAt w M) (hb : Below w.heap.size w w') : MachAt w' M :=
  ⟨h.fr.below (fun _ => rfl) hb, h.frl, h.frc, fun j hj => (h.frok j hj).below hb, h.en.below (fun _ => rfl) hb, h.enl, h.enok, h.qu.below (fun _ => rfl) hb, h.qul, h.quok⟩

theorem MachAt.frame {w : World} {M : Mv} (h : MachAt w M) {j : Nat} (hj : j < M.frs.length) : ∃ b off, M.fa = some ⟨b, off, none⟩ ∧ w.cell? ⟨b, off + j * 4, none⟩ = some (.int .i64 (M.frs.getD j default).o) ∧
    w.cell? ⟨b, off + j * 4 + 1, none⟩ = some (.int .i64 (M.frs.getD j default).at_) ∧ w.cell? ⟨b, off + j * 4 + 2, none⟩ = some (.int .i64 (M.frs.getD j default).r) ∧
    w.cell? ⟨b, off + j * 4 + 3, none⟩ = some (.slice (M.frs.getD j default).a (M.frs.getD j default).ws.length (M.frs.getD j default).cap) := by
  rcases h.fr with h | ⟨b, off, h1, h2⟩
  · rw [h] at hj; simp at hj
  · exact ⟨b, off, h1, h2 j hj 0 (by omega), h2 j hj 1 (by omega), h2 j hj 2 (by omega), h2 j hj 3 (by omega)⟩
theorem MachAt.enclave {w : World} {M : Mv} (h : MachAt w M) {j : Nat} (hj : j < M.ens.length) : ∃ b off, M.ea = some ⟨b, off, none⟩ ∧ w.cell? ⟨b, off + j * 7, none⟩ = some (.int .i64 (M.ens.getD j default).st) ∧
    w.cell? ⟨b, off + j * 7 + 1, none⟩ = some (.string (M.ens.getD j default).log) ∧ w.cell? ⟨b, off + j * 7 + 2, none⟩ = some (.int .i64 (M.ens.getD j default).pc) ∧
    w.cell? ⟨b, off + j * 7 + 3, none⟩ = some (.int .i64 (M.ens.getD j default).g0) ∧ w.cell? ⟨b, off + j * 7 + 4, none⟩ = some (.int .i64 (M.ens.getD j default).g1) ∧
    w.cell? ⟨b, off + j * 7 + 5, none⟩ = some (.int .i64 (M.ens.getD j default).g2) ∧ w.cell? ⟨b, off + j * 7 + 6, none⟩ = some (.int .i64 (M.ens.getD j default).g3) := by
  rcases h.en with h | ⟨b, off, h1, h2⟩
  · rw [h] at hj; simp at hj
  · exact ⟨b, off, h1, h2 j hj 0 (by omega), h2 j hj 1 (by omega), h2 j hj 2 (by omega), h2 j hj 3 (by omega), h2 j hj 4 (by omega), h2 j hj 5 (by omega), h2 j hj 6 (by omega)⟩
theorem MachAt.quote {w : World} {M : Mv} (h : MachAt w M) {j : Nat} (hj : j < M.qus.length) : ∃ b off, M.qa = some ⟨b, off, none⟩ ∧ w.cell? ⟨b, off + j * 2, none⟩ = some (.string (M.qus.getD j default).log) ∧
    w.cell? ⟨b, off + j * 2 + 1, none⟩ = some (.int .i64 (M.qus.getD j default).data) := by
  rcases h.qu with h | ⟨b, off, h1, h2⟩
  · rw [h] at hj; simp at hj
  · exact ⟨b, off, h1, h2 j hj 0 (by omega), h2 j hj 1 (by omega)⟩

end Go.Proofs.YtdngbojbpmdegaaGreatDoor

namespace Go.Proofs.YtdngbojbpmdegaaGreatDoor

theorem eq_items {d : Nat} {x0 x1 x2 x3 y0 y1 y2 y3 : Value} {r0 r1 r2 r3 : Bool} (w : World)
    (h0 : (Op.equalIn d 3 x0 y0).run Tryz.prog w = .ok r0 w) (h1 : (Op.equalIn d 3 x1 y1).run Tryz.prog w = .ok r1 w) (h2 : (Op.equalIn d 3 x2 y2).run Tryz.prog w = .ok r2 w) (h3 : (Op.equalIn d 3 x3 y3).run Tryz.prog w = .ok r3 w) :
    (Op.eqItems d 3 1 #[x0, x1, x2, x3] #[y0, y1, y2, y3] [0, 1, 2, 3]).run Tryz.prog w = .ok (r0 && r1 && r2 && r3) w := by
  have p : ∀ (xs : Array Value) (o : Nat) (v : Value), xs[o]? = some v → (part 3 xs o).run Tryz.prog w = .ok v w := fun xs o v h => run_part_plain w (by kernel_rfl) h
  have q0 : ∀ a b c d : Value, (part 3 #[a, b, c, d] 0).run Tryz.prog w = .ok a w := fun a b c d => p _ _ _ rfl
  have q1 : ∀ a b c d : Value, (part 3 #[a, b, c, d] 1).run Tryz.prog w = .ok b w := fun a b c d => p _ _ _ rfl
  have q2 : ∀ a b c d : Value, (part 3 #[a, b, c, d] 2).run Tryz.prog w = .ok c w := fun a b c d => p _ _ _ rfl
  have q3 : ∀ a b c d : Value, (part 3 #[a, b, c, d] 3).run Tryz.prog w = .ok d w := fun a b c d => p _ _ _ rfl
  clear p
  cases r0 <;> cases r1 <;> cases r2 <;> cases r3 <;> simp [Op.eqItems, q0, q1, q2, q3, h0, h1, h2, h3]
theorem eq_regs (d : Nat) (a0 a1 a2 a3 b0 b1 b2 b3 : Int) (w : World) :
    (Op.equalIn (d + 1 + 1) 56 (.agg #[.int .i64 a0, .int .i64 a1, .int .i64 a2, .int .i64 a3]) (.agg #[.int .i64 b0, .int .i64 b1, .int .i64 b2, .int .i64 b3])).run Tryz.prog w = .ok ((a0 == b0) && (a1 == b1) && (a2 == b2) && (a3 == b3)) w := by
  obtain ⟨i, hi, _⟩ : ∃ i, Tryz.prog.info? 3 = some i ∧ True := by
    cases h : Tryz.prog.info? 3 with
    | none => exact absurd (show (Tryz.prog.info? 3).isSome = true by kernel_rfl) (by simp [h])
    | some i => exact ⟨i, rfl, trivial⟩
  rw [run_equalIn_array w (d + 1) _ _ Tryz.underlying56 hi]
  have hc : Tryz.prog.cellsOf 3 = 1 := by kernel_rfl
  rw [hc]
  have e : ∀ a b : Int, (Op.equalIn (d + 1) 3 (.int .i64 a) (.int .i64 b)).run Tryz.prog w = .ok (a == b) w := fun a b => run_equalIn_int w d 3 .i64 _ a b Tryz.underlying3
  exact eq_items w (e _ _) (e _ _) (e _ _) (e _ _)
theorem fields_qu : (Tryz.prog.fieldsOf 90).toList.map (fun f => (f.name, f.type, f.offset)) = [("Log", 9, 0), ("Data", 3, 1)] := by kernel_rfl
theorem eq_fields2 {d t0 t1 o0 o1 : Nat} {n0 n1 : String} {xs ys : Array Value} {fs : List Field} (h : fs.map (fun f => (f.name, f.type, f.offset)) = [(n0, t0, o0), (n1, t1, o1)])
    (k0 : n0 ≠ "_") (k1 : n1 ≠ "_") {w : World} {x0 x1 y0 y1 : Value} {r0 r1 : Bool}
    (p0 : (part t0 xs o0).run Tryz.prog w = .ok x0 w) (p1 : (part t1 xs o1).run Tryz.prog w = .ok x1 w)
    (q0 : (part t0 ys o0).run Tryz.prog w = .ok y0 w) (q1 : (part t1 ys o1).run Tryz.prog w = .ok y1 w)
    (e0 : (Op.equalIn d t0 x0 y0).run Tryz.prog w = .ok r0 w) (e1 : (Op.equalIn d t1 x1 y1).run Tryz.prog w = .ok r1 w) :
    (Op.eqFields d xs ys fs).run Tryz.prog w = .ok (r0 && r1) w := by
  match fs, h with
  | [f0, f1], h =>
    simp only [List.map_cons, List.map_nil, List.cons.injEq, Prod.mk.injEq, and_true] at h
    obtain ⟨⟨rfl, rfl, rfl⟩, ⟨rfl, rfl, rfl⟩⟩ := h
    cases r0 <;> cases r1 <;> simp [Op.eqFields, k0, k1, p0, p1, q0, q1, e0, e1]
theorem eq_quote (d : Nat) (l l' : ByteArray) (n n' : Int) (w : World) :
    (Op.equalIn (d + 1 + 1) 90 (.agg #[.string l, .int .i64 n]) (.agg #[.string l', .int .i64 n'])).run Tryz.prog w = .ok ((l.toList == l'.toList) && (n == n')) w := by
  rw [run_equalIn_struct w (d + 1) 90 _ _ (by kernel_rfl) (by kernel_rfl)]
  refine eq_fields2 fields_qu (by decide) (by decide) (run_part_plain w (by kernel_rfl) rfl) (run_part_plain w (by kernel_rfl) rfl) (run_part_plain w (by kernel_rfl) rfl) (run_part_plain w (by kernel_rfl) rfl)
    (run_equalIn_string w d 9 _ _ Tryz.underlying9) (run_equalIn_int w d 3 .i64 _ _ _ Tryz.underlying3)
theorem text_empty {l : ByteArray} (h : ¬ l.size = 0) : l.toList.isEmpty = false := by
  rw [ByteArray.toList_eq]
  cases e : l.data.toList with
  | nil => exact absurd (show l.size = 0 by have := congrArg List.length e; rw [Array.length_toList] at this; exact this) h
  | cons a t => rfl

end Go.Proofs.YtdngbojbpmdegaaGreatDoor

namespace Go.Proofs.YtdngbojbpmdegaaGreatDoor
open Go.RowKit

/-- two frames hold the same -/
def Fr.Same (p q : Fr) : Prop := p.o = q.o ∧ p.at_ = q.at_ ∧ p.r = q.r ∧ p.ws = q.ws
/-- two machines hold the same -/
structure Mv.Same (M N : Mv) : Prop where
  len : M.frs.length = N.frs.length
  fr : ∀ j, j < M.frs.length → (M.frs.getD j default).Same (N.frs.getD j default)
  en : M.ens = N.ens
  qu : M.qus = N.qus
theorem Mv.Same.refl (M : Mv) : M.Same M := ⟨rfl, fun _ _ => ⟨rfl, rfl, rfl, rfl⟩, rfl, rfl⟩
theorem Mv.Same.symm {M N : Mv} (h : M.Same N) : N.Same M := ⟨h.len.symm, fun j hj => by obtain ⟨a, b, c, d⟩ := h.fr j (by rw [h.len]; exact hj); exact ⟨a.symm, b.symm, c.symm, d.symm⟩, h.en.symm, h.qu.symm⟩
theorem Mv.Same.trans {M N K : Mv} (h : M.Same N) (g : N.Same K) : M.Same K := ⟨h.len.trans g.len, fun j hj => by
  obtain ⟨a, b, c, d⟩ := h.fr j hj
  obtain ⟨a', b', c', d'⟩ := g.fr j (by rw [← h.len]; exact hj)
  exact ⟨a.trans a', b.trans b', c.trans c', d.trans d'⟩, h.en.trans g.en, h.qu.trans g.qu⟩

end Go.Proofs.YtdngbojbpmdegaaGreatDoor
