/-
  When two enclaves, two quotes, two lists of registers are equal, as the comparison of the language answers it (own work). No condition.
-/
import Derived.Test.YtdbbiibnhgcndaaMach
import Derived.DeepKeys
namespace Go.Proofs.Ytdbbiibnhgcndaa

theorem eq_items {d : Nat} {x0 x1 x2 x3 y0 y1 y2 y3 : Value} {r0 r1 r2 r3 : Bool} (w : World)
    (h0 : (Op.equalIn d 3 x0 y0).run Try.prog w = .ok r0 w) (h1 : (Op.equalIn d 3 x1 y1).run Try.prog w = .ok r1 w) (h2 : (Op.equalIn d 3 x2 y2).run Try.prog w = .ok r2 w) (h3 : (Op.equalIn d 3 x3 y3).run Try.prog w = .ok r3 w) :
    (Op.eqItems d 3 1 #[x0, x1, x2, x3] #[y0, y1, y2, y3] [0, 1, 2, 3]).run Try.prog w = .ok (r0 && r1 && r2 && r3) w := by
  have p : ∀ (xs : Array Value) (o : Nat) (v : Value), xs[o]? = some v → (part 3 xs o).run Try.prog w = .ok v w := fun xs o v h => run_part_plain w (by kernel_rfl) h
  have q0 : ∀ a b c d : Value, (part 3 #[a, b, c, d] 0).run Try.prog w = .ok a w := fun a b c d => p _ _ _ rfl
  have q1 : ∀ a b c d : Value, (part 3 #[a, b, c, d] 1).run Try.prog w = .ok b w := fun a b c d => p _ _ _ rfl
  have q2 : ∀ a b c d : Value, (part 3 #[a, b, c, d] 2).run Try.prog w = .ok c w := fun a b c d => p _ _ _ rfl
  have q3 : ∀ a b c d : Value, (part 3 #[a, b, c, d] 3).run Try.prog w = .ok d w := fun a b c d => p _ _ _ rfl
  clear p
  cases r0 <;> cases r1 <;> cases r2 <;> cases r3 <;> simp [Op.eqItems, q0, q1, q2, q3, h0, h1, h2, h3]
theorem eq_regs (d : Nat) (a0 a1 a2 a3 b0 b1 b2 b3 : Int) (w : World) :
    (Op.equalIn (d + 1 + 1) 85 (.agg #[.int .i64 a0, .int .i64 a1, .int .i64 a2, .int .i64 a3]) (.agg #[.int .i64 b0, .int .i64 b1, .int .i64 b2, .int .i64 b3])).run Try.prog w = .ok ((a0 == b0) && (a1 == b1) && (a2 == b2) && (a3 == b3)) w := by
  obtain ⟨i, hi, _⟩ : ∃ i, Try.prog.info? 3 = some i ∧ True := by
    cases h : Try.prog.info? 3 with
    | none => exact absurd (show (Try.prog.info? 3).isSome = true by kernel_rfl) (by simp [h])
    | some i => exact ⟨i, rfl, trivial⟩
  rw [run_equalIn_array w (d + 1) _ _ Try.underlying85 hi]
  have hc : Try.prog.cellsOf 3 = 1 := by kernel_rfl
  rw [hc]
  have e : ∀ a b : Int, (Op.equalIn (d + 1) 3 (.int .i64 a) (.int .i64 b)).run Try.prog w = .ok (a == b) w := fun a b => run_equalIn_int w d 3 .i64 _ a b Try.underlying3
  exact eq_items w (e _ _) (e _ _) (e _ _) (e _ _)
theorem part_regs (w : World) (a b c g0 g1 g2 g3 : Value) : (part 85 #[a, b, c, g0, g1, g2, g3] 3).run Try.prog w = .ok (.agg #[g0, g1, g2, g3]) w := by
  simp [part, isAgg, run_underlying Try.underlying85]
theorem fields_en : (Try.prog.fieldsOf 87).toList.map (fun f => (f.name, f.type, f.offset)) = [("State", 3, 0), ("Log", 9, 1), ("Pc", 3, 2), ("Regs", 85, 3)] := by kernel_rfl
theorem eq_fields4 {d t0 t1 t2 t3 o0 o1 o2 o3 : Nat} {n0 n1 n2 n3 : String} {xs ys : Array Value} {fs : List Field} (h : fs.map (fun f => (f.name, f.type, f.offset)) = [(n0, t0, o0), (n1, t1, o1), (n2, t2, o2), (n3, t3, o3)])
    (k0 : n0 ≠ "_") (k1 : n1 ≠ "_") (k2 : n2 ≠ "_") (k3 : n3 ≠ "_") {w : World} {x0 x1 x2 x3 y0 y1 y2 y3 : Value} {r0 r1 r2 r3 : Bool}
    (p0 : (part t0 xs o0).run Try.prog w = .ok x0 w) (p1 : (part t1 xs o1).run Try.prog w = .ok x1 w) (p2 : (part t2 xs o2).run Try.prog w = .ok x2 w) (p3 : (part t3 xs o3).run Try.prog w = .ok x3 w)
    (q0 : (part t0 ys o0).run Try.prog w = .ok y0 w) (q1 : (part t1 ys o1).run Try.prog w = .ok y1 w) (q2 : (part t2 ys o2).run Try.prog w = .ok y2 w) (q3 : (part t3 ys o3).run Try.prog w = .ok y3 w)
    (e0 : (Op.equalIn d t0 x0 y0).run Try.prog w = .ok r0 w) (e1 : (Op.equalIn d t1 x1 y1).run Try.prog w = .ok r1 w) (e2 : (Op.equalIn d t2 x2 y2).run Try.prog w = .ok r2 w) (e3 : (Op.equalIn d t3 x3 y3).run Try.prog w = .ok r3 w) :
    (Op.eqFields d xs ys fs).run Try.prog w = .ok (r0 && r1 && r2 && r3) w := by
  match fs, h with
  | [f0, f1, f2, f3], h =>
    simp only [List.map_cons, List.map_nil, List.cons.injEq, Prod.mk.injEq, and_true] at h
    obtain ⟨⟨rfl, rfl, rfl⟩, ⟨rfl, rfl, rfl⟩, ⟨rfl, rfl, rfl⟩, ⟨rfl, rfl, rfl⟩⟩ := h
    cases r0 <;> cases r1 <;> cases r2 <;> cases r3 <;> simp [Op.eqFields, k0, k1, k2, k3, p0, p1, p2, p3, q0, q1, q2, q3, e0, e1, e2, e3]
theorem fields_qu : (Try.prog.fieldsOf 69).toList.map (fun f => (f.name, f.type, f.offset)) = [("Log", 9, 0), ("Data", 3, 1)] := by kernel_rfl
theorem eq_fields2 {d t0 t1 o0 o1 : Nat} {n0 n1 : String} {xs ys : Array Value} {fs : List Field} (h : fs.map (fun f => (f.name, f.type, f.offset)) = [(n0, t0, o0), (n1, t1, o1)])
    (k0 : n0 ≠ "_") (k1 : n1 ≠ "_") {w : World} {x0 x1 y0 y1 : Value} {r0 r1 : Bool}
    (p0 : (part t0 xs o0).run Try.prog w = .ok x0 w) (p1 : (part t1 xs o1).run Try.prog w = .ok x1 w)
    (q0 : (part t0 ys o0).run Try.prog w = .ok y0 w) (q1 : (part t1 ys o1).run Try.prog w = .ok y1 w)
    (e0 : (Op.equalIn d t0 x0 y0).run Try.prog w = .ok r0 w) (e1 : (Op.equalIn d t1 x1 y1).run Try.prog w = .ok r1 w) :
    (Op.eqFields d xs ys fs).run Try.prog w = .ok (r0 && r1) w := by
  match fs, h with
  | [f0, f1], h =>
    simp only [List.map_cons, List.map_nil, List.cons.injEq, Prod.mk.injEq, and_true] at h
    obtain ⟨⟨rfl, rfl, rfl⟩, ⟨rfl, rfl, rfl⟩⟩ := h
    cases r0 <;> cases r1 <;> simp [Op.eqFields, k0, k1, p0, p1, q0, q1, e0, e1]
theorem eq_quote (d : Nat) (l l' : ByteArray) (n n' : Int) (w : World) :
    (Op.equalIn (d + 1 + 1) 69 (.agg #[.string l, .int .i64 n]) (.agg #[.string l', .int .i64 n'])).run Try.prog w = .ok ((l.toList == l'.toList) && (n == n')) w := by
  rw [run_equalIn_struct w (d + 1) 69 _ _ (by kernel_rfl) (by kernel_rfl)]
  refine eq_fields2 fields_qu (by decide) (by decide) (run_part_plain w (by kernel_rfl) rfl) (run_part_plain w (by kernel_rfl) rfl) (run_part_plain w (by kernel_rfl) rfl) (run_part_plain w (by kernel_rfl) rfl)
    (run_equalIn_string w d 9 _ _ Try.underlying9) (run_equalIn_int w d 3 .i64 _ _ _ Try.underlying3)
theorem eq_enclave (d : Nat) (st pc g0 g1 g2 g3 st' pc' g0' g1' g2' g3' : Int) (l l' : ByteArray) (w : World) :
    (Op.equalIn (d + 1 + 1 + 1) 87 (.agg #[.int .i64 st, .string l, .int .i64 pc, .int .i64 g0, .int .i64 g1, .int .i64 g2, .int .i64 g3]) (.agg #[.int .i64 st', .string l', .int .i64 pc', .int .i64 g0', .int .i64 g1', .int .i64 g2', .int .i64 g3'])).run Try.prog w =
      .ok ((st == st') && (l.toList == l'.toList) && (pc == pc') && ((g0 == g0') && (g1 == g1') && (g2 == g2') && (g3 == g3'))) w := by
  rw [run_equalIn_struct w (d + 1 + 1) 87 _ _ (by kernel_rfl) (by kernel_rfl)]
  refine eq_fields4 fields_en (by decide) (by decide) (by decide) (by decide) (run_part_plain w (by kernel_rfl) rfl) (run_part_plain w (by kernel_rfl) rfl) (run_part_plain w (by kernel_rfl) rfl) (part_regs w _ _ _ _ _ _ _)
    (run_part_plain w (by kernel_rfl) rfl) (run_part_plain w (by kernel_rfl) rfl) (run_part_plain w (by kernel_rfl) rfl) (part_regs w _ _ _ _ _ _ _)
    (run_equalIn_int w (d + 1) 3 .i64 _ _ _ Try.underlying3) (run_equalIn_string w (d + 1) 9 _ _ Try.underlying9) (run_equalIn_int w (d + 1) 3 .i64 _ _ _ Try.underlying3) (eq_regs d _ _ _ _ _ _ _ _ w)
theorem text_empty {l : ByteArray} (h : ¬ l.size = 0) : l.toList.isEmpty = false := by
  rw [ByteArray.toList_eq]
  cases e : l.data.toList with
  | nil => exact absurd (show l.size = 0 by have := congrArg List.length e; rw [Array.length_toList] at this; exact this) h
  | cons a t => rfl

end Go.Proofs.Ytdbbiibnhgcndaa
