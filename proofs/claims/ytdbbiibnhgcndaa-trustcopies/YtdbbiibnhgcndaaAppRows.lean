/-
  Appending a list of things to nil (own work): the new row holds just their cells, and what was in memory stays. The condition: the list is within the reach of the form.
-/
import Derived.Test.YtdbbiibnhgcndaaQRow
import Derived.Deep.AppendLies
import Derived.Deep.RegionLaw
namespace Go.Proofs.Ytdbbiibnhgcndaa
open Go.RowKit

theorem drew_alloc (w : World) (o : Obj) : w.drew.alloc o = (w.alloc o).drew := rfl
theorem drew_heap (w : World) : w.drew.heap = w.heap := rfl

section
variable {α : Type} [Inhabited α] {P : Program} {c : Nat} {cells : α → List Value}
theorem append_new (hcl : ∀ q, (cells q).length = c) (h0 : 0 < c) (w : World) (t ty e : TypeId) (i : TypeInfo) (z : Value) (bytes : Nat) (ht : P.underlying t = some (.slice e)) (hi : P.info? e = some i) (hz : i.zero = some z)
    (hsize : i.size = c) (hby : i.bytes = bytes) (ap : Option Addr) (cap : Nat) (xs : List α) (hr : RowsAt w c cells ap xs) (hpos : xs ≠ []) (hlen : xs.length ≤ 9223372036854775807) (hbytes : xs.length * bytes ≤ 140737488351232) (hzs : z.cells.size = c) (hone : ∀ q, ∀ v ∈ cells q, v.oneCell' = true) (hml : xs.length ≤ maxLen) :
    ∃ cap' zs, (xs.length ≤ cap' ∧ (xs.flatMap cells ++ zs).length = cap' * c ∧ cap' ≤ maxLen) ∧ (Builtin.append_ #[t, t] ty #[.slice none 0 0, .slice ap xs.length cap]).run P w = .ok (.slice (some ⟨w.heap.size, 0, none⟩) xs.length cap') (w.drew.alloc (.cells (xs.flatMap cells ++ zs).toArray e)) := by
  rcases hr with h | ⟨b, off, rfl, h⟩
  · exact absurd h hpos
  · subst hsize
    subst hby
    have hp : 0 < xs.length := by cases xs with
      | nil => exact absurd rfl hpos
      | cons a l => simp
    have := run_append_nil (P := P) w t ty e i z ht hi hz ⟨b, off, none⟩ xs.length cap (xs.flatMap cells) (flat_len hcl xs) (src_of_rows hcl h0 h) (by omega) (by omega) (by omega)
    have run : (Builtin.append_ #[t, t] ty #[.slice none 0 0, .slice (some ⟨b, off, none⟩) xs.length cap]).run P w = .ok (.slice (some ⟨w.heap.size, 0, none⟩) xs.length (grownCap w xs.length 0 e)) (w.drew.alloc (.cells (xs.flatMap cells ++ (Builtin.zeroCells z.cells (grownCap w xs.length 0 e - xs.length)).toList).toArray e)) := by
      rw [this]
      congr 3
      simp
    refine ⟨grownCap w xs.length 0 e, (Builtin.zeroCells z.cells (grownCap w xs.length 0 e - xs.length)).toList, ⟨grownCap_ge w xs.length 0 e, ?_⟩, run⟩
    obtain ⟨g, cap2, w2, h2, h3, _, h5, _⟩ := run_append_lies (P := P) w t ty w.heap.size e i z i.size i.bytes ht hi hz rfl rfl hzs h0 (.slice none 0 0) 0 [] (World.ownsRow_nil _ _ _ _) ⟨b, off, none⟩ xs.length cap (xs.flatMap cells) (flat_len hcl xs) (src_of_rows hcl h0 h) (fun u hu => by
      obtain ⟨q, _, hq⟩ := List.mem_flatMap.1 hu
      exact hone q u hq) hp (by omega) (by rw [Nat.zero_add]; omega) (Nat.le_refl _) w.heap.size rfl
    rw [run] at h2
    injection h2 with e1 e2
    rw [← e2, ← e1] at h3
    rcases h3.2 with ⟨hv, _⟩ | ⟨g', cap', cur, hv, _, hg, _, hm, hs, _⟩
    · cases hv
    · simp only [Value.slice.injEq, Option.some.injEq, Addr.mk.injEq] at hv
      obtain ⟨⟨rfl, _⟩, _, rfl⟩ := hv
      have hblk : (w.drew.alloc (.cells (xs.flatMap cells ++ (Builtin.zeroCells z.cells (grownCap w xs.length 0 e - xs.length)).toList).toArray e)).heap[w.heap.size]? = some (.cells (xs.flatMap cells ++ (Builtin.zeroCells z.cells (grownCap w xs.length 0 e - xs.length)).toList).toArray e) := Go.Deep.blk_alloc_new w.drew _
      rw [hblk] at hg
      injection hg with hg
      injection hg with hg
      rw [← hg] at hs
      exact ⟨by simpa using hs, hm⟩
theorem append_none (w : World) (t ty e : TypeId) (i : TypeInfo) (ht : P.underlying t = some (.slice e)) (hi : P.info? e = some i) (ap : Option Addr) (cap : Nat) :
    (Builtin.append_ #[t, t] ty #[.slice none 0 0, .slice ap 0 cap]).run P w = .ok (.slice none 0 0) w := by
  cases ap <;> simp [Builtin.append_, run_underlying ht, sizeOf, typeInfo, hi, Builtin.lenOf, Builtin.firstCells, loadCells, loadCellsFrom]
/-- the same as one step of a region that draws its order -/
theorem step_append_new (hcl : ∀ q, (cells q).length = c) (h0 : 0 < c) {ops : Array Oper} {o : Oper} {a : Act} {w : World} {K : Act → World → Prop} {Q : Exit → Act → World → Prop} {E : Prop} (hgd : o.guard = none) (x : Operand) (t : TypeId)
    (ho : o.op = .call { callee := .builtin .append, args := #[.const (.slice none 0 0), x], argTypes := #[t, t] }) (e : TypeId) (i : TypeInfo) (z : Value) (bytes : Nat) (ht : P.underlying t = some (.slice e)) (hi : P.info? e = some i) (hz : i.zero = some z)
    (hsize : i.size = c) (hby : i.bytes = bytes) (ap : Option Addr) (cap : Nat) (xs : List α) (hx : a.eval x = .slice ap xs.length cap) (W : World) (hr : RowsAt W c cells ap xs) (hw : Below W.heap.size W w) (hpos : xs ≠ []) (hlen : xs.length ≤ 9223372036854775807) (hbytes : xs.length * bytes ≤ 140737488351232) (hzs : z.cells.size = c) (hone : ∀ q, ∀ v ∈ cells q, v.oneCell' = true) (hml : xs.length ≤ maxLen)
    (h : ∀ cap' zs, (xs.length ≤ cap' ∧ (xs.flatMap cells ++ zs).length = cap' * c ∧ cap' ≤ maxLen) → K (a.put o.dst (.slice (some ⟨w.heap.size, 0, none⟩) xs.length cap')) (w.drew.alloc (.cells (xs.flatMap cells ++ zs).toArray e))) :
    if Region.wanted o (yielded ops a.tmps) = true then Oper.wp P o a w K Q else E := by
  have hwd : Region.wanted o (yielded ops a.tmps) = true := by simp [Region.wanted, hgd]
  rw [if_pos hwd]
  obtain ⟨cap', zs, h1, hrun⟩ := append_new hcl h0 w t o.type e i z bytes ht hi hz hsize hby ap cap xs (hr.below hcl hw) hpos hlen hbytes hzs hone hml
  have hs : a.eval (.const (.slice none 0 0)) = .slice none 0 0 := rfl
  unfold Oper.wp execOp
  simp only [ho, resolve, invoke, builtin, Sem.run_bind, Sem.run_pure, Result.andThen_ok, List.map_toArray, List.map_cons, List.map_nil, hs, hx, hrun]
  exact h cap' zs h1
theorem step_append_none {ops : Array Oper} {o : Oper} {a : Act} {w : World} {K : Act → World → Prop} {Q : Exit → Act → World → Prop} {E : Prop} (hgd : o.guard = none) (x : Operand) (t : TypeId)
    (ho : o.op = .call { callee := .builtin .append, args := #[.const (.slice none 0 0), x], argTypes := #[t, t] }) (e : TypeId) (i : TypeInfo) (ht : P.underlying t = some (.slice e)) (hi : P.info? e = some i) (ap : Option Addr) (cap : Nat) (hx : a.eval x = .slice ap 0 cap)
    (h : K (a.put o.dst (.slice none 0 0)) w) :
    if Region.wanted o (yielded ops a.tmps) = true then Oper.wp P o a w K Q else E := by
  have hwd : Region.wanted o (yielded ops a.tmps) = true := by simp [Region.wanted, hgd]
  rw [if_pos hwd]
  have hrun := append_none w t o.type e i ht hi ap cap
  have hs : a.eval (.const (.slice none 0 0)) = .slice none 0 0 := rfl
  unfold Oper.wp execOp
  simp only [ho, resolve, invoke, builtin, Sem.run_bind, Sem.run_pure, Result.andThen_ok, List.map_toArray, List.map_cons, List.map_nil, hs, hx, hrun]
  exact h
end
/-- an append whose run is known, at the list of a plain region -/
theorem wpList_append_eq {P : Program} {w w' : World} {ops : Array Oper} {rest : List Oper} {o : Oper} {a : Act} {Q : Exit → Act → World → Prop} (hgd : o.guard = none) (x y : Operand) (t : TypeId)
    (ho : o.op = .call { callee := .builtin .append, args := #[x, y], argTypes := #[t, t] }) (v u v' : Value) (hx : a.eval x = v) (hy : a.eval y = u) (hr : (Builtin.append_ #[t, t] o.type #[v, u]).run P w = .ok v' w')
    (h : wpList P ops Q rest (a.put o.dst v') w') : wpList P ops Q (o :: rest) a w :=
  wpList_plain hgd fun _ hK => by
    unfold Oper.wp execOp
    simp only [ho, resolve, invoke, builtin, Sem.run_bind, Sem.run_pure, Result.andThen_ok, List.map_toArray, List.map_cons, List.map_nil, hx, hy, hr]
    exact hK _ _ h
/-- a new row, or nothing -/
def RowIn (w : World) (n : Nat) (e : TypeId) (a : Option Addr) (L : List Value) : Prop := (a = none ∧ L = []) ∨ ∃ g zs, a = some ⟨g, 0, none⟩ ∧ n ≤ g ∧ w.heap[g]? = some (.cells (L ++ zs).toArray e (0, 0))
theorem ints_rows {w : World} {a : Option Addr} {ws : List Int} (h : Ints w a ws) : RowsAt w 1 (fun n : Int => [Value.int .i64 n]) a ws := by
  rcases h with rfl | ⟨b, off, h1, h2⟩
  · exact .inl rfl
  · refine .inr ⟨b, off, h1, fun j hj i hi => ?_⟩
    obtain rfl : i = 0 := by omega
    show w.cell? ⟨b, off + j * 1 + 0, none⟩ = some (.int .i64 (ws.getD j 0))
    rw [Nat.mul_one, Nat.add_zero]
    exact h2 j hj
theorem wvals_flat (ws : List Int) : (ws.flatMap fun n : Int => [Value.int .i64 n]) = wvals ws := by
  induction ws with
  | nil => rfl
  | cons a l ih => simp [wvals] at ih ⊢; exact ih

end Go.Proofs.Ytdbbiibnhgcndaa
