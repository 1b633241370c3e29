/-
  A machine that is built by appending frames (own work): what stays and what is new in each round; laws of allocations. No condition beside the cells.
-/
import Derived.Test.YtcabialgpedidafAppRows
import Derived.Handy
import Derived.Outline
import Derived.Deep.CutRange
namespace Go.Proofs.Ytcabialgpedidaf
open Go.RowKit

/-- the block of a row of quotes, all of it -/
def QCap (w : World) (qa : Option Addr) (n cap : Nat) : Prop := (qa = none ∧ cap = 0) ∨ ∃ g cur, qa = some ⟨g, 0, none⟩ ∧ w.heap[g]? = some (.cells cur 31 (0, 0)) ∧ cur.size = cap * 2 ∧ n ≤ cap ∧ cap ≤ maxLen
theorem QCap.keep {w w' : World} {qa : Option Addr} {n cap : Nat} (h : QCap w qa n cap) (hk : ∀ b o s, qa = some ⟨b, o, s⟩ → w'.heap[b]? = w.heap[b]?) : QCap w' qa n cap := by
  rcases h with h | ⟨g, cur, h1, h2, h3⟩
  · exact .inl h
  · exact .inr ⟨g, cur, h1, (hk g 0 none h1).trans h2, h3⟩
theorem qcap_in {w : World} {g n cap' : Nat} {L zs : List Value} (h : w.heap[g]? = some (.cells (L ++ zs).toArray 31 (0, 0))) (hc : n ≤ cap' ∧ (L ++ zs).length = cap' * 2 ∧ cap' ≤ maxLen) : QCap w (some ⟨g, 0, none⟩) n cap' :=
  .inr ⟨g, _, rfl, h, by simpa using hc.2.1, hc.1, hc.2.2⟩
theorem en_one : ∀ q : En, ∀ v ∈ En.cells q, v.oneCell' = true := fun q v hv => by
  simp only [En.cells, List.mem_cons, List.not_mem_nil, or_false] at hv
  rcases hv with rfl | rfl | rfl | rfl | rfl | rfl | rfl <;> rfl
theorem qu_one : ∀ q : Qu, ∀ v ∈ Qu.cells q, v.oneCell' = true := fun q v hv => by
  simp only [Qu.cells, List.mem_cons, List.not_mem_nil, or_false] at hv
  rcases hv with rfl | rfl <;> rfl
theorem QRow.of_cap {n0 : Nat} {w : World} {M : Mv} (hr : RowIn w n0 31 M.qa (M.qus.flatMap Qu.cells)) (hc : QCap w M.qa M.qus.length M.qcap) : QRow n0 w M := by
  rcases hc with ⟨ha, hc⟩ | ⟨g, cur, ha, hb, hs, hn, hm⟩
  · rcases hr with ⟨_, hl⟩ | ⟨g, zs, ha', _⟩
    · refine QRow.none ha (List.eq_nil_of_length_eq_zero ?_) hc
      have := flat_len (cells := Qu.cells) (c := 2) (fun _ => rfl) M.qus
      rw [hl] at this
      simp at this
      omega
    · rw [ha] at ha'; cases ha'
  · rcases hr with ⟨ha', _⟩ | ⟨g', zs, ha', hg, hb'⟩
    · rw [ha] at ha'; cases ha'
    · rw [ha] at ha'
      simp only [Option.some.injEq, Addr.mk.injEq] at ha'
      obtain ⟨rfl, _⟩ := ha'
      have hb2 := hb'
      rw [hb] at hb'
      injection hb' with hb'
      injection hb' with hb'
      refine QRow.of_block hg ha hb2 ?_ hn hm
      rw [hb'] at hs
      simpa using hs
theorem off_some {b b' : Nat} (hb : b ≠ b') : Off (some ⟨b, 0, none⟩) (some ⟨b', 0, none⟩) := fun x o s o' s' e e' => by
  simp only [Option.some.injEq, Addr.mk.injEq] at e e'
  exact hb (e.1.trans e'.1.symm)
theorem off_none {a : Option Addr} : Off none a := fun _ _ _ _ _ e _ => by cases e
theorem none_off {a : Option Addr} : Off a none := fun _ _ _ _ _ _ e => by cases e
theorem some_ne {b b' : Nat} (hb : b ≠ b') : ∀ x o s, (some ⟨b, 0, none⟩ : Option Addr) = some ⟨x, o, s⟩ → x ≠ b' := fun x o s e => by
  simp only [Option.some.injEq, Addr.mk.injEq] at e
  rw [← e.1]; exact hb
theorem none_ne {b' : Nat} : ∀ x o s, (none : Option Addr) = some ⟨x, o, s⟩ → x ≠ b' := fun x o s e => by cases e
theorem row_in {w : World} {n g : Nat} {e : TypeId} {L zs : List Value} (hn : n ≤ g) (h : w.heap[g]? = some (.cells (L ++ zs).toArray e (0, 0))) : RowIn w n e (some ⟨g, 0, none⟩) L := .inr ⟨g, zs, rfl, hn, h⟩
theorem row_none {w : World} {n : Nat} {e : TypeId} : RowIn w n e none [] := .inl ⟨rfl, rfl⟩
theorem a31 (W : World) (o1 o2 o3 : Obj) : (((W.alloc o1).alloc o2).alloc o3).heap[W.heap.size]? = some o1 := by
  rw [Below.heap_alloc _ _ _ (by simp; omega), Below.heap_alloc _ _ _ (by simp)]
  exact Go.Deep.blk_alloc_new _ _
theorem a32 (W : World) (o1 o2 o3 : Obj) : (((W.alloc o1).alloc o2).alloc o3).heap[W.heap.size + 1]? = some o2 := by
  rw [Below.heap_alloc _ _ _ (by simp)]
  have := Go.Deep.blk_alloc_new (W.alloc o1) o2
  simpa using this
theorem a33 (W : World) (o1 o2 o3 : Obj) : (((W.alloc o1).alloc o2).alloc o3).heap[W.heap.size + 1 + 1]? = some o3 := by
  have := Go.Deep.blk_alloc_new ((W.alloc o1).alloc o2) o3
  simpa using this
theorem a3B (W : World) (o1 o2 o3 : Obj) : Below W.heap.size W (((W.alloc o1).alloc o2).alloc o3) := (((Below.refl _ _).alloc (Nat.le_refl _) _).alloc (by simp) _).alloc (by simp; omega) _
theorem a21 (W : World) (o1 o2 : Obj) : ((W.alloc o1).alloc o2).heap[W.heap.size]? = some o1 := by
  rw [Below.heap_alloc _ _ _ (by simp)]
  exact Go.Deep.blk_alloc_new _ _
theorem a22 (W : World) (o1 o2 : Obj) : ((W.alloc o1).alloc o2).heap[W.heap.size + 1]? = some o2 := by
  have := Go.Deep.blk_alloc_new (W.alloc o1) o2
  simpa using this
theorem a2B (W : World) (o1 o2 : Obj) : Below W.heap.size W ((W.alloc o1).alloc o2) := ((Below.refl _ _).alloc (Nat.le_refl _) _).alloc (by simp) _
theorem grownM_drew {w w' : World} {r : Option Nat} (h : w.drew.grownBy w' r) : w.grownBy w' r := ⟨h.os, h.tape, h.output, h.size, h.block⟩
theorem a11 (W : World) (o1 : Obj) : (W.alloc o1).heap[W.heap.size]? = some o1 := Go.Deep.blk_alloc_new _ _
theorem a1B (W : World) (o1 : Obj) : Below W.heap.size W (W.alloc o1) := (Below.refl _ _).alloc (Nat.le_refl _) _
theorem info_q : (Try.prog.info? 31).map (fun i => (i.zero, i.size, i.bytes)) = some (some (.agg #[.string ⟨#[]⟩, .int .i64 0]), 2, 24) := by kernel_rfl
theorem info_i : (Try.prog.info? 3).map (fun i => (i.zero, i.size, i.bytes)) = some (some (.int .i64 0), 1, 8) := by kernel_rfl

theorem RowIn.keep {w w' : World} {n : Nat} {e : TypeId} {a : Option Addr} {L : List Value} (h : RowIn w n e a L) (hk : ∀ b o s, a = some ⟨b, o, s⟩ → b < w.heap.size → w'.heap[b]? = w.heap[b]?) : RowIn w' n e a L := by
  rcases h with h | ⟨g, zs, h1, h2, h3⟩
  · exact .inl h
  · exact .inr ⟨g, zs, h1, h2, (hk g 0 none h1 (Array.getElem?_eq_some_iff.1 h3).1).trans h3⟩
theorem RowIn.lt {w : World} {n : Nat} {e : TypeId} {a : Option Addr} {L : List Value} (h : RowIn w n e a L) : ∀ b o s, a = some ⟨b, o, s⟩ → n ≤ b ∧ b < w.heap.size := by
  rcases h with ⟨rfl, _⟩ | ⟨g, zs, rfl, h2, h3⟩
  · intro b o s e; cases e
  · intro b o s e
    simp only [Option.some.injEq, Addr.mk.injEq] at e
    rw [← e.1]
    exact ⟨h2, (Array.getElem?_eq_some_iff.1 h3).1⟩
theorem ownsRow_addr {w : World} {n : Nat} {e : TypeId} {c k vcap : Nat} {va : Option Addr} {L : List Value} (h : w.ownsRow n e c (.slice va k vcap) k L) : ∀ b o s, va = some ⟨b, o, s⟩ → n ≤ b ∧ b < w.heap.size := by
  rcases h.2 with ⟨hv, _⟩ | ⟨g, cap, cur, hv, hb, hg, _⟩
  · simp only [Value.slice.injEq] at hv
    intro b o s e; rw [hv.1] at e; cases e
  · simp only [Value.slice.injEq] at hv
    intro b o s e
    rw [hv.1] at e
    simp only [Option.some.injEq, Addr.mk.injEq] at e
    rw [← e.1]
    exact ⟨hb, (Array.getElem?_eq_some_iff.1 hg).1⟩
/-- what is known of a machine's numbers and texts, wherever they lie -/
structure Mv.Good (M : Mv) : Prop where
  frl : M.frs.length ≤ maxLen
  frok : ∀ j, j < M.frs.length → (Lit.int .i64 (M.frs.getD j default).o).wf = true ∧ (Lit.int .i64 (M.frs.getD j default).at_).wf = true ∧ (Lit.int .i64 (M.frs.getD j default).r).wf = true ∧ (M.frs.getD j default).ws.length ≤ maxLen ∧ ∀ n ∈ (M.frs.getD j default).ws, (Lit.int .i64 n).wf = true
  enl : M.ens.length ≤ maxLen
  enok : ∀ j, j < M.ens.length → (M.ens.getD j default).Ok
  qul : M.qus.length ≤ maxLen
  quok : ∀ j, j < M.qus.length → (M.qus.getD j default).Ok
theorem MachAt.good {w : World} {M : Mv} (h : MachAt w M) : M.Good := ⟨h.frl, fun j hj => ⟨(h.frok j hj).wo, (h.frok j hj).wat, (h.frok j hj).wr, (h.frok j hj).len, (h.frok j hj).wws⟩, h.enl, h.enok, h.qul, h.quok⟩
/-- words are appended to nil -/
theorem append_words (w : World) (ty : TypeId) (a : Option Addr) (cap : Nat) (ws : List Int) (hi : Ints w a ws) (hlen : ws.length ≤ maxLen) (hb : ws.length * 8 ≤ 140737488351232) :
    ∃ a' cap' w', (Builtin.append_ #[23, 23] ty #[.slice none 0 0, .slice a ws.length cap]).run Try.prog w = .ok (.slice a' ws.length cap') w' ∧ RowIn w' w.heap.size 3 a' (wvals ws) ∧ Below w.heap.size w w' := by
  obtain ⟨i, hi', hz⟩ := Option.map_eq_some_iff.1 info_i
  simp only [Prod.mk.injEq] at hz
  by_cases h : ws = []
  · subst h
    exact ⟨none, 0, w, append_none w _ _ _ i Try.underlying23 hi' a cap, .inl ⟨rfl, rfl⟩, Below.refl _ _⟩
  · unfold maxLen at hlen
    obtain ⟨cap', zs, _, hr⟩ := append_new (P := Try.prog) (cells := fun n : Int => [Value.int .i64 n]) (c := 1) (fun _ => rfl) (by omega) w 23 ty 3 i _ 8 Try.underlying23 hi' hz.1 hz.2.1 hz.2.2 a cap ws (ints_rows hi) h (by omega) hb rfl (fun q v hv => by simp at hv; subst hv; rfl) (by unfold maxLen; omega)
    rw [wvals_flat] at hr
    exact ⟨_, _, _, hr, .inr ⟨_, zs, rfl, Nat.le_refl _, Go.Deep.blk_alloc_new _ _⟩, ((Below.refl _ _).alloc (Nat.le_refl _) _).drew⟩

end Go.Proofs.Ytcabialgpedidaf
