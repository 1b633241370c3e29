/-
  A machine that is built by appending frames (own work): what stays and what is new in each round; laws of allocations. No condition beside the cells.
-/
import Derived.Test.YtdbbiibnhgcndaaAppRows
import Derived.Handy
import Derived.Outline
import Derived.Deep.CutRange
namespace Go.Proofs.Ytdbbiibnhgcndaa
open Go.RowKit

/-- the block of a row of quotes, all of it -/
def QCap (w : World) (qa : Option Addr) (n cap : Nat) : Prop := (qa = none ∧ cap = 0) ∨ ∃ g cur, qa = some ⟨g, 0, none⟩ ∧ w.heap[g]? = some (.cells cur 69 (0, 0)) ∧ cur.size = cap * 2 ∧ n ≤ cap ∧ cap ≤ maxLen
theorem QCap.keep {w w' : World} {qa : Option Addr} {n cap : Nat} (h : QCap w qa n cap) (hk : ∀ b o s, qa = some ⟨b, o, s⟩ → w'.heap[b]? = w.heap[b]?) : QCap w' qa n cap := by
  rcases h with h | ⟨g, cur, h1, h2, h3⟩
  · exact .inl h
  · exact .inr ⟨g, cur, h1, (hk g 0 none h1).trans h2, h3⟩
theorem qcap_in {w : World} {g n cap' : Nat} {L zs : List Value} (h : w.heap[g]? = some (.cells (L ++ zs).toArray 69 (0, 0))) (hc : n ≤ cap' ∧ (L ++ zs).length = cap' * 2 ∧ cap' ≤ maxLen) : QCap w (some ⟨g, 0, none⟩) n cap' :=
  .inr ⟨g, _, rfl, h, by simpa using hc.2.1, hc.1, hc.2.2⟩
theorem en_one : ∀ q : En, ∀ v ∈ En.cells q, v.oneCell' = true := fun q v hv => by
  simp only [En.cells, List.mem_cons, List.not_mem_nil, or_false] at hv
  rcases hv with rfl | rfl | rfl | rfl | rfl | rfl | rfl <;> rfl
theorem qu_one : ∀ q : Qu, ∀ v ∈ Qu.cells q, v.oneCell' = true := fun q v hv => by
  simp only [Qu.cells, List.mem_cons, List.not_mem_nil, or_false] at hv
  rcases hv with rfl | rfl <;> rfl
theorem QRow.of_cap {n0 : Nat} {w : World} {M : Mv} (hr : RowIn w n0 69 M.qa (M.qus.flatMap Qu.cells)) (hc : QCap w M.qa M.qus.length M.qcap) : QRow n0 w M := by
  rcases hc with ⟨ha, hc⟩ | ⟨g, cur, ha, hb, hs, hn, hm⟩
  · rcases hr with ⟨_, hl⟩ | ⟨g, zs, ha', _⟩
    · refine QRow.none ha (List.eq_nil_of_length_eq_zero ?_) hc
      have := flat_len (cells := Qu.cells) (c := 2) (fun _ => rfl) M.qus
      rw [hl] at this
      simp at this
      omega
    · rw [ha] at ha'; cases ha'
  · rcases hr with ⟨ha', _⟩ | ⟨g', zs, ha', hg, hb'⟩
    · rw [ha] at ha'; cases ha'
    · rw [ha] at ha'
      simp only [Option.some.injEq, Addr.mk.injEq] at ha'
      obtain ⟨rfl, _⟩ := ha'
      have hb2 := hb'
      rw [hb] at hb'
      injection hb' with hb'
      injection hb' with hb'
      refine QRow.of_block hg ha hb2 ?_ hn hm
      rw [hb'] at hs
      simpa using hs
/-- what the first statement of MachineCopy makes -/
structure MMade (W wx : World) (ens : List En) (qus : List Qu) (B : Nat) (ea : Option Addr) (ecap : Nat) (qa : Option Addr) (qcap : Nat) : Prop where
  lB : W.heap.size ≤ B
  hB : wx.heap[B]? = some (.cells #[.slice none 0 0, .slice ea ens.length ecap, .slice qa qus.length qcap] 43 (0, 0))
  hE : RowIn wx W.heap.size 87 ea (ens.flatMap En.cells)
  hQ : RowIn wx W.heap.size 69 qa (qus.flatMap Qu.cells)
  EB : ∀ b o s, ea = some ⟨b, o, s⟩ → b ≠ B
  QB : ∀ b o s, qa = some ⟨b, o, s⟩ → b ≠ B
  EQ : Off ea qa
  bel : Below W.heap.size W wx
  QC : QCap wx qa qus.length qcap
theorem off_some {b b' : Nat} (hb : b ≠ b') : Off (some ⟨b, 0, none⟩) (some ⟨b', 0, none⟩) := fun x o s o' s' e e' => by
  simp only [Option.some.injEq, Addr.mk.injEq] at e e'
  exact hb (e.1.trans e'.1.symm)
theorem off_none {a : Option Addr} : Off none a := fun _ _ _ _ _ e _ => by cases e
theorem none_off {a : Option Addr} : Off a none := fun _ _ _ _ _ _ e => by cases e
theorem some_ne {b b' : Nat} (hb : b ≠ b') : ∀ x o s, (some ⟨b, 0, none⟩ : Option Addr) = some ⟨x, o, s⟩ → x ≠ b' := fun x o s e => by
  simp only [Option.some.injEq, Addr.mk.injEq] at e
  rw [← e.1]; exact hb
theorem none_ne {b' : Nat} : ∀ x o s, (none : Option Addr) = some ⟨x, o, s⟩ → x ≠ b' := fun x o s e => by cases e
theorem row_in {w : World} {n g : Nat} {e : TypeId} {L zs : List Value} (hn : n ≤ g) (h : w.heap[g]? = some (.cells (L ++ zs).toArray e (0, 0))) : RowIn w n e (some ⟨g, 0, none⟩) L := .inr ⟨g, zs, rfl, hn, h⟩
theorem row_none {w : World} {n : Nat} {e : TypeId} : RowIn w n e none [] := .inl ⟨rfl, rfl⟩
theorem a31 (W : World) (o1 o2 o3 : Obj) : (((W.alloc o1).alloc o2).alloc o3).heap[W.heap.size]? = some o1 := by
  rw [Below.heap_alloc _ _ _ (by simp; omega), Below.heap_alloc _ _ _ (by simp)]
  exact Go.Deep.blk_alloc_new _ _
theorem a32 (W : World) (o1 o2 o3 : Obj) : (((W.alloc o1).alloc o2).alloc o3).heap[W.heap.size + 1]? = some o2 := by
  rw [Below.heap_alloc _ _ _ (by simp)]
  have := Go.Deep.blk_alloc_new (W.alloc o1) o2
  simpa using this
theorem a33 (W : World) (o1 o2 o3 : Obj) : (((W.alloc o1).alloc o2).alloc o3).heap[W.heap.size + 1 + 1]? = some o3 := by
  have := Go.Deep.blk_alloc_new ((W.alloc o1).alloc o2) o3
  simpa using this
theorem a3B (W : World) (o1 o2 o3 : Obj) : Below W.heap.size W (((W.alloc o1).alloc o2).alloc o3) := (((Below.refl _ _).alloc (Nat.le_refl _) _).alloc (by simp) _).alloc (by simp; omega) _
theorem a21 (W : World) (o1 o2 : Obj) : ((W.alloc o1).alloc o2).heap[W.heap.size]? = some o1 := by
  rw [Below.heap_alloc _ _ _ (by simp)]
  exact Go.Deep.blk_alloc_new _ _
theorem a22 (W : World) (o1 o2 : Obj) : ((W.alloc o1).alloc o2).heap[W.heap.size + 1]? = some o2 := by
  have := Go.Deep.blk_alloc_new (W.alloc o1) o2
  simpa using this
theorem a2B (W : World) (o1 o2 : Obj) : Below W.heap.size W ((W.alloc o1).alloc o2) := ((Below.refl _ _).alloc (Nat.le_refl _) _).alloc (by simp) _
theorem grownM_drew {w w' : World} {r : Option Nat} (h : w.drew.grownBy w' r) : w.grownBy w' r := ⟨h.os, h.tape, h.output, h.size, h.block⟩
theorem a11 (W : World) (o1 : Obj) : (W.alloc o1).heap[W.heap.size]? = some o1 := Go.Deep.blk_alloc_new _ _
theorem a1B (W : World) (o1 : Obj) : Below W.heap.size W (W.alloc o1) := (Below.refl _ _).alloc (Nat.le_refl _) _
theorem info_e : (Try.prog.info? 87).map (fun i => (i.zero, i.size, i.bytes)) = some (some (.agg #[.int .i64 0, .string ⟨#[]⟩, .int .i64 0, .int .i64 0, .int .i64 0, .int .i64 0, .int .i64 0]), 7, 64) := by kernel_rfl
theorem info_q : (Try.prog.info? 69).map (fun i => (i.zero, i.size, i.bytes)) = some (some (.agg #[.string ⟨#[]⟩, .int .i64 0]), 2, 24) := by kernel_rfl
theorem info_f : (Try.prog.info? 83).map (fun i => (i.zero, i.size, i.bytes)) = some (some (.agg #[.int .i64 0, .int .i64 0, .int .i64 0, .slice none 0 0]), 4, 48) := by kernel_rfl
theorem info_i : (Try.prog.info? 3).map (fun i => (i.zero, i.size, i.bytes)) = some (some (.int .i64 0), 1, 8) := by kernel_rfl

/-- so far the first k frames are copied, each with words of its own -/
structure MInv (W2 wr : World) (frs : List Fr) (ens : List En) (qus : List Qu) (B : Nat) (ea : Option Addr) (ecap : Nat) (qa : Option Addr) (qcap k : Nat) (va : Option Addr) (vcap : Nat) (qs : Nat → Fr) : Prop where
  bel : Below W2.heap.size W2 wr
  lB : W2.heap.size ≤ B
  hB : wr.heap[B]? = some (.cells #[.slice va k vcap, .slice ea ens.length ecap, .slice qa qus.length qcap] 43 (0, 0))
  hE : RowIn wr W2.heap.size 87 ea (ens.flatMap En.cells)
  hQ : RowIn wr W2.heap.size 69 qa (qus.flatMap Qu.cells)
  own : wr.ownsRow W2.heap.size 83 4 (.slice va k vcap) k (((List.range k).map qs).flatMap Fr.cells)
  EB : ∀ b o s, ea = some ⟨b, o, s⟩ → b ≠ B
  QB : ∀ b o s, qa = some ⟨b, o, s⟩ → b ≠ B
  FB : ∀ b o s, va = some ⟨b, o, s⟩ → b ≠ B
  EQ : Off ea qa
  FE : Off va ea
  FQ : Off va qa
  same : ∀ j, j < k → (qs j).Same (frs.getD j default)
  word : ∀ j, j < k → RowIn wr W2.heap.size 3 (qs j).a (wvals (qs j).ws)
  WB : ∀ j, j < k → ∀ b o s, (qs j).a = some ⟨b, o, s⟩ → b ≠ B
  WF : ∀ j, j < k → Off (qs j).a va
  WE : ∀ j, j < k → Off (qs j).a ea
  WQ : ∀ j, j < k → Off (qs j).a qa
  WW : ∀ i j, i < k → j < k → i ≠ j → Off (qs i).a (qs j).a
  QC : QCap wr qa qus.length qcap
theorem RowIn.keep {w w' : World} {n : Nat} {e : TypeId} {a : Option Addr} {L : List Value} (h : RowIn w n e a L) (hk : ∀ b o s, a = some ⟨b, o, s⟩ → b < w.heap.size → w'.heap[b]? = w.heap[b]?) : RowIn w' n e a L := by
  rcases h with h | ⟨g, zs, h1, h2, h3⟩
  · exact .inl h
  · exact .inr ⟨g, zs, h1, h2, (hk g 0 none h1 (Array.getElem?_eq_some_iff.1 h3).1).trans h3⟩
theorem RowIn.lt {w : World} {n : Nat} {e : TypeId} {a : Option Addr} {L : List Value} (h : RowIn w n e a L) : ∀ b o s, a = some ⟨b, o, s⟩ → n ≤ b ∧ b < w.heap.size := by
  rcases h with ⟨rfl, _⟩ | ⟨g, zs, rfl, h2, h3⟩
  · intro b o s e; cases e
  · intro b o s e
    simp only [Option.some.injEq, Addr.mk.injEq] at e
    rw [← e.1]
    exact ⟨h2, (Array.getElem?_eq_some_iff.1 h3).1⟩
theorem ownsRow_addr {w : World} {n : Nat} {e : TypeId} {c k vcap : Nat} {va : Option Addr} {L : List Value} (h : w.ownsRow n e c (.slice va k vcap) k L) : ∀ b o s, va = some ⟨b, o, s⟩ → n ≤ b ∧ b < w.heap.size := by
  rcases h.2 with ⟨hv, _⟩ | ⟨g, cap, cur, hv, hb, hg, _⟩
  · simp only [Value.slice.injEq] at hv
    intro b o s e; rw [hv.1] at e; cases e
  · simp only [Value.slice.injEq] at hv
    intro b o s e
    rw [hv.1] at e
    simp only [Option.some.injEq, Addr.mk.injEq] at e
    rw [← e.1]
    exact ⟨hb, (Array.getElem?_eq_some_iff.1 hg).1⟩
/-- a round -/
theorem minv_step {W2 wr w9 : World} {frs : List Fr} {ens : List En} {qus : List Qu} {B : Nat} {ea : Option Addr} {ecap : Nat} {qa : Option Addr} {qcap k : Nat} {va : Option Addr} {vcap : Nat} {qs : Nat → Fr}
    (h : MInv W2 wr frs ens qus B ea ecap qa qcap k va vcap qs) {o fat r : Int} {pa : Option Addr} {ws : List Int} {pcap : Nat} (hP : Fr.mk o fat r pa ws pcap = frs.getD k default) {a6 : Option Addr} {c6 : Nat} {va' : Option Addr} {vcap' : Nat}
    (bel : Below W2.heap.size W2 w9) (hB : w9.heap[B]? = some (.cells #[.slice va' (k + 1) vcap', .slice ea ens.length ecap, .slice qa qus.length qcap] 43 (0, 0)))
    (hown : w9.ownsRow W2.heap.size 83 4 (.slice va' (k + 1) vcap') (k + 1) (((List.range k).map qs).flatMap Fr.cells ++ Fr.cells ⟨o, fat, r, a6, ws, c6⟩))
    (hold : ∀ b, b < wr.heap.size → b ≠ B → (∀ o s, va ≠ some ⟨b, o, s⟩) → w9.heap[b]? = wr.heap[b]?)
    (hword : RowIn w9 wr.heap.size 3 a6 (wvals ws)) (hv : ∀ b o s, va' = some ⟨b, o, s⟩ → (∃ o s, va = some ⟨b, o, s⟩) ∨ (wr.heap.size ≤ b ∧ ∀ o s, a6 ≠ some ⟨b, o, s⟩)) :
    ∃ qs', MInv W2 w9 frs ens qus B ea ecap qa qcap (k + 1) va' vcap' qs' := by
  have lB : B < wr.heap.size := (Array.getElem?_eq_some_iff.1 h.hB).1
  have sz := h.bel.size
  have lE := h.hE.lt
  have lQ := h.hQ.lt
  have lV := ownsRow_addr h.own
  have l6 := hword.lt
  have lW := fun j hj => (h.word j hj).lt
  have noV : ∀ {a : Option Addr}, Off a va → ∀ b o s, a = some ⟨b, o, s⟩ → ∀ o' s', va ≠ some ⟨b, o', s'⟩ := fun {a} ho b o s e o' s' e' => ho b o s o' s' e e'
  have offV : ∀ {a : Option Addr}, (∀ b o s, a = some ⟨b, o, s⟩ → b < wr.heap.size) → Off a va → Off a va' := fun {a} hl ho b o s o' s' e e' => by
    rcases hv b o' s' e' with ⟨o2, s2', e2⟩ | ⟨h1, _⟩
    · exact ho b o s o2 s2' e e2
    · have := hl b o s e; omega
  have off6 : ∀ {a : Option Addr}, (∀ b o s, a = some ⟨b, o, s⟩ → b < wr.heap.size) → Off a6 a := fun {a} hl b o s o' s' e e' => by
    have := hl b o' s' e'
    have := (l6 b o s e).1
    omega
  refine ⟨fun j => if j = k then ⟨o, fat, r, a6, ws, c6⟩ else qs j, ⟨bel, h.lB, hB, h.hE.keep fun b o s e hl => hold b hl (h.EB b o s e) (noV h.FE.symm b o s e), h.hQ.keep fun b o s e hl => hold b hl (h.QB b o s e) (noV h.FQ.symm b o s e), ?_, h.EB, h.QB, ?_, h.EQ, (offV (fun b o s e => (lE b o s e).2) h.FE.symm).symm, (offV (fun b o s e => (lQ b o s e).2) h.FQ.symm).symm,
    fun j hj => ?_, fun j hj => ?_, fun j hj => ?_, fun j hj => ?_, fun j hj => ?_, fun j hj => ?_, fun i j hi hj hij => ?_, h.QC.keep fun b o s e => hold b (lQ b o s e).2 (h.QB b o s e) (noV h.FQ.symm b o s e)⟩⟩
  · have e : (List.range (k + 1)).map (fun j => if j = k then (⟨o, fat, r, a6, ws, c6⟩ : Fr) else qs j) = (List.range k).map qs ++ [⟨o, fat, r, a6, ws, c6⟩] := by
      rw [List.range_succ, List.map_append]
      congr 1
      · apply List.map_congr_left
        intro j hj
        rw [if_neg (by simp at hj; omega)]
      · simp
    rw [e, List.flatMap_append]
    simpa using hown
  · intro b o' s e
    rcases hv b o' s e with ⟨o2, s2', e2⟩ | ⟨h1, _⟩
    · exact h.FB b o2 s2' e2
    · omega
  · by_cases e : j = k
    · subst e; simp only [if_true]; rw [← hP]; exact ⟨rfl, rfl, rfl, rfl⟩
    · simp only [if_neg e]; exact h.same j (by omega)
  · by_cases e : j = k
    · subst e
      simp only [if_true]
      rcases hword with q | ⟨g, zs, h1, h2, h3⟩
      · exact .inl q
      · exact .inr ⟨g, zs, h1, by omega, h3⟩
    · simp only [if_neg e]
      exact (h.word j (by omega)).keep fun b o s q hl => hold b hl (h.WB j (by omega) b o s q) (noV (h.WF j (by omega)) b o s q)
  · by_cases e : j = k
    · subst e
      simp only [if_true]
      intro b o' s q
      have := (l6 b o' s q).1
      omega
    · simp only [if_neg e]; exact h.WB j (by omega)
  · by_cases e : j = k
    · subst e
      simp only [if_true]
      intro b o' s o2 s2' q q'
      rcases hv b o2 s2' q' with ⟨o3, s3', e3⟩ | ⟨_, h2⟩
      · have := (lV b o3 s3' e3).2
        have := (l6 b o' s q).1
        omega
      · exact h2 o' s q
    · simp only [if_neg e]
      exact offV (fun b o s q => (lW j (by omega) b o s q).2) (h.WF j (by omega))
  · by_cases e : j = k
    · subst e; simp only [if_true]; exact off6 fun b o s q => (lE b o s q).2
    · simp only [if_neg e]; exact h.WE j (by omega)
  · by_cases e : j = k
    · subst e; simp only [if_true]; exact off6 fun b o s q => (lQ b o s q).2
    · simp only [if_neg e]; exact h.WQ j (by omega)
  · by_cases e1 : i = k
    · by_cases e2 : j = k
      · omega
      · simp only [if_pos e1, if_neg e2]; exact off6 fun b o s q => (lW j (by omega) b o s q).2
    · by_cases e2 : j = k
      · simp only [if_neg e1, if_pos e2]; exact (off6 fun b o s q => (lW i (by omega) b o s q).2).symm
      · simp only [if_neg e1, if_neg e2]; exact h.WW i j (by omega) (by omega) hij
/-- what is known of a machine's numbers and texts, wherever they lie -/
structure Mv.Good (M : Mv) : Prop where
  frl : M.frs.length ≤ maxLen
  frok : ∀ j, j < M.frs.length → (Lit.int .i64 (M.frs.getD j default).o).wf = true ∧ (Lit.int .i64 (M.frs.getD j default).at_).wf = true ∧ (Lit.int .i64 (M.frs.getD j default).r).wf = true ∧ (M.frs.getD j default).ws.length ≤ maxLen ∧ ∀ n ∈ (M.frs.getD j default).ws, (Lit.int .i64 n).wf = true
  enl : M.ens.length ≤ maxLen
  enok : ∀ j, j < M.ens.length → (M.ens.getD j default).Ok
  qul : M.qus.length ≤ maxLen
  quok : ∀ j, j < M.qus.length → (M.qus.getD j default).Ok
theorem MachAt.good {w : World} {M : Mv} (h : MachAt w M) : M.Good := ⟨h.frl, fun j hj => ⟨(h.frok j hj).wo, (h.frok j hj).wat, (h.frok j hj).wr, (h.frok j hj).len, (h.frok j hj).wws⟩, h.enl, h.enok, h.qul, h.quok⟩
/-- all frames are copied: the new machine -/
theorem minv_end {W2 wr : World} {M : Mv} {B : Nat} {ea : Option Addr} {ecap : Nat} {qa : Option Addr} {qcap : Nat} {va : Option Addr} {vcap : Nat} {qs : Nat → Fr} (hM : M.Good)
    (h : MInv W2 wr M.frs M.ens M.qus B ea ecap qa qcap M.frs.length va vcap qs) :
    ∃ N : Mv, N.val = .agg #[.slice va M.frs.length vcap, .slice ea M.ens.length ecap, .slice qa M.qus.length qcap] ∧ N.Same M ∧ Owned W2.heap.size wr N ∧ QRow W2.heap.size wr N := by
  have hget : ∀ j, j < M.frs.length → ((List.range M.frs.length).map qs).getD j default = qs j := fun j hj => by simp [List.getD_eq_getElem?_getD, hj]
  have hlen : ((List.range M.frs.length).map qs).length = M.frs.length := by simp
  have newR : ∀ {e : TypeId} {a : Option Addr} {L : List Value}, RowIn wr W2.heap.size e a L → New W2.heap.size wr a := fun {e a L} hr b o s q => by
    have := hr.lt b o s q
    refine ⟨this.1, this.2, fun o' => ?_⟩
    rcases hr with ⟨rfl, _⟩ | ⟨g, zs, rfl, _, h3⟩
    · cases q
    · simp only [Option.some.injEq, Addr.mk.injEq] at q
      rw [← q.1]
      exact frozen_of_block h3 o'
  have intsR : ∀ {a : Option Addr} {ws : List Int}, RowIn wr W2.heap.size 3 a (wvals ws) → Ints wr a ws := fun {a ws} hr => by
    rcases hr with ⟨_, h2⟩ | ⟨g, zs, rfl, _, h3⟩
    · left; simpa [wvals] using h2
    · exact ints_of_block h3
  have rowsR : ∀ {α : Type} [Inhabited α] {c : Nat} {cells : α → List Value} {e : TypeId} {a : Option Addr} {xs : List α}, 0 < c → (∀ q, (cells q).length = c) → RowIn wr W2.heap.size e a (xs.flatMap cells) → RowsAt wr c cells a xs := fun {α} _ {c cells e a xs} h0 hcl hr => by
    rcases hr with ⟨_, h2⟩ | ⟨g, zs, rfl, _, h3⟩
    · left
      have := congrArg List.length h2
      rw [flat_len hcl] at this
      have h3 : xs.length = 0 := by
        rcases Nat.mul_eq_zero.1 this with h | h
        · exact h
        · omega
      exact List.eq_nil_of_length_eq_zero h3
    · exact rows_of_block hcl h3
  have okd : ∀ j, j < M.frs.length → (qs j).Ok wr := fun j hj => by
    obtain ⟨s1, s2, s3, s4⟩ := h.same j hj
    have q := hM.frok j hj
    exact ⟨by rw [s1]; exact q.1, by rw [s2]; exact q.2.1, by rw [s3]; exact q.2.2.1, by rw [s4]; exact q.2.2.2.1, intsR (h.word j hj), by rw [s4]; exact q.2.2.2.2⟩
  have hfr : RowsAt wr 4 Fr.cells va ((List.range M.frs.length).map qs) ∧ New W2.heap.size wr va ∧ M.frs.length ≤ vcap := by
    rcases h.own.2 with ⟨hv, h0⟩ | ⟨g, cap, cur, hv, hb, hg, hc1, hc2, hc3, hc4⟩
    · simp only [Value.slice.injEq] at hv
      rw [hv.1]
      refine ⟨.inl ?_, fun b o s e => (by cases e), by omega⟩
      exact List.eq_nil_of_length_eq_zero (by rw [hlen]; exact h0)
    · simp only [Value.slice.injEq] at hv
      rw [hv.1, hv.2.2]
      have e : cur = (((List.range M.frs.length).map qs).flatMap Fr.cells ++ cur.toList.drop (M.frs.length * 4)).toArray := by
        apply Array.ext'
        rw [← hc4, List.take_append_drop]
      refine ⟨rows_of_block (cells := Fr.cells) (fun _ => rfl) (by rw [e] at hg; exact hg), fun b o s q => ?_, hc1⟩
      simp only [Option.some.injEq, Addr.mk.injEq] at q
      rw [← q.1]
      exact ⟨hb, (Array.getElem?_eq_some_iff.1 hg).1, frozen_of_block hg⟩
  refine ⟨⟨va, (List.range M.frs.length).map qs, vcap, ea, M.ens, ecap, qa, M.qus, qcap⟩, by simp [Mv.val], ⟨hlen, fun j hj => ?_, rfl, rfl⟩, ?_, QRow.of_cap (M := ⟨va, (List.range M.frs.length).map qs, vcap, ea, M.ens, ecap, qa, M.qus, qcap⟩) h.hQ h.QC⟩
  · have hj' : j < M.frs.length := by simpa using hj
    show (((List.range M.frs.length).map qs).getD j default).Same _
    rw [hget j hj']
    exact h.same j hj'
  · refine ⟨⟨hfr.1, by dsimp only; rw [hlen]; exact hM.frl, by dsimp only; rw [hlen]; exact hfr.2.2, fun j hj => ?_, rowsR (by omega) (fun _ => rfl) h.hE, hM.enl, hM.enok, rowsR (by omega) (fun _ => rfl) h.hQ, hM.qul, hM.quok⟩,
      hfr.2.1, newR h.hE, newR h.hQ, fun j hj => ?_, h.FE, h.FQ, h.EQ, fun j hj => ?_, fun j hj => ?_, fun j hj => ?_, fun i j hi hj hij => ?_⟩
    · have hj' : j < M.frs.length := by simpa using hj
      show (((List.range M.frs.length).map qs).getD j default).Ok _
      rw [hget j hj']
      exact okd j hj'
    · have hj' : j < M.frs.length := by simpa using hj
      show New _ _ (((List.range M.frs.length).map qs).getD j default).a
      rw [hget j hj']
      exact newR (h.word j hj')
    · have hj' : j < M.frs.length := by simpa using hj
      show Off (((List.range M.frs.length).map qs).getD j default).a _
      rw [hget j hj']; exact h.WF j hj'
    · have hj' : j < M.frs.length := by simpa using hj
      show Off (((List.range M.frs.length).map qs).getD j default).a _
      rw [hget j hj']; exact h.WE j hj'
    · have hj' : j < M.frs.length := by simpa using hj
      show Off (((List.range M.frs.length).map qs).getD j default).a _
      rw [hget j hj']; exact h.WQ j hj'
    · have hj' : j < M.frs.length := by simpa using hj
      have hi' : i < M.frs.length := by simpa using hi
      show Off (((List.range M.frs.length).map qs).getD i default).a (((List.range M.frs.length).map qs).getD j default).a
      rw [hget j hj', hget i hi']; exact h.WW i j hi' hj' hij
/-- words are appended to nil -/
theorem append_words (w : World) (ty : TypeId) (a : Option Addr) (cap : Nat) (ws : List Int) (hi : Ints w a ws) (hlen : ws.length ≤ maxLen) (hb : ws.length * 8 ≤ 140737488351232) :
    ∃ a' cap' w', (Builtin.append_ #[22, 22] ty #[.slice none 0 0, .slice a ws.length cap]).run Try.prog w = .ok (.slice a' ws.length cap') w' ∧ RowIn w' w.heap.size 3 a' (wvals ws) ∧ Below w.heap.size w w' := by
  obtain ⟨i, hi', hz⟩ := Option.map_eq_some_iff.1 info_i
  simp only [Prod.mk.injEq] at hz
  by_cases h : ws = []
  · subst h
    exact ⟨none, 0, w, append_none w _ _ _ i Try.underlying22 hi' a cap, .inl ⟨rfl, rfl⟩, Below.refl _ _⟩
  · unfold maxLen at hlen
    obtain ⟨cap', zs, _, hr⟩ := append_new (P := Try.prog) (cells := fun n : Int => [Value.int .i64 n]) (c := 1) (fun _ => rfl) (by omega) w 22 ty 3 i _ 8 Try.underlying22 hi' hz.1 hz.2.1 hz.2.2 a cap ws (ints_rows hi) h (by omega) hb rfl (fun q v hv => by simp at hv; subst hv; rfl) (by unfold maxLen; omega)
    rw [wvals_flat] at hr
    exact ⟨_, _, _, hr, .inr ⟨_, zs, rfl, Nat.le_refl _, Go.Deep.blk_alloc_new _ _⟩, ((Below.refl _ _).alloc (Nat.le_refl _) _).drew⟩

end Go.Proofs.Ytdbbiibnhgcndaa
