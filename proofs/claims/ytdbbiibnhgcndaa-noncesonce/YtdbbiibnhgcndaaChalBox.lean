/-
  A variable that holds a challenger (own work): what it holds behind a call. No condition.
-/
import Derived.Test.YtdbbiibnhgcndaaAsk
import Derived.Test.YtdbbiibnhgcndaaLooked
namespace Go.Proofs.Ytdbbiibnhgcndaa
open Go.RowKit

theorem below_alloc {a w : World} (h : Below a.heap.size a w) (o : Obj) : Below a.heap.size a (w.alloc o) := h.alloc h.size o
structure CBox (w W : World) (b : Nat) (N D : Cv) : Prop where
  bel : Below w.heap.size w W
  ge : w.heap.size ≤ b
  lt : b < W.heap.size
  c0 : W.cell? ⟨b, 0, none⟩ = some (.slice N.ta N.tr.length N.tcap)
  c1 : W.cell? ⟨b, 1, none⟩ = some (.slice N.na N.ns.length N.ncap)
  fz : ∀ o, W.frozen? ⟨b, o, none⟩ = false
  at_ : ChalAt W N
  same : N.Same D
theorem CBox.keep {w W W' : World} {b : Nat} {N D : Cv} (h : CBox w W b N D) (hb : Below W.heap.size W W') : CBox w W' b N D :=
  ⟨h.bel.trans (hb.mono h.bel.size), h.ge, Nat.lt_of_lt_of_le h.lt hb.size, (hb.cell (p := ⟨b, 0, none⟩) h.lt).trans h.c0, (hb.cell (p := ⟨b, 1, none⟩) h.lt).trans h.c1, fun o => (hb.frozen (p := ⟨b, o, none⟩) h.lt).trans (h.fz o), h.at_.below hb, h.same⟩
theorem CBox.new {w W : World} {N D : Cv} (hb : Below w.heap.size w W) (hM : ChalAt W N) (hs : N.Same D) (t : TypeId) : CBox w (W.alloc (.cells #[.slice N.ta N.tr.length N.tcap, .slice N.na N.ns.length N.ncap] t)) W.heap.size N D := by
  have h1 := a11 W (.cells #[.slice N.ta N.tr.length N.tcap, .slice N.na N.ns.length N.ncap] t)
  exact ⟨hb.alloc hb.size _, hb.size, by simp, by rw [World.cell?_alloc_at _ _ _ _ rfl]; rfl, by rw [World.cell?_alloc_at _ _ _ _ rfl]; rfl, fun o => frozen_of_block h1 o, hM.below ((Below.refl _ _).alloc (Nat.le_refl _) _), hs⟩
theorem CBox.store {w W w1 : World} {b : Nat} {N D N' D' : Cv} (h : CBox w W b N D) (hb : Below W.heap.size W w1) (hO : COwn W.heap.size w1 N') (hs : N'.Same D') :
    CBox w ((w1.setCell ⟨b, 0, none⟩ (.slice N'.ta N'.tr.length N'.tcap)).setCell ⟨b, 1, none⟩ (.slice N'.na N'.ns.length N'.ncap)) b N' D' := by
  have h1 := h.keep hb
  obtain ⟨k0, k1⟩ := blk2 (v0 := .slice N'.ta N'.tr.length N'.tcap) (v1 := .slice N'.na N'.ns.length N'.ncap) h1.c0 h1.c1
  have hh : ∀ b', b' ≠ b → ((w1.setCell ⟨b, 0, none⟩ (.slice N'.ta N'.tr.length N'.tcap)).setCell ⟨b, 1, none⟩ (.slice N'.na N'.ns.length N'.ncap)).heap[b']? = w1.heap[b']? := fun b' hb' => by rw [Below.heap_setCell _ _ _ _ hb', Below.heap_setCell _ _ _ _ hb']
  have lT := ownsRow_block hO.tr
  have lN := ownsRow_block hO.ns
  have hO2 : COwn W.heap.size ((w1.setCell ⟨b, 0, none⟩ (.slice N'.ta N'.tr.length N'.tcap)).setCell ⟨b, 1, none⟩ (.slice N'.na N'.ns.length N'.ncap)) N' :=
    ⟨ownsRow_keep hO.tr fun b' o s e => hh b' (by have := (lT b' o s e).1; have := h.lt; omega), ownsRow_keep hO.ns fun b' o s e => hh b' (by have := (lN b' o s e).1; have := h.lt; omega), hO.off, hO.ok⟩
  refine ⟨(h1.bel.setCell h.ge _).setCell h.ge _, h.ge, by simp [World.setCell]; exact h1.lt, k0, k1, fun o => ?_, hO2.at_, hs⟩
  rw [World.frozen?_setCell, World.frozen?_setCell]
  exact h1.fz o
theorem fits_chF {C N : Cv} (hz : chF C.tr C.ns = 0) (hs : N.Same C) : N.Fits := by
  have g := chF_zero hz
  exact ⟨by rw [hs.tr]; omega, by rw [hs.ns]; omega⟩
/-- a variable that was made ahead of a call -/
theorem zbox {X w2 : World} {b : Nat} {t : TypeId} (hX : X.heap[b]? = some (.cells #[.slice none 0 0, .slice none 0 0] t (0, 0))) (hb : Below X.heap.size X w2) :
    w2.cell? ⟨b, 0, none⟩ = some (.slice none 0 0) ∧ w2.cell? ⟨b, 1, none⟩ = some (.slice none 0 0) ∧ w2.frozen? ⟨b, 0, none⟩ = false ∧ w2.frozen? ⟨b, 1, none⟩ = false ∧ b < w2.heap.size := by
  have lt : b < X.heap.size := (Array.getElem?_eq_some_iff.1 hX).1
  have c0 : X.cell? ⟨b, 0, none⟩ = some (.slice none 0 0) := by simp [World.cell?, hX]
  have c1 : X.cell? ⟨b, 1, none⟩ = some (.slice none 0 0) := by simp [World.cell?, hX]
  exact ⟨(hb.cell (p := ⟨b, 0, none⟩) lt).trans c0, (hb.cell (p := ⟨b, 1, none⟩) lt).trans c1, (hb.frozen (p := ⟨b, 0, none⟩) lt).trans (frozen_of_block hX 0), (hb.frozen (p := ⟨b, 1, none⟩) lt).trans (frozen_of_block hX 1), Nat.lt_of_lt_of_le lt hb.size⟩
theorem zcbox {w X : World} {b : Nat} {t : TypeId} (hX : X.heap[b]? = some (.cells #[.slice none 0 0, .slice none 0 0] t (0, 0))) (hb : Below w.heap.size w X) (hge : w.heap.size ≤ b) : CBox w X b noC noC :=
  ⟨hb, hge, (Array.getElem?_eq_some_iff.1 hX).1, by simp [World.cell?, hX, noC], by simp [World.cell?, hX, noC], fun o => frozen_of_block hX o, (noC_own 0 X).at_, Cv.Same.refl _⟩

theorem rowsAt_drew {α : Type} [Inhabited α] {c : Nat} {cells : α → List Value} {a : Option Addr} {xs : List α} (w : World) : RowsAt w.drew c cells a xs = RowsAt w c cells a xs := rfl
theorem size_drew (w : World) : w.drew.heap.size = w.heap.size := rfl
/-- an append to nil in a region that draws its order; the new row is told -/
theorem step_append_new' {α : Type} [Inhabited α] {P : Program} {c : Nat} {cells : α → List Value} (hcl : ∀ q, (cells q).length = c) (h0 : 0 < c) {ops : Array Oper} {o : Oper} {a : Act} {w : World} {K : Act → World → Prop} {Q : Exit → Act → World → Prop} {E : Prop} (hgd : o.guard = none) (x : Operand) (t : TypeId)
    (ho : o.op = .call { callee := .builtin .append, args := #[.const (.slice none 0 0), x], argTypes := #[t, t] }) (e : TypeId) (i : TypeInfo) (z : Value) (bytes : Nat) (ht : P.underlying t = some (.slice e)) (hi : P.info? e = some i) (hz : i.zero = some z)
    (hsize : i.size = c) (hby : i.bytes = bytes) (ap : Option Addr) (cap : Nat) (xs : List α) (hx : a.eval x = .slice ap xs.length cap) (W : World) (hr : RowsAt W c cells ap xs) (hw : Below W.heap.size W w) (hpos : xs ≠ []) (hlen : xs.length ≤ 9223372036854775807) (hbytes : xs.length * bytes ≤ 140737488351232) (hzs : z.cells.size = c) (hone : ∀ q, ∀ v ∈ cells q, v.oneCell' = true) (hml : xs.length ≤ maxLen)
    (h : ∀ cap' ob, RowsAt (w.alloc ob) c cells (some ⟨w.heap.size, 0, none⟩) xs → K (a.put o.dst (.slice (some ⟨w.heap.size, 0, none⟩) xs.length cap')) (w.drew.alloc ob)) :
    if Region.wanted o (yielded ops a.tmps) = true then Oper.wp P o a w K Q else E :=
  step_append_new hcl h0 hgd x t ho e i z bytes ht hi hz hsize hby ap cap xs hx W hr hw hpos hlen hbytes hzs hone hml fun cap' _ _ => h cap' _ (rows_of_block (cells := cells) (c := c) hcl (a11 w _))
/-- a variable that was made ahead of a call -/
structure ZBox (w X w2 : World) (b : Nat) : Prop where
  e0 : w2.cell? ⟨b, 0, none⟩ = some (.slice none 0 0)
  e1 : w2.cell? ⟨b, 1, none⟩ = some (.slice none 0 0)
  z0 : w2.frozen? ⟨b, 0, none⟩ = false
  z1 : w2.frozen? ⟨b, 1, none⟩ = false
  lt : b < w2.heap.size
  st : ∀ N' D' : Cv, COwn X.heap.size w2 N' → N'.Same D' → CBox w ((w2.setCell ⟨b, 0, none⟩ (.slice N'.ta N'.tr.length N'.tcap)).setCell ⟨b, 1, none⟩ (.slice N'.na N'.ns.length N'.ncap)) b N' D'
theorem zbox' {w X w2 : World} {b : Nat} {t : TypeId} (hX : X.heap[b]? = some (.cells #[.slice none 0 0, .slice none 0 0] t (0, 0))) (hw : Below w.heap.size w X) (hge : w.heap.size ≤ b) (hb : Below X.heap.size X w2) : ZBox w X w2 b := by
  obtain ⟨a, b', c, d, e⟩ := zbox hX hb
  exact ⟨a, b', c, d, e, fun N' D' hO hs => (zcbox hX hw hge).store hb hO hs⟩
theorem zb_only {w Wb w2 : World} {t : TypeId} (hw : Below w.heap.size w Wb) (hb : Below (Wb.alloc (.cells #[.slice none 0 0, .slice none 0 0] t)).drew.heap.size (Wb.alloc (.cells #[.slice none 0 0, .slice none 0 0] t)).drew w2) : ZBox w (Wb.alloc (.cells #[.slice none 0 0, .slice none 0 0] t)).drew w2 Wb.heap.size :=
  zbox' (t := t) (a11 Wb _) ((hw.trans ((a1B Wb _).mono hw.size)).drew) hw.size hb

/-- a variable that lies there, empty -/
structure ZAt (w X : World) (b : Nat) : Prop where
  hX : ∃ t, X.heap[b]? = some (.cells #[.slice none 0 0, .slice none 0 0] t (0, 0))
  bel : Below w.heap.size w X
  ge : w.heap.size ≤ b
theorem ZAt.box {w X w2 : World} {b : Nat} (h : ZAt w X b) (hb : Below X.heap.size X w2) : ZBox w X w2 b := by
  obtain ⟨t, hX⟩ := h.hX
  exact zbox' hX h.bel h.ge hb
theorem zat_only {w Wb X : World} {t : TypeId} (hw : Below w.heap.size w Wb) (hb : Below (Wb.alloc (.cells #[.slice none 0 0, .slice none 0 0] t)).drew.heap.size (Wb.alloc (.cells #[.slice none 0 0, .slice none 0 0] t)).drew X) : ZAt w X Wb.heap.size := by
  refine ⟨⟨t, (hb.block Wb.heap.size ?_).trans (a11 Wb _)⟩, (hw.trans ((a1B Wb _).mono hw.size)).drew.trans (hb.mono ?_), hw.size⟩
  · rw [size_drew]; simp
  · rw [size_drew]; have := hw.size; simp; omega
theorem zb_alloc {w Wb w2 : World} {t : TypeId} (hw : Below w.heap.size w Wb) (hb : Below (Wb.alloc (.cells #[.slice none 0 0, .slice none 0 0] t)).heap.size (Wb.alloc (.cells #[.slice none 0 0, .slice none 0 0] t)) w2) : ZBox w (Wb.alloc (.cells #[.slice none 0 0, .slice none 0 0] t)) w2 Wb.heap.size :=
  zbox' (t := t) (a11 Wb _) (hw.trans ((a1B Wb _).mono hw.size)) hw.size hb
/-- an append to nil in a region that draws its order; the new world is a letter -/
theorem step_append_gen {α : Type} [Inhabited α] {P : Program} {c : Nat} {cells : α → List Value} (hcl : ∀ q, (cells q).length = c) (h0 : 0 < c) {ops : Array Oper} {o : Oper} {a : Act} {w : World} {K : Act → World → Prop} {Q : Exit → Act → World → Prop} {E : Prop} (hgd : o.guard = none) (x : Operand) (t : TypeId)
    (ho : o.op = .call { callee := .builtin .append, args := #[.const (.slice none 0 0), x], argTypes := #[t, t] }) (e : TypeId) (i : TypeInfo) (z : Value) (bytes : Nat) (ht : P.underlying t = some (.slice e)) (hi : P.info? e = some i) (hz : i.zero = some z)
    (hsize : i.size = c) (hby : i.bytes = bytes) (ap : Option Addr) (cap : Nat) (xs : List α) (hx : a.eval x = .slice ap xs.length cap) (W : World) (hr : RowsAt W c cells ap xs) (hw : Below W.heap.size W w) (hpos : xs ≠ []) (hlen : xs.length ≤ 9223372036854775807) (hbytes : xs.length * bytes ≤ 140737488351232) (hzs : z.cells.size = c) (hone : ∀ q, ∀ v ∈ cells q, v.oneCell' = true) (hml : xs.length ≤ maxLen)
    (h : ∀ (X : World) g cap', Below w.heap.size w X → RowsAt X c cells (some ⟨g, 0, none⟩) xs → K (a.put o.dst (.slice (some ⟨g, 0, none⟩) xs.length cap')) X) :
    if Region.wanted o (yielded ops a.tmps) = true then Oper.wp P o a w K Q else E :=
  step_append_new' hcl h0 hgd x t ho e i z bytes ht hi hz hsize hby ap cap xs hx W hr hw hpos hlen hbytes hzs hone hml fun cap' ob hR => h (w.drew.alloc ob) w.heap.size cap' ((a1B w ob).drew) hR

end Go.Proofs.Ytdbbiibnhgcndaa
