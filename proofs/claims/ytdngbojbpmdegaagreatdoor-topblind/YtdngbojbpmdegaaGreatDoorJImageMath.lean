/-
  What slices.IndexFunc and slices.ContainsFunc answer at the answers of a script: the first element, or whether there is one, of which the function that is handed in answers true. The condition: what that function answers. How an argument that is a page, or a list of pages, is read out of memory (own work): for every such reading there are its numbers, its words, and their cells. No condition. What the call picked (riddlekeep) answers: a number below many, of each number. The condition: many is from 1 to 1000000. How arguments that are raw things, or lists of them, are read out of memory (own work): each is four numbers. No condition. What the call PageFault (riddleref) answers for every page: what the page is refused for, as CheckPage (image); it turns nothing that was in memory. The condition: the words' cells are there. What the calls Check (image) and ImageFault (riddleref) answer for every list of pages: both answer what the image is refused for, and turn nothing that was in memory. What an image that may be is like (own work): its pages may be, it has at most eight, each of eight words. The condition: nothing is wrong with it.
-/
import Derived.Test.YtdngbojbpmdegaaGreatDoorHostRun
import Derived.Test.YtdngbojbpmdegaaGreatDoorJIdxBase
import Derived.Lib.SmallJoins
import Derived.Deep.Slices
import Derived.Deep.Strs
import Derived.SizedLaws
import Derived.Deep.QuietTactic
import Derived.BigQuiet
import Derived.Outline
namespace Go.Proofs.YtdngbojbpmdegaaGreatDoor
open Go.RowKit

set_option maxHeartbeats 800000 in
theorem sta1_index (a : Option Addr) (xs : List (Int × Int)) (cap : Nat) (p : Int × Int → Bool) (w : World) (hl : xs.length ≤ maxLen) (hx : RowsAt w 2 anCells a xs)
    (hp : ∀ j, j < xs.length → ∀ w', Below w.heap.size w w' → Calls Tryz.prog 87 #[.agg #[.int .i64 (xs.getD j default).1, .int .i64 (xs.getD j default).2]] w' fun e w'' => e = .returned (.bool (p (xs.getD j default))) ∧ Below w'.heap.size w' w'') :
    Calls Tryz.prog 122 #[.slice a xs.length cap, .func (.func 87) #[] #[]] w fun e w' => e = .returned (.int .i64 (idxOf p xs)) ∧ Below w.heap.size w w' := by
  unfold maxLen at hl
  rcases hx with rfl | ⟨b, off, rfl, hc⟩
  · clear hp
    go_enter Tryz.func122, Tryz.ntmps122
    go_wp2
    refine wp_loop_rounds 1 ?_
    rw [rounds_succ]
    go_wp2
    go_ret
    exact ⟨rfl, Below.refl _ _⟩
  · go_enter Tryz.func122, Tryz.ntmps122
    go_wp2
    go_loopw [8] (fun i wr => ∃ k : Nat, k ≤ xs.length ∧ i = .int .i64 k ∧ Below w.heap.size w wr ∧ Hid (∀ j, j < k → p (xs.getD j default) = false)) (fun i _ => xs.length - (intOf i).toNat)
    case atStart => exact ⟨0, Nat.zero_le _, rfl, Below.refl _ _, fun j hj => absurd hj (by omega)⟩
    case round =>
      obtain ⟨k, hk, rfl, hbel, hid⟩ := hrel
      by_cases hlt : k < xs.length
      · have k0 := hc k hlt 0 (by omega); have k1 := hc k hlt 1 (by omega)
        have hcall := hp k hlt
        have HP : Hid (xs.getD k default = xs.getD k default) := rfl
        obtain ⟨P, hP⟩ : ∃ P, xs.getD k default = P := ⟨_, rfl⟩
        rw [hP] at k0 k1 hcall
        have HP : Hid (xs.getD k default = P) := hP
        clear hP hc hp
        have HQ : Hid (p P = p P) := rfl
        obtain ⟨cd, nn⟩ := P
        simp only [anCells] at k0 k1
        have bl : b < w.heap.size := lt_of_cell k0
        have l0 : wr.cell? ⟨b, off + k * 2, none⟩ = some (.int .i64 cd) := (hbel.cell (p := ⟨b, _, none⟩) bl).trans k0; have l1 : wr.cell? ⟨b, off + k * 2 + 1, none⟩ = some (.int .i64 nn) := (hbel.cell (p := ⟨b, _, none⟩) bl).trans k1
        clear k0 k1 bl
        obtain ⟨z, hz⟩ : ∃ z, p ⟨cd, nn⟩ = z := ⟨_, rfl⟩
        rw [hz] at hcall
        have HZ : Hid (p (xs.getD k default) = z) := by rw [HP.out]; exact hz
        clear hz HQ
        cases z with
        | false =>
          go_wp2_with (go_at_call 87; refine (hcall _ hbel).mono ?_; rintro e w1 ⟨rfl, hb1⟩)
          go_roundw
          case rel => exact ⟨k + 1, by omega, by go_num, hbel.trans (hb1.mono hbel.size), snoc_false hid HZ.out⟩
          case measure => simp [intOf]; omega
        | true =>
          go_wp2_with (go_at_call 87; refine (hcall _ hbel).mono ?_; rintro e w1 ⟨rfl, hb1⟩)
          go_ret
          exact ⟨ret_int (idxOf_at hlt hid.out HZ.out).symm, hbel.trans (hb1.mono hbel.size)⟩
      · have hkl : k = xs.length := by omega
        subst hkl
        clear hp hc
        go_wp2
        go_ret
        exact ⟨ret_int (idxOf_none hid.out).symm, hbel⟩

theorem sta1_contains (a : Option Addr) (xs : List (Int × Int)) (cap : Nat) (p : Int × Int → Bool) (w : World) (hl : xs.length ≤ maxLen) (hx : RowsAt w 2 anCells a xs)
    (hp : ∀ j, j < xs.length → ∀ w', Below w.heap.size w w' → Calls Tryz.prog 87 #[.agg #[.int .i64 (xs.getD j default).1, .int .i64 (xs.getD j default).2]] w' fun e w'' => e = .returned (.bool (p (xs.getD j default))) ∧ Below w'.heap.size w' w'') :
    Calls Tryz.prog 86 #[.slice a xs.length cap, .func (.func 87) #[] #[]] w fun e w' => e = .returned (.bool (xs.any p)) ∧ Below w.heap.size w w' := by
  have hI := sta1_index a xs cap  p w hl hx hp
  have E := idxOf_any p xs
  generalize idxOf p xs = z at hI E
  rw [← E]
  clear hx hl hp E
  go_enter Tryz.func86, Tryz.ntmps86
  go_wp2_with (go_at_call 122; refine hI.mono ?_; rintro e w' ⟨rfl, hb⟩)
  go_ret
  exact ⟨rfl, hb⟩

theorem sta1_any (x : Int × Int) (w : World) : Calls Tryz.prog 87 #[.agg #[.int .i64 x.1, .int .i64 x.2]] w fun e w' => e = .returned (.bool (x.1 != 0)) ∧ Below w.heap.size w w' := by
  obtain ⟨cd, nn⟩ := x
  dsimp only
  go_enter Tryz.func87, Tryz.ntmps87
  go_wp2
  go_ret
  exact ⟨rfl, (Below.refl _ _).alloc (Nat.le_refl _) _⟩
/-- is there an answer with an error? -/
theorem sta1_errs (a : Option Addr) (xs : List (Int × Int)) (cap : Nat) (w : World) (hl : xs.length ≤ maxLen) (hx : RowsAt w 2 anCells a xs) :
    Calls Tryz.prog 86 #[.slice a xs.length cap, .func (.func 87) #[] #[]] w fun e w' => e = .returned (.bool (xs.any fun x => x.1 != 0)) ∧ Below w.heap.size w w' :=
  sta1_contains a xs cap _ w hl hx fun _ _ w' _ => sta1_any _ w'

end Go.Proofs.YtdngbojbpmdegaaGreatDoor

namespace Go.Proofs.YtdngbojbpmdegaaGreatDoor
open Go.ChangeShapes Go.WideShapes Go.ChangeAt Go.RowKit Go.Joins
set_option maxRecDepth 100000

/-- A page that came in: its numbers, and where its words are. -/
structure Pg where
  at_ : Int
  r : Int
  a : Option Addr
  ws : List Int
  cap : Nat
instance : Inhabited Pg := ⟨⟨0, 0, none, [], 0⟩⟩
def Pg.val (p : Pg) : Value := .agg #[.int .i64 p.at_, .int .i64 p.r, .slice p.a p.ws.length p.cap]
structure Pg.Ok (w : World) (p : Pg) : Prop where
  wat : (Lit.int .i64 p.at_).wf = true
  wr : (Lit.int .i64 p.r).wf = true
  len : p.ws.length ≤ maxLen
  ints : Ints w p.a p.ws
  wws : ∀ n ∈ p.ws, (Lit.int .i64 n).wf = true
/-- A list of pages that came in: where it has elements it leads to their cells, three a page. -/
structure PagesAt (w : World) (a : Option Addr) (ps : List Pg) : Prop where
  at_ : ps = [] ∨ ∃ b off, a = some ⟨b, off, none⟩ ∧ ∀ j, j < ps.length → w.cell? ⟨b, off + j * 3, none⟩ = some (.int .i64 (ps.getD j default).at_) ∧
    w.cell? ⟨b, off + j * 3 + 1, none⟩ = some (.int .i64 (ps.getD j default).r) ∧ w.cell? ⟨b, off + j * 3 + 2, none⟩ = some (.slice (ps.getD j default).a (ps.getD j default).ws.length (ps.getD j default).cap)
  ok : ∀ j, j < ps.length → (ps.getD j default).Ok w

end Go.Proofs.YtdngbojbpmdegaaGreatDoor

namespace Go.Proofs.YtdngbojbpmdegaaGreatDoor
open Go.RowKit

/-- a number from 0 to many - 1 -/
def pick (n many : Int) : Int := (if n < 0 then -(n + 1) else n) % many
theorem pick_lt (n : Int) {many : Int} (h : 0 < many) : 0 ≤ pick n many ∧ pick n many < many := ⟨Int.emod_nonneg _ (by omega), Int.emod_lt_of_pos _ h⟩

theorem picked_any (n many : Int) (w : World) (hn : (Lit.int .i64 n).wf = true) (h0 : 0 < many) (h1 : many ≤ 1000000) :
    Calls Tryz.prog 17 #[.int .i64 n, .int .i64 many] w fun e w' => e = .returned (.int .i64 (pick n many)) ∧ w = w' := by
  have hb := i64_wf hn
  have hne : ¬ many = 0 := by omega
  by_cases h : n < 0
  · have hp : pick n many = (-(n + 1)) % many := by unfold pick; rw [if_pos h]
    rw [hp]
    have h2 : 0 ≤ -(n + 1) := by omega
    clear hn hp
    go_enter Tryz.func17, Tryz.ntmps17
    go_wp2
    go_ret
    exact ⟨by apply ret_int; rw [← Int.neg_tmod, Int.tmod_eq_emod_of_nonneg h2], rfl⟩
  · have hp : pick n many = n % many := by unfold pick; rw [if_neg h]
    rw [hp]
    have h2 : 0 ≤ n := by omega
    clear hn hp
    go_enter Tryz.func17, Tryz.ntmps17
    go_wp2
    go_ret
    exact ⟨by first | rfl | (apply ret_int; rw [Int.tmod_eq_emod_of_nonneg h2]), rfl⟩

end Go.Proofs.YtdngbojbpmdegaaGreatDoor

namespace Go.Proofs.YtdngbojbpmdegaaGreatDoor
open Go.ChangeShapes Go.WideShapes Go.ChangeAt Go.RowKit Go.Joins
set_option maxRecDepth 100000

structure Rw where
  k : Int
  a : Int
  b : Int
  c : Int
instance : Inhabited Rw := ⟨⟨0, 0, 0, 0⟩⟩
def Rw.val (r : Rw) : Value := .agg #[.int .i64 r.k, .int .i64 r.a, .int .i64 r.b, .int .i64 r.c]
structure Rw.Ok (r : Rw) : Prop where
  k : (Lit.int .i64 r.k).wf = true
  a : (Lit.int .i64 r.a).wf = true
  b : (Lit.int .i64 r.b).wf = true
  c : (Lit.int .i64 r.c).wf = true
structure RawsAt (w : World) (a : Option Addr) (rs : List Rw) : Prop where
  at_ : rs = [] ∨ ∃ b off, a = some ⟨b, off, none⟩ ∧ ∀ j, j < rs.length → w.cell? ⟨b, off + j * 4, none⟩ = some (.int .i64 (rs.getD j default).k) ∧
    w.cell? ⟨b, off + j * 4 + 1, none⟩ = some (.int .i64 (rs.getD j default).a) ∧ w.cell? ⟨b, off + j * 4 + 2, none⟩ = some (.int .i64 (rs.getD j default).b) ∧ w.cell? ⟨b, off + j * 4 + 3, none⟩ = some (.int .i64 (rs.getD j default).c)
  ok : ∀ j, j < rs.length → (rs.getD j default).Ok

theorem open_raw {H : Type} {enc : TypeId × Value → H} {W : World} {r : Reach} {b0 base : Nat} {sp : Nat → Bool} {full : Bool} {v : Value} {d : DataW H} {p : List MemPlace}
    (hv : Value.okWide Tryz.prog W r b0 61 v) (h : DataW.Trod enc Tryz.prog W base sp full 61 v d p) : ∃ x : Rw, v = x.val ∧ x.Ok := by
  obtain ⟨c0, c1, c2, c3, y0, y1, y2, y3, m, rfl, rfl, rfl, hy0, hy1, hy2, hy3⟩ := open_agg4 Tryz.underlying61 (by kernel_rfl) (by kernel_rfl) hv h
  obtain ⟨n0, rfl, w0⟩ := open_int_cell hy0
  obtain ⟨n1, rfl, w1⟩ := open_int_cell hy1
  obtain ⟨n2, rfl, w2⟩ := open_int_cell hy2
  obtain ⟨n3, rfl, w3⟩ := open_int_cell hy3
  exact ⟨⟨n0, n1, n2, n3⟩, rfl, ⟨w0, w1, w2, w3⟩⟩

theorem cells4 {w : World} {base : Nat} {a : Addr} {cs : List Value} (h : w.cells? base a 4 = some cs) :
    ∃ x y z u, cs = [x, y, z, u] ∧ w.cell? a = some x ∧ w.cell? (a.add 1) = some y ∧ w.cell? (a.add 2) = some z ∧ w.cell? (a.add 3) = some u := by
  obtain ⟨_, h2, h3⟩ := World.cells?_some h
  match cs, h2 with
  | [x, y, z, u], _ => exact ⟨x, y, z, u, rfl, by simpa [Addr.add] using h3 0 (by omega), by simpa using h3 1 (by omega), by simpa using h3 2 (by omega), by simpa using h3 3 (by omega)⟩

theorem open_raws {H : Type} {enc : TypeId × Value → H} {W : World} {base : Nat} {sp : Nat → Bool} {full : Bool} {a : Option Addr} {len cap : Nat} {d : DataW H} {p : List MemPlace}
    (h : DataW.Trod enc Tryz.prog W base sp full 59 (.slice a len cap) d p) : ∃ rs : List Rw, rs.length = len ∧ rs.length ≤ maxLen ∧ RawsAt W a rs := by
  obtain ⟨fuel, hf⟩ := h
  rcases Go.Deep.open_slice Tryz.underlying59 hf with ⟨hcs, _⟩ | ⟨x, l, c, m, n, D, Pl, hcs, _, hl, hm, hmm, hxd, hx⟩
  · simp [Value.cells] at hcs
    obtain ⟨rfl, rfl, rfl⟩ := hcs
    exact ⟨[], rfl, Nat.zero_le _, ⟨.inl rfl, fun j hj => absurd hj (by simp)⟩⟩
  · simp [Value.cells] at hcs
    obtain ⟨rfl, rfl, rfl⟩ := hcs
    have hlm : len ≤ m := by rw [hmm]; split <;> omega
    have ce : Tryz.prog.cellsOf 61 = 4 := by kernel_rfl
    have each : ∀ i, i < len → ∃ q : Rw, (W.cell? (x.add (i * 4)) = some (.int .i64 q.k) ∧ W.cell? ((x.add (i * 4)).add 1) = some (.int .i64 q.a) ∧ W.cell? ((x.add (i * 4)).add 2) = some (.int .i64 q.b) ∧ W.cell? ((x.add (i * 4)).add 3) = some (.int .i64 q.c)) ∧ q.Ok := by
      intro i hi
      obtain ⟨cs', h1, h2⟩ := hx i (by omega)
      rw [ce] at h1
      obtain ⟨v0, v1, v2, v3, rfl, e0, e1, e2, e3⟩ := cells4 h1
      obtain ⟨xs, k, hk, hxy, _, hxl, hff⟩ := DataW.trod_struct Tryz.underlying61 h2
      have o1 : Tryz.prog.cellsOf 3 = 1 := by kernel_rfl
      match xs, hxl with
      | [y0, y1, y2, y3], _ =>
        have g0 := hff 0 _ rfl
        have g1 := hff 1 _ rfl
        have g2 := hff 2 _ rfl
        have g3 := hff 3 _ rfl
        simp [o1] at g0 g1 g2 g3
        obtain ⟨n0, rfl, w0⟩ := open_int_cell g0
        obtain ⟨n1, rfl, w1⟩ := open_int_cell g1
        obtain ⟨n2, rfl, w2⟩ := open_int_cell g2
        obtain ⟨n3, rfl, w3⟩ := open_int_cell g3
        exact ⟨⟨n0, n1, n2, n3⟩, ⟨e0, e1, e2, e3⟩, ⟨w0, w1, w2, w3⟩⟩
    obtain ⟨F, hF⟩ := Go.Deep.choose_lt each
    refine ⟨(List.range len).map F, by simp, by simp; omega, ⟨?_, fun j hj => ?_⟩⟩
    · by_cases h0 : len = 0
      · left; simp [h0]
      · right
        obtain ⟨b, off, spot⟩ := x
        have h := (hF 0 (by omega)).1.1
        have hspot : spot = none := by simpa [Addr.add] using World.cell?_spot h
        subst hspot
        refine ⟨b, off, rfl, fun j hj => ?_⟩
        have hj' : j < len := by simpa using hj
        have := (hF j hj').1
        rw [add_at, add_at, add_at, add_at] at this
        simpa [List.getD_eq_getElem?_getD, hj'] using this
    · have hj' : j < len := by simpa using hj
      have := (hF j hj').2
      simpa [List.getD_eq_getElem?_getD, hj'] using this

theorem RawsAt.below {w w' : World} {a : Option Addr} {rs : List Rw} (h : RawsAt w a rs) (hb : Below w.heap.size w w') : RawsAt w' a rs := by
  refine ⟨?_, h.ok⟩
  rcases h.at_ with h | ⟨b, off, h1, h2⟩
  · exact .inl h
  · refine .inr ⟨b, off, h1, fun j hj => ?_⟩
    obtain ⟨c0, c1, c2, c3⟩ := h2 j hj
    exact ⟨(hb.cell (p := ⟨b, _, none⟩) (lt_of_cell c0)).trans c0, (hb.cell (p := ⟨b, _, none⟩) (lt_of_cell c1)).trans c1, (hb.cell (p := ⟨b, _, none⟩) (lt_of_cell c2)).trans c2, (hb.cell (p := ⟨b, _, none⟩) (lt_of_cell c3)).trans c3⟩

end Go.Proofs.YtdngbojbpmdegaaGreatDoor

namespace Go.Proofs.YtdngbojbpmdegaaGreatDoor
open Go.RowKit

end Go.Proofs.YtdngbojbpmdegaaGreatDoor

namespace Go.Proofs.YtdngbojbpmdegaaGreatDoor
open Go.RowKit

/-- what a page is refused for -/
def Pg.f (p : Pg) : Int := pageF p.at_ p.r p.ws
/-- what is wrong with the rest of an image (0: nothing), behind a page at a place -/
def imgF : Option Int → List Pg → Int
  | _, [] => 0
  | none, p :: l => if p.f = 0 then imgF (some p.at_) l else p.f
  | some q, p :: l => if p.f = 0 then (if p.at_ ≤ q then 12 else imgF (some p.at_) l) else p.f
/-- the place of the page ahead of number k -/
def prev (ps : List Pg) (k : Nat) : Option Int := if k = 0 then none else some (ps.getD (k - 1) default).at_
def imageF (ps : List Pg) : Int := imgF none ps

theorem drop_at (ps : List Pg) (k : Nat) (h : k < ps.length) : ps.drop k = ps.getD k default :: ps.drop (k + 1) := by
  rw [List.drop_eq_getElem_cons h]; simp [List.getD_eq_getElem?_getD, h]
theorem imgF_bad (ps : List Pg) (k : Nat) (h : k < ps.length) (hz : ¬ (ps.getD k default).f = 0) : imgF (prev ps k) (ps.drop k) = (ps.getD k default).f := by
  rw [drop_at ps k h]
  cases prev ps k <;> simp only [imgF, if_neg hz]
theorem imgF_first (ps : List Pg) (h : 0 < ps.length) (hz : (ps.getD 0 default).f = 0) : imgF (prev ps 0) (ps.drop 0) = imgF (prev ps (0 + 1)) (ps.drop (0 + 1)) := by
  rw [drop_at ps 0 h]
  simp only [prev, imgF, if_pos hz, if_true]
  simp
theorem imgF_order (ps : List Pg) (k : Nat) (h : k < ps.length) (h0 : 0 < k) (hz : (ps.getD k default).f = 0) (hq : (ps.getD k default).at_ ≤ (ps.getD (k - 1) default).at_) : imgF (prev ps k) (ps.drop k) = 12 := by
  rw [drop_at ps k h, prev, if_neg (by omega)]
  simp only [imgF, if_pos hz, if_pos hq]
theorem imgF_next (ps : List Pg) (k : Nat) (h : k < ps.length) (h0 : 0 < k) (hz : (ps.getD k default).f = 0) (hq : ¬ (ps.getD k default).at_ ≤ (ps.getD (k - 1) default).at_) : imgF (prev ps k) (ps.drop k) = imgF (prev ps (k + 1)) (ps.drop (k + 1)) := by
  rw [drop_at ps k h, prev, if_neg (by omega)]
  simp only [imgF, if_pos hz, if_neg hq]
  simp [prev]
theorem imgF_end (ps : List Pg) : imgF (prev ps ps.length) (ps.drop ps.length) = 0 := by
  rw [List.drop_length]
  cases prev ps ps.length <;> rfl

theorem Pg.Ok.below {w w' : World} {p : Pg} (h : p.Ok w) (hb : Below w.heap.size w w') : p.Ok w' := ⟨h.wat, h.wr, h.len, h.ints.below hb, h.wws⟩
theorem PagesAt.below {w w' : World} {a : Option Addr} {ps : List Pg} (h : PagesAt w a ps) (hb : Below w.heap.size w w') : PagesAt w' a ps := by
  refine ⟨?_, fun j hj => (h.ok j hj).below hb⟩
  rcases h.at_ with h | ⟨b, off, h1, h2⟩
  · exact .inl h
  · refine .inr ⟨b, off, h1, fun j hj => ?_⟩
    obtain ⟨c0, c1, c2⟩ := h2 j hj
    exact ⟨(hb.cell (p := ⟨b, _, none⟩) (lt_of_cell c0)).trans c0, (hb.cell (p := ⟨b, _, none⟩) (lt_of_cell c1)).trans c1, (hb.cell (p := ⟨b, _, none⟩) (lt_of_cell c2)).trans c2⟩

theorem PagesAt.cells {w : World} {b off : Nat} {ps : List Pg} (h : PagesAt w (some ⟨b, off, none⟩) ps) {j : Nat} (hj : j < ps.length) :
    w.cell? ⟨b, off + j * 3, none⟩ = some (.int .i64 (ps.getD j default).at_) ∧ w.cell? ⟨b, off + j * 3 + 1, none⟩ = some (.int .i64 (ps.getD j default).r) ∧
      w.cell? ⟨b, off + j * 3 + 2, none⟩ = some (.slice (ps.getD j default).a (ps.getD j default).ws.length (ps.getD j default).cap) := by
  rcases h.at_ with rfl | ⟨b', off', h1, h2⟩
  · simp at hj
  · simp at h1
    obtain ⟨rfl, rfl⟩ := h1
    exact h2 j hj

theorem round_below {w wr w1 : World} {o : Obj} (h : Below w.heap.size w wr) (hb : Below (wr.alloc o).heap.size (wr.alloc o) w1) (n : Nat) : Below w.heap.size w (w1.drewN n) :=
  below_drewN (h.trans ((((Below.refl _ _).alloc (Nat.le_refl _) _).trans (hb.mono (by simp))).mono h.size)) n

set_option maxHeartbeats 800000 in
theorem check_any (a : Option Addr) (ps : List Pg) (cap : Nat) (w : World) (hl : ps.length ≤ maxLen) (hx : PagesAt w a ps) :
    Calls Tryz.prog 68 #[.slice a ps.length cap] w fun e w' => e = .returned (.int .i64 (imageF ps)) ∧ Below w.heap.size w w' := by
  unfold maxLen at hl
  rcases hx.at_ with rfl | ⟨b, off, rfl, hc⟩
  · clear hx
    go_enter Tryz.func68, Tryz.ntmps68
    go_wp2
    refine wp_loop_rounds 1 ?_
    rw [rounds_succ]
    go_wp2
    go_ret
    exact ⟨rfl, Below.refl _ _⟩
  · clear hc
    go_enter Tryz.func68, Tryz.ntmps68
    go_wp2
    go_loopw [8] (fun i wr => ∃ k : Nat, k ≤ ps.length ∧ i = .int .i64 k ∧ Below w.heap.size w wr ∧ Hid (imageF ps = imgF (prev ps k) (ps.drop k))) (fun i _ => ps.length - (intOf i).toNat)
    case atStart => exact ⟨0, Nat.zero_le _, rfl, Below.refl _ _, rfl⟩
    case round =>
      obtain ⟨k, hk, rfl, hbel, hid⟩ := hrel
      have hX := hx.below hbel
      by_cases hlt : k < ps.length
      · rcases hX.at_ with rfl | ⟨b', off', hab, hc⟩
        · simp at hlt
        · simp at hab
          obtain ⟨rfl, rfl⟩ := hab
          obtain ⟨c0, c1, c2⟩ := hc k hlt
          have hpre : 0 < k → wr.cell? ⟨b, off + (k - 1) * 3, none⟩ = some (.int .i64 (ps.getD (k - 1) default).at_) := fun _ => (hc (k - 1) (by omega)).1
          have hok := hX.ok k hlt
          obtain ⟨P, hP⟩ : ∃ P, ps.getD k default = P := ⟨_, rfl⟩
          obtain ⟨q, hq⟩ : ∃ q, (ps.getD (k - 1) default).at_ = q := ⟨_, rfl⟩
          rw [hP] at c0 c1 c2 hok
          rw [hq] at hpre
          have HP : Hid (ps.getD k default = P) := hP
          have HQ : Hid ((ps.getD (k - 1) default).at_ = q) := hq
          clear hP hq hc hx hX
          obtain ⟨pat, pr, pa, pws, pcap⟩ := P
          have hcall := fun w' (h : Below wr.heap.size wr w') => checkPage_any pat pr pa pws pcap w' hok.wr hok.len (hok.ints.below h)
          have HF : Hid ((Pg.mk pat pr pa pws pcap).f = pageF pat pr pws) := rfl
          clear hok
          dsimp only at c0 c1 c2
          generalize pageF pat pr pws = z at hcall HF
          by_cases hz : z = 0
          · subst hz
            by_cases hk0 : k = 0
            · subst hk0
              clear hpre
              simp at c0 c1 c2
              go_wp2_with (go_at_call 115; go_must (refine (hcall _ ((Below.refl _ _).alloc (Nat.le_refl _) _)).mono ?_); rintro e w1 ⟨rfl, hb⟩; obtain ⟨hc, hf⟩ := bcell hb)
              go_quiet (fail)
              go_wp2
              go_roundw
              case rel => exact ⟨0 + 1, by omega, by go_num, round_below hbel hb _, by rw [hid.out, imgF_first ps hlt (by rw [HP.out]; exact HF.out)]; exact rfl⟩
              case measure => simp [intOf]; omega
            · have hk1 : (0 : Int) < (k : Int) := by omega
              have hk2 : 0 < k := by omega
              have hp := hpre hk2
              clear hpre
              go_wp2_with (go_at_call 115; go_must (refine (hcall _ ((Below.refl _ _).alloc (Nat.le_refl _) _)).mono ?_); rintro e w1 ⟨rfl, hb⟩; obtain ⟨hc, hf⟩ := bcell hb)
              have hpw : w1.cell? ⟨b, off + (k - 1) * 3, none⟩ = some (.int .i64 q) := by
                rw [hc _ _ (by have := lt_of_cell hp; simp at this; simp; omega), World.cell?_alloc_past _ _ _ (by have := lt_of_cell hp; simpa using this)]; exact hp
              by_cases hle : pat ≤ q
              · go_quiet (fail)
                go_wp2
                go_ret
                exact ⟨ret_int (by rw [hid.out, imgF_order ps k hlt hk2 (by rw [HP.out]; exact HF.out) (by rw [HP.out, HQ.out]; exact hle)]), round_below hbel hb _⟩
              · go_quiet (fail)
                go_wp2
                go_roundw
                case rel => exact ⟨k + 1, by omega, by go_num, round_below hbel hb _, by rw [hid.out, imgF_next ps k hlt hk2 (by rw [HP.out]; exact HF.out) (by rw [HP.out, HQ.out]; exact hle)]; exact rfl⟩
                case measure => simp [intOf]; omega
          · have hz1 : (z != 0) = true := by simpa using hz
            clear hpre
            go_wp2_with (go_at_call 115; go_must (refine (hcall _ ((Below.refl _ _).alloc (Nat.le_refl _) _)).mono ?_); rintro e w1 ⟨rfl, hb⟩; obtain ⟨hc, hf⟩ := bcell hb)
            go_ret
            exact ⟨ret_int (by rw [hid.out, imgF_bad ps k hlt (by rw [HP.out, HF.out]; exact hz), HP.out, HF.out]), round_below hbel hb 0⟩
      · have hkl : k = ps.length := by omega
        subst hkl
        go_wp2
        go_ret
        exact ⟨ret_int (by rw [hid.out, imgF_end]), hbel⟩

end Go.Proofs.YtdngbojbpmdegaaGreatDoor

namespace Go.Proofs.YtdngbojbpmdegaaGreatDoor
open Go.RowKit

theorem pf_zero {a b c : Bool} (h : pf a b c = 0) : a = true ∧ b = true ∧ c = true := by
  cases a <;> cases b <;> cases c <;> simp [pf] at h ⊢
theorem Pg.f_zero {p : Pg} (h : p.f = 0) : inB p.at_ 0 7 = true ∧ inB p.r 0 7 = true ∧ mayW p.ws = true := pf_zero h
theorem imgF_all : ∀ (ps : List Pg) (o : Option Int), imgF o ps = 0 → ∀ p ∈ ps, p.f = 0
  | [], _, _, p, hp => by simp at hp
  | q :: l, o, h, p, hp => by
    have hq : q.f = 0 := by
      cases o with
      | none => by_cases e : q.f = 0; exact e; simp [imgF, e] at h
      | some z => by_cases e : q.f = 0; exact e; simp [imgF, e] at h
    have hl : imgF (some q.at_) l = 0 := by
      cases o with
      | none => simpa [imgF, hq] using h
      | some z =>
        by_cases e : q.at_ ≤ z
        · simp [imgF, hq, e] at h
        · simpa [imgF, hq, e] using h
    rcases List.mem_cons.1 hp with rfl | hp
    · exact hq
    · exact imgF_all l _ hl p hp
theorem imgF_len_some : ∀ (l : List Pg) (q : Int), q ≤ 7 → imgF (some q) l = 0 → (l.length : Int) ≤ 7 - q
  | [], q, hq, _ => by simp; omega
  | p :: l, q, hq, h => by
    have hp := imgF_all (p :: l) _ h p (by simp)
    have hb := inB_iff.1 (Pg.f_zero hp).1
    by_cases e : p.at_ ≤ q
    · simp [imgF, hp, e] at h
    · have hl : imgF (some p.at_) l = 0 := by simpa [imgF, hp, e] using h
      have := imgF_len_some l p.at_ hb.2 hl
      simp
      omega
theorem image_len {ps : List Pg} (h : imageF ps = 0) : ps.length ≤ 8 := by
  unfold imageF at h
  match ps, h with
  | [], _ => simp
  | p :: l, h =>
    have hp := imgF_all (p :: l) _ h p (by simp)
    have hb := inB_iff.1 (Pg.f_zero hp).1
    have hl : imgF (some p.at_) l = 0 := by simpa [imgF, hp] using h
    have := imgF_len_some l p.at_ hb.2 hl
    simp
    omega
theorem image_words {ps : List Pg} (h : imageF ps = 0) (j : Nat) (hj : j < ps.length) : (ps.getD j default).ws.length = 8 := by
  have := imgF_all ps none h (ps.getD j default) (by simp [List.getD_eq_getElem?_getD, hj])
  exact (mayW_iff.1 (Pg.f_zero this).2.2).1

theorem keep_cell {w w' : World} {a : Addr} {v : Value} (hb : Below w.heap.size w w') (h : w.cell? a = some v) : w'.cell? a = some v := (hb.cell (p := a) (lt_of_cell h)).trans h

end Go.Proofs.YtdngbojbpmdegaaGreatDoor
