/-
  What the call PageFault (riddleref) answers for every page: what the page is refused for, as CheckPage (image); it turns nothing that was in memory. The condition: the words' cells are there. How an argument that is a page, or a list of pages, is read out of memory (own work): for every such reading there are its numbers, its words, and their cells. No condition. What the calls Check (image) and ImageFault (riddleref) answer for every list of pages: both answer what the image is refused for, and turn nothing that was in memory. What an image that may be is like (own work): its pages may be, it has at most eight, each of eight words. The condition: nothing is wrong with it. What the calls Expect (image) and ExpectedOf (riddleref) answer, for every list of pages: both the same text and the same error number; nothing that was in memory turns.
-/
import Derived.Test.YtdngbojbpmdegaaGreatDoorJIdxBase
import Derived.Test.YtdngbojbpmdegaaGreatDoorJOpenCells
import Derived.Lib.SmallJoins
import Derived.Deep.Slices
import Derived.Deep.Strs
import Derived.SizedLaws
import Derived.Deep.QuietTactic
import Derived.BigQuiet
import Derived.Outline
import Derived.Test.YtdngbojbpmdegaaGreatDoorJPutMath
import Derived.Deep.RegionHeld3
namespace Go.Proofs.YtdngbojbpmdegaaGreatDoor
open Go.RowKit

end Go.Proofs.YtdngbojbpmdegaaGreatDoor

namespace Go.Proofs.YtdngbojbpmdegaaGreatDoor
open Go.ChangeShapes Go.WideShapes Go.ChangeAt Go.RowKit Go.Joins
set_option maxRecDepth 100000

/-- A page that came in: its numbers, and where its words are. -/
structure Pg where
  at_ : Int
  r : Int
  a : Option Addr
  ws : List Int
  cap : Nat
instance : Inhabited Pg := ⟨⟨0, 0, none, [], 0⟩⟩
def Pg.val (p : Pg) : Value := .agg #[.int .i64 p.at_, .int .i64 p.r, .slice p.a p.ws.length p.cap]
structure Pg.Ok (w : World) (p : Pg) : Prop where
  wat : (Lit.int .i64 p.at_).wf = true
  wr : (Lit.int .i64 p.r).wf = true
  len : p.ws.length ≤ maxLen
  ints : Ints w p.a p.ws
  wws : ∀ n ∈ p.ws, (Lit.int .i64 n).wf = true
/-- A list of pages that came in: where it has elements it leads to their cells, three a page. -/
structure PagesAt (w : World) (a : Option Addr) (ps : List Pg) : Prop where
  at_ : ps = [] ∨ ∃ b off, a = some ⟨b, off, none⟩ ∧ ∀ j, j < ps.length → w.cell? ⟨b, off + j * 3, none⟩ = some (.int .i64 (ps.getD j default).at_) ∧
    w.cell? ⟨b, off + j * 3 + 1, none⟩ = some (.int .i64 (ps.getD j default).r) ∧ w.cell? ⟨b, off + j * 3 + 2, none⟩ = some (.slice (ps.getD j default).a (ps.getD j default).ws.length (ps.getD j default).cap)
  ok : ∀ j, j < ps.length → (ps.getD j default).Ok w

end Go.Proofs.YtdngbojbpmdegaaGreatDoor

namespace Go.Proofs.YtdngbojbpmdegaaGreatDoor
open Go.RowKit

/-- what a page is refused for -/
def Pg.f (p : Pg) : Int := pageF p.at_ p.r p.ws
/-- what is wrong with the rest of an image (0: nothing), behind a page at a place -/
def imgF : Option Int → List Pg → Int
  | _, [] => 0
  | none, p :: l => if p.f = 0 then imgF (some p.at_) l else p.f
  | some q, p :: l => if p.f = 0 then (if p.at_ ≤ q then 12 else imgF (some p.at_) l) else p.f
/-- the place of the page ahead of number k -/
def prev (ps : List Pg) (k : Nat) : Option Int := if k = 0 then none else some (ps.getD (k - 1) default).at_
def imageF (ps : List Pg) : Int := imgF none ps

theorem drop_at (ps : List Pg) (k : Nat) (h : k < ps.length) : ps.drop k = ps.getD k default :: ps.drop (k + 1) := by
  rw [List.drop_eq_getElem_cons h]; simp [List.getD_eq_getElem?_getD, h]
theorem imgF_bad (ps : List Pg) (k : Nat) (h : k < ps.length) (hz : ¬ (ps.getD k default).f = 0) : imgF (prev ps k) (ps.drop k) = (ps.getD k default).f := by
  rw [drop_at ps k h]
  cases prev ps k <;> simp only [imgF, if_neg hz]
theorem imgF_first (ps : List Pg) (h : 0 < ps.length) (hz : (ps.getD 0 default).f = 0) : imgF (prev ps 0) (ps.drop 0) = imgF (prev ps (0 + 1)) (ps.drop (0 + 1)) := by
  rw [drop_at ps 0 h]
  simp only [prev, imgF, if_pos hz, if_true]
  simp
theorem imgF_order (ps : List Pg) (k : Nat) (h : k < ps.length) (h0 : 0 < k) (hz : (ps.getD k default).f = 0) (hq : (ps.getD k default).at_ ≤ (ps.getD (k - 1) default).at_) : imgF (prev ps k) (ps.drop k) = 12 := by
  rw [drop_at ps k h, prev, if_neg (by omega)]
  simp only [imgF, if_pos hz, if_pos hq]
theorem imgF_next (ps : List Pg) (k : Nat) (h : k < ps.length) (h0 : 0 < k) (hz : (ps.getD k default).f = 0) (hq : ¬ (ps.getD k default).at_ ≤ (ps.getD (k - 1) default).at_) : imgF (prev ps k) (ps.drop k) = imgF (prev ps (k + 1)) (ps.drop (k + 1)) := by
  rw [drop_at ps k h, prev, if_neg (by omega)]
  simp only [imgF, if_pos hz, if_neg hq]
  simp [prev]
theorem imgF_end (ps : List Pg) : imgF (prev ps ps.length) (ps.drop ps.length) = 0 := by
  rw [List.drop_length]
  cases prev ps ps.length <;> rfl

theorem Pg.Ok.below {w w' : World} {p : Pg} (h : p.Ok w) (hb : Below w.heap.size w w') : p.Ok w' := ⟨h.wat, h.wr, h.len, h.ints.below hb, h.wws⟩
theorem PagesAt.below {w w' : World} {a : Option Addr} {ps : List Pg} (h : PagesAt w a ps) (hb : Below w.heap.size w w') : PagesAt w' a ps := by
  refine ⟨?_, fun j hj => (h.ok j hj).below hb⟩
  rcases h.at_ with h | ⟨b, off, h1, h2⟩
  · exact .inl h
  · refine .inr ⟨b, off, h1, fun j hj => ?_⟩
    obtain ⟨c0, c1, c2⟩ := h2 j hj
    exact ⟨(hb.cell (p := ⟨b, _, none⟩) (lt_of_cell c0)).trans c0, (hb.cell (p := ⟨b, _, none⟩) (lt_of_cell c1)).trans c1, (hb.cell (p := ⟨b, _, none⟩) (lt_of_cell c2)).trans c2⟩

theorem PagesAt.cells {w : World} {b off : Nat} {ps : List Pg} (h : PagesAt w (some ⟨b, off, none⟩) ps) {j : Nat} (hj : j < ps.length) :
    w.cell? ⟨b, off + j * 3, none⟩ = some (.int .i64 (ps.getD j default).at_) ∧ w.cell? ⟨b, off + j * 3 + 1, none⟩ = some (.int .i64 (ps.getD j default).r) ∧
      w.cell? ⟨b, off + j * 3 + 2, none⟩ = some (.slice (ps.getD j default).a (ps.getD j default).ws.length (ps.getD j default).cap) := by
  rcases h.at_ with rfl | ⟨b', off', h1, h2⟩
  · simp at hj
  · simp at h1
    obtain ⟨rfl, rfl⟩ := h1
    exact h2 j hj

theorem round_below {w wr w1 : World} {o : Obj} (h : Below w.heap.size w wr) (hb : Below (wr.alloc o).heap.size (wr.alloc o) w1) (n : Nat) : Below w.heap.size w (w1.drewN n) :=
  below_drewN (h.trans ((((Below.refl _ _).alloc (Nat.le_refl _) _).trans (hb.mono (by simp))).mono h.size)) n

set_option maxHeartbeats 800000 in
theorem check_any (a : Option Addr) (ps : List Pg) (cap : Nat) (w : World) (hl : ps.length ≤ maxLen) (hx : PagesAt w a ps) :
    Calls Tryz.prog 68 #[.slice a ps.length cap] w fun e w' => e = .returned (.int .i64 (imageF ps)) ∧ Below w.heap.size w w' := by
  unfold maxLen at hl
  rcases hx.at_ with rfl | ⟨b, off, rfl, hc⟩
  · clear hx
    go_enter Tryz.func68, Tryz.ntmps68
    go_wp2
    refine wp_loop_rounds 1 ?_
    rw [rounds_succ]
    go_wp2
    go_ret
    exact ⟨rfl, Below.refl _ _⟩
  · clear hc
    go_enter Tryz.func68, Tryz.ntmps68
    go_wp2
    go_loopw [8] (fun i wr => ∃ k : Nat, k ≤ ps.length ∧ i = .int .i64 k ∧ Below w.heap.size w wr ∧ Hid (imageF ps = imgF (prev ps k) (ps.drop k))) (fun i _ => ps.length - (intOf i).toNat)
    case atStart => exact ⟨0, Nat.zero_le _, rfl, Below.refl _ _, rfl⟩
    case round =>
      obtain ⟨k, hk, rfl, hbel, hid⟩ := hrel
      have hX := hx.below hbel
      by_cases hlt : k < ps.length
      · rcases hX.at_ with rfl | ⟨b', off', hab, hc⟩
        · simp at hlt
        · simp at hab
          obtain ⟨rfl, rfl⟩ := hab
          obtain ⟨c0, c1, c2⟩ := hc k hlt
          have hpre : 0 < k → wr.cell? ⟨b, off + (k - 1) * 3, none⟩ = some (.int .i64 (ps.getD (k - 1) default).at_) := fun _ => (hc (k - 1) (by omega)).1
          have hok := hX.ok k hlt
          obtain ⟨P, hP⟩ : ∃ P, ps.getD k default = P := ⟨_, rfl⟩
          obtain ⟨q, hq⟩ : ∃ q, (ps.getD (k - 1) default).at_ = q := ⟨_, rfl⟩
          rw [hP] at c0 c1 c2 hok
          rw [hq] at hpre
          have HP : Hid (ps.getD k default = P) := hP
          have HQ : Hid ((ps.getD (k - 1) default).at_ = q) := hq
          clear hP hq hc hx hX
          obtain ⟨pat, pr, pa, pws, pcap⟩ := P
          have hcall := fun w' (h : Below wr.heap.size wr w') => checkPage_any pat pr pa pws pcap w' hok.wr hok.len (hok.ints.below h)
          have HF : Hid ((Pg.mk pat pr pa pws pcap).f = pageF pat pr pws) := rfl
          clear hok
          dsimp only at c0 c1 c2
          generalize pageF pat pr pws = z at hcall HF
          by_cases hz : z = 0
          · subst hz
            by_cases hk0 : k = 0
            · subst hk0
              clear hpre
              simp at c0 c1 c2
              go_wp2_with (go_at_call 115; go_must (refine (hcall _ ((Below.refl _ _).alloc (Nat.le_refl _) _)).mono ?_); rintro e w1 ⟨rfl, hb⟩; obtain ⟨hc, hf⟩ := bcell hb)
              go_quiet (fail)
              go_wp2
              go_roundw
              case rel => exact ⟨0 + 1, by omega, by go_num, round_below hbel hb _, by rw [hid.out, imgF_first ps hlt (by rw [HP.out]; exact HF.out)]; exact rfl⟩
              case measure => simp [intOf]; omega
            · have hk1 : (0 : Int) < (k : Int) := by omega
              have hk2 : 0 < k := by omega
              have hp := hpre hk2
              clear hpre
              go_wp2_with (go_at_call 115; go_must (refine (hcall _ ((Below.refl _ _).alloc (Nat.le_refl _) _)).mono ?_); rintro e w1 ⟨rfl, hb⟩; obtain ⟨hc, hf⟩ := bcell hb)
              have hpw : w1.cell? ⟨b, off + (k - 1) * 3, none⟩ = some (.int .i64 q) := by
                rw [hc _ _ (by have := lt_of_cell hp; simp at this; simp; omega), World.cell?_alloc_past _ _ _ (by have := lt_of_cell hp; simpa using this)]; exact hp
              by_cases hle : pat ≤ q
              · go_quiet (fail)
                go_wp2
                go_ret
                exact ⟨ret_int (by rw [hid.out, imgF_order ps k hlt hk2 (by rw [HP.out]; exact HF.out) (by rw [HP.out, HQ.out]; exact hle)]), round_below hbel hb _⟩
              · go_quiet (fail)
                go_wp2
                go_roundw
                case rel => exact ⟨k + 1, by omega, by go_num, round_below hbel hb _, by rw [hid.out, imgF_next ps k hlt hk2 (by rw [HP.out]; exact HF.out) (by rw [HP.out, HQ.out]; exact hle)]; exact rfl⟩
                case measure => simp [intOf]; omega
          · have hz1 : (z != 0) = true := by simpa using hz
            clear hpre
            go_wp2_with (go_at_call 115; go_must (refine (hcall _ ((Below.refl _ _).alloc (Nat.le_refl _) _)).mono ?_); rintro e w1 ⟨rfl, hb⟩; obtain ⟨hc, hf⟩ := bcell hb)
            go_ret
            exact ⟨ret_int (by rw [hid.out, imgF_bad ps k hlt (by rw [HP.out, HF.out]; exact hz), HP.out, HF.out]), round_below hbel hb 0⟩
      · have hkl : k = ps.length := by omega
        subst hkl
        go_wp2
        go_ret
        exact ⟨ret_int (by rw [hid.out, imgF_end]), hbel⟩

end Go.Proofs.YtdngbojbpmdegaaGreatDoor

namespace Go.Proofs.YtdngbojbpmdegaaGreatDoor
open Go.RowKit

theorem pf_zero {a b c : Bool} (h : pf a b c = 0) : a = true ∧ b = true ∧ c = true := by
  cases a <;> cases b <;> cases c <;> simp [pf] at h ⊢
theorem Pg.f_zero {p : Pg} (h : p.f = 0) : inB p.at_ 0 7 = true ∧ inB p.r 0 7 = true ∧ mayW p.ws = true := pf_zero h
theorem imgF_all : ∀ (ps : List Pg) (o : Option Int), imgF o ps = 0 → ∀ p ∈ ps, p.f = 0
  | [], _, _, p, hp => by simp at hp
  | q :: l, o, h, p, hp => by
    have hq : q.f = 0 := by
      cases o with
      | none => by_cases e : q.f = 0; exact e; simp [imgF, e] at h
      | some z => by_cases e : q.f = 0; exact e; simp [imgF, e] at h
    have hl : imgF (some q.at_) l = 0 := by
      cases o with
      | none => simpa [imgF, hq] using h
      | some z =>
        by_cases e : q.at_ ≤ z
        · simp [imgF, hq, e] at h
        · simpa [imgF, hq, e] using h
    rcases List.mem_cons.1 hp with rfl | hp
    · exact hq
    · exact imgF_all l _ hl p hp
theorem imgF_len_some : ∀ (l : List Pg) (q : Int), q ≤ 7 → imgF (some q) l = 0 → (l.length : Int) ≤ 7 - q
  | [], q, hq, _ => by simp; omega
  | p :: l, q, hq, h => by
    have hp := imgF_all (p :: l) _ h p (by simp)
    have hb := inB_iff.1 (Pg.f_zero hp).1
    by_cases e : p.at_ ≤ q
    · simp [imgF, hp, e] at h
    · have hl : imgF (some p.at_) l = 0 := by simpa [imgF, hp, e] using h
      have := imgF_len_some l p.at_ hb.2 hl
      simp
      omega
theorem image_len {ps : List Pg} (h : imageF ps = 0) : ps.length ≤ 8 := by
  unfold imageF at h
  match ps, h with
  | [], _ => simp
  | p :: l, h =>
    have hp := imgF_all (p :: l) _ h p (by simp)
    have hb := inB_iff.1 (Pg.f_zero hp).1
    have hl : imgF (some p.at_) l = 0 := by simpa [imgF, hp] using h
    have := imgF_len_some l p.at_ hb.2 hl
    simp
    omega
theorem image_words {ps : List Pg} (h : imageF ps = 0) (j : Nat) (hj : j < ps.length) : (ps.getD j default).ws.length = 8 := by
  have := imgF_all ps none h (ps.getD j default) (by simp [List.getD_eq_getElem?_getD, hj])
  exact (mayW_iff.1 (Pg.f_zero this).2.2).1

theorem keep_cell {w w' : World} {a : Addr} {v : Value} (hb : Below w.heap.size w w') (h : w.cell? a = some v) : w'.cell? a = some v := (hb.cell (p := a) (lt_of_cell h)).trans h

end Go.Proofs.YtdngbojbpmdegaaGreatDoor

namespace Go.Proofs.YtdngbojbpmdegaaGreatDoor
open Go.RowKit

/-- what is measured of one page -/
def pageL (p : Pg) : List UInt8 := entryL sPage [p.at_, p.r] ++ entryL sWords (p.at_ :: p.ws)
def sOpen : List UInt8 := [111, 112, 101, 110, 59]
/-- what is measured of an image -/
def expL (ps : List Pg) : List UInt8 := sOpen ++ ps.flatMap pageL
def expK (ps : List Pg) (k : Nat) : ByteArray := txt (expL (ps.take k))
/-- the text, or what it is refused for -/
def expV (ps : List Pg) : Value := if imageF ps = 0 then .tuple #[.string (txt (expL ps)), .int .i64 0] else .tuple #[.string ⟨#[]⟩, .int .i64 (imageF ps)]

theorem entryL_len (nm : List UInt8) (xs : List Int) (h : ∀ n ∈ xs, (Lit.int .i64 n).wf = true) : (entryL nm xs).length ≤ nm.length + 22 * xs.length + 1 := by
  have := numsL_le xs h
  simp only [entryL, List.length_append, List.length_cons, List.length_nil]
  omega
theorem pageL_len {p : Pg} (h : p.f = 0) : (pageL p).length ≤ 253 := by
  obtain ⟨h1, h2, h3⟩ := Pg.f_zero h
  have b1 := inB_iff.1 h1
  have b2 := inB_iff.1 h2
  obtain ⟨hl, ha⟩ := mayW_iff.1 h3
  have e1 := entryL_len sPage [p.at_, p.r] fun n hn => by
    simp at hn
    rcases hn with rfl | rfl <;> exact wf_of (by omega)
  have e2 := entryL_len sWords (p.at_ :: p.ws) fun n hn => by
    rcases List.mem_cons.1 hn with rfl | hn
    · exact wf_of (by omega)
    · exact wf_of (ha n hn)
  simp only [sPage, sWords, List.length_cons, List.length_nil] at e1 e2
  unfold pageL
  rw [List.length_append]
  simp only [sPage, sWords]
  omega
theorem flat_lenX : ∀ (l : List Pg), (∀ p ∈ l, p.f = 0) → (l.flatMap pageL).length ≤ 253 * l.length
  | [], _ => by simp
  | p :: l, h => by
    have h1 := pageL_len (h p (by simp))
    have h2 := flat_lenX l fun q hq => h q (by simp [hq])
    simp only [List.flatMap_cons, List.length_append, List.length_cons]
    omega
theorem expK_size {ps : List Pg} (h : imageF ps = 0) (k : Nat) : (expK ps k).size ≤ 3000 := by
  unfold expK expL
  rw [txt_size, List.length_append]
  have h1 := flat_lenX (ps.take k) fun p hp => imgF_all ps none h p (List.mem_of_mem_take hp)
  have h2 := image_len h
  have h3 := List.length_take_le k ps
  have h4 : (ps.take k).length ≤ ps.length := by simp; omega
  simp only [sOpen, List.length_cons, List.length_nil]
  omega
theorem expK_succ (ps : List Pg) (k : Nat) (hk : k < ps.length) : expK ps k ++ (putS (ps.getD k default).at_ (ps.getD k default).r ++ heldS (ps.getD k default).at_ (ps.getD k default).ws) = expK ps (k + 1) := by
  unfold expK expL putS heldS
  rw [txt_append, txt_append, List.take_succ_eq_append_getElem hk, List.flatMap_append]
  have e : ps[k] = ps.getD k default := by simp [List.getD_eq_getElem?_getD, hk]
  rw [e]
  simp [pageL]
theorem expK_end (ps : List Pg) : expK ps ps.length = txt (expL ps) := by
  unfold expK; rw [List.take_of_length_le (Nat.le_refl _)]
theorem put_size (p r : Int) (h1 : inB p 0 7 = true) (h2 : inB r 0 7 = true) : (putS p r).size ≤ 49 := by
  unfold putS; rw [txt_size]
  have b1 := inB_iff.1 h1
  have b2 := inB_iff.1 h2
  have := entryL_len sPage [p, r] fun n hn => by
    simp at hn
    rcases hn with rfl | rfl <;> exact wf_of (by omega)
  simpa [sPage] using this
theorem held_size (p : Int) (ws : List Int) (h1 : inB p 0 7 = true) (h2 : mayW ws = true) : (heldS p ws).size ≤ 204 := by
  unfold heldS; rw [txt_size]
  have b1 := inB_iff.1 h1
  obtain ⟨hl, ha⟩ := mayW_iff.1 h2
  have := entryL_len sWords (p :: ws) fun n hn => by
    rcases List.mem_cons.1 hn with rfl | hn
    · exact wf_of (by omega)
    · exact wf_of (ha n hn)
  simp only [sWords, List.length_cons, List.length_nil] at this
  simp only [sWords]
  omega

theorem opened_anyX (w : World) (ht : Tab w) : Calls Tryz.prog 88 #[] w fun e w' => e = .returned (.string ⟨#[111, 112, 101, 110, 59]⟩) ∧ Below w.heap.size w w' := by
  have h := entry_any ⟨#[111, 112, 101, 110]⟩ none [] 0 w (by decide) (by decide) (.inl rfl) (fun n hn => absurd hn (by simp)) ht
  go_enter Tryz.func88, Tryz.ntmps88
  go_wp2_with (go_at_call 123; go_must (refine h.mono ?_); rintro e w1 ⟨rfl, hb⟩)
  go_ret
  exact ⟨rfl, hb⟩

set_option maxHeartbeats 4000000 in
theorem expect_any (a : Option Addr) (ps : List Pg) (cap : Nat) (w : World) (hl : ps.length ≤ maxLen) (hx : PagesAt w a ps) (ht : Tab w) :
    Calls Tryz.prog 33 #[.slice a ps.length cap] w fun e w' => e = .returned (expV ps) ∧ Below w.heap.size w w' := by
  have hC := check_any a ps cap w hl hx
  unfold expV
  by_cases hz : imageF ps = 0
  · rw [if_pos hz]
    rw [hz] at hC
    have hO := fun w' (h : Below w.heap.size w w') => opened_anyX w' (ht.below h)
    have HZ : Hid (imageF ps = 0) := hz
    have HX : Hid (PagesAt w a ps) := hx
    have HT : Hid (Tab w) := ht
    have hlen : ps.length ≤ 8 := image_len hz
    clear hx ht hl hz
    go_enter Tryz.func33, Tryz.ntmps33
    go_wp2_with (first | (go_at_call 68; go_must (refine hC.mono ?_); rintro e w1 ⟨rfl, hb1⟩) | (go_at_call 88; go_must (refine (hO _ hb1).mono ?_); rintro e w2 ⟨rfl, hb2⟩))
    clear hC hO
    go_loopw [5, 20] (fun s i wr => ∃ k : Nat, k ≤ ps.length ∧ i = .int .i64 k ∧ s = .string (expK ps k) ∧ Below w.heap.size w wr) (fun _ i _ => ps.length - (intOf i).toNat)
    case atStart => exact ⟨0, Nat.zero_le _, rfl, rfl, hb1.trans (hb2.mono hb1.size)⟩
    case round =>
      obtain ⟨k, hk, rfl, rfl, hbel⟩ := hrel
      clear hb1 hb2
      have hsz := expK_size HZ.out k
      by_cases hlt : k < ps.length
      · have hX := HX.out.below hbel
        rcases HX.out.at_ with rfl | ⟨b, off, rfl, _⟩
        · simp at hlt
        · obtain ⟨c0, c1, c2⟩ := hX.cells hlt
          have hok := hX.ok k hlt
          have hf := imgF_all ps none HZ.out (ps.getD k default) (by simp [List.getD_eq_getElem?_getD, hlt])
          have HN : Hid _ := expK_succ ps k hlt
          obtain ⟨P, hP⟩ : ∃ P, ps.getD k default = P := ⟨_, rfl⟩
          rw [hP] at c0 c1 c2 hok hf HN
          obtain ⟨pat, pr, pa, pws, pcap⟩ := P
          obtain ⟨f1, f2, f3⟩ := Pg.f_zero hf
          dsimp only at c0 c1 c2 f1 f2 f3 HN
          have gA := fun w' (h : Below wr.heap.size wr w') => added_any pat pr w' hok.wat hok.wr (HT.out.below (hbel.trans (h.mono hbel.size)))
          have gH := fun w' (h : Below wr.heap.size wr w') => held_any pat pa pws pcap w' hok.wat hok.len (hok.ints.below h) (HT.out.below (hbel.trans (h.mono hbel.size)))
          simp only [f1, f2, f3, heldV, Bool.and_self, if_true] at gA gH
          have s1 := put_size pat pr f1 f2
          have s2 := held_size pat pws f1 f3
          generalize putS pat pr = SP at gA s1 HN
          generalize heldS pat pws = SH at gH s2 HN
          generalize expK ps k = SE at hsz HN ⊢
          clear hP hf hok hX f1 f2 f3 HX
          go_wp2_with (first
            | (go_at_call 89; go_must (refine (gA _ ((Below.refl _ _).alloc (Nat.le_refl _) _)).mono ?_); rintro e w3 ⟨rfl, hb3⟩; obtain ⟨hc3, hf3⟩ := bcell hb3)
            | (go_at_call 90; go_must (refine (gH _ (((Below.refl _ _).alloc (Nat.le_refl _) _).trans (hb3.mono (by simp)))).mono ?_); rintro e w4 ⟨rfl, hb4⟩))
          go_roundw
          case rel =>
            have hs3 := hb3.size
            refine ⟨k + 1, by omega, by go_num, by rw [← HN.out], hbel.trans (((((Below.refl _ _).alloc (Nat.le_refl _) _).trans (hb3.mono (by simp))).trans (hb4.mono (by simp at hs3; omega))).mono hbel.size)⟩
          case measure => simp [intOf]; omega
      · have hkl : k = ps.length := by omega
        subst hkl
        have HE : Hid (expK ps ps.length = txt (expL ps)) := expK_end ps
        generalize expK ps ps.length = T at HE hsz ⊢
        clear HX
        go_wp2
        go_ret2
        exact ⟨by rw [← HE.out]; rfl, hbel⟩
  · rw [if_neg hz]
    have hz1 : (imageF ps != 0) = true := by simpa using hz
    generalize imageF ps = z at hC hz hz1 ⊢
    clear hx ht hl
    go_enter Tryz.func33, Tryz.ntmps33
    go_wp2_with (go_at_call 68; go_must (refine hC.mono ?_); rintro e w1 ⟨rfl, hb1⟩)
    go_ret2
    exact ⟨rfl, hb1⟩

end Go.Proofs.YtdngbojbpmdegaaGreatDoor
