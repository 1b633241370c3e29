/-
  What the call PageFault (riddleref) answers for every page: what the page is refused for, as CheckPage (image); it turns nothing that was in memory. The condition: the words' cells are there. How an argument that is a page, or a list of pages, is read out of memory (own work): for every such reading there are its numbers, its words, and their cells. No condition. What the calls Check (image) and ImageFault (riddleref) answer for every list of pages: both answer what the image is refused for, and turn nothing that was in memory. What an image that may be is like (own work): its pages may be, it has at most eight, each of eight words. The condition: nothing is wrong with it. What the calls Expect (image) and ExpectedOf (riddleref) answer, for every list of pages: both the same text and the same error number; nothing that was in memory turns. Two images that may be are measured the same only if their pages hold the same (own work, plain mathematics of the measured text). The condition: nothing is wrong with either. What becomes of a new machine (own work): the steps of PagesApart and of StartsClose, reckoned. No condition but the numbers' bounds. What was measured of an enclave tells just what is in it (own work): whatever who owns the machine did, the log of an enclave that never ran is the row of its pages and of words that its pages hold still. No condition. What the call Copy (image) answers for every list of pages: a list in new memory whose pages hold the same; nothing that was in memory turns. The condition: the list and each page's words are within the reach of the form (fewer than 2^47 bytes). What the call Copy (image) answers, said more closely: the new list and each page's words lie in blocks of their own, apart from one another; and what a store into one of them makes of the list. The condition: as Copy's.
-/
import Derived.Test.YtdngbojbpmdegaaGreatDoorJIdxBase
import Derived.Test.YtdngbojbpmdegaaGreatDoorJMach
import Derived.Lib.SmallJoins
import Derived.Deep.Slices
import Derived.Deep.Strs
import Derived.SizedLaws
import Derived.Deep.QuietTactic
import Derived.BigQuiet
import Derived.Outline
import Derived.Test.YtdngbojbpmdegaaGreatDoorJPutMath
import Derived.Deep.RegionHeld3
import Derived.Test.YtdngbojbpmdegaaGreatDoorJHostMath
import Derived.Deep.OwnRows
import Derived.Laws.CopyOwn
namespace Go.Proofs.YtdngbojbpmdegaaGreatDoor
open Go.RowKit

end Go.Proofs.YtdngbojbpmdegaaGreatDoor

namespace Go.Proofs.YtdngbojbpmdegaaGreatDoor
open Go.ChangeShapes Go.WideShapes Go.ChangeAt Go.RowKit Go.Joins
set_option maxRecDepth 100000

/-- A page that came in: its numbers, and where its words are. -/
structure Pg where
  at_ : Int
  r : Int
  a : Option Addr
  ws : List Int
  cap : Nat
instance : Inhabited Pg := ⟨⟨0, 0, none, [], 0⟩⟩
def Pg.val (p : Pg) : Value := .agg #[.int .i64 p.at_, .int .i64 p.r, .slice p.a p.ws.length p.cap]
structure Pg.Ok (w : World) (p : Pg) : Prop where
  wat : (Lit.int .i64 p.at_).wf = true
  wr : (Lit.int .i64 p.r).wf = true
  len : p.ws.length ≤ maxLen
  ints : Ints w p.a p.ws
  wws : ∀ n ∈ p.ws, (Lit.int .i64 n).wf = true
/-- A list of pages that came in: where it has elements it leads to their cells, three a page. -/
structure PagesAt (w : World) (a : Option Addr) (ps : List Pg) : Prop where
  at_ : ps = [] ∨ ∃ b off, a = some ⟨b, off, none⟩ ∧ ∀ j, j < ps.length → w.cell? ⟨b, off + j * 3, none⟩ = some (.int .i64 (ps.getD j default).at_) ∧
    w.cell? ⟨b, off + j * 3 + 1, none⟩ = some (.int .i64 (ps.getD j default).r) ∧ w.cell? ⟨b, off + j * 3 + 2, none⟩ = some (.slice (ps.getD j default).a (ps.getD j default).ws.length (ps.getD j default).cap)
  ok : ∀ j, j < ps.length → (ps.getD j default).Ok w

end Go.Proofs.YtdngbojbpmdegaaGreatDoor

namespace Go.Proofs.YtdngbojbpmdegaaGreatDoor
open Go.RowKit

/-- what a page is refused for -/
def Pg.f (p : Pg) : Int := pageF p.at_ p.r p.ws
/-- what is wrong with the rest of an image (0: nothing), behind a page at a place -/
def imgF : Option Int → List Pg → Int
  | _, [] => 0
  | none, p :: l => if p.f = 0 then imgF (some p.at_) l else p.f
  | some q, p :: l => if p.f = 0 then (if p.at_ ≤ q then 12 else imgF (some p.at_) l) else p.f
/-- the place of the page ahead of number k -/
def prev (ps : List Pg) (k : Nat) : Option Int := if k = 0 then none else some (ps.getD (k - 1) default).at_
def imageF (ps : List Pg) : Int := imgF none ps

theorem drop_at (ps : List Pg) (k : Nat) (h : k < ps.length) : ps.drop k = ps.getD k default :: ps.drop (k + 1) := by
  rw [List.drop_eq_getElem_cons h]; simp [List.getD_eq_getElem?_getD, h]
theorem imgF_bad (ps : List Pg) (k : Nat) (h : k < ps.length) (hz : ¬ (ps.getD k default).f = 0) : imgF (prev ps k) (ps.drop k) = (ps.getD k default).f := by
  rw [drop_at ps k h]
  cases prev ps k <;> simp only [imgF, if_neg hz]
theorem imgF_first (ps : List Pg) (h : 0 < ps.length) (hz : (ps.getD 0 default).f = 0) : imgF (prev ps 0) (ps.drop 0) = imgF (prev ps (0 + 1)) (ps.drop (0 + 1)) := by
  rw [drop_at ps 0 h]
  simp only [prev, imgF, if_pos hz, if_true]
  simp
theorem imgF_order (ps : List Pg) (k : Nat) (h : k < ps.length) (h0 : 0 < k) (hz : (ps.getD k default).f = 0) (hq : (ps.getD k default).at_ ≤ (ps.getD (k - 1) default).at_) : imgF (prev ps k) (ps.drop k) = 12 := by
  rw [drop_at ps k h, prev, if_neg (by omega)]
  simp only [imgF, if_pos hz, if_pos hq]
theorem imgF_next (ps : List Pg) (k : Nat) (h : k < ps.length) (h0 : 0 < k) (hz : (ps.getD k default).f = 0) (hq : ¬ (ps.getD k default).at_ ≤ (ps.getD (k - 1) default).at_) : imgF (prev ps k) (ps.drop k) = imgF (prev ps (k + 1)) (ps.drop (k + 1)) := by
  rw [drop_at ps k h, prev, if_neg (by omega)]
  simp only [imgF, if_pos hz, if_neg hq]
  simp [prev]
theorem imgF_end (ps : List Pg) : imgF (prev ps ps.length) (ps.drop ps.length) = 0 := by
  rw [List.drop_length]
  cases prev ps ps.length <;> rfl

theorem Pg.Ok.below {w w' : World} {p : Pg} (h : p.Ok w) (hb : Below w.heap.size w w') : p.Ok w' := ⟨h.wat, h.wr, h.len, h.ints.below hb, h.wws⟩
theorem PagesAt.below {w w' : World} {a : Option Addr} {ps : List Pg} (h : PagesAt w a ps) (hb : Below w.heap.size w w') : PagesAt w' a ps := by
  refine ⟨?_, fun j hj => (h.ok j hj).below hb⟩
  rcases h.at_ with h | ⟨b, off, h1, h2⟩
  · exact .inl h
  · refine .inr ⟨b, off, h1, fun j hj => ?_⟩
    obtain ⟨c0, c1, c2⟩ := h2 j hj
    exact ⟨(hb.cell (p := ⟨b, _, none⟩) (lt_of_cell c0)).trans c0, (hb.cell (p := ⟨b, _, none⟩) (lt_of_cell c1)).trans c1, (hb.cell (p := ⟨b, _, none⟩) (lt_of_cell c2)).trans c2⟩

theorem PagesAt.cells {w : World} {b off : Nat} {ps : List Pg} (h : PagesAt w (some ⟨b, off, none⟩) ps) {j : Nat} (hj : j < ps.length) :
    w.cell? ⟨b, off + j * 3, none⟩ = some (.int .i64 (ps.getD j default).at_) ∧ w.cell? ⟨b, off + j * 3 + 1, none⟩ = some (.int .i64 (ps.getD j default).r) ∧
      w.cell? ⟨b, off + j * 3 + 2, none⟩ = some (.slice (ps.getD j default).a (ps.getD j default).ws.length (ps.getD j default).cap) := by
  rcases h.at_ with rfl | ⟨b', off', h1, h2⟩
  · simp at hj
  · simp at h1
    obtain ⟨rfl, rfl⟩ := h1
    exact h2 j hj

theorem round_below {w wr w1 : World} {o : Obj} (h : Below w.heap.size w wr) (hb : Below (wr.alloc o).heap.size (wr.alloc o) w1) (n : Nat) : Below w.heap.size w (w1.drewN n) :=
  below_drewN (h.trans ((((Below.refl _ _).alloc (Nat.le_refl _) _).trans (hb.mono (by simp))).mono h.size)) n

set_option maxHeartbeats 800000 in
theorem check_any (a : Option Addr) (ps : List Pg) (cap : Nat) (w : World) (hl : ps.length ≤ maxLen) (hx : PagesAt w a ps) :
    Calls Tryz.prog 68 #[.slice a ps.length cap] w fun e w' => e = .returned (.int .i64 (imageF ps)) ∧ Below w.heap.size w w' := by
  unfold maxLen at hl
  rcases hx.at_ with rfl | ⟨b, off, rfl, hc⟩
  · clear hx
    go_enter Tryz.func68, Tryz.ntmps68
    go_wp2
    refine wp_loop_rounds 1 ?_
    rw [rounds_succ]
    go_wp2
    go_ret
    exact ⟨rfl, Below.refl _ _⟩
  · clear hc
    go_enter Tryz.func68, Tryz.ntmps68
    go_wp2
    go_loopw [8] (fun i wr => ∃ k : Nat, k ≤ ps.length ∧ i = .int .i64 k ∧ Below w.heap.size w wr ∧ Hid (imageF ps = imgF (prev ps k) (ps.drop k))) (fun i _ => ps.length - (intOf i).toNat)
    case atStart => exact ⟨0, Nat.zero_le _, rfl, Below.refl _ _, rfl⟩
    case round =>
      obtain ⟨k, hk, rfl, hbel, hid⟩ := hrel
      have hX := hx.below hbel
      by_cases hlt : k < ps.length
      · rcases hX.at_ with rfl | ⟨b', off', hab, hc⟩
        · simp at hlt
        · simp at hab
          obtain ⟨rfl, rfl⟩ := hab
          obtain ⟨c0, c1, c2⟩ := hc k hlt
          have hpre : 0 < k → wr.cell? ⟨b, off + (k - 1) * 3, none⟩ = some (.int .i64 (ps.getD (k - 1) default).at_) := fun _ => (hc (k - 1) (by omega)).1
          have hok := hX.ok k hlt
          obtain ⟨P, hP⟩ : ∃ P, ps.getD k default = P := ⟨_, rfl⟩
          obtain ⟨q, hq⟩ : ∃ q, (ps.getD (k - 1) default).at_ = q := ⟨_, rfl⟩
          rw [hP] at c0 c1 c2 hok
          rw [hq] at hpre
          have HP : Hid (ps.getD k default = P) := hP
          have HQ : Hid ((ps.getD (k - 1) default).at_ = q) := hq
          clear hP hq hc hx hX
          obtain ⟨pat, pr, pa, pws, pcap⟩ := P
          have hcall := fun w' (h : Below wr.heap.size wr w') => checkPage_any pat pr pa pws pcap w' hok.wr hok.len (hok.ints.below h)
          have HF : Hid ((Pg.mk pat pr pa pws pcap).f = pageF pat pr pws) := rfl
          clear hok
          dsimp only at c0 c1 c2
          generalize pageF pat pr pws = z at hcall HF
          by_cases hz : z = 0
          · subst hz
            by_cases hk0 : k = 0
            · subst hk0
              clear hpre
              simp at c0 c1 c2
              go_wp2_with (go_at_call 115; go_must (refine (hcall _ ((Below.refl _ _).alloc (Nat.le_refl _) _)).mono ?_); rintro e w1 ⟨rfl, hb⟩; obtain ⟨hc, hf⟩ := bcell hb)
              go_quiet (fail)
              go_wp2
              go_roundw
              case rel => exact ⟨0 + 1, by omega, by go_num, round_below hbel hb _, by rw [hid.out, imgF_first ps hlt (by rw [HP.out]; exact HF.out)]; exact rfl⟩
              case measure => simp [intOf]; omega
            · have hk1 : (0 : Int) < (k : Int) := by omega
              have hk2 : 0 < k := by omega
              have hp := hpre hk2
              clear hpre
              go_wp2_with (go_at_call 115; go_must (refine (hcall _ ((Below.refl _ _).alloc (Nat.le_refl _) _)).mono ?_); rintro e w1 ⟨rfl, hb⟩; obtain ⟨hc, hf⟩ := bcell hb)
              have hpw : w1.cell? ⟨b, off + (k - 1) * 3, none⟩ = some (.int .i64 q) := by
                rw [hc _ _ (by have := lt_of_cell hp; simp at this; simp; omega), World.cell?_alloc_past _ _ _ (by have := lt_of_cell hp; simpa using this)]; exact hp
              by_cases hle : pat ≤ q
              · go_quiet (fail)
                go_wp2
                go_ret
                exact ⟨ret_int (by rw [hid.out, imgF_order ps k hlt hk2 (by rw [HP.out]; exact HF.out) (by rw [HP.out, HQ.out]; exact hle)]), round_below hbel hb _⟩
              · go_quiet (fail)
                go_wp2
                go_roundw
                case rel => exact ⟨k + 1, by omega, by go_num, round_below hbel hb _, by rw [hid.out, imgF_next ps k hlt hk2 (by rw [HP.out]; exact HF.out) (by rw [HP.out, HQ.out]; exact hle)]; exact rfl⟩
                case measure => simp [intOf]; omega
          · have hz1 : (z != 0) = true := by simpa using hz
            clear hpre
            go_wp2_with (go_at_call 115; go_must (refine (hcall _ ((Below.refl _ _).alloc (Nat.le_refl _) _)).mono ?_); rintro e w1 ⟨rfl, hb⟩; obtain ⟨hc, hf⟩ := bcell hb)
            go_ret
            exact ⟨ret_int (by rw [hid.out, imgF_bad ps k hlt (by rw [HP.out, HF.out]; exact hz), HP.out, HF.out]), round_below hbel hb 0⟩
      · have hkl : k = ps.length := by omega
        subst hkl
        go_wp2
        go_ret
        exact ⟨ret_int (by rw [hid.out, imgF_end]), hbel⟩

end Go.Proofs.YtdngbojbpmdegaaGreatDoor

namespace Go.Proofs.YtdngbojbpmdegaaGreatDoor
open Go.RowKit

theorem pf_zero {a b c : Bool} (h : pf a b c = 0) : a = true ∧ b = true ∧ c = true := by
  cases a <;> cases b <;> cases c <;> simp [pf] at h ⊢
theorem Pg.f_zero {p : Pg} (h : p.f = 0) : inB p.at_ 0 7 = true ∧ inB p.r 0 7 = true ∧ mayW p.ws = true := pf_zero h
theorem imgF_all : ∀ (ps : List Pg) (o : Option Int), imgF o ps = 0 → ∀ p ∈ ps, p.f = 0
  | [], _, _, p, hp => by simp at hp
  | q :: l, o, h, p, hp => by
    have hq : q.f = 0 := by
      cases o with
      | none => by_cases e : q.f = 0; exact e; simp [imgF, e] at h
      | some z => by_cases e : q.f = 0; exact e; simp [imgF, e] at h
    have hl : imgF (some q.at_) l = 0 := by
      cases o with
      | none => simpa [imgF, hq] using h
      | some z =>
        by_cases e : q.at_ ≤ z
        · simp [imgF, hq, e] at h
        · simpa [imgF, hq, e] using h
    rcases List.mem_cons.1 hp with rfl | hp
    · exact hq
    · exact imgF_all l _ hl p hp
theorem imgF_len_some : ∀ (l : List Pg) (q : Int), q ≤ 7 → imgF (some q) l = 0 → (l.length : Int) ≤ 7 - q
  | [], q, hq, _ => by simp; omega
  | p :: l, q, hq, h => by
    have hp := imgF_all (p :: l) _ h p (by simp)
    have hb := inB_iff.1 (Pg.f_zero hp).1
    by_cases e : p.at_ ≤ q
    · simp [imgF, hp, e] at h
    · have hl : imgF (some p.at_) l = 0 := by simpa [imgF, hp, e] using h
      have := imgF_len_some l p.at_ hb.2 hl
      simp
      omega
theorem image_len {ps : List Pg} (h : imageF ps = 0) : ps.length ≤ 8 := by
  unfold imageF at h
  match ps, h with
  | [], _ => simp
  | p :: l, h =>
    have hp := imgF_all (p :: l) _ h p (by simp)
    have hb := inB_iff.1 (Pg.f_zero hp).1
    have hl : imgF (some p.at_) l = 0 := by simpa [imgF, hp] using h
    have := imgF_len_some l p.at_ hb.2 hl
    simp
    omega
theorem image_words {ps : List Pg} (h : imageF ps = 0) (j : Nat) (hj : j < ps.length) : (ps.getD j default).ws.length = 8 := by
  have := imgF_all ps none h (ps.getD j default) (by simp [List.getD_eq_getElem?_getD, hj])
  exact (mayW_iff.1 (Pg.f_zero this).2.2).1

theorem keep_cell {w w' : World} {a : Addr} {v : Value} (hb : Below w.heap.size w w') (h : w.cell? a = some v) : w'.cell? a = some v := (hb.cell (p := a) (lt_of_cell h)).trans h

end Go.Proofs.YtdngbojbpmdegaaGreatDoor

namespace Go.Proofs.YtdngbojbpmdegaaGreatDoor
open Go.RowKit

def sOpen : List UInt8 := [111, 112, 101, 110, 59]
end Go.Proofs.YtdngbojbpmdegaaGreatDoor

namespace Go.Proofs.YtdngbojbpmdegaaGreatDoor
open Go.RowKit

/-- the number that digits tell -/
def val (l : List UInt8) : Nat := l.foldl (fun a c => 10 * a + (c.toNat - 48)) 0
end Go.Proofs.YtdngbojbpmdegaaGreatDoor

namespace Go.Proofs.YtdngbojbpmdegaaGreatDoor
open Go.RowKit

end Go.Proofs.YtdngbojbpmdegaaGreatDoor

namespace Go.Proofs.YtdngbojbpmdegaaGreatDoor
open Go.RowKit

/-- an entry of a log -/
inductive Lg where
  | pg (a r : Int)
  | wd (a : Int) (ws : List Int)
def Lg.bytes : Lg → List UInt8
  | .pg a r => entryL sPage [a, r]
  | .wd a ws => entryL sWords (a :: ws)
def Lg.Pos : Lg → Prop
  | .pg a r => 0 ≤ a ∧ 0 ≤ r
  | .wd a ws => 0 ≤ a ∧ ∀ n ∈ ws, 0 ≤ n
def Lg.isPg : Lg → Bool
  | .pg _ _ => true
  | .wd _ _ => false
/-- whose a frame is -/
def ownB (e : Int) (f : Fr) : Bool := f.o == e
theorem countP_upto {p q : Fr → Bool} {xs ys : List Fr} (hl : xs.length = ys.length) (h : ∀ j, j < xs.length → p (xs.getD j default) = q (ys.getD j default)) : xs.countP p = ys.countP q := by
  have e : xs.map p = ys.map q := by
    apply List.ext_getElem (by simpa using hl)
    intro j h1 h2
    have h3 : j < xs.length := by simpa using h1
    have h4 : j < ys.length := by simpa using h2
    have := h j h3
    simpa [List.getD_eq_getElem?_getD, h3, h4] using this
  have e1 : ∀ (zs : List Fr) (r : Fr → Bool), zs.countP r = (zs.map r).countP id := fun zs r => by rw [List.countP_map]; rfl
  rw [e1 xs p, e1 ys q, e]

/-- what the log of an enclave tells, and that it is so -/
structure Logs (M : Mv) (m : Nat) (L : List Lg) : Prop where
  log : (M.ens.getD m default).log = txt (sOpen ++ L.flatMap Lg.bytes)
  pos : ∀ x ∈ L, x.Pos
  pg : ∀ a r, Lg.pg a r ∈ L → ∃ j, j < 24 ∧ (M.frs.getD j default).o = (m : Int) + 1 ∧ (M.frs.getD j default).at_ = a ∧ (M.frs.getD j default).r = r
  wd : ∀ a ws, Lg.wd a ws ∈ L → ∃ j, j < 24 ∧ (M.frs.getD j default).o = (m : Int) + 1 ∧ (M.frs.getD j default).at_ = a ∧ (M.frs.getD j default).ws = ws
  cnt : M.frs.countP (ownB ((m : Int) + 1)) = L.countP Lg.isPg
/-- no frame of it is another one -/
def Kept (M M' : Mv) (m : Nat) : Prop := ∀ j, j < 24 → (M.frs.getD j default).o = (m : Int) + 1 ∨ (M'.frs.getD j default).o = (m : Int) + 1 → M'.frs.getD j default = M.frs.getD j default
theorem kept_count {M M' : Mv} {m : Nat} (h1 : M.frs.length = 24) (h2 : M'.frs.length = 24) (hk : Kept M M' m) : M'.frs.countP (ownB ((m : Int) + 1)) = M.frs.countP (ownB ((m : Int) + 1)) := by
  refine countP_upto (by rw [h1, h2]) fun j hj => ?_
  have hk' := hk j (by omega)
  unfold ownB
  by_cases c : (M.frs.getD j default).o = (m : Int) + 1
  · rw [hk' (.inl c)]
  · by_cases c' : (M'.frs.getD j default).o = (m : Int) + 1
    · rw [hk' (.inr c')]
    · rw [beq_eq_false_iff_ne.2 c, beq_eq_false_iff_ne.2 c']
theorem Logs.keep {M M' : Mv} {m : Nat} {L : List Lg} (h : Logs M m L) (h1 : M.frs.length = 24) (h2 : M'.frs.length = 24) (hl : (M'.ens.getD m default).log = (M.ens.getD m default).log) (hk : Kept M M' m) : Logs M' m L := by
  refine ⟨hl.trans h.log, h.pos, fun a r hx => ?_, fun a ws hx => ?_, (kept_count h1 h2 hk).trans h.cnt⟩
  · obtain ⟨j, hj, e1, e2, e3⟩ := h.pg a r hx
    have e := hk j hj (.inl e1)
    exact ⟨j, hj, by rw [e]; exact e1, by rw [e]; exact e2, by rw [e]; exact e3⟩
  · obtain ⟨j, hj, e1, e2, e3⟩ := h.wd a ws hx
    have e := hk j hj (.inl e1)
    exact ⟨j, hj, by rw [e]; exact e1, by rw [e]; exact e2, by rw [e]; exact e3⟩

end Go.Proofs.YtdngbojbpmdegaaGreatDoor

namespace Go.Proofs.YtdngbojbpmdegaaGreatDoor
open Go.RowKit

/-- two pages hold the same -/
def Pg.Same (q p : Pg) : Prop := q.at_ = p.at_ ∧ q.r = p.r ∧ q.ws = p.ws
theorem Ints.blocks {w w' : World} {a : Option Addr} {xs : List Int} {B : Nat} (h : Ints w a xs) (ha : ∀ b off s, a = some ⟨b, off, s⟩ → b ≠ B) (hb : ∀ b, b < w.heap.size → b ≠ B → w'.heap[b]? = w.heap[b]?) : Ints w' a xs := by
  rcases h with h | ⟨b, off, h1, h2⟩
  · exact .inl h
  · exact .inr ⟨b, off, h1, fun j hj => (World.cell?_of_block (w := w) (hb b (lt_of_cell (h2 j hj)) (ha b off none h1))).trans (h2 j hj)⟩
theorem Pg.Ok.blocks {w w' : World} {p : Pg} {B : Nat} (h : p.Ok w) (ha : ∀ b off s, p.a = some ⟨b, off, s⟩ → b ≠ B) (hb : ∀ b, b < w.heap.size → b ≠ B → w'.heap[b]? = w.heap[b]?) : p.Ok w' :=
  ⟨h.wat, h.wr, h.len, h.ints.blocks ha hb, h.wws⟩

/-- the words of a page as cells -/
def wcells (ws : List Int) : List Value := ws.map (Value.int .i64)
theorem wcells_get (ws : List Int) (j : Nat) (h : j < ws.length) : (wcells ws)[j]? = some (.int .i64 (ws.getD j 0)) := by
  simp [wcells, h, List.getD_eq_getElem?_getD]

/-- the world behind the stores of a round, ahead of the copying of the words -/
def W7 (wr : World) (B k : Nat) (pat pr : Int) (pa : Option Addr) (pws : List Int) (pcap : Nat) : World :=
  (((((wr.setCell ⟨B, k * 3, none⟩ (.int .i64 pat)).setCell ⟨B, k * 3 + 1, none⟩ (.int .i64 pr)).setCell ⟨B, k * 3 + 2, none⟩ (.slice pa pws.length pcap)).setCell ⟨B, k * 3 + 2, none⟩ (.slice (some ⟨wr.heap.size + 1, 0, none⟩) pws.length pws.length)).alloc
    (.cells #[.int .i64 pat, .int .i64 pr, .slice pa pws.length pcap] 116)).alloc (.cells (madeCells #[.int .i64 0] pws.length) 3)

end Go.Proofs.YtdngbojbpmdegaaGreatDoor

namespace Go.Proofs.YtdngbojbpmdegaaGreatDoor
open Go.RowKit

/-- a list of pages in a block of its own, each page's words in a block of their own -/
structure OwnedP (w : World) (B : Nat) (qs : List Pg) : Prop where
  row : ∃ F, w.rowIs B 116 (qs.length * 3) F ∧ ∀ j, j < qs.length → F (j * 3) = .int .i64 (qs.getD j default).at_ ∧ F (j * 3 + 1) = .int .i64 (qs.getD j default).r ∧ F (j * 3 + 2) = .slice (qs.getD j default).a (qs.getD j default).ws.length (qs.getD j default).cap
  own : ∀ j, j < qs.length → ∃ g, (qs.getD j default).a = some ⟨g, 0, none⟩ ∧ B < g ∧ w.heap[g]? = some (.cells (wcells (qs.getD j default).ws).toArray 3 (0, 0))
  apart : ∀ i j, i < qs.length → j < qs.length → i ≠ j → (qs.getD i default).a ≠ (qs.getD j default).a
  fit : ∀ j, j < qs.length → (Lit.int .i64 (qs.getD j default).at_).wf = true ∧ (Lit.int .i64 (qs.getD j default).r).wf = true ∧ (qs.getD j default).ws.length ≤ maxLen ∧ ∀ n ∈ (qs.getD j default).ws, (Lit.int .i64 n).wf = true

theorem wcells_cell {w : World} {g : Nat} {ws : List Int} (h : w.heap[g]? = some (.cells (wcells ws).toArray 3 (0, 0))) (j : Nat) (hj : j < ws.length) : w.cell? ⟨g, 0 + j, none⟩ = some (.int .i64 (ws.getD j 0)) := by
  have := wcells_get ws j hj
  simp [World.cell?, h, this]
theorem OwnedP.pages {w : World} {B : Nat} {qs : List Pg} (h : OwnedP w B qs) : PagesAt w (some ⟨B, 0, none⟩) qs := by
  obtain ⟨F, hF, hc⟩ := h.row
  refine ⟨.inr ⟨B, 0, rfl, fun j hj => ?_⟩, fun j hj => ?_⟩
  · obtain ⟨s1, s2, s3⟩ := hc j hj
    have r0 := hF.cell (i := j * 3) (by omega)
    have r1 := hF.cell (i := j * 3 + 1) (by omega)
    have r2 := hF.cell (i := j * 3 + 2) (by omega)
    rw [s1] at r0
    rw [s2] at r1
    rw [s3] at r2
    simp only [Nat.zero_add]
    exact ⟨r0, r1, r2⟩
  · obtain ⟨f1, f2, f3, f4⟩ := h.fit j hj
    obtain ⟨g, hg, _, hh⟩ := h.own j hj
    exact ⟨f1, f2, f3, .inr ⟨g, 0, hg, fun i hi => wcells_cell hh i hi⟩, f4⟩

theorem getD_set_eq (qs : List Pg) (j : Nat) (p : Pg) (hj : j < qs.length) : (qs.set j p).getD j default = p := by simp [List.getD_eq_getElem?_getD, hj]
theorem getD_set_ne (qs : List Pg) (i j : Nat) (p : Pg) (h : i ≠ j) : (qs.set j p).getD i default = qs.getD i default := by
  simp [List.getD_eq_getElem?_getD, List.getElem?_set_ne (Ne.symm h)]

/-- a right is another one -/
theorem OwnedP.right {w : World} {B : Nat} {qs : List Pg} (h : OwnedP w B qs) (j : Nat) (hj : j < qs.length) (r : Int) (hr : (Lit.int .i64 r).wf = true) :
    PagesAt (w.setCell ⟨B, j * 3 + 1, none⟩ (.int .i64 r)) (some ⟨B, 0, none⟩) (qs.set j ⟨(qs.getD j default).at_, r, (qs.getD j default).a, (qs.getD j default).ws, (qs.getD j default).cap⟩) := by
  obtain ⟨F, hF, hc⟩ := h.row
  refine OwnedP.pages (B := B) ⟨⟨_, by simpa using hF.set (j * 3 + 1) (.int .i64 r), fun i hi => ?_⟩, fun i hi => ?_, fun i k hi hk hik => ?_, fun i hi => ?_⟩
  · have hi' : i < qs.length := by simpa using hi
    obtain ⟨s1, s2, s3⟩ := hc i hi'
    by_cases e : i = j
    · subst e
      rw [getD_set_eq _ _ _ hj]
      simp [s1, s3]
    · rw [getD_set_ne _ _ _ _ e, if_neg (by omega), if_neg (by omega), if_neg (by omega)]
      exact ⟨s1, s2, s3⟩
  · have hi' : i < qs.length := by simpa using hi
    obtain ⟨g, g1, g2, g3⟩ := h.own i hi'
    have keep : (w.setCell ⟨B, j * 3 + 1, none⟩ (.int .i64 r)).heap[g]? = w.heap[g]? := Go.Deep.blk_setCell_other _ _ _ _ (by simp; omega)
    by_cases e : i = j
    · subst e
      rw [getD_set_eq _ _ _ hj]
      exact ⟨g, g1, g2, keep.trans g3⟩
    · rw [getD_set_ne _ _ _ _ e]
      exact ⟨g, g1, g2, keep.trans g3⟩
  · have hi' : i < qs.length := by simpa using hi
    have hk' : k < qs.length := by simpa using hk
    have key : ∀ x, x < qs.length → ((qs.set j ⟨(qs.getD j default).at_, r, (qs.getD j default).a, (qs.getD j default).ws, (qs.getD j default).cap⟩).getD x default).a = (qs.getD x default).a := fun x hx => by
      by_cases e : x = j
      · subst e; rw [getD_set_eq _ _ _ hj]
      · rw [getD_set_ne _ _ _ _ e]
    rw [key i hi', key k hk']
    exact h.apart i k hi' hk' hik
  · have hi' : i < qs.length := by simpa using hi
    obtain ⟨f1, f2, f3, f4⟩ := h.fit i hi'
    by_cases e : i = j
    · subst e
      rw [getD_set_eq _ _ _ hj]
      exact ⟨f1, hr, f3, f4⟩
    · rw [getD_set_ne _ _ _ _ e]
      exact ⟨f1, f2, f3, f4⟩

theorem wcells_set (ws : List Int) (k : Nat) (x : Int) : ((wcells ws).toArray.setIfInBounds k (.int .i64 x)) = (wcells (ws.set k x)).toArray := by
  apply Array.ext'
  simp [wcells, List.map_set]

/-- a word is another one -/
theorem OwnedP.word {w : World} {B : Nat} {qs : List Pg} (h : OwnedP w B qs) (j : Nat) (hj : j < qs.length) (g : Nat) (hg : (qs.getD j default).a = some ⟨g, 0, none⟩) (k : Nat) (x : Int) (hx : (Lit.int .i64 x).wf = true) :
    PagesAt (w.setCell ⟨g, k, none⟩ (.int .i64 x)) (some ⟨B, 0, none⟩) (qs.set j ⟨(qs.getD j default).at_, (qs.getD j default).r, (qs.getD j default).a, (qs.getD j default).ws.set k x, (qs.getD j default).cap⟩) := by
  obtain ⟨F, hF, hc⟩ := h.row
  obtain ⟨g', e1, e2, e3⟩ := h.own j hj
  have hgg : g' = g := by rw [hg] at e1; simpa using e1.symm
  subst hgg
  refine OwnedP.pages (B := B) ⟨⟨F, by simpa using hF.setOther (a := ⟨g', k, none⟩) (by simp; omega) (.int .i64 x), fun i hi => ?_⟩, fun i hi => ?_, fun i m hi hm him => ?_, fun i hi => ?_⟩
  · have hi' : i < qs.length := by simpa using hi
    obtain ⟨s1, s2, s3⟩ := hc i hi'
    by_cases e : i = j
    · subst e
      rw [getD_set_eq _ _ _ hj]
      exact ⟨s1, s2, by rw [s3]; simp⟩
    · rw [getD_set_ne _ _ _ _ e]
      exact ⟨s1, s2, s3⟩
  · have hi' : i < qs.length := by simpa using hi
    by_cases e : i = j
    · subst e
      rw [getD_set_eq _ _ _ hj]
      refine ⟨g', hg, e2, ?_⟩
      dsimp only
      rw [← wcells_set]
      simp [World.setCell, Array.getElem?_modify, e3]
    · rw [getD_set_ne _ _ _ _ e]
      obtain ⟨u, u1, u2, u3⟩ := h.own i hi'
      refine ⟨u, u1, u2, (Go.Deep.blk_setCell_other _ _ _ _ ?_).trans u3⟩
      have := h.apart i j hi' hj e
      rw [u1, hg] at this
      intro q
      exact this (by simp at q; rw [q])
  · have hi' : i < qs.length := by simpa using hi
    have hm' : m < qs.length := by simpa using hm
    have key : ∀ y, y < qs.length → ((qs.set j ⟨(qs.getD j default).at_, (qs.getD j default).r, (qs.getD j default).a, (qs.getD j default).ws.set k x, (qs.getD j default).cap⟩).getD y default).a = (qs.getD y default).a := fun y hy => by
      by_cases e : y = j
      · subst e; rw [getD_set_eq _ _ _ hj]
      · rw [getD_set_ne _ _ _ _ e]
    rw [key i hi', key m hm']
    exact h.apart i m hi' hm' him
  · have hi' : i < qs.length := by simpa using hi
    obtain ⟨f1, f2, f3, f4⟩ := h.fit i hi'
    by_cases e : i = j
    · subst e
      rw [getD_set_eq _ _ _ hj]
      refine ⟨f1, f2, by simpa using f3, fun n hn => ?_⟩
      rcases List.mem_or_eq_of_mem_set hn with hn | rfl
      · exact f4 n hn
      · exact hx
    · rw [getD_set_ne _ _ _ _ e]
      exact ⟨f1, f2, f3, f4⟩

end Go.Proofs.YtdngbojbpmdegaaGreatDoor
