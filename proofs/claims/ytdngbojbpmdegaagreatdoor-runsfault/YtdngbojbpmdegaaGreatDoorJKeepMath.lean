/-
  What slices.IndexFunc and slices.ContainsFunc answer at the answers of a script: the first element, or whether there is one, of which the function that is handed in answers true. The condition: what that function answers. Lists of pages that a call itself makes (own work): page behind page, each with its words in memory of integers; and that such a list, its places from 0 on, is an image that may be. No condition. What Image (riddlekeep) answers for every list of raw things: a new list of four to six pages, an image that may be; nothing that was in memory turns. What the calls Expect (image) and ExpectedOf (riddleref) answer, for every list of pages: both the same text and the same error number; nothing that was in memory turns. Two images that may be are measured the same only if their pages hold the same (own work, plain mathematics of the measured text). The condition: nothing is wrong with either. What becomes of a new machine (own work): the steps of PagesApart and of StartsClose, reckoned. No condition but the numbers' bounds.
-/
import Derived.Test.YtdngbojbpmdegaaGreatDoorHostRun
import Derived.Test.YtdngbojbpmdegaaGreatDoorJIdxBase
import Derived.Test.YtdngbojbpmdegaaGreatDoorJSameM
import Derived.Deep.OwnRows
import Derived.Test.YtdngbojbpmdegaaGreatDoorJChecks
import Derived.Deep.RegionHeld3
import Derived.Test.YtdngbojbpmdegaaGreatDoorJHostMath
namespace Go.Proofs.YtdngbojbpmdegaaGreatDoor
open Go.RowKit

set_option maxHeartbeats 800000 in
theorem bui1_index (a : Option Addr) (xs : List (Int × Int)) (cap : Nat) (p : Int × Int → Bool) (w : World) (hl : xs.length ≤ maxLen) (hx : RowsAt w 2 anCells a xs)
    (hp : ∀ j, j < xs.length → ∀ w', Below w.heap.size w w' → Calls Tryz.prog 112 #[.agg #[.int .i64 (xs.getD j default).1, .int .i64 (xs.getD j default).2]] w' fun e w'' => e = .returned (.bool (p (xs.getD j default))) ∧ Below w'.heap.size w' w'') :
    Calls Tryz.prog 122 #[.slice a xs.length cap, .func (.func 112) #[] #[]] w fun e w' => e = .returned (.int .i64 (idxOf p xs)) ∧ Below w.heap.size w w' := by
  unfold maxLen at hl
  rcases hx with rfl | ⟨b, off, rfl, hc⟩
  · clear hp
    go_enter Tryz.func122, Tryz.ntmps122
    go_wp2
    refine wp_loop_rounds 1 ?_
    rw [rounds_succ]
    go_wp2
    go_ret
    exact ⟨rfl, Below.refl _ _⟩
  · go_enter Tryz.func122, Tryz.ntmps122
    go_wp2
    go_loopw [8] (fun i wr => ∃ k : Nat, k ≤ xs.length ∧ i = .int .i64 k ∧ Below w.heap.size w wr ∧ Hid (∀ j, j < k → p (xs.getD j default) = false)) (fun i _ => xs.length - (intOf i).toNat)
    case atStart => exact ⟨0, Nat.zero_le _, rfl, Below.refl _ _, fun j hj => absurd hj (by omega)⟩
    case round =>
      obtain ⟨k, hk, rfl, hbel, hid⟩ := hrel
      by_cases hlt : k < xs.length
      · have k0 := hc k hlt 0 (by omega); have k1 := hc k hlt 1 (by omega)
        have hcall := hp k hlt
        have HP : Hid (xs.getD k default = xs.getD k default) := rfl
        obtain ⟨P, hP⟩ : ∃ P, xs.getD k default = P := ⟨_, rfl⟩
        rw [hP] at k0 k1 hcall
        have HP : Hid (xs.getD k default = P) := hP
        clear hP hc hp
        have HQ : Hid (p P = p P) := rfl
        obtain ⟨cd, nn⟩ := P
        simp only [anCells] at k0 k1
        have bl : b < w.heap.size := lt_of_cell k0
        have l0 : wr.cell? ⟨b, off + k * 2, none⟩ = some (.int .i64 cd) := (hbel.cell (p := ⟨b, _, none⟩) bl).trans k0; have l1 : wr.cell? ⟨b, off + k * 2 + 1, none⟩ = some (.int .i64 nn) := (hbel.cell (p := ⟨b, _, none⟩) bl).trans k1
        clear k0 k1 bl
        obtain ⟨z, hz⟩ : ∃ z, p ⟨cd, nn⟩ = z := ⟨_, rfl⟩
        rw [hz] at hcall
        have HZ : Hid (p (xs.getD k default) = z) := by rw [HP.out]; exact hz
        clear hz HQ
        cases z with
        | false =>
          go_wp2_with (go_at_call 112; refine (hcall _ hbel).mono ?_; rintro e w1 ⟨rfl, hb1⟩)
          go_roundw
          case rel => exact ⟨k + 1, by omega, by go_num, hbel.trans (hb1.mono hbel.size), snoc_false hid HZ.out⟩
          case measure => simp [intOf]; omega
        | true =>
          go_wp2_with (go_at_call 112; refine (hcall _ hbel).mono ?_; rintro e w1 ⟨rfl, hb1⟩)
          go_ret
          exact ⟨ret_int (idxOf_at hlt hid.out HZ.out).symm, hbel.trans (hb1.mono hbel.size)⟩
      · have hkl : k = xs.length := by omega
        subst hkl
        clear hp hc
        go_wp2
        go_ret
        exact ⟨ret_int (idxOf_none hid.out).symm, hbel⟩

theorem bui1_contains (a : Option Addr) (xs : List (Int × Int)) (cap : Nat) (p : Int × Int → Bool) (w : World) (hl : xs.length ≤ maxLen) (hx : RowsAt w 2 anCells a xs)
    (hp : ∀ j, j < xs.length → ∀ w', Below w.heap.size w w' → Calls Tryz.prog 112 #[.agg #[.int .i64 (xs.getD j default).1, .int .i64 (xs.getD j default).2]] w' fun e w'' => e = .returned (.bool (p (xs.getD j default))) ∧ Below w'.heap.size w' w'') :
    Calls Tryz.prog 86 #[.slice a xs.length cap, .func (.func 112) #[] #[]] w fun e w' => e = .returned (.bool (xs.any p)) ∧ Below w.heap.size w w' := by
  have hI := bui1_index a xs cap  p w hl hx hp
  have E := idxOf_any p xs
  generalize idxOf p xs = z at hI E
  rw [← E]
  clear hx hl hp E
  go_enter Tryz.func86, Tryz.ntmps86
  go_wp2_with (go_at_call 122; refine hI.mono ?_; rintro e w' ⟨rfl, hb⟩)
  go_ret
  exact ⟨rfl, hb⟩

theorem bui1_any (x : Int × Int) (w : World) : Calls Tryz.prog 112 #[.agg #[.int .i64 x.1, .int .i64 x.2]] w fun e w' => e = .returned (.bool (x.1 != 0)) ∧ Below w.heap.size w w' := by
  obtain ⟨cd, nn⟩ := x
  dsimp only
  go_enter Tryz.func112, Tryz.ntmps112
  go_wp2
  go_ret
  exact ⟨rfl, (Below.refl _ _).alloc (Nat.le_refl _) _⟩
/-- is there an answer with an error? -/
theorem bui1_errs (a : Option Addr) (xs : List (Int × Int)) (cap : Nat) (w : World) (hl : xs.length ≤ maxLen) (hx : RowsAt w 2 anCells a xs) :
    Calls Tryz.prog 86 #[.slice a xs.length cap, .func (.func 112) #[] #[]] w fun e w' => e = .returned (.bool (xs.any fun x => x.1 != 0)) ∧ Below w.heap.size w w' :=
  bui1_contains a xs cap _ w hl hx fun _ _ w' _ => bui1_any _ w'

end Go.Proofs.YtdngbojbpmdegaaGreatDoor

namespace Go.Proofs.YtdngbojbpmdegaaGreatDoor
open Go.RowKit
set_option maxRecDepth 100000

def Pg.cells (p : Pg) : List Value := [.int .i64 p.at_, .int .i64 p.r, .slice p.a p.ws.length p.cap]
def rowP (l : List Pg) : List Value := l.flatMap Pg.cells
def OwnsP (w : World) (B : Nat) (v : Value) (l : List Pg) : Prop := w.ownsRow B 116 3 v l.length (rowP l)
/-- a page whose eight words lie in a block of integers -/
structure WordsAt (w : World) (p : Pg) : Prop where
  at_ : ∃ g off c fr, p.a = some ⟨g, off, none⟩ ∧ w.heap[g]? = some (.cells c 3 fr) ∧ ∀ j, j < p.ws.length → w.cell? ⟨g, off + j, none⟩ = some (.int .i64 (p.ws.getD j 0))
  len : p.ws.length = 8
  small : Small16 p.ws
theorem WordsAt.block {w w' : World} {p : Pg} (h : WordsAt w p) (hb : ∀ (g : Nat) (c : Array Value) (fr : Nat × Nat), w.heap[g]? = some (Obj.cells c 3 fr) → w'.heap[g]? = w.heap[g]?) : WordsAt w' p := by
  obtain ⟨g, off, c, fr, h1, h2, h3⟩ := h.at_
  exact ⟨⟨g, off, c, fr, h1, (hb g c fr h2).trans h2, fun j hj => (World.cell?_of_block (w := w) (hb g c fr h2)).trans (h3 j hj)⟩, h.len, h.small⟩
theorem lt_of_block {w : World} {g : Nat} {o : Obj} (h : w.heap[g]? = some o) : g < w.heap.size := by
  obtain ⟨hlt, _⟩ := Array.getElem?_eq_some_iff.1 h
  exact hlt
theorem WordsAt.below {w w' : World} {p : Pg} (h : WordsAt w p) (hb : Below w.heap.size w w') : WordsAt w' p := h.block fun g _ _ e => hb.block g (lt_of_block e)
theorem WordsAt.ok {w : World} {p : Pg} (h : WordsAt w p) (h1 : (Lit.int .i64 p.at_).wf = true) (h2 : (Lit.int .i64 p.r).wf = true) : p.Ok w := by
  obtain ⟨g, off, c, fr, e1, e2, e3⟩ := h.at_
  exact ⟨h1, h2, by rw [h.len]; unfold maxLen; omega, .inr ⟨g, off, e1, e3⟩, fun n hn => wf_of (h.small n hn)⟩

/-- a list of pages that the call has made -/
structure ImgAt (w : World) (B : Nat) (v : Value) (ps : List Pg) : Prop where
  own : OwnsP w B v ps
  words : ∀ p ∈ ps, WordsAt w p
theorem ownsP_below {w w' : World} {B : Nat} {v : Value} {l : List Pg} (h : OwnsP w B v l) (hb : Below w.heap.size w w') : OwnsP w' B v l :=
  h.kept (row := none) ⟨hb.os, hb.tape, hb.output, hb.size, fun k hk _ => hb.block k hk⟩ (by cases hv : v.ownBlock <;> simp)
theorem ImgAt.below {w w' : World} {B : Nat} {v : Value} {l : List Pg} (h : ImgAt w B v l) (hb : Below w.heap.size w w') : ImgAt w' B v l :=
  ⟨ownsP_below h.own hb, fun p hp => (h.words p hp).below hb⟩
theorem ImgAt.alloc {w : World} {B : Nat} {v : Value} {l : List Pg} (h : ImgAt w B v l) (o : Obj) : ImgAt (w.alloc o) B v l := h.below ((Below.refl _ _).alloc (Nat.le_refl _) o)
end Go.Proofs.YtdngbojbpmdegaaGreatDoor

namespace Go.Proofs.YtdngbojbpmdegaaGreatDoor
open Go.RowKit
set_option maxRecDepth 100000

/-- the block of a page that is being built -/
def PB (w : World) (P : Nat) (n r : Int) (v : Value) : Prop := w.rowIs P 116 3 (fun j => if j = 0 then .int .i64 n else if j = 1 then .int .i64 r else v)
theorem PB.cell {w : World} {P : Nat} {n r : Int} {v : Value} (h : PB w P n r v) : w.cell? ⟨P, 0, none⟩ = some (.int .i64 n) ∧ w.cell? ⟨P, 1, none⟩ = some (.int .i64 r) ∧ w.cell? ⟨P, 2, none⟩ = some v ∧ w.frozen? ⟨P, 2, none⟩ = false :=
  ⟨World.rowIs.cell h (i := 0) (by omega), World.rowIs.cell h (i := 1) (by omega), World.rowIs.cell h (i := 2) (by omega), World.rowIs.frozen h 2⟩
end Go.Proofs.YtdngbojbpmdegaaGreatDoor

namespace Go.Proofs.YtdngbojbpmdegaaGreatDoor
open Go.RowKit

/-- what is measured of one page -/
def pageL (p : Pg) : List UInt8 := entryL sPage [p.at_, p.r] ++ entryL sWords (p.at_ :: p.ws)
def sOpen : List UInt8 := [111, 112, 101, 110, 59]
/-- what is measured of an image -/
def expL (ps : List Pg) : List UInt8 := sOpen ++ ps.flatMap pageL
def expK (ps : List Pg) (k : Nat) : ByteArray := txt (expL (ps.take k))
theorem expK_succ (ps : List Pg) (k : Nat) (hk : k < ps.length) : expK ps k ++ (putS (ps.getD k default).at_ (ps.getD k default).r ++ heldS (ps.getD k default).at_ (ps.getD k default).ws) = expK ps (k + 1) := by
  unfold expK expL putS heldS
  rw [txt_append, txt_append, List.take_succ_eq_append_getElem hk, List.flatMap_append]
  have e : ps[k] = ps.getD k default := by simp [List.getD_eq_getElem?_getD, hk]
  rw [e]
  simp [pageL]
theorem expK_end (ps : List Pg) : expK ps ps.length = txt (expL ps) := by
  unfold expK; rw [List.take_of_length_le (Nat.le_refl _)]
theorem append3 (a b c : ByteArray) : a ++ b ++ c = a ++ (b ++ c) := by
  apply ByteArray.ext
  simp [ByteArray.data_append]
end Go.Proofs.YtdngbojbpmdegaaGreatDoor

namespace Go.Proofs.YtdngbojbpmdegaaGreatDoor
open Go.RowKit

/-- the number that digits tell -/
def val (l : List UInt8) : Nat := l.foldl (fun a c => 10 * a + (c.toNat - 48)) 0
theorem itoa_dig {x : Int} (h : 0 ≤ x) : Lib.itoa x = Lib.decDigits x.toNat := by
  obtain ⟨n, rfl⟩ : ∃ n : Nat, x = (n : Int) := ⟨x.toNat, by omega⟩
  rw [Lib.itoa_nonneg]; rfl
end Go.Proofs.YtdngbojbpmdegaaGreatDoor

namespace Go.Proofs.YtdngbojbpmdegaaGreatDoor
open Go.RowKit

theorem place_at {frs : List Fr} {e a : Int} {k : Nat} (hk : k < frs.length) (h : plB e a (frs.getD k default) = true) (hu : ∀ j, j < frs.length → j ≠ k → plB e a (frs.getD j default) = false) : placeOf frs e a = (k : Int) := by
  rcases place_cases frs e a with hp | ⟨j, hp, hj, hb⟩
  · exfalso
    have := place_none (show placeOf frs e a < 0 by omega) (frs.getD k default) (by simp [List.getD_eq_getElem?_getD, hk])
    rw [h] at this; cases this
  · by_cases e1 : j = k
    · rw [hp, e1]
    · rw [hu j hj e1] at hb; cases hb
theorem place_not {frs : List Fr} {e a : Int} (hu : ∀ j, j < frs.length → plB e a (frs.getD j default) = false) : placeOf frs e a = -1 := by
  rcases place_cases frs e a with hp | ⟨j, hp, hj, hb⟩
  · exact hp
  · rw [hu j hj] at hb; cases hb
theorem askF_of {M : Mv} {m : Nat} {s : Int} (hz : machF M = 0) (hm : m < 4) (h0 : (M.ens.getD m default).st ≠ 0) (hs : 0 ≤ s → (M.ens.getD m default).st = s) : askF M ((m : Int) + 1) s = 0 := by
  unfold askF
  rw [if_pos hz, if_pos (inB_iff.2 ⟨by omega, by omega⟩), show ((m : Int) + 1 - 1).toNat = m by omega, if_neg h0, if_neg (fun hh => hh.2 (hs hh.1))]
theorem wordF_of {M : Mv} {k p : Nat} (hz : machF M = 0) (hk : k < 24) (hp : p < 8) : wordF M k p = 0 := by
  unfold wordF
  rw [if_pos hz, if_pos]
  rw [Bool.and_eq_true]
  exact ⟨inB_iff.2 ⟨by omega, by omega⟩, inB_iff.2 ⟨by omega, by omega⟩⟩
theorem pokeF_of {M : Mv} {k p : Nat} {v : Int} (hz : machF M = 0) (hk : k < 24) (hp : p < 8) (hv : inB v 0 65535 = true) : pokeF M k p v = 0 := by
  unfold pokeF
  rw [if_pos (wordF_of hz hk hp), if_pos hv]
theorem putF_of {M : Mv} {m k : Nat} {a r : Int} (hz : machF M = 0) (hm : m < 4) (hs : (M.ens.getD m default).st = 1) (hk : k < 24) (ha : inB a 0 7 = true) (hr : inB r 0 7 = true) (ho : (M.frs.getD k default).o = 0) (hp : placeOf M.frs ((m : Int) + 1) a < 0) (hl : (M.ens.getD m default).log.size ≤ 900) :
    putF M ((m : Int) + 1) k a r = 0 ∧ machF (putM M ((m : Int) + 1) k a r) = 0 ∧ putM M ((m : Int) + 1) k a r = { M with frs := M.frs.set k (putFr M k ((m : Int) + 1) a r), ens := M.ens.set m ((M.ens.getD m default).withLog (putS a r)) } := by
  have hai := inB_iff.1 ha
  have hri := inB_iff.1 hr
  have hlog : logF M m (putS a r) = 0 := by
    unfold logF
    have := putS_size a r (wf_of (by omega)) (wf_of (by omega))
    rw [if_neg (by omega)]
  have h1 : putF M ((m : Int) + 1) k a r = 0 := by
    unfold putF
    rw [if_pos (askF_of hz hm (by omega) (fun _ => hs)), if_pos (inB_iff.2 ⟨by omega, by omega⟩), if_pos (by rw [ha, hr]; rfl), show ((k : Int)).toNat = k from Int.toNat_natCast k, if_pos ho, if_pos hp, show ((m : Int) + 1 - 1).toNat = m by omega, hlog]
  refine ⟨h1, put_good h1, ?_⟩
  unfold putM
  rw [if_pos h1, show ((m : Int) + 1 - 1).toNat = m by omega, show ((k : Int)).toNat = k from Int.toNat_natCast k]
end Go.Proofs.YtdngbojbpmdegaaGreatDoor
