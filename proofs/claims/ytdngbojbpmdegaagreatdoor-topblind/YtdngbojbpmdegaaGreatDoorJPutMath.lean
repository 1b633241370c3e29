/-
  What the reference's dec answers: a number's decimal digits; nothing that was in memory turns. The condition: the number is not below 0 and fits. What the calls Added (image) and PutText (riddleref) answer, for every place and every rights of 64 bits: both the same text and the same error number; nothing that was in memory turns. What the calls Held (image) and HeldText (riddleref) answer, for every place and every list of words: both the same text and the same error number; nothing that was in memory turns. What Put and Measure ask and answer (own work): the machine behind them, and what they are refused for; machines that hold the same are answered the same. No condition.
-/
import Derived.Test.YtdngbojbpmdegaaGreatDoorJOpens
import Derived.Laws.BytesString
import Derived.Laws.BytesArg
import Derived.Laws.Concat
import Derived.Outline
import Derived.Test.YtdngbojbpmdegaaGreatDoorJIdxBase
import Derived.Deep.Heap
import Derived.Test.YtdngbojbpmdegaaGreatDoorJLogged
import Derived.Test.YtdngbojbpmdegaaGreatDoorJRunMath
namespace Go.Proofs.YtdngbojbpmdegaaGreatDoor
open Go.RowKit

/-- a text of bytes -/
def txt (l : List UInt8) : ByteArray := ⟨l.toArray⟩
theorem txt_size (l : List UInt8) : (txt l).size = l.length := by simp [txt, ByteArray.size]
theorem txt_append (a b : List UInt8) : txt a ++ txt b = txt (a ++ b) := ByteArray.mk_append_mk a b
end Go.Proofs.YtdngbojbpmdegaaGreatDoor

namespace Go.Proofs.YtdngbojbpmdegaaGreatDoor
open Go.RowKit

def sPage : List UInt8 := [112, 97, 103, 101]
/-- what is measured of a page that is put there -/
def putS (p r : Int) : ByteArray := txt (entryL sPage [p, r])
set_option maxHeartbeats 1000000 in
theorem added_any (p r : Int) (w : World) (hp : (Lit.int .i64 p).wf = true) (hr : (Lit.int .i64 r).wf = true) (ht : Tab w) :
    Calls Tryz.prog 89 #[.int .i64 p, .int .i64 r] w fun e w' =>
      e = .returned (if (inB p 0 7 && inB r 0 7) = true then .tuple #[.string (putS p r), .int .i64 0] else .tuple #[.string ⟨#[]⟩, .int .i64 2]) ∧ Below w.heap.size w w' := by
  have hP := fun w => isPlace_any p w
  have hR := fun w => areRights_any r w hr
  have hE := entry_any ⟨#[112, 97, 103, 101]⟩ (some ⟨w.heap.size, 0, none⟩) [p, r] 2 (w.alloc (.cells #[.int .i64 p, .int .i64 r] 3)) (by decide) (by simp)
    (.inr ⟨_, _, rfl, fun j hj => by
      match j, hj with
      | 0, _ => simp
      | 1, _ => simp⟩) (fun n hn => by simp at hn; rcases hn with rfl | rfl <;> assumption) (ht.below ((Below.refl _ _).alloc (Nat.le_refl _) _))
  have hS : Hid (txt (entryL sPage [p, r]) = putS p r) := rfl
  have hE' : Calls Tryz.prog 123 #[.string ⟨#[112, 97, 103, 101]⟩, .slice (some ⟨w.heap.size, 0, none⟩) 2 2] (w.alloc (.cells #[.int .i64 p, .int .i64 r] 3)) fun e w' => e = .returned (.string (putS p r)) ∧ Below (w.alloc (.cells #[.int .i64 p, .int .i64 r] 3)).heap.size (w.alloc (.cells #[.int .i64 p, .int .i64 r] 3)) w' := hE
  clear hE hS ht hp hr
  generalize putS p r = S at hE' ⊢
  generalize inB p 0 7 = b1 at hP ⊢
  generalize inB r 0 7 = b2 at hR ⊢
  cases b1 <;> cases b2
  all_goals
    go_enter Tryz.func89, Tryz.ntmps89
    go_wp2_with (first | (go_at_call 124; refine (hP _).mono ?_; rintro e w' ⟨rfl, rfl⟩) | (go_at_call 125; refine (hR _).mono ?_; rintro e w' ⟨rfl, rfl⟩) | (go_at_call 123; go_must (refine hE'.mono ?_); rintro e w1 ⟨rfl, hb⟩))
    go_ret2
    first | exact ⟨rfl, Below.refl _ _⟩ | exact ⟨rfl, ((Below.refl _ _).alloc (Nat.le_refl _) _).trans (hb.mono (by simp))⟩

end Go.Proofs.YtdngbojbpmdegaaGreatDoor

namespace Go.Proofs.YtdngbojbpmdegaaGreatDoor
open Go.RowKit

def sWords : List UInt8 := [119, 111, 114, 100, 115]
/-- what is measured of the words of a page -/
def heldS (p : Int) (ws : List Int) : ByteArray := txt (entryL sWords (p :: ws))
/-- the text, or what it is refused for -/
def heldV (p : Int) (ws : List Int) : Value :=
  if inB p 0 7 = true then (if mayW ws = true then .tuple #[.string (heldS p ws), .int .i64 0] else .tuple #[.string ⟨#[]⟩, .int .i64 4]) else .tuple #[.string ⟨#[]⟩, .int .i64 2]

theorem held_info : (Tryz.prog.info? 3).map (fun i => (i.zero, i.size, i.bytes)) = some (some (.int .i64 0), 1, 8) := by kernel_rfl
/-- the words of a page as cells -/
def icells (ws : List Int) : List Value := ws.map (Value.int .i64)
theorem icells_get (ws : List Int) (j : Nat) (h : j < ws.length) : (icells ws)[j]? = some (.int .i64 (ws.getD j 0)) := by
  simp [icells, h, List.getD_eq_getElem?_getD]
theorem icells_one (xs : List Int) : ∀ v ∈ icells xs, v.oneCell' = true := by
  intro v hv
  simp [icells] at hv
  obtain ⟨n, _, rfl⟩ := hv
  rfl
theorem owned_ints {w : World} {B : Nat} {v : Value} {n : Nat} {xs : List Int} (h : w.ownsRow B 3 1 v n (icells xs)) : ∃ a cap, v = .slice a xs.length cap ∧ Ints w a xs := by
  have hn : xs.length = n := by have := h.1; simpa [icells] using this
  rcases h.2 with ⟨hv, h0⟩ | ⟨g, cap, cur, hv, _, hg, hc, _, hs, ht⟩
  · refine ⟨none, 0, by rw [hv, hn, h0], .inl (List.eq_nil_of_length_eq_zero (by omega))⟩
  · refine ⟨_, cap, by rw [hv, hn], .inr ⟨g, 0, rfl, fun j hj => ?_⟩⟩
    have e := icells_get xs j hj
    rw [← ht] at e
    rw [List.getElem?_take_of_lt (by omega)] at e
    simpa [World.cell?, hg] using e

theorem held_next {w w1 : World} {p : Int} {xs : List Int} {v' : Value} (hown' : w1.ownsRow w.heap.size 3 1 v' (1 + xs.length) (icells [p] ++ icells xs))
    (hgrow : (w.alloc (.cells #[.int .i64 p] 3)).grownBy w1 (some w.heap.size)) : ∃ a cap, v' = .slice a (p :: xs).length cap ∧ Ints w1 a (p :: xs) ∧ Below w.heap.size w w1 := by
  have hown2 : w1.ownsRow w.heap.size 3 1 v' (1 + xs.length) (icells (p :: xs)) := hown'
  obtain ⟨a', cap', hv, hI⟩ := owned_ints hown2
  exact ⟨a', cap', hv, hI, ((Below.refl _ _).alloc (Nat.le_refl _) _).grown hgrow (by simp) (fun k hk => by simp at hk; omega)⟩

set_option maxRecDepth 100000 in
set_option maxHeartbeats 2000000 in
theorem held_any (p : Int) (a : Option Addr) (xs : List Int) (cap : Nat) (w : World) (hp : (Lit.int .i64 p).wf = true) (hl : xs.length ≤ maxLen) (hx : Ints w a xs) (ht : Tab w) :
    Calls Tryz.prog 90 #[.int .i64 p, .slice a xs.length cap] w fun e w' => e = .returned (heldV p xs) ∧ Below w.heap.size w w' := by
  have hP := fun w => isPlace_any p w
  have hW := words_any a xs cap w hl hx
  unfold heldV
  cases h1 : inB p 0 7
  · rw [h1] at hP
    clear hx hl ht hp h1
    go_enter Tryz.func90, Tryz.ntmps90
    go_wp2_with (go_at_call 124; refine (hP _).mono ?_; rintro e w' ⟨rfl, rfl⟩)
    go_ret2
    exact ⟨rfl, Below.refl _ _⟩
  · rw [h1] at hP
    cases h2 : mayW xs
    · rw [h2] at hW
      clear hx hl ht hp h1 h2
      go_enter Tryz.func90, Tryz.ntmps90
      go_wp2_with (first | (go_at_call 124; refine (hP _).mono ?_; rintro e w' ⟨rfl, rfl⟩) | (go_at_call 126; refine hW.mono ?_; rintro e w' ⟨rfl, rfl⟩))
      go_ret2
      exact ⟨rfl, Below.refl _ _⟩
    · obtain ⟨hlen, hall⟩ := mayW_iff.1 h2
      rcases hx with rfl | ⟨b, off, rfl, hc⟩
      · simp at hlen
      · rw [h2] at hW
        have HL : Hid (xs.length = 8) := hlen
        obtain ⟨i0, hi, hz0, hz1, hz2⟩ := info_parts held_info
        have hown : (w.alloc (.cells #[.int .i64 p] 3)).ownsRow w.heap.size 3 1 (.slice (some ⟨w.heap.size, 0, none⟩) 1 1) 1 (icells [p]) :=
          ⟨by simp [icells], .inr ⟨w.heap.size, 1, #[.int .i64 p], rfl, Nat.le_refl _, Go.Deep.blk_alloc_new w _, Nat.le_refl _, by unfold maxLen; omega, rfl, rfl⟩⟩
        have hnews : Hid (∀ j u, (icells xs)[j]? = some u → (w.alloc (.cells #[.int .i64 p] 3)).cell? ((⟨b, off, none⟩ : Addr).add j) = some u) := fun j u hj => by
          have hj' : j < xs.length := by
            have := (List.getElem?_eq_some_iff.1 hj).1
            simpa [icells] using this
          rw [icells_get xs j hj'] at hj
          rw [add_at, World.cell?_alloc_past _ _ _ (by simpa using lt_of_cell (hc j hj')), hc j hj']
          exact hj
        have hE := fun a cap w1 (h : Ints w1 a (p :: xs)) (hb : Below w.heap.size w w1) => entry_any ⟨#[119, 111, 114, 100, 115]⟩ a (p :: xs) cap w1 (by decide) (by simp; omega) h (fun n hn => by
            rcases List.mem_cons.1 hn with rfl | hn
            · exact hp
            · have := hall n hn
              simp [Lit.wf, IntKind.min, IntKind.max, IntKind.bits, IntKind.signed]; omega) (ht.below hb)
        have hE' : ∀ a cap w1, Ints w1 a (p :: xs) → Below w.heap.size w w1 → Calls Tryz.prog 123 #[.string ⟨#[119, 111, 114, 100, 115]⟩, .slice a (p :: xs).length cap] w1 fun e w' => e = .returned (.string (heldS p xs)) ∧ Below w1.heap.size w1 w' := hE
        generalize heldS p xs = S at hE' ⊢
        clear hE ht hp h1 h2 hc hall hlen hl
        go_enter Tryz.func90, Tryz.ntmps90
        go_wp2_with (first | (go_at_call 124; refine (hP _).mono ?_; rintro e w' ⟨rfl, rfl⟩) | (go_at_call 126; refine hW.mono ?_; rintro e w' ⟨rfl, rfl⟩) | (at_builtin; refine wpList_append_own _ rfl _ _ 30 rfl w.heap.size 3 i0 (.int .i64 0) 1 8 Tryz.underlying30 hi hz0 hz1 hz2 rfl (by decide) _ _ _ rfl hown ⟨b, off, none⟩ xs.length cap (icells xs) rfl (by simp [icells]) hnews.out (icells_one xs) (by have := HL.out; unfold maxLen; omega) (by have := HL.out; omega) (by simp) ?_))
        intro v' w1 hown' hgrow _
        obtain ⟨a', cap', hv, hI, hb1⟩ := held_next hown' hgrow
        rw [hv]
        have hE2 := hE' a' cap' w1 hI hb1
        clear hE' hown hown' hgrow hnews hI hv
        go_wp2_with (go_at_call 123; go_must (refine hE2.mono ?_); rintro e w2 ⟨rfl, hb⟩)
        go_ret2
        exact ⟨rfl, hb1.trans (hb.mono hb1.size)⟩

theorem wf_of {n : Int} (h : 0 ≤ n ∧ n ≤ 65535) : (Lit.int .i64 n).wf = true := by
  simp [Lit.wf, IntKind.min, IntKind.max, IntKind.bits, IntKind.signed]; omega

end Go.Proofs.YtdngbojbpmdegaaGreatDoor

namespace Go.Proofs.YtdngbojbpmdegaaGreatDoor
open Go.RowKit

theorem placeOf_norm (l : List Fr) (e a : Int) : placeOf (l.map Fr.norm) e a = placeOf l e a := by
  unfold placeOf idxOf
  rw [List.findIdx?_map]
  rfl
theorem placeOf_same {M N : Mv} (h : M.Same N) (e a : Int) : placeOf M.frs e a = placeOf N.frs e a := by
  rw [← placeOf_norm M.frs, norm_eq h, placeOf_norm]
theorem norm_at {M N : Mv} (h : M.Same N) (k : Nat) : (M.frs.getD k default).norm = (N.frs.getD k default).norm := by
  rw [← norm_getD, norm_eq h, norm_getD]
theorem own_same {M N : Mv} (h : M.Same N) (k : Nat) : (M.frs.getD k default).o = (N.frs.getD k default).o := by have := congrArg Fr.o (norm_at h k); exact this
theorem ws_same {M N : Mv} (h : M.Same N) (k : Nat) : (M.frs.getD k default).ws = (N.frs.getD k default).ws := by have := congrArg Fr.ws (norm_at h k); exact this
theorem set_same {M N : Mv} (h : N.Same M) (j : Nat) (f g : Fr) (hfg : j < M.frs.length → f.Same g) : Mv.Same { N with frs := N.frs.set j f } { M with frs := M.frs.set j g } := by
  by_cases hj : j < M.frs.length
  · have hj' : j < N.frs.length := by rw [h.len]; exact hj
    refine ⟨by simpa using h.len, fun i hi => ?_, h.en, h.qu⟩
    have hi' : i < N.frs.length := by simpa using hi
    show ((N.frs.set j f).getD i default).Same ((M.frs.set j g).getD i default)
    rw [getD_set _ _ _ _ hj', getD_set _ _ _ _ hj]
    by_cases e : i = j
    · rw [if_pos e, if_pos e]; exact hfg hj
    · rw [if_neg e, if_neg e]; exact h.fr i hi'
  · have hj' : ¬ j < N.frs.length := by rw [h.len]; exact hj
    rw [List.set_eq_of_length_le (by omega), List.set_eq_of_length_le (by omega)]
    exact h
theorem putS_size (p r : Int) (hp : (Lit.int .i64 p).wf = true) (hr : (Lit.int .i64 r).wf = true) : (putS p r).size ≤ 100 := by
  unfold putS entryL
  rw [txt_size, List.length_append, List.length_append]
  have := numsL_le [p, r] fun n hn => by
    simp only [List.mem_cons, List.not_mem_nil, or_false] at hn
    rcases hn with rfl | rfl
    · exact hp
    · exact hr
  simp only [sPage, List.length_cons, List.length_nil] at this ⊢
  omega
theorem heldS_size (p : Int) (ws : List Int) (hp : (Lit.int .i64 p).wf = true) (hw : ∀ n ∈ ws, (Lit.int .i64 n).wf = true) (h8 : ws.length = 8) : (heldS p ws).size ≤ 1000 := by
  unfold heldS entryL
  rw [txt_size, List.length_append, List.length_append]
  have := numsL_le (p :: ws) fun n hn => by
    rcases List.mem_cons.1 hn with rfl | hn
    · exact hp
    · exact hw n hn
  simp only [sWords, List.length_cons, List.length_nil] at this ⊢
  omega

/-- what Put is refused for -/
def putF (M : Mv) (e f a r : Int) : Int :=
  if askF M e 1 = 0 then (if inB f 0 23 = true then (if (inB a 0 7 && inB r 0 7) = true then (if (M.frs.getD f.toNat default).o = 0 then (if placeOf M.frs e a < 0 then logF M (e - 1).toNat (putS a r) else 6) else 6) else 2) else 2) else askF M e 1
def putFr (M : Mv) (j : Nat) (e a r : Int) : Fr := { M.frs.getD j default with o := e, at_ := a, r := r }
def putM (M : Mv) (e f a r : Int) : Mv :=
  if putF M e f a r = 0 then { M with frs := M.frs.set f.toNat (putFr M f.toNat e a r), ens := M.ens.set (e - 1).toNat ((M.ens.getD (e - 1).toNat default).withLog (putS a r)) } else noM
theorem logF_same {M N : Mv} (h : M.Same N) (m : Nat) (s : ByteArray) : logF M m s = logF N m s := by unfold logF; rw [h.en]
theorem putF_same {M N : Mv} (h : M.Same N) (e f a r : Int) : putF M e f a r = putF N e f a r := by
  unfold putF; rw [askF_same h, own_same h, placeOf_same h, logF_same h]
theorem putM_same {M N : Mv} (h : M.Same N) (e f a r : Int) : (putM M e f a r).Same (putM N e f a r) := by
  unfold putM
  rw [putF_same h, h.en]
  split
  · have := set_same h f.toNat (putFr M f.toNat e a r) (putFr N f.toNat e a r) (fun _ => ⟨rfl, rfl, rfl, ws_same h _⟩)
    exact ⟨this.len, this.fr, rfl, h.qu⟩
  · exact Mv.Same.refl _
theorem putM_bad {M : Mv} {e f a r : Int} (h : putF M e f a r ≠ 0) : putM M e f a r = noM := if_neg h
/-- what Measure is refused for -/
def meaS (M : Mv) (e a : Int) : ByteArray := heldS a (M.frs.getD (placeOf M.frs e a).toNat default).ws
def meaF (M : Mv) (e a : Int) : Int :=
  if askF M e 1 = 0 then (if placeOf M.frs e a < 0 then 5 else logF M (e - 1).toNat (meaS M e a)) else askF M e 1
def meaM (M : Mv) (e a : Int) : Mv :=
  if meaF M e a = 0 then { M with ens := M.ens.set (e - 1).toNat ((M.ens.getD (e - 1).toNat default).withLog (meaS M e a)) } else noM
theorem meaS_same {M N : Mv} (h : M.Same N) (e a : Int) : meaS M e a = meaS N e a := by unfold meaS; rw [placeOf_same h, ws_same h]
theorem meaF_same {M N : Mv} (h : M.Same N) (e a : Int) : meaF M e a = meaF N e a := by
  unfold meaF; rw [askF_same h, placeOf_same h, meaS_same h, logF_same h]
theorem meaM_same {M N : Mv} (h : M.Same N) (e a : Int) : (meaM M e a).Same (meaM N e a) := by
  unfold meaM
  rw [meaF_same h, meaS_same h, h.en]
  split
  · exact ⟨h.len, h.fr, rfl, h.qu⟩
  · exact Mv.Same.refl _
theorem meaM_bad {M : Mv} {e a : Int} (h : meaF M e a ≠ 0) : meaM M e a = noM := if_neg h
theorem fr_at {M : Mv} {w : World} (hM : MachAt w M) {j : Nat} (hj : j < M.frs.length) :
    ∃ fb fo, M.fa = some ⟨fb, fo, none⟩ ∧ ∀ w1, Below w.heap.size w w1 → w1.cell? ⟨fb, fo + j * 4, none⟩ = some (.int .i64 (M.frs.getD j default).o) ∧ w1.cell? ⟨fb, fo + j * 4 + 3, none⟩ = some (.slice (M.frs.getD j default).a (M.frs.getD j default).ws.length (M.frs.getD j default).cap) := by
  obtain ⟨fb, fo, e, c0, _, _, c3⟩ := hM.frame hj
  exact ⟨fb, fo, e, fun w1 hb => ⟨(hb.cell (p := ⟨fb, _, none⟩) (lt_of_cell c0)).trans c0, (hb.cell (p := ⟨fb, _, none⟩) (lt_of_cell c3)).trans c3⟩⟩
theorem Owned.put3 {n0 : Nat} {w : World} {M : Mv} (h : Owned n0 w M) {fb fo k : Nat} (he : M.fa = some ⟨fb, fo, none⟩) (hk : k < M.frs.length) {o a r : Int} (wo : (Lit.int .i64 o).wf = true) (wa : (Lit.int .i64 a).wf = true) (wr : (Lit.int .i64 r).wf = true) :
    Owned n0 (((w.setCell ⟨fb, fo + k * 4, none⟩ (.int .i64 o)).setCell ⟨fb, fo + k * 4 + 1, none⟩ (.int .i64 a)).setCell ⟨fb, fo + k * 4 + 2, none⟩ (.int .i64 r)) { M with frs := M.frs.set k { M.frs.getD k default with o := o, at_ := a, r := r } } := by
  obtain ⟨E, hE⟩ : ∃ E, E = M.frs.getD k default := ⟨_, rfl⟩
  have g : ∀ (N : Mv) (e : Fr), k < N.frs.length → (N.frs.set k e).getD k default = e := fun N e hk => by rw [getD_set _ _ _ _ hk, if_pos rfl]
  have step : ∀ {w : World} {N : Mv} (_ : Owned n0 w N) (_ : N.fa = some ⟨fb, fo, none⟩) (_ : k < N.frs.length) (i0 : Nat) (_ : i0 < 4) (e0 e' : Fr) (v : Value) (_ : N.frs.getD k default = e0) (_ : (e0.Ok w) → e'.Ok w) (_ : e'.a = e0.a) (_ : ∀ i, i < 4 → e'.cells[i]? = if i = i0 then some v else e0.cells[i]?),
      Owned n0 (w.setCell ⟨fb, fo + k * 4 + i0, none⟩ v) { N with frs := N.frs.set k e' } := fun h he hk i0 hi e0 e' v h0 hok ha hx => h.setFr he hk hi (hok (h0 ▸ h.at_.frok k hk)) (by rw [h0]; exact ha) (by rw [h0]; exact hx)
  have s1 := step h he hk 0 (by omega) E { E with o := o } (.int .i64 o) hE.symm (fun q => ⟨wo, q.wat, q.wr, q.len, q.ints, q.wws⟩) rfl (fun i hi => by match i, hi with | 0, _ => rfl | 1, _ => rfl | 2, _ => rfl | 3, _ => rfl)
  have s2 := step s1 he (by simpa using hk) 1 (by omega) _ { E with o := o, at_ := a } (.int .i64 a) (g _ _ hk) (fun q => ⟨q.wo, wa, q.wr, q.len, q.ints, q.wws⟩) rfl (fun i hi => by match i, hi with | 0, _ => rfl | 1, _ => rfl | 2, _ => rfl | 3, _ => rfl)
  have s3 := step s2 he (by simpa using hk) 2 (by omega) _ { E with o := o, at_ := a, r := r } (.int .i64 r) (g _ _ (by simpa using hk)) (fun q => ⟨q.wo, q.wat, wr, q.len, q.ints, q.wws⟩) rfl (fun i hi => by match i, hi with | 0, _ => rfl | 1, _ => rfl | 2, _ => rfl | 3, _ => rfl)
  simp only [List.set_set, Nat.add_zero] at s3
  rw [← hE]
  exact s3
theorem put3_below {w0 w : World} {B fb : Nat} {v0 v1 v2 : Value} {a : Nat} (h : Below B w0 w) (hb : B ≤ fb) : Below B w0 (((w.setCell ⟨fb, a, none⟩ v0).setCell ⟨fb, a + 1, none⟩ v1).setCell ⟨fb, a + 2, none⟩ v2) :=
  ((h.setCell (by simpa using hb) _).setCell (by simpa using hb) _).setCell (by simpa using hb) _
theorem put3_heap {w : World} {fb : Nat} {v0 v1 v2 : Value} {a b : Nat} (h : b ≠ fb) : (((w.setCell ⟨fb, a, none⟩ v0).setCell ⟨fb, a + 1, none⟩ v1).setCell ⟨fb, a + 2, none⟩ v2).heap[b]? = w.heap[b]? := by
  rw [Below.heap_setCell _ _ _ _ h, Below.heap_setCell _ _ _ _ h, Below.heap_setCell _ _ _ _ h]
end Go.Proofs.YtdngbojbpmdegaaGreatDoor
