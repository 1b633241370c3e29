import Derived.Test.YtdngbojbpmdegaaGreatDoorJAdded
import Derived.Test.YtdngbojbpmdegaaGreatDoorJIdxBase
import Derived.Deep.Heap
import Derived.Test.YtdngbojbpmdegaaGreatDoorJQRow
import Derived.Test.YtdngbojbpmdegaaGreatDoorJCreate
namespace Go.Proofs.YtdngbojbpmdegaaGreatDoor
open Go.RowKit
def sWords : List UInt8 := [119, 111, 114, 100, 115]
def heldS (p : Int) (ws : List Int) : ByteArray := txt (entryL sWords (p :: ws))
def heldV (p : Int) (ws : List Int) : Value :=
  if inB p 0 7 = true then (if mayW ws = true then .tuple #[.string (heldS p ws), .int .i64 0] else .tuple #[.string ⟨#[]⟩, .int .i64 4]) else .tuple #[.string ⟨#[]⟩, .int .i64 2]
theorem held_info : (Tryz.prog.info? 3).map (fun i => (i.zero, i.size, i.bytes)) = some (some (.int .i64 0), 1, 8) := by kernel_rfl
def icells (ws : List Int) : List Value := ws.map (Value.int .i64)
theorem icells_get (ws : List Int) (j : Nat) (h : j < ws.length) : (icells ws)[j]? = some (.int .i64 (ws.getD j 0)) := by
  simp [icells, h, List.getD_eq_getElem?_getD]
theorem icells_one (xs : List Int) : ∀ v ∈ icells xs, v.oneCell' = true := by
  intro v hv
  simp [icells] at hv
  obtain ⟨n, _, rfl⟩ := hv
  rfl
theorem owned_ints {w : World} {B : Nat} {v : Value} {n : Nat} {xs : List Int} (h : w.ownsRow B 3 1 v n (icells xs)) : ∃ a cap, v = .slice a xs.length cap /\ Ints w a xs := by
  have hn : xs.length = n := by have := h.1; simpa [icells] using this
  rcases h.2 with ⟨hv, h0⟩ | ⟨g, cap, cur, hv, _, hg, hc, _, hs, ht⟩
  · refine ⟨none, 0, by rw [hv, hn, h0], .inl (List.eq_nil_of_length_eq_zero (by omega))⟩
  · refine ⟨_, cap, by rw [hv, hn], .inr ⟨g, 0, rfl, fun j hj => ?_⟩⟩
    have e := icells_get xs j hj
    rw [<- ht] at e
    rw [List.getElem?_take_of_lt (by omega)] at e
    simpa [World.cell?, hg] using e
theorem held_next {w w1 : World} {p : Int} {xs : List Int} {v' : Value} (hown' : w1.ownsRow w.heap.size 3 1 v' (1 + xs.length) (icells [p] ++ icells xs))
    (hgrow : (w.alloc (.cells #[.int .i64 p] 3)).grownBy w1 (some w.heap.size)) : ∃ a cap, v' = .slice a (p :: xs).length cap /\ Ints w1 a (p :: xs) /\ Below w.heap.size w w1 := by
  have hown2 : w1.ownsRow w.heap.size 3 1 v' (1 + xs.length) (icells (p :: xs)) := hown'
  obtain ⟨a', cap', hv, hI⟩ := owned_ints hown2
  exact ⟨a', cap', hv, hI, ((Below.refl _ _).alloc (Nat.le_refl _) _).grown hgrow (by simp) (fun k hk => by simp at hk; omega)⟩
set_option maxRecDepth 100000 in
set_option maxHeartbeats 2000000 in
theorem held_any (p : Int) (a : Option Addr) (xs : List Int) (cap : Nat) (w : World) (hp : (Lit.int .i64 p).wf = true) (hl : xs.length <= maxLen) (hx : Ints w a xs) (ht : Tab w) :
    Calls Tryz.prog 90 #[.int .i64 p, .slice a xs.length cap] w fun e w' => e = .returned (heldV p xs) /\ Below w.heap.size w w' := by
  have hP := fun w => isPlace_any p w
  have hW := words_any a xs cap w hl hx
  unfold heldV
  cases h1 : inB p 0 7
  · rw [h1] at hP
    clear hx hl ht hp h1
    go_enter Tryz.func90, Tryz.ntmps90
    go_wp2_with (go_at_call 124; refine (hP _).mono ?_; rintro e w' ⟨rfl, rfl⟩)
    go_ret2
    exact ⟨rfl, Below.refl _ _⟩
  · rw [h1] at hP
    cases h2 : mayW xs
    · rw [h2] at hW
      clear hx hl ht hp h1 h2
      go_enter Tryz.func90, Tryz.ntmps90
      go_wp2_with (first | (go_at_call 124; refine (hP _).mono ?_; rintro e w' ⟨rfl, rfl⟩) | (go_at_call 126; refine hW.mono ?_; rintro e w' ⟨rfl, rfl⟩))
      go_ret2
      exact ⟨rfl, Below.refl _ _⟩
    · obtain ⟨hlen, hall⟩ := mayW_iff.1 h2
      rcases hx with rfl | ⟨b, off, rfl, hc⟩
      · simp at hlen
      · rw [h2] at hW
        have HL : Hid (xs.length = 8) := hlen
        obtain ⟨i0, hi, hz0, hz1, hz2⟩ := info_parts held_info
        have hown : (w.alloc (.cells #[.int .i64 p] 3)).ownsRow w.heap.size 3 1 (.slice (some ⟨w.heap.size, 0, none⟩) 1 1) 1 (icells [p]) :=
          ⟨by simp [icells], .inr ⟨w.heap.size, 1, #[.int .i64 p], rfl, Nat.le_refl _, Go.Deep.blk_alloc_new w _, Nat.le_refl _, by unfold maxLen; omega, rfl, rfl⟩⟩
        have hnews : Hid (∀ j u, (icells xs)[j]? = some u -> (w.alloc (.cells #[.int .i64 p] 3)).cell? ((⟨b, off, none⟩ : Addr).add j) = some u) := fun j u hj => by
          have hj' : j < xs.length := by
            have := (List.getElem?_eq_some_iff.1 hj).1
            simpa [icells] using this
          rw [icells_get xs j hj'] at hj
          rw [add_at, World.cell?_alloc_past _ _ _ (by simpa using lt_of_cell (hc j hj')), hc j hj']
          exact hj
        have hE := fun a cap w1 (h : Ints w1 a (p :: xs)) (hb : Below w.heap.size w w1) => entry_any ⟨#[119, 111, 114, 100, 115]⟩ a (p :: xs) cap w1 (by decide) (by simp; omega) h (fun n hn => by
            rcases List.mem_cons.1 hn with rfl | hn
            · exact hp
            · have := hall n hn
              simp [Lit.wf, IntKind.min, IntKind.max, IntKind.bits, IntKind.signed]; omega) (ht.below hb)
        have hE' : ∀ a cap w1, Ints w1 a (p :: xs) -> Below w.heap.size w w1 -> Calls Tryz.prog 123 #[.string ⟨#[119, 111, 114, 100, 115]⟩, .slice a (p :: xs).length cap] w1 fun e w' => e = .returned (.string (heldS p xs)) /\ Below w1.heap.size w1 w' := hE
        generalize heldS p xs = S at hE' ⊢
        clear hE ht hp h1 h2 hc hall hlen hl
        go_enter Tryz.func90, Tryz.ntmps90
        go_wp2_with (first | (go_at_call 124; refine (hP _).mono ?_; rintro e w' ⟨rfl, rfl⟩) | (go_at_call 126; refine hW.mono ?_; rintro e w' ⟨rfl, rfl⟩) | (at_builtin; refine wpList_append_own _ rfl _ _ 30 rfl w.heap.size 3 i0 (.int .i64 0) 1 8 Tryz.underlying30 hi hz0 hz1 hz2 rfl (by decide) _ _ _ rfl hown ⟨b, off, none⟩ xs.length cap (icells xs) rfl (by simp [icells]) hnews.out (icells_one xs) (by have := HL.out; unfold maxLen; omega) (by have := HL.out; omega) (by simp) ?_))
        intro v' w1 hown' hgrow _
        obtain ⟨a', cap', hv, hI, hb1⟩ := held_next hown' hgrow
        rw [hv]
        have hE2 := hE' a' cap' w1 hI hb1
        clear hE' hown hown' hgrow hnews hI hv
        go_wp2_with (go_at_call 123; go_must (refine hE2.mono ?_); rintro e w2 ⟨rfl, hb⟩)
        go_ret2
        exact ⟨rfl, hb1.trans (hb.mono hb1.size)⟩
def heldK (p : Int) (ws : List Int) (k : Nat) : ByteArray := txt (sWords ++ numsL (p :: ws.take k))
theorem heldK_zero (p : Nat) (ws : List Int) : txt [119, 111, 114, 100, 115, 32] ++ decB p = heldK p ws 0 := by
  unfold heldK decB
  rw [txt_append]
  simp [numsL, itoa_nat, sWords]
theorem heldK_succ (p : Int) (ws : List Int) (k z : Nat) (hk : k < ws.length) (hz : ws.getD k 0 = (z : Int)) : heldK p ws k ++ txt [32] ++ decB z = heldK p ws (k + 1) := by
  unfold heldK decB
  rw [txt_append, txt_append]
  congr 1
  have e := take_nums ws k hk
  rw [hz, itoa_nat] at e
  simp only [numsL, List.flatMap_cons] at e ⊢
  rw [e]
  simp [sWords]
theorem heldK_end (p : Int) (ws : List Int) : heldK p ws ws.length ++ txt [59] = heldS p ws := by
  unfold heldK heldS entryL
  rw [txt_append, List.take_of_length_le (Nat.le_refl _)]
theorem heldK_size (p : Int) (ws : List Int) (k : Nat) (hp : (Lit.int .i64 p).wf = true) (hw : ∀ n ∈ ws, (Lit.int .i64 n).wf = true) : (heldK p ws k).size <= 5 + 22 * (ws.length + 1) := by
  unfold heldK
  rw [txt_size, List.length_append]
  have := numsL_le (p :: ws.take k) fun n hn => by
    rcases List.mem_cons.1 hn with rfl | hn
    · exact hp
    · exact hw n (List.mem_of_mem_take hn)
  simp only [List.length_cons, List.length_take] at this
  simp only [sWords, List.length_cons, List.length_nil]
  omega
theorem wf_of {n : Int} (h : 0 <= n /\ n <= 65535) : (Lit.int .i64 n).wf = true := by
  simp [Lit.wf, IntKind.min, IntKind.max, IntKind.bits, IntKind.signed]; omega
set_option maxRecDepth 100000 in
set_option maxHeartbeats 2000000 in
theorem heldText_any (p : Int) (a : Option Addr) (xs : List Int) (cap : Nat) (w : World) (hl : xs.length <= maxLen) (hx : Ints w a xs) :
    Calls Tryz.prog 110 #[.int .i64 p, .slice a xs.length cap] w fun e w' => e = .returned (heldV p xs) /\ Below w.heap.size w w' := by
  have hW := wordsMay_any a xs cap w hl hx
  unfold heldV
  cases h1 : inB p 0 7
  · clear hx hl
    go_enter Tryz.func110, Tryz.ntmps110
    go_wp2_with (go_at_call 56; refine (in_any _ _ _ _).mono ?_; rintro e w' ⟨rfl, rfl⟩)
    go_ret2
    exact ⟨rfl, Below.refl _ _⟩
  · cases h2 : mayW xs
    · rw [h2] at hW
      clear hx hl h2
      go_enter Tryz.func110, Tryz.ntmps110
      go_wp2_with (first | (go_at_call 56; refine (in_any _ _ _ _).mono ?_; rintro e w' ⟨rfl, rfl⟩) | (go_at_call 136; refine hW.mono ?_; rintro e w' ⟨rfl, rfl⟩))
      go_ret2
      exact ⟨rfl, Below.refl _ _⟩
    · obtain ⟨hlen, hall⟩ := mayW_iff.1 h2
      rw [h2] at hW
      have hbp := inB_iff.1 h1
      obtain ⟨P, rfl⟩ : ∃ P : Nat, p = (P : Int) := ⟨p.toNat, by omega⟩
      have HL : Hid (xs.length = 8) := hlen
      have HA : Hid (∀ n ∈ xs, 0 <= n /\ n <= 65535) := hall
      have HX : Hid (Ints w a xs) := hx
      have g1 := fun w => dec_any P (by omega) w
      have s1 := decB_size P (by omega)
      have HS0 : Hid (txt [119, 111, 114, 100, 115, 32] ++ decB P = heldK P xs 0) := heldK_zero P xs
      have HSz : Hid (∀ k, (heldK P xs k).size <= 5 + 22 * (xs.length + 1)) := fun k => heldK_size P xs k (wf_of (by omega)) fun n hn => wf_of (hall n hn)
      generalize decB P = A at g1 s1 HS0
      clear hx hl h2 hlen hall
      go_enter Tryz.func110, Tryz.ntmps110
      go_wp2_with (first | (go_at_call 56; refine (in_any _ _ _ _).mono ?_; rintro e w' ⟨rfl, rfl⟩) | (go_at_call 136; refine hW.mono ?_; rintro e w' ⟨rfl, rfl⟩))
      refine (g1 _).mono ?_
      rintro e w1 ⟨rfl, hb1⟩
      clear g1 hW
      go_wp2
      go_loopw [6, 7] (fun s i wr => ∃ k : Nat, k <= 8 /\ i = .int .i64 k /\ s = .string (heldK P xs k) /\ Below w.heap.size w wr) (fun _ i _ => 8 - (intOf i).toNat)
      case atStart => exact ⟨0, by omega, rfl, by rw [<- HS0.out]; rfl, hb1⟩
      case round =>
        obtain ⟨k, hk, rfl, rfl, hbel⟩ := hrel
        clear HS0 hb1
        have hsz : (heldK P xs k).size <= 203 := by have := HSz.out k; have := HL.out; omega
        by_cases hlt : k < 8
        · have hkx : k < xs.length := by have := HL.out; omega
          rcases (HX.out.below hbel) with h0 | ⟨b, off, rfl, hc⟩
          · simp [h0] at hkx
          · have hck := hc k hkx
            obtain ⟨z, hz⟩ : ∃ z, xs.getD k 0 = z := ⟨_, rfl⟩
            have hzb : 0 <= z /\ z <= 65535 := by rw [<- hz]; exact HA.out _ (by simp [List.getD_eq_getElem?_getD, hkx])
            obtain ⟨Z, rfl⟩ : ∃ Z : Nat, z = (Z : Int) := ⟨z.toNat, by omega⟩
            rw [hz] at hck
            have HN : Hid (heldK P xs k ++ txt [32] ++ decB Z = heldK P xs (k + 1)) := heldK_succ P xs k Z hkx hz
            have g2 := fun w => dec_any Z (by omega) w
            have s2 := decB_size Z (by omega)
            generalize heldK (P : Int) xs k = S at HN hsz ⊢
            generalize decB Z = D at g2 s2 HN
            have hlx : (k : Int) < (xs.length : Int) := by omega
            clear hc hz HA HX HSz
            go_wp2_with fail
            refine (g2 _).mono ?_
            rintro e w2 ⟨rfl, hb2⟩
            clear g2
            go_wp2
            go_roundw
            case rel => exact ⟨k + 1, by omega, by go_num, by rw [<- HN.out]; rfl, hbel.trans (hb2.mono hbel.size)⟩
            case measure => simp [intOf]; omega
        · have hk8 : k = 8 := by omega
          subst hk8
          have HE : Hid (heldK P xs 8 ++ txt [59] = heldS P xs) := by have := heldK_end P xs; rw [HL.out] at this; exact this
          generalize heldK (P : Int) xs 8 = S at HE hsz ⊢
          clear HA HX HSz
          go_wp2
          go_ret2
          exact ⟨by rw [<- HE.out]; rfl, hbel⟩
end Go.Proofs.YtdngbojbpmdegaaGreatDoor

namespace Go.Proofs.YtdngbojbpmdegaaGreatDoor
open Go.RowKit
theorem placeOf_norm (l : List Fr) (e a : Int) : placeOf (l.map Fr.norm) e a = placeOf l e a := by
  unfold placeOf idxOf
  rw [List.findIdx?_map]
  rfl
theorem placeOf_same {M N : Mv} (h : M.Same N) (e a : Int) : placeOf M.frs e a = placeOf N.frs e a := by
  rw [<- placeOf_norm M.frs, norm_eq h, placeOf_norm]
theorem norm_at {M N : Mv} (h : M.Same N) (k : Nat) : (M.frs.getD k default).norm = (N.frs.getD k default).norm := by
  rw [<- norm_getD, norm_eq h, norm_getD]
theorem own_same {M N : Mv} (h : M.Same N) (k : Nat) : (M.frs.getD k default).o = (N.frs.getD k default).o := by have := congrArg Fr.o (norm_at h k); exact this
theorem ws_same {M N : Mv} (h : M.Same N) (k : Nat) : (M.frs.getD k default).ws = (N.frs.getD k default).ws := by have := congrArg Fr.ws (norm_at h k); exact this
theorem set_same {M N : Mv} (h : N.Same M) (j : Nat) (f g : Fr) (hfg : j < M.frs.length -> f.Same g) : Mv.Same { N with frs := N.frs.set j f } { M with frs := M.frs.set j g } := by
  by_cases hj : j < M.frs.length
  · have hj' : j < N.frs.length := by rw [h.len]; exact hj
    refine ⟨by simpa using h.len, fun i hi => ?_, h.en, h.qu⟩
    have hi' : i < N.frs.length := by simpa using hi
    show ((N.frs.set j f).getD i default).Same ((M.frs.set j g).getD i default)
    rw [getD_set _ _ _ _ hj', getD_set _ _ _ _ hj]
    by_cases e : i = j
    · rw [if_pos e, if_pos e]; exact hfg hj
    · rw [if_neg e, if_neg e]; exact h.fr i hi'
  · have hj' : ¬ j < N.frs.length := by rw [h.len]; exact hj
    rw [List.set_eq_of_length_le (by omega), List.set_eq_of_length_le (by omega)]
    exact h
theorem putS_size (p r : Int) (hp : (Lit.int .i64 p).wf = true) (hr : (Lit.int .i64 r).wf = true) : (putS p r).size <= 100 := by
  unfold putS entryL
  rw [txt_size, List.length_append, List.length_append]
  have := numsL_le [p, r] fun n hn => by
    simp only [List.mem_cons, List.not_mem_nil, or_false] at hn
    rcases hn with rfl | rfl
    · exact hp
    · exact hr
  simp only [sPage, List.length_cons, List.length_nil] at this ⊢
  omega
theorem heldS_size (p : Int) (ws : List Int) (hp : (Lit.int .i64 p).wf = true) (hw : ∀ n ∈ ws, (Lit.int .i64 n).wf = true) (h8 : ws.length = 8) : (heldS p ws).size <= 1000 := by
  unfold heldS entryL
  rw [txt_size, List.length_append, List.length_append]
  have := numsL_le (p :: ws) fun n hn => by
    rcases List.mem_cons.1 hn with rfl | hn
    · exact hp
    · exact hw n hn
  simp only [sWords, List.length_cons, List.length_nil] at this ⊢
  omega
def putF (M : Mv) (e f a r : Int) : Int :=
  if askF M e 1 = 0 then (if inB f 0 23 = true then (if (inB a 0 7 && inB r 0 7) = true then (if (M.frs.getD f.toNat default).o = 0 then (if placeOf M.frs e a < 0 then logF M (e - 1).toNat (putS a r) else 6) else 6) else 2) else 2) else askF M e 1
def putFr (M : Mv) (j : Nat) (e a r : Int) : Fr := { M.frs.getD j default with o := e, at_ := a, r := r }
def putM (M : Mv) (e f a r : Int) : Mv :=
  if putF M e f a r = 0 then { M with frs := M.frs.set f.toNat (putFr M f.toNat e a r), ens := M.ens.set (e - 1).toNat ((M.ens.getD (e - 1).toNat default).withLog (putS a r)) } else noM
theorem logF_same {M N : Mv} (h : M.Same N) (m : Nat) (s : ByteArray) : logF M m s = logF N m s := by unfold logF; rw [h.en]
theorem putF_same {M N : Mv} (h : M.Same N) (e f a r : Int) : putF M e f a r = putF N e f a r := by
  unfold putF; rw [askF_same h, own_same h, placeOf_same h, logF_same h]
theorem putM_same {M N : Mv} (h : M.Same N) (e f a r : Int) : (putM M e f a r).Same (putM N e f a r) := by
  unfold putM
  rw [putF_same h, h.en]
  split
  · have := set_same h f.toNat (putFr M f.toNat e a r) (putFr N f.toNat e a r) (fun _ => ⟨rfl, rfl, rfl, ws_same h _⟩)
    exact ⟨this.len, this.fr, rfl, h.qu⟩
  · exact Mv.Same.refl _
theorem putM_bad {M : Mv} {e f a r : Int} (h : putF M e f a r ≠ 0) : putM M e f a r = noM := if_neg h
def meaS (M : Mv) (e a : Int) : ByteArray := heldS a (M.frs.getD (placeOf M.frs e a).toNat default).ws
def meaF (M : Mv) (e a : Int) : Int :=
  if askF M e 1 = 0 then (if placeOf M.frs e a < 0 then 5 else logF M (e - 1).toNat (meaS M e a)) else askF M e 1
def meaM (M : Mv) (e a : Int) : Mv :=
  if meaF M e a = 0 then { M with ens := M.ens.set (e - 1).toNat ((M.ens.getD (e - 1).toNat default).withLog (meaS M e a)) } else noM
theorem meaS_same {M N : Mv} (h : M.Same N) (e a : Int) : meaS M e a = meaS N e a := by unfold meaS; rw [placeOf_same h, ws_same h]
theorem meaF_same {M N : Mv} (h : M.Same N) (e a : Int) : meaF M e a = meaF N e a := by
  unfold meaF; rw [askF_same h, placeOf_same h, meaS_same h, logF_same h]
theorem meaM_same {M N : Mv} (h : M.Same N) (e a : Int) : (meaM M e a).Same (meaM N e a) := by
  unfold meaM
  rw [meaF_same h, meaS_same h, h.en]
  split
  · exact ⟨h.len, h.fr, rfl, h.qu⟩
  · exact Mv.Same.refl _
theorem meaM_bad {M : Mv} {e a : Int} (h : meaF M e a ≠ 0) : meaM M e a = noM := if_neg h
theorem fr_at {M : Mv} {w : World} (hM : MachAt w M) {j : Nat} (hj : j < M.frs.length) :
    ∃ fb fo, M.fa = some ⟨fb, fo, none⟩ /\ ∀ w1, Below w.heap.size w w1 -> w1.cell? ⟨fb, fo + j * 4, none⟩ = some (.int .i64 (M.frs.getD j default).o) /\ w1.cell? ⟨fb, fo + j * 4 + 3, none⟩ = some (.slice (M.frs.getD j default).a (M.frs.getD j default).ws.length (M.frs.getD j default).cap) := by
  obtain ⟨fb, fo, e, c0, _, _, c3⟩ := hM.frame hj
  exact ⟨fb, fo, e, fun w1 hb => ⟨(hb.cell (p := ⟨fb, _, none⟩) (lt_of_cell c0)).trans c0, (hb.cell (p := ⟨fb, _, none⟩) (lt_of_cell c3)).trans c3⟩⟩
theorem Owned.put3 {n0 : Nat} {w : World} {M : Mv} (h : Owned n0 w M) {fb fo k : Nat} (he : M.fa = some ⟨fb, fo, none⟩) (hk : k < M.frs.length) {o a r : Int} (wo : (Lit.int .i64 o).wf = true) (wa : (Lit.int .i64 a).wf = true) (wr : (Lit.int .i64 r).wf = true) :
    Owned n0 (((w.setCell ⟨fb, fo + k * 4, none⟩ (.int .i64 o)).setCell ⟨fb, fo + k * 4 + 1, none⟩ (.int .i64 a)).setCell ⟨fb, fo + k * 4 + 2, none⟩ (.int .i64 r)) { M with frs := M.frs.set k { M.frs.getD k default with o := o, at_ := a, r := r } } := by
  obtain ⟨E, hE⟩ : ∃ E, E = M.frs.getD k default := ⟨_, rfl⟩
  have g : ∀ (N : Mv) (e : Fr), k < N.frs.length -> (N.frs.set k e).getD k default = e := fun N e hk => by rw [getD_set _ _ _ _ hk, if_pos rfl]
  have step : ∀ {w : World} {N : Mv} (_ : Owned n0 w N) (_ : N.fa = some ⟨fb, fo, none⟩) (_ : k < N.frs.length) (i0 : Nat) (_ : i0 < 4) (e0 e' : Fr) (v : Value) (_ : N.frs.getD k default = e0) (_ : (e0.Ok w) -> e'.Ok w) (_ : e'.a = e0.a) (_ : ∀ i, i < 4 -> e'.cells[i]? = if i = i0 then some v else e0.cells[i]?),
      Owned n0 (w.setCell ⟨fb, fo + k * 4 + i0, none⟩ v) { N with frs := N.frs.set k e' } := fun h he hk i0 hi e0 e' v h0 hok ha hx => h.setFr he hk hi (hok (h0 ▸ h.at_.frok k hk)) (by rw [h0]; exact ha) (by rw [h0]; exact hx)
  have s1 := step h he hk 0 (by omega) E { E with o := o } (.int .i64 o) hE.symm (fun q => ⟨wo, q.wat, q.wr, q.len, q.ints, q.wws⟩) rfl (fun i hi => by match i, hi with | 0, _ => rfl | 1, _ => rfl | 2, _ => rfl | 3, _ => rfl)
  have s2 := step s1 he (by simpa using hk) 1 (by omega) _ { E with o := o, at_ := a } (.int .i64 a) (g _ _ hk) (fun q => ⟨q.wo, wa, q.wr, q.len, q.ints, q.wws⟩) rfl (fun i hi => by match i, hi with | 0, _ => rfl | 1, _ => rfl | 2, _ => rfl | 3, _ => rfl)
  have s3 := step s2 he (by simpa using hk) 2 (by omega) _ { E with o := o, at_ := a, r := r } (.int .i64 r) (g _ _ (by simpa using hk)) (fun q => ⟨q.wo, q.wat, wr, q.len, q.ints, q.wws⟩) rfl (fun i hi => by match i, hi with | 0, _ => rfl | 1, _ => rfl | 2, _ => rfl | 3, _ => rfl)
  simp only [List.set_set, Nat.add_zero] at s3
  rw [<- hE]
  exact s3
theorem put3_below {w0 w : World} {B fb : Nat} {v0 v1 v2 : Value} {a : Nat} (h : Below B w0 w) (hb : B <= fb) : Below B w0 (((w.setCell ⟨fb, a, none⟩ v0).setCell ⟨fb, a + 1, none⟩ v1).setCell ⟨fb, a + 2, none⟩ v2) :=
  ((h.setCell (by simpa using hb) _).setCell (by simpa using hb) _).setCell (by simpa using hb) _
theorem put3_heap {w : World} {fb : Nat} {v0 v1 v2 : Value} {a b : Nat} (h : b ≠ fb) : (((w.setCell ⟨fb, a, none⟩ v0).setCell ⟨fb, a + 1, none⟩ v1).setCell ⟨fb, a + 2, none⟩ v2).heap[b]? = w.heap[b]? := by
  rw [Below.heap_setCell _ _ _ _ h, Below.heap_setCell _ _ _ _ h, Below.heap_setCell _ _ _ _ h]
theorem put3_size {w : World} {fb : Nat} {v0 v1 v2 : Value} {a : Nat} : (((w.setCell ⟨fb, a, none⟩ v0).setCell ⟨fb, a + 1, none⟩ v1).setCell ⟨fb, a + 2, none⟩ v2).heap.size = w.heap.size := by simp [World.setCell]
end Go.Proofs.YtdngbojbpmdegaaGreatDoor

namespace Go.Proofs.YtdngbojbpmdegaaGreatDoor
open Go.RowKit
set_option maxRecDepth 100000 in
set_option maxHeartbeats 4000000 in
theorem put_any (M : Mv) (e f a r : Int) (w : World) (hM : MachAt w M) (hF : M.Fits) (wa : (Lit.int .i64 a).wf = true) (wr : (Lit.int .i64 r).wf = true) (ht : Tab w) :
    Calls Tryz.prog 93 #[M.val, .int .i64 e, .int .i64 f, .int .i64 a, .int .i64 r] w fun x w' => ∃ N : Mv, x = .returned (.tuple #[N.val, .int .i64 (putF M e f a r)]) /\ N.Same (putM M e f a r) /\ Owned w.heap.size w' N /\ Below w.heap.size w w' := by
  have h1 := fun w' (h : Below w.heap.size w w') => checkOpened_any M e w' (hM.below h)
  have h3 := fun w' (h : Below w.heap.size w w') => added_any a r w' wa wr (ht.below h)
  have h4 := fun w' (h : Below w.heap.size w w') => place_any M e a w' (hM.below h)
  obtain ⟨RM, hRM⟩ : ∃ RM, Hid (RM = putM M e f a r) := ⟨_, rfl⟩
  obtain ⟨rf, hrf⟩ : ∃ rf, Hid (rf = putF M e f a r) := ⟨_, rfl⟩
  rw [<- hRM.out, <- hrf.out]
  have hF0 : putF M e f a r = if askF M e 1 = 0 then (if inB f 0 23 = true then (if (inB a 0 7 && inB r 0 7) = true then (if (M.frs.getD f.toNat default).o = 0 then (if placeOf M.frs e a < 0 then logF M (e - 1).toNat (putS a r) else 6) else 6) else 2) else 2) else askF M e 1 := rfl
  by_cases hz : askF M e 1 = 0
  · rw [if_pos hz] at hF0
    rw [hz] at h1
    cases hf : inB f 0 23 with
    | false =>
      rw [hf, if_neg (by decide)] at hF0
      have e1 : rf = 2 := by rw [hrf.out, hF0]
      have RN : RM = noM := by rw [hRM.out]; exact putM_bad (by rw [hF0]; decide)
      subst RN e1
      clear hRM hrf hF0 hM hF hz h3 h4 ht
      unfold Mv.val at h1 ⊢
      obtain ⟨fa, frs, fcap, ea, ens, ecap, qa, qus, qcap⟩ := M
      dsimp only at *
      have B2 : ∀ o1 o2, Hid (Below w.heap.size w ((w.alloc o1).alloc o2)) := fun o1 o2 => a2B _ _ _
      have HX : ∀ o1 o2 w1, Hid (Below ((w.alloc o1).alloc o2).heap.size ((w.alloc o1).alloc o2) w1 -> Below w.heap.size w w1) := fun o1 o2 w1 h => (B2 o1 o2).out.trans (h.mono (by simp; omega))
      have CF : Hid (_) := boxes_blk w (.slice fa frs.length fcap) (.slice ea ens.length ecap) (.slice qa qus.length qcap)
      go_enter Tryz.func93, Tryz.ntmps93
      go_wp2_with (first
        | (go_at_call 128; refine (h1 _ (B2 _ _).out).mono ?_; rintro x w1 ⟨rfl, hb1⟩; obtain ⟨AB, RB⟩ := CF.out w1 hb1; have HAB1 : Hid (_) := AB; have HRB1 : Hid (_) := RB; have HB1 : Hid (Below w.heap.size w w1) := (HX _ _ _).out hb1; obtain ⟨m0, m1, m2, _, _, _, ml⟩ := box_cells AB; clear hb1 CF AB RB; obtain ⟨r0, r1, r2, rf0, rf1, rf2, rl⟩ := box_cells HRB1.out)
        | (go_at_call 129; refine (isFrameNumber_any _ _).mono ?_; rintro x w0 ⟨rfl, rfl⟩)
        | fail)
      obtain ⟨k0, k1, k2⟩ := blk3 (v0 := .slice none 0 0) (v1 := .slice none 0 0) (v2 := .slice none 0 0) r0 r1 r2
      (try simp only [Exit.inBlock, Exit.then])
      refine bodyPost_ret (by simp [results, Tryz.results93, go_sem, k0, k1, k2]; try rfl) rfl ?_
      exact ⟨noM, rfl, Mv.Same.refl _, noM_own _ _, blk3_below HB1.out (by omega)⟩
    | true =>
      rw [hf, if_pos rfl] at hF0
      cases ha : (inB a 0 7 && inB r 0 7) with
      | false =>
        rw [ha, if_neg (by decide)] at hF0
        simp only [ha, Bool.false_eq_true, if_false] at h3
        have e1 : rf = 2 := by rw [hrf.out, hF0]
        have RN : RM = noM := by rw [hRM.out]; exact putM_bad (by rw [hF0]; decide)
        subst RN e1
        clear hRM hrf hF0 hM hF hz h4 ht
        unfold Mv.val at h1 ⊢
        obtain ⟨fa, frs, fcap, ea, ens, ecap, qa, qus, qcap⟩ := M
        dsimp only at *
        have B2 : ∀ o1 o2, Hid (Below w.heap.size w ((w.alloc o1).alloc o2)) := fun o1 o2 => a2B _ _ _
        have HX : ∀ o1 o2 w1, Hid (Below ((w.alloc o1).alloc o2).heap.size ((w.alloc o1).alloc o2) w1 -> Below w.heap.size w w1) := fun o1 o2 w1 h => (B2 o1 o2).out.trans (h.mono (by simp; omega))
        have CF : Hid (_) := boxes_blk w (.slice fa frs.length fcap) (.slice ea ens.length ecap) (.slice qa qus.length qcap)
        go_enter Tryz.func93, Tryz.ntmps93
        go_wp2_with (first
          | (go_at_call 128; refine (h1 _ (B2 _ _).out).mono ?_; rintro x w1 ⟨rfl, hb1⟩; obtain ⟨AB, RB⟩ := CF.out w1 hb1; have HAB1 : Hid (_) := AB; have HRB1 : Hid (_) := RB; have HB1 : Hid (Below w.heap.size w w1) := (HX _ _ _).out hb1; obtain ⟨m0, m1, m2, _, _, _, ml⟩ := box_cells AB; clear hb1 CF AB RB)
          | (go_at_call 129; refine (isFrameNumber_any _ _).mono ?_; rintro x w0 ⟨rfl, rfl⟩)
          | (go_at_call 89; refine (h3 _ HB1.out).mono ?_; rintro x w2 ⟨rfl, hb2⟩; have HAB2 : Hid (_) := ((hb2.block _ (Array.getElem?_eq_some_iff.1 HAB1.out).1).trans HAB1.out); have HRB2 : Hid (_) := ((hb2.block _ (Array.getElem?_eq_some_iff.1 HRB1.out).1).trans HRB1.out); have HB2 : Hid (Below w.heap.size w w2) := HB1.out.trans (hb2.mono HB1.out.size); clear m0 m1 m2 ml; obtain ⟨m0, m1, m2, _, _, _, ml⟩ := box_cells HAB2.out; clear hb2 HAB1 HRB1; obtain ⟨r0, r1, r2, rf0, rf1, rf2, rl⟩ := box_cells HRB2.out)
          | fail)
        obtain ⟨k0, k1, k2⟩ := blk3 (v0 := .slice none 0 0) (v1 := .slice none 0 0) (v2 := .slice none 0 0) r0 r1 r2
        (try simp only [Exit.inBlock, Exit.then])
        refine bodyPost_ret (by simp [results, Tryz.results93, go_sem, k0, k1, k2]; try rfl) rfl ?_
        exact ⟨noM, rfl, Mv.Same.refl _, noM_own _ _, blk3_below HB2.out (by omega)⟩
      | true =>
        rw [ha, if_pos rfl] at hF0
        simp only [ha, if_true] at h3
        obtain ⟨s, HS⟩ : ∃ s, Hid (putS a r = s) := ⟨_, rfl⟩
        have hss : s.size <= 1000000 := by have := putS_size a r wa wr; rw [HS.out] at this; omega
        rw [HS.out] at h3 hF0
        obtain ⟨hz0, m, rfl, hm4, _, _⟩ := askF_zero hz
        have hfi := inB_iff.1 hf
        obtain ⟨j, rfl⟩ : ∃ j : Nat, f = (j : Int) := ⟨f.toNat, by omega⟩
        have hj : j < 24 := by omega
        have hji : (j : Int) < 24 := by omega
        simp only [Int.toNat_natCast, show ((m : Int) + 1 - 1).toNat = m by omega] at hF0
        have HS24 : Hid (M.frs.length = 24) := (machF_sizes hz0).1
        have HS4 : Hid (M.ens.length = 4) := (machF_sizes hz0).2.1
        obtain ⟨fb, fo, hfa, hfr⟩ := fr_at hM (j := j) (by have := HS24.out; omega)
        obtain ⟨ow, HOW⟩ : ∃ ow, Hid ((M.frs.getD j default).o = ow) := ⟨_, rfl⟩
        have hown := fun w1 (h : Below w.heap.size w w1) => (hfr w1 h).1
        rw [HOW.out] at hF0 hown
        clear hfr
        by_cases ho : ow = 0
        · subst ho
          rw [if_pos rfl] at hF0
          obtain ⟨pl, hpl⟩ : ∃ pl, Hid (placeOf M.frs ((m : Int) + 1) a = pl) := ⟨_, rfl⟩
          rw [hpl.out] at hF0 h4
          by_cases hp : pl < 0
          · rw [if_pos hp] at hF0
            have h5 := fun w' (h : Below w.heap.size w w') => logged_any M m s w' (hM.below h) hF hz0 hm4 hss
            have HMM : Hid (M = M) := rfl
            by_cases hl : logF M m s = 0
            · rw [hl] at hF0 h5
              have e1 : rf = 0 := by rw [hrf.out, hF0]
              have RN : Hid (RM = { M with frs := M.frs.set j (putFr M j ((m : Int) + 1) a r), ens := M.ens.set m ((M.ens.getD m default).withLog s) }) := by
                show _ = _
                rw [hRM.out]; unfold putM; rw [hF0, if_pos rfl, HS.out, show ((m : Int) + 1 - 1).toNat = m by omega, Int.toNat_natCast]
              have HL : Hid (logM M m s = { M with ens := M.ens.set m ((M.ens.getD m default).withLog s) }) := by show _ = _; unfold logM; rw [hl, if_pos rfl]
              have wwa := wa
              have wwr := wr
              have wwm : (Lit.int .i64 ((m : Int) + 1)).wf = true := wf_of (by omega)
              have HW : Hid (_) := And.intro wwm (And.intro wwa wwr)
              subst e1
              clear hRM hrf hF0 hM hF hz hz0 hfi hss hl wa wr wwa wwr wwm
              unfold Mv.val at h1 h4 h5 ⊢
              obtain ⟨fa, frs, fcap, ea, ens, ecap, qa, qus, qcap⟩ := M
              dsimp only at *
              have B2 : ∀ o1 o2, Hid (Below w.heap.size w ((w.alloc o1).alloc o2)) := fun o1 o2 => a2B _ _ _
              have HX : ∀ o1 o2 w1, Hid (Below ((w.alloc o1).alloc o2).heap.size ((w.alloc o1).alloc o2) w1 -> Below w.heap.size w w1) := fun o1 o2 w1 h => (B2 o1 o2).out.trans (h.mono (by simp; omega))
              have CF : Hid (_) := boxes_blk w (.slice fa frs.length fcap) (.slice ea ens.length ecap) (.slice qa qus.length qcap)
              subst hfa
              rw [HS24.out] at h1 h4 h5 CF ⊢
              go_enter Tryz.func93, Tryz.ntmps93
              go_upto_region 12 with (first
                | (go_at_call 128; refine (h1 _ (B2 _ _).out).mono ?_; rintro x w1 ⟨rfl, hb1⟩; obtain ⟨AB, RB⟩ := CF.out w1 hb1; have HAB1 : Hid (_) := AB; have HRB1 : Hid (_) := RB; have HB1 : Hid (Below w.heap.size w w1) := (HX _ _ _).out hb1; obtain ⟨m0, m1, m2, _, _, _, ml⟩ := box_cells AB; clear hb1 CF AB RB)
                | (go_at_call 129; refine (isFrameNumber_any _ _).mono ?_; rintro x w0 ⟨rfl, rfl⟩)
                | (go_at_call 89; refine (h3 _ HB1.out).mono ?_; rintro x w2 ⟨rfl, hb2⟩; have HAB2 : Hid (_) := ((hb2.block _ (Array.getElem?_eq_some_iff.1 HAB1.out).1).trans HAB1.out); have HRB2 : Hid (_) := ((hb2.block _ (Array.getElem?_eq_some_iff.1 HRB1.out).1).trans HRB1.out); have HB2 : Hid (Below w.heap.size w w2) := HB1.out.trans (hb2.mono HB1.out.size); clear m0 m1 m2 ml; obtain ⟨m0, m1, m2, _, _, _, ml⟩ := box_cells HAB2.out; clear hb2 HAB1 HRB1; have t0 := hown _ HB2.out)
                | (go_at_call 22; refine (h4 _ HB2.out).mono ?_; rintro x w3 ⟨rfl, hb3⟩; have HAB3 : Hid (_) := ((hb3.block _ (Array.getElem?_eq_some_iff.1 HAB2.out).1).trans HAB2.out); have HRB3 : Hid (_) := ((hb3.block _ (Array.getElem?_eq_some_iff.1 HRB2.out).1).trans HRB2.out); have HB3 : Hid (Below w.heap.size w w3) := HB2.out.trans (hb3.mono HB2.out.size); clear m0 m1 m2 ml; obtain ⟨m0, m1, m2, _, _, _, ml⟩ := box_cells HAB3.out; clear hb3 HAB2 HRB2)
                | (go_at_call 130; refine (h5 _ HB3.out).mono ?_; rintro x w4 ⟨N, rfl, hS, hO, hb4⟩; obtain ⟨nfa, nfrs, nfcap, nea, nens, necap, nqa, nqus, nqcap⟩ := N; have HSN : Hid (_) := hS; have HON : Hid (_) := hO; have HB34 : Hid (_) := hb4; have HRL : Hid (w.heap.size + 1 < w3.heap.size) := (Array.getElem?_eq_some_iff.1 HRB3.out).1; have HRB4 : Hid (_) := ((hb4.block _ HRL.out).trans HRB3.out); have HB4 : Hid (Below w.heap.size w w4) := HB3.out.trans (hb4.mono HB3.out.size); clear hS hO hb4 m0 m1 m2 ml HAB3 HRB3; have H24 : Hid (nfrs.length = 24) := (by have := HSN.out.len; rw [HL.out] at this; exact this.trans HS24.out); rw [H24.out]; dsimp only)
                | fail)
              obtain ⟨nb, no, hnfa, _, _, _, _⟩ := HON.out.at_.frame (j := j) (by dsimp only; have := H24.out; omega)
              dsimp only at hnfa
              subst hnfa
              obtain ⟨W5, hW5⟩ : ∃ W5, Hid (W5 = w4.alloc (.cells #[.slice (some ⟨nb, no, none⟩) 24 nfcap, .slice nea nens.length necap, .slice nqa nqus.length nqcap] 29)) := ⟨_, rfl⟩
              rw [<- hW5.out]
              have HO5 : Hid (Owned w3.heap.size W5 _) := HON.out.below (w' := W5) (by rw [hW5.out]; exact (Below.refl _ _).alloc (Nat.le_refl _) _)
              have HB5 : Hid (Below w.heap.size w W5) := by show Below _ _ _; rw [hW5.out]; exact HB4.out.alloc HB4.out.size _
              have HBX5 : Hid (W5.heap[w4.heap.size]? = some (.cells #[.slice (some ⟨nb, no, none⟩) 24 nfcap, .slice nea nens.length necap, .slice nqa nqus.length nqcap] 29 (0, 0))) := by show _ = _; rw [hW5.out]; exact a11 _ _
              have HR5 : Hid (W5.heap[w.heap.size + 1]? = some (.cells #[.slice none 0 0, .slice none 0 0, .slice none 0 0] 29 (0, 0))) := by show _ = _; rw [hW5.out, Below.heap_alloc _ _ _ (by have := HRL.out; have := HB34.out.size; omega)]; exact HRB4.out
              have nn := HON.out.nf nb no none rfl
              have nn5 := HO5.out.nf nb no none rfl
              obtain ⟨_, _, hx, t0', t1', t2', _⟩ := HO5.out.at_.frame (j := j) (by dsimp only; have := H24.out; omega)
              dsimp only at hx
              simp only [Option.some.injEq, Addr.mk.injEq, and_true] at hx
              obtain ⟨rfl, rfl⟩ := hx
              have f0 : W5.frozen? ⟨nb, no + j * 4, none⟩ = false := nn5.2.2 _
              have f1 : W5.frozen? ⟨nb, no + j * 4 + 1, none⟩ = false := nn5.2.2 _
              have f2 : W5.frozen? ⟨nb, no + j * 4 + 2, none⟩ = false := nn5.2.2 _
              have fl : nb < W5.heap.size := nn5.2.1
              have HNB : Hid (w3.heap.size <= nb /\ nb < w4.heap.size) := ⟨nn.1, nn.2.1⟩
              obtain ⟨y0, y1, y2, _, _, _, yl⟩ := box_cells HBX5.out
              dsimp only at t0' t1' t2'
              generalize (nfrs.getD j default).o = u0 at t0'
              generalize (nfrs.getD j default).at_ = u1 at t1'
              generalize (nfrs.getD j default).r = u2 at t2'
              clear hW5 HRB4 HON nn nn5 h1 h3 h4 h5 hown t0 HX B2
              go_upto_region 16 with fail
              have HO6 := HO5.out.put3 (k := j) rfl (by dsimp only; have := H24.out; omega) HW.out.1 HW.out.2.1 HW.out.2.2
              dsimp only at HO6
              have HB6 := put3_below (v0 := .int .i64 ((m : Int) + 1)) (v1 := .int .i64 a) (v2 := .int .i64 r) (a := no + j * 4) HB5.out (show w.heap.size <= nb by have := HNB.out; have := HRL.out; omega)
              have k6 := fun b (hb : b ≠ nb) => put3_heap (w := W5) (fb := nb) (v0 := .int .i64 ((m : Int) + 1)) (v1 := .int .i64 a) (v2 := .int .i64 r) (a := no + j * 4) hb
              obtain ⟨W6, hW6⟩ : ∃ W6, Hid (W6 = ((W5.setCell ⟨nb, no + j * 4, none⟩ (.int .i64 ((m : Int) + 1))).setCell ⟨nb, no + j * 4 + 1, none⟩ (.int .i64 a)).setCell ⟨nb, no + j * 4 + 2, none⟩ (.int .i64 r)) := ⟨_, rfl⟩
              rw [<- hW6.out] at HO6 HB6 k6 ⊢
              have HBX6 := (k6 w4.heap.size (by have := HNB.out; omega)).trans HBX5.out
              have HR6 := (k6 (w.heap.size + 1) (by have := HNB.out; have := HRL.out; omega)).trans HR5.out
              have HO6' : Hid (_) := HO6
              have HB6' : Hid (_) := HB6
              clear y0 y1 y2 yl t0' t1' t2' f0 f1 f2 fl
              obtain ⟨y0, y1, y2, _, _, _, yl⟩ := box_cells HBX6
              obtain ⟨r0, r1, r2, rf0, rf1, rf2, rl⟩ := box_cells HR6
              clear hW6 k6 HBX6 HR6 HO6 HB6 HBX5 HR5 HO5
              go_wp2
              obtain ⟨k0, k1, k2⟩ := blk3 (v0 := .slice (some ⟨nb, no, none⟩) 24 nfcap) (v1 := .slice nea nens.length necap) (v2 := .slice nqa nqus.length nqcap) r0 r1 r2
              (try simp only [Exit.inBlock, Exit.then])
              refine bodyPost_ret (by simp [results, Tryz.results93, go_sem, k0, k1, k2]; try rfl) rfl ?_
              refine ⟨⟨some ⟨nb, no, none⟩, nfrs.set j { nfrs.getD j default with o := (m : Int) + 1, at_ := a, r := r }, nfcap, nea, nens, necap, nqa, nqus, nqcap⟩, by simp [H24.out], ?_, (HO6'.out.keep (fun b hb _ => blk3_heap b (by have := HRL.out; omega)) (by rw [blk3_size]; exact Nat.le_refl _)).mono HB3.out.size, blk3_below HB6'.out (by omega)⟩
              have hs := HSN.out
              rw [HL.out] at hs
              have := set_same hs j { nfrs.getD j default with o := (m : Int) + 1, at_ := a, r := r } (putFr ⟨some ⟨fb, fo, none⟩, frs, fcap, ea, ens, ecap, qa, qus, qcap⟩ j ((m : Int) + 1) a r) (fun _ => ⟨rfl, rfl, rfl, ws_same hs j⟩)
              rw [RN.out]
              exact this
            · have e1 : rf = logF M m s := by rw [hrf.out, hF0]
              have RN : RM = noM := by rw [hRM.out]; exact putM_bad (by rw [hF0]; exact hl)
              have hl' : (logF M m s != 0) = true := by simpa using hl
              subst RN e1
              clear hRM hrf hF0 hM hF hz hz0 hfi hss hl
              generalize logF M m s = z at h5 hl' ⊢
              unfold Mv.val at h1 h4 h5 ⊢
              obtain ⟨fa, frs, fcap, ea, ens, ecap, qa, qus, qcap⟩ := M
              dsimp only at *
              have B2 : ∀ o1 o2, Hid (Below w.heap.size w ((w.alloc o1).alloc o2)) := fun o1 o2 => a2B _ _ _
              have HX : ∀ o1 o2 w1, Hid (Below ((w.alloc o1).alloc o2).heap.size ((w.alloc o1).alloc o2) w1 -> Below w.heap.size w w1) := fun o1 o2 w1 h => (B2 o1 o2).out.trans (h.mono (by simp; omega))
              have CF : Hid (_) := boxes_blk w (.slice fa frs.length fcap) (.slice ea ens.length ecap) (.slice qa qus.length qcap)
              subst hfa
              rw [HS24.out] at h1 h4 h5 CF ⊢
              go_enter Tryz.func93, Tryz.ntmps93
              go_upto_region 12 with (first
                | (go_at_call 128; refine (h1 _ (B2 _ _).out).mono ?_; rintro x w1 ⟨rfl, hb1⟩; obtain ⟨AB, RB⟩ := CF.out w1 hb1; have HAB1 : Hid (_) := AB; have HRB1 : Hid (_) := RB; have HB1 : Hid (Below w.heap.size w w1) := (HX _ _ _).out hb1; obtain ⟨m0, m1, m2, _, _, _, ml⟩ := box_cells AB; clear hb1 CF AB RB)
                | (go_at_call 129; refine (isFrameNumber_any _ _).mono ?_; rintro x w0 ⟨rfl, rfl⟩)
                | (go_at_call 89; refine (h3 _ HB1.out).mono ?_; rintro x w2 ⟨rfl, hb2⟩; have HAB2 : Hid (_) := ((hb2.block _ (Array.getElem?_eq_some_iff.1 HAB1.out).1).trans HAB1.out); have HRB2 : Hid (_) := ((hb2.block _ (Array.getElem?_eq_some_iff.1 HRB1.out).1).trans HRB1.out); have HB2 : Hid (Below w.heap.size w w2) := HB1.out.trans (hb2.mono HB1.out.size); clear m0 m1 m2 ml; obtain ⟨m0, m1, m2, _, _, _, ml⟩ := box_cells HAB2.out; clear hb2 HAB1 HRB1; have t0 := hown _ HB2.out)
                | (go_at_call 22; refine (h4 _ HB2.out).mono ?_; rintro x w3 ⟨rfl, hb3⟩; have HAB3 : Hid (_) := ((hb3.block _ (Array.getElem?_eq_some_iff.1 HAB2.out).1).trans HAB2.out); have HRB3 : Hid (_) := ((hb3.block _ (Array.getElem?_eq_some_iff.1 HRB2.out).1).trans HRB2.out); have HB3 : Hid (Below w.heap.size w w3) := HB2.out.trans (hb3.mono HB2.out.size); clear m0 m1 m2 ml; obtain ⟨m0, m1, m2, _, _, _, ml⟩ := box_cells HAB3.out; clear hb3 HAB2 HRB2)
                | (go_at_call 130; refine (h5 _ HB3.out).mono ?_; rintro x w4 ⟨N, rfl, hS, hO, hb4⟩; obtain ⟨nfa, nfrs, nfcap, nea, nens, necap, nqa, nqus, nqcap⟩ := N; have HSN : Hid (_) := hS; have HON : Hid (_) := hO; have HB34 : Hid (_) := hb4; have HRL : Hid (w.heap.size + 1 < w3.heap.size) := (Array.getElem?_eq_some_iff.1 HRB3.out).1; have HRB4 : Hid (_) := ((hb4.block _ HRL.out).trans HRB3.out); have HB4 : Hid (Below w.heap.size w w4) := HB3.out.trans (hb4.mono HB3.out.size); clear hS hO hb4 m0 m1 m2 ml HAB3 HRB3; dsimp only)
                | fail)
              obtain ⟨W5, hW5⟩ : ∃ W5, Hid (W5 = w4.alloc (.cells #[.slice nfa nfrs.length nfcap, .slice nea nens.length necap, .slice nqa nqus.length nqcap] 29)) := ⟨_, rfl⟩
              rw [<- hW5.out]
              have HB5 : Hid (Below w.heap.size w W5) := by show Below _ _ _; rw [hW5.out]; exact HB4.out.alloc HB4.out.size _
              have HR5 : W5.heap[w.heap.size + 1]? = some (.cells #[.slice none 0 0, .slice none 0 0, .slice none 0 0] 29 (0, 0)) := by rw [hW5.out, Below.heap_alloc _ _ _ (by have := HRL.out; have := HB34.out.size; omega)]; exact HRB4.out
              obtain ⟨r0, r1, r2, rf0, rf1, rf2, rl⟩ := box_cells HR5
              clear hW5 HR5 HRB4 HON h1 h3 h4 h5 hown t0 HX B2
              go_wp2
              obtain ⟨k0, k1, k2⟩ := blk3 (v0 := .slice none 0 0) (v1 := .slice none 0 0) (v2 := .slice none 0 0) r0 r1 r2
              (try simp only [Exit.inBlock, Exit.then])
              refine bodyPost_ret (by simp [results, Tryz.results93, go_sem, k0, k1, k2]; try rfl) rfl ?_
              exact ⟨noM, rfl, Mv.Same.refl _, noM_own _ _, blk3_below HB5.out (by omega)⟩
          · rw [if_neg hp] at hF0
            have hp' : 0 <= pl := by omega
            have e1 : rf = 6 := by rw [hrf.out, hF0]
            have RN : RM = noM := by rw [hRM.out]; exact putM_bad (by rw [hF0]; decide)
            subst RN e1
            clear hRM hrf hF0 hM hF hz hz0 hp hfi hss ht
            unfold Mv.val at h1 h4 ⊢
            obtain ⟨fa, frs, fcap, ea, ens, ecap, qa, qus, qcap⟩ := M
            dsimp only at *
            have B2 : ∀ o1 o2, Hid (Below w.heap.size w ((w.alloc o1).alloc o2)) := fun o1 o2 => a2B _ _ _
            have HX : ∀ o1 o2 w1, Hid (Below ((w.alloc o1).alloc o2).heap.size ((w.alloc o1).alloc o2) w1 -> Below w.heap.size w w1) := fun o1 o2 w1 h => (B2 o1 o2).out.trans (h.mono (by simp; omega))
            have CF : Hid (_) := boxes_blk w (.slice fa frs.length fcap) (.slice ea ens.length ecap) (.slice qa qus.length qcap)
            subst hfa
            rw [HS24.out] at h1 h4 CF ⊢
            go_enter Tryz.func93, Tryz.ntmps93
            go_wp2_with (first
              | (go_at_call 128; refine (h1 _ (B2 _ _).out).mono ?_; rintro x w1 ⟨rfl, hb1⟩; obtain ⟨AB, RB⟩ := CF.out w1 hb1; have HAB1 : Hid (_) := AB; have HRB1 : Hid (_) := RB; have HB1 : Hid (Below w.heap.size w w1) := (HX _ _ _).out hb1; obtain ⟨m0, m1, m2, _, _, _, ml⟩ := box_cells AB; clear hb1 CF AB RB)
              | (go_at_call 129; refine (isFrameNumber_any _ _).mono ?_; rintro x w0 ⟨rfl, rfl⟩)
              | (go_at_call 89; refine (h3 _ HB1.out).mono ?_; rintro x w2 ⟨rfl, hb2⟩; have HAB2 : Hid (_) := ((hb2.block _ (Array.getElem?_eq_some_iff.1 HAB1.out).1).trans HAB1.out); have HRB2 : Hid (_) := ((hb2.block _ (Array.getElem?_eq_some_iff.1 HRB1.out).1).trans HRB1.out); have HB2 : Hid (Below w.heap.size w w2) := HB1.out.trans (hb2.mono HB1.out.size); clear m0 m1 m2 ml; obtain ⟨m0, m1, m2, _, _, _, ml⟩ := box_cells HAB2.out; clear hb2 HAB1 HRB1; have t0 := hown _ HB2.out)
              | (go_at_call 22; refine (h4 _ HB2.out).mono ?_; rintro x w3 ⟨rfl, hb3⟩; have HAB3 : Hid (_) := ((hb3.block _ (Array.getElem?_eq_some_iff.1 HAB2.out).1).trans HAB2.out); have HRB3 : Hid (_) := ((hb3.block _ (Array.getElem?_eq_some_iff.1 HRB2.out).1).trans HRB2.out); have HB3 : Hid (Below w.heap.size w w3) := HB2.out.trans (hb3.mono HB2.out.size); clear m0 m1 m2 ml; obtain ⟨m0, m1, m2, _, _, _, ml⟩ := box_cells HAB3.out; clear hb3 HAB2 HRB2; obtain ⟨r0, r1, r2, rf0, rf1, rf2, rl⟩ := box_cells HRB3.out)
              | fail)
            obtain ⟨k0, k1, k2⟩ := blk3 (v0 := .slice none 0 0) (v1 := .slice none 0 0) (v2 := .slice none 0 0) r0 r1 r2
            (try simp only [Exit.inBlock, Exit.then])
            refine bodyPost_ret (by simp [results, Tryz.results93, go_sem, k0, k1, k2]; try rfl) rfl ?_
            exact ⟨noM, rfl, Mv.Same.refl _, noM_own _ _, blk3_below HB3.out (by omega)⟩
        · rw [if_neg ho] at hF0
          have ho' : (ow != 0) = true := by simpa using ho
          have e1 : rf = 6 := by rw [hrf.out, hF0]
          have RN : RM = noM := by rw [hRM.out]; exact putM_bad (by rw [hF0]; decide)
          subst RN e1
          clear hRM hrf hF0 hM hF hz hz0 h4 hfi hss ho ht
          unfold Mv.val at h1 ⊢
          obtain ⟨fa, frs, fcap, ea, ens, ecap, qa, qus, qcap⟩ := M
          dsimp only at *
          have B2 : ∀ o1 o2, Hid (Below w.heap.size w ((w.alloc o1).alloc o2)) := fun o1 o2 => a2B _ _ _
          have HX : ∀ o1 o2 w1, Hid (Below ((w.alloc o1).alloc o2).heap.size ((w.alloc o1).alloc o2) w1 -> Below w.heap.size w w1) := fun o1 o2 w1 h => (B2 o1 o2).out.trans (h.mono (by simp; omega))
          have CF : Hid (_) := boxes_blk w (.slice fa frs.length fcap) (.slice ea ens.length ecap) (.slice qa qus.length qcap)
          subst hfa
          rw [HS24.out] at h1 CF ⊢
          go_enter Tryz.func93, Tryz.ntmps93
          go_wp2_with (first
            | (go_at_call 128; refine (h1 _ (B2 _ _).out).mono ?_; rintro x w1 ⟨rfl, hb1⟩; obtain ⟨AB, RB⟩ := CF.out w1 hb1; have HAB1 : Hid (_) := AB; have HRB1 : Hid (_) := RB; have HB1 : Hid (Below w.heap.size w w1) := (HX _ _ _).out hb1; obtain ⟨m0, m1, m2, _, _, _, ml⟩ := box_cells AB; clear hb1 CF AB RB)
            | (go_at_call 129; refine (isFrameNumber_any _ _).mono ?_; rintro x w0 ⟨rfl, rfl⟩)
            | (go_at_call 89; refine (h3 _ HB1.out).mono ?_; rintro x w2 ⟨rfl, hb2⟩; have HAB2 : Hid (_) := ((hb2.block _ (Array.getElem?_eq_some_iff.1 HAB1.out).1).trans HAB1.out); have HRB2 : Hid (_) := ((hb2.block _ (Array.getElem?_eq_some_iff.1 HRB1.out).1).trans HRB1.out); have HB2 : Hid (Below w.heap.size w w2) := HB1.out.trans (hb2.mono HB1.out.size); clear m0 m1 m2 ml; obtain ⟨m0, m1, m2, _, _, _, ml⟩ := box_cells HAB2.out; clear hb2 HAB1 HRB1; obtain ⟨r0, r1, r2, rf0, rf1, rf2, rl⟩ := box_cells HRB2.out; have t0 := hown _ HB2.out)
            | fail)
          obtain ⟨k0, k1, k2⟩ := blk3 (v0 := .slice none 0 0) (v1 := .slice none 0 0) (v2 := .slice none 0 0) r0 r1 r2
          (try simp only [Exit.inBlock, Exit.then])
          refine bodyPost_ret (by simp [results, Tryz.results93, go_sem, k0, k1, k2]; try rfl) rfl ?_
          exact ⟨noM, rfl, Mv.Same.refl _, noM_own _ _, blk3_below HB2.out (by omega)⟩
  · have hz1 : (askF M e 1 != 0) = true := by simpa using hz
    have hz2 : (askF M e 1 == 0) = false := by simpa using hz
    have e1 : rf = askF M e 1 := by rw [hrf.out, hF0, if_neg hz]
    have RN : RM = noM := by rw [hRM.out]; exact putM_bad (by rw [hF0, if_neg hz]; exact hz)
    subst RN e1
    clear hRM hrf hF0 hM hF h3 h4 hz ht
    generalize askF M e 1 = z at h1 hz1 hz2 ⊢
    unfold Mv.val at h1 ⊢
    obtain ⟨fa, frs, fcap, ea, ens, ecap, qa, qus, qcap⟩ := M
    dsimp only at *
    have B2 : ∀ o1 o2, Hid (Below w.heap.size w ((w.alloc o1).alloc o2)) := fun o1 o2 => a2B _ _ _
    have HX : ∀ o1 o2 w1, Hid (Below ((w.alloc o1).alloc o2).heap.size ((w.alloc o1).alloc o2) w1 -> Below w.heap.size w w1) := fun o1 o2 w1 h => (B2 o1 o2).out.trans (h.mono (by simp; omega))
    have CF : Hid (_) := boxes_blk w (.slice fa frs.length fcap) (.slice ea ens.length ecap) (.slice qa qus.length qcap)
    go_enter Tryz.func93, Tryz.ntmps93
    go_wp2_with (first
      | (go_at_call 128; refine (h1 _ (B2 _ _).out).mono ?_; rintro x w1 ⟨rfl, hb1⟩; obtain ⟨AB, RB⟩ := CF.out w1 hb1; have HAB1 : Hid (_) := AB; have HRB1 : Hid (_) := RB; have HB1 : Hid (Below w.heap.size w w1) := (HX _ _ _).out hb1; obtain ⟨m0, m1, m2, _, _, _, ml⟩ := box_cells AB; clear hb1 CF AB RB; obtain ⟨r0, r1, r2, rf0, rf1, rf2, rl⟩ := box_cells HRB1.out)
      | fail)
    obtain ⟨k0, k1, k2⟩ := blk3 (v0 := .slice none 0 0) (v1 := .slice none 0 0) (v2 := .slice none 0 0) r0 r1 r2
    (try simp only [Exit.inBlock, Exit.then])
    refine bodyPost_ret (by simp [results, Tryz.results93, go_sem, k0, k1, k2]; try rfl) rfl ?_
    exact ⟨noM, rfl, Mv.Same.refl _, noM_own _ _, blk3_below HB1.out (by omega)⟩
end Go.Proofs.YtdngbojbpmdegaaGreatDoor
