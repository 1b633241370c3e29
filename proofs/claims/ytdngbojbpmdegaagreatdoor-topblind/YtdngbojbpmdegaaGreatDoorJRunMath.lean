/-
  What slices.IndexFunc and slices.ContainsFunc answer at a list of frames, for Place: the first element, or whether there is one, of which the function that is handed in answers true. The condition: what that function answers. What the calls Place (epc) and PlaceOf (riddleref) answer for every machine: both answer the first frame that is the enclave's and stands at the place, or -1, and turn nothing that was in memory. No condition beside the machine's cells. The row of a machine's quotes (own work): all of its block is known, so that a quote may be put behind it. No condition. What an enclave does, step by step (own work): which frame a word stands in, what a step answers, and that a machine that may be stays one. No condition.
-/
import Derived.Test.YtdngbojbpmdegaaGreatDoorJIdxBase
import Derived.Deep.QuietTactic
import Derived.BigQuiet
import Derived.Test.YtdngbojbpmdegaaGreatDoorOwn
import Derived.Deep.AppendLies
import Derived.Test.YtdngbojbpmdegaaGreatDoorJGoodM
namespace Go.Proofs.YtdngbojbpmdegaaGreatDoor
open Go.RowKit

set_option maxHeartbeats 800000 in
theorem place_index (a : Option Addr) (xs : List Fr) (cap : Nat) (c0 c1 : Value) (p : Fr → Bool) (w : World) (hl : xs.length ≤ maxLen) (hx : RowsAt w 4 Fr.cells a xs)
    (hp : ∀ j, j < xs.length → ∀ w', Below w.heap.size w w' → Calls Tryz.prog 66 #[.agg #[.int .i64 (xs.getD j default).o, .int .i64 (xs.getD j default).at_, .int .i64 (xs.getD j default).r, .slice (xs.getD j default).a (xs.getD j default).ws.length (xs.getD j default).cap], c0, c1] w' fun e w'' => e = .returned (.bool (p (xs.getD j default))) ∧ Below w'.heap.size w' w'') :
    Calls Tryz.prog 67 #[.slice a xs.length cap, .func (.func 66) #[] #[c0, c1]] w fun e w' => e = .returned (.int .i64 (idxOf p xs)) ∧ Below w.heap.size w w' := by
  unfold maxLen at hl
  rcases hx with rfl | ⟨b, off, rfl, hc⟩
  · clear hp
    go_enter Tryz.func67, Tryz.ntmps67
    go_wp2
    refine wp_loop_rounds 1 ?_
    rw [rounds_succ]
    go_wp2
    go_ret
    exact ⟨rfl, Below.refl _ _⟩
  · go_enter Tryz.func67, Tryz.ntmps67
    go_wp2
    go_loopw [8] (fun i wr => ∃ k : Nat, k ≤ xs.length ∧ i = .int .i64 k ∧ Below w.heap.size w wr ∧ Hid (∀ j, j < k → p (xs.getD j default) = false)) (fun i _ => xs.length - (intOf i).toNat)
    case atStart => exact ⟨0, Nat.zero_le _, rfl, Below.refl _ _, fun j hj => absurd hj (by omega)⟩
    case round =>
      obtain ⟨k, hk, rfl, hbel, hid⟩ := hrel
      by_cases hlt : k < xs.length
      · have k0 := hc k hlt 0 (by omega); have k1 := hc k hlt 1 (by omega); have k2 := hc k hlt 2 (by omega); have k3 := hc k hlt 3 (by omega)
        have hcall := hp k hlt
        have HP : Hid (xs.getD k default = xs.getD k default) := rfl
        obtain ⟨P, hP⟩ : ∃ P, xs.getD k default = P := ⟨_, rfl⟩
        rw [hP] at k0 k1 k2 k3 hcall
        have HP : Hid (xs.getD k default = P) := hP
        clear hP hc hp
        have HQ : Hid (p P = p P) := rfl
        obtain ⟨o, at_, r, fa, ws, fcap⟩ := P
        simp only [Fr.cells] at k0 k1 k2 k3
        have bl : b < w.heap.size := lt_of_cell k0
        have l0 : wr.cell? ⟨b, off + k * 4, none⟩ = some (.int .i64 o) := (hbel.cell (p := ⟨b, _, none⟩) bl).trans k0; have l1 : wr.cell? ⟨b, off + k * 4 + 1, none⟩ = some (.int .i64 at_) := (hbel.cell (p := ⟨b, _, none⟩) bl).trans k1; have l2 : wr.cell? ⟨b, off + k * 4 + 2, none⟩ = some (.int .i64 r) := (hbel.cell (p := ⟨b, _, none⟩) bl).trans k2; have l3 : wr.cell? ⟨b, off + k * 4 + 3, none⟩ = some (.slice fa ws.length fcap) := (hbel.cell (p := ⟨b, _, none⟩) bl).trans k3
        clear k0 k1 k2 k3 bl
        obtain ⟨z, hz⟩ : ∃ z, p ⟨o, at_, r, fa, ws, fcap⟩ = z := ⟨_, rfl⟩
        rw [hz] at hcall
        have HZ : Hid (p (xs.getD k default) = z) := by rw [HP.out]; exact hz
        clear hz HQ
        cases z with
        | false =>
          go_wp2_with (go_at_call 66; refine (hcall _ hbel).mono ?_; rintro e w1 ⟨rfl, hb1⟩)
          go_roundw
          case rel => exact ⟨k + 1, by omega, by go_num, hbel.trans (hb1.mono hbel.size), snoc_false hid HZ.out⟩
          case measure => simp [intOf]; omega
        | true =>
          go_wp2_with (go_at_call 66; refine (hcall _ hbel).mono ?_; rintro e w1 ⟨rfl, hb1⟩)
          go_ret
          exact ⟨ret_int (idxOf_at hlt hid.out HZ.out).symm, hbel.trans (hb1.mono hbel.size)⟩
      · have hkl : k = xs.length := by omega
        subst hkl
        clear hp hc
        go_wp2
        go_ret
        exact ⟨ret_int (idxOf_none hid.out).symm, hbel⟩

end Go.Proofs.YtdngbojbpmdegaaGreatDoor

namespace Go.Proofs.YtdngbojbpmdegaaGreatDoor
open Go.RowKit

/-- is it the enclave's page at the place? -/
def plB (e at_ : Int) (f : Fr) : Bool := decide (0 < e) && (f.o == e) && (f.at_ == at_)
def placeOf (frs : List Fr) (e at_ : Int) : Int := idxOf (plB e at_) frs

theorem place1_any (o fat r e at_ : Int) (fa : Option Addr) (n fcap : Nat) (b1 b2 : Nat) (w : World) (h1 : w.cell? ⟨b1, 0, none⟩ = some (.int .i64 e)) (h2 : w.cell? ⟨b2, 0, none⟩ = some (.int .i64 at_)) :
    Calls Tryz.prog 66 #[.agg #[.int .i64 o, .int .i64 fat, .int .i64 r, .slice fa n fcap], .pointer (some ⟨b1, 0, none⟩), .pointer (some ⟨b2, 0, none⟩)] w fun x w' =>
      x = .returned (.bool (decide (0 < e) && (o == e) && (fat == at_))) ∧ Below w.heap.size w w' := by
  have l1 : b1 < w.heap.size := lt_of_cell h1
  have l2 : b2 < w.heap.size := lt_of_cell h2
  by_cases c1 : 0 < e
  · by_cases c2 : o = e
    · subst c2
      by_cases c3 : fat = at_
      · subst c3
        go_enter Tryz.func66, Tryz.ntmps66
        go_wp2
        go_ret
        exact ⟨ret_bool (by simp [c1]), (Below.refl _ _).alloc (Nat.le_refl _) _⟩
      · have c3' : (fat == at_) = false := by simpa using c3
        go_enter Tryz.func66, Tryz.ntmps66
        go_wp2
        go_ret
        exact ⟨ret_bool (by simp [c3]), (Below.refl _ _).alloc (Nat.le_refl _) _⟩
    · have c2' : (o == e) = false := by simpa using c2
      go_enter Tryz.func66, Tryz.ntmps66
      go_wp2
      go_ret
      exact ⟨ret_bool (by simp [c2]), (Below.refl _ _).alloc (Nat.le_refl _) _⟩
  · go_enter Tryz.func66, Tryz.ntmps66
    go_wp2
    go_ret
    exact ⟨ret_bool (by rw [decide_eq_false (by omega)]; rfl), (Below.refl _ _).alloc (Nat.le_refl _) _⟩

set_option maxHeartbeats 800000 in
theorem place_any (M : Mv) (e at_ : Int) (w : World) (hM : MachAt w M) :
    Calls Tryz.prog 22 #[M.val, .int .i64 e, .int .i64 at_] w fun x w' => x = .returned (.int .i64 (placeOf M.frs e at_)) ∧ Below w.heap.size w w' := by
  have hI := fun (w' : World) (b1 b2 : Nat) (hb : Below w.heap.size w w') (h1 : w'.cell? ⟨b1, 0, none⟩ = some (.int .i64 e)) (h2 : w'.cell? ⟨b2, 0, none⟩ = some (.int .i64 at_)) =>
    place_index M.fa M.frs M.fcap (.pointer (some ⟨b1, 0, none⟩)) (.pointer (some ⟨b2, 0, none⟩)) (plB e at_) w' hM.frl (hM.below hb).fr
      (fun j hj w'' hb' => place1_any _ _ _ e at_ _ _ _ b1 b2 w'' ((hb'.cell (p := ⟨b1, 0, none⟩) (lt_of_cell h1)).trans h1) ((hb'.cell (p := ⟨b2, 0, none⟩) (lt_of_cell h2)).trans h2))
  unfold placeOf Mv.val
  generalize idxOf (plB e at_) M.frs = z at hI
  obtain ⟨fa, frs, fcap, ea, ens, ecap, qa, qus, qcap⟩ := M
  dsimp only at hI ⊢
  clear hM
  generalize frs.length = nf at hI ⊢
  generalize ens.length = ne at hI ⊢
  generalize qus.length = nq at hI ⊢
  go_enter Tryz.func22, Tryz.ntmps22
  have B3 : ∀ o1 o2 o3, Hid (Below w.heap.size w (((w.alloc o1).alloc o2).alloc o3)) := fun o1 o2 o3 => (((Below.refl _ _).alloc (Nat.le_refl _) _).alloc (by simp) _).alloc (by simp; omega) _
  go_wp2_with (go_at_call 67; refine (hI _ _ _ (B3 _ _ _).out (by rw [World.cell?_alloc_past _ _ _ (by simp), World.cell?_alloc_at _ _ _ _ (by simp)]; rfl) (by rw [World.cell?_alloc_at _ _ _ _ (by simp)]; rfl)).mono ?_; rintro x w' ⟨rfl, hb⟩)
  go_ret
  exact ⟨rfl, (B3 _ _ _).out.trans (hb.mono (by simp; omega))⟩

end Go.Proofs.YtdngbojbpmdegaaGreatDoor

namespace Go.Proofs.YtdngbojbpmdegaaGreatDoor
open Go.RowKit

def QRow (n0 : Nat) (w : World) (M : Mv) : Prop := w.ownsRow n0 90 2 (.slice M.qa M.qus.length M.qcap) M.qus.length (M.qus.flatMap Qu.cells)
theorem QRow.keep {n0 : Nat} {w w' : World} {M : Mv} (h : QRow n0 w M) (hw : ∀ b o s, M.qa = some ⟨b, o, s⟩ → w'.heap[b]? = w.heap[b]?) : QRow n0 w' M := by
  refine ⟨h.1, ?_⟩
  rcases h.2 with h2 | ⟨g, cap, cur, hv, hb, hg, h3⟩
  · exact .inl h2
  · refine .inr ⟨g, cap, cur, hv, hb, ?_, h3⟩
    simp only [Value.slice.injEq] at hv
    rw [hw g 0 none hv.1]
    exact hg
theorem QRow.mono {n0 n1 : Nat} {w : World} {M : Mv} (h : QRow n0 w M) (hn : n1 ≤ n0) : QRow n1 w M := by
  refine ⟨h.1, ?_⟩
  rcases h.2 with h2 | ⟨g, cap, cur, hv, hb, h3⟩
  · exact .inl h2
  · exact .inr ⟨g, cap, cur, hv, Nat.le_trans hn hb, h3⟩
theorem QRow.of_block {n0 : Nat} {w : World} {M : Mv} {Z : Nat} {zs : List Value} (hZ : n0 ≤ Z) (ha : M.qa = some ⟨Z, 0, none⟩) (h : w.heap[Z]? = some (.cells (M.qus.flatMap Qu.cells ++ zs).toArray 90 (0, 0))) (hc : (M.qus.flatMap Qu.cells ++ zs).length = M.qcap * 2) (hl : M.qus.length ≤ M.qcap) (hm : M.qcap ≤ maxLen) : QRow n0 w M := by
  have hf : (M.qus.flatMap Qu.cells).length = M.qus.length * 2 := flat_len (cells := Qu.cells) (c := 2) (fun _ => rfl) M.qus
  refine ⟨hf, .inr ⟨Z, M.qcap, _, by rw [ha], hZ, h, hl, hm, by simpa using hc, ?_⟩⟩
  rw [← hf]
  simp
theorem QRow.none {n0 : Nat} {w : World} {M : Mv} (ha : M.qa = none) (hq : M.qus = []) (hc : M.qcap = 0) : QRow n0 w M := by
  refine ⟨by rw [hq]; rfl, .inl ⟨by rw [ha, hq, hc]; rfl, by rw [hq]; rfl⟩⟩

end Go.Proofs.YtdngbojbpmdegaaGreatDoor

namespace Go.Proofs.YtdngbojbpmdegaaGreatDoor
open Go.RowKit

/-- may a page with these rights be touched so? -/
def hasR (r right : Int) : Bool := if right = 1 then r % 2 == 1 else if right = 2 then r / 2 % 2 == 1 else r / 4 == 1
/-- the frame in which a word stands, or -1: it must not be touched so -/
def shF (frs : List Fr) (n right : Int) : Int := if right = 4 then -1 else if 24 ≤ (n - 64) / 8 then -1 else if (frs.getD ((n - 64) / 8).toNat default).o = 0 then (n - 64) / 8 else -1
def frmF (frs : List Fr) (e n right : Int) : Int :=
  if 64 ≤ n then shF frs n right
  else if placeOf frs e (n / 8) < 0 then -1 else if hasR (frs.getD (placeOf frs e (n / 8)).toNat default).r right = true then placeOf frs e (n / 8) else -1
def wordAt (M : Mv) (f n : Int) : Int := (M.frs.getD f.toNat default).ws.getD (n % 8).toNat 0
theorem place_lt (frs : List Fr) (e a : Int) : placeOf frs e a < frs.length := by
  unfold placeOf idxOf
  cases h : frs.findIdx? (plB e a) with
  | none => simp only; omega
  | some i =>
    obtain ⟨h1, _⟩ := List.findIdx?_eq_some_iff_getElem.1 h
    simp only; omega
theorem place_ge (frs : List Fr) (e a : Int) : -1 ≤ placeOf frs e a := by
  unfold placeOf idxOf
  cases h : frs.findIdx? (plB e a) with
  | none => simp only; omega
  | some i => simp only; omega
theorem frmF_lt {frs : List Fr} (hl : frs.length = 24) (e n right : Int) (_h0 : 0 ≤ n) : frmF frs e n right < 24 ∧ -1 ≤ frmF frs e n right := by
  have hp := place_lt frs e (n / 8)
  have hq := place_ge frs e (n / 8)
  rw [hl] at hp
  unfold frmF shF
  split
  · split
    · omega
    · split
      · omega
      · split
        · omega
        · omega
  · split
    · omega
    · split
      · omega
      · omega
theorem frmF_cases {frs : List Fr} (hl : frs.length = 24) (e n right : Int) (h0 : 0 ≤ n) : frmF frs e n right = -1 ∨ ∃ k : Nat, k < 24 ∧ frmF frs e n right = (k : Int) := by
  obtain ⟨h1, h2⟩ := frmF_lt hl e n right h0
  rcases Int.lt_or_le (frmF frs e n right) 0 with h | h
  · left; omega
  · right; exact ⟨(frmF frs e n right).toNat, by omega, by omega⟩

/-- a run: the machine, the address, the registers; how it ended (0: it goes on), and with what -/
structure Rn where
  M : Mv
  pc : Int
  rs : List Int
  nd : Int
  v : Int
def putWord (M : Mv) (f n v : Int) : Mv := { M with frs := M.frs.set f.toNat { M.frs.getD f.toNat default with ws := (M.frs.getD f.toNat default).ws.set (n % 8).toNat v } }
def sayM (M : Mv) (m : Nat) (v : Int) : Mv := { M with qus := M.qus ++ [⟨(M.ens.getD m default).log, v⟩] }
def kindR (x : Int) : Int := x % 16
def regA (x : Int) : Nat := (x / 16 % 4).toNat
def regB (x : Int) : Nat := (x / 256 % 4).toNat
/-- the instruction x, n at the address pc -/
def doR (M : Mv) (m : Nat) (pc : Int) (rs : List Int) (x n : Int) (xr : Int → Int → Int) : Rn :=
  if kindR x = 1 then ⟨M, pc + 2, rs.set (regA x) n, 0, 0⟩
  else if kindR x = 2 then ⟨M, pc + 2, rs.set (regA x) ((rs.getD (regA x) 0 + rs.getD (regB x) 0) % 65536), 0, 0⟩
  else if kindR x = 3 then ⟨M, pc + 2, rs.set (regA x) (xr (rs.getD (regA x) 0) (rs.getD (regB x) 0)), 0, 0⟩
  else if kindR x = 4 then ⟨M, pc + 2, rs.set (regA x) (if rs.getD (regA x) 0 < rs.getD (regB x) 0 then 1 else 0), 0, 0⟩
  else if kindR x = 5 then (if frmF M.frs ((m : Int) + 1) (rs.getD (regB x) 0) 1 < 0 then ⟨M, pc + 2, rs, 3, 0⟩ else ⟨M, pc + 2, rs.set (regA x) (wordAt M (frmF M.frs ((m : Int) + 1) (rs.getD (regB x) 0) 1) (rs.getD (regB x) 0)), 0, 0⟩)
  else if kindR x = 6 then (if frmF M.frs ((m : Int) + 1) (rs.getD (regB x) 0) 2 < 0 then ⟨M, pc + 2, rs, 3, 0⟩ else ⟨putWord M (frmF M.frs ((m : Int) + 1) (rs.getD (regB x) 0) 2) (rs.getD (regB x) 0) (rs.getD (regA x) 0), pc + 2, rs, 0, 0⟩)
  else if kindR x = 7 then ⟨M, if rs.getD (regA x) 0 = 0 then n else pc + 2, rs, 0, 0⟩
  else if kindR x = 8 then ⟨M, pc + 2, rs, 1, rs.getD (regA x) 0⟩
  else if kindR x = 9 then (if 40 ≤ M.qus.length then ⟨M, pc + 2, rs, 3, 0⟩ else ⟨sayM M m (rs.getD (regA x) 0), pc + 2, rs, 0, 0⟩)
  else ⟨M, pc + 2, rs, 3, 0⟩
def stepR (M : Mv) (m : Nat) (pc : Int) (rs : List Int) (xr : Int → Int → Int) : Rn :=
  if frmF M.frs ((m : Int) + 1) pc 4 < 0 ∨ frmF M.frs ((m : Int) + 1) (pc + 1) 4 < 0 then ⟨M, pc, rs, 3, 0⟩
  else doR M m pc rs (wordAt M (frmF M.frs ((m : Int) + 1) pc 4) pc) (wordAt M (frmF M.frs ((m : Int) + 1) (pc + 1) 4) (pc + 1)) xr
/-- as many steps as there is fuel for -/
def runR : Nat → Mv → Nat → Int → List Int → (Int → Int → Int) → Rn
  | 0, M, _, pc, rs, _ => ⟨M, pc, rs, 2, 0⟩
  | n + 1, M, m, pc, rs, xr => if (stepR M m pc rs xr).nd = 0 then runR n (stepR M m pc rs xr).M m (stepR M m pc rs xr).pc (stepR M m pc rs xr).rs xr else stepR M m pc rs xr
/-- the enclave behind a run -/
def leftE (E : En) (R : Rn) : En :=
  if R.nd = 1 then ⟨2, E.log, 0, 0, 0, 0, 0⟩ else if R.nd = 2 then ⟨3, E.log, R.pc, R.rs.getD 0 0, R.rs.getD 1 0, R.rs.getD 2 0, R.rs.getD 3 0⟩ else ⟨4, E.log, 0, 0, 0, 0, 0⟩
def leftM (R : Rn) (m : Nat) : Mv := { R.M with ens := R.M.ens.set m (leftE (R.M.ens.getD m default) R) }

/-- what a run holds may be -/
structure RunOk (M : Mv) (m : Nat) (pc : Int) (rs : List Int) : Prop where
  good : Good M
  m4 : m < 4
  pc : 0 ≤ pc ∧ pc ≤ 65535
  len : rs.length = 4
  rs : ∀ i, 0 ≤ rs.getD i 0 ∧ rs.getD i 0 ≤ 65535
  st : (M.ens.getD m default).st ≠ 0
theorem getD_mem {l : List Int} {i : Nat} (h : i < l.length) : l.getD i 0 ∈ l := by
  rw [List.getD_eq_getElem?_getD, List.getElem?_eq_getElem h]; exact List.getElem_mem h
theorem wordAt_in {M : Mv} (h : Good M) {k : Nat} (hk : k < 24) (n : Int) : 0 ≤ wordAt M k n ∧ wordAt M k n ≤ 65535 := by
  have hg := (goodFr_iff.1 (h.fr k hk)).1
  unfold wordAt
  rw [Int.toNat_natCast]
  unfold mayW at hg
  simp only [Bool.and_eq_true, beq_iff_eq, List.all_eq_true] at hg
  by_cases hb : (n % 8).toNat < (M.frs.getD k default).ws.length
  · have := inB_iff.1 (hg.2 ((M.frs.getD k default).ws.getD (n % 8).toNat 0) (getD_mem hb))
    omega
  · rw [List.getD_eq_getElem?_getD, List.getElem?_eq_none (by omega)]
    simp
theorem run_at {M : Mv} {e n : Int} (h : ¬ frmF M.frs e n 4 < 0) (h0 : 0 ≤ n) : n < 64 := by
  unfold frmF at h
  split at h
  · unfold shF at h
    rw [if_pos rfl] at h
    omega
  · omega
theorem rs_set {rs : List Int} (hl : rs.length = 4) (h : ∀ i, 0 ≤ rs.getD i 0 ∧ rs.getD i 0 ≤ 65535) (a : Nat) {v : Int} (hv : 0 ≤ v ∧ v ≤ 65535) : (rs.set a v).length = 4 ∧ ∀ i, 0 ≤ (rs.set a v).getD i 0 ∧ (rs.set a v).getD i 0 ≤ 65535 := by
  refine ⟨by simpa using hl, fun i => ?_⟩
  by_cases e : i = a
  · subst e
    by_cases hi : i < rs.length
    · simp [List.getD_eq_getElem?_getD, hi]; exact hv
    · rw [List.getD_eq_getElem?_getD, List.getElem?_eq_none (by simp; omega)]; simp
  · have : (rs.set a v).getD i 0 = rs.getD i 0 := by simp [List.getD_eq_getElem?_getD, List.getElem?_set_ne (Ne.symm e)]
    rw [this]; exact h i
theorem say_good {M : Mv} (h : Good M) {m : Nat} (hm : m < 4) {v : Int} (hv : 0 ≤ v ∧ v ≤ 65535) (hq : ¬ 40 ≤ M.qus.length) : Good (sayM M m v) := by
  refine ⟨h.s1, h.s2, by show (M.qus ++ _).length ≤ 40; simp; omega, h.en, h.fr, h.tw, fun q hq => ?_⟩
  have hq' : q ∈ M.qus ++ [⟨(M.ens.getD m default).log, v⟩] := hq
  rcases List.mem_append.1 hq' with hq | hq
  · exact h.qu q hq
  · simp only [List.mem_cons, List.not_mem_nil, or_false] at hq
    subst hq
    have := (enGood_iff.1 (h.en m hm)).2.1
    unfold Qu.good
    simp only [Bool.and_eq_true, decide_eq_true_eq]
    exact ⟨this, inB_iff.2 hv⟩
/-- a step leaves what may be -/
theorem step_ok {M : Mv} {m : Nat} {pc : Int} {rs : List Int} (h : RunOk M m pc rs) {xr : Int → Int → Int} (hx : ∀ a b, 0 ≤ a ∧ a ≤ 65535 → 0 ≤ b ∧ b ≤ 65535 → 0 ≤ xr a b ∧ xr a b ≤ 65535) (hn : (stepR M m pc rs xr).nd = 0) :
    RunOk (stepR M m pc rs xr).M m (stepR M m pc rs xr).pc (stepR M m pc rs xr).rs := by
  have same : ∀ {pc' : Int} {rs' : List Int}, (0 ≤ pc' ∧ pc' ≤ 65535) → (rs'.length = 4 ∧ ∀ i, 0 ≤ rs'.getD i 0 ∧ rs'.getD i 0 ≤ 65535) → RunOk M m pc' rs' := fun hp hr => ⟨h.good, h.m4, hp, hr.1, hr.2, h.st⟩
  unfold stepR at hn ⊢
  split at hn
  · simp at hn
  · rename_i hff
    rw [if_neg hff]
    rw [not_or] at hff
    have hp := run_at hff.1 h.pc.1
    have hp2 : 0 ≤ pc + 2 ∧ pc + 2 ≤ 65535 := by have := h.pc; omega
    obtain ⟨g, hg, eg⟩ : ∃ g : Nat, g < 24 ∧ frmF M.frs ((m : Int) + 1) (pc + 1) 4 = (g : Int) := by
      rcases frmF_cases h.good.s1 ((m : Int) + 1) (pc + 1) 4 (by have := h.pc; omega) with e | e
      · exact absurd (by rw [e]; omega) hff.2
      · exact e
    have hN := wordAt_in h.good hg (pc + 1)
    rw [eg] at hn ⊢
    generalize wordAt M (g : Int) (pc + 1) = nn at hn hN ⊢
    generalize wordAt M (frmF M.frs ((m : Int) + 1) pc 4) pc = x at hn ⊢
    unfold doR at hn ⊢
    split at hn
    · rename_i c; rw [if_pos c]; exact same hp2 (rs_set h.len h.rs _ hN)
    · rename_i c; rw [if_neg c]
      split at hn
      · rename_i c; rw [if_pos c]; exact same hp2 (rs_set h.len h.rs _ (by omega))
      · rename_i c; rw [if_neg c]
        split at hn
        · rename_i c; rw [if_pos c]; exact same hp2 (rs_set h.len h.rs _ (hx _ _ (h.rs _) (h.rs _)))
        · rename_i c; rw [if_neg c]
          split at hn
          · rename_i c; rw [if_pos c]; exact same hp2 (rs_set h.len h.rs _ (by split <;> omega))
          · rename_i c; rw [if_neg c]
            split at hn
            · rename_i c; rw [if_pos c]
              split at hn
              · simp at hn
              · rename_i c; rw [if_neg c]
                obtain ⟨k, hk, ek⟩ : ∃ k : Nat, k < 24 ∧ frmF M.frs ((m : Int) + 1) (rs.getD (regB x) 0) 1 = (k : Int) := by
                  rcases frmF_cases h.good.s1 ((m : Int) + 1) (rs.getD (regB x) 0) 1 (h.rs _).1 with e | e
                  · exact absurd (by rw [e]; omega) c
                  · exact e
                rw [ek]
                exact same hp2 (rs_set h.len h.rs _ (wordAt_in h.good hk _))
            · rename_i c; rw [if_neg c]
              split at hn
              · rename_i c; rw [if_pos c]
                split at hn
                · simp at hn
                · rename_i c; rw [if_neg c]
                  obtain ⟨k, hk, ek⟩ : ∃ k : Nat, k < 24 ∧ frmF M.frs ((m : Int) + 1) (rs.getD (regB x) 0) 2 = (k : Int) := by
                    rcases frmF_cases h.good.s1 ((m : Int) + 1) (rs.getD (regB x) 0) 2 (h.rs _).1 with e | e
                    · exact absurd (by rw [e]; omega) c
                    · exact e
                  rw [ek]
                  unfold putWord
                  rw [Int.toNat_natCast]
                  exact ⟨h.good.word hk (inB_iff.2 (h.rs _)), h.m4, hp2, h.len, h.rs, h.st⟩
              · rename_i c; rw [if_neg c]
                split at hn
                · rename_i c; rw [if_pos c]
                  exact same (by dsimp only; split <;> omega) ⟨h.len, h.rs⟩
                · rename_i c; rw [if_neg c]
                  split at hn
                  · simp at hn
                  · rename_i c; rw [if_neg c]
                    split at hn
                    · rename_i c; rw [if_pos c]
                      split at hn
                      · simp at hn
                      · rename_i c; rw [if_neg c]
                        exact ⟨say_good h.good h.m4 (h.rs _) c, h.m4, hp2, h.len, h.rs, h.st⟩
                    · simp at hn

end Go.Proofs.YtdngbojbpmdegaaGreatDoor
