/-
  For every two lists of raw things, every raw thing and every number, HostsGood answers true: whatever comes a machine stays one that may be; what is refused does nothing. No condition but that the library's tables are as the program's text lays them, which the card ties.
-/
import Derived.Test.YtdngbojbpmdegaaGreatDoorJIdxAns
import Derived.Test.YtdngbojbpmdegaaGreatDoorJStarted
import Derived.Test.YtdngbojbpmdegaaGreatDoorJOpens
namespace Go.Proofs.YtdngbojbpmdegaaGreatDoor
open Go.ChangeShapes Go.WideShapes Go.ChangeAt Go.RowKit
set_option linter.unusedVariables false


theorem code_at {A B : List (Int × Int)} {n : Nat} (hA : A.length = n) {r : List Int} (hr : B.map Prod.fst = r) (i : Nat) (hi : i < r.length) : ((A ++ B).getD (n + i) default).1 = r.getD i 0 := by
  subst hA hr
  rw [List.length_map] at hi
  simp [List.getD_eq_getElem?_getD, hi]
theorem two_objs (X : World) (o p : Obj) : Below X.heap.size X ((X.alloc o).alloc p) ∧ ((X.alloc o).alloc p).heap[X.heap.size]? = some o ∧ ((X.alloc o).alloc p).heap[X.heap.size + 1]? = some p := by
  refine ⟨below_allocR (below_allocR (Below.refl _ _) _) _, ?_, ?_⟩
  · rw [Below.heap_alloc _ _ _ (by simp)]; exact Go.Deep.blk_alloc_new _ _
  · have := Go.Deep.blk_alloc_new (X.alloc o) p
    simpa using this
theorem act_ok_ok {mea : Bool} {x : Ac} (h : ActOk mea x) : x.Ok :=
  ⟨wf_of (by have := h.k; omega), wf_of h.e, wf_of h.f, wf_of h.at_, wf_of h.r, wf_of h.n, by rw [h.fu]; decide⟩
/-- the runs that the loop adds -/
def runsL (k : Nat) : List Ac := (List.range k).flatMap fun (i : Nat) => [⟨8, 1, 0, 0, 0, (i : Int), 20⟩, ⟨9, 1, 0, 0, 0, 0, 30⟩]
theorem runsL_succ (k : Nat) : runsL (k + 1) = runsL k ++ [⟨8, 1, 0, 0, 0, (k : Int), 20⟩, ⟨9, 1, 0, 0, 0, 0, 30⟩] := by simp [runsL, List.range_succ]
theorem runsL_len : ∀ k, (runsL k).length = 2 * k
  | 0 => rfl
  | k + 1 => by rw [runsL_succ, List.length_append, runsL_len k]; simp; omega
theorem runsL_ok : ∀ k, k ≤ 6 → ∀ x ∈ runsL k, x.Ok
  | 0, _, x, hx => by simp [runsL] at hx
  | k + 1, hk, x, hx => by
    rw [runsL_succ] at hx
    rcases List.mem_append.1 hx with h | h
    · exact runsL_ok k (by omega) x h
    · have wz : (Lit.int .i64 0).wf = true := by decide
      simp only [List.mem_cons, List.not_mem_nil, or_false] at h
      rcases h with rfl | rfl
      · exact ⟨(by decide : (Lit.int .i64 8).wf = true), (by decide : (Lit.int .i64 1).wf = true), wz, wz, wz, wf_of (by dsimp only; omega), (by decide : (Lit.int .i64 20).wf = true)⟩
      · exact ⟨(by decide : (Lit.int .i64 9).wf = true), (by decide : (Lit.int .i64 1).wf = true), wz, wz, wz, wz, (by decide : (Lit.int .i64 30).wf = true)⟩
theorem badL_ok {k : Int} (hk : 0 ≤ k ∧ k ≤ 65535) : ∀ x ∈ badL k, x.Ok := by
  intro x hx
  have wz : (Lit.int .i64 0).wf = true := by decide
  unfold badL at hx
  simp only [List.mem_cons, List.not_mem_nil, or_false] at hx
  rcases hx with rfl | rfl | rfl | rfl | rfl
  · exact ⟨wf_of hk, wz, wz, wz, wz, wz, wz⟩
  · exact ⟨(by decide : (Lit.int .i64 4).wf = true), wz, wz, wz, wz, wz, wz⟩
  · exact ⟨(by decide : (Lit.int .i64 6).wf = true), wz, (by decide : (Lit.int .i64 24).wf = true), wz, wz, wz, wz⟩
  · exact ⟨(by decide : (Lit.int .i64 11).wf = true), wz, wz, (by decide : (Lit.int .i64 (-1)).wf = true), wz, wz, wz⟩
  · exact ⟨(by decide : (Lit.int .i64 8).wf = true), (by decide : (Lit.int .i64 5).wf = true), wz, wz, wz, wz, wz⟩
/-- what host.Run answers to a script without trusts that is not too long -/
theorem run_script {l : List Ac} {n : Nat} (hn : n = l.length) (h2 : n ≤ 200) (hok : ∀ x ∈ l, x.Ok) (la : Option Addr) (lc : Nat) (w' : World) (hrow : RowsAt w' 7 Ac.cells la l) (ht : Tab w') :
    Calls Tryz.prog 13 #[.slice none 0 0, .slice la n lc] w' fun y w'' => ∃ (aa : Option Addr) (acap : Nat) (M : Mv) (C : Cv), y = .returned (.tuple #[.slice aa n acap, M.val, C.val, .int .i64 0]) ∧ RowsAt w'' 2 anCells aa (hans (hs0 []) l) ∧ M.Same (hst (hs0 []) l).M ∧ C.Same (hst (hs0 []) l).C ∧ Owned w'.heap.size w'' M ∧ COwn w'.heap.size w'' C ∧ Below w'.heap.size w' w'' := by
  subst hn
  have hrun := runH_any none [] 0 la l lc w' (.inl rfl) ⟨by simp [maxLen], fun s hs => by simp at hs, by simp, fun x hx => by simp at hx⟩ hrow (by unfold maxLen; omega) hok ht
  have hR0 := runF_nil h2
  unfold HostSaid at hrun
  rw [hR0, if_pos rfl, if_pos rfl, if_pos rfl] at hrun
  refine hrun.mono ?_
  rintro y w'' ⟨aa, acap, zs, M, C, rfl, hzr, rfl, hMs, hCs, hO, hCO, hb3⟩
  refine ⟨aa, acap, M, C, ?_, hzr, hMs, hCs, hO, hCO, hb3⟩
  rw [hans_len]

theorem make201 (w : World) : (Instr.makeSlice 23 (.int .i64 201) (.int .i64 201)).run Tryz.prog w = .ok (.slice (some ⟨w.heap.size, 0, none⟩) 201 201) (w.alloc (.cells (madeCells #[.int .i64 0, .int .i64 0, .int .i64 0, .int .i64 0, .int .i64 0, .int .i64 0, .int .i64 0] (201 * 7)) 68)) :=
  make_rowsN 23 68 _ 7 56 Tryz.underlying23 act_info 201 (by omega) (by omega) w
theorem cell_of_block {w : World} {g : Nat} {cs : Array Value} {t : TypeId} (h : w.heap[g]? = some (.cells cs t (0, 0))) (k : Nat) : w.cell? ⟨g, k, none⟩ = cs[k]? := by simp [World.cell?, h]
theorem rows201 {w : World} {g : Nat} {t : TypeId} (h : w.heap[g]? = some (.cells (madeCells #[.int .i64 0, .int .i64 0, .int .i64 0, .int .i64 0, .int .i64 0, .int .i64 0, .int .i64 0] (201 * 7)) t (0, 0))) : RowsAt w 7 Ac.cells (some ⟨g, 0, none⟩) (List.replicate 201 (default : Ac)) := by
  refine .inr ⟨g, 0, rfl, fun j hj i hi => ?_⟩
  rw [List.length_replicate] at hj
  rw [rep_getD 201 (default : Ac) default hj]
  have hk : 0 + j * 7 + i < 201 * 7 := by omega
  have e : (0 + j * 7 + i) % 7 = i := by omega
  have hc := cell_of_block h (0 + j * 7 + i)
  rw [hc]
  unfold madeCells
  rw [Array.getElem?_map, Array.getElem?_range, if_pos hk, Option.map_some]
  show some (#[Value.int .i64 0, .int .i64 0, .int .i64 0, .int .i64 0, .int .i64 0, .int .i64 0, .int .i64 0][(0 + j * 7 + i) % 7]!) = _
  rw [e]
  match i, hi with
  | 0, _ => rfl
  | 1, _ => rfl
  | 2, _ => rfl
  | 3, _ => rfl
  | 4, _ => rfl
  | 5, _ => rfl
  | 6, _ => rfl
/-- too many acts -/
theorem run_long (la : Option Addr) (lc : Nat) (w' : World) (hrow : RowsAt w' 7 Ac.cells la (List.replicate 201 (default : Ac))) (ht : Tab w') :
    Calls Tryz.prog 13 #[.slice none 0 0, .slice la 201 lc] w' fun y w'' => ∃ (aa : Option Addr) (acap : Nat) (M : Mv) (C : Cv), y = .returned (.tuple #[.slice aa 0 acap, M.val, C.val, .int .i64 1]) ∧ Below w'.heap.size w' w'' := by
  have hl : (List.replicate 201 (default : Ac)).length = 201 := List.length_replicate
  have hrun := runH_any none [] 0 la (List.replicate 201 (default : Ac)) lc w' (.inl rfl) ⟨by simp [maxLen], fun s hs => by simp at hs, by simp, fun x hx => by simp at hx⟩ hrow (by rw [hl]; decide) (fun x hx => by
    rw [(List.mem_replicate.1 hx).2]
    have wz : (Lit.int .i64 0).wf = true := by decide
    exact ⟨wz, wz, wz, wz, wz, wz, wz⟩) ht
  have hR0 : runF [] (List.replicate 201 (default : Ac)) = 1 := by
    unfold runF
    rw [if_pos (show chF [] [] = 0 from rfl), if_pos (by rw [hl]; omega)]
  unfold HostSaid at hrun
  rw [hR0, if_neg (by decide), if_neg (by decide), if_neg (by decide), hl] at hrun
  refine hrun.mono ?_
  rintro y w'' ⟨aa, acap, zs, M, C, rfl, hzr, rfl, hMs, hCs, hO, hCO, hb3⟩
  exact ⟨aa, acap, M, C, rfl, hb3⟩

set_option maxRecDepth 100000 in
set_option maxHeartbeats 8000000 in
theorem hostsGood_walk (a : Option Addr) (rs : List Rw) (cap : Nat) (a2 : Option Addr) (ts : List Rw) (cap2 : Nat) (R : Rw) (kd : Int) (w : World) (hl : rs.length ≤ maxLen) (hx : RawsAt w a rs) (hl2 : ts.length ≤ maxLen) (hx2 : RawsAt w a2 ts) (hR : R.Ok) (wk : (Lit.int .i64 kd).wf = true) (ht : Tab w) :
    Calls Tryz.prog 6 #[.slice a rs.length cap, .slice a2 ts.length cap2, R.val, .int .i64 kd] w fun e w' => e = .returned (.bool true) ∧ Below w.heap.size w w' := by
  obtain ⟨rk, ra, rb, rc⟩ := R
  obtain ⟨W2, hW2⟩ : ∃ W2, Hid (W2 = w.alloc (.cells #[.int .i64 rk, .int .i64 ra, .int .i64 rb, .int .i64 rc] 61)) := ⟨_, rfl⟩
  have B2 : Hid (Below w.heap.size w W2) := show Below _ _ _ by rw [hW2.out]; exact (Below.refl _ _).alloc (Nat.le_refl _) _
  have hI2 := image_any a2 ts cap2 ⟨rk, ra, rb, rc⟩ W2 hl2 (hx2.below B2.out) hR
  unfold Rw.val at hI2 ⊢
  dsimp only at hI2 ⊢
  have r0 : W2.cell? ⟨w.heap.size, 0, none⟩ = some (.int .i64 rk) := by rw [hW2.out, World.cell?_alloc_at _ _ _ _ rfl]; rfl
  have r1 : W2.cell? ⟨w.heap.size, 1, none⟩ = some (.int .i64 ra) := by rw [hW2.out, World.cell?_alloc_at _ _ _ _ rfl]; rfl
  have r2 : W2.cell? ⟨w.heap.size, 2, none⟩ = some (.int .i64 rb) := by rw [hW2.out, World.cell?_alloc_at _ _ _ _ rfl]; rfl
  have r3 : W2.cell? ⟨w.heap.size, 3, none⟩ = some (.int .i64 rc) := by rw [hW2.out, World.cell?_alloc_at _ _ _ _ rfl]; rfl
  have lt0 := lt_of_cell r0
  have HT : Hid (Tab w) := ht
  have HX : Hid (RawsAt w a rs) := hx
  have hpk := pick_lt kd (many := 9) (by omega)
  obtain ⟨k9, hk9⟩ : ∃ k9, Hid (pick kd 9 = k9) := ⟨_, rfl⟩
  have HP : Hid (∀ w', Calls Tryz.prog 17 #[.int .i64 kd, .int .i64 9] w' fun e w'' => e = .returned (.int .i64 k9) ∧ w' = w'') := fun w' => by rw [← hk9.out]; exact picked_any kd 9 w' wk (by omega) (by omega)
  rw [hk9.out] at hpk
  clear hx hx2 hR ht wk hk9
  go_enter Tryz.func6, Tryz.ntmps6
  go_upto_region 1 with fail
  rw [← hW2.out]
  clear hW2
  go_upto_region 2 with (first
    | (go_at_call 25; refine hI2.mono ?_; clear hI2; rintro e w1 ⟨b1, ps, cp, rfl, hpa, hif, h4, hb1⟩; have hps := image_len hif; have hpl := plan_good b1 ps cp 1 0 w1 (by unfold maxLen; omega) hpa (by unfold planE; rw [if_pos hif, if_pos]; rw [Bool.and_eq_true]; exact ⟨by decide, inB_iff.2 ⟨by omega, by omega⟩⟩); have HB1 : Hid (Below W2.heap.size W2 w1) := hb1; have HIF : Hid (_) := hif; clear hb1 hpa hif r0 r1 r2 r3)
    | (go_at_call 24; refine hpl.mono ?_; clear hpl; rintro e w2 ⟨v1, rfl, hown1, hb2⟩))
  obtain ⟨xa, xc, rfl, hrow1⟩ := acts_row hown1
  have hll1 := plan_len HIF.out 1 0
  have HOW1 : Hid (_) := hown1
  obtain ⟨PX, hPX⟩ : ∃ PX, Hid (PX = planL ps 1 0) := ⟨_, rfl⟩
  have HPOK : Hid (∀ x ∈ PX, x.Ok) := fun x hx => by rw [hPX.out] at hx; exact plan_ok HIF.out ⟨by omega, by omega⟩ ⟨by omega, by omega⟩ x hx
  rw [← hPX.out] at HOW1 hll1 ⊢
  have HB2 : Hid (Below w1.heap.size w1 w2) := hb2
  have BW1 : Hid (Below w.heap.size w w1) := show Below _ _ _ from B2.out.trans (HB1.out.mono B2.out.size)
  have hA := acts_any a rs cap 60 true w2 hl (HX.out.below (BW1.out.trans (hb2.mono BW1.out.size))) (by omega)
  clear hown1 hrow1 hb2
  go_upto_region 3 with (first
    | (go_at_call 26; refine hA.mono ?_; clear hA; rintro e w3 ⟨v3, l3, rfl, ho3, hl3, hk3, hb3⟩; (obtain ⟨qa, qc, rfl, hq⟩ := acts_row ho3); (obtain ⟨v4, w4, hrun, hown4, hbel4, hsz4⟩ := app_acts (owns_belowA HOW1.out hb3) (HB2.out.trans (hb3.mono HB2.out.size)) (Nat.le_trans HB2.out.size hb3.size) qa l3 qc hq (by omega)); have HK3 : Hid (_) := hk3; clear ho3 hq hk3 hb3)
    | (at_builtin; refine wpList_append_eq rfl _ _ 23 rfl _ _ v4 rfl rfl hrun ?_))
  clear hrun
  have HR0 : Hid (Owns w4 w1.heap.size v4 (PX ++ l3)) := hown4
  have HOK0 : Hid (∀ x ∈ PX ++ l3, x.Ok) := fun x hx => by
    rcases List.mem_append.1 hx with h | h
    · exact HPOK.out x h
    · exact act_ok_ok (HK3.out x h)
  have hlen0 : (PX ++ l3).length ≤ 142 := by rw [List.length_append]; omega
  obtain ⟨L0, hL0⟩ : ∃ L0, Hid (L0 = PX ++ l3) := ⟨_, rfl⟩
  rw [← hL0.out] at HR0 HOK0 hlen0
  have HBEL4 : Hid (Below w1.heap.size w1 w4) := hbel4
  have HSZ4 : Hid (w1.heap.size ≤ w4.heap.size) := hsz4
  clear hown4 hbel4 hsz4 HOW1 HB2 hL0 HPOK HK3
  go_upto_region 4 with fail
  go_loopw [11, 38] (fun v i wr => ∃ k : Nat, k ≤ 6 ∧ i = .int .i64 k ∧ Hid (Owns wr w1.heap.size v (L0 ++ runsL k)) ∧ Hid (Below w1.heap.size w1 wr) ∧ Hid (w1.heap.size ≤ wr.heap.size)) (fun _ i _ => 6 - (intOf i).toNat)
  case atStart => exact ⟨0, Nat.zero_le _, rfl, (show Owns _ _ _ _ by simpa [runsL] using HR0.out), HBEL4.out, HSZ4.out⟩
  case round =>
    obtain ⟨k, hk, rfl, hown, hbel, hsz⟩ := hrel
    clear HR0 HBEL4 HSZ4
    by_cases hlt : k < 6
    · have hkI : (k : Int) < 6 := by omega
      have hba : Below wr.heap.size wr (wr.alloc (.cells #[.int .i64 8, .int .i64 1, .int .i64 0, .int .i64 0, .int .i64 0, .int .i64 (k : Int), .int .i64 20, .int .i64 9, .int .i64 1, .int .i64 0, .int .i64 0, .int .i64 0, .int .i64 0, .int .i64 30] 68)) := (Below.refl _ _).alloc (Nat.le_refl _) _
      obtain ⟨v', w', hrun, hown', hbel', hsz'⟩ := app_acts (owns_belowA hown.out hba) (hbel.out.trans (hba.mono hsz.out)) (Nat.le_trans hsz.out hba.size) (some ⟨wr.heap.size, 0, none⟩) [⟨8, 1, 0, 0, 0, (k : Int), 20⟩, ⟨9, 1, 0, 0, 0, 0, 30⟩] 2 (lit_rows (Go.Deep.blk_alloc_new wr _) rfl) (by rw [List.length_append, runsL_len]; simp; omega)
      have hrun2 : (Builtin.append_ #[23, 23] 23 #[u11, .slice (some ⟨wr.heap.size, 0, none⟩) 2 2]).run Tryz.prog (wr.alloc (.cells #[.int .i64 8, .int .i64 1, .int .i64 0, .int .i64 0, .int .i64 0, .int .i64 (k : Int), .int .i64 20, .int .i64 9, .int .i64 1, .int .i64 0, .int .i64 0, .int .i64 0, .int .i64 0, .int .i64 30] 68)) = .ok v' w' := hrun
      have HR : Hid (Owns w' w1.heap.size v' (L0 ++ runsL (k + 1))) := show Owns _ _ _ _ by rw [runsL_succ, ← List.append_assoc]; exact hown'
      have HB' : Hid (_) := And.intro hbel' hsz'
      clear hba hrun hown' hbel' hsz' hown hbel hsz
      go_wp2_with (at_builtin; refine wpList_append_eq rfl _ _ 23 rfl _ _ v' rfl rfl hrun2 ?_)
      go_roundw
      case rel => exact ⟨k + 1, by omega, by go_num, HR, HB'.out.1, HB'.out.2⟩
      case measure => simp [intOf]; omega
    · have hge : ¬ ((k : Int) < 6) := by omega
      have hk6 : k = 6 := by omega
      have hown2 : Owns wr w1.heap.size u11 (L0 ++ runsL 6) := by rw [← hk6]; exact hown.out
      obtain ⟨L, hL⟩ : ∃ L, Hid (L = L0 ++ runsL 6) := ⟨_, rfl⟩
      rw [← hL.out] at hown2
      have HLOK : Hid (∀ x ∈ L, x.Ok) := fun x hx => by
        rw [hL.out] at hx
        rcases List.mem_append.1 hx with h | h
        · exact HOK0.out x h
        · exact runsL_ok 6 (by omega) x h
      obtain ⟨n, hn⟩ : ∃ n, Hid (n = L.length) := ⟨_, rfl⟩
      have hnl : n ≤ 154 := by rw [hn.out, hL.out, List.length_append, runsL_len]; omega
      obtain ⟨la, lc, hv, hrow⟩ := acts_row hown2
      subst hv
      rw [← hn.out] at hown2 ⊢
      have HROW : Hid (RowsAt wr 7 Ac.cells la L) := hrow
      have HBEL : Hid (Below w1.heap.size w1 wr) := hbel
      have BWR : Hid (Below w.heap.size w wr) := show Below _ _ _ from BW1.out.trans (hbel.out.mono BW1.out.size)
      have hrun8 := run_script hn.out (by omega) HLOK.out la lc wr HROW.out (HT.out.below BWR.out)
      have HS1 : Hid (_) := And.intro (hst_good (hs0 []) L new_good rfl) (And.intro (hans_len (hs0 []) L) (bad_acts (s := hst (hs0 []) L) (hst_good (hs0 []) L new_good rfl).1 (k := 12 + k9) (by omega)))
      obtain ⟨Z1, hZ1⟩ : ∃ Z1, Hid (Z1 = hst (hs0 []) L) := ⟨_, rfl⟩
      rw [← hZ1.out] at hrun8 HS1
      clear hown hbel hsz hk6 hlt hk HOK0 hown2 hrow
      go_upto_region 9 with (go_at_call 13; refine hrun8.mono ?_; clear hrun8; rintro y w8 ⟨aa, acap, M, C, rfl, hzr, hMs, hCs, hO, hCO, hb8⟩; unfold Mv.val Cv.val)
      obtain ⟨W8, hW8⟩ : ∃ W8, Hid (W8 = (w8.alloc (.cells #[.slice M.fa M.frs.length M.fcap, .slice M.ea M.ens.length M.ecap, .slice M.qa M.qus.length M.qcap] 29)).alloc (.cells #[.slice C.ta C.tr.length C.tcap, .slice C.na C.ns.length C.ncap] 32)) := ⟨_, rfl⟩
      rw [← hW8.out]
      obtain ⟨bx, aB, cB⟩ := two_objs w8 (.cells #[.slice M.fa M.frs.length M.fcap, .slice M.ea M.ens.length M.ecap, .slice M.qa M.qus.length M.qcap] 29) (.cells #[.slice C.ta C.tr.length C.tcap, .slice C.na C.ns.length C.ncap] 32)
      rw [← hW8.out] at bx aB cB
      obtain ⟨P, hP⟩ : ∃ P, Hid (P = w8.heap.size) := ⟨_, rfl⟩
      obtain ⟨P2, hP2⟩ : ∃ P2, Hid (P2 = w8.heap.size + 1) := ⟨_, rfl⟩
      rw [← hP2.out, ← hP.out]
      rw [← hP.out] at aB
      rw [← hP2.out] at cB
      have B8 : Hid (Below wr.heap.size wr W8) := show Below _ _ _ from hb8.trans (bx.mono hb8.size)
      have MB : Hid (MBox 0 W8 P M) := show MBox _ _ _ _ from MBox.of_block (t := 29) ((hO.mono (Nat.zero_le _)).below bx) aB (fun q => by have h1 := (Mine.fresh hO q).2; have h2 := hP.out; omega)
      have CB : Hid (_) := cB
      have HCO : Hid (ChalAt W8 C) := hCO.at_.below bx
      have HMS : Hid (M.Same Z1.M) := hMs
      have HCS : Hid (C.Same Z1.C) := hCs
      have BW8 : Hid (Below w.heap.size w W8) := show Below _ _ _ from BWR.out.trans (B8.out.mono BWR.out.size)
      have HC9 : Hid (∀ w9, Below W8.heap.size W8 w9 → Tab w9) := fun w9 hb => HT.out.below (BW8.out.trans (hb.mono BW8.out.size))
      have hcl := clone_acts la L lc W8 (by have := hn.out; omega) (RowsAt.below (cells := Ac.cells) (fun _ => rfl) HROW.out B8.out)
      rw [← hn.out] at hcl
      have hP1 := HP.out
      have hwk : IntKind.i64.wrap (12 + k9) = 12 + k9 := by rw [IntKind.wrap_i64]; omega
      obtain ⟨L2, hL2⟩ : ∃ L2, Hid (L2 = L ++ badL (12 + k9)) := ⟨_, rfl⟩
      obtain ⟨n2, hn2⟩ : ∃ n2, Hid (n2 = L2.length) := ⟨_, rfl⟩
      have hn5 : Hid (n2 = n + 5) := show _ = _ by rw [hn2.out, hL2.out, List.length_append, hn.out]; rfl
      have HL2OK : Hid (∀ x ∈ L2, x.Ok) := fun x hx => by
        rw [hL2.out] at hx
        rcases List.mem_append.1 hx with h | h
        · exact HLOK.out x h
        · exact badL_ok (by omega) x h
      clear hW8 bx aB cB hP hP2 hb8 hO hCO hMs hCs hzr
      go_upto_region 10 with (first
        | (go_at_call 27; refine hcl.mono ?_; clear hcl; rintro e w9 ⟨v9, rfl, hown9, hb9⟩; (have hba : Below w9.heap.size w9 (w9.alloc (.cells #[.int .i64 (12 + k9), .int .i64 0, .int .i64 0, .int .i64 0, .int .i64 0, .int .i64 0, .int .i64 0, .int .i64 4, .int .i64 0, .int .i64 0, .int .i64 0, .int .i64 0, .int .i64 0, .int .i64 0, .int .i64 6, .int .i64 0, .int .i64 24, .int .i64 0, .int .i64 0, .int .i64 0, .int .i64 0, .int .i64 11, .int .i64 0, .int .i64 0, .int .i64 (-1), .int .i64 0, .int .i64 0, .int .i64 0, .int .i64 8, .int .i64 5, .int .i64 0, .int .i64 0, .int .i64 0, .int .i64 0, .int .i64 0] 68)) := (Below.refl _ _).alloc (Nat.le_refl _) _); (obtain ⟨v10, w10, hrun, hown10, hbel10, hsz10⟩ := app_acts (owns_belowA hown9 hba) (hb9.trans (hba.mono hb9.size)) (Nat.le_trans hb9.size hba.size) (some ⟨w9.heap.size, 0, none⟩) [⟨12 + k9, 0, 0, 0, 0, 0, 0⟩, ⟨4, 0, 0, 0, 0, 0, 0⟩, ⟨6, 0, 24, 0, 0, 0, 0⟩, ⟨11, 0, 0, -1, 0, 0, 0⟩, ⟨8, 5, 0, 0, 0, 0, 0⟩] 5 (lit_rows (Go.Deep.blk_alloc_new w9 _) rfl) (by simp; have := hn.out; omega)); (have hrun2 : (Builtin.append_ #[23, 23] 23 #[v9, .slice (some ⟨w9.heap.size, 0, none⟩) 5 5]).run Tryz.prog (w9.alloc (.cells #[.int .i64 (12 + k9), .int .i64 0, .int .i64 0, .int .i64 0, .int .i64 0, .int .i64 0, .int .i64 0, .int .i64 4, .int .i64 0, .int .i64 0, .int .i64 0, .int .i64 0, .int .i64 0, .int .i64 0, .int .i64 6, .int .i64 0, .int .i64 24, .int .i64 0, .int .i64 0, .int .i64 0, .int .i64 0, .int .i64 11, .int .i64 0, .int .i64 0, .int .i64 (-1), .int .i64 0, .int .i64 0, .int .i64 0, .int .i64 8, .int .i64 5, .int .i64 0, .int .i64 0, .int .i64 0, .int .i64 0, .int .i64 0] 68)) = .ok v10 w10 := hrun); (have hown11 : Owns w10 W8.heap.size v10 L2 := by rw [hL2.out]; exact hown10); (obtain ⟨la2, lc2, hv10, hrow2⟩ := acts_row hown11); (rw [← hn2.out] at hv10); subst hv10; have hrun9 := run_script hn2.out (by have := hn5.out; omega) HL2OK.out la2 lc2 w10 hrow2 (HC9.out w10 hbel10); have HB10 : Hid (Below W8.heap.size W8 w10) := hbel10; clear hown9 hb9 hba hrun hown10 hbel10 hsz10 hown11 hrow2)
        | (go_at_call 17; refine (hP1 _).mono ?_; clear hP1; rintro e w' ⟨rfl, rfl⟩)
        | (at_builtin; refine wpList_append_eq rfl _ _ 23 rfl _ _ (.slice la2 n2 lc2) rfl rfl hrun2 ?_; clear hrun2)
        | (go_at_call 13; refine hrun9.mono ?_; clear hrun9; rintro y w11 ⟨ba, bcap, MM, CC, rfl, hzr, hMs, hCs, hO, hCO, hb11⟩; unfold Mv.val Cv.val))
      obtain ⟨W11, hW11⟩ : ∃ W11, Hid (W11 = (w11.alloc (.cells #[.slice MM.fa MM.frs.length MM.fcap, .slice MM.ea MM.ens.length MM.ecap, .slice MM.qa MM.qus.length MM.qcap] 29)).alloc (.cells #[.slice CC.ta CC.tr.length CC.tcap, .slice CC.na CC.ns.length CC.ncap] 32)) := ⟨_, rfl⟩
      rw [← hW11.out]
      obtain ⟨bx, aB, cB⟩ := two_objs w11 (.cells #[.slice MM.fa MM.frs.length MM.fcap, .slice MM.ea MM.ens.length MM.ecap, .slice MM.qa MM.qus.length MM.qcap] 29) (.cells #[.slice CC.ta CC.tr.length CC.tcap, .slice CC.na CC.ns.length CC.ncap] 32)
      rw [← hW11.out] at bx aB cB
      obtain ⟨Q, hQ⟩ : ∃ Q, Hid (Q = w11.heap.size) := ⟨_, rfl⟩
      obtain ⟨Q2, hQ2⟩ : ∃ Q2, Hid (Q2 = w11.heap.size + 1) := ⟨_, rfl⟩
      rw [← hQ2.out, ← hQ.out]
      rw [← hQ.out] at aB
      have B11 : Hid (Below W8.heap.size W8 W11) := show Below _ _ _ from (HB10.out.trans (hb11.mono HB10.out.size)).trans (bx.mono (Nat.le_trans HB10.out.size hb11.size))
      have NB : Hid (MBox 0 W11 Q MM) := show MBox _ _ _ _ from MBox.of_block (t := 29) ((hO.mono (Nat.zero_le _)).below bx) aB (fun q => by have h1 := (Mine.fresh hO q).2; have h2 := hQ.out; omega)
      have hMM : MM.Same Z1.M := by rw [hL2.out, hst_append, ← hZ1.out, HS1.out.2.2.1] at hMs; exact hMs
      have HMM : Hid (_) := hMM
      have hba := RowsAt.below (cells := anCells) (fun _ => rfl) hzr bx
      have HBA : Hid (RowsAt W11 2 anCells ba (hans (hs0 []) L2)) := hba
      have BW11 : Hid (Below w.heap.size w W11) := show Below _ _ _ from BW8.out.trans (B11.out.mono BW8.out.size)
      have hrun12 := fun (g lc : Nat) w' hrow (hb : Below W11.heap.size W11 w') => run_long (some ⟨g, 0, none⟩) lc w' hrow (HT.out.below (BW11.out.trans (hb.mono BW11.out.size)))
      clear hW11 bx aB cB hQ hQ2 hb11 hO hCO hMs hCs hzr hMM hba
      obtain ⟨MK, hMK⟩ : ∃ MK, Hid (MK = madeCells #[.int .i64 0, .int .i64 0, .int .i64 0, .int .i64 0, .int .i64 0, .int .i64 0, .int .i64 0] (201 * 7)) := ⟨_, rfl⟩
      have hmk := make201
      rw [← hMK.out] at hmk
      have hrow12 : RowsAt (W11.alloc (.cells MK 68)) 7 Ac.cells (some ⟨W11.heap.size, 0, none⟩) (List.replicate 201 (default : Ac)) := rows201 (t := 68) (by rw [hMK.out]; exact Go.Deep.blk_alloc_new _ _)
      have hrun13 := hrun12 W11.heap.size 201 _ hrow12 ((Below.refl _ _).alloc (Nat.le_refl _) _)
      clear hrun12 hrow12
      go_upto_region 11 with (go_at_call 13; refine hrun13.mono ?_; clear hrun13; rintro y w13 ⟨ca, ccap, M3, C3, rfl, hb13⟩; unfold Mv.val Cv.val)
      clear hmk
      obtain ⟨W13, hW13⟩ : ∃ W13, Hid (W13 = (w13.alloc (.cells #[.slice M3.fa M3.frs.length M3.fcap, .slice M3.ea M3.ens.length M3.ecap, .slice M3.qa M3.qus.length M3.qcap] 29)).alloc (.cells #[.slice C3.ta C3.tr.length C3.tcap, .slice C3.na C3.ns.length C3.ncap] 32)) := ⟨_, rfl⟩
      rw [← hW13.out]
      have B13 : Hid (Below W11.heap.size W11 W13) := show Below _ _ _ by rw [hW13.out]; exact (((Below.refl _ _).alloc (Nat.le_refl _) _).trans (hb13.mono (by simp))).trans ((below_allocR (below_allocR (Below.refl _ _) _) _).mono (by have := hb13.size; simp at this; omega))
      have MB3 : Hid (MBox 0 W13 P M) := show MBox _ _ _ _ from (MB.out.keep B11.out).keep B13.out
      have NB3 : Hid (MBox 0 W13 Q MM) := show MBox _ _ _ _ from NB.out.keep B13.out
      have CB3 := (B13.out.block _ (Array.getElem?_eq_some_iff.1 ((B11.out.block _ (Array.getElem?_eq_some_iff.1 CB.out).1).trans CB.out)).1).trans ((B11.out.block _ (Array.getElem?_eq_some_iff.1 CB.out).1).trans CB.out)
      have hCA : ChalAt W13 C := (HCO.out.below B11.out).below B13.out
      have HBA3 : Hid (RowsAt W13 2 anCells ba (hans (hs0 []) L2)) := RowsAt.below (cells := anCells) (fun _ => rfl) HBA.out B13.out
      have hgM : machF M = 0 := (machF_same HMS.out).trans HS1.out.1.1
      have hgC : chF C.tr C.ns = 0 := by rw [HCS.out.tr, HCS.out.ns]; exact HS1.out.1.2
      have hcM := checkM_any M W13 MB3.out.own.at_
      rw [hgM] at hcM
      have hcC := fun w' (hb : Below W13.heap.size W13 w') => checkC_any C w' (hCA.below hb)
      rw [hgC] at hcC
      unfold Mv.val at hcM
      unfold Cv.val at hcC
      have m0 := MB3.out.c0
      have m1 := MB3.out.c1
      have m2 := MB3.out.c2
      have lm := MB3.out.lt
      have k0 : W13.cell? ⟨P2, 0, none⟩ = some (.slice C.ta C.tr.length C.tcap) := by simp [World.cell?, CB3]
      have k1 : W13.cell? ⟨P2, 1, none⟩ = some (.slice C.na C.ns.length C.ncap) := by simp [World.cell?, CB3]
      have lk := lt_of_cell k0
      have HK : Hid (_) := And.intro k0 (And.intro k1 lk)
      have BW13 : Hid (Below w.heap.size w W13) := show Below _ _ _ from BW11.out.trans (B13.out.mono BW11.out.size)
      clear hW13 hb13 CB3 hCA hgM hgC
      go_upto_region 13 with (first
        | (go_at_call 28; refine hcM.mono ?_; clear hcM; rintro e w14 ⟨rfl, hb14⟩; have HB14 : Hid (Below W13.heap.size W13 w14) := hb14; clear k0 k1 m0 m1 m2; have k0 := (hb14.cell (p := ⟨P2, 0, none⟩) HK.out.2.2).trans HK.out.1; have k1 := (hb14.cell (p := ⟨P2, 1, none⟩) HK.out.2.2).trans HK.out.2.1; have lk2 := lt_of_cell k0; have hcC2 := hcC w14 hb14; clear hcC hb14)
        | (go_at_call 29; refine hcC2.mono ?_; clear hcC2; rintro e w15 ⟨rfl, hb15⟩))
      have B15 : Hid (Below W13.heap.size W13 w15) := show Below _ _ _ from HB14.out.trans (hb15.mono HB14.out.size)
      clear hb15 k0 k1 lk2 lk lm HK HCO CB
      rename World => V
      have MBV : Hid (MBox 0 V P M) := show MBox _ _ _ _ from MB3.out.keep B15.out
      have NBV : Hid (MBox 0 V Q MM) := show MBox _ _ _ _ from NB3.out.keep B15.out
      have BWV : Hid (Below w.heap.size w V) := show Below _ _ _ from BW13.out.trans (B15.out.mono BW13.out.size)
      have HBV : Hid (RowsAt V 2 anCells ba (hans (hs0 []) L2)) := RowsAt.below (cells := anCells) (fun _ => rfl) HBA3.out B15.out
      have HSM : Hid (M.Same MM) := show M.Same MM from HMS.out.trans HMM.out.symm
      have x0 := MBV.out.c0
      have z0 := NBV.out.c0
      have lx := MBV.out.lt
      have hfl := MBV.out.own.at_.frl
      unfold maxLen at hfl
      obtain ⟨nf, hnf⟩ : ∃ nf, Hid (nf = M.frs.length) := ⟨_, rfl⟩
      rw [← HSM.out.len, ← hnf.out] at z0
      rw [← hnf.out] at x0 hfl
      go_upto_region 15 with fail
      go_loopw [116] (fun i wr => ∃ j : Nat, j ≤ nf ∧ i = .int .i64 j ∧ ∃ m, wr = V.drewN m) (fun i _ => nf - (intOf i).toNat)
      case atStart => exact ⟨0, Nat.zero_le _, rfl, 0, rfl⟩
      case round =>
        obtain ⟨j, hj, rfl, m, hwr⟩ := hrel
        have HWR : Hid (wr = V.drewN m) := hwr
        have HBR : Hid (Below V.heap.size V wr) := show Below _ _ _ by rw [hwr]; exact below_drewN (Below.refl _ _) _
        have XBR : Hid (_) := MBV.out.keep HBR.out
        have GBR : Hid (_) := NBV.out.keep HBR.out
        clear x0 z0 hwr lx
        by_cases hlt : j < nf
        · have x0 := XBR.out.c0
          have z0 := GBR.out.c0
          have l5 := XBR.out.lt
          have l6 := GBR.out.lt
          rw [← HSM.out.len, ← hnf.out] at z0
          rw [← hnf.out] at x0
          obtain ⟨xb, xo, hxa, c0, c1, c2, c3⟩ := XBR.out.own.at_.frame (j := j) (by rw [← hnf.out]; exact hlt)
          obtain ⟨yb, yo, hya, e0, e1, e2, e3⟩ := GBR.out.own.at_.frame (j := j) (by rw [← HSM.out.len, ← hnf.out]; exact hlt)
          rw [hxa] at x0
          rw [hya] at z0
          have okX := XBR.out.own.at_.frok j (by rw [← hnf.out]; exact hlt)
          have okZ := GBR.out.own.at_.frok j (by rw [← HSM.out.len, ← hnf.out]; exact hlt)
          have hws : (M.frs.getD j default).ws = (MM.frs.getD j default).ws := (HSM.out.fr j (by rw [← hnf.out]; exact hlt)).2.2.2
          have hoo : (M.frs.getD j default).o = (MM.frs.getD j default).o := (HSM.out.fr j (by rw [← hnf.out]; exact hlt)).1
          have hEq := fun m => equal_any (M.frs.getD j default).a (MM.frs.getD j default).a (M.frs.getD j default).ws (MM.frs.getD j default).ws (M.frs.getD j default).cap (MM.frs.getD j default).cap (wr.drewN m) okX.len okZ.len (okX.ints.below (below_drewN (Below.refl _ _) m)) (okZ.ints.below (below_drewN (Below.refl _ _) m))
          rw [← hws] at hEq e3
          rw [← hoo] at e0
          have lx := lt_of_cell c3
          have lz := lt_of_cell e3
          have hjI : (j : Int) < (nf : Int) := by omega
          clear okX okZ hws hoo c1 c2 e1 e2
          generalize M.frs.getD j default = F1 at c0 e0 c3 e3 hEq
          generalize MM.frs.getD j default = F2 at e3 hEq
          obtain ⟨o1, at1, r1, pa1, ws1, cap1⟩ := F1
          obtain ⟨o2, at2, r2, pa2, ws2, cap2⟩ := F2
          dsimp only at c0 e0 c3 e3 hEq
          rw [show decide (ws1 = ws1) = true from decide_eq_true rfl] at hEq
          generalize ws1.length = nw at *
          go_upto_region 17 with fail
          go_quiet ((go_at_call 30; exact Calls.quiet_of (hEq _)))
          go_wp2
          go_roundw
          case rel => exact ⟨j + 1, by omega, by go_num, _, by rw [HWR.out, World.drewN_drewN]⟩
          case measure => simp [intOf]; omega
        · have hge : ¬ ((j : Int) < (nf : Int)) := by omega
          clear hlt
          go_upto_region 20 with fail
          have hB0 := RowsAt.below (cells := anCells) (fun _ => rfl) HBV.out HBR.out
          have hA2 : hans (hs0 []) L2 = hans (hs0 []) L ++ hans Z1 (badL (12 + k9)) := by rw [hL2.out, hans_append, ← hZ1.out]
          have hAl : (hans (hs0 []) L).length = n := by rw [HS1.out.2.1, hn.out]
          have hAz : (hans (hs0 []) L2).length = n2 := by rw [hans_len, hn2.out]
          have hcode := fun i hi => code_at hAl HS1.out.2.2.2 i hi
          rw [← hA2] at hcode
          have h5 := hn5.out
          rcases hB0 with h0 | ⟨bb, bo, rfl, hcs⟩
          · rw [h0] at hAz; simp at hAz; omega
          · have q0 := hcs (n + 0) (by omega) 0 (by omega)
            have q1 := hcs (n + 1) (by omega) 0 (by omega)
            have q2 := hcs (n + 2) (by omega) 0 (by omega)
            have q3 := hcs (n + 3) (by omega) 0 (by omega)
            have q4 := hcs (n + 4) (by omega) 0 (by omega)
            simp only [anCells, List.getElem?_cons_zero] at q0 q1 q2 q3 q4
            rw [hcode 0 (by simp)] at q0
            rw [hcode 1 (by simp)] at q1
            rw [hcode 2 (by simp)] at q2
            rw [hcode 3 (by simp)] at q3
            rw [hcode 4 (by simp)] at q4
            simp only [List.getD_cons_zero, List.getD_cons_succ, Nat.add_zero] at q0 q1 q2 q3 q4
            have lq := lt_of_cell q0
            obtain ⟨n_1, hn_1⟩ : ∃ m : Nat, m = n + 1 := ⟨_, rfl⟩
            have w1 : IntKind.i64.wrap ((n : Int) + 1) = (n_1 : Int) := by rw [IntKind.wrap_i64]; omega
            have i1 : (n_1 : Int) < (n2 : Int) := by omega
            rw [← hn_1] at q1
            obtain ⟨n_2, hn_2⟩ : ∃ m : Nat, m = n + 2 := ⟨_, rfl⟩
            have w2 : IntKind.i64.wrap ((n : Int) + 2) = (n_2 : Int) := by rw [IntKind.wrap_i64]; omega
            have i2 : (n_2 : Int) < (n2 : Int) := by omega
            rw [← hn_2] at q2
            obtain ⟨n_3, hn_3⟩ : ∃ m : Nat, m = n + 3 := ⟨_, rfl⟩
            have w3 : IntKind.i64.wrap ((n : Int) + 3) = (n_3 : Int) := by rw [IntKind.wrap_i64]; omega
            have i3 : (n_3 : Int) < (n2 : Int) := by omega
            rw [← hn_3] at q3
            obtain ⟨n_4, hn_4⟩ : ∃ m : Nat, m = n + 4 := ⟨_, rfl⟩
            have w4 : IntKind.i64.wrap ((n : Int) + 4) = (n_4 : Int) := by rw [IntKind.wrap_i64]; omega
            have i4 : (n_4 : Int) < (n2 : Int) := by omega
            rw [← hn_4] at q4
            have i0 : (n : Int) < (n2 : Int) := by omega
            clear hn_1 hn_2 hn_3 hn_4
            have HQ := eqEns_any M MM wr XBR.out.own.at_ GBR.out.own.at_ HSM.out.en
            have x1 := XBR.out.c1
            have z1 := GBR.out.c1
            have l5 := XBR.out.lt
            have l6 := GBR.out.lt
            clear hcs hcode hAl hAz hA2 h5
            go_wp2_with (go_at_call 31; refine HQ.mono ?_; clear HQ; rintro e w16 ⟨rfl, n16, rfl⟩)
            go_ret
            exact ⟨rfl, below_drewN (BWV.out.trans (HBR.out.mono BWV.out.size)) _⟩

set_option maxRecDepth 100000 in
theorem hostsGood_contract (H : Type) (enc : TypeId × Value → H) (W : World) (base : Nat) (args : Array Value) (ds gs : List (DataW H)) (before : List MemPlace)
    (hval0 : ∀ (j : Nat) t v, Tryz.f6.params[j]? = some t → args[j]? = some v → Value.okWide Tryz.prog W .any base t v)
    (hW : DataW.Whole enc Tryz.prog Tryz.f6.params.toList Rows.hostsGoodSpec.vars false W args.toList ds gs before) (hL : laidMetH Tryz.prog listed W)
    (hsz0 : (DataW.weightsEach Tryz.prog (Tryz.f6.params.toList ++ []) (ds ++ gs)).all (· ≤ reachBytes) = true) :
    Calls Tryz.prog 6 args W fun e W' => ∃ v, e = .returned v ∧ Rows.hostsGoodSpec.post enc Tryz.prog Tryz.f6 false true false false W args v W' := by
  have hval := hval0
  have hsz := hsz0
  have hW' := hW
  obtain ⟨p, q, hA0, hV, rfl, hfz, hnd⟩ := hW
  have hA : DataW.TrodAll enc Tryz.prog W 0 (fun _ => true) true Tryz.f6.params.toList args.toList ds p := hA0
  rw [Tryz.params6] at hA hval hsz
  obtain ⟨v0, vs0, d0, ds0, p0, q0, hargs, rfl, rfl, h0, r0⟩ := trodAll_cons hA
  obtain ⟨v1, vs1, d1, ds1, p1, q1, rfl, rfl, rfl, h1, r1⟩ := trodAll_cons r0
  obtain ⟨v2, vs2, d2, ds2, p2, q2, rfl, rfl, rfl, h2, r2⟩ := trodAll_cons r1
  obtain ⟨v3, vs3, d3, ds3, p3, q3, rfl, rfl, rfl, h3, r3⟩ := trodAll_cons r2
  obtain ⟨rfl, rfl, rfl⟩ := trodAll_nil r3
  obtain rfl : args = #[v0, v1, v2, v3] := by cases args; simp_all
  obtain ⟨rfl, rfl⟩ := trodVars_none hV
  have k0 := h0
  have lt0 : ∀ x ∈ p0, x.block < W.heap.size := by obtain ⟨m, hm⟩ := k0; exact DataW.trod_lt m _ _ _ hm
  obtain ⟨a0, len0, cap0, rfl⟩ := okWide_slice Tryz.underlying59 (hval 0 59 v0 rfl rfl)
  obtain ⟨rs0, hlen0, hmax0, hx0⟩ := open_raws h0
  subst hlen0
  have k1 := h1
  have lt1 : ∀ x ∈ p1, x.block < W.heap.size := by obtain ⟨m, hm⟩ := k1; exact DataW.trod_lt m _ _ _ hm
  obtain ⟨a1, len1, cap1, rfl⟩ := okWide_slice Tryz.underlying59 (hval 1 59 v1 rfl rfl)
  obtain ⟨rs1, hlen1, hmax1, hx1⟩ := open_raws h1
  subst hlen1
  have k2 := h2
  have lt2 : ∀ x ∈ p2, x.block < W.heap.size := by obtain ⟨m, hm⟩ := k2; exact DataW.trod_lt m _ _ _ hm
  obtain ⟨rw2, rfl, hr2⟩ := open_raw (hval 2 61 v2 rfl rfl) h2
  have k3 := h3
  have lt3 : ∀ x ∈ p3, x.block < W.heap.size := by obtain ⟨m, hm⟩ := k3; exact DataW.trod_lt m _ _ _ hm
  obtain ⟨x3, rfl, rfl, rfl, wx3⟩ := open_int Tryz.underlying3 (hval 3 3 v3 rfl rfl) h3
  clear hA0 hval0
  refine (hostsGood_walk a0 rs0 cap0 a1 rs1 cap1 rw2 x3 W hmax0 hx0 hmax1 hx1 hr2 wx3 (tab_of hL)).mono fun e W' ⟨he, bel⟩ => ?_
  subst he
  exact ⟨_, rfl, _, _, _, [], _, [], hW', trodAll_mk1 (shut_bool Tryz.underlying4 _), (trodAll_cons_mk (Below.trod laidOut (by kernel_rfl) (of_decide_eq_true (by kernel_rfl)) k0 bel lt0) (trodAll_cons_mk (Below.trod laidOut (by kernel_rfl) (of_decide_eq_true (by kernel_rfl)) k1 bel lt1) (trodAll_cons_mk (Below.trod laidOut (by kernel_rfl) (of_decide_eq_true (by kernel_rfl)) k2 bel lt2) (trodAll_cons_mk (Below.trod laidOut (by kernel_rfl) (of_decide_eq_true (by kernel_rfl)) k3 bel lt3) trodAll_mk0)))), rfl, bel.frame _, fun h => by cases h⟩

theorem hostsGood_laid (os : Os) : laidMet Tryz.prog listed ((laidWorld os).forCall (fun _ _ => 0) ⟨#[], #[.slice none 0 0, .slice none 0 0, .agg #[.int .i64 0, .int .i64 0, .int .i64 0, .int .i64 0], .int .i64 0], []⟩).memory :=
  laidMet_of_run' 8 (by kernel_rfl) (by kernel_rfl)
theorem hostsGood_reads (os : Os) {H : Type} (enc : TypeId × Value → H) : ∃ places, DataW.whole enc Tryz.prog ((laidWorld os).forCall (fun _ _ => 0) ⟨#[], #[.slice none 0 0, .slice none 0 0, .agg #[.int .i64 0, .int .i64 0, .int .i64 0, .int .i64 0], .int .i64 0], []⟩).memory Tryz.f6.params.toList Rows.hostsGoodSpec.vars false (#[.slice none 0 0, .slice none 0 0, .agg #[.int .i64 0, .int .i64 0, .int .i64 0, .int .i64 0], .int .i64 0] : Array Value).toList 8 = some ([.nil, .nil, .agg [.lit (.int .i64 0), .lit (.int .i64 0), .lit (.int .i64 0), .lit (.int .i64 0)], .lit (.int .i64 0)], [], places) :=
  ⟨[], by kernel_rfl⟩

set_option maxRecDepth 100000 in
theorem hostsGood_lifted (os : Os) (started : os.Started) (H : Type) (enc : TypeId × Value → H) (F : Stop.Interp) :
    ReturnsInHanded {} Tryz.checked os 6 .any ((OpenSpec.ofChange Rows.hostsGoodSpec).preRow enc Tryz.prog Tryz.f6 Rows.hostsGoodRow.domain false Rows.hostsGoodRow.laid) (((OpenSpec.ofChange Rows.hostsGoodSpec).at F).post enc Tryz.prog Tryz.f6 false true false false) := by
  obtain ⟨places, hx⟩ := hostsGood_reads os enc
  refine returnsInHanded_of_row (C := Tryz.checked) (s := (OpenSpec.ofChange Rows.hostsGoodSpec)) own started (by kernel_rfl) Tryz.func6
    (witness_row_at (enc := enc) (C := Tryz.checked) false (laidWorld os) #[.slice none 0 0, .slice none 0 0, .agg #[.int .i64 0, .int .i64 0, .int .i64 0, .int .i64 0], .int .i64 0] rfl (by kernel_rfl) (by kernel_rfl) (by kernel_rfl)
      (OpenSpec.preRow_of_cond 8 hx (by kernel_rfl) (fun k hk => by cases hk) (by kernel_rfl) (hostsGood_laid os))) ?_
  intro W base args ds gs before hval hW _ hcond hsz hL _ _
  exact hostsGood_contract H enc W base args ds gs before hval hW hL hsz

theorem hostsGood_said : Rows.HostsGoodSaid :=
  OpenClaim.holds_of_cond 6 Tryz.f6 rfl rfl rfl rfl rfl rfl rfl ⟨rfl, rfl, rfl, rfl, rfl⟩ rfl rfl rfl rfl rfl (by kernel_rfl) Tryz.func6 (by kernel_rfl)
    (of_decide_eq_true (by kernel_rfl)) (by unfold Func.isWrapper; first | (rw [if_pos (by decide +kernel)]; kernel_rfl) | (rw [if_neg (by decide +kernel)]; exact ⟨rfl, rfl⟩))
    (fun os started H enc _ F => by rw [OpenClaim.pre_eq_preRow]; exact hostsGood_lifted os started H enc F)

theorem hostsGood_plain (f : FuncId) (fn : Func) (hf : Tryz.pinned.checked.prog.funcNamed "riddle/riddlekeep.HostsGood" = some f) (hfn : Tryz.pinned.checked.prog.funcs[f]? = some fn) :
    false = Tryz.pinned.checked.prog.looks [] ∧ ∀ (j : Nat) t, fn.params[j]? = some t → Tryz.pinned.checked.prog.wantsStandIn t = false := by
  obtain rfl : f = 6 := Option.some.inj ((show Tryz.prog.funcNamed "riddle/riddlekeep.HostsGood" = some 6 by kernel_rfl).symm.trans hf) |>.symm
  obtain rfl : fn = Tryz.f6 := (Option.some.inj (Tryz.func6.symm.trans hfn)).symm
  refine ⟨by kernel_rfl, fun j t ht => ?_⟩
  rw [Tryz.params6] at ht
  have hm : t = 59 ∨ t = 61 ∨ t = 3 := by simpa using Array.mem_of_getElem? ht
  rcases hm with rfl | rfl | rfl
  · exact (show Tryz.prog.wantsStandIn 59 = false by kernel_rfl)
  · exact (show Tryz.prog.wantsStandIn 61 = false by kernel_rfl)
  · exact (show Tryz.prog.wantsStandIn 3 = false by kernel_rfl)

theorem hostsGood_card : Rows.HostsGoodCardSaid :=
  Claim7.holds_tied_plain_at .later [] _ _ _ _ hostsGood_said (fun _ h => by cases h) (by kernel_rfl) (fun _ h => by cases h) hostsGood_row_tie rfl ⟨rfl, rfl⟩ (by kernel_rfl) rfl hostsGood_plain (by kernel_rfl)
#print axioms hostsGood_card

end Go.Proofs.YtdngbojbpmdegaaGreatDoor
