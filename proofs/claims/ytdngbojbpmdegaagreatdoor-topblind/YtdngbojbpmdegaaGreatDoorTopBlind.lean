/-
  For every list of raw things, every raw thing, a list of raw things and a raw thing, TopBlind answers true: who owns the machine sees the same, whatever is in enclaves. No condition but that the library's tables are as the program's text lays them, which the card ties.
-/
import Derived.Test.YtdngbojbpmdegaaGreatDoorJMBox
import Derived.Test.YtdngbojbpmdegaaGreatDoorActed
import Derived.Test.YtdngbojbpmdegaaGreatDoorJFloat
import Derived.Test.YtdngbojbpmdegaaGreatDoorActsOf
import Derived.Test.YtdngbojbpmdegaaGreatDoorJOpens
import Derived.Deep.DeepCutAuto
import Derived.BigQuiet
namespace Go.Proofs.YtdngbojbpmdegaaGreatDoor
open Go.ChangeShapes Go.WideShapes Go.ChangeAt Go.RowKit
set_option linter.unusedVariables false


theorem blind_same {M N M' N' : Mv} (h : Blind M N) (hM : M'.Same M) (hN : N'.Same N) : Blind M' N' := by
  refine ⟨by rw [hM.len, hN.len, h.len], by rw [hM.en, hN.en, h.ens], fun j => ?_, fun j q => ?_⟩
  · have h1 : (N'.frs.getD j default).at_ = (N.frs.getD j default).at_ ∧ (M'.frs.getD j default).at_ = (M.frs.getD j default).at_ := by
      constructor
      · by_cases c : j < N'.frs.length
        · exact (hN.fr j c).2.1
        · rw [List.getD_eq_getElem?_getD, List.getD_eq_getElem?_getD, List.getElem?_eq_none (by omega), List.getElem?_eq_none (by rw [← hN.len]; omega)]
      · by_cases c : j < M'.frs.length
        · exact (hM.fr j c).2.1
        · rw [List.getD_eq_getElem?_getD, List.getD_eq_getElem?_getD, List.getElem?_eq_none (by omega), List.getElem?_eq_none (by rw [← hM.len]; omega)]
    obtain ⟨a, b, c⟩ := h.own j
    exact ⟨by rw [same_o hN, same_o hM, a], by rw [h1.1, h1.2, b], by rw [same_r hN, same_r hM, c]⟩
  · rw [same_o hM] at q
    rw [same_ws hN, same_ws hM, h.ws j q]
theorem wf_wrapM (n : Int) : (Lit.int .i64 (IntKind.i64.wrap n)).wf = true := by
  first | exact wrap_wf _ | exact wf_wrap _ _
theorem farD {w : World} {P R o o' : Nat} {v : Value} (h : ¬ R = P) : (w.setCell ⟨P, o', none⟩ v).drew.cell? ⟨R, o, none⟩ = w.cell? ⟨R, o, none⟩ :=
  (show (w.setCell ⟨P, o', none⟩ v).cell? ⟨R, o, none⟩ = _ from World.cell?_of_block (set_heap _ _ _ _ _ h))
/-- a copy, in the midst of being changed: in memory of its own, the same but for the words of pages that are somebody's -/
structure Bl (W : World) (Q : Nat) (M N0 NX : Mv) (wr : World) : Prop where
  box : MBox W.heap.size wr Q NX
  fa : NX.fa = N0.fa
  ad : ∀ j, (NX.frs.getD j default).a = (N0.frs.getD j default).a
  bl : Blind M NX
  qu : NX.qus = M.qus
  may : ∀ j, j < 24 → mayW (NX.frs.getD j default).ws = true
  below : Below W.heap.size W wr
theorem Bl.keep {W : World} {Q : Nat} {M N0 NX : Mv} {wr w2 : World} (h : Bl W Q M N0 NX wr) (hb : Below wr.heap.size wr w2) : Bl W Q M N0 NX w2 :=
  ⟨h.box.keep hb, h.fa, h.ad, h.bl, h.qu, h.may, h.below.trans (hb.mono h.below.size)⟩
theorem Bl.word {W : World} {Q : Nat} {M N0 NX : Mv} {wr : World} (h : Bl W Q M N0 NX wr) {j m pb po : Nat} (hj : j < NX.frs.length) (ha : (NX.frs.getD j default).a = some ⟨pb, po, none⟩) (hm : m < (NX.frs.getD j default).ws.length)
    (ho : ¬ (NX.frs.getD j default).o = 0) {n : Int} (hn : 0 ≤ n ∧ n ≤ 65535) (h24 : NX.frs.length = 24) :
    Bl W Q M N0 { NX with frs := NX.frs.set j { NX.frs.getD j default with ws := (NX.frs.getD j default).ws.set m n } } (wr.setCell ⟨pb, po + m, none⟩ (.int .i64 n)) := by
  have hmine : Mine NX pb := .inr (.inr (.inr ⟨j, hj, _, _, ha⟩))
  have hne : Q ≠ pb := fun e => h.box.off (e ▸ hmine)
  have hge := (Mine.fresh h.box.own hmine).1
  have hown := h.box.own.setWord hj ha hm (n := n) (wf_of (by omega))
  have hcell : ∀ o, (wr.setCell ⟨pb, po + m, none⟩ (.int .i64 n)).cell? ⟨Q, o, none⟩ = wr.cell? ⟨Q, o, none⟩ := fun o => World.cell?_of_block (set_heap _ _ _ _ _ hne)
  have hg : ∀ i, ((NX.frs.set j { NX.frs.getD j default with ws := (NX.frs.getD j default).ws.set m n }).getD i default) = if i = j then { NX.frs.getD j default with ws := (NX.frs.getD j default).ws.set m n } else NX.frs.getD i default := fun i => by
    rw [getD_set_any]
    by_cases c : i = j
    · subst c; simp [hj]
    · rw [if_neg c, if_neg (by omega)]
  refine ⟨⟨?_, ?_, ?_, fun o => ?_, ?_, hown, ?_⟩, h.fa, fun i => ?_, ⟨?_, h.bl.ens, fun i => ?_, fun i q => ?_⟩, h.qu, fun i hi => ?_, h.below.setCell (p := ⟨pb, po + m, none⟩) hge _⟩
  · rw [hcell]; dsimp only; rw [List.length_set]; exact h.box.c0
  · rw [hcell]; exact h.box.c1
  · rw [hcell]; exact h.box.c2
  · rw [World.frozen?_setCell]; exact h.box.fz o
  · simpa [World.setCell] using h.box.lt
  · rintro (q | q | q | ⟨i, hi, s1, s2, q⟩)
    · exact h.box.off (.inl q)
    · exact h.box.off (.inr (.inl q))
    · exact h.box.off (.inr (.inr (.inl q)))
    · dsimp only at hi q
      rw [List.length_set] at hi
      rw [hg] at q
      refine h.box.off (.inr (.inr (.inr ⟨i, hi, s1, s2, ?_⟩)))
      split at q
      · rename_i c; subst c; exact q
      · exact q
  · dsimp only; rw [hg]; split
    · rename_i c; subst c; exact h.ad _
    · exact h.ad i
  · dsimp only; rw [List.length_set]; exact h.bl.len
  · dsimp only; rw [hg]; split
    · rename_i c; subst c; exact h.bl.own _
    · exact h.bl.own i
  · dsimp only; rw [hg]; split
    · rename_i c; subst c; exact absurd ((h.bl.own _).1.trans q) ho
    · exact h.bl.ws i q
  · dsimp only; rw [hg]; split
    · rename_i c; subst c; exact mayW_set (h.may _ hi) (inB_iff.2 hn)
    · exact h.may i hi

theorem acts_at {w : World} {B : Nat} {v : Value} {l : List Ac} (h : Owns w B v l) {g o c : Nat} {s : Option Nat} (e : v = .slice (some ⟨g, o, s⟩) l.length c) : B ≤ g := by
  rcases h.2 with ⟨hv, _⟩ | ⟨g', cap, cur, hv, hB, _⟩
  · rw [hv] at e; simp at e
  · rw [hv] at e
    simp only [Value.slice.injEq, Option.some.injEq, Addr.mk.injEq] at e
    omega
theorem act_ok_okB {mea : Bool} {x : Ac} (h : ActOk mea x) : x.Ok :=
  ⟨wf_of (by have := h.k; omega), wf_of h.e, wf_of h.f, wf_of h.at_, wf_of h.r, wf_of h.n, by rw [h.fu]; decide⟩
/-- the two machines that the acts are done to -/
structure Duo (w : World) (P Q : Nat) (la : Option Addr) (L : List Ac) (M N : Mv) (wr : World) : Prop where
  m : MBox 0 wr P M
  n : MBox 0 wr Q N
  mq : ¬ Mine M Q
  np : ¬ Mine N P
  bl : Blind M N
  zm : machF M = 0
  zn : machF N = 0
  row : RowsAt wr 7 Ac.cells la L
  below : Below w.heap.size w wr
theorem Duo.keep {w : World} {P Q : Nat} {la : Option Addr} {L : List Ac} {M N : Mv} {wr w2 : World} (h : Duo w P Q la L M N wr) (hb : Below wr.heap.size wr w2) : Duo w P Q la L M N w2 :=
  ⟨h.m.keep hb, h.n.keep hb, h.mq, h.np, h.bl, h.zm, h.zn, h.row.below (cells := Ac.cells) (fun _ => rfl) hb, h.below.trans (hb.mono h.below.size)⟩

theorem Duo.make {w : World} {P Q : Nat} {la : Option Addr} {L : List Ac} {M N X Z : Mv} {wr V : World} (h : Duo w P Q la L M N wr) (hX : Owned 0 wr X) (hZ : Owned 0 wr Z) (xP : ¬ Mine X P) (xQ : ¬ Mine X Q) (zP : ¬ Mine Z P) (zQ : ¬ Mine Z Q)
    (bl : Blind X Z) (zx : machF X = 0) (zz : machF Z = 0) (hla : ∀ g o s, la = some ⟨g, o, s⟩ → g ≠ P ∧ g ≠ Q) (bP : w.heap.size ≤ P) (bQ : w.heap.size ≤ Q)
    (hv : ∀ c, c ≠ P → c ≠ Q → V.heap[c]? = wr.heap[c]?) (hs : V.heap.size = wr.heap.size) (hf : ∀ q : Addr, V.frozen? q = wr.frozen? q) (hB : Below w.heap.size w V)
    (p0 : V.cell? ⟨P, 0, none⟩ = some (.slice X.fa X.frs.length X.fcap)) (p1 : V.cell? ⟨P, 1, none⟩ = some (.slice X.ea X.ens.length X.ecap)) (p2 : V.cell? ⟨P, 2, none⟩ = some (.slice X.qa X.qus.length X.qcap))
    (q0 : V.cell? ⟨Q, 0, none⟩ = some (.slice Z.fa Z.frs.length Z.fcap)) (q1 : V.cell? ⟨Q, 1, none⟩ = some (.slice Z.ea Z.ens.length Z.ecap)) (q2 : V.cell? ⟨Q, 2, none⟩ = some (.slice Z.qa Z.qus.length Z.qcap)) : Duo w P Q la L X Z V := by
  refine ⟨⟨p0, p1, p2, fun o => by rw [hf]; exact h.m.fz o, by rw [hs]; exact h.m.lt, hX.keepM (fun c hc => hv c (fun e => xP (e ▸ hc)) (fun e => xQ (e ▸ hc))) (by rw [hs]; exact Nat.le_refl _), xP⟩,
    ⟨q0, q1, q2, fun o => by rw [hf]; exact h.n.fz o, by rw [hs]; exact h.n.lt, hZ.keepM (fun c hc => hv c (fun e => zP (e ▸ hc)) (fun e => zQ (e ▸ hc))) (by rw [hs]; exact Nat.le_refl _), zQ⟩, xQ, zP, bl, zx, zz, ?_, hB⟩
  rcases h.row with e | ⟨b, o, e, hr⟩
  · exact .inl e
  · exact .inr ⟨b, o, e, fun j hj i hi => (World.cell?_of_block (hv b (hla _ _ _ e).1 (hla _ _ _ e).2)).trans (hr j hj i hi)⟩
theorem Duo.put {w : World} {P Q : Nat} {la : Option Addr} {L : List Ac} {M N X Z : Mv} {wr : World} (h : Duo w P Q la L M N wr) (hne : ¬ P = Q) (hX : Owned 0 wr X) (hZ : Owned 0 wr Z) (xP : ¬ Mine X P) (xQ : ¬ Mine X Q) (zP : ¬ Mine Z P) (zQ : ¬ Mine Z Q)
    (bl : Blind X Z) (zx : machF X = 0) (zz : machF Z = 0) (hla : ∀ g o s, la = some ⟨g, o, s⟩ → g ≠ P ∧ g ≠ Q) (bP : w.heap.size ≤ P) (bQ : w.heap.size ≤ Q) :
    Duo w P Q la L X Z (((((((wr).setCell ⟨P, 0, none⟩ (.slice X.fa X.frs.length X.fcap)).setCell ⟨P, 1, none⟩ (.slice X.ea X.ens.length X.ecap)).setCell ⟨P, 2, none⟩ (.slice X.qa X.qus.length X.qcap)).setCell ⟨Q, 0, none⟩ (.slice Z.fa Z.frs.length Z.fcap)).setCell ⟨Q, 1, none⟩ (.slice Z.ea Z.ens.length Z.ecap)).setCell ⟨Q, 2, none⟩ (.slice Z.qa Z.qus.length Z.qcap)) ∧ Duo w P Q la L X Z (((((((wr).setCell ⟨Q, 0, none⟩ (.slice Z.fa Z.frs.length Z.fcap)).setCell ⟨Q, 1, none⟩ (.slice Z.ea Z.ens.length Z.ecap)).setCell ⟨Q, 2, none⟩ (.slice Z.qa Z.qus.length Z.qcap)).setCell ⟨P, 0, none⟩ (.slice X.fa X.frs.length X.fcap)).setCell ⟨P, 1, none⟩ (.slice X.ea X.ens.length X.ecap)).setCell ⟨P, 2, none⟩ (.slice X.qa X.qus.length X.qcap)) := by
  obtain ⟨k0, k1, k2⟩ := blk3 (v0 := .slice X.fa X.frs.length X.fcap) (v1 := .slice X.ea X.ens.length X.ecap) (v2 := .slice X.qa X.qus.length X.qcap) h.m.c0 h.m.c1 h.m.c2
  obtain ⟨l0, l1, l2⟩ := blk3 (v0 := .slice Z.fa Z.frs.length Z.fcap) (v1 := .slice Z.ea Z.ens.length Z.ecap) (v2 := .slice Z.qa Z.qus.length Z.qcap) h.n.c0 h.n.c1 h.n.c2
  have hne' : ¬ Q = P := fun e => hne e.symm
  constructor
  · obtain ⟨m0, m1, m2⟩ := blk3 (v0 := .slice Z.fa Z.frs.length Z.fcap) (v1 := .slice Z.ea Z.ens.length Z.ecap) (v2 := .slice Z.qa Z.qus.length Z.qcap) (w := (((wr).setCell ⟨P, 0, none⟩ (.slice X.fa X.frs.length X.fcap)).setCell ⟨P, 1, none⟩ (.slice X.ea X.ens.length X.ecap)).setCell ⟨P, 2, none⟩ (.slice X.qa X.qus.length X.qcap)) ((far3 hne').trans h.n.c0) ((far3 hne').trans h.n.c1) ((far3 hne').trans h.n.c2)
    exact h.make hX hZ xP xQ zP zQ bl zx zz hla bP bQ (fun c c1 c2 => (blk3_heap c c2).trans (blk3_heap c c1)) (blk3_size.trans blk3_size) (fun q => by simp only [World.frozen?_setCell]) ((((((h.below.setCell (p := ⟨P, 0, none⟩) bP _).setCell (p := ⟨P, 1, none⟩) bP _).setCell (p := ⟨P, 2, none⟩) bP _).setCell (p := ⟨Q, 0, none⟩) bQ _).setCell (p := ⟨Q, 1, none⟩) bQ _).setCell (p := ⟨Q, 2, none⟩) bQ _)
      ((far3 hne).trans k0) ((far3 hne).trans k1) ((far3 hne).trans k2) m0 m1 m2
  · obtain ⟨m0, m1, m2⟩ := blk3 (v0 := .slice X.fa X.frs.length X.fcap) (v1 := .slice X.ea X.ens.length X.ecap) (v2 := .slice X.qa X.qus.length X.qcap) (w := (((wr).setCell ⟨Q, 0, none⟩ (.slice Z.fa Z.frs.length Z.fcap)).setCell ⟨Q, 1, none⟩ (.slice Z.ea Z.ens.length Z.ecap)).setCell ⟨Q, 2, none⟩ (.slice Z.qa Z.qus.length Z.qcap)) ((far3 hne).trans h.m.c0) ((far3 hne).trans h.m.c1) ((far3 hne).trans h.m.c2)
    exact h.make hX hZ xP xQ zP zQ bl zx zz hla bP bQ (fun c c1 c2 => (blk3_heap c c1).trans (blk3_heap c c2)) (blk3_size.trans blk3_size) (fun q => by simp only [World.frozen?_setCell]) ((((((h.below.setCell (p := ⟨Q, 0, none⟩) bQ _).setCell (p := ⟨Q, 1, none⟩) bQ _).setCell (p := ⟨Q, 2, none⟩) bQ _).setCell (p := ⟨P, 0, none⟩) bP _).setCell (p := ⟨P, 1, none⟩) bP _).setCell (p := ⟨P, 2, none⟩) bP _)
      m0 m1 m2 ((far3 hne').trans l0) ((far3 hne').trans l1) ((far3 hne').trans l2)

section
variable {PP : Program} {md : Region.Mode} {Q : Exit → Act → World → Prop} {S : World → Prop} {A : List Nat}
/-- the only one that may come up, while reads are still to come -/
theorem till_oneL {l : List Oper} {i : Nat} {oi : Oper} {n : Nat} {seen : Array Bool} {a : Act} {w : World} (hi : l[i]? = some oi) (hr : Region.ready md l.toArray seen = [i])
    (h : ∀ K' : Act → World → Prop, (∀ a' w', (A.contains i = true → S w → S w') → wpTill PP md l.toArray Q S A n (seen.setIfInBounds i true) a' w' → K' a' w') → if Region.wanted oi (yielded l.toArray a.tmps) = true then Oper.wp PP oi a w K' Q else K' (a.put oi.dst undef) w) : wpTill PP md l.toArray Q S A (n + 1) seen a w := by
  refine ⟨fun e => (by rw [hr] at e; cases e), fun j hj => ?_⟩
  rw [hr] at hj
  obtain rfl : j = i := by simpa using hj
  exact wpOp_if hi (h _ (fun a' w' h1 h2 => ⟨h1, h2⟩))
end
set_option maxRecDepth 100000 in
set_option maxHeartbeats 8000000 in
theorem topBlind_walk (a : Option Addr) (rs : List Rw) (cap : Nat) (R : Rw) (b1 : Option Addr) (ss : List Rw) (cap1 : Nat) (S : Rw) (w : World) (hl : rs.length ≤ maxLen) (hx : RawsAt w a rs) (hR : R.Ok) (hl1 : ss.length ≤ maxLen) (hx1 : RawsAt w b1 ss) (hS1 : S.Ok) (ht : Tab w) :
    Calls Tryz.prog 9 #[.slice a rs.length cap, R.val, .slice b1 ss.length cap1, S.val] w fun e w' => e = .returned (.bool true) ∧ Below w.heap.size w w' := by
  obtain ⟨rk, ra, rb, rc⟩ := R
  obtain ⟨sk, sa, sb, sc⟩ := S
  obtain ⟨W2, hW2⟩ : ∃ W2, Hid (W2 = (w.alloc (.cells #[.int .i64 rk, .int .i64 ra, .int .i64 rb, .int .i64 rc] 61)).alloc (.cells #[.int .i64 sk, .int .i64 sa, .int .i64 sb, .int .i64 sc] 61)) := ⟨_, rfl⟩
  obtain ⟨b2, z1, z2⟩ := al2w w (.cells #[.int .i64 rk, .int .i64 ra, .int .i64 rb, .int .i64 rc] 61) (.cells #[.int .i64 sk, .int .i64 sa, .int .i64 sb, .int .i64 sc] 61)
  rw [← hW2.out] at b2 z1 z2
  have B2 : Hid (Below w.heap.size w W2) := b2
  have hS := started_ok a rs cap ⟨rk, ra, rb, rc⟩ 0 W2 hl (hx.below b2) hR (by decide) (ht.below b2)
  unfold Rw.val at hS ⊢
  dsimp only at hS ⊢
  have r0 : W2.cell? ⟨w.heap.size, 0, none⟩ = some (.int .i64 rk) := by simp [World.cell?, z1]
  have r1 : W2.cell? ⟨w.heap.size, 1, none⟩ = some (.int .i64 ra) := by simp [World.cell?, z1]
  have r2 : W2.cell? ⟨w.heap.size, 2, none⟩ = some (.int .i64 rb) := by simp [World.cell?, z1]
  have r3 : W2.cell? ⟨w.heap.size, 3, none⟩ = some (.int .i64 rc) := by simp [World.cell?, z1]
  have lt0 := lt_of_cell r0
  have SEC : Hid (W2.heap[w.heap.size + 1]? = some (.cells #[.int .i64 sk, .int .i64 sa, .int .i64 sb, .int .i64 sc] 61 (0, 0))) := z2
  have HX1 : Hid (RawsAt w b1 ss) := hx1
  have HS1 : Hid (_) := hS1
  have HT : Hid (Tab w) := ht
  clear hx hR hx1 hS1 ht b2 z1 z2
  unfold StartSaid at hS
  go_enter Tryz.func9, Tryz.ntmps9
  go_upto_region 1 with fail
  rw [← hW2.out]
  obtain ⟨T7, hT7⟩ : ∃ T7, Hid (T7 = w.heap.size + 1) := ⟨_, rfl⟩
  rw [← hT7.out]
  rw [← hT7.out] at SEC
  clear hW2
  go_upto_region 2 with (go_at_call 32; refine hS.mono ?_; clear hS; rintro e w3 ⟨b, ps, c, M, N, rfl, hpa, hif, h4, hMs, hPN, hTN, hO, hb3⟩; unfold Mv.val)
  have hzM : machF M = 0 := (machF_same hMs).trans hPN.good
  have HZM : Hid (_) := hzM
  obtain ⟨W4, hW4⟩ : ∃ W4, Hid (W4 = w3.alloc (.cells #[.slice M.fa M.frs.length M.fcap, .slice M.ea M.ens.length M.ecap, .slice M.qa M.qus.length M.qcap] 29)) := ⟨_, rfl⟩
  have B4 : Hid (Below w3.heap.size w3 W4) := show Below _ _ _ by rw [hW4.out]; exact (Below.refl _ _).alloc (Nat.le_refl _) _
  have B24 : Hid (Below W2.heap.size W2 W4) := show Below _ _ _ from hb3.trans (B4.out.mono hb3.size)
  have BW : Hid (Below w.heap.size w W4) := show Below _ _ _ from B2.out.trans (B24.out.mono B2.out.size)
  obtain ⟨P, hP⟩ : ∃ P, Hid (P = w3.heap.size) := ⟨_, rfl⟩
  have HP0 : Hid (w.heap.size ≤ P) := by have h1 := hP.out; have h2 := B2.out.size; have h3 := hb3.size; show _ ≤ _; omega
  have MB4 : Hid (MBox 0 W4 P M) := show MBox _ _ _ _ from MBox.of_block (t := 29) ((hO.mono (Nat.zero_le _)).below B4.out) (by rw [hW4.out, hP.out]; exact Go.Deep.blk_alloc_new _ _) (fun q => by have h1 := (Mine.fresh hO q).2; have h2 := hP.out; omega)
  rw [← hW4.out, ← hP.out]
  have hC := copyM_any M W4 MB4.out.own.at_ (fits_goodH hzM (Mv.Same.refl _))
  unfold Mv.val at hC
  have d0 := MB4.out.c0
  have d1 := MB4.out.c1
  have d2 := MB4.out.c2
  have ltP := MB4.out.lt
  have SEC4 : Hid (W4.heap[T7]? = some (.cells #[.int .i64 sk, .int .i64 sa, .int .i64 sb, .int .i64 sc] 61 (0, 0))) := show _ = _ from (B24.out.block T7 (Array.getElem?_eq_some_iff.1 SEC.out).1).trans SEC.out
  clear hW4 hP hMs hO hPN hTN hpa hb3 r0 r1 r2 r3 hzM lt0 hif
  generalize ps.length = np at *
  go_upto_region 3 with (go_at_call 37; refine hC.mono ?_; clear hC; rintro e w5 ⟨N0, rfl, hS0, hO0, hb5⟩)
  obtain ⟨W5, hW5⟩ : ∃ W5, Hid (W5 = w5.alloc (.cells #[.slice N0.fa N0.frs.length N0.fcap, .slice N0.ea N0.ens.length N0.ecap, .slice N0.qa N0.qus.length N0.qcap] 29)) := ⟨_, rfl⟩
  have b5 : Below w5.heap.size w5 W5 := by rw [hW5.out]; exact (Below.refl _ _).alloc (Nat.le_refl _) _
  obtain ⟨Q, hQ⟩ : ∃ Q, Hid (Q = w5.heap.size) := ⟨_, rfl⟩
  have NB5 : Hid (MBox W4.heap.size W5 Q N0) := show MBox _ _ _ _ from MBox.of_block (t := 29) (hO0.below b5) (by rw [hW5.out, hQ.out]; exact Go.Deep.blk_alloc_new _ _) (fun q => by have h1 := (Mine.fresh hO0 q).2; have h2 := hQ.out; omega)
  have B45 : Hid (Below W4.heap.size W4 W5) := show Below _ _ _ from hb5.trans (b5.mono hb5.size)
  rw [← hW5.out, ← hQ.out]
  have HSQ : Hid (W4.heap.size ≤ Q) := by have := hQ.out; have := hb5.size; show _ ≤ _; omega
  have HS0 : Hid (_) := hS0
  have hg := good_iff.1 HZM.out
  have h24 : N0.frs.length = 24 := hS0.len.trans hg.s1
  have BL5 : Hid (Bl W4 Q M N0 N0 W5) := ⟨NB5.out, rfl, fun _ => rfl, blind_same ⟨rfl, rfl, fun _ => ⟨rfl, rfl, rfl⟩, fun _ _ => rfl⟩ (Mv.Same.refl M) hS0, hS0.qu, fun j hj => by rw [same_ws hS0]; exact (goodFr_iff.1 (hg.fr j hj)).1, B45.out⟩
  have H24 : Hid (_) := h24
  have q0 := NB5.out.c0
  rw [h24] at q0
  have lq := NB5.out.lt
  clear hW5 hQ hS0 hO0 hb5 b5 hg h24 d0 d1 d2 ltP
  go_upto_region 4 with fail
  clear q0 lq
  go_loopw [38] (fun i wr => ∃ (j : Nat) (NX : Mv), j ≤ 24 ∧ i = .int .i64 j ∧ Bl W4 Q M N0 NX wr) (fun i _ => 24 - (intOf i).toNat)
  case atStart => exact ⟨0, N0, Nat.zero_le _, rfl, BL5.out⟩
  case round =>
    obtain ⟨j, NX, hj, rfl, hbl⟩ := hrel
    have HBL : Hid (_) := hbl
    have hx24 : NX.frs.length = 24 := by rw [hbl.bl.len]; exact (good_iff.1 HZM.out).s1
    by_cases hlt : j < 24
    · obtain ⟨fb, fo, hfa, x0, x1, x2, x3⟩ := hbl.box.own.at_.frame (j := j) (by rw [hx24]; exact hlt)
      have h8 : (NX.frs.getD j default).ws.length = 8 := by
        have := hbl.may j hlt
        unfold mayW at this
        rw [Bool.and_eq_true, beq_iff_eq] at this
        exact this.1
      rw [h8] at x3
      have hfa0 : N0.fa = some ⟨fb, fo, none⟩ := by rw [← hbl.fa, hfa]
      have HFA : Hid (_) := hfa0
      rw [hfa0]
      have hxo : (NX.frs.getD j default).o = (M.frs.getD j default).o := (hbl.bl.own j).1
      rw [hxo] at x0
      obtain ⟨ow, how⟩ : ∃ ow, Hid (ow = (M.frs.getD j default).o) := ⟨_, rfl⟩
      rw [← how.out] at x0
      obtain ⟨at9, h9⟩ : ∃ at9, Hid (at9 = (NX.frs.getD j default).at_) := ⟨_, rfl⟩
      obtain ⟨r9, hr9⟩ : ∃ r9, Hid (r9 = (NX.frs.getD j default).r) := ⟨_, rfl⟩
      obtain ⟨a9, ha9⟩ : ∃ a9, Hid (a9 = (NX.frs.getD j default).a) := ⟨_, rfl⟩
      obtain ⟨cp9, hc9⟩ : ∃ cp9, Hid (cp9 = (NX.frs.getD j default).cap) := ⟨_, rfl⟩
      rw [← h9.out] at x1
      rw [← hr9.out] at x2
      rw [← ha9.out, ← hc9.out] at x3
      have lx := lt_of_cell x0
      have hjI : (j : Int) < 24 := by omega
      have hj0 : (0 : Int) ≤ (j : Int) := by omega
      clear h8 hbl hfa hfa0 hxo
      go_upto_region 7 with fail
      obtain ⟨T, hT⟩ : ∃ T, Hid (T = wr.heap.size) := ⟨_, rfl⟩
      obtain ⟨WA, hWA⟩ : ∃ WA, Hid (WA = wr.alloc (.cells #[.int .i64 ow, .int .i64 at9, .int .i64 r9, .slice a9 8 cp9] 52)) := ⟨_, rfl⟩
      rw [← hWA.out, ← hT.out]
      have TB : Hid (WA.heap[T]? = some (.cells #[.int .i64 ow, .int .i64 at9, .int .i64 r9, .slice a9 8 cp9] 52 (0, 0))) := show _ = _ by rw [hWA.out, hT.out]; exact Go.Deep.blk_alloc_new _ _
      have BLA : Hid (Bl W4 Q M N0 NX WA) := show Bl _ _ _ _ _ _ from HBL.out.keep (by rw [hWA.out]; exact (Below.refl _ _).alloc (Nat.le_refl _) _)
      have HTF : Hid (∀ j, j < 24 → ∀ pb po, (N0.frs.getD j default).a = some ⟨pb, po, none⟩ → pb ≠ T ∧ pb ≠ Q) := fun i hi pb po e => by
        have e2 := (HBL.out.ad i).trans e
        have hm : Mine NX pb := .inr (.inr (.inr ⟨i, by rw [hx24]; exact hi, _, _, e2⟩))
        have h1 := (Mine.fresh HBL.out.box.own hm).2
        have h2 := hT.out
        exact ⟨by omega, fun q => HBL.out.box.off (q ▸ hm)⟩
      clear x0 x1 x2 x3 lx hWA hx24
      go_loopw [46] (fun i wi => ∃ (k : Nat) (NY : Mv), k ≤ 8 ∧ i = .int .i64 k ∧ Bl W4 Q M N0 NY wi ∧ wi.heap[T]? = some (.cells #[.int .i64 ow, .int .i64 at9, .int .i64 r9, .slice a9 8 cp9] 52 (0, 0))) (fun i _ => 8 - (intOf i).toNat)
      case atStart => exact ⟨0, NX, Nat.zero_le _, rfl, BLA.out, TB.out⟩
      case round =>
        obtain ⟨k, NY, hk, rfl, hbl, htb⟩ := hrel
        rename World => wi
        have HBY : Hid (_) := hbl
        have HTB : Hid (_) := htb
        have t0 : wi.cell? ⟨T, 0, none⟩ = some (.int .i64 ow) := by simp [World.cell?, htb]
        have ltT := lt_of_cell t0
        have hy24 : NY.frs.length = 24 := by rw [hbl.bl.len]; exact (good_iff.1 HZM.out).s1
        by_cases hk8 : k < 8
        · by_cases hpo : 0 < ow
          · obtain ⟨nb, no, wb, wo, wc, e1, e2, y0, y3, cw, fz, wlt, wge, w8⟩ := poke_at hbl.box.own (Mv.Same.refl NY) (blind_good hbl.bl hbl.qu HZM.out hbl.may) hlt hk8
            obtain ⟨rfl, rfl⟩ : nb = fb ∧ no = fo := by have h := e1.symm.trans (hbl.fa.trans HFA.out); simp only [Option.some.injEq, Addr.mk.injEq, and_true] at h; exact h
            have q0 := hbl.box.c0
            rw [hy24, e1] at q0
            have sec := (hbl.below.block T7 (Array.getElem?_eq_some_iff.1 SEC4.out).1).trans SEC4.out
            have s1 : wi.cell? ⟨T7, 1, none⟩ = some (.int .i64 sa) := by simp [World.cell?, sec]
            have s2 : wi.cell? ⟨T7, 2, none⟩ = some (.int .i64 sb) := by simp [World.cell?, sec]
            have HFE : Hid ((NY.frs.getD j default).a = some ⟨wb, wo, none⟩ ∧ (NY.frs.getD j default).ws.length = 8 ∧ NY.frs.length = 24 ∧ ¬ (NY.frs.getD j default).o = 0) := ⟨e2, w8, hy24, by rw [(hbl.bl.own j).1, ← how.out]; omega⟩
            have tt := HTF.out j hlt wb wo ((hbl.ad j).symm.trans e2)
            have HTT : Hid (_) := tt
            have n1 : ¬ Q = wb := fun e => tt.2 e.symm
            have n2 : ¬ nb = wb := by
              have := hbl.box.own.wf j (by rw [hy24]; exact hlt)
              rw [e1] at this
              exact this.ne wb wo none e2 |>.symm
            have n3 : ¬ T7 = wb := by have := (Array.getElem?_eq_some_iff.1 SEC4.out).1; omega
            have lq := lt_of_cell q0
            have lf := lt_of_cell y3
            have ls := lt_of_cell s1
            have hkI : (k : Int) < 8 := by omega
            have hk0 : (0 : Int) ≤ (k : Int) := by omega
            have tg : decide (0 < ow) = true := decide_eq_true hpo
            have pk : ∀ z, 0 ≤ pick z 65536 ∧ pick z 65536 ≤ 65535 := fun z => by have := pick_lt z (many := 65536) (by omega); omega
            clear hbl htb hy24 e1 e2 y0 wge w8 tt
            go_upto_region 10 with fail
            go_region_held3 (fun w' => w'.cell? ⟨Q, 0, none⟩ = some (.slice (some ⟨nb, no, none⟩) 24 NY.fcap) ∧ w'.cell? ⟨nb, no + j * 4 + 3, none⟩ = some (.slice (some ⟨wb, wo, none⟩) 8 wc) ∧ w'.cell? ⟨T7, 1, none⟩ = some (.int .i64 sa) ∧ w'.cell? ⟨T7, 2, none⟩ = some (.int .i64 sb)) (first | (with_reducible exact ⟨q0, y3, s1, s2⟩) | exact ⟨(farD n1).trans q0, (farD n2).trans y3, (farD n3).trans s1, (farD n3).trans s2⟩ | go_keep)
              (first
              | (go_at_call 35; refine (Picked_any _ 65536 _ (wf_wrapM _) (by omega) (by omega)).mono ?_; rintro e w' ⟨rfl, rfl⟩)
              | fail)
            go_wp2
            go_roundw
            case rel =>
              refine ⟨k + 1, _, by omega, by go_num, (HBY.out.word (by rw [HFE.out.2.2.1]; exact hlt) HFE.out.1 (by rw [HFE.out.2.1]; exact hk8) HFE.out.2.2.2 (pk (wrap64 (sa + wrap64 (↑k * sb)))) HFE.out.2.2.1).keep (Below.refl _ _).drew, ?_⟩
              exact (set_heap _ _ _ _ _ (fun e => HTT.out.1 e.symm)).trans HTB.out
            case measure => simp [intOf]; omega
          · have tg : decide (0 < ow) = false := decide_eq_false hpo
            clear hbl htb hy24
            go_wp2
            go_roundw
            case rel => exact ⟨k + 1, NY, by omega, by go_num, HBY.out, HTB.out⟩
            case measure => simp [intOf]; omega
        · have hge : ¬ ((k : Int) < 8) := by omega
          clear hbl htb hy24 hk8
          go_wp2
          go_roundw
          case rel => exact ⟨j + 1, NY, by omega, by go_num, HBY.out⟩
          case measure => simp [intOf]; omega
    · have hge : ¬ ((j : Int) < 24) := by omega
      have hPM := MB4.out
      have hsq := HSQ.out
      have BWR : Hid (Below w.heap.size w wr) := show Below _ _ _ from BW.out.trans (hbl.below.mono BW.out.size)
      have HPQ : Hid (¬ P = Q) := show ¬ _ by have := hPM.lt; omega
      have hmq : ¬ Mine M Q := fun q => by have := (Mine.fresh hPM.own q).2; omega
      have hnp : ¬ Mine NX P := fun q => by have := (Mine.fresh hbl.box.own q).1; have := hPM.lt; omega
      have hP0 : Hid (w.heap.size ≤ P ∧ w.heap.size ≤ Q) := by
        refine ⟨?_, ?_⟩
        · exact HP0.out
        · have := BW.out.size; omega
      have MBX : Hid (MBox 0 wr P M) := show MBox _ _ _ _ from hPM.keep hbl.below
      have NBX : Hid (MBox 0 wr Q NX) := show MBox _ _ _ _ from hbl.box.mono (Nat.zero_le _)
      have HDU : Hid (¬ Mine M Q ∧ ¬ Mine NX P ∧ Blind M NX ∧ machF NX = 0) := ⟨hmq, hnp, hbl.bl, blind_good hbl.bl hbl.qu HZM.out hbl.may⟩
      have hA := acts_any b1 ss cap1 40 false wr hl1 (HX1.out.below BWR.out) (by omega)
      clear hbl hx24 hmq hnp hPM hsq hlt
      go_upto_region 14 with (go_at_call 26; refine hA.mono ?_; clear hA; rintro e w6 ⟨v1, L, rfl, hoL, hlL, hkL, hb6⟩; (obtain ⟨la, lc, hv1, hrL⟩ := acts_row hoL); (have HLA : Hid (∀ g o s, la = some ⟨g, o, s⟩ → wr.heap.size ≤ g) := fun g o s e => acts_at hoL (hv1.trans (by rw [e]))); subst hv1; (obtain ⟨n, hn⟩ : ∃ n, Hid (n = L.length) := ⟨_, rfl⟩); rw [← hn.out] at hlL ⊢)
      have HKL : Hid (∀ x ∈ L, ActOk false x) := hkL
      have DU6 : Hid (Duo w P Q la L M NX w6) := ⟨MBX.out.keep hb6, NBX.out.keep hb6, HDU.out.1, HDU.out.2.1, HDU.out.2.2.1, HZM.out, HDU.out.2.2.2, hrL, BWR.out.trans (hb6.mono BWR.out.size)⟩
      have HLB : Hid (∀ g o s, la = some ⟨g, o, s⟩ → g ≠ P ∧ g ≠ Q) := fun g o s e => by have h1 := HLA.out g o s e; have h2 := MBX.out.lt; have h3 := NBX.out.lt; exact ⟨by omega, by omega⟩
      clear hoL hkL hb6 hrL
      go_loopw [73] (fun i wi => ∃ (k : Nat) (MM NN : Mv), k ≤ n ∧ i = .int .i64 k ∧ Duo w P Q la L MM NN wi) (fun i _ => n - (intOf i).toNat)
      case atStart => exact ⟨0, M, NX, Nat.zero_le _, rfl, DU6.out⟩
      case round =>
        obtain ⟨k, MM, NN, hk, rfl, hdu⟩ := hrel
        rename World => wi
        have HDD : Hid (_) := hdu
        by_cases hlt : k < n
        · have hkn : k < L.length := by rw [← hn.out]; exact hlt
          obtain ⟨x, hx⟩ : ∃ x, Hid (x = L.getD k default) := ⟨_, rfl⟩
          have hxok : ActOk false x := by
            rw [hx.out, List.getD_eq_getElem?_getD, List.getElem?_eq_getElem hkn, Option.getD_some]
            exact HKL.out _ (List.getElem_mem hkn)
          obtain ⟨ab, ao, rfl, hrw⟩ : ∃ ab ao, la = some ⟨ab, ao, none⟩ ∧ ∀ j, j < L.length → ∀ i, i < 7 → wi.cell? ⟨ab, ao + j * 7 + i, none⟩ = (Ac.cells (L.getD j default))[i]? := by
            rcases hdu.row with e | ⟨ab, ao, e, h⟩
            · rw [e] at hkn; simp at hkn
            · exact ⟨ab, ao, e, h⟩
          have x0 : wi.cell? ⟨ab, ao + k * 7, none⟩ = some (.int .i64 x.k) := by rw [hx.out]; exact hrw k (by rw [← hn.out]; exact hlt) 0 (by omega)
          have x1 : wi.cell? ⟨ab, ao + k * 7 + 1, none⟩ = some (.int .i64 x.e) := by rw [hx.out]; exact hrw k (by rw [← hn.out]; exact hlt) 1 (by omega)
          have x2 : wi.cell? ⟨ab, ao + k * 7 + 2, none⟩ = some (.int .i64 x.f) := by rw [hx.out]; exact hrw k (by rw [← hn.out]; exact hlt) 2 (by omega)
          have x3 : wi.cell? ⟨ab, ao + k * 7 + 3, none⟩ = some (.int .i64 x.at_) := by rw [hx.out]; exact hrw k (by rw [← hn.out]; exact hlt) 3 (by omega)
          have x4 : wi.cell? ⟨ab, ao + k * 7 + 4, none⟩ = some (.int .i64 x.r) := by rw [hx.out]; exact hrw k (by rw [← hn.out]; exact hlt) 4 (by omega)
          have x5 : wi.cell? ⟨ab, ao + k * 7 + 5, none⟩ = some (.int .i64 x.n) := by rw [hx.out]; exact hrw k (by rw [← hn.out]; exact hlt) 5 (by omega)
          have x6 : wi.cell? ⟨ab, ao + k * 7 + 6, none⟩ = some (.int .i64 x.fuel) := by rw [hx.out]; exact hrw k (by rw [← hn.out]; exact hlt) 6 (by omega)
          have lx := lt_of_cell x0
          have hcd := blind_code hdu.bl hdu.zm hdu.zn x
          have hact := blind_act hdu.bl hdu.zm hdu.zn x
          have hgM := fun h => out_good hdu.zm (x := x) h
          have hgN := fun h => out_good hdu.zn (x := x) h
          have hA1 := fun w' (hb : Below wi.heap.size wi w') => acted_any (M := MM) (hdu.m.own.below hb) (fits_goodH hdu.zm (Mv.Same.refl _)) (HT.out.below (hdu.below.trans (hb.mono hdu.below.size))) x (act_ok_okB hxok)
          have hA2 := fun w' (hb : Below wi.heap.size wi w') => acted_any (M := NN) (hdu.n.own.below hb) (fits_goodH hdu.zn (Mv.Same.refl _)) (HT.out.below (hdu.below.trans (hb.mono hdu.below.size))) x (act_ok_okB hxok)
          unfold ActedSaid at hA1 hA2
          rw [hcd.1] at hgN
          rw [hcd.1, hcd.2] at hA2
          unfold Mv.val at hA1 hA2
          obtain ⟨oe, hoe⟩ : ∃ oe, Hid (oe = outE MM x) := ⟨_, rfl⟩
          obtain ⟨on, hon⟩ : ∃ on, Hid (on = outN MM x) := ⟨_, rfl⟩
          rw [← hoe.out, ← hon.out] at hA1 hA2
          rw [← hoe.out] at hgM hgN hact
          have HG : Hid ((oe = 0 → machF (outM MM x) = 0) ∧ (oe = 0 → machF (outM NN x) = 0) ∧ (oe = 0 → Blind (outM MM x) (outM NN x))) := ⟨hgM, hgN, hact⟩
          have p0 := hdu.m.c0
          have p1 := hdu.m.c1
          have p2 := hdu.m.c2
          have lp := hdu.m.lt
          have hkI : (k : Int) < (n : Int) := by omega
          have hk0 : (0 : Int) ≤ (k : Int) := by omega
          clear hdu hcd hact hgM hgN hrw hkn hxok
          go_upto_region 16 with fail
          obtain ⟨T, hT⟩ : ∃ T, Hid (T = wi.heap.size) := ⟨_, rfl⟩
          obtain ⟨WA, hWA⟩ : ∃ WA, Hid (WA = wi.alloc (.cells #[.int .i64 x.k, .int .i64 x.e, .int .i64 x.f, .int .i64 x.at_, .int .i64 x.r, .int .i64 x.n, .int .i64 x.fuel] 68)) := ⟨_, rfl⟩
          rw [← hWA.out, ← hT.out]
          have TB : Hid (WA.heap[T]? = some (.cells #[.int .i64 x.k, .int .i64 x.e, .int .i64 x.f, .int .i64 x.at_, .int .i64 x.r, .int .i64 x.n, .int .i64 x.fuel] 68)) := show _ = _ by rw [hWA.out, hT.out]; exact Go.Deep.blk_alloc_new _ _
          have BA : Hid (Below wi.heap.size wi WA) := show Below _ _ _ by rw [hWA.out]; exact (Below.refl _ _).alloc (Nat.le_refl _) _
          clear x0 x1 x2 x3 x4 x5 x6 lx p0 p1 p2 lp hWA
          have DA : Hid (Duo w P Q (some ⟨ab, ao, none⟩) L MM NN WA) := HDD.out.keep BA.out
          have p0 := DA.out.m.c0
          have p1 := DA.out.m.c1
          have p2 := DA.out.m.c2
          have lp := DA.out.m.lt
          have tb := TB.out
          have a0 : WA.cell? ⟨T, 0, none⟩ = some (.int .i64 x.k) := by simp [World.cell?, tb]
          have a1 : WA.cell? ⟨T, 1, none⟩ = some (.int .i64 x.e) := by simp [World.cell?, tb]
          have a2 : WA.cell? ⟨T, 2, none⟩ = some (.int .i64 x.f) := by simp [World.cell?, tb]
          have a3 : WA.cell? ⟨T, 3, none⟩ = some (.int .i64 x.at_) := by simp [World.cell?, tb]
          have a4 : WA.cell? ⟨T, 4, none⟩ = some (.int .i64 x.r) := by simp [World.cell?, tb]
          have a5 : WA.cell? ⟨T, 5, none⟩ = some (.int .i64 x.n) := by simp [World.cell?, tb]
          have a6 : WA.cell? ⟨T, 6, none⟩ = some (.int .i64 x.fuel) := by simp [World.cell?, tb]
          have lT := lt_of_cell a0
          have hA1 := hA1 WA BA.out
          clear tb
          go_upto_region 17 with (go_at_call 38; refine hA1.mono ?_; clear hA1; rintro e w7 ⟨X, rfl, hSX, hOX, hmX, hb7⟩)
          obtain ⟨T8, hT8⟩ : ∃ T8, Hid (T8 = w7.heap.size) := ⟨_, rfl⟩
          obtain ⟨W8, hW8⟩ : ∃ W8, Hid (W8 = w7.alloc (.cells #[.slice X.fa X.frs.length X.fcap, .slice X.ea X.ens.length X.ecap, .slice X.qa X.qus.length X.qcap] 29)) := ⟨_, rfl⟩
          rw [← hW8.out, ← hT8.out]
          have b8 : Below w7.heap.size w7 W8 := by rw [hW8.out]; exact (Below.refl _ _).alloc (Nat.le_refl _) _
          have BX : Hid (MBox 0 W8 T8 X) := show MBox _ _ _ _ from MBox.of_block (t := 29) (hOX.below b8) (by rw [hW8.out, hT8.out]; exact Go.Deep.blk_alloc_new _ _) (fun q => by have h1 := (Mine.fresh hOX q).2; have h2 := hT8.out; omega)
          have HS7 : Hid (WA.heap.size ≤ w7.heap.size) := hb7.size
          have B8 : Hid (Below WA.heap.size WA W8) := show Below _ _ _ from hb7.trans (b8.mono hb7.size)
          have HSX : Hid (_) := hSX
          have HMX : Hid (∀ b, Mine X b → Mine MM b ∨ WA.heap.size ≤ b) := hmX
          have D8 : Hid (Duo w P Q (some ⟨ab, ao, none⟩) L MM NN W8) := DA.out.keep B8.out
          have TB8 : Hid (W8.heap[T]? = some (.cells #[.int .i64 x.k, .int .i64 x.e, .int .i64 x.f, .int .i64 x.at_, .int .i64 x.r, .int .i64 x.n, .int .i64 x.fuel] 68)) := show _ = _ from (B8.out.block T (Array.getElem?_eq_some_iff.1 TB.out).1).trans TB.out
          have hA2 := hA2 W8 (BA.out.trans (B8.out.mono BA.out.size))
          clear hSX hOX hmX hb7 b8 hW8 p0 p1 p2 lp a0 a1 a2 a3 a4 a5 a6 lT
          have q0 := D8.out.n.c0
          have q1 := D8.out.n.c1
          have q2 := D8.out.n.c2
          have lq := D8.out.n.lt
          have tb := TB8.out
          have a0 : W8.cell? ⟨T, 0, none⟩ = some (.int .i64 x.k) := by simp [World.cell?, tb]
          have a1 : W8.cell? ⟨T, 1, none⟩ = some (.int .i64 x.e) := by simp [World.cell?, tb]
          have a2 : W8.cell? ⟨T, 2, none⟩ = some (.int .i64 x.f) := by simp [World.cell?, tb]
          have a3 : W8.cell? ⟨T, 3, none⟩ = some (.int .i64 x.at_) := by simp [World.cell?, tb]
          have a4 : W8.cell? ⟨T, 4, none⟩ = some (.int .i64 x.r) := by simp [World.cell?, tb]
          have a5 : W8.cell? ⟨T, 5, none⟩ = some (.int .i64 x.n) := by simp [World.cell?, tb]
          have a6 : W8.cell? ⟨T, 6, none⟩ = some (.int .i64 x.fuel) := by simp [World.cell?, tb]
          have lT := lt_of_cell a0
          clear tb
          go_upto_region 18 with (go_at_call 38; refine hA2.mono ?_; clear hA2; rintro e w9 ⟨Z, rfl, hSZ, hOZ, hmZ, hb9⟩)
          obtain ⟨T9, hT9⟩ : ∃ T9, Hid (T9 = w9.heap.size) := ⟨_, rfl⟩
          obtain ⟨W10, hW10⟩ : ∃ W10, Hid (W10 = w9.alloc (.cells #[.slice Z.fa Z.frs.length Z.fcap, .slice Z.ea Z.ens.length Z.ecap, .slice Z.qa Z.qus.length Z.qcap] 29)) := ⟨_, rfl⟩
          rw [← hW10.out, ← hT9.out]
          have b10 : Below w9.heap.size w9 W10 := by rw [hW10.out]; exact (Below.refl _ _).alloc (Nat.le_refl _) _
          have BZ : Hid (MBox 0 W10 T9 Z) := show MBox _ _ _ _ from MBox.of_block (t := 29) (hOZ.below b10) (by rw [hW10.out, hT9.out]; exact Go.Deep.blk_alloc_new _ _) (fun q => by have h1 := (Mine.fresh hOZ q).2; have h2 := hT9.out; omega)
          have HS9 : Hid (W8.heap.size ≤ w9.heap.size) := hb9.size
          have B10 : Hid (Below W8.heap.size W8 W10) := show Below _ _ _ from hb9.trans (b10.mono hb9.size)
          have HSZ : Hid (_) := hSZ
          have HMZ : Hid (∀ b, Mine Z b → Mine NN b ∨ W8.heap.size ≤ b) := hmZ
          have D10 : Hid (Duo w P Q (some ⟨ab, ao, none⟩) L MM NN W10) := D8.out.keep B10.out
          have BX10 : Hid (MBox 0 W10 T8 X) := show MBox _ _ _ _ from BX.out.keep B10.out
          clear hSZ hOZ hmZ hb9 b10 hW10 q0 q1 q2 lq a0 a1 a2 a3 a4 a5 a6 lT
          have te : (oe == oe) = true := beq_self_eq_true _
          have tn : (on == on) = true := beq_self_eq_true _
          by_cases h0 : oe = 0
          · have tz : (oe == 0) = true := by simpa using h0
            have xP : ¬ Mine X P := fun q => by
              rcases HMX.out P q with h | h
              · exact DA.out.m.off h
              · have := DA.out.m.lt; omega
            have xQ : ¬ Mine X Q := fun q => by
              rcases HMX.out Q q with h | h
              · exact DA.out.mq h
              · have := DA.out.n.lt; omega
            have zP : ¬ Mine Z P := fun q => by
              rcases HMZ.out P q with h | h
              · exact D8.out.np h
              · have := D8.out.m.lt; omega
            have zQ : ¬ Mine Z Q := fun q => by
              rcases HMZ.out Q q with h | h
              · exact D8.out.n.off h
              · have := D8.out.n.lt; omega
            have HPUT : Hid (_) := D10.out.put HPQ.out BX10.out.own BZ.out.own xP xQ zP zQ (blind_same (HG.out.2.2 h0) HSX.out HSZ.out) ((machF_same HSX.out).trans (HG.out.1 h0)) ((machF_same HSZ.out).trans (HG.out.2.1 h0)) HLB.out hP0.out.1 hP0.out.2
            have nPQ : ¬ P = Q := HPQ.out
            have nQP : ¬ Q = P := fun e => nPQ e.symm
            have l7 := DA.out.m.lt
            have l7q := DA.out.n.lt
            have s7 := B8.out.size
            have n8P : ¬ T8 = P := by have := hT8.out; have := HS7.out; omega
            have n8Q : ¬ T8 = Q := by have := hT8.out; have := HS7.out; omega
            have l8 := D8.out.m.lt
            have l8q := D8.out.n.lt
            have n9P : ¬ T9 = P := by have := hT9.out; have := HS9.out; omega
            have n9Q : ¬ T9 = Q := by have := hT9.out; have := HS9.out; omega
            clear xP xQ zP zQ h0 l7 l7q s7 l8 l8q
            have e0 := BX10.out.c0
            have e1 := BX10.out.c1
            have e2 := BX10.out.c2
            have le := BX10.out.lt
            have g0 := BZ.out.c0
            have g1 := BZ.out.c1
            have g2 := BZ.out.c2
            have lg := BZ.out.lt
            have p0 := D10.out.m.c0
            have p1 := D10.out.m.c1
            have p2 := D10.out.m.c2
            have pf0 := D10.out.m.fz 0
            have pf1 := D10.out.m.fz 1
            have pf2 := D10.out.m.fz 2
            have lp := D10.out.m.lt
            have q0 := D10.out.n.c0
            have q1 := D10.out.n.c1
            have q2 := D10.out.n.c2
            have qf0 := D10.out.n.fz 0
            have qf1 := D10.out.n.fz 1
            have qf2 := D10.out.n.fz 2
            have lq := D10.out.n.lt
            go_upto_region 21 with fail
            refine wp_region_till [0, 1, 2] (fun w' => w'.cell? ⟨T8, 0, none⟩ = some (.slice X.fa X.frs.length X.fcap) ∧ w'.cell? ⟨T8, 1, none⟩ = some (.slice X.ea X.ens.length X.ecap) ∧ w'.cell? ⟨T8, 2, none⟩ = some (.slice X.qa X.qus.length X.qcap) ∧ w'.cell? ⟨T9, 0, none⟩ = some (.slice Z.fa Z.frs.length Z.fcap) ∧ w'.cell? ⟨T9, 1, none⟩ = some (.slice Z.ea Z.ens.length Z.ecap) ∧ w'.cell? ⟨T9, 2, none⟩ = some (.slice Z.qa Z.qus.length Z.qcap)) (by kernel_rfl) ?_ (fun hHeld => ?_)
            · exact ⟨e0, e1, e2, g0, g1, g2⟩
            have HEG : Hid (_) := And.intro e0 (And.intro e1 (And.intro e2 (And.intro g0 (And.intro g1 g2))))
            clear e0 e1 e2 g0 g1 g2
            refine till_takeL (i := 0) (v := ?v0) rfl (by kernel_rfl) (by kernel_rfl) (by kernel_rfl) (by kernel_rfl) (by kernel_rfl) (fun _ _ _ h => h) (Or.inl ⟨by rfl, ?hy0⟩) hHeld ?rest0
            case hy0 => (intro w' hSw; (try dsimp only at hSw); go_simp) <;> (with_reducible rfl)
            (try simp only [Act.put, List.setIfInBounds_toArray, List.set_cons_zero, List.set_cons_succ])
            refine till_takeL (i := 1) (v := ?v1) rfl (by kernel_rfl) (by kernel_rfl) (by kernel_rfl) (by kernel_rfl) (by kernel_rfl) (fun _ _ _ h => h) (Or.inl ⟨by rfl, ?hy1⟩) hHeld ?rest1
            case hy1 => (intro w' hSw; (try dsimp only at hSw); go_simp) <;> (with_reducible rfl)
            (try simp only [Act.put, List.setIfInBounds_toArray, List.set_cons_zero, List.set_cons_succ])
            refine till_oneL (i := 2) rfl (by kernel_rfl) (fun K hK => ?_)
            have HK : Hid (_) := hK
            clear hK
            go_simp
            refine HK.out _ _ (fun _ _ => ⟨(far3 n8P).trans HEG.out.1, (far3 n8P).trans HEG.out.2.1, (far3 n8P).trans HEG.out.2.2.1, (far3 n9P).trans HEG.out.2.2.2.1, (far3 n9P).trans HEG.out.2.2.2.2.1, (far3 n9P).trans HEG.out.2.2.2.2.2⟩) ?_
            clear HK
            (try simp only [Act.put, List.setIfInBounds_toArray, List.set_cons_zero, List.set_cons_succ])
            refine till_rest (by kernel_rfl) ?_
            clear hHeld
            refine any_oneL (i := 3) rfl (by kernel_rfl) (fun K hK => ?_)
            have HK : Hid (_) := hK
            clear hK
            go_simp
            refine HK.out _ _ ?_
            clear HK
            (try simp only [Act.put, List.setIfInBounds_toArray, List.set_cons_zero, List.set_cons_succ])
            refine wpAny_done (by kernel_rfl) ?_ _
            obtain ⟨U, hU⟩ : ∃ U, Hid (U = (((((((W10.setCell ⟨P, 0, none⟩ (.slice X.fa X.frs.length X.fcap)).setCell ⟨P, 1, none⟩ (.slice X.ea X.ens.length X.ecap)).setCell ⟨P, 2, none⟩ (.slice X.qa X.qus.length X.qcap)).setCell ⟨Q, 0, none⟩ (.slice Z.fa Z.frs.length Z.fcap)).setCell ⟨Q, 1, none⟩ (.slice Z.ea Z.ens.length Z.ecap)).setCell ⟨Q, 2, none⟩ (.slice Z.qa Z.qus.length Z.qcap))).drew) := ⟨_, rfl⟩
            rw [← hU.out]
            have DU9 : Hid (Duo w P Q (some ⟨ab, ao, none⟩) L X Z U) := show Duo _ _ _ _ _ _ _ _ by rw [hU.out]; exact HPUT.out.1.keep (Below.refl _ _).drew
            clear HPUT hU p0 p1 p2 pf0 pf1 pf2 lp q0 q1 q2 qf0 qf1 qf2 lq le lg
            go_wp2
            go_roundw
            case rel => exact ⟨k + 1, X, Z, by omega, by go_num, DU9.out⟩
            case measure => simp [intOf]; omega
          · have tz : (oe == 0) = false := by simpa using h0
            clear h0
            go_wp2
            go_roundw
            case rel => exact ⟨k + 1, MM, NN, by omega, by go_num, D10.out⟩
            case measure => simp [intOf]; omega
        · have hge : ¬ ((k : Int) < (n : Int)) := by omega
          have hM24 : MM.frs.length = 24 := (good_iff.1 hdu.zm).s1
          have hN24 : NN.frs.length = 24 := (good_iff.1 hdu.zn).s1
          have HML : Hid (_) := hM24
          have HNL : Hid (_) := hN24
          have p0 := hdu.m.c0
          have p1 := hdu.m.c1
          have p2 := hdu.m.c2
          rw [hM24] at p0
          have lp := hdu.m.lt
          clear hdu hlt hM24 hN24
          go_upto_region 24 with fail
          clear p0 p1 p2 lp
          go_loopw [107] (fun i wr => ∃ j : Nat, j ≤ 24 ∧ i = .int .i64 j ∧ Below wi.heap.size wi wr) (fun i _ => 24 - (intOf i).toNat)
          case atStart => exact ⟨0, Nat.zero_le _, rfl, Below.refl _ _⟩
          case round =>
            obtain ⟨j, hj, rfl, hbel⟩ := hrel
            rename World => wr
            have HBE : Hid (Below wi.heap.size wi wr) := hbel
            by_cases hlt : j < 24
            · have MBR : Hid (MBox 0 wr P MM) := HDD.out.m.keep hbel
              have NBR : Hid (MBox 0 wr Q NN) := HDD.out.n.keep hbel
              obtain ⟨mb, mo, hma, m0, m1, m2, m3⟩ := MBR.out.own.at_.frame (j := j) (by rw [HML.out]; exact hlt)
              rw [hma]
              have lm := lt_of_cell m0
              have okM := MBR.out.own.at_.frok j (by rw [HML.out]; exact hlt)
              have hoo : (NN.frs.getD j default).o = (MM.frs.getD j default).o := (HDD.out.bl.own j).1
              have hww : (MM.frs.getD j default).o = 0 → (NN.frs.getD j default).ws = (MM.frs.getD j default).ws := HDD.out.bl.ws j
              generalize MM.frs.getD j default = F2 at m0 m1 m2 m3 okM hoo hww
              obtain ⟨o2, at2, r2, pa2, ws2, cap2⟩ := F2
              dsimp only at m0 m1 m2 m3 okM hoo hww
              have HKM : Hid (_) := And.intro okM (And.intro hoo hww)
              clear okM hoo hww hma
              obtain ⟨nw2, hn2⟩ : ∃ nw2, Hid (nw2 = ws2.length) := ⟨_, rfl⟩
              rw [← hn2.out] at m3
              have hjI : (j : Int) < 24 := by omega
              have hj0 : (0 : Int) ≤ (j : Int) := by omega
              clear hbel
              go_upto_region 26 with fail
              obtain ⟨T, hT⟩ : ∃ T, Hid (T = wr.heap.size) := ⟨_, rfl⟩
              obtain ⟨V, hV⟩ : ∃ V, Hid (V = wr.alloc (.cells #[.int .i64 o2, .int .i64 at2, .int .i64 r2, .slice pa2 nw2 cap2] 52)) := ⟨_, rfl⟩
              rw [← hV.out, ← hT.out]
              have tb : V.heap[T]? = some (.cells #[.int .i64 o2, .int .i64 at2, .int .i64 r2, .slice pa2 nw2 cap2] 52 (0, 0)) := by rw [hV.out, hT.out]; exact Go.Deep.blk_alloc_new _ _
              have BV : Hid (Below wr.heap.size wr V) := show Below _ _ _ by rw [hV.out]; exact (Below.refl _ _).alloc (Nat.le_refl _) _
              clear m0 m1 m2 m3 lm hV hT
              have NBV : MBox 0 V Q NN := NBR.out.keep BV.out
              have q0 := NBV.c0
              have lq := NBV.lt
              rw [HNL.out] at q0
              obtain ⟨xb, xo, hxa, x0, x1, x2, x3⟩ := NBV.own.at_.frame (j := j) (by rw [HNL.out]; exact hlt)
              rw [hxa] at q0
              have okX := NBV.own.at_.frok j (by rw [HNL.out]; exact hlt)
              have hoo := HKM.out.2.1
              have hww := HKM.out.2.2
              have hEq := fun m => equal_any pa2 (NN.frs.getD j default).a ws2 (NN.frs.getD j default).ws cap2 (NN.frs.getD j default).cap (V.drewN m) HKM.out.1.len okX.len (HKM.out.1.ints.below (BV.out.trans ((below_drewN (Below.refl V.heap.size V) m).mono BV.out.size))) (okX.ints.below (below_drewN (Below.refl _ _) m))
              rw [hoo] at x0
              rw [← hn2.out] at hEq
              have t0 : V.cell? ⟨T, 0, none⟩ = some (.int .i64 o2) := by simp [World.cell?, tb]
              have t3 : V.cell? ⟨T, 3, none⟩ = some (.slice pa2 nw2 cap2) := by simp [World.cell?, tb]
              have lx := lt_of_cell x0
              have lT := lt_of_cell t0
              clear okX hoo hxa tb NBV x1 x2
              generalize NN.frs.getD j default = F1 at x3 hww hEq
              obtain ⟨o1, at1, r1, pa1, ws1, cap1⟩ := F1
              dsimp only at x3 hww hEq
              have tb : (o2 == o2) = true := beq_self_eq_true _
              have tc : (o2 != o2) = false := by simp
              by_cases ho : o2 = 0
              · have hw := hww ho
                subst hw
                rw [show decide (ws1 = ws1) = true from decide_eq_true rfl] at hEq
                rw [← hn2.out] at x3 hEq
                have to_ : (o2 == 0) = true := by simpa using ho
                clear hww ho
                go_quiet ((go_at_call 30; exact Calls.quiet_of (hEq _)))
                go_wp2
                go_roundw
                case rel => exact ⟨j + 1, by omega, by go_num, HBE.out.trans ((below_drewN BV.out _).mono HBE.out.size)⟩
                case measure => simp [intOf]; omega
              · have to_ : (o2 == 0) = false := by simpa using ho
                generalize ws1.length = nw1 at *
                clear hww ho hEq
                go_quiet (fail)
                go_wp2
                go_roundw
                case rel => exact ⟨j + 1, by omega, by go_num, HBE.out.trans ((below_drewN BV.out _).mono HBE.out.size)⟩
                case measure => simp [intOf]; omega
            · have hge : ¬ ((j : Int) < 24) := by omega
              clear hlt hbel
              go_wp2
              go_ret
              exact ⟨rfl, HDD.out.below.trans (HBE.out.mono HDD.out.below.size)⟩

set_option maxRecDepth 100000 in
theorem topBlind_contract (H : Type) (enc : TypeId × Value → H) (W : World) (base : Nat) (args : Array Value) (ds gs : List (DataW H)) (before : List MemPlace)
    (hval0 : ∀ (j : Nat) t v, Tryz.f9.params[j]? = some t → args[j]? = some v → Value.okWide Tryz.prog W .any base t v)
    (hW : DataW.Whole enc Tryz.prog Tryz.f9.params.toList Rows.topBlindSpec.vars false W args.toList ds gs before) (hL : laidMetH Tryz.prog listed W)
    (hsz0 : (DataW.weightsEach Tryz.prog (Tryz.f9.params.toList ++ []) (ds ++ gs)).all (· ≤ reachBytes) = true) :
    Calls Tryz.prog 9 args W fun e W' => ∃ v, e = .returned v ∧ Rows.topBlindSpec.post enc Tryz.prog Tryz.f9 false true false false W args v W' := by
  have hval := hval0
  have hsz := hsz0
  have hW' := hW
  obtain ⟨p, q, hA0, hV, rfl, hfz, hnd⟩ := hW
  have hA : DataW.TrodAll enc Tryz.prog W 0 (fun _ => true) true Tryz.f9.params.toList args.toList ds p := hA0
  rw [Tryz.params9] at hA hval hsz
  obtain ⟨v0, vs0, d0, ds0, p0, q0, hargs, rfl, rfl, h0, r0⟩ := trodAll_cons hA
  obtain ⟨v1, vs1, d1, ds1, p1, q1, rfl, rfl, rfl, h1, r1⟩ := trodAll_cons r0
  obtain ⟨v2, vs2, d2, ds2, p2, q2, rfl, rfl, rfl, h2, r2⟩ := trodAll_cons r1
  obtain ⟨v3, vs3, d3, ds3, p3, q3, rfl, rfl, rfl, h3, r3⟩ := trodAll_cons r2
  obtain ⟨rfl, rfl, rfl⟩ := trodAll_nil r3
  obtain rfl : args = #[v0, v1, v2, v3] := by cases args; simp_all
  obtain ⟨rfl, rfl⟩ := trodVars_none hV
  have k0 := h0
  have lt0 : ∀ x ∈ p0, x.block < W.heap.size := by obtain ⟨m, hm⟩ := k0; exact DataW.trod_lt m _ _ _ hm
  obtain ⟨a0, len0, cap0, rfl⟩ := okWide_slice Tryz.underlying59 (hval 0 59 v0 rfl rfl)
  obtain ⟨rs0, hlen0, hmax0, hx0⟩ := open_raws h0
  subst hlen0
  have k1 := h1
  have lt1 : ∀ x ∈ p1, x.block < W.heap.size := by obtain ⟨m, hm⟩ := k1; exact DataW.trod_lt m _ _ _ hm
  obtain ⟨rw1, rfl, hr1⟩ := open_raw (hval 1 61 v1 rfl rfl) h1
  have k2 := h2
  have lt2 : ∀ x ∈ p2, x.block < W.heap.size := by obtain ⟨m, hm⟩ := k2; exact DataW.trod_lt m _ _ _ hm
  obtain ⟨a2, len2, cap2, rfl⟩ := okWide_slice Tryz.underlying59 (hval 2 59 v2 rfl rfl)
  obtain ⟨rs2, hlen2, hmax2, hx2⟩ := open_raws h2
  subst hlen2
  have k3 := h3
  have lt3 : ∀ x ∈ p3, x.block < W.heap.size := by obtain ⟨m, hm⟩ := k3; exact DataW.trod_lt m _ _ _ hm
  obtain ⟨rw3, rfl, hr3⟩ := open_raw (hval 3 61 v3 rfl rfl) h3
  clear hA0 hval0
  refine (topBlind_walk a0 rs0 cap0 rw1 a2 rs2 cap2 rw3 W hmax0 hx0 hr1 hmax2 hx2 hr3 (tab_of hL)).mono fun e W' ⟨he, bel⟩ => ?_
  subst he
  exact ⟨_, rfl, _, _, _, [], _, [], hW', trodAll_mk1 (shut_bool Tryz.underlying4 _), (trodAll_cons_mk (Below.trod laidOut (by kernel_rfl) (of_decide_eq_true (by kernel_rfl)) k0 bel lt0) (trodAll_cons_mk (Below.trod laidOut (by kernel_rfl) (of_decide_eq_true (by kernel_rfl)) k1 bel lt1) (trodAll_cons_mk (Below.trod laidOut (by kernel_rfl) (of_decide_eq_true (by kernel_rfl)) k2 bel lt2) (trodAll_cons_mk (Below.trod laidOut (by kernel_rfl) (of_decide_eq_true (by kernel_rfl)) k3 bel lt3) trodAll_mk0)))), rfl, bel.frame _, fun h => by cases h⟩

theorem topBlind_laid (os : Os) : laidMet Tryz.prog listed ((laidWorld os).forCall (fun _ _ => 0) ⟨#[], #[.slice none 0 0, .agg #[.int .i64 0, .int .i64 0, .int .i64 0, .int .i64 0], .slice none 0 0, .agg #[.int .i64 0, .int .i64 0, .int .i64 0, .int .i64 0]], []⟩).memory :=
  laidMet_of_run' 8 (by kernel_rfl) (by kernel_rfl)
theorem topBlind_reads (os : Os) {H : Type} (enc : TypeId × Value → H) : ∃ places, DataW.whole enc Tryz.prog ((laidWorld os).forCall (fun _ _ => 0) ⟨#[], #[.slice none 0 0, .agg #[.int .i64 0, .int .i64 0, .int .i64 0, .int .i64 0], .slice none 0 0, .agg #[.int .i64 0, .int .i64 0, .int .i64 0, .int .i64 0]], []⟩).memory Tryz.f9.params.toList Rows.topBlindSpec.vars false (#[.slice none 0 0, .agg #[.int .i64 0, .int .i64 0, .int .i64 0, .int .i64 0], .slice none 0 0, .agg #[.int .i64 0, .int .i64 0, .int .i64 0, .int .i64 0]] : Array Value).toList 8 = some ([.nil, .agg [.lit (.int .i64 0), .lit (.int .i64 0), .lit (.int .i64 0), .lit (.int .i64 0)], .nil, .agg [.lit (.int .i64 0), .lit (.int .i64 0), .lit (.int .i64 0), .lit (.int .i64 0)]], [], places) :=
  ⟨[], by kernel_rfl⟩

set_option maxRecDepth 100000 in
theorem topBlind_lifted (os : Os) (started : os.Started) (H : Type) (enc : TypeId × Value → H) (F : Stop.Interp) :
    ReturnsInHanded {} Tryz.checked os 9 .any ((OpenSpec.ofChange Rows.topBlindSpec).preRow enc Tryz.prog Tryz.f9 Rows.topBlindRow.domain false Rows.topBlindRow.laid) (((OpenSpec.ofChange Rows.topBlindSpec).at F).post enc Tryz.prog Tryz.f9 false true false false) := by
  obtain ⟨places, hx⟩ := topBlind_reads os enc
  refine returnsInHanded_of_row (C := Tryz.checked) (s := (OpenSpec.ofChange Rows.topBlindSpec)) own started (by kernel_rfl) Tryz.func9
    (witness_row_at (enc := enc) (C := Tryz.checked) false (laidWorld os) #[.slice none 0 0, .agg #[.int .i64 0, .int .i64 0, .int .i64 0, .int .i64 0], .slice none 0 0, .agg #[.int .i64 0, .int .i64 0, .int .i64 0, .int .i64 0]] rfl (by kernel_rfl) (by kernel_rfl) (by kernel_rfl)
      (OpenSpec.preRow_of_cond 8 hx (by kernel_rfl) (fun k hk => by cases hk) (by kernel_rfl) (topBlind_laid os))) ?_
  intro W base args ds gs before hval hW _ hcond hsz hL _ _
  exact topBlind_contract H enc W base args ds gs before hval hW hL hsz

theorem topBlind_said : Rows.TopBlindSaid :=
  OpenClaim.holds_of_cond 9 Tryz.f9 rfl rfl rfl rfl rfl rfl rfl ⟨rfl, rfl, rfl, rfl, rfl⟩ rfl rfl rfl rfl rfl (by kernel_rfl) Tryz.func9 (by kernel_rfl)
    (of_decide_eq_true (by kernel_rfl)) (by unfold Func.isWrapper; first | (rw [if_pos (by decide +kernel)]; kernel_rfl) | (rw [if_neg (by decide +kernel)]; exact ⟨rfl, rfl⟩))
    (fun os started H enc _ F => by rw [OpenClaim.pre_eq_preRow]; exact topBlind_lifted os started H enc F)

theorem topBlind_plain (f : FuncId) (fn : Func) (hf : Tryz.pinned.checked.prog.funcNamed "riddle/riddletop.TopBlind" = some f) (hfn : Tryz.pinned.checked.prog.funcs[f]? = some fn) :
    false = Tryz.pinned.checked.prog.looks [] ∧ ∀ (j : Nat) t, fn.params[j]? = some t → Tryz.pinned.checked.prog.wantsStandIn t = false := by
  obtain rfl : f = 9 := Option.some.inj ((show Tryz.prog.funcNamed "riddle/riddletop.TopBlind" = some 9 by kernel_rfl).symm.trans hf) |>.symm
  obtain rfl : fn = Tryz.f9 := (Option.some.inj (Tryz.func9.symm.trans hfn)).symm
  refine ⟨by kernel_rfl, fun j t ht => ?_⟩
  rw [Tryz.params9] at ht
  have hm : t = 59 ∨ t = 61 := by have h := Array.mem_of_getElem? ht; simp at h; rcases h with h | h | h | h <;> simp [h]
  rcases hm with rfl | rfl
  · exact (show Tryz.prog.wantsStandIn 59 = false by kernel_rfl)
  · exact (show Tryz.prog.wantsStandIn 61 = false by kernel_rfl)

theorem topBlind_card : Rows.TopBlindCardSaid :=
  Claim7.holds_tied_plain_at .later [] _ _ _ _ topBlind_said (fun _ h => by cases h) (by kernel_rfl) (fun _ h => by cases h) topBlind_row_tie rfl ⟨rfl, rfl⟩ (by kernel_rfl) rfl topBlind_plain (by kernel_rfl)
#print axioms topBlind_card

end Go.Proofs.YtdngbojbpmdegaaGreatDoor
