import Derived.Test.YtdngbojbpmdegaaGreatDoorJRunCore
import Derived.Test.YtdngbojbpmdegaaGreatDoorJQRow
import Derived.Deep.AppendLies
import Derived.Deep.RegionLaw
namespace Go.Proofs.YtdngbojbpmdegaaGreatDoor
open Go.RowKit
theorem bp_genR {P:Program} {f:Func} {Q:Ending→World→Prop} {ex:Exit} {a:Act} {W:World} (h:∀ W9,W9=W→bodyPost P f Q ex a W9):bodyPost P f Q ex a W:=h W rfl
theorem blk2R {w:World} {b:Nat} {v0 v1 x0 x1:Value} (h0:w.cell? ⟨b,0,none⟩=some x0) (h1:w.cell? ⟨b,1,none⟩=some x1) :
 ((w.setCell ⟨b,0,none⟩ v0).setCell ⟨b,1,none⟩ v1).cell? ⟨b,0,none⟩=some v0∧((w.setCell ⟨b,0,none⟩ v0).setCell ⟨b,1,none⟩ v1).cell? ⟨b,1,none⟩=some v1:=by
 refine ⟨?_,?_⟩
 · rw [World.cell?_setCell_other _ _ _ _ (by simp)]
   exact World.cell?_setCell_same _ _ _ h0
 · exact World.cell?_setCell_same _ _ _ ((World.cell?_setCell_other _ _ _ _ (by simp)).trans h1)
theorem fault_run (w:World):Calls Tryz.prog 147 #[] w fun x w'=>x=.returned (.agg #[.int .i64 3,.int .i64 0])∧Below w.heap.size w w':=by
 obtain ⟨W2,hW2⟩:∃ W2,Hid (W2=w.alloc (.cells #[.int .i64 0,.int .i64 0] 47)):=⟨_,rfl⟩
 have BW:Hid (Below w.heap.size w W2):=by show Below _ _ _;rw [hW2.out];exact (Below.refl _ _).alloc (Nat.le_refl _) _
 have hblk:W2.heap[w.heap.size]? = some (.cells #[.int .i64 0,.int .i64 0] 47 (0,0)):=by rw [hW2.out];exact Go.Deep.blk_alloc_new _ _
 have r0:W2.cell? ⟨w.heap.size,0,none⟩=some (.int .i64 0):=(by simp [World.cell?,hblk])
 have r1:W2.cell? ⟨w.heap.size,1,none⟩=some (.int .i64 0):=(by simp [World.cell?,hblk])
 have f0:=frozen_of_block hblk 0
 have f1:=frozen_of_block hblk 1
 go_enter Tryz.func147,Tryz.ntmps147
 go_upto_region 1 with fail
 rw [← hW2.out]
 clear hblk
 go_wp2
 obtain ⟨k0,k1⟩:=blk2R (v0:=.int .i64 3) (v1:=.int .i64 0) r0 r1
 (try simp only [Exit.inBlock,Exit.then])
 refine bodyPost_ret (by simp [results,Tryz.results147,go_sem,k0,k1];try rfl) rfl ?_
 exact ⟨rfl,(BW.out.setCell (by simp) _).setCell (by simp) _⟩
theorem oneIf_run (b:Bool) (w:World):Calls Tryz.prog 148 #[.bool b] w fun x w'=>x=.returned (.int .i64 (if b=true then 1 else 0))∧w=w':=by
 cases b
 all_goals
  go_enter Tryz.func148,Tryz.ntmps148
  go_wp2
  go_ret
  exact ⟨rfl,rfl⟩
set_option maxRecDepth 100000 in
set_option maxHeartbeats 4000000 in
theorem load_none {n0:Nat} {w:World} {cb:Nat} {M:Mv} {e pc:Int} {rs:List Int} (h:Core n0 w cb M e pc rs) (hG:Good M) (hn0:n0≤w.heap.size) {a:Nat} {n:Int} (h0:0≤n) (hn:n≤65535) (hf:wAddr M e n 1=none) :
 Calls Tryz.prog 149 #[.pointer (some ⟨cb,0,none⟩),.pointer (some ⟨cb,5+a,none⟩),.int .i64 n] w fun x w'=>x=.returned (.agg #[.int .i64 3,.int .i64 0])∧Core n0 w' cb M e pc rs∧Below n0 w w'∧FarSame M cb w w':=by
 obtain ⟨W2,hW2⟩:∃ W2,Hid (W2=w.alloc (.cells #[.int .i64 0,.int .i64 0] 47)):=⟨_,rfl⟩
 have BW:Hid (Below w.heap.size w W2):=by show Below _ _ _;rw [hW2.out];exact (Below.refl _ _).alloc (Nat.le_refl _) _
 have hblk:W2.heap[w.heap.size]? = some (.cells #[.int .i64 0,.int .i64 0] 47 (0,0)):=by rw [hW2.out];exact Go.Deep.blk_alloc_new _ _
 have rl:w.heap.size<W2.heap.size:=(Array.getElem?_eq_some_iff.1 hblk).1
 have RB:Hid (∀ w',Below W2.heap.size W2 w'→w'.heap[w.heap.size]? = some (.cells #[.int .i64 0,.int .i64 0] 47 (0,0))):=fun w' h=>(h.block _ rl).trans hblk
 have hMR:Hid (¬ Mine M w.heap.size):=fun q=>by have:=(Mine.fresh h.own q).2;omega
 have hRc:w.heap.size≠cb:=by have:=h.at_.lt;omega
 have HC2:Hid (Core n0 W2 cb M e pc rs):=h.keep BW.out
 have hT:=touch_run M e pc n 1 rs cb W2 HC2.out.at_ HC2.out.own.at_ hG h0 (by omega) (.inl rfl)
 rw [hf] at hT
 clear hf h hblk
 go_enter Tryz.func149,Tryz.ntmps149
 go_upto_region 1 with fail
 rw [← hW2.out]
 go_wp2_with (first
  | (go_at_call 156;refine hT.mono ?_;clear hT;rintro x w1 ⟨rfl,hb⟩;have HBa:Hid (_):=hb;clear hb)
  | (go_at_call 147;refine (fault_run _).mono ?_;rintro x W1 ⟨rfl,hb⟩;have HB1:Hid (Below W2.heap.size W2 W1):=HBa.out.trans (hb.mono HBa.out.size);have hblk:=RB.out W1 HB1.out;have r0:W1.cell? ⟨w.heap.size,0,none⟩=some (.int .i64 0):=(by simp [World.cell?,hblk]);have r1:W1.cell? ⟨w.heap.size,1,none⟩=some (.int .i64 0):=(by simp [World.cell?,hblk]);have f0:=frozen_of_block hblk 0;have f1:=frozen_of_block hblk 1;have rl1:=lt_of_cell r0;dsimp only at rl1;clear hblk;clear hb)
  | fail)
 refine bp_genR fun V9 hV9=>?_
 obtain ⟨k0,k1⟩:=blk2R (v0:=.int .i64 3) (v1:=.int .i64 0) r0 r1
 rw [← hV9] at k0 k1
 have HC9:Core n0 V9 cb M e pc rs:=by rw [hV9];exact ((HC2.out.keep HB1.out).far hMR.out hRc 0 _).far hMR.out hRc 1 _
 have HB9:Below n0 w V9:=by rw [hV9];exact (((BW.out.mono hn0).trans (HB1.out.mono (by have:=BW.out.size;omega))).setCell hn0 _).setCell hn0 _
 have HF9:FarSame M cb w V9:=by rw [hV9];exact ((((FarSame.refl M cb w).below (Nat.le_refl _) BW.out).below BW.out.size HB1.out).set (.inl (Nat.le_refl _)) 0 _).set (.inl (Nat.le_refl _)) 1 _
 clear hV9
 (try simp only [Exit.inBlock,Exit.then])
 refine bodyPost_ret (by simp [results,Tryz.results149,go_sem,k0,k1];try rfl) rfl ?_
 exact ⟨rfl,HC9,HB9,HF9⟩
set_option maxRecDepth 100000 in
set_option maxHeartbeats 4000000 in
theorem load_some {n0:Nat} {w:World} {cb:Nat} {M:Mv} {e pc:Int} {rs:List Int} (h:Core n0 w cb M e pc rs) (hG:Good M) (hn0:n0≤w.heap.size) {a:Nat} (ha:a<4) (hl:rs.length=4) {n:Int} (h0:0≤n) (hn:n≤65535) {ad:Addr} (hf:wAddr M e n 1=some ad) :
 Calls Tryz.prog 149 #[.pointer (some ⟨cb,0,none⟩),.pointer (some ⟨cb,5+a,none⟩),.int .i64 n] w fun x w'=>x=.returned (.agg #[.int .i64 0,.int .i64 0])∧Core n0 w' cb M e pc (rs.set a (wordAt M (frmF M.frs e n 1) n))∧Below n0 w w'∧FarSame M cb w w':=by
 obtain ⟨W2,hW2⟩:∃ W2,Hid (W2=w.alloc (.cells #[.int .i64 0,.int .i64 0] 47)):=⟨_,rfl⟩
 have BW:Hid (Below w.heap.size w W2):=by show Below _ _ _;rw [hW2.out];exact (Below.refl _ _).alloc (Nat.le_refl _) _
 have hblk:W2.heap[w.heap.size]? = some (.cells #[.int .i64 0,.int .i64 0] 47 (0,0)):=by rw [hW2.out];exact Go.Deep.blk_alloc_new _ _
 have rl:w.heap.size<W2.heap.size:=(Array.getElem?_eq_some_iff.1 hblk).1
 have RB:Hid (∀ w',Below W2.heap.size W2 w'→w'.heap[w.heap.size]? = some (.cells #[.int .i64 0,.int .i64 0] 47 (0,0))):=fun w' h=>(h.block _ rl).trans hblk
 have hMR:Hid (¬ Mine M w.heap.size):=fun q=>by have:=(Mine.fresh h.own q).2;omega
 have hRc:w.heap.size≠cb:=by have:=h.at_.lt;omega
 have HC2:Hid (Core n0 W2 cb M e pc rs):=h.keep BW.out
 have hT:=touch_run M e pc n 1 rs cb W2 HC2.out.at_ HC2.out.own.at_ hG h0 (by omega) (.inl rfl)
 rw [hf] at hT
 have HF:Hid (_):=hf
 have HG:Hid (_):=hG
 have HA:Hid (a<4):=ha
 have HL:Hid (rs.length=4):=hl
 clear hf h hblk hG hl
 obtain ⟨ab,ao,asp⟩:=ad
 obtain ⟨v,hv⟩:∃ v,Hid (wordAt M (frmF M.frs e n 1) n=v):=⟨_,rfl⟩
 rw [hv.out]
 go_enter Tryz.func149,Tryz.ntmps149
 go_upto_region 1 with fail
 rw [← hW2.out]
 go_wp2_with (go_at_call 156;refine hT.mono ?_;clear hT;rintro x W1 ⟨rfl,hb⟩;have HB1:Hid (_):=hb;have hC1:=HC2.out.keep hb;obtain ⟨sp,x1,_⟩:=wAddr_word hC1.own.at_ HG.out h0 HF.out;dsimp only at sp;subst sp;rw [hv.out] at x1;have g0:=hC1.at_.cr a HA.out;have gf:=hC1.at_.fz (5+a);have gl:=hC1.at_.lt;have hblk:=RB.out W1 HB1.out;have r0:W1.cell? ⟨w.heap.size,0,none⟩=some (.int .i64 0):=(by simp [World.cell?,hblk]);have r1:W1.cell? ⟨w.heap.size,1,none⟩=some (.int .i64 0):=(by simp [World.cell?,hblk]);have f0:=frozen_of_block hblk 0;have f1:=frozen_of_block hblk 1;have rl1:=lt_of_cell r0;dsimp only at rl1;clear hblk;clear hb hC1)
 refine bp_genR fun V9 hV9=>?_
 have q0:(W1.setCell ⟨cb,5+a,none⟩ (.int .i64 v)).cell? ⟨w.heap.size,0,none⟩=some (.int .i64 0):=(World.cell?_setCell_other _ _ _ _ (by intro q;simp only [Addr.mk.injEq] at q;exact hRc q.1.symm)).trans r0
 have q1:(W1.setCell ⟨cb,5+a,none⟩ (.int .i64 v)).cell? ⟨w.heap.size,1,none⟩=some (.int .i64 0):=(World.cell?_setCell_other _ _ _ _ (by intro q;simp only [Addr.mk.injEq] at q;exact hRc q.1.symm)).trans r1
 obtain ⟨k0,k1⟩:=blk2R (v0:=.int .i64 0) (v1:=.int .i64 0) q0 q1
 rw [← hV9] at k0 k1
 have HC9:Core n0 V9 cb M e pc (rs.set a v):=by rw [hV9];exact (((HC2.out.keep HB1.out).regSet HA.out HL.out v).far hMR.out hRc 0 _).far hMR.out hRc 1 _
 have HB9:Below n0 w V9:=by rw [hV9];exact ((((BW.out.mono hn0).trans (HB1.out.mono (by have:=BW.out.size;omega))).setCell HC2.out.ge _).setCell hn0 _).setCell hn0 _
 have HF9:FarSame M cb w V9:=by rw [hV9];exact (((((FarSame.refl M cb w).below (Nat.le_refl _) BW.out).below BW.out.size HB1.out).set (.inr (.inr rfl)) (5+a) _).set (.inl (Nat.le_refl _)) 0 _).set (.inl (Nat.le_refl _)) 1 _
 clear hV9
 (try simp only [Exit.inBlock,Exit.then])
 refine bodyPost_ret (by simp [results,Tryz.results149,go_sem,k0,k1];try rfl) rfl ?_
 exact ⟨rfl,HC9,HB9,HF9⟩
set_option maxRecDepth 100000 in
set_option maxHeartbeats 4000000 in
theorem store_none {n0:Nat} {w:World} {cb:Nat} {M:Mv} {e pc:Int} {rs:List Int} (h:Core n0 w cb M e pc rs) (hG:Good M) (hn0:n0≤w.heap.size) {v n:Int} (h0:0≤n) (hn:n≤65535) (hf:wAddr M e n 2=none) :
 Calls Tryz.prog 150 #[.pointer (some ⟨cb,0,none⟩),.int .i64 v,.int .i64 n] w fun x w'=>x=.returned (.agg #[.int .i64 3,.int .i64 0])∧Core n0 w' cb M e pc rs∧Below n0 w w'∧FarSame M cb w w':=by
 obtain ⟨W2,hW2⟩:∃ W2,Hid (W2=w.alloc (.cells #[.int .i64 0,.int .i64 0] 47)):=⟨_,rfl⟩
 have BW:Hid (Below w.heap.size w W2):=by show Below _ _ _;rw [hW2.out];exact (Below.refl _ _).alloc (Nat.le_refl _) _
 have hblk:W2.heap[w.heap.size]? = some (.cells #[.int .i64 0,.int .i64 0] 47 (0,0)):=by rw [hW2.out];exact Go.Deep.blk_alloc_new _ _
 have rl:w.heap.size<W2.heap.size:=(Array.getElem?_eq_some_iff.1 hblk).1
 have RB:Hid (∀ w',Below W2.heap.size W2 w'→w'.heap[w.heap.size]? = some (.cells #[.int .i64 0,.int .i64 0] 47 (0,0))):=fun w' h=>(h.block _ rl).trans hblk
 have hMR:Hid (¬ Mine M w.heap.size):=fun q=>by have:=(Mine.fresh h.own q).2;omega
 have hRc:w.heap.size≠cb:=by have:=h.at_.lt;omega
 have HC2:Hid (Core n0 W2 cb M e pc rs):=h.keep BW.out
 have hT:=touch_run M e pc n 2 rs cb W2 HC2.out.at_ HC2.out.own.at_ hG h0 (by omega) (.inr (.inl rfl))
 rw [hf] at hT
 clear hf h hblk
 go_enter Tryz.func150,Tryz.ntmps150
 go_upto_region 1 with fail
 rw [← hW2.out]
 go_wp2_with (first
  | (go_at_call 156;refine hT.mono ?_;clear hT;rintro x w1 ⟨rfl,hb⟩;have HBa:Hid (_):=hb;clear hb)
  | (go_at_call 147;refine (fault_run _).mono ?_;rintro x W1 ⟨rfl,hb⟩;have HB1:Hid (Below W2.heap.size W2 W1):=HBa.out.trans (hb.mono HBa.out.size);have hblk:=RB.out W1 HB1.out;have r0:W1.cell? ⟨w.heap.size,0,none⟩=some (.int .i64 0):=(by simp [World.cell?,hblk]);have r1:W1.cell? ⟨w.heap.size,1,none⟩=some (.int .i64 0):=(by simp [World.cell?,hblk]);have f0:=frozen_of_block hblk 0;have f1:=frozen_of_block hblk 1;have rl1:=lt_of_cell r0;dsimp only at rl1;clear hblk;clear hb)
  | fail)
 refine bp_genR fun V9 hV9=>?_
 obtain ⟨k0,k1⟩:=blk2R (v0:=.int .i64 3) (v1:=.int .i64 0) r0 r1
 rw [← hV9] at k0 k1
 have HC9:Core n0 V9 cb M e pc rs:=by rw [hV9];exact ((HC2.out.keep HB1.out).far hMR.out hRc 0 _).far hMR.out hRc 1 _
 have HB9:Below n0 w V9:=by rw [hV9];exact (((BW.out.mono hn0).trans (HB1.out.mono (by have:=BW.out.size;omega))).setCell hn0 _).setCell hn0 _
 have HF9:FarSame M cb w V9:=by rw [hV9];exact ((((FarSame.refl M cb w).below (Nat.le_refl _) BW.out).below BW.out.size HB1.out).set (.inl (Nat.le_refl _)) 0 _).set (.inl (Nat.le_refl _)) 1 _
 clear hV9
 (try simp only [Exit.inBlock,Exit.then])
 refine bodyPost_ret (by simp [results,Tryz.results150,go_sem,k0,k1];try rfl) rfl ?_
 exact ⟨rfl,HC9,HB9,HF9⟩
set_option maxRecDepth 100000 in
set_option maxHeartbeats 4000000 in
theorem store_some {n0:Nat} {w:World} {cb:Nat} {M:Mv} {e pc:Int} {rs:List Int} (h:Core n0 w cb M e pc rs) (hG:Good M) (hn0:n0≤w.heap.size) {v n:Int} (wv:(Lit.int .i64 v).wf=true) (h0:0≤n) (hn:n≤65535) {ad:Addr} (hf:wAddr M e n 2=some ad) :
 Calls Tryz.prog 150 #[.pointer (some ⟨cb,0,none⟩),.int .i64 v,.int .i64 n] w fun x w'=>x=.returned (.agg #[.int .i64 0,.int .i64 0])∧Core n0 w' cb (putWord M (frmF M.frs e n 2) n v) e pc rs∧Below n0 w w'∧FarSame M cb w w'∧MineSub M (putWord M (frmF M.frs e n 2) n v) w.heap.size:=by
 obtain ⟨W2,hW2⟩:∃ W2,Hid (W2=w.alloc (.cells #[.int .i64 0,.int .i64 0] 47)):=⟨_,rfl⟩
 have BW:Hid (Below w.heap.size w W2):=by show Below _ _ _;rw [hW2.out];exact (Below.refl _ _).alloc (Nat.le_refl _) _
 have hblk:W2.heap[w.heap.size]? = some (.cells #[.int .i64 0,.int .i64 0] 47 (0,0)):=by rw [hW2.out];exact Go.Deep.blk_alloc_new _ _
 have rl:w.heap.size<W2.heap.size:=(Array.getElem?_eq_some_iff.1 hblk).1
 have RB:Hid (∀ w',Below W2.heap.size W2 w'→w'.heap[w.heap.size]? = some (.cells #[.int .i64 0,.int .i64 0] 47 (0,0))):=fun w' h=>(h.block _ rl).trans hblk
 have hMR:Hid (¬ Mine M w.heap.size):=fun q=>by have:=(Mine.fresh h.own q).2;omega
 have hRc:w.heap.size≠cb:=by have:=h.at_.lt;omega
 have HC2:Hid (Core n0 W2 cb M e pc rs):=h.keep BW.out
 have hT:=touch_run M e pc n 2 rs cb W2 HC2.out.at_ HC2.out.own.at_ hG h0 (by omega) (.inr (.inl rfl))
 rw [hf] at hT
 have HF:Hid (_):=hf
 have HG:Hid (_):=hG
 clear hf h hblk hG
 obtain ⟨ab,ao,asp⟩:=ad
 go_enter Tryz.func150,Tryz.ntmps150
 go_upto_region 1 with fail
 rw [← hW2.out]
 go_wp2_with (go_at_call 156;refine hT.mono ?_;clear hT;rintro x W1 ⟨rfl,hb⟩;have HB1:Hid (_):=hb;have hC1:=HC2.out.keep hb;obtain ⟨sp,x1,_,k,hk,hfk,o,hoa,hae⟩:=wAddr_word hC1.own.at_ HG.out h0 HF.out;dsimp only at sp;subst sp;have HFK:Hid (_):=hfk;have HOA:Hid (_):=hoa;have HAE:Hid (_):=hae;have HK:Hid (_):=hk;have gf:W1.frozen? ⟨ab,ao,none⟩=false:=(hC1.own.nw k (by rw [HG.out.s1];exact hk) ab o none hoa).2.2 ao;have gl:=lt_of_cell x1;dsimp only at gl;have hab:ab≠w.heap.size:=(fun q=>hMR.out (.inr (.inr (.inr ⟨k,(by rw [HG.out.s1];exact hk),o,none,(by rw [← q];exact hoa)⟩))));have hblk:=RB.out W1 HB1.out;have r0:W1.cell? ⟨w.heap.size,0,none⟩=some (.int .i64 0):=(by simp [World.cell?,hblk]);have r1:W1.cell? ⟨w.heap.size,1,none⟩=some (.int .i64 0):=(by simp [World.cell?,hblk]);have f0:=frozen_of_block hblk 0;have f1:=frozen_of_block hblk 1;have rl1:=lt_of_cell r0;dsimp only at rl1;clear hblk;clear hb hC1 hfk hoa hae hk)
 refine bp_genR fun V9 hV9=>?_
 have g:=HG.out
 have hk24:k<M.frs.length:=by rw [g.s1];exact HK.out
 have q0:(W1.setCell ⟨ab,ao,none⟩ (.int .i64 v)).cell? ⟨w.heap.size,0,none⟩=some (.int .i64 0):=(World.cell?_setCell_other _ _ _ _ (by intro q;simp only [Addr.mk.injEq] at q;exact hab q.1)).trans r0
 have q1:(W1.setCell ⟨ab,ao,none⟩ (.int .i64 v)).cell? ⟨w.heap.size,1,none⟩=some (.int .i64 0):=(World.cell?_setCell_other _ _ _ _ (by intro q;simp only [Addr.mk.injEq] at q;exact hab q.1)).trans r1
 obtain ⟨k0,k1⟩:=blk2R (v0:=.int .i64 0) (v1:=.int .i64 0) q0 q1
 rw [← hV9] at k0 k1
 have hg:=goodFr_iff.1 (g.fr k HK.out)
 have hw8:(M.frs.getD k default).ws.length=8:=(mayW_iff.1 hg.1).1
 have eo:ao=o+(n % 8).toNat:=by have:=HAE.out;simp only [Addr.mk.injEq,true_and,and_true] at this;exact this
 have HC8:Core n0 (W1.setCell ⟨ab,ao,none⟩ (.int .i64 v)) cb (putWord M (frmF M.frs e n 2) n v) e pc rs:=by
  have:=(HC2.out.keep HB1.out).word (k:=k) hk24 HOA.out (i:=(n % 8).toNat) (by rw [hw8];omega) wv
  unfold putWord
  rw [HFK.out,Int.toNat_natCast,eo]
  exact this
 have msub:∀ b,Mine (putWord M (frmF M.frs e n 2) n v) b→Mine M b:=fun b q=>by
  unfold putWord at q
  rw [HFK.out,Int.toNat_natCast] at q
  rcases q with q | q | q | ⟨j,hj,q⟩
  · exact .inl q
  · exact .inr (.inl q)
  · exact .inr (.inr (.inl q))
  · have hj' : j<M.frs.length:=by simpa using hj
    refine .inr (.inr (.inr ⟨j,hj',?_⟩))
    dsimp only at q
    rw [getD_set _ _ _ _ hk24] at q
    split at q
    · rename_i e';subst e';exact q
    · exact q
 have hMR2:¬ Mine (putWord M (frmF M.frs e n 2) n v) w.heap.size:=fun q=>hMR.out (msub _ q)
 have MS:MineSub M (putWord M (frmF M.frs e n 2) n v) w.heap.size:=fun b _ hb q=>hb (msub b q)
 have HC9:Core n0 V9 cb (putWord M (frmF M.frs e n 2) n v) e pc rs:=by rw [hV9];exact (HC8.far hMR2 hRc 0 _).far hMR2 hRc 1 _
 have HB9:Below n0 w V9:=by rw [hV9];exact ((((BW.out.mono hn0).trans (HB1.out.mono (by have:=BW.out.size;omega))).setCell (HC2.out.own.nw k hk24 ab o none HOA.out).1 _).setCell hn0 _).setCell hn0 _
 have HF9:FarSame M cb w V9:=by rw [hV9];exact (((((FarSame.refl M cb w).below (Nat.le_refl _) BW.out).below BW.out.size HB1.out).set (.inr (.inl (.inr (.inr (.inr ⟨k,hk24,o,none,HOA.out⟩))))) ao _).set (.inl (Nat.le_refl _)) 0 _).set (.inl (Nat.le_refl _)) 1 _
 clear hV9
 (try simp only [Exit.inBlock,Exit.then])
 refine bodyPost_ret (by simp [results,Tryz.results150,go_sem,k0,k1];try rfl) rfl ?_
 exact ⟨rfl,HC9,HB9,HF9,MS⟩
end Go.Proofs.YtdngbojbpmdegaaGreatDoor

namespace Go.Proofs.YtdngbojbpmdegaaGreatDoor
open Go.RowKit
section
variable {α:Type} [Inhabited α] {P:Program} {c:Nat} {cells:α→List Value}
theorem append_new (hcl:∀ q,(cells q).length=c) (h0:0<c) (w:World) (t ty e:TypeId) (i:TypeInfo) (z:Value) (bytes:Nat) (ht:P.underlying t=some (.slice e)) (hi:P.info? e=some i) (hz:i.zero=some z)
 (hsize:i.size=c) (hby:i.bytes=bytes) (ap:Option Addr) (cap:Nat) (xs:List α) (hr:RowsAt w c cells ap xs) (hpos:xs≠[]) (hlen:xs.length≤9223372036854775807) (hbytes:xs.length * bytes≤140737488351232) (hzs:z.cells.size=c) (hone:∀ q,∀ v ∈ cells q,v.oneCell' = true) (hml:xs.length≤maxLen) :
 ∃ cap' zs,(xs.length≤cap'∧(xs.flatMap cells ++ zs).length=cap' * c∧cap'≤maxLen)∧(Builtin.append_ #[t,t] ty #[.slice none 0 0,.slice ap xs.length cap]).run P w=.ok (.slice (some ⟨w.heap.size,0,none⟩) xs.length cap') (w.drew.alloc (.cells (xs.flatMap cells ++ zs).toArray e)):=by
 rcases hr with h | ⟨b,off,rfl,h⟩
 · exact absurd h hpos
 · subst hsize
   subst hby
   have hp:0<xs.length:=by cases xs with
    | nil=>exact absurd rfl hpos
    | cons a l=>simp
   have:=run_append_nil (P:=P) w t ty e i z ht hi hz ⟨b,off,none⟩ xs.length cap (xs.flatMap cells) (flat_len hcl xs) (src_of_rows hcl h0 h) (by omega) (by omega) (by omega)
   have run:(Builtin.append_ #[t,t] ty #[.slice none 0 0,.slice (some ⟨b,off,none⟩) xs.length cap]).run P w=.ok (.slice (some ⟨w.heap.size,0,none⟩) xs.length (grownCap w xs.length 0 e)) (w.drew.alloc (.cells (xs.flatMap cells ++ (Builtin.zeroCells z.cells (grownCap w xs.length 0 e - xs.length)).toList).toArray e)):=by
    rw [this]
    congr 3
    simp
   refine ⟨grownCap w xs.length 0 e,(Builtin.zeroCells z.cells (grownCap w xs.length 0 e - xs.length)).toList,⟨grownCap_ge w xs.length 0 e,?_⟩,run⟩
   obtain ⟨g,cap2,w2,h2,h3,_,h5,_⟩:=run_append_lies (P:=P) w t ty w.heap.size e i z i.size i.bytes ht hi hz rfl rfl hzs h0 (.slice none 0 0) 0 [] (World.ownsRow_nil _ _ _ _) ⟨b,off,none⟩ xs.length cap (xs.flatMap cells) (flat_len hcl xs) (src_of_rows hcl h0 h) (fun u hu=>by
    obtain ⟨q,_,hq⟩:=List.mem_flatMap.1 hu
    exact hone q u hq) hp (by omega) (by rw [Nat.zero_add];omega) (Nat.le_refl _) w.heap.size rfl
   rw [run] at h2
   injection h2 with e1 e2
   rw [← e2,← e1] at h3
   rcases h3.2 with ⟨hv,_⟩ | ⟨g',cap',cur,hv,_,hg,_,hm,hs,_⟩
   · cases hv
   · simp only [Value.slice.injEq,Option.some.injEq,Addr.mk.injEq] at hv
     obtain ⟨⟨rfl,_⟩,_,rfl⟩:=hv
     have hblk:(w.drew.alloc (.cells (xs.flatMap cells ++ (Builtin.zeroCells z.cells (grownCap w xs.length 0 e - xs.length)).toList).toArray e)).heap[w.heap.size]? = some (.cells (xs.flatMap cells ++ (Builtin.zeroCells z.cells (grownCap w xs.length 0 e - xs.length)).toList).toArray e):=Go.Deep.blk_alloc_new w.drew _
     rw [hblk] at hg
     injection hg with hg
     injection hg with hg
     rw [← hg] at hs
     exact ⟨by simpa using hs,hm⟩
theorem append_none (w:World) (t ty e:TypeId) (i:TypeInfo) (ht:P.underlying t=some (.slice e)) (hi:P.info? e=some i) (ap:Option Addr) (cap:Nat) :
 (Builtin.append_ #[t,t] ty #[.slice none 0 0,.slice ap 0 cap]).run P w=.ok (.slice none 0 0) w:=by
 cases ap<;>simp [Builtin.append_,run_underlying ht,sizeOf,typeInfo,hi,Builtin.lenOf,Builtin.firstCells,loadCells,loadCellsFrom]
theorem step_append_new (hcl:∀ q,(cells q).length=c) (h0:0<c) {ops:Array Oper} {o:Oper} {a:Act} {w:World} {K:Act→World→Prop} {Q:Exit→Act→World→Prop} {E:Prop} (hgd:o.guard=none) (x:Operand) (t:TypeId)
 (ho:o.op=.call {callee:=.builtin .append,args:=#[.const (.slice none 0 0),x],argTypes:=#[t,t]}) (e:TypeId) (i:TypeInfo) (z:Value) (bytes:Nat) (ht:P.underlying t=some (.slice e)) (hi:P.info? e=some i) (hz:i.zero=some z)
 (hsize:i.size=c) (hby:i.bytes=bytes) (ap:Option Addr) (cap:Nat) (xs:List α) (hx:a.eval x=.slice ap xs.length cap) (W:World) (hr:RowsAt W c cells ap xs) (hw:Below W.heap.size W w) (hpos:xs≠[]) (hlen:xs.length≤9223372036854775807) (hbytes:xs.length * bytes≤140737488351232) (hzs:z.cells.size=c) (hone:∀ q,∀ v ∈ cells q,v.oneCell' = true) (hml:xs.length≤maxLen)
 (h:∀ cap' zs,(xs.length≤cap'∧(xs.flatMap cells ++ zs).length=cap' * c∧cap'≤maxLen)→K (a.put o.dst (.slice (some ⟨w.heap.size,0,none⟩) xs.length cap')) (w.drew.alloc (.cells (xs.flatMap cells ++ zs).toArray e))) :
 if Region.wanted o (yielded ops a.tmps)=true then Oper.wp P o a w K Q else E:=by
 have hwd:Region.wanted o (yielded ops a.tmps)=true:=by simp [Region.wanted,hgd]
 rw [if_pos hwd]
 obtain ⟨cap',zs,h1,hrun⟩:=append_new hcl h0 w t o.type e i z bytes ht hi hz hsize hby ap cap xs (hr.below hcl hw) hpos hlen hbytes hzs hone hml
 have hs:a.eval (.const (.slice none 0 0))=.slice none 0 0:=rfl
 unfold Oper.wp execOp
 simp only [ho,resolve,invoke,builtin,Sem.run_bind,Sem.run_pure,Result.andThen_ok,List.map_toArray,List.map_cons,List.map_nil,hs,hx,hrun]
 exact h cap' zs h1
theorem step_append_none {ops:Array Oper} {o:Oper} {a:Act} {w:World} {K:Act→World→Prop} {Q:Exit→Act→World→Prop} {E:Prop} (hgd:o.guard=none) (x:Operand) (t:TypeId)
 (ho:o.op=.call {callee:=.builtin .append,args:=#[.const (.slice none 0 0),x],argTypes:=#[t,t]}) (e:TypeId) (i:TypeInfo) (ht:P.underlying t=some (.slice e)) (hi:P.info? e=some i) (ap:Option Addr) (cap:Nat) (hx:a.eval x=.slice ap 0 cap)
 (h:K (a.put o.dst (.slice none 0 0)) w) :
 if Region.wanted o (yielded ops a.tmps)=true then Oper.wp P o a w K Q else E:=by
 have hwd:Region.wanted o (yielded ops a.tmps)=true:=by simp [Region.wanted,hgd]
 rw [if_pos hwd]
 have hrun:=append_none w t o.type e i ht hi ap cap
 have hs:a.eval (.const (.slice none 0 0))=.slice none 0 0:=rfl
 unfold Oper.wp execOp
 simp only [ho,resolve,invoke,builtin,Sem.run_bind,Sem.run_pure,Result.andThen_ok,List.map_toArray,List.map_cons,List.map_nil,hs,hx,hrun]
 exact h
end
theorem wpList_append_eq {P:Program} {w w' : World} {ops:Array Oper} {rest:List Oper} {o:Oper} {a:Act} {Q:Exit→Act→World→Prop} (hgd:o.guard=none) (x y:Operand) (t:TypeId)
 (ho:o.op=.call {callee:=.builtin .append,args:=#[x,y],argTypes:=#[t,t]}) (v u v' : Value) (hx:a.eval x=v) (hy:a.eval y=u) (hr:(Builtin.append_ #[t,t] o.type #[v,u]).run P w=.ok v' w')
 (h:wpList P ops Q rest (a.put o.dst v') w'):wpList P ops Q (o :: rest) a w:=
 wpList_plain hgd fun _ hK=>by
  unfold Oper.wp execOp
  simp only [ho,resolve,invoke,builtin,Sem.run_bind,Sem.run_pure,Result.andThen_ok,List.map_toArray,List.map_cons,List.map_nil,hx,hy,hr]
  exact hK _ _ h
def RowIn (w:World) (n:Nat) (e:TypeId) (a:Option Addr) (L:List Value):Prop:=(a=none∧L = [])∨∃ g zs,a=some ⟨g,0,none⟩∧n≤g∧w.heap[g]? = some (.cells (L ++ zs).toArray e (0,0))
theorem ints_rows {w:World} {a:Option Addr} {ws:List Int} (h:Ints w a ws):RowsAt w 1 (fun n:Int=>[Value.int .i64 n]) a ws:=by
 rcases h with rfl | ⟨b,off,h1,h2⟩
 · exact .inl rfl
 · refine .inr ⟨b,off,h1,fun j hj i hi=>?_⟩
   obtain rfl:i=0:=by omega
   show w.cell? ⟨b,off+j * 1+0,none⟩=some (.int .i64 (ws.getD j 0))
   rw [Nat.mul_one,Nat.add_zero]
   exact h2 j hj
theorem wvals_flat (ws:List Int):(ws.flatMap fun n:Int=>[Value.int .i64 n])=wvals ws:=by
 induction ws with
 | nil=>rfl
 | cons a l ih=>simp [wvals] at ih ⊢;exact ih
end Go.Proofs.YtdngbojbpmdegaaGreatDoor
