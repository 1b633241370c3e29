import Derived.Test.YtdngbojbpmdegaaGreatDoorRunSay
import Derived.Test.YtdngbojbpmdegaaGreatDoorStart
import Derived.Test.YtdngbojbpmdegaaGreatDoorJAc
namespace Go.Proofs.YtdngbojbpmdegaaGreatDoor
open Go.RowKit
def MineC (C:Cv) (b:Nat):Prop:=(∃ o s,C.ta=some ⟨b,o,s⟩)∨(∃ o s,C.na=some ⟨b,o,s⟩)
theorem MineC.fresh {n0:Nat} {w:World} {C:Cv} (h:COwn n0 w C) {b:Nat} (hb:MineC C b):n0≤b∧b<w.heap.size:=by
 rcases hb with ⟨o,s,e⟩ | ⟨o,s,e⟩
 · have:=ownsRow_block h.tr b o s e;exact ⟨this.1,this.2.1⟩
 · have:=ownsRow_block h.ns b o s e;exact ⟨this.1,this.2.1⟩
theorem COwn.keepC {n0:Nat} {w w' : World} {C:Cv} (h:COwn n0 w C) (hw:∀ b,MineC C b→w'.heap[b]? = w.heap[b]?):COwn n0 w' C:=
 ⟨ownsRow_keep h.tr fun b o s e=>hw b (.inl ⟨o,s,e⟩),ownsRow_keep h.ns fun b o s e=>hw b (.inr ⟨o,s,e⟩),h.off,h.ok⟩
structure Far (b:Nat) (w w' : World):Prop where
 os:w'.os=w.os
 tape:w'.tape=w.tape
 output:w'.output=w.output
 size:w.heap.size≤w'.heap.size
 block:∀ c,c<w.heap.size→c≠b→w'.heap[c]? = w.heap[c]?
theorem Far.of_below {b:Nat} {w w' : World} (h:Below w.heap.size w w'):Far b w w':=⟨h.os,h.tape,h.output,h.size,fun c hc _=>h.block c hc⟩
theorem Far.trans {b:Nat} {w w1 w2:World} (h:Far b w w1) (k:Far b w1 w2):Far b w w2:=⟨k.os.trans h.os,k.tape.trans h.tape,k.output.trans h.output,Nat.le_trans h.size k.size,fun c hc hb=>(k.block c (Nat.lt_of_lt_of_le hc h.size) hb).trans (h.block c hc hb)⟩
theorem Far.below {b n:Nat} {w w' : World} (h:Far b w w') (hn:n≤b) (hw:n≤w.heap.size):Below n w w':=⟨h.os,h.tape,h.output,h.size,fun c hc=>h.block c (by omega) (by omega)⟩
theorem Far.set {b c:Nat} {w w' : World} (h:Far b w w') (hc:c=b∨w.heap.size≤c) (o:Nat) (v:Value):Far b w (w'.setCell ⟨c,o,none⟩ v):=
 ⟨h.os,h.tape,h.output,by simp [World.setCell];exact h.size,fun d hd hb=>(set_heap _ _ _ _ _ (by rcases hc with rfl | hc;exact hb;omega)).trans (h.block d hd hb)⟩
theorem Far.drew {b:Nat} {w w' : World} (h:Far b w w'):Far b w w'.drew:=h.trans (Far.of_below (Below.refl _ _).drew)
structure Site (n0:Nat) (w:World) (b:Nat) (M:Mv) (C:Cv):Prop where
 c0:w.cell? ⟨b,0,none⟩=some (.slice M.fa M.frs.length M.fcap)
 c1:w.cell? ⟨b,1,none⟩=some (.slice M.ea M.ens.length M.ecap)
 c2:w.cell? ⟨b,2,none⟩=some (.slice M.qa M.qus.length M.qcap)
 c3:w.cell? ⟨b,3,none⟩=some (.slice C.ta C.tr.length C.tcap)
 c4:w.cell? ⟨b,4,none⟩=some (.slice C.na C.ns.length C.ncap)
 fz:∀ o,w.frozen? ⟨b,o,none⟩=false
 lt:b<w.heap.size
 own:Owned n0 w M
 cown:COwn n0 w C
 offM:¬ Mine M b
 offC:¬ MineC C b
 ge:n0≤w.heap.size
theorem Site.keepH {n0:Nat} {w w' : World} {b:Nat} {M:Mv} {C:Cv} (h:Site n0 w b M C) (hw:∀ c,c=b∨Mine M c∨MineC C c→w'.heap[c]? = w.heap[c]?) (hs:w.heap.size≤w'.heap.size):Site n0 w' b M C:=by
 have hc:∀ o,w'.cell? ⟨b,o,none⟩=w.cell? ⟨b,o,none⟩:=fun o=>World.cell?_of_block (hw b (.inl rfl))
 exact ⟨(hc 0).trans h.c0,(hc 1).trans h.c1,(hc 2).trans h.c2,(hc 3).trans h.c3,(hc 4).trans h.c4,fun o=>(World.frozen?_of_block (hw b (.inl rfl))).trans (h.fz o),Nat.lt_of_lt_of_le h.lt hs,h.own.keepM (fun c hc=>hw c (.inr (.inl hc))) hs,h.cown.keepC (fun c hc=>hw c (.inr (.inr hc))),h.offM,h.offC,Nat.le_trans h.ge hs⟩
theorem Site.old {n0:Nat} {w:World} {b:Nat} {M:Mv} {C:Cv} (h:Site n0 w b M C) {c:Nat} (hc:c=b∨Mine M c∨MineC C c):c<w.heap.size:=by
 rcases hc with rfl | hc | hc
 · exact h.lt
 · exact (Mine.fresh h.own hc).2
 · exact (MineC.fresh h.cown hc).2
theorem Site.keep {n0:Nat} {w w' : World} {b:Nat} {M:Mv} {C:Cv} (h:Site n0 w b M C) (hb:Below w.heap.size w w'):Site n0 w' b M C:=
 h.keepH (fun c hc=>hb.block c (h.old hc)) hb.size
theorem Site.far {n0:Nat} {w:World} {b:Nat} {M:Mv} {C:Cv} (h:Site n0 w b M C) {c:Nat} (hc:¬ (c=b∨Mine M c∨MineC C c)) (o:Nat) (v:Value):Site n0 (w.setCell ⟨c,o,none⟩ v) b M C:=
 h.keepH (fun d hd=>set_heap _ _ _ _ _ (fun e=>hc (e▸hd))) (by simp [World.setCell])
theorem Site.putM {n0:Nat} {w:World} {b:Nat} {M N:Mv} {C:Cv} (h:Site n0 w b M C) (hO:Owned n0 w N) (off:¬ Mine N b) :
 Site n0 (((w.setCell ⟨b,0,none⟩ (.slice N.fa N.frs.length N.fcap)).setCell ⟨b,1,none⟩ (.slice N.ea N.ens.length N.ecap)).setCell ⟨b,2,none⟩ (.slice N.qa N.qus.length N.qcap)) b N C:=by
 obtain ⟨k0,k1,k2⟩:=blk3 (v0:=.slice N.fa N.frs.length N.fcap) (v1:=.slice N.ea N.ens.length N.ecap) (v2:=.slice N.qa N.qus.length N.qcap) h.c0 h.c1 h.c2
 have oth:∀ (V:World) (i j:Nat) (v:Value),i≠j→(V.setCell ⟨b,i,none⟩ v).cell? ⟨b,j,none⟩=V.cell? ⟨b,j,none⟩:=fun V i j v hij=>World.cell?_setCell_other _ _ _ _ (by intro q;simp only [Addr.mk.injEq,true_and,and_true] at q;exact hij q)
 have k3:=((oth ((w.setCell ⟨b,0,none⟩ (.slice N.fa N.frs.length N.fcap)).setCell ⟨b,1,none⟩ (.slice N.ea N.ens.length N.ecap)) 2 3 (.slice N.qa N.qus.length N.qcap) (by omega)).trans ((oth (w.setCell ⟨b,0,none⟩ (.slice N.fa N.frs.length N.fcap)) 1 3 (.slice N.ea N.ens.length N.ecap) (by omega)).trans (oth w 0 3 (.slice N.fa N.frs.length N.fcap) (by omega)))).trans h.c3
 have k4:=((oth ((w.setCell ⟨b,0,none⟩ (.slice N.fa N.frs.length N.fcap)).setCell ⟨b,1,none⟩ (.slice N.ea N.ens.length N.ecap)) 2 4 (.slice N.qa N.qus.length N.qcap) (by omega)).trans ((oth (w.setCell ⟨b,0,none⟩ (.slice N.fa N.frs.length N.fcap)) 1 4 (.slice N.ea N.ens.length N.ecap) (by omega)).trans (oth w 0 4 (.slice N.fa N.frs.length N.fcap) (by omega)))).trans h.c4
 have hf:∀ o,(((w.setCell ⟨b,0,none⟩ (.slice N.fa N.frs.length N.fcap)).setCell ⟨b,1,none⟩ (.slice N.ea N.ens.length N.ecap)).setCell ⟨b,2,none⟩ (.slice N.qa N.qus.length N.qcap)).frozen? ⟨b,o,none⟩=false:=fun o=>by rw [World.frozen?_setCell,World.frozen?_setCell,World.frozen?_setCell];exact h.fz o
 have hh:=fun c hc=>blk3_heap (w:=w) (b:=b) (v0:=.slice N.fa N.frs.length N.fcap) (v1:=.slice N.ea N.ens.length N.ecap) (v2:=.slice N.qa N.qus.length N.qcap) c hc
 have hz:(((w.setCell ⟨b,0,none⟩ (.slice N.fa N.frs.length N.fcap)).setCell ⟨b,1,none⟩ (.slice N.ea N.ens.length N.ecap)).setCell ⟨b,2,none⟩ (.slice N.qa N.qus.length N.qcap)).heap.size=w.heap.size:=blk3_size
 generalize ((w.setCell ⟨b,0,none⟩ (.slice N.fa N.frs.length N.fcap)).setCell ⟨b,1,none⟩ (.slice N.ea N.ens.length N.ecap)).setCell ⟨b,2,none⟩ (.slice N.qa N.qus.length N.qcap)=V at k0 k1 k2 k3 k4 hf hh hz
 exact ⟨k0,k1,k2,k3,k4,hf,by rw [hz];exact h.lt,hO.keepM (fun c hc=>hh c (fun q=>off (q▸hc))) (by rw [hz];exact Nat.le_refl _),h.cown.keepC (fun c hc=>hh c (fun q=>h.offC (q▸hc))),off,h.offC,by rw [hz];exact h.ge⟩
theorem Site.putC {n0:Nat} {w:World} {b:Nat} {M:Mv} {C D:Cv} (h:Site n0 w b M C) (hO:COwn n0 w D) (off:¬ MineC D b) :
 Site n0 ((w.setCell ⟨b,3,none⟩ (.slice D.ta D.tr.length D.tcap)).setCell ⟨b,4,none⟩ (.slice D.na D.ns.length D.ncap)) b M D:=by
 have oth:∀ (V:World) (i j:Nat) (v:Value),i≠j→(V.setCell ⟨b,i,none⟩ v).cell? ⟨b,j,none⟩=V.cell? ⟨b,j,none⟩:=fun V i j v hij=>World.cell?_setCell_other _ _ _ _ (by intro q;simp only [Addr.mk.injEq,true_and,and_true] at q;exact hij q)
 have k:∀ j,j≠3→j≠4→((w.setCell ⟨b,3,none⟩ (.slice D.ta D.tr.length D.tcap)).setCell ⟨b,4,none⟩ (.slice D.na D.ns.length D.ncap)).cell? ⟨b,j,none⟩=w.cell? ⟨b,j,none⟩:=fun j h3 h4=>(oth _ 4 j _ (Ne.symm h4)).trans (oth w 3 j _ (Ne.symm h3))
 have k3:((w.setCell ⟨b,3,none⟩ (.slice D.ta D.tr.length D.tcap)).setCell ⟨b,4,none⟩ (.slice D.na D.ns.length D.ncap)).cell? ⟨b,3,none⟩=some (.slice D.ta D.tr.length D.tcap):=(oth _ 4 3 _ (by omega)).trans (World.cell?_setCell_same _ _ _ h.c3)
 have k4:((w.setCell ⟨b,3,none⟩ (.slice D.ta D.tr.length D.tcap)).setCell ⟨b,4,none⟩ (.slice D.na D.ns.length D.ncap)).cell? ⟨b,4,none⟩=some (.slice D.na D.ns.length D.ncap):=World.cell?_setCell_same _ _ _ ((oth w 3 4 _ (by omega)).trans h.c4)
 have hf:∀ o,((w.setCell ⟨b,3,none⟩ (.slice D.ta D.tr.length D.tcap)).setCell ⟨b,4,none⟩ (.slice D.na D.ns.length D.ncap)).frozen? ⟨b,o,none⟩=false:=fun o=>by rw [World.frozen?_setCell,World.frozen?_setCell];exact h.fz o
 have hh:∀ c,c≠b→((w.setCell ⟨b,3,none⟩ (.slice D.ta D.tr.length D.tcap)).setCell ⟨b,4,none⟩ (.slice D.na D.ns.length D.ncap)).heap[c]? = w.heap[c]?:=fun c hc=>by rw [set_heap _ _ _ _ _ hc,set_heap _ _ _ _ _ hc]
 have hz:((w.setCell ⟨b,3,none⟩ (.slice D.ta D.tr.length D.tcap)).setCell ⟨b,4,none⟩ (.slice D.na D.ns.length D.ncap)).heap.size=w.heap.size:=by simp [World.setCell]
 generalize (w.setCell ⟨b,3,none⟩ (.slice D.ta D.tr.length D.tcap)).setCell ⟨b,4,none⟩ (.slice D.na D.ns.length D.ncap)=V at k k3 k4 hf hh hz
 exact ⟨(k 0 (by omega) (by omega)).trans h.c0,(k 1 (by omega) (by omega)).trans h.c1,(k 2 (by omega) (by omega)).trans h.c2,k3,k4,hf,by rw [hz];exact h.lt,h.own.keepM (fun c hc=>hh c (fun q=>h.offM (q▸hc))) (by rw [hz];exact Nat.le_refl _),hO.keepC (fun c hc=>hh c (fun q=>off (q▸hc))),h.offM,off,by rw [hz];exact h.ge⟩
def DoSaid (n0:Nat) (w:World) (b:Nat) (M:Mv) (C:Cv) (code n:Int) (TM:Mv) (TC:Cv) (y:Ending) (w' : World):Prop:=∃ M' C',y=.returned (.agg #[.int .i64 code,.int .i64 n])∧M'.Same TM∧C'.Same TC∧Site n0 w' b M' C'∧Far b w w'∧∀ c,c<w.heap.size→Mine M' c∨MineC C' c→Mine M c∨MineC C c
end Go.Proofs.YtdngbojbpmdegaaGreatDoor

namespace Go.Proofs.YtdngbojbpmdegaaGreatDoor
open Go.RowKit
set_option linter.unusedVariables false
theorem al1w (X:World) (o1:Obj):Below X.heap.size X (X.alloc o1)∧(X.alloc o1).heap[X.heap.size]? = some o1:=⟨below_allocR (Below.refl _ _) _,Go.Deep.blk_alloc_new _ _⟩
theorem al2w (X:World) (o1 o2:Obj):Below X.heap.size X ((X.alloc o1).alloc o2)∧((X.alloc o1).alloc o2).heap[X.heap.size]? = some o1∧((X.alloc o1).alloc o2).heap[X.heap.size+1]? = some o2:=by
 refine ⟨below_allocR (below_allocR (Below.refl _ _) _) _,?_,?_⟩
 · rw [Below.heap_alloc _ _ _ (by simp)];exact Go.Deep.blk_alloc_new _ _
 · have:=Go.Deep.blk_alloc_new (X.alloc o1) o2
   simpa using this
theorem al3w (X:World) (o1 o2 o3:Obj):Below X.heap.size X (((X.alloc o1).alloc o2).alloc o3)∧(((X.alloc o1).alloc o2).alloc o3).heap[X.heap.size]? = some o1∧(((X.alloc o1).alloc o2).alloc o3).heap[X.heap.size+1]? = some o2∧(((X.alloc o1).alloc o2).alloc o3).heap[X.heap.size+1+1]? = some o3:=by
 obtain ⟨b,q1,q2⟩:=al2w X o1 o2
 refine ⟨below_allocR b _,?_,?_,?_⟩
 · rw [Below.heap_alloc _ _ _ (by simp;omega)];exact q1
 · rw [Below.heap_alloc _ _ _ (by simp)];exact q2
 · have:=Go.Deep.blk_alloc_new ((X.alloc o1).alloc o2) o3
   simpa using this
theorem cell_offH {w:World} {b c:Nat} (h:c≠b) (o i:Nat) (v:Value):(w.setCell ⟨b,o,none⟩ v).cell? ⟨c,i,none⟩=w.cell? ⟨c,i,none⟩:=World.cell?_setCell_other _ _ _ _ (by intro q;simp only [Addr.mk.injEq] at q;exact h q.1.symm)
theorem Site.ans {n0:Nat} {w:World} {b:Nat} {M:Mv} {C:Cv} (h:Site n0 w b M C) {R:Nat} (hR:¬ (R=b∨Mine M R∨MineC C R)) {x y x' y' : Value} (r0:w.cell? ⟨R,0,none⟩=some x') (r1:w.cell? ⟨R,1,none⟩=some y') {V:World} (hV:V=(w.setCell ⟨R,0,none⟩ x).setCell ⟨R,1,none⟩ y) :
 Site n0 V b M C∧V.cell? ⟨R,0,none⟩=some x∧V.cell? ⟨R,1,none⟩=some y:=by
 obtain ⟨k0,k1⟩:=blk2R (v0:=x) (v1:=y) r0 r1
 rw [hV]
 exact ⟨(h.far hR 0 x).far hR 1 y,k0,k1⟩
theorem Site.new {n0:Nat} {w:World} {b:Nat} {M:Mv} {C:Cv} (h:Site n0 w b M C) {R:Nat} (hR:w.heap.size≤R):¬ (R=b∨Mine M R∨MineC C R):=fun q=>by have:=h.old q;omega
set_option maxRecDepth 100000 in
set_option maxHeartbeats 2000000 in
theorem changed_ok {n0:Nat} {w:World} {b:Nat} {M N:Mv} {C:Cv} (h:Site n0 w b M C) (hO:Owned n0 w N) (off:¬ Mine N b) :
 Calls Tryz.prog 101 #[.pointer (some ⟨b,0,none⟩),N.val,.int .i64 0] w fun y w'=>y=.returned (.agg #[.int .i64 0,.int .i64 0])∧Site n0 w' b N C∧Far b w w':=by
 unfold Mv.val
 obtain ⟨W2,hW2⟩:∃ W2,Hid (W2=(w.alloc (.cells #[.slice N.fa N.frs.length N.fcap,.slice N.ea N.ens.length N.ecap,.slice N.qa N.qus.length N.qcap] 29)).alloc (.cells #[.int .i64 0,.int .i64 0] 39)):=⟨_,rfl⟩
 obtain ⟨bw,q1,q2⟩:=al2w w (.cells #[.slice N.fa N.frs.length N.fcap,.slice N.ea N.ens.length N.ecap,.slice N.qa N.qus.length N.qcap] 29) (.cells #[.int .i64 0,.int .i64 0] 39)
 rw [← hW2.out] at bw q1 q2
 have BW:Hid (_):=bw
 have HST:Hid (Site n0 W2 b M C):=h.keep bw
 have HON:Hid (Owned n0 W2 N∧¬ Mine N b∧¬ Mine N (w.heap.size+1)):=⟨hO.below bw,off,fun q=>by have:=(Mine.fresh hO q).2;omega⟩
 have HNR:Hid (¬ (w.heap.size+1=b∨Mine M (w.heap.size+1)∨MineC C (w.heap.size+1))):=h.new (by omega)
 have hbl:b<w.heap.size:=h.lt
 have nb:w.heap.size+1≠b:=by omega
 have nb2:w.heap.size≠b:=by omega
 have p0:W2.cell? ⟨w.heap.size,0,none⟩=some (.slice N.fa N.frs.length N.fcap):=by simp [World.cell?,q1]
 have p1:W2.cell? ⟨w.heap.size,1,none⟩=some (.slice N.ea N.ens.length N.ecap):=by simp [World.cell?,q1]
 have p2:W2.cell? ⟨w.heap.size,2,none⟩=some (.slice N.qa N.qus.length N.qcap):=by simp [World.cell?,q1]
 have pl:w.heap.size<W2.heap.size:=lt_of_cell p0
 have r0:W2.cell? ⟨w.heap.size+1,0,none⟩=some (.int .i64 0):=by simp [World.cell?,q2]
 have r1:W2.cell? ⟨w.heap.size+1,1,none⟩=some (.int .i64 0):=by simp [World.cell?,q2]
 have rl:w.heap.size+1<W2.heap.size:=lt_of_cell r0
 have rf0:=frozen_of_block q2 0
 have rf1:=frozen_of_block q2 1
 have s0:=HST.out.c0
 have sf0:=HST.out.fz 0
 have s1:=HST.out.c1
 have sf1:=HST.out.fz 1
 have s2:=HST.out.c2
 have sf2:=HST.out.fz 2
 have sl:=HST.out.lt
 clear h hO off bw q1 q2
 go_enter Tryz.func101,Tryz.ntmps101
 go_upto_region 1 with fail
 rw [← hW2.out]
 clear hW2
 go_wp2
 refine bp_genR fun V9 hV9=>?_
 have s3:=HST.out.putM HON.out.1 HON.out.2.1
 have hh:=blk3_heap (w:=W2) (b:=b) (v0:=.slice N.fa N.frs.length N.fcap) (v1:=.slice N.ea N.ens.length N.ecap) (v2:=.slice N.qa N.qus.length N.qcap) (w.heap.size+1) nb
 have F3:Far b w (((W2.setCell ⟨b,0,none⟩ (.slice N.fa N.frs.length N.fcap)).setCell ⟨b,1,none⟩ (.slice N.ea N.ens.length N.ecap)).setCell ⟨b,2,none⟩ (.slice N.qa N.qus.length N.qcap)):=(((Far.of_below BW.out).set (.inl rfl) 0 _).set (.inl rfl) 1 _).set (.inl rfl) 2 _
 generalize ((W2.setCell ⟨b,0,none⟩ (.slice N.fa N.frs.length N.fcap)).setCell ⟨b,1,none⟩ (.slice N.ea N.ens.length N.ecap)).setCell ⟨b,2,none⟩ (.slice N.qa N.qus.length N.qcap)=V3 at hV9 s3 hh F3
 obtain ⟨k9,k0,k1⟩:=s3.ans (R:=w.heap.size+1) (by rintro (q | q | q);exact nb q;exact HON.out.2.2 q;exact HNR.out (.inr (.inr q))) ((World.cell?_of_block hh).trans r0) ((World.cell?_of_block hh).trans r1) hV9
 have F9:Far b w V9:=by rw [hV9];exact (F3.set (.inr (by omega)) 0 _).set (.inr (by omega)) 1 _
 clear hV9
 (try simp only [Exit.inBlock,Exit.then])
 refine bodyPost_ret (by simp [results,Tryz.results101,go_sem,k0,k1];try rfl) rfl ?_
 exact ⟨rfl,k9,F9⟩
set_option maxRecDepth 100000 in
set_option maxHeartbeats 2000000 in
theorem changed_no {n0:Nat} {w:World} {b:Nat} {M N:Mv} {C:Cv} (h:Site n0 w b M C) (hO:Owned n0 w N) (off:¬ Mine N b) {x:Int} (hx:¬ x=0) :
 Calls Tryz.prog 101 #[.pointer (some ⟨b,0,none⟩),N.val,.int .i64 x] w fun y w'=>y=.returned (.agg #[.int .i64 x,.int .i64 0])∧Site n0 w' b M C∧Far b w w':=by
 unfold Mv.val
 obtain ⟨W2,hW2⟩:∃ W2,Hid (W2=(w.alloc (.cells #[.slice N.fa N.frs.length N.fcap,.slice N.ea N.ens.length N.ecap,.slice N.qa N.qus.length N.qcap] 29)).alloc (.cells #[.int .i64 0,.int .i64 0] 39)):=⟨_,rfl⟩
 obtain ⟨bw,q1,q2⟩:=al2w w (.cells #[.slice N.fa N.frs.length N.fcap,.slice N.ea N.ens.length N.ecap,.slice N.qa N.qus.length N.qcap] 29) (.cells #[.int .i64 0,.int .i64 0] 39)
 rw [← hW2.out] at bw q1 q2
 have BW:Hid (_):=bw
 have HST:Hid (Site n0 W2 b M C):=h.keep bw
 have HON:Hid (Owned n0 W2 N∧¬ Mine N b∧¬ Mine N (w.heap.size+1)):=⟨hO.below bw,off,fun q=>by have:=(Mine.fresh hO q).2;omega⟩
 have HNR:Hid (¬ (w.heap.size+1=b∨Mine M (w.heap.size+1)∨MineC C (w.heap.size+1))):=h.new (by omega)
 have hbl:b<w.heap.size:=h.lt
 have nb:w.heap.size+1≠b:=by omega
 have nb2:w.heap.size≠b:=by omega
 have p0:W2.cell? ⟨w.heap.size,0,none⟩=some (.slice N.fa N.frs.length N.fcap):=by simp [World.cell?,q1]
 have p1:W2.cell? ⟨w.heap.size,1,none⟩=some (.slice N.ea N.ens.length N.ecap):=by simp [World.cell?,q1]
 have p2:W2.cell? ⟨w.heap.size,2,none⟩=some (.slice N.qa N.qus.length N.qcap):=by simp [World.cell?,q1]
 have pl:w.heap.size<W2.heap.size:=lt_of_cell p0
 have r0:W2.cell? ⟨w.heap.size+1,0,none⟩=some (.int .i64 0):=by simp [World.cell?,q2]
 have r1:W2.cell? ⟨w.heap.size+1,1,none⟩=some (.int .i64 0):=by simp [World.cell?,q2]
 have rl:w.heap.size+1<W2.heap.size:=lt_of_cell r0
 have rf0:=frozen_of_block q2 0
 have rf1:=frozen_of_block q2 1
 have s0:=HST.out.c0
 have sf0:=HST.out.fz 0
 have s1:=HST.out.c1
 have sf1:=HST.out.fz 1
 have s2:=HST.out.c2
 have sf2:=HST.out.fz 2
 have sl:=HST.out.lt
 have hx1:(x == 0)=false:=by simpa using hx
 clear h hO off bw q1 q2 hx
 go_enter Tryz.func101,Tryz.ntmps101
 go_upto_region 1 with fail
 rw [← hW2.out]
 clear hW2
 go_wp2
 refine bp_genR fun V9 hV9=>?_
 obtain ⟨k9,k0,k1⟩:=HST.out.ans HNR.out r0 r1 hV9
 have F9:Far b w V9:=by rw [hV9];exact ((Far.of_below BW.out).set (.inr (by omega)) 0 _).set (.inr (by omega)) 1 _
 clear hV9
 (try simp only [Exit.inBlock,Exit.then])
 refine bodyPost_ret (by simp [results,Tryz.results101,go_sem,k0,k1];try rfl) rfl ?_
 exact ⟨rfl,k9,F9⟩
theorem changed_any {n0:Nat} {w:World} {b:Nat} {M N:Mv} {C:Cv} (h:Site n0 w b M C) (hO:Owned n0 w N) (off:¬ Mine N b) (x:Int) :
 Calls Tryz.prog 101 #[.pointer (some ⟨b,0,none⟩),N.val,.int .i64 x] w fun y w'=>∃ M',M' = (if x=0 then N else M)∧y=.returned (.agg #[.int .i64 x,.int .i64 0])∧Site n0 w' b M' C∧Far b w w':=by
 by_cases hx:x=0
 · subst hx
   exact (changed_ok h hO off).mono fun y w' ⟨a,b,c⟩=>⟨N,by rw [if_pos rfl],a,b,c⟩
 · exact (changed_no h hO off hx).mono fun y w' ⟨a,b,c⟩=>⟨M,by rw [if_neg hx],a,b,c⟩
end Go.Proofs.YtdngbojbpmdegaaGreatDoor

namespace Go.Proofs.YtdngbojbpmdegaaGreatDoor
open Go.RowKit
set_option linter.unusedVariables false
def ranC (nd x:Int):Int:=if x=0 then (if nd=2 then 9 else if nd=3 then 10 else 0) else x
def ranN (nd v x:Int):Int:=if x=0 then (if nd=2 then 0 else if nd=3 then 0 else v) else 0
set_option maxRecDepth 100000 in
set_option maxHeartbeats 2000000 in
theorem ran_no {n0:Nat} {w:World} {b:Nat} {M N:Mv} {C:Cv} (h:Site n0 w b M C) (hO:Owned n0 w N) (off:¬ Mine N b) {v:Int} {nd x:Int} (hx:¬ x=0) :
 Calls Tryz.prog 103 #[.pointer (some ⟨b,0,none⟩),N.val,.agg #[.int .i64 nd,.int .i64 v],.int .i64 x] w fun y w'=>y=.returned (.agg #[.int .i64 x,.int .i64 0])∧Site n0 w' b M C∧Far b w w':=by
 unfold Mv.val
 obtain ⟨W2,hW2⟩:∃ W2,Hid (W2=((w.alloc (.cells #[.slice N.fa N.frs.length N.fcap,.slice N.ea N.ens.length N.ecap,.slice N.qa N.qus.length N.qcap] 29)).alloc (.cells #[.int .i64 nd,.int .i64 v] 47)).alloc (.cells #[.int .i64 0,.int .i64 0] 39)):=⟨_,rfl⟩
 obtain ⟨bw,q1,q3,q2⟩:=al3w w (.cells #[.slice N.fa N.frs.length N.fcap,.slice N.ea N.ens.length N.ecap,.slice N.qa N.qus.length N.qcap] 29) (.cells #[.int .i64 nd,.int .i64 v] 47) (.cells #[.int .i64 0,.int .i64 0] 39)
 rw [← hW2.out] at bw q1 q2 q3
 have BW:Hid (_):=bw
 have HST:Hid (Site n0 W2 b M C):=h.keep bw
 have HON:Hid (Owned n0 W2 N∧¬ Mine N b∧¬ Mine N (w.heap.size+1+1)):=⟨hO.below bw,off,fun q=>by have:=(Mine.fresh hO q).2;omega⟩
 have HNR:Hid (¬ (w.heap.size+1+1=b∨Mine M (w.heap.size+1+1)∨MineC C (w.heap.size+1+1))):=h.new (by omega)
 have hbl:b<w.heap.size:=h.lt
 have nb:w.heap.size+1+1≠b:=by omega
 have nb2:w.heap.size≠b:=by omega
 have nb3:w.heap.size+1≠b:=by omega
 have p0:W2.cell? ⟨w.heap.size,0,none⟩=some (.slice N.fa N.frs.length N.fcap):=by simp [World.cell?,q1]
 have p1:W2.cell? ⟨w.heap.size,1,none⟩=some (.slice N.ea N.ens.length N.ecap):=by simp [World.cell?,q1]
 have p2:W2.cell? ⟨w.heap.size,2,none⟩=some (.slice N.qa N.qus.length N.qcap):=by simp [World.cell?,q1]
 have pl:w.heap.size<W2.heap.size:=lt_of_cell p0
 have o0:W2.cell? ⟨w.heap.size+1,0,none⟩=some (.int .i64 nd):=by simp [World.cell?,q3]
 have o1:W2.cell? ⟨w.heap.size+1,1,none⟩=some (.int .i64 v):=by simp [World.cell?,q3]
 have ol:w.heap.size+1<W2.heap.size:=lt_of_cell o0
 have r0:W2.cell? ⟨w.heap.size+1+1,0,none⟩=some (.int .i64 0):=by simp [World.cell?,q2]
 have r1:W2.cell? ⟨w.heap.size+1+1,1,none⟩=some (.int .i64 0):=by simp [World.cell?,q2]
 have rl:w.heap.size+1+1<W2.heap.size:=lt_of_cell r0
 have rf0:=frozen_of_block q2 0
 have rf1:=frozen_of_block q2 1
 have s0:=HST.out.c0
 have sf0:=HST.out.fz 0
 have s1:=HST.out.c1
 have sf1:=HST.out.fz 1
 have s2:=HST.out.c2
 have sf2:=HST.out.fz 2
 have sl:=HST.out.lt
 have hx1:(x != 0)=true:=by simpa using hx
 clear h hO off bw q1 q2 q3 hx
 go_enter Tryz.func103,Tryz.ntmps103
 go_upto_region 1 with fail
 rw [← hW2.out]
 clear hW2
 go_wp2
 refine bp_genR fun V9 hV9=>?_
 obtain ⟨k9,k0,k1⟩:=HST.out.ans HNR.out r0 r1 hV9
 have F9:Far b w V9:=by rw [hV9];exact ((Far.of_below BW.out).set (.inr (by omega)) 0 _).set (.inr (by omega)) 1 _
 clear hV9
 (try simp only [Exit.inBlock,Exit.then])
 refine bodyPost_ret (by simp [results,Tryz.results103,go_sem,k0,k1];try rfl) rfl ?_
 exact ⟨rfl,k9,F9⟩
set_option maxRecDepth 100000 in
set_option maxHeartbeats 2000000 in
theorem ran_held {n0:Nat} {w:World} {b:Nat} {M N:Mv} {C:Cv} (h:Site n0 w b M C) (hO:Owned n0 w N) (off:¬ Mine N b) {v:Int} :
 Calls Tryz.prog 103 #[.pointer (some ⟨b,0,none⟩),N.val,.agg #[.int .i64 2,.int .i64 v],.int .i64 0] w fun y w'=>y=.returned (.agg #[.int .i64 9,.int .i64 0])∧Site n0 w' b N C∧Far b w w':=by
 unfold Mv.val
 obtain ⟨W2,hW2⟩:∃ W2,Hid (W2=((w.alloc (.cells #[.slice N.fa N.frs.length N.fcap,.slice N.ea N.ens.length N.ecap,.slice N.qa N.qus.length N.qcap] 29)).alloc (.cells #[.int .i64 2,.int .i64 v] 47)).alloc (.cells #[.int .i64 0,.int .i64 0] 39)):=⟨_,rfl⟩
 obtain ⟨bw,q1,q3,q2⟩:=al3w w (.cells #[.slice N.fa N.frs.length N.fcap,.slice N.ea N.ens.length N.ecap,.slice N.qa N.qus.length N.qcap] 29) (.cells #[.int .i64 2,.int .i64 v] 47) (.cells #[.int .i64 0,.int .i64 0] 39)
 rw [← hW2.out] at bw q1 q2 q3
 have BW:Hid (_):=bw
 have HST:Hid (Site n0 W2 b M C):=h.keep bw
 have HON:Hid (Owned n0 W2 N∧¬ Mine N b∧¬ Mine N (w.heap.size+1+1)):=⟨hO.below bw,off,fun q=>by have:=(Mine.fresh hO q).2;omega⟩
 have HNR:Hid (¬ (w.heap.size+1+1=b∨Mine M (w.heap.size+1+1)∨MineC C (w.heap.size+1+1))):=h.new (by omega)
 have hbl:b<w.heap.size:=h.lt
 have nb:w.heap.size+1+1≠b:=by omega
 have nb2:w.heap.size≠b:=by omega
 have nb3:w.heap.size+1≠b:=by omega
 have p0:W2.cell? ⟨w.heap.size,0,none⟩=some (.slice N.fa N.frs.length N.fcap):=by simp [World.cell?,q1]
 have p1:W2.cell? ⟨w.heap.size,1,none⟩=some (.slice N.ea N.ens.length N.ecap):=by simp [World.cell?,q1]
 have p2:W2.cell? ⟨w.heap.size,2,none⟩=some (.slice N.qa N.qus.length N.qcap):=by simp [World.cell?,q1]
 have pl:w.heap.size<W2.heap.size:=lt_of_cell p0
 have o0:W2.cell? ⟨w.heap.size+1,0,none⟩=some (.int .i64 2):=by simp [World.cell?,q3]
 have o1:W2.cell? ⟨w.heap.size+1,1,none⟩=some (.int .i64 v):=by simp [World.cell?,q3]
 have ol:w.heap.size+1<W2.heap.size:=lt_of_cell o0
 have r0:W2.cell? ⟨w.heap.size+1+1,0,none⟩=some (.int .i64 0):=by simp [World.cell?,q2]
 have r1:W2.cell? ⟨w.heap.size+1+1,1,none⟩=some (.int .i64 0):=by simp [World.cell?,q2]
 have rl:w.heap.size+1+1<W2.heap.size:=lt_of_cell r0
 have rf0:=frozen_of_block q2 0
 have rf1:=frozen_of_block q2 1
 have s0:=HST.out.c0
 have sf0:=HST.out.fz 0
 have s1:=HST.out.c1
 have sf1:=HST.out.fz 1
 have s2:=HST.out.c2
 have sf2:=HST.out.fz 2
 have sl:=HST.out.lt
 clear h hO off bw q1 q2 q3
 go_enter Tryz.func103,Tryz.ntmps103
 go_upto_region 1 with fail
 rw [← hW2.out]
 clear hW2
 go_wp2
 refine bp_genR fun V9 hV9=>?_
 have s3:=HST.out.putM HON.out.1 HON.out.2.1
 have hh:=blk3_heap (w:=W2) (b:=b) (v0:=.slice N.fa N.frs.length N.fcap) (v1:=.slice N.ea N.ens.length N.ecap) (v2:=.slice N.qa N.qus.length N.qcap) (w.heap.size+1+1) nb
 have F3:Far b w (((W2.setCell ⟨b,0,none⟩ (.slice N.fa N.frs.length N.fcap)).setCell ⟨b,1,none⟩ (.slice N.ea N.ens.length N.ecap)).setCell ⟨b,2,none⟩ (.slice N.qa N.qus.length N.qcap)):=(((Far.of_below BW.out).set (.inl rfl) 0 _).set (.inl rfl) 1 _).set (.inl rfl) 2 _
 generalize ((W2.setCell ⟨b,0,none⟩ (.slice N.fa N.frs.length N.fcap)).setCell ⟨b,1,none⟩ (.slice N.ea N.ens.length N.ecap)).setCell ⟨b,2,none⟩ (.slice N.qa N.qus.length N.qcap)=V3 at hV9 s3 hh F3
 obtain ⟨k9,k0,k1⟩:=s3.ans (R:=w.heap.size+1+1) (by rintro (q | q | q);exact nb q;exact HON.out.2.2 q;exact HNR.out (.inr (.inr q))) ((World.cell?_of_block hh).trans r0) ((World.cell?_of_block hh).trans r1) hV9
 have F9:Far b w V9:=by rw [hV9];exact (F3.set (.inr (by omega)) 0 _).set (.inr (by omega)) 1 _
 clear hV9
 (try simp only [Exit.inBlock,Exit.then])
 refine bodyPost_ret (by simp [results,Tryz.results103,go_sem,k0,k1];try rfl) rfl ?_
 exact ⟨rfl,k9,F9⟩
set_option maxRecDepth 100000 in
set_option maxHeartbeats 2000000 in
theorem ran_fault {n0:Nat} {w:World} {b:Nat} {M N:Mv} {C:Cv} (h:Site n0 w b M C) (hO:Owned n0 w N) (off:¬ Mine N b) {v:Int} :
 Calls Tryz.prog 103 #[.pointer (some ⟨b,0,none⟩),N.val,.agg #[.int .i64 3,.int .i64 v],.int .i64 0] w fun y w'=>y=.returned (.agg #[.int .i64 10,.int .i64 0])∧Site n0 w' b N C∧Far b w w':=by
 unfold Mv.val
 obtain ⟨W2,hW2⟩:∃ W2,Hid (W2=((w.alloc (.cells #[.slice N.fa N.frs.length N.fcap,.slice N.ea N.ens.length N.ecap,.slice N.qa N.qus.length N.qcap] 29)).alloc (.cells #[.int .i64 3,.int .i64 v] 47)).alloc (.cells #[.int .i64 0,.int .i64 0] 39)):=⟨_,rfl⟩
 obtain ⟨bw,q1,q3,q2⟩:=al3w w (.cells #[.slice N.fa N.frs.length N.fcap,.slice N.ea N.ens.length N.ecap,.slice N.qa N.qus.length N.qcap] 29) (.cells #[.int .i64 3,.int .i64 v] 47) (.cells #[.int .i64 0,.int .i64 0] 39)
 rw [← hW2.out] at bw q1 q2 q3
 have BW:Hid (_):=bw
 have HST:Hid (Site n0 W2 b M C):=h.keep bw
 have HON:Hid (Owned n0 W2 N∧¬ Mine N b∧¬ Mine N (w.heap.size+1+1)):=⟨hO.below bw,off,fun q=>by have:=(Mine.fresh hO q).2;omega⟩
 have HNR:Hid (¬ (w.heap.size+1+1=b∨Mine M (w.heap.size+1+1)∨MineC C (w.heap.size+1+1))):=h.new (by omega)
 have hbl:b<w.heap.size:=h.lt
 have nb:w.heap.size+1+1≠b:=by omega
 have nb2:w.heap.size≠b:=by omega
 have nb3:w.heap.size+1≠b:=by omega
 have p0:W2.cell? ⟨w.heap.size,0,none⟩=some (.slice N.fa N.frs.length N.fcap):=by simp [World.cell?,q1]
 have p1:W2.cell? ⟨w.heap.size,1,none⟩=some (.slice N.ea N.ens.length N.ecap):=by simp [World.cell?,q1]
 have p2:W2.cell? ⟨w.heap.size,2,none⟩=some (.slice N.qa N.qus.length N.qcap):=by simp [World.cell?,q1]
 have pl:w.heap.size<W2.heap.size:=lt_of_cell p0
 have o0:W2.cell? ⟨w.heap.size+1,0,none⟩=some (.int .i64 3):=by simp [World.cell?,q3]
 have o1:W2.cell? ⟨w.heap.size+1,1,none⟩=some (.int .i64 v):=by simp [World.cell?,q3]
 have ol:w.heap.size+1<W2.heap.size:=lt_of_cell o0
 have r0:W2.cell? ⟨w.heap.size+1+1,0,none⟩=some (.int .i64 0):=by simp [World.cell?,q2]
 have r1:W2.cell? ⟨w.heap.size+1+1,1,none⟩=some (.int .i64 0):=by simp [World.cell?,q2]
 have rl:w.heap.size+1+1<W2.heap.size:=lt_of_cell r0
 have rf0:=frozen_of_block q2 0
 have rf1:=frozen_of_block q2 1
 have s0:=HST.out.c0
 have sf0:=HST.out.fz 0
 have s1:=HST.out.c1
 have sf1:=HST.out.fz 1
 have s2:=HST.out.c2
 have sf2:=HST.out.fz 2
 have sl:=HST.out.lt
 clear h hO off bw q1 q2 q3
 go_enter Tryz.func103,Tryz.ntmps103
 go_upto_region 1 with fail
 rw [← hW2.out]
 clear hW2
 go_wp2
 refine bp_genR fun V9 hV9=>?_
 have s3:=HST.out.putM HON.out.1 HON.out.2.1
 have hh:=blk3_heap (w:=W2) (b:=b) (v0:=.slice N.fa N.frs.length N.fcap) (v1:=.slice N.ea N.ens.length N.ecap) (v2:=.slice N.qa N.qus.length N.qcap) (w.heap.size+1+1) nb
 have F3:Far b w (((W2.setCell ⟨b,0,none⟩ (.slice N.fa N.frs.length N.fcap)).setCell ⟨b,1,none⟩ (.slice N.ea N.ens.length N.ecap)).setCell ⟨b,2,none⟩ (.slice N.qa N.qus.length N.qcap)):=(((Far.of_below BW.out).set (.inl rfl) 0 _).set (.inl rfl) 1 _).set (.inl rfl) 2 _
 generalize ((W2.setCell ⟨b,0,none⟩ (.slice N.fa N.frs.length N.fcap)).setCell ⟨b,1,none⟩ (.slice N.ea N.ens.length N.ecap)).setCell ⟨b,2,none⟩ (.slice N.qa N.qus.length N.qcap)=V3 at hV9 s3 hh F3
 obtain ⟨k9,k0,k1⟩:=s3.ans (R:=w.heap.size+1+1) (by rintro (q | q | q);exact nb q;exact HON.out.2.2 q;exact HNR.out (.inr (.inr q))) ((World.cell?_of_block hh).trans r0) ((World.cell?_of_block hh).trans r1) hV9
 have F9:Far b w V9:=by rw [hV9];exact (F3.set (.inr (by omega)) 0 _).set (.inr (by omega)) 1 _
 clear hV9
 (try simp only [Exit.inBlock,Exit.then])
 refine bodyPost_ret (by simp [results,Tryz.results103,go_sem,k0,k1];try rfl) rfl ?_
 exact ⟨rfl,k9,F9⟩
set_option maxRecDepth 100000 in
set_option maxHeartbeats 2000000 in
theorem ran_done {n0:Nat} {w:World} {b:Nat} {M N:Mv} {C:Cv} (h:Site n0 w b M C) (hO:Owned n0 w N) (off:¬ Mine N b) {v:Int} {nd:Int} (h2:¬ nd=2) (h3:¬ nd=3) :
 Calls Tryz.prog 103 #[.pointer (some ⟨b,0,none⟩),N.val,.agg #[.int .i64 nd,.int .i64 v],.int .i64 0] w fun y w'=>y=.returned (.agg #[.int .i64 0,.int .i64 v])∧Site n0 w' b N C∧Far b w w':=by
 unfold Mv.val
 obtain ⟨W2,hW2⟩:∃ W2,Hid (W2=((w.alloc (.cells #[.slice N.fa N.frs.length N.fcap,.slice N.ea N.ens.length N.ecap,.slice N.qa N.qus.length N.qcap] 29)).alloc (.cells #[.int .i64 nd,.int .i64 v] 47)).alloc (.cells #[.int .i64 0,.int .i64 0] 39)):=⟨_,rfl⟩
 obtain ⟨bw,q1,q3,q2⟩:=al3w w (.cells #[.slice N.fa N.frs.length N.fcap,.slice N.ea N.ens.length N.ecap,.slice N.qa N.qus.length N.qcap] 29) (.cells #[.int .i64 nd,.int .i64 v] 47) (.cells #[.int .i64 0,.int .i64 0] 39)
 rw [← hW2.out] at bw q1 q2 q3
 have BW:Hid (_):=bw
 have HST:Hid (Site n0 W2 b M C):=h.keep bw
 have HON:Hid (Owned n0 W2 N∧¬ Mine N b∧¬ Mine N (w.heap.size+1+1)):=⟨hO.below bw,off,fun q=>by have:=(Mine.fresh hO q).2;omega⟩
 have HNR:Hid (¬ (w.heap.size+1+1=b∨Mine M (w.heap.size+1+1)∨MineC C (w.heap.size+1+1))):=h.new (by omega)
 have hbl:b<w.heap.size:=h.lt
 have nb:w.heap.size+1+1≠b:=by omega
 have nb2:w.heap.size≠b:=by omega
 have nb3:w.heap.size+1≠b:=by omega
 have p0:W2.cell? ⟨w.heap.size,0,none⟩=some (.slice N.fa N.frs.length N.fcap):=by simp [World.cell?,q1]
 have p1:W2.cell? ⟨w.heap.size,1,none⟩=some (.slice N.ea N.ens.length N.ecap):=by simp [World.cell?,q1]
 have p2:W2.cell? ⟨w.heap.size,2,none⟩=some (.slice N.qa N.qus.length N.qcap):=by simp [World.cell?,q1]
 have pl:w.heap.size<W2.heap.size:=lt_of_cell p0
 have o0:W2.cell? ⟨w.heap.size+1,0,none⟩=some (.int .i64 nd):=by simp [World.cell?,q3]
 have o1:W2.cell? ⟨w.heap.size+1,1,none⟩=some (.int .i64 v):=by simp [World.cell?,q3]
 have ol:w.heap.size+1<W2.heap.size:=lt_of_cell o0
 have r0:W2.cell? ⟨w.heap.size+1+1,0,none⟩=some (.int .i64 0):=by simp [World.cell?,q2]
 have r1:W2.cell? ⟨w.heap.size+1+1,1,none⟩=some (.int .i64 0):=by simp [World.cell?,q2]
 have rl:w.heap.size+1+1<W2.heap.size:=lt_of_cell r0
 have rf0:=frozen_of_block q2 0
 have rf1:=frozen_of_block q2 1
 have s0:=HST.out.c0
 have sf0:=HST.out.fz 0
 have s1:=HST.out.c1
 have sf1:=HST.out.fz 1
 have s2:=HST.out.c2
 have sf2:=HST.out.fz 2
 have sl:=HST.out.lt
 have h21:(nd == 2)=false:=by simpa using h2
 have h31:(nd == 3)=false:=by simpa using h3
 clear h hO off bw q1 q2 q3 h2 h3
 go_enter Tryz.func103,Tryz.ntmps103
 go_upto_region 1 with fail
 rw [← hW2.out]
 clear hW2
 go_wp2
 refine bp_genR fun V9 hV9=>?_
 have s3:=HST.out.putM HON.out.1 HON.out.2.1
 have hh:=blk3_heap (w:=W2) (b:=b) (v0:=.slice N.fa N.frs.length N.fcap) (v1:=.slice N.ea N.ens.length N.ecap) (v2:=.slice N.qa N.qus.length N.qcap) (w.heap.size+1+1) nb
 have F3:Far b w (((W2.setCell ⟨b,0,none⟩ (.slice N.fa N.frs.length N.fcap)).setCell ⟨b,1,none⟩ (.slice N.ea N.ens.length N.ecap)).setCell ⟨b,2,none⟩ (.slice N.qa N.qus.length N.qcap)):=(((Far.of_below BW.out).set (.inl rfl) 0 _).set (.inl rfl) 1 _).set (.inl rfl) 2 _
 generalize ((W2.setCell ⟨b,0,none⟩ (.slice N.fa N.frs.length N.fcap)).setCell ⟨b,1,none⟩ (.slice N.ea N.ens.length N.ecap)).setCell ⟨b,2,none⟩ (.slice N.qa N.qus.length N.qcap)=V3 at hV9 s3 hh F3
 obtain ⟨k9,k0,k1⟩:=s3.ans (R:=w.heap.size+1+1) (by rintro (q | q | q);exact nb q;exact HON.out.2.2 q;exact HNR.out (.inr (.inr q))) ((World.cell?_of_block hh).trans r0) ((World.cell?_of_block hh).trans r1) hV9
 have F9:Far b w V9:=by rw [hV9];exact (F3.set (.inr (by omega)) 0 _).set (.inr (by omega)) 1 _
 clear hV9
 (try simp only [Exit.inBlock,Exit.then])
 refine bodyPost_ret (by simp [results,Tryz.results103,go_sem,k0,k1];try rfl) rfl ?_
 exact ⟨rfl,k9,F9⟩
theorem ranS_any {n0:Nat} {w:World} {b:Nat} {M N:Mv} {C:Cv} (h:Site n0 w b M C) (hO:Owned n0 w N) (off:¬ Mine N b) (nd v x:Int) :
 Calls Tryz.prog 103 #[.pointer (some ⟨b,0,none⟩),N.val,.agg #[.int .i64 nd,.int .i64 v],.int .i64 x] w fun y w'=>∃ M',M' = (if x=0 then N else M)∧y=.returned (.agg #[.int .i64 (ranC nd x),.int .i64 (ranN nd v x)])∧Site n0 w' b M' C∧Far b w w':=by
 by_cases hx:x=0
 · subst hx
   by_cases h2:nd=2
   · subst h2
     exact (ran_held h hO off).mono fun y w' ⟨a,p,c⟩=>⟨N,(by rw [if_pos rfl]),a.trans rfl,p,c⟩
   · by_cases h3:nd=3
     · subst h3
       exact (ran_fault h hO off).mono fun y w' ⟨a,p,c⟩=>⟨N,(by rw [if_pos rfl]),a.trans rfl,p,c⟩
     · exact (ran_done h hO off h2 h3).mono fun y w' ⟨a,p,c⟩=>⟨N,(by rw [if_pos rfl]),(by rw [a];unfold ranC ranN;rw [if_pos rfl,if_pos rfl,if_neg h2,if_neg h2,if_neg h3,if_neg h3]),p,c⟩
 · exact (ran_no h hO off hx).mono fun y w' ⟨a,p,c⟩=>⟨M,(by rw [if_neg hx]),(by rw [a];unfold ranC ranN;rw [if_neg hx,if_neg hx]),p,c⟩
end Go.Proofs.YtdngbojbpmdegaaGreatDoor
