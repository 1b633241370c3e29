import Derived.Test.YtdngbojbpmdegaaGreatDoorJCreated
import Derived.Test.YtdngbojbpmdegaaGreatDoorPutOf
import Derived.Test.YtdngbojbpmdegaaGreatDoorMeasOf
import Derived.Test.YtdngbojbpmdegaaGreatDoorJRefEnter
import Derived.Test.YtdngbojbpmdegaaGreatDoorRefResume
import Derived.Test.YtdngbojbpmdegaaGreatDoorJHostMath
import Derived.Deep.DeepCutAuto
import Derived.Deep.CutBlock
import Derived.Deep.RegionHeld3
namespace Go.Proofs.YtdngbojbpmdegaaGreatDoor
open Go.RowKit
set_option maxRecDepth 100000
set_option linter.unusedVariables false
def endC (ee:Int):Int:=if ee=2 then 9 else if ee=3 then 10 else 0
structure Set5 (G:Nat) (w V:World):Prop where
 os:V.os=w.os
 tape:V.tape=w.tape
 output:V.output=w.output
 sz:V.heap.size=w.heap.size
 hh:∀ c,c≤G∨G+5≤c→V.heap[c]? = w.heap[c]?
theorem Set5.refl (G:Nat) (w:World):Set5 G w w:=⟨rfl,rfl,rfl,rfl,fun _ _=>rfl⟩
theorem Set5.set {G:Nat} {w V:World} (h:Set5 G w V) {c:Nat} (hc:G<c∧c<G+5) (o:Nat) (v:Value):Set5 G w (V.setCell ⟨c,o,none⟩ v):=
 ⟨h.os,h.tape,h.output,by simp [World.setCell];exact h.sz,fun d hd=>(set_heap _ _ _ _ _ (by omega)).trans (h.hh d hd)⟩
theorem Set5.drew {G:Nat} {w V:World} (h:Set5 G w V):Set5 G w V.drew:=⟨h.os,h.tape,h.output,h.sz,h.hh⟩
structure Sx (W0 wr:World) (M:Mv) (C:Cv) (x:Ac) (G:Nat) (cc nn ee vv:Int) (X:Mv) (D:Cv) (V:World):Prop where
 cx:Cx V G cc nn ee vv X D
 ox:Owned W0.heap.size V X
 od:COwn W0.heap.size V D
 sx:∀ c,Mine X c→Mine M c∨G+5≤c
 sd:∀ c,MineC D c→MineC C c∨G+5≤c
 ok:cc=0→X.Same (actM M C x)∧D.Same (actD M C x)∧actC M C x=endC ee∧actN M C x=(if ee=1 then vv else nn)
 no:cc≠0→actC M C x=cc∧actN M C x=0∧actM M C x=M∧actD M C x=C
 bel:Below wr.heap.size wr V
theorem sx_mk {W0 wr W5 w6 V:World} {P Q:Nat} {s0:Hs} {l:List Ac} {k:Nat} {v:Value} {M:Mv} {C:Cv} {x:Ac} {G:Nat} {cc nn ee vv:Int} {X:Mv} {D:Cv} (h:SL W0 P Q s0 l k v M C wr) (hG:G=wr.heap.size) (h5:W5.heap.size=G+5) (b5:Below wr.heap.size wr W5) (b6:Below W5.heap.size W5 w6) (hs:Set5 G w6 V) (cx:Cx V G cc nn ee vv X D)
 (hX:X=M∨Owned W5.heap.size w6 X) (hD:D=C∨COwn W5.heap.size w6 D)
 (ok:cc=0→X.Same (actM M C x)∧D.Same (actD M C x)∧actC M C x=endC ee∧actN M C x=(if ee=1 then vv else nn)) (no:cc≠0→actC M C x=cc∧actN M C x=0∧actM M C x=M∧actD M C x=C):Sx W0 wr M C x G cc nn ee vv X D V:=by
 have n0:W0.heap.size≤wr.heap.size:=h.bel.size
 have b16:Below wr.heap.size wr w6:=b5.trans (b6.mono b5.size)
 have bV:Below wr.heap.size wr V:=⟨hs.os.trans b16.os,hs.tape.trans b16.tape,hs.output.trans b16.output,by rw [hs.sz];exact b16.size,fun c hc=>(hs.hh c (.inl (by omega))).trans (b16.block c hc)⟩
 refine ⟨cx,?_,?_,fun c hc=>?_,fun c hc=>?_,ok,no,bV⟩
 · rcases hX with rfl | hX
   · exact (h.m.own.below bV)
   · refine (hX.keepM (fun c hc=>hs.hh c (.inr ?_)) (by rw [hs.sz];exact Nat.le_refl _)).mono (by omega)
     have:=(Mine.fresh hX hc).1;omega
 · rcases hD with rfl | hD
   · exact h.c.own.below bV
   · refine (hD.keepC (fun c hc=>hs.hh c (.inr ?_))).mono (by omega)
     have:=(MineC.fresh hD hc).1;omega
 · rcases hX with rfl | hX
   · exact .inl hc
   · have:=(Mine.fresh hX hc).1;right;omega
 · rcases hD with rfl | hD
   · exact .inl hc
   · have:=(MineC.fresh hD hc).1;right;omega
structure SM (W0:World) (P Q:Nat) (v:Value) (xs:List (Int × Int)) (M:Mv) (C:Cv) (wr:World):Prop where
 m:MBox W0.heap.size wr P M
 c:CH W0.heap.size wr Q C
 mq:¬ Mine M Q
 cp:¬ MineC C P
 pq:P≠Q
 row:OwnsAn wr W0.heap.size v xs
 ob:∀ g,v.ownBlock=some g→g≠P∧g≠Q∧¬ Mine M g∧¬ MineC C g
 bel:Below W0.heap.size W0 wr
 gp:W0.heap.size≤P
 gq:W0.heap.size≤Q
theorem SL.mem {W0:World} {P Q:Nat} {s0:Hs} {l:List Ac} {k:Nat} {v:Value} {M:Mv} {C:Cv} {wr:World} (h:SL W0 P Q s0 l k v M C wr):SM W0 P Q v (hans s0 (l.take k)) M C wr:=⟨h.m,h.c,h.mq,h.cp,h.pq,h.row,h.ob,h.bel,h.gp,h.gq⟩
theorem SM.far {W0:World} {P Q:Nat} {v:Value} {xs:List (Int × Int)} {M:Mv} {C:Cv} {U:World} (h:SM W0 P Q v xs M C U) {c:Nat} (h1:c≠P∧¬ Mine M c) (h2:c≠Q∧¬ MineC C c) (h3:∀ g,v.ownBlock=some g→g≠c) (hc:W0.heap.size≤c) (o:Nat) (u:Value):SM W0 P Q v xs M C (U.setCell ⟨c,o,none⟩ u):=
 ⟨h.m.far (by rintro (q | q);exact h1.1 q;exact h1.2 q) _ _,h.c.far (by rintro (q | q);exact h2.1 q;exact h2.2 q) _ _,h.mq,h.cp,h.pq,h.row.keepH (fun g hg=>set_heap _ _ _ _ _ (h3 g hg)),h.ob,h.bel.setCell (p:=⟨c,o,none⟩) hc _,h.gp,h.gq⟩
theorem sm_put {W0 wr V:World} {P Q:Nat} {s0:Hs} {l:List Ac} {k:Nat} {v:Value} {M:Mv} {C:Cv} {x:Ac} {G:Nat} {cc nn ee vv:Int} {X:Mv} {D:Cv} (h:SL W0 P Q s0 l k v M C wr) (hG:G=wr.heap.size) (hs:Sx W0 wr M C x G cc nn ee vv X D V) :
 SM W0 P Q v (hans s0 (l.take k)) X D (((((V.setCell ⟨P,0,none⟩ (.slice X.fa X.frs.length X.fcap)).setCell ⟨P,1,none⟩ (.slice X.ea X.ens.length X.ecap)).setCell ⟨P,2,none⟩ (.slice X.qa X.qus.length X.qcap)).setCell ⟨Q,0,none⟩ (.slice D.ta D.tr.length D.tcap)).setCell ⟨Q,1,none⟩ (.slice D.na D.ns.length D.ncap)):=by
 have hP:=h.m.lt
 have hQ:=h.c.lt
 have k1:=h.keep hs.bel
 have xP:¬ Mine X P:=fun q=>by
  rcases hs.sx P q with e | e
  · exact h.m.off e
  · omega
 have xQ:¬ Mine X Q:=fun q=>by
  rcases hs.sx Q q with e | e
  · exact h.mq e
  · omega
 have dP:¬ MineC D P:=fun q=>by
  rcases hs.sd P q with e | e
  · exact h.cp e
  · omega
 have dQ:¬ MineC D Q:=fun q=>by
  rcases hs.sd Q q with e | e
  · exact h.c.off e
  · omega
 have m1:=k1.m.putM hs.ox xP
 have hh:∀ c,c≠P→(((V.setCell ⟨P,0,none⟩ (.slice X.fa X.frs.length X.fcap)).setCell ⟨P,1,none⟩ (.slice X.ea X.ens.length X.ecap)).setCell ⟨P,2,none⟩ (.slice X.qa X.qus.length X.qcap)).heap[c]? = V.heap[c]?:=fun c hc=>blk3_heap c hc
 have c1:CH W0.heap.size (((V.setCell ⟨P,0,none⟩ (.slice X.fa X.frs.length X.fcap)).setCell ⟨P,1,none⟩ (.slice X.ea X.ens.length X.ecap)).setCell ⟨P,2,none⟩ (.slice X.qa X.qus.length X.qcap)) Q C:=k1.c.keepH (fun c hc=>hh c (by rintro rfl;rcases hc with e | e;exact h.pq e;exact h.cp e)) (by simp [World.setCell])
 have d1:COwn W0.heap.size (((V.setCell ⟨P,0,none⟩ (.slice X.fa X.frs.length X.fcap)).setCell ⟨P,1,none⟩ (.slice X.ea X.ens.length X.ecap)).setCell ⟨P,2,none⟩ (.slice X.qa X.qus.length X.qcap)) D:=hs.od.keepC (fun c hc=>hh c (fun q=>dP (q▸hc)))
 have c2:=c1.put d1 dQ
 have m2:=(m1.far (c:=Q) (by rintro (q | q);exact h.pq q.symm;exact xQ q) 0 (.slice D.ta D.tr.length D.tcap)).far (c:=Q) (by rintro (q | q);exact h.pq q.symm;exact xQ q) 1 (.slice D.na D.ns.length D.ncap)
 refine ⟨m2,c2,xQ,dP,h.pq,k1.row.keepH (fun g hg=>?_),fun g hg=>⟨(h.ob g hg).1,(h.ob g hg).2.1,fun q=>?_,fun q=>?_⟩,?_,h.gp,h.gq⟩
 · rw [set_heap _ _ _ _ _ (h.ob g hg).2.1,set_heap _ _ _ _ _ (h.ob g hg).2.1]
   exact hh g (h.ob g hg).1
 · have:=(h.row.lt g hg).2
   rcases hs.sx g q with e | e
   · exact (h.ob g hg).2.2.1 e
   · omega
 · have:=(h.row.lt g hg).2
   rcases hs.sd g q with e | e
   · exact (h.ob g hg).2.2.2 e
   · omega
 · exact ((((k1.bel.setCell (p:=⟨P,0,none⟩) h.gp _).setCell (p:=⟨P,1,none⟩) h.gp _).setCell (p:=⟨P,2,none⟩) h.gp _).setCell (p:=⟨Q,0,none⟩) h.gq _).setCell (p:=⟨Q,1,none⟩) h.gq _
theorem sm_app {W0 U w' : World} {P Q:Nat} {v v' : Value} {xs:List (Int × Int)} {M:Mv} {C:Cv} {p:Int × Int} (h:SM W0 P Q v xs M C U) (ho:OwnsAn w' W0.heap.size v' (xs ++ [p])) (hg:U.grownBy w' v.ownBlock) (hv:∀ g',v'.ownBlock=some g'→v.ownBlock=some g'∨g' = U.heap.size):SM W0 P Q v' (xs ++ [p]) M C w':=by
 have kb:∀ c,(c=P∨c=Q∨Mine M c∨MineC C c)→w'.heap[c]? = U.heap[c]?:=fun c hc=>by
  refine hg.block c ?_ (fun e=>?_)
  · rcases hc with rfl | rfl | hc | hc
    · exact h.m.lt
    · exact h.c.lt
    · exact (Mine.fresh h.m.own hc).2
    · exact (MineC.fresh h.c.own hc).2
  · have:=h.ob c e.symm
    rcases hc with q | q | q | q
    · exact this.1 q
    · exact this.2.1 q
    · exact this.2.2.1 q
    · exact this.2.2.2 q
 refine ⟨h.m.keepH (fun c hc=>kb c (by rcases hc with q | q;exact .inl q;exact .inr (.inr (.inl q)))) hg.size,h.c.keepH (fun c hc=>kb c (by rcases hc with q | q;exact .inr (.inl q);exact .inr (.inr (.inr q)))) hg.size,h.mq,h.cp,h.pq,ho,fun g' hg'=>?_,h.bel.grown hg (Nat.le_trans h.bel.size (Nat.le_refl _)) (fun g hg2=>(h.row.lt g hg2).1),h.gp,h.gq⟩
 rcases hv g' hg' with e | e
 · exact h.ob g' e
 · subst e
   have:=h.m.lt
   have:=h.c.lt
   exact ⟨by omega,by omega,fun q=>by have:=(Mine.fresh h.m.own q).2;omega,fun q=>by have:=(MineC.fresh h.c.own q).2;omega⟩
theorem SM.keep {W0:World} {P Q:Nat} {v:Value} {xs:List (Int × Int)} {M:Mv} {C:Cv} {wr w' : World} (h:SM W0 P Q v xs M C wr) (hb:Below wr.heap.size wr w'):SM W0 P Q v xs M C w':=
 ⟨h.m.keep hb,h.c.keep hb,h.mq,h.cp,h.pq,h.row.keepH (fun g hg=>hb.block g (h.row.lt g hg).2),h.ob,h.bel.trans (hb.mono h.bel.size),h.gp,h.gq⟩
theorem sx_off {W0 wr V:World} {P Q:Nat} {s0:Hs} {l:List Ac} {k:Nat} {v:Value} {M:Mv} {C:Cv} {x:Ac} {G:Nat} {cc nn ee vv:Int} {X:Mv} {D:Cv} (h:SL W0 P Q s0 l k v M C wr) (hG:G=wr.heap.size) (hs:Sx W0 wr M C x G cc nn ee vv X D V) :
 ((G+1≠P∧¬ Mine X (G+1))∧(G+1≠Q∧¬ MineC D (G+1)))∧(¬ Mine M (G+1)∧¬ MineC C (G+1))∧(∀ g,v.ownBlock=some g→g≠G+1)∧W0.heap.size≤G+1:=by
 have h1:=h.m.lt
 have h2:=h.c.lt
 have h3:=h.bel.size
 have nM:¬ Mine M (G+1):=fun q=>by have:=(Mine.fresh h.m.own q).2;omega
 have nC:¬ MineC C (G+1):=fun q=>by have:=(MineC.fresh h.c.own q).2;omega
 refine ⟨⟨⟨by omega,fun q=>?_⟩,by omega,fun q=>?_⟩,⟨nM,nC⟩,fun g hg=>by have:=(h.row.lt g hg).2;omega,by omega⟩
 · rcases hs.sx _ q with e | e
   · exact nM e
   · omega
 · rcases hs.sd _ q with e | e
   · exact nC e
   · omega
theorem sl_next {W0 w' : World} {P Q:Nat} {s0:Hs} {l:List Ac} {k:Nat} {v v' : Value} {M X:Mv} {C D:Cv} {wr:World} {x:Ac} (h:SL W0 P Q s0 l k v M C wr) (hk:k<l.length) (hx:x=l.getD k default) (hX:X.Same (actM M C x)) (hD:D.Same (actD M C x))
 (hm:SM W0 P Q v' (hans s0 (l.take k) ++ [(actC M C x,actN M C x)]) X D w'):SL W0 P Q s0 l (k+1) v' X D w':=by
 subst hx
 have e1:=hst_next s0 l k hk
 have e2:hans s0 (l.take (k+1))=hans s0 (l.take k) ++ [(actC M C (l.getD k default),actN M C (l.getD k default))]:=by
  rw [List.take_add_one,List.getElem?_eq_getElem hk,Option.toList_some,hans_snoc,actC_same h.sm h.sc,actN_same h.sm h.sc]
  simp [List.getD_eq_getElem?_getD,hk]
 refine ⟨?_,?_,hm.m,hm.c,hm.mq,hm.cp,hm.pq,by rw [e2];exact hm.row,hm.ob,hm.bel,hm.gp,hm.gq⟩
 · rw [e1];exact hX.trans (actM_same (D:=(hst s0 (l.take k)).C) h.sm _)
 · rw [e1];exact hD.trans (actD_same h.sm h.sc _)
theorem ent_nd {M:Mv} {e word fuel:Int} (h:entF M e word fuel=0):entD M e word fuel=1∨entD M e word fuel=2∨entD M e word fuel=3:=by
 unfold entD entR;rw [if_pos h];exact runR_nd _ M _ 0 _ xorR
theorem res_nd {M:Mv} {e fuel:Int} (h:fuelF M e 3 fuel=0):resD M e fuel=1∨resD M e fuel=2∨resD M e fuel=3:=by
 unfold resD resR;rw [if_pos h];exact runR_nd _ M _ _ _ xorR
theorem ranN_end {nd v z:Int} (h:nd=1∨nd=2∨nd=3) (hz:z=0):ranN nd v z=if nd=1 then v else 0:=by
 unfold ranN
 rw [if_pos hz]
 rcases h with rfl | rfl | rfl<;>rfl
theorem ranC_end {nd z:Int} (hz:z=0):ranC nd z=endC nd:=by unfold ranC endC;rw [if_pos hz]
theorem ranz_no {nd v z:Int} (hz:¬ z=0):ranC nd z=z∧ranN nd v z=0:=by unfold ranC ranN;rw [if_neg hz,if_neg hz];exact ⟨rfl,rfl⟩
set_option maxHeartbeats 100000000 in
theorem script_ok (ta:Option Addr) (tr:List ByteArray) (tcap:Nat) (la:Option Addr) (l:List Ac) (lcap:Nat) (w:World) (hT:Texts w ta tr) (hTo:(⟨ta,tr,tcap,none,[],0⟩:Cv).Ok) (hfit:tr.length * 16≤140737488351232) (hl:RowsAt w 7 Ac.cells la l) (hlo:∀ x ∈ l,x.Ok) (ht:Tab w) (h0:chF tr []=0) (h2:l.length≤200) :
 Calls Tryz.prog 14 #[.slice ta tr.length tcap,.slice la l.length lcap] w (HostSaid tr l w):=by
 have hrF:runF tr l=0:=by unfold runF;rw [if_pos h0,if_neg (by omega)]
 unfold HostSaid
 rw [hrF]
 simp only [if_true]
 obtain ⟨W2,hW2⟩:∃ W2,Hid (W2=(w.alloc (.cells #[.slice none 0 0,.slice none 0 0,.slice none 0 0] 29)).alloc (.cells #[.slice none 0 0,.slice none 0 0] 32)):=⟨_,rfl⟩
 obtain ⟨bw,q1,q2⟩:=al2w w (.cells #[.slice none 0 0,.slice none 0 0,.slice none 0 0] 29) (.cells #[.slice none 0 0,.slice none 0 0] 32)
 have hz2:Hid (W2.heap.size=w.heap.size+2):=show _=_ by rw [hW2.out,World.size_alloc,World.size_alloc]
 rw [← hW2.out] at bw q1 q2
 have BW:Hid (_):=bw
 have QM:Hid (_):=q1
 have QC:Hid (_):=q2
 have HLO:Hid (∀ x ∈ l,x.Ok):=hlo
 have HL:Hid (RowsAt W2 7 Ac.cells la l):=RowsAt.below (cells:=Ac.cells) (fun _=>rfl) hl bw
 have HT2:Hid (Tab W2):=ht.below bw
 obtain ⟨ax,cx,w3,hrun,hown3,hb3⟩:=app_texts ta tr tcap (hT.below bw) hTo hfit
 obtain ⟨nl,hnl⟩:∃ nl,Hid (nl=l.length):=⟨_,rfl⟩
 rw [← hnl.out]
 rw [← hnl.out] at h2
 obtain ⟨W4,hW4⟩:∃ W4,Hid (W4=w3.alloc (.cells #[.slice ax tr.length cx,.slice none 0 0] 32)):=⟨_,rfl⟩
 obtain ⟨Q,hQ⟩:∃ Q,Hid (Q=w3.heap.size):=⟨_,rfl⟩
 have b34:Below w3.heap.size w3 W4:=by rw [hW4.out];exact (Below.refl _ _).alloc (Nat.le_refl _) _
 have CB4:Hid (CH W2.heap.size W4 Q ⟨ax,tr,cx,none,[],0⟩):=show CH _ _ _ _ from CH.of_block (t:=32) (hown3.below b34) (by rw [hW4.out,hQ.out];exact Go.Deep.blk_alloc_new _ _) (fun q=>by have h1:=(MineC.fresh hown3 q).2;have h2:=hQ.out;omega)
 have B24:Hid (Below W2.heap.size W2 W4):=show Below _ _ _ from hb3.trans (b34.mono hb3.size)
 have GQ:Hid (W2.heap.size≤Q):=show _≤_ by rw [hQ.out];exact hb3.size
 have hF:=faultC_any ⟨ax,tr,cx,none,[],0⟩ W4 CB4.out.own.at_
 unfold Cv.val at hF
 dsimp only [List.length_nil] at hF
 rw [h0] at hF
 have HR:Hid (_):=hrun
 clear hT hTo hfit hl hlo ht bw q1 q2 hown3 hb3 b34 hrun
 go_enter Tryz.func14,Tryz.ntmps14
 go_upto_region 1 with fail
 rw [← hW2.out]
 have hrun:=HR.out
 go_upto_region 2 with (at_builtin;refine wpList_append_eq rfl _ _ 22 rfl _ _ _ rfl rfl hrun ?_)
 rw [← hW4.out,← hQ.out]
 have k0:=CB4.out.c0
 have k1:=CB4.out.c1
 have lk:=CB4.out.lt
 dsimp only [List.length_nil] at k0 k1
 clear hW2 hW4 hQ hrun HR
 go_upto_region 3 with (go_at_call 44;refine hF.mono ?_;clear hF;rintro e w5 ⟨rfl,hb5⟩)
 have hnI:¬ (200:Int)<(nl:Int):=by omega
 have hM0:=machineOf_any w5
 clear k0 k1 lk
 go_upto_region 8 with (go_at_call 45;refine hM0.mono ?_;clear hM0;rintro e w6 ⟨N0,rfl,hN0,hO0,hb6⟩;unfold Mv.val)
 obtain ⟨W7,hW7⟩:∃ W7,Hid (W7=w6.alloc (.cells #[.slice N0.fa N0.frs.length N0.fcap,.slice N0.ea N0.ens.length N0.ecap,.slice N0.qa N0.qus.length N0.qcap] 29)):=⟨_,rfl⟩
 obtain ⟨P,hP⟩:∃ P,Hid (P=w6.heap.size):=⟨_,rfl⟩
 rw [← hW7.out,← hP.out]
 have b67:Below w6.heap.size w6 W7:=by rw [hW7.out];exact (Below.refl _ _).alloc (Nat.le_refl _) _
 have b47:Below W4.heap.size W4 W7:=(hb5.trans (hb6.mono hb5.size)).trans (b67.mono (Nat.le_trans hb5.size hb6.size))
 have g45:W2.heap.size≤w5.heap.size:=Nat.le_trans B24.out.size hb5.size
 have HSL:Hid (SL W2 P Q (hs0 tr) l 0 (.slice none 0 0) N0 ⟨ax,tr,cx,none,[],0⟩ W7):=show SL _ _ _ _ _ _ _ _ _ _ from by
  have hPs:=hP.out
  have hlt:=CB4.out.lt
  have s5:=hb5.size
  have s6:=hb6.size
  refine ⟨hN0,⟨rfl,rfl⟩,MBox.of_block (t:=29) ((hO0.mono g45).below b67) (by rw [hW7.out,hPs];exact Go.Deep.blk_alloc_new _ _) (fun q=>by have:=(Mine.fresh hO0 q).2;omega),CB4.out.keep b47,fun q=>by have:=(Mine.fresh hO0 q).1;omega,fun q=>by have:=(MineC.fresh CB4.out.own q).2;omega,by omega,World.ownsRow_nil _ _ _ _,(fun g hg=>by cases hg),B24.out.trans (b47.mono B24.out.size),by omega,GQ.out⟩
 have HIN:Hid (_):=And.intro HLO.out h2
 have H00:Hid (chF tr []=0):=h0
 clear hW7 hP hN0 hO0 hb5 hb6 b67 b47 g45 hnI h0
 go_upto_region 10 with fail
 go_loopw [11,12] (fun o i wr=>∃ (k:Nat) (v:Value) (M:Mv) (C:Cv),k≤nl∧i=.int .i64 k∧v=o∧SL W2 P Q (hs0 tr) l k v M C wr) (fun _ i _=>nl - (intOf i).toNat)
 case atStart=>exact ⟨0,_,_,_,Nat.zero_le _,rfl,rfl,HSL.out⟩
 case round =>
  obtain ⟨k,v,M,C,hk,rfl,rfl,hsl⟩:=hrel
  rename World=>wr
  have HSL2:Hid (_):=hsl
  by_cases hlt:k<nl
  · obtain ⟨x,hx⟩:∃ x,Hid (x=l.getD k default):=⟨_,rfl⟩
    have hkn:k<l.length:=by rw [← hnl.out];exact hlt
    have hxok:x.Ok:=by
     rw [hx.out,List.getD_eq_getElem?_getD,List.getElem?_eq_getElem hkn,Option.getD_some]
     exact HIN.out.1 _ (List.getElem_mem hkn)
    have HXO:Hid (x.Ok):=hxok
    obtain ⟨ab,ao,rfl,hrw⟩:∃ ab ao,la=some ⟨ab,ao,none⟩∧∀ j,j<l.length→∀ i,i<7→wr.cell? ⟨ab,ao+j * 7+i,none⟩=(Ac.cells (l.getD j default))[i]?:=by
     rcases RowsAt.below (cells:=Ac.cells) (fun _=>rfl) HL.out hsl.bel with e | ⟨ab,ao,e,h⟩
     · rw [e] at hkn;simp at hkn
     · exact ⟨ab,ao,e,h⟩
    have x0:wr.cell? ⟨ab,ao+k * 7,none⟩=some (.int .i64 x.k):=by rw [hx.out];exact hrw k hkn 0 (by omega)
    have x1:wr.cell? ⟨ab,ao+k * 7+1,none⟩=some (.int .i64 x.e):=by rw [hx.out];exact hrw k hkn 1 (by omega)
    have x2:wr.cell? ⟨ab,ao+k * 7+2,none⟩=some (.int .i64 x.f):=by rw [hx.out];exact hrw k hkn 2 (by omega)
    have x3:wr.cell? ⟨ab,ao+k * 7+3,none⟩=some (.int .i64 x.at_):=by rw [hx.out];exact hrw k hkn 3 (by omega)
    have x4:wr.cell? ⟨ab,ao+k * 7+4,none⟩=some (.int .i64 x.r):=by rw [hx.out];exact hrw k hkn 4 (by omega)
    have x5:wr.cell? ⟨ab,ao+k * 7+5,none⟩=some (.int .i64 x.n):=by rw [hx.out];exact hrw k hkn 5 (by omega)
    have x6:wr.cell? ⟨ab,ao+k * 7+6,none⟩=some (.int .i64 x.fuel):=by rw [hx.out];exact hrw k hkn 6 (by omega)
    have lx:=lt_of_cell x0
    have p0:=hsl.m.c0
    have p1:=hsl.m.c1
    have p2:=hsl.m.c2
    have lp:=hsl.m.lt
    have hkI:(k:Int)<(nl:Int):=by omega
    have hk0:(0:Int)≤(k:Int):=by omega
    clear hsl hrw hkn hxok
    go_upto_region 16 with fail
    obtain ⟨G,hG⟩:∃ G,Hid (G=wr.heap.size):=⟨_,rfl⟩
    obtain ⟨U4,hU4⟩:∃ U4,Hid (U4=((((wr.alloc (.cells #[.int .i64 x.k,.int .i64 x.e,.int .i64 x.f,.int .i64 x.at_,.int .i64 x.r,.int .i64 x.n,.int .i64 x.fuel] 68)).alloc (.cells #[.int .i64 0,.int .i64 0] 39)).alloc (.cells #[.slice M.fa M.frs.length M.fcap,.slice M.ea M.ens.length M.ecap,.slice M.qa M.qus.length M.qcap] 29)).alloc (.cells #[.int .i64 0,.int .i64 0] 47))):=⟨_,rfl⟩
    rw [← hU4.out,← hG.out]
    have hA4:U4=allocs [.cells #[.int .i64 x.k,.int .i64 x.e,.int .i64 x.f,.int .i64 x.at_,.int .i64 x.r,.int .i64 x.n,.int .i64 x.fuel] 68,.cells #[.int .i64 0,.int .i64 0] 39,.cells #[.slice M.fa M.frs.length M.fcap,.slice M.ea M.ens.length M.ecap,.slice M.qa M.qus.length M.qcap] 29,.cells #[.int .i64 0,.int .i64 0] 47] wr:=hU4.out
    have B4:Hid (Below wr.heap.size wr U4):=show Below _ _ _ by rw [hA4];exact allocs_below _ _ _ _ (Below.refl _ _) (Nat.le_refl _)
    have Z4:Hid (U4.heap.size=G+1+1+1+1):=show _=_ by rw [hA4,allocs_size,hG.out];rfl
    have a0:U4.heap[G]? = some (.cells #[.int .i64 x.k,.int .i64 x.e,.int .i64 x.f,.int .i64 x.at_,.int .i64 x.r,.int .i64 x.n,.int .i64 x.fuel] 68 (0,0)):=by rw [hA4,hG.out];exact allocs_at _ wr 0 _ rfl
    have a1:U4.heap[G+1]? = some (.cells #[.int .i64 0,.int .i64 0] 39 (0,0)):=by rw [hA4,hG.out];exact allocs_at _ wr 1 _ rfl
    have a2:U4.heap[G+1+1]? = some (.cells #[.slice M.fa M.frs.length M.fcap,.slice M.ea M.ens.length M.ecap,.slice M.qa M.qus.length M.qcap] 29 (0,0)):=by rw [hA4,hG.out];exact allocs_at _ wr 2 _ rfl
    have a3:U4.heap[G+1+1+1]? = some (.cells #[.int .i64 0,.int .i64 0] 47 (0,0)):=by rw [hA4,hG.out];exact allocs_at _ wr 3 _ rfl
    have A03:Hid (_):=And.intro a0 (And.intro a1 (And.intro a2 a3))
    clear a0 a1 a2 a3 hA4 hU4 p0 p1 p2 lp x0 x1 x2 x3 x4 x5 x6 lx
    have e0:=(HSL2.out.keep B4.out).c.c0
    have e1:=(HSL2.out.keep B4.out).c.c1
    have le:=(HSL2.out.keep B4.out).c.lt
    go_upto_region 17 with fail
    rw [Z4.out]
    obtain ⟨W5,hW5⟩:∃ W5,Hid (W5=U4.alloc (.cells #[.slice C.ta C.tr.length C.tcap,.slice C.na C.ns.length C.ncap] 32)):=⟨_,rfl⟩
    rw [← hW5.out]
    have b45:Below U4.heap.size U4 W5:=by rw [hW5.out];exact (Below.refl _ _).alloc (Nat.le_refl _) _
    have a4:W5.heap[G+1+1+1+1]? = some (.cells #[.slice C.ta C.tr.length C.tcap,.slice C.na C.ns.length C.ncap] 32 (0,0)):=by rw [hW5.out,← Z4.out];exact Go.Deep.blk_alloc_new _ _
    have Z5:Hid (W5.heap.size=G+5):=show _=_ by rw [hW5.out,World.size_alloc,Z4.out]
    have z4:=Z4.out
    have a0:=(b45.block G (by omega)).trans A03.out.1
    have a1:=(b45.block (G+1) (by omega)).trans A03.out.2.1
    have a2:=(b45.block (G+1+1) (by omega)).trans A03.out.2.2.1
    have a3:=(b45.block (G+1+1+1) (by omega)).trans A03.out.2.2.2
    have B5:Hid (Below wr.heap.size wr W5):=show Below _ _ _ from B4.out.trans (b45.mono B4.out.size)
    have CX5:Hid (Cx W5 G 0 0 0 0 M C):=show Cx _ _ _ _ _ _ _ _ from by
     refine ⟨by simp [World.cell?,a1],by simp [World.cell?,a1],by simp [World.cell?,a2],by simp [World.cell?,a2],by simp [World.cell?,a2],by simp [World.cell?,a3],by simp [World.cell?,a3],by simp [World.cell?,a4],by simp [World.cell?,a4],fun c o h1 h2=>?_,by rw [Z5.out];exact Nat.le_refl _⟩
     rcases (show c=G+1∨c=G+1+1∨c=G+1+1+1∨c=G+1+1+1+1 by omega) with rfl | rfl | rfl | rfl
     · simp [World.frozen?,a1]
     · simp [World.frozen?,a2]
     · simp [World.frozen?,a3]
     · simp [World.frozen?,a4]
    have y0:W5.cell? ⟨G,0,none⟩=some (.int .i64 x.k):=by simp [World.cell?,a0]
    have y1:W5.cell? ⟨G,1,none⟩=some (.int .i64 x.e):=by simp [World.cell?,a0]
    have y2:W5.cell? ⟨G,2,none⟩=some (.int .i64 x.f):=by simp [World.cell?,a0]
    have y3:W5.cell? ⟨G,3,none⟩=some (.int .i64 x.at_):=by simp [World.cell?,a0]
    have y4:W5.cell? ⟨G,4,none⟩=some (.int .i64 x.r):=by simp [World.cell?,a0]
    have y5:W5.cell? ⟨G,5,none⟩=some (.int .i64 x.n):=by simp [World.cell?,a0]
    have y6:W5.cell? ⟨G,6,none⟩=some (.int .i64 x.fuel):=by simp [World.cell?,a0]
    have Y0:Hid (_):=And.intro y0 (And.intro y1 (And.intro y2 (And.intro y3 (And.intro y4 (And.intro y5 y6)))))
    have lG:G<W5.heap.size:=by rw [Z5.out];omega
    have LG:Hid (_):=lG
    clear a0 a1 a2 a3 a4 b45 z4 A03 hW5 e0 e1 le y1 y2 y3 y4 y5 y6
    have SL5:Hid (_):=HSL2.out.keep B5.out
    have hgd:=hst_good (hs0 tr) (l.take k) new_good H00.out
    have HFI:Hid (M.Fits∧C.Fits):=⟨fits_goodH hgd.1 HSL2.out.sm,fits_chF hgd.2 HSL2.out.sc⟩
    clear hgd
    have z5:=Z5.out
    go_cut [51] from 36 to 222 (fun s wx=>s=.int .i64 x.k∧wx=W5)
    case first =>
     go_wp2
     go_meet
     exact ⟨rfl,rfl⟩
    case rest =>
    obtain ⟨rfl,hwx⟩:=hcut
    rw [hwx]
    clear hwx y0
    go_upto_block 2 with fail
    go_cut [] from 36 to 222 (fun V=>∃ cc nn ee vv X D,Sx W2 wr M C x G cc nn ee vv X D V)
    case first =>
     by_cases k1:x.k=1
     · as_aux_lemma =>
        have t1:(x.k == 1)=true:=by simpa using k1
        have eC:actC M C x=creF M:=by unfold actC;rw [k1];rfl
        have eN:actN M C x=creN M:=by unfold actN;rw [k1];rfl
        have eM:actM M C x=if creF M=0 then creM M else M:=by unfold actM;rw [k1];rfl
        have eD:actD M C x=C:=by unfold actD;rw [k1];rfl
        obtain ⟨z,hz⟩:∃ z,Hid (z=creF M):=⟨_,rfl⟩
        have hc:=created_any M W5 SL5.out.m.own.at_ HFI.out.1
        obtain ⟨n9,hn9⟩:∃ n9,Hid (n9=creN M):=⟨_,rfl⟩
        rw [← hn9.out] at hc eN
        rw [← hz.out] at hc eC eM
        unfold Mv.val at hc
        have p0:=SL5.out.m.c0
        have p1:=SL5.out.m.c1
        have p2:=SL5.out.m.c2
        have lp:=SL5.out.m.lt
        go_wp2_with (go_at_call 46;refine hc.mono ?_;clear hc;rintro e w6 ⟨N,rfl,hN,hO,hb6⟩;(have CX6:Hid (Cx w6 G 0 0 0 0 M C):=CX5.out.keep hb6);(have HB6:Hid (_):=hb6);(have b0:=CX6.out.a0);(have fb0:=CX6.out.fz (G+1) 0 (by omega) (by omega));(have b1:=CX6.out.a1);(have fb1:=CX6.out.fz (G+1) 1 (by omega) (by omega));(have m0:=CX6.out.x0);(have m1:=CX6.out.x1);(have m2:=CX6.out.x2);(have fm0:=CX6.out.fz (G+1+1) 0 (by omega) (by omega));(have fm1:=CX6.out.fz (G+1+1) 1 (by omega) (by omega));(have fm2:=CX6.out.fz (G+1+1) 2 (by omega) (by omega));(have ls:=CX6.out.sz);(have l1:G+1<w6.heap.size:=by omega);(have l2:G+1+1<w6.heap.size:=by omega);(have l3:G+1+1+1<w6.heap.size:=by omega);(have l4:G+1+1+1+1<w6.heap.size:=by omega);(clear p0 p1 p2 lp))
        go_meet
        have hcx:=(((CX6.out.next N).num n9).code z)
        refine ⟨_,_,_,_,_,_,sx_mk HSL2.out hG.out Z5.out B5.out HB6.out ?_ hcx (.inr hO) (.inl rfl) ?_ ?_⟩
        · repeat (first | (with_reducible exact Set5.refl _ _) | (with_reducible refine Set5.set ?_ ⟨by omega,by omega⟩ _ _))
        · intro h;exact ⟨(by rw [eM,if_pos h];exact hN),(by rw [eD];exact Cv.Same.refl _),(eC.trans (h.trans rfl)),(eN.trans rfl)⟩
        · intro h;exact ⟨eC,(eN.trans (by rw [hn9.out];unfold creN;rw [if_neg (by rw [← hz.out];exact h)])),(by rw [eM,if_neg h]),eD⟩
     · by_cases k2:x.k=2
       · as_aux_lemma =>
          have t1:(x.k == 1)=false:=by simpa using k1
          have t2:(x.k == 2)=true:=by simpa using k2
          have eC:actC M C x=putF M x.e x.f x.at_ x.r:=by unfold actC;rw [k2];rfl
          have eN:actN M C x=0:=by unfold actN;rw [k2];rfl
          have eM:actM M C x=if putF M x.e x.f x.at_ x.r=0 then putM M x.e x.f x.at_ x.r else M:=by unfold actM;rw [k2];rfl
          have eD:actD M C x=C:=by unfold actD;rw [k2];rfl
          obtain ⟨z,hz⟩:∃ z,Hid (z=putF M x.e x.f x.at_ x.r):=⟨_,rfl⟩
          have hc:=putOf_any M x.e x.f x.at_ x.r W5 SL5.out.m.own.at_ HFI.out.1 HXO.out.wat HXO.out.wr
          rw [← hz.out] at hc eC eM
          unfold Mv.val at hc
          have p0:=SL5.out.m.c0
          have p1:=SL5.out.m.c1
          have p2:=SL5.out.m.c2
          have lp:=SL5.out.m.lt
          have y1:=Y0.out.2.1
          have y2:=Y0.out.2.2.1
          have y3:=Y0.out.2.2.2.1
          have y4:=Y0.out.2.2.2.2.1
          go_wp2_with (go_at_call 47;refine hc.mono ?_;clear hc;rintro e w6 ⟨N,rfl,hN,hO,hb6⟩;(have CX6:Hid (Cx w6 G 0 0 0 0 M C):=CX5.out.keep hb6);(have HB6:Hid (_):=hb6);(have b0:=CX6.out.a0);(have fb0:=CX6.out.fz (G+1) 0 (by omega) (by omega));(have m0:=CX6.out.x0);(have m1:=CX6.out.x1);(have m2:=CX6.out.x2);(have fm0:=CX6.out.fz (G+1+1) 0 (by omega) (by omega));(have fm1:=CX6.out.fz (G+1+1) 1 (by omega) (by omega));(have fm2:=CX6.out.fz (G+1+1) 2 (by omega) (by omega));(have ls:=CX6.out.sz);(have l1:G+1<w6.heap.size:=by omega);(have l2:G+1+1<w6.heap.size:=by omega);(have l3:G+1+1+1<w6.heap.size:=by omega);(have l4:G+1+1+1+1<w6.heap.size:=by omega);(clear p0 p1 p2 lp y1 y2 y3 y4))
          go_meet
          have hcx:=((CX6.out.next N).code z)
          refine ⟨_,_,_,_,_,_,sx_mk HSL2.out hG.out Z5.out B5.out HB6.out ?_ hcx (.inr hO) (.inl rfl) ?_ ?_⟩
          · repeat (first | (with_reducible exact Set5.refl _ _) | (with_reducible refine Set5.set ?_ ⟨by omega,by omega⟩ _ _))
          · intro h;exact ⟨(by rw [eM,if_pos h];exact hN),(by rw [eD];exact Cv.Same.refl _),(eC.trans (h.trans rfl)),(eN.trans rfl)⟩
          · intro h;exact ⟨eC,eN,(by rw [eM,if_neg h]),eD⟩
       · by_cases k3:x.k=3
         · as_aux_lemma =>
            have t1:(x.k == 1)=false:=by simpa using k1
            have t2:(x.k == 2)=false:=by simpa using k2
            have t3:(x.k == 3)=true:=by simpa using k3
            have eC:actC M C x=meaF M x.e x.at_:=by unfold actC;rw [k3];rfl
            have eN:actN M C x=0:=by unfold actN;rw [k3];rfl
            have eM:actM M C x=if meaF M x.e x.at_=0 then meaM M x.e x.at_ else M:=by unfold actM;rw [k3];rfl
            have eD:actD M C x=C:=by unfold actD;rw [k3];rfl
            obtain ⟨z,hz⟩:∃ z,Hid (z=meaF M x.e x.at_):=⟨_,rfl⟩
            have hc:=measOf_any M x.e x.at_ W5 SL5.out.m.own.at_ HFI.out.1 HXO.out.wat
            rw [← hz.out] at hc eC eM
            unfold Mv.val at hc
            have p0:=SL5.out.m.c0
            have p1:=SL5.out.m.c1
            have p2:=SL5.out.m.c2
            have lp:=SL5.out.m.lt
            have y1:=Y0.out.2.1
            have y3:=Y0.out.2.2.2.1
            go_wp2_with (go_at_call 48;refine hc.mono ?_;clear hc;rintro e w6 ⟨N,rfl,hN,hO,hb6⟩;(have CX6:Hid (Cx w6 G 0 0 0 0 M C):=CX5.out.keep hb6);(have HB6:Hid (_):=hb6);(have b0:=CX6.out.a0);(have fb0:=CX6.out.fz (G+1) 0 (by omega) (by omega));(have m0:=CX6.out.x0);(have m1:=CX6.out.x1);(have m2:=CX6.out.x2);(have fm0:=CX6.out.fz (G+1+1) 0 (by omega) (by omega));(have fm1:=CX6.out.fz (G+1+1) 1 (by omega) (by omega));(have fm2:=CX6.out.fz (G+1+1) 2 (by omega) (by omega));(have ls:=CX6.out.sz);(have l1:G+1<w6.heap.size:=by omega);(have l2:G+1+1<w6.heap.size:=by omega);(have l3:G+1+1+1<w6.heap.size:=by omega);(have l4:G+1+1+1+1<w6.heap.size:=by omega);(clear p0 p1 p2 lp y1 y3))
            go_meet
            have hcx:=((CX6.out.next N).code z)
            refine ⟨_,_,_,_,_,_,sx_mk HSL2.out hG.out Z5.out B5.out HB6.out ?_ hcx (.inr hO) (.inl rfl) ?_ ?_⟩
            · repeat (first | (with_reducible exact Set5.refl _ _) | (with_reducible refine Set5.set ?_ ⟨by omega,by omega⟩ _ _))
            · intro h;exact ⟨(by rw [eM,if_pos h];exact hN),(by rw [eD];exact Cv.Same.refl _),(eC.trans (h.trans rfl)),(eN.trans rfl)⟩
            · intro h;exact ⟨eC,eN,(by rw [eM,if_neg h]),eD⟩
         · by_cases k4:x.k=4
           · as_aux_lemma =>
              have t1:(x.k == 1)=false:=by simpa using k1
              have t2:(x.k == 2)=false:=by simpa using k2
              have t3:(x.k == 3)=false:=by simpa using k3
              have t4:(x.k == 4)=true:=by simpa using k4
              have eC:actC M C x=askF M x.e 1:=by unfold actC;rw [k4];rfl
              have eN:actN M C x=0:=by unfold actN;rw [k4];rfl
              have eM:actM M C x=if askF M x.e 1=0 then startM M x.e else M:=by unfold actM;rw [k4];rfl
              have eD:actD M C x=C:=by unfold actD;rw [k4];rfl
              obtain ⟨z,hz⟩:∃ z,Hid (z=askF M x.e 1):=⟨_,rfl⟩
              have hc:=started_any M x.e W5 SL5.out.m.own.at_ HFI.out.1
              rw [← hz.out] at hc eC eM
              unfold Mv.val at hc
              have p0:=SL5.out.m.c0
              have p1:=SL5.out.m.c1
              have p2:=SL5.out.m.c2
              have lp:=SL5.out.m.lt
              have y1:=Y0.out.2.1
              go_wp2_with (go_at_call 49;refine hc.mono ?_;clear hc;rintro e w6 ⟨N,rfl,hN,hO,hb6⟩;(have CX6:Hid (Cx w6 G 0 0 0 0 M C):=CX5.out.keep hb6);(have HB6:Hid (_):=hb6);(have b0:=CX6.out.a0);(have fb0:=CX6.out.fz (G+1) 0 (by omega) (by omega));(have m0:=CX6.out.x0);(have m1:=CX6.out.x1);(have m2:=CX6.out.x2);(have fm0:=CX6.out.fz (G+1+1) 0 (by omega) (by omega));(have fm1:=CX6.out.fz (G+1+1) 1 (by omega) (by omega));(have fm2:=CX6.out.fz (G+1+1) 2 (by omega) (by omega));(have ls:=CX6.out.sz);(have l1:G+1<w6.heap.size:=by omega);(have l2:G+1+1<w6.heap.size:=by omega);(have l3:G+1+1+1<w6.heap.size:=by omega);(have l4:G+1+1+1+1<w6.heap.size:=by omega);(clear p0 p1 p2 lp y1))
              go_meet
              have hcx:=((CX6.out.next N).code z)
              refine ⟨_,_,_,_,_,_,sx_mk HSL2.out hG.out Z5.out B5.out HB6.out ?_ hcx (.inr hO) (.inl rfl) ?_ ?_⟩
              · repeat (first | (with_reducible exact Set5.refl _ _) | (with_reducible refine Set5.set ?_ ⟨by omega,by omega⟩ _ _))
              · intro h;exact ⟨(by rw [eM,if_pos h];exact hN),(by rw [eD];exact Cv.Same.refl _),(eC.trans (h.trans rfl)),(eN.trans rfl)⟩
              · intro h;exact ⟨eC,eN,(by rw [eM,if_neg h]),eD⟩
           · by_cases k5:x.k=5
             · as_aux_lemma =>
                have t1:(x.k == 1)=false:=by simpa using k1
                have t2:(x.k == 2)=false:=by simpa using k2
                have t3:(x.k == 3)=false:=by simpa using k3
                have t4:(x.k == 4)=false:=by simpa using k4
                have t5:(x.k == 5)=true:=by simpa using k5
                have eC:actC M C x=askF M x.e (-1):=by unfold actC;rw [k5];rfl
                have eN:actN M C x=0:=by unfold actN;rw [k5];rfl
                have eM:actM M C x=if askF M x.e (-1)=0 then remM M x.e else M:=by unfold actM;rw [k5];rfl
                have eD:actD M C x=C:=by unfold actD;rw [k5];rfl
                obtain ⟨z,hz⟩:∃ z,Hid (z=askF M x.e (-1)):=⟨_,rfl⟩
                have hc:=removed_any M x.e W5 SL5.out.m.own.at_ HFI.out.1
                rw [← hz.out] at hc eC eM
                unfold Mv.val at hc
                have p0:=SL5.out.m.c0
                have p1:=SL5.out.m.c1
                have p2:=SL5.out.m.c2
                have lp:=SL5.out.m.lt
                have y1:=Y0.out.2.1
                go_wp2_with (go_at_call 50;refine hc.mono ?_;clear hc;rintro e w6 ⟨N,rfl,hN,hO,hb6⟩;(have CX6:Hid (Cx w6 G 0 0 0 0 M C):=CX5.out.keep hb6);(have HB6:Hid (_):=hb6);(have b0:=CX6.out.a0);(have fb0:=CX6.out.fz (G+1) 0 (by omega) (by omega));(have m0:=CX6.out.x0);(have m1:=CX6.out.x1);(have m2:=CX6.out.x2);(have fm0:=CX6.out.fz (G+1+1) 0 (by omega) (by omega));(have fm1:=CX6.out.fz (G+1+1) 1 (by omega) (by omega));(have fm2:=CX6.out.fz (G+1+1) 2 (by omega) (by omega));(have ls:=CX6.out.sz);(have l1:G+1<w6.heap.size:=by omega);(have l2:G+1+1<w6.heap.size:=by omega);(have l3:G+1+1+1<w6.heap.size:=by omega);(have l4:G+1+1+1+1<w6.heap.size:=by omega);(clear p0 p1 p2 lp y1))
                go_meet
                have hcx:=((CX6.out.next N).code z)
                refine ⟨_,_,_,_,_,_,sx_mk HSL2.out hG.out Z5.out B5.out HB6.out ?_ hcx (.inr hO) (.inl rfl) ?_ ?_⟩
                · repeat (first | (with_reducible exact Set5.refl _ _) | (with_reducible refine Set5.set ?_ ⟨by omega,by omega⟩ _ _))
                · intro h;exact ⟨(by rw [eM,if_pos h];exact hN),(by rw [eD];exact Cv.Same.refl _),(eC.trans (h.trans rfl)),(eN.trans rfl)⟩
                · intro h;exact ⟨eC,eN,(by rw [eM,if_neg h]),eD⟩
             · by_cases k6:x.k=6
               · as_aux_lemma =>
                  have t1:(x.k == 1)=false:=by simpa using k1
                  have t2:(x.k == 2)=false:=by simpa using k2
                  have t3:(x.k == 3)=false:=by simpa using k3
                  have t4:(x.k == 4)=false:=by simpa using k4
                  have t5:(x.k == 5)=false:=by simpa using k5
                  have t6:(x.k == 6)=true:=by simpa using k6
                  have eC:actC M C x=wordF M x.f x.at_:=by unfold actC;rw [k6];rfl
                  have eN:actN M C x=peekN M x.f x.at_:=by unfold actN;rw [k6];rfl
                  have eM:actM M C x=M:=by unfold actM;rw [k6];rfl
                  have eD:actD M C x=C:=by unfold actD;rw [k6];rfl
                  obtain ⟨z,hz⟩:∃ z,Hid (z=wordF M x.f x.at_):=⟨_,rfl⟩
                  have hc:=peekedOf_any M x.f x.at_ W5 SL5.out.m.own.at_
                  obtain ⟨n9,hn9⟩:∃ n9,Hid (n9=peekN M x.f x.at_):=⟨_,rfl⟩
                  rw [← hn9.out] at hc eN
                  rw [← hz.out] at hc eC
                  unfold Mv.val at hc
                  have p0:=SL5.out.m.c0
                  have p1:=SL5.out.m.c1
                  have p2:=SL5.out.m.c2
                  have lp:=SL5.out.m.lt
                  have y2:=Y0.out.2.2.1
                  have y3:=Y0.out.2.2.2.1
                  go_wp2_with (go_at_call 51;refine hc.mono ?_;clear hc;rintro e w6 ⟨rfl,hb6⟩;(have CX6:Hid (Cx w6 G 0 0 0 0 M C):=CX5.out.keep hb6);(have HB6:Hid (_):=hb6);(have b0:=CX6.out.a0);(have fb0:=CX6.out.fz (G+1) 0 (by omega) (by omega));(have b1:=CX6.out.a1);(have fb1:=CX6.out.fz (G+1) 1 (by omega) (by omega));(have ls:=CX6.out.sz);(have l1:G+1<w6.heap.size:=by omega);(have l2:G+1+1<w6.heap.size:=by omega);(have l3:G+1+1+1<w6.heap.size:=by omega);(have l4:G+1+1+1+1<w6.heap.size:=by omega);(clear p0 p1 p2 lp y2 y3))
                  go_meet
                  have hcx:=((CX6.out.num n9).code z)
                  refine ⟨_,_,_,_,_,_,sx_mk HSL2.out hG.out Z5.out B5.out HB6.out ?_ hcx (.inl rfl) (.inl rfl) ?_ ?_⟩
                  · repeat (first | (with_reducible exact Set5.refl _ _) | (with_reducible refine Set5.set ?_ ⟨by omega,by omega⟩ _ _))
                  · intro h;exact ⟨(by rw [eM];exact Mv.Same.refl _),(by rw [eD];exact Cv.Same.refl _),(eC.trans (h.trans rfl)),(eN.trans rfl)⟩
                  · intro h;exact ⟨eC,(eN.trans (by rw [hn9.out];unfold peekN;rw [if_neg (by rw [← hz.out];exact h)])),eM,eD⟩
               · by_cases k7:x.k=7
                 · as_aux_lemma =>
                    have t1:(x.k == 1)=false:=by simpa using k1
                    have t2:(x.k == 2)=false:=by simpa using k2
                    have t3:(x.k == 3)=false:=by simpa using k3
                    have t4:(x.k == 4)=false:=by simpa using k4
                    have t5:(x.k == 5)=false:=by simpa using k5
                    have t6:(x.k == 6)=false:=by simpa using k6
                    have t7:(x.k == 7)=true:=by simpa using k7
                    have eC:actC M C x=pokeF M x.f x.at_ x.n:=by unfold actC;rw [k7];rfl
                    have eN:actN M C x=0:=by unfold actN;rw [k7];rfl
                    have eM:actM M C x=if pokeF M x.f x.at_ x.n=0 then pokeM M x.f x.at_ x.n else M:=by unfold actM;rw [k7];rfl
                    have eD:actD M C x=C:=by unfold actD;rw [k7];rfl
                    obtain ⟨z,hz⟩:∃ z,Hid (z=pokeF M x.f x.at_ x.n):=⟨_,rfl⟩
                    have hc:=poked_any M x.f x.at_ x.n W5 SL5.out.m.own.at_ HFI.out.1 HXO.out.wn
                    rw [← hz.out] at hc eC eM
                    unfold Mv.val at hc
                    have p0:=SL5.out.m.c0
                    have p1:=SL5.out.m.c1
                    have p2:=SL5.out.m.c2
                    have lp:=SL5.out.m.lt
                    have y2:=Y0.out.2.2.1
                    have y3:=Y0.out.2.2.2.1
                    have y5:=Y0.out.2.2.2.2.2.1
                    go_wp2_with (go_at_call 52;refine hc.mono ?_;clear hc;rintro e w6 ⟨N,rfl,hN,hO,hb6⟩;(have CX6:Hid (Cx w6 G 0 0 0 0 M C):=CX5.out.keep hb6);(have HB6:Hid (_):=hb6);(have b0:=CX6.out.a0);(have fb0:=CX6.out.fz (G+1) 0 (by omega) (by omega));(have m0:=CX6.out.x0);(have m1:=CX6.out.x1);(have m2:=CX6.out.x2);(have fm0:=CX6.out.fz (G+1+1) 0 (by omega) (by omega));(have fm1:=CX6.out.fz (G+1+1) 1 (by omega) (by omega));(have fm2:=CX6.out.fz (G+1+1) 2 (by omega) (by omega));(have ls:=CX6.out.sz);(have l1:G+1<w6.heap.size:=by omega);(have l2:G+1+1<w6.heap.size:=by omega);(have l3:G+1+1+1<w6.heap.size:=by omega);(have l4:G+1+1+1+1<w6.heap.size:=by omega);(clear p0 p1 p2 lp y2 y3 y5))
                    go_meet
                    have hcx:=((CX6.out.next N).code z)
                    refine ⟨_,_,_,_,_,_,sx_mk HSL2.out hG.out Z5.out B5.out HB6.out ?_ hcx (.inr hO) (.inl rfl) ?_ ?_⟩
                    · repeat (first | (with_reducible exact Set5.refl _ _) | (with_reducible refine Set5.set ?_ ⟨by omega,by omega⟩ _ _))
                    · intro h;exact ⟨(by rw [eM,if_pos h];exact hN),(by rw [eD];exact Cv.Same.refl _),(eC.trans (h.trans rfl)),(eN.trans rfl)⟩
                    · intro h;exact ⟨eC,eN,(by rw [eM,if_neg h]),eD⟩
                 · by_cases k8:x.k=8
                   · as_aux_lemma =>
                      have t1:(x.k == 1)=false:=by simpa using k1
                      have t2:(x.k == 2)=false:=by simpa using k2
                      have t3:(x.k == 3)=false:=by simpa using k3
                      have t4:(x.k == 4)=false:=by simpa using k4
                      have t5:(x.k == 5)=false:=by simpa using k5
                      have t6:(x.k == 6)=false:=by simpa using k6
                      have t7:(x.k == 7)=false:=by simpa using k7
                      have t8:(x.k == 8)=true:=by simpa using k8
                      have eC:actC M C x=ranC (entD M x.e x.n x.fuel) (entF M x.e x.n x.fuel):=by unfold actC;rw [k8];rfl
                      have eN:actN M C x=ranN (entD M x.e x.n x.fuel) (entV M x.e x.n x.fuel) (entF M x.e x.n x.fuel):=by unfold actN;rw [k8];rfl
                      have eM:actM M C x=if entF M x.e x.n x.fuel=0 then entM M x.e x.n x.fuel else M:=by unfold actM;rw [k8];rfl
                      have eD:actD M C x=C:=by unfold actD;rw [k8];rfl
                      obtain ⟨z,hz⟩:∃ z,Hid (z=entF M x.e x.n x.fuel):=⟨_,rfl⟩
                      have hc:=enteredOf_any M x.e x.n x.fuel W5 SL5.out.m.own.at_ HFI.out.1
                      unfold RunSaid at hc
                      obtain ⟨nd,hnd⟩:∃ nd,Hid (nd=entD M x.e x.n x.fuel):=⟨_,rfl⟩
                      obtain ⟨vv,hvv⟩:∃ vv,Hid (vv=entV M x.e x.n x.fuel):=⟨_,rfl⟩
                      rw [← hnd.out,← hvv.out] at hc
                      rw [← hnd.out] at eC
                      rw [← hnd.out,← hvv.out] at eN
                      have hrn:z≠0→ranC nd z=z∧ranN nd vv z=0:=ranz_no (nd:=nd) (v:=vv) (z:=z)
                      have hnd3:z=0→nd=1∨nd=2∨nd=3:=fun h=>by rw [hnd.out];exact ent_nd (hz.out.symm.trans h)
                      rw [← hz.out] at hc eC eM eN
                      unfold Mv.val at hc
                      have p0:=SL5.out.m.c0
                      have p1:=SL5.out.m.c1
                      have p2:=SL5.out.m.c2
                      have lp:=SL5.out.m.lt
                      have y1:=Y0.out.2.1
                      have y5:=Y0.out.2.2.2.2.2.1
                      have y6:=Y0.out.2.2.2.2.2.2
                      go_wp2_with (go_at_call 53;refine hc.mono ?_;clear hc;rintro e w6 ⟨N,rfl,hN,hO,hb6⟩;(have CX6:Hid (Cx w6 G 0 0 0 0 M C):=CX5.out.keep hb6);(have HB6:Hid (_):=hb6);(have b0:=CX6.out.a0);(have fb0:=CX6.out.fz (G+1) 0 (by omega) (by omega));(have m0:=CX6.out.x0);(have m1:=CX6.out.x1);(have m2:=CX6.out.x2);(have fm0:=CX6.out.fz (G+1+1) 0 (by omega) (by omega));(have fm1:=CX6.out.fz (G+1+1) 1 (by omega) (by omega));(have fm2:=CX6.out.fz (G+1+1) 2 (by omega) (by omega));(have o0:=CX6.out.o0);(have o1:=CX6.out.o1);(have fo0:=CX6.out.fz (G+1+1+1) 0 (by omega) (by omega));(have fo1:=CX6.out.fz (G+1+1+1) 1 (by omega) (by omega));(have ls:=CX6.out.sz);(have l1:G+1<w6.heap.size:=by omega);(have l2:G+1+1<w6.heap.size:=by omega);(have l3:G+1+1+1<w6.heap.size:=by omega);(have l4:G+1+1+1+1<w6.heap.size:=by omega);(clear p0 p1 p2 lp y1 y5 y6))
                      go_meet
                      have hcx:=(((CX6.out.next N).out nd vv).code z)
                      refine ⟨_,_,_,_,_,_,sx_mk HSL2.out hG.out Z5.out B5.out HB6.out ?_ hcx (.inr hO) (.inl rfl) ?_ ?_⟩
                      · repeat (first | (with_reducible exact Set5.refl _ _) | (with_reducible refine Set5.set ?_ ⟨by omega,by omega⟩ _ _))
                      · intro h;exact ⟨(by rw [eM,if_pos h];exact hN),(by rw [eD];exact Cv.Same.refl _),(eC.trans (ranC_end h)),(eN.trans (ranN_end (hnd3 h) h))⟩
                      · intro h;exact ⟨(eC.trans (hrn h).1),(eN.trans (hrn h).2),(by rw [eM,if_neg h]),eD⟩
                   · by_cases k9:x.k=9
                     · as_aux_lemma =>
                        have t1:(x.k == 1)=false:=by simpa using k1
                        have t2:(x.k == 2)=false:=by simpa using k2
                        have t3:(x.k == 3)=false:=by simpa using k3
                        have t4:(x.k == 4)=false:=by simpa using k4
                        have t5:(x.k == 5)=false:=by simpa using k5
                        have t6:(x.k == 6)=false:=by simpa using k6
                        have t7:(x.k == 7)=false:=by simpa using k7
                        have t8:(x.k == 8)=false:=by simpa using k8
                        have t9:(x.k == 9)=true:=by simpa using k9
                        have eC:actC M C x=ranC (resD M x.e x.fuel) (fuelF M x.e 3 x.fuel):=by unfold actC;rw [k9];rfl
                        have eN:actN M C x=ranN (resD M x.e x.fuel) (resV M x.e x.fuel) (fuelF M x.e 3 x.fuel):=by unfold actN;rw [k9];rfl
                        have eM:actM M C x=if fuelF M x.e 3 x.fuel=0 then resM M x.e x.fuel else M:=by unfold actM;rw [k9];rfl
                        have eD:actD M C x=C:=by unfold actD;rw [k9];rfl
                        obtain ⟨z,hz⟩:∃ z,Hid (z=fuelF M x.e 3 x.fuel):=⟨_,rfl⟩
                        have hc:=resumedOf_any M x.e x.fuel W5 SL5.out.m.own.at_ HFI.out.1
                        unfold RunSaid at hc
                        obtain ⟨nd,hnd⟩:∃ nd,Hid (nd=resD M x.e x.fuel):=⟨_,rfl⟩
                        obtain ⟨vv,hvv⟩:∃ vv,Hid (vv=resV M x.e x.fuel):=⟨_,rfl⟩
                        rw [← hnd.out,← hvv.out] at hc
                        rw [← hnd.out] at eC
                        rw [← hnd.out,← hvv.out] at eN
                        have hrn:z≠0→ranC nd z=z∧ranN nd vv z=0:=ranz_no (nd:=nd) (v:=vv) (z:=z)
                        have hnd3:z=0→nd=1∨nd=2∨nd=3:=fun h=>by rw [hnd.out];exact res_nd (hz.out.symm.trans h)
                        rw [← hz.out] at hc eC eM eN
                        unfold Mv.val at hc
                        have p0:=SL5.out.m.c0
                        have p1:=SL5.out.m.c1
                        have p2:=SL5.out.m.c2
                        have lp:=SL5.out.m.lt
                        have y1:=Y0.out.2.1
                        have y6:=Y0.out.2.2.2.2.2.2
                        go_wp2_with (go_at_call 54;refine hc.mono ?_;clear hc;rintro e w6 ⟨N,rfl,hN,hO,hb6⟩;(have CX6:Hid (Cx w6 G 0 0 0 0 M C):=CX5.out.keep hb6);(have HB6:Hid (_):=hb6);(have b0:=CX6.out.a0);(have fb0:=CX6.out.fz (G+1) 0 (by omega) (by omega));(have m0:=CX6.out.x0);(have m1:=CX6.out.x1);(have m2:=CX6.out.x2);(have fm0:=CX6.out.fz (G+1+1) 0 (by omega) (by omega));(have fm1:=CX6.out.fz (G+1+1) 1 (by omega) (by omega));(have fm2:=CX6.out.fz (G+1+1) 2 (by omega) (by omega));(have o0:=CX6.out.o0);(have o1:=CX6.out.o1);(have fo0:=CX6.out.fz (G+1+1+1) 0 (by omega) (by omega));(have fo1:=CX6.out.fz (G+1+1+1) 1 (by omega) (by omega));(have ls:=CX6.out.sz);(have l1:G+1<w6.heap.size:=by omega);(have l2:G+1+1<w6.heap.size:=by omega);(have l3:G+1+1+1<w6.heap.size:=by omega);(have l4:G+1+1+1+1<w6.heap.size:=by omega);(clear p0 p1 p2 lp y1 y6))
                        go_meet
                        have hcx:=(((CX6.out.next N).out nd vv).code z)
                        refine ⟨_,_,_,_,_,_,sx_mk HSL2.out hG.out Z5.out B5.out HB6.out ?_ hcx (.inr hO) (.inl rfl) ?_ ?_⟩
                        · repeat (first | (with_reducible exact Set5.refl _ _) | (with_reducible refine Set5.set ?_ ⟨by omega,by omega⟩ _ _))
                        · intro h;exact ⟨(by rw [eM,if_pos h];exact hN),(by rw [eD];exact Cv.Same.refl _),(eC.trans (ranC_end h)),(eN.trans (ranN_end (hnd3 h) h))⟩
                        · intro h;exact ⟨(eC.trans (hrn h).1),(eN.trans (hrn h).2),(by rw [eM,if_neg h]),eD⟩
                     · by_cases k10:x.k=10
                       · as_aux_lemma =>
                          have t1:(x.k == 1)=false:=by simpa using k1
                          have t2:(x.k == 2)=false:=by simpa using k2
                          have t3:(x.k == 3)=false:=by simpa using k3
                          have t4:(x.k == 4)=false:=by simpa using k4
                          have t5:(x.k == 5)=false:=by simpa using k5
                          have t6:(x.k == 6)=false:=by simpa using k6
                          have t7:(x.k == 7)=false:=by simpa using k7
                          have t8:(x.k == 8)=false:=by simpa using k8
                          have t9:(x.k == 9)=false:=by simpa using k9
                          have t10:(x.k == 10)=true:=by simpa using k10
                          have eC:actC M C x=askE C:=by unfold actC;rw [k10];rfl
                          have eN:actN M C x=askN C:=by unfold actN;rw [k10];rfl
                          have eM:actM M C x=M:=by unfold actM;rw [k10];rfl
                          have eD:actD M C x=if askE C=0 then askC C else C:=by unfold actD;rw [k10];rfl
                          obtain ⟨z,hz⟩:∃ z,Hid (z=askE C):=⟨_,rfl⟩
                          have hc:=askedOf_any C W5 SL5.out.c.own.at_ HFI.out.2
                          obtain ⟨n9,hn9⟩:∃ n9,Hid (n9=askN C):=⟨_,rfl⟩
                          rw [← hn9.out] at hc eN
                          rw [← hz.out] at hc eC
                          rw [← hz.out] at eD
                          unfold Cv.val at hc
                          have e0:=SL5.out.c.c0
                          have e1:=SL5.out.c.c1
                          have le:=SL5.out.c.lt
                          go_wp2_with (go_at_call 55;refine hc.mono ?_;clear hc;rintro e w6 ⟨N,rfl,hN,hO,hb6⟩;(have CX6:Hid (Cx w6 G 0 0 0 0 M C):=CX5.out.keep hb6);(have HB6:Hid (_):=hb6);(have b0:=CX6.out.a0);(have fb0:=CX6.out.fz (G+1) 0 (by omega) (by omega));(have b1:=CX6.out.a1);(have fb1:=CX6.out.fz (G+1) 1 (by omega) (by omega));(have d0:=CX6.out.d0);(have d1:=CX6.out.d1);(have fd0:=CX6.out.fz (G+1+1+1+1) 0 (by omega) (by omega));(have fd1:=CX6.out.fz (G+1+1+1+1) 1 (by omega) (by omega));(have ls:=CX6.out.sz);(have l1:G+1<w6.heap.size:=by omega);(have l2:G+1+1<w6.heap.size:=by omega);(have l3:G+1+1+1<w6.heap.size:=by omega);(have l4:G+1+1+1+1<w6.heap.size:=by omega);(clear e0 e1 le))
                          go_meet
                          have hcx:=(((CX6.out.chal N).num n9).code z)
                          refine ⟨_,_,_,_,_,_,sx_mk HSL2.out hG.out Z5.out B5.out HB6.out ?_ hcx (.inl rfl) (.inr hO) ?_ ?_⟩
                          · repeat (first | (with_reducible exact Set5.refl _ _) | (with_reducible refine Set5.set ?_ ⟨by omega,by omega⟩ _ _))
                          · intro h;exact ⟨(by rw [eM];exact Mv.Same.refl _),(by rw [eD,if_pos h];exact hN),(eC.trans (h.trans rfl)),(eN.trans rfl)⟩
                          · intro h;exact ⟨eC,(eN.trans (by rw [hn9.out];unfold askN;rw [if_neg (by rw [← hz.out];exact h)])),eM,(by rw [eD,if_neg h])⟩
                       · by_cases k11:x.k=11
                         · as_aux_lemma =>
                            have t1:(x.k == 1)=false:=by simpa using k1
                            have t2:(x.k == 2)=false:=by simpa using k2
                            have t3:(x.k == 3)=false:=by simpa using k3
                            have t4:(x.k == 4)=false:=by simpa using k4
                            have t5:(x.k == 5)=false:=by simpa using k5
                            have t6:(x.k == 6)=false:=by simpa using k6
                            have t7:(x.k == 7)=false:=by simpa using k7
                            have t8:(x.k == 8)=false:=by simpa using k8
                            have t9:(x.k == 9)=false:=by simpa using k9
                            have t10:(x.k == 10)=false:=by simpa using k10
                            have t11:(x.k == 11)=true:=by simpa using k11
                            have eC:actC M C x=chkE M C x.at_:=by unfold actC;rw [k11];rfl
                            have eN:actN M C x=0:=by unfold actN;rw [k11];rfl
                            have eM:actM M C x=M:=by unfold actM;rw [k11];rfl
                            have eD:actD M C x=chkD M C x.at_:=by unfold actD;rw [k11];rfl
                            have p0:=SL5.out.m.c0
                            have p1:=SL5.out.m.c1
                            have p2:=SL5.out.m.c2
                            have lp:=SL5.out.m.lt
                            have y3:=Y0.out.2.2.2.1
                            have hql:=SL5.out.m.own.at_.qul
                            unfold maxLen at hql
                            have hwq:IntKind.i64.wrap ((M.qus.length:Int) - 1)=(M.qus.length:Int) - 1:=by rw [IntKind.wrap_i64];omega
                            by_cases hq:0≤x.at_∧x.at_<(M.qus.length:Int)
                            · have hin:inB x.at_ 0 ((M.qus.length:Int) - 1)=true:=inB_iff.2 ⟨by omega,by omega⟩
                              obtain ⟨j,hj⟩:∃ j:Nat,x.at_=(j:Int):=⟨x.at_.toNat,by omega⟩
                              have hjl:j<M.qus.length:=by omega
                              obtain ⟨qb,qo,hqa,c0,c1⟩:=SL5.out.m.own.at_.quote hjl
                              have hqk:=SL5.out.m.own.at_.quok j hjl
                              have hc:=fun w' (hb:Below W5.heap.size W5 w')=>lookedOf_any C M.qa M.qus M.qcap (M.qus.getD j default) w' (SL5.out.c.own.at_.below hb) HFI.out.2 SL5.out.m.own.at_.qul (RowsAt.below (cells:=Qu.cells) (fun _=>rfl) SL5.out.m.own.at_.qu hb) hqk
                              obtain ⟨z,hz⟩:∃ z,Hid (z=lookE C M.qus (M.qus.getD j default)):=⟨_,rfl⟩
                              obtain ⟨T9,hT9⟩:∃ T9,Hid (T9=lookC C M.qus (M.qus.getD j default)):=⟨_,rfl⟩
                              have hE:chkE M C x.at_=z:=by unfold chkE;rw [if_pos hq,hz.out,hj,Int.toNat_natCast]
                              have hD:z=0→chkD M C x.at_=T9:=fun h=>by unfold chkD;rw [hE,if_pos h,hj,Int.toNat_natCast,hT9.out]
                              have hD' : ¬ z=0→chkD M C x.at_=C:=fun h=>by unfold chkD;rw [hE,if_neg h]
                              simp only [← hz.out,← hT9.out] at hc
                              obtain ⟨qx,hqx⟩:∃ qx,qx=M.qus.getD j default:=⟨_,rfl⟩
                              simp only [← hqx] at hc c0 c1
                              obtain ⟨qlog,qdata⟩:=qx
                              dsimp only at hc c0 c1
                              unfold Cv.val at hc
                              rw [hj] at y3 hin
                              rw [hqa] at p2
                              simp only [hqa] at hc
                              have e0:=SL5.out.c.c0
                              have e1:=SL5.out.c.c1
                              have le:=SL5.out.c.lt
                              have lc:=lt_of_cell c0
                              have hjI:(j:Int)<(M.qus.length:Int):=by omega
                              have hj0:(0:Int)≤(j:Int):=by omega
                              clear hqx hz hT9 hqk
                              go_upto_region 41 with (go_at_call 56;refine (in_any _ _ _ _).mono ?_;rintro e w' ⟨rfl,rfl⟩)
                              refine wp_region_till [0,1,2,3,4,5,6,7,8] (fun w'=>w'.cell? ⟨Q,0,none⟩=some (.slice C.ta C.tr.length C.tcap)∧w'.cell? ⟨Q,1,none⟩=some (.slice C.na C.ns.length C.ncap)∧w'.cell? ⟨P,2,none⟩=some (.slice (some ⟨qb,qo,none⟩) M.qus.length M.qcap)∧w'.cell? ⟨G,3,none⟩=some (.int .i64 (j:Int))∧w'.cell? ⟨qb,qo+j * 2,none⟩=some (.string qlog)∧w'.cell? ⟨qb,qo+j * 2+1,none⟩=some (.int .i64 qdata)) (by kernel_rfl) ?_ (fun hHeld=>?_)
                              · exact ⟨e0,e1,p2,y3,c0,c1⟩
                              clear e0 e1 p0 p1 p2 y3 c0 c1
                              refine till_takeL (i:=0) (v:=?v0) rfl (by kernel_rfl) (by kernel_rfl) (by kernel_rfl) (by kernel_rfl) (by kernel_rfl) (fun _ _ _ h=>h) (Or.inl ⟨by rfl,?hy0⟩) hHeld ?rest0
                              case hy0=>(intro w' hSw;(try dsimp only at hSw);go_simp)<;>(with_reducible rfl)
                              (try simp only [Act.put,List.setIfInBounds_toArray,List.set_cons_zero,List.set_cons_succ])
                              refine till_anyL (i:=1) (v:=?v1) rfl (by kernel_rfl) (by kernel_rfl) (by kernel_rfl) (fun _ _ _ h=>h) (Or.inl ⟨by rfl,?hy1⟩) ?rest1
                              case hy1=>(intro w';go_simp)<;>(with_reducible rfl)
                              (try simp only [Act.put,List.setIfInBounds_toArray,List.set_cons_zero,List.set_cons_succ])
                              refine till_takeL (i:=2) (v:=?v2) rfl (by kernel_rfl) (by kernel_rfl) (by kernel_rfl) (by kernel_rfl) (by kernel_rfl) (fun _ _ _ h=>h) (Or.inl ⟨by rfl,?hy2⟩) hHeld ?rest2
                              case hy2=>(intro w' hSw;(try dsimp only at hSw);go_simp)<;>(with_reducible rfl)
                              (try simp only [Act.put,List.setIfInBounds_toArray,List.set_cons_zero,List.set_cons_succ])
                              refine till_anyL (i:=3) (v:=?v3) rfl (by kernel_rfl) (by kernel_rfl) (by kernel_rfl) (fun _ _ _ h=>h) (Or.inl ⟨by rfl,?hy3⟩) ?rest3
                              case hy3=>(intro w';go_simp)<;>(with_reducible rfl)
                              (try simp only [Act.put,List.setIfInBounds_toArray,List.set_cons_zero,List.set_cons_succ])
                              refine till_takeL (i:=4) (v:=?v4) rfl (by kernel_rfl) (by kernel_rfl) (by kernel_rfl) (by kernel_rfl) (by kernel_rfl) (fun _ _ _ h=>h) (Or.inl ⟨by rfl,?hy4⟩) hHeld ?rest4
                              case hy4=>(intro w' hSw;(try dsimp only at hSw);go_simp)<;>(with_reducible rfl)
                              (try simp only [Act.put,List.setIfInBounds_toArray,List.set_cons_zero,List.set_cons_succ])
                              refine till_anyL (i:=5) (v:=?v5) rfl (by kernel_rfl) (by kernel_rfl) (by kernel_rfl) (fun _ _ _ h=>h) (Or.inl ⟨by rfl,?hy5⟩) ?rest5
                              case hy5=>(intro w';go_simp)<;>(with_reducible rfl)
                              (try simp only [Act.put,List.setIfInBounds_toArray,List.set_cons_zero,List.set_cons_succ])
                              refine till_takeL (i:=6) (v:=?v6) rfl (by kernel_rfl) (by kernel_rfl) (by kernel_rfl) (by kernel_rfl) (by kernel_rfl) (fun _ _ _ h=>h) (Or.inl ⟨by rfl,?hy6⟩) hHeld ?rest6
                              case hy6=>(intro w' hSw;(try dsimp only at hSw);go_simp)<;>(with_reducible rfl)
                              (try simp only [Act.put,List.setIfInBounds_toArray,List.set_cons_zero,List.set_cons_succ])
                              refine till_anyL (i:=7) (v:=?v7) rfl (by kernel_rfl) (by kernel_rfl) (by kernel_rfl) (fun _ _ _ h=>h) (Or.inl ⟨by rfl,?hy7⟩) ?rest7
                              case hy7=>(intro w';go_simp)<;>(with_reducible rfl)
                              (try simp only [Act.put,List.setIfInBounds_toArray,List.set_cons_zero,List.set_cons_succ])
                              refine till_takeL (i:=8) (v:=?v8) rfl (by kernel_rfl) (by kernel_rfl) (by kernel_rfl) (by kernel_rfl) (by kernel_rfl) (fun _ _ _ h=>h) (Or.inl ⟨by rfl,?hy8⟩) hHeld ?rest8
                              case hy8=>(intro w' hSw;(try dsimp only at hSw);go_simp)<;>(with_reducible rfl)
                              (try simp only [Act.put,List.setIfInBounds_toArray,List.set_cons_zero,List.set_cons_succ])
                              refine till_rest (by kernel_rfl) ?_
                              clear hHeld
                              refine any_oneL (i:=9) rfl (by kernel_rfl) (fun K hK=>?_)
                              have HK:Hid (_):=hK
                              clear hK
                              go_simp
                              go_at_call 57
                              refine (hc _ (Below.refl _ _).drew).mono ?_
                              clear hc
                              rintro y w6 ⟨N,rfl,hN,hO,hb⟩
                              have hb6:Below W5.heap.size W5 w6:=(Below.refl W5.heap.size W5).drew.trans hb
                              have hO6:COwn W5.heap.size w6 N:=hO
                              have CX6:Hid (Cx w6 G 0 0 0 0 M C):=CX5.out.keep hb6
                              have HB6:Hid (Below W5.heap.size W5 w6):=hb6
                              have b0:=CX6.out.a0
                              have fb0:=CX6.out.fz (G+1) 0 (by omega) (by omega)
                              have d0:=CX6.out.d0
                              have d1:=CX6.out.d1
                              have fd0:=CX6.out.fz (G+1+1+1+1) 0 (by omega) (by omega)
                              have fd1:=CX6.out.fz (G+1+1+1+1) 1 (by omega) (by omega)
                              have ls:=CX6.out.sz
                              have l1:G+1<w6.heap.size:=by omega
                              have l2:G+1+1<w6.heap.size:=by omega
                              have l3:G+1+1+1<w6.heap.size:=by omega
                              have l4:G+1+1+1+1<w6.heap.size:=by omega
                              clear hb
                              (try go_simp)
                              refine HK.out _ _ ?_
                              clear HK
                              (try simp only [Act.put,List.setIfInBounds_toArray,List.set_cons_zero,List.set_cons_succ])
                              refine any_takeL (i:=10) (v:=?v10) rfl (by kernel_rfl) (by kernel_rfl) (by kernel_rfl) (fun _ _ _ h=>h) (Or.inl ⟨by rfl,?hy10⟩) ?rest10
                              case hy10=>(intro w';go_simp)<;>(with_reducible rfl)
                              (try simp only [Act.put,List.setIfInBounds_toArray,List.set_cons_zero,List.set_cons_succ])
                              refine any_takeL (i:=11) (v:=?v11) rfl (by kernel_rfl) (by kernel_rfl) (by kernel_rfl) (fun _ _ _ h=>h) (Or.inl ⟨by rfl,?hy11⟩) ?rest11
                              case hy11=>(intro w';go_simp)<;>(with_reducible rfl)
                              (try simp only [Act.put,List.setIfInBounds_toArray,List.set_cons_zero,List.set_cons_succ])
                              refine any_takeL (i:=12) (v:=?v12) rfl (by kernel_rfl) (by kernel_rfl) (by kernel_rfl) (fun _ _ _ h=>h) (Or.inl ⟨by rfl,?hy12⟩) ?rest12
                              case hy12=>(intro w';go_simp)<;>(with_reducible rfl)
                              (try simp only [Act.put,List.setIfInBounds_toArray,List.set_cons_zero,List.set_cons_succ])
                              refine any_oneL (i:=13) rfl (by kernel_rfl) (fun K hK=>?_)
                              have HK:Hid (_):=hK
                              clear hK
                              go_simp
                              refine HK.out _ _ ?_
                              clear HK
                              (try simp only [Act.put,List.setIfInBounds_toArray,List.set_cons_zero,List.set_cons_succ])
                              refine any_takeL (i:=14) (v:=?v14) rfl (by kernel_rfl) (by kernel_rfl) (by kernel_rfl) (fun _ _ _ h=>h) (Or.inl ⟨by rfl,?hy14⟩) ?rest14
                              case hy14=>(intro w';go_simp)<;>(with_reducible rfl)
                              (try simp only [Act.put,List.setIfInBounds_toArray,List.set_cons_zero,List.set_cons_succ])
                              refine any_oneL (i:=15) rfl (by kernel_rfl) (fun K hK=>?_)
                              have HK:Hid (_):=hK
                              clear hK
                              go_simp
                              refine HK.out _ _ ?_
                              clear HK
                              (try simp only [Act.put,List.setIfInBounds_toArray,List.set_cons_zero,List.set_cons_succ])
                              refine wpAny_done (by kernel_rfl) ?_ _
                              go_wp2
                              go_meet
                              exact ⟨_,_,_,_,_,_,sx_mk HSL2.out hG.out Z5.out B5.out HB6.out ((((Set5.refl G w6).set (by omega) _ _).set (by omega) _ _).set (by omega) _ _) ((CX6.out.chal N).code z) (.inl rfl) (.inr hO6) (fun h=>⟨by rw [eM];exact Mv.Same.refl _,by rw [eD,hD h];exact hN,eC.trans (hE.trans (h.trans rfl)),eN.trans rfl⟩) (fun h=>⟨eC.trans hE,eN,eM,eD.trans (hD' h)⟩)⟩
                            · have hin:inB x.at_ 0 ((M.qus.length:Int) - 1)=false:=by rw [Bool.eq_false_iff];intro h;have:=inB_iff.1 h;omega
                              have hE:chkE M C x.at_=5:=by unfold chkE;rw [if_neg hq]
                              have hD:chkD M C x.at_=C:=by unfold chkD;rw [hE,if_neg (by decide)]
                              have b0:=CX5.out.a0
                              have fb0:=CX5.out.fz (G+1) 0 (by omega) (by omega)
                              have ls:=CX5.out.sz
                              have l1:G+1<W5.heap.size:=by omega
                              go_wp2_with (go_at_call 56;refine (in_any _ _ _ _).mono ?_;rintro e w' ⟨rfl,rfl⟩)
                              go_meet
                              exact ⟨_,_,_,_,_,_,sx_mk HSL2.out hG.out Z5.out B5.out (Below.refl _ _) ((Set5.refl G W5).set (by omega) _ _) (CX5.out.code 5) (.inl rfl) (.inl rfl) (fun h=>absurd h (by decide)) (fun _=>⟨eC.trans hE,eN,eM,eD.trans hD⟩)⟩
                         · as_aux_lemma =>
                            have t1:(x.k == 1)=false:=by simpa using k1
                            have t2:(x.k == 2)=false:=by simpa using k2
                            have t3:(x.k == 3)=false:=by simpa using k3
                            have t4:(x.k == 4)=false:=by simpa using k4
                            have t5:(x.k == 5)=false:=by simpa using k5
                            have t6:(x.k == 6)=false:=by simpa using k6
                            have t7:(x.k == 7)=false:=by simpa using k7
                            have t8:(x.k == 8)=false:=by simpa using k8
                            have t9:(x.k == 9)=false:=by simpa using k9
                            have t10:(x.k == 10)=false:=by simpa using k10
                            have t11:(x.k == 11)=false:=by simpa using k11
                            have CX6:Hid (_):=CX5.out
                            have w6e:W5=W5:=rfl
                            have b0:=CX6.out.a0
                            have fb0:=CX6.out.fz (G+1) 0 (by omega) (by omega)
                            have ls:=CX6.out.sz
                            have l1:G+1<W5.heap.size:=by omega
                            go_wp2
                            go_meet
                            have eC:actC M C x=3:=by unfold actC;rw [if_neg k1,if_neg k2,if_neg k3,if_neg k4,if_neg k5,if_neg k6,if_neg k7,if_neg k8,if_neg k9,if_neg k10,if_neg k11]
                            have eN:actN M C x=0:=by unfold actN;rw [if_neg k1,if_neg k6,if_neg k8,if_neg k9,if_neg k10]
                            have eM:actM M C x=M:=by unfold actM;rw [if_neg k1,if_neg k2,if_neg k3,if_neg k4,if_neg k5,if_neg k7,if_neg k8,if_neg k9]
                            have eD:actD M C x=C:=by unfold actD;rw [if_neg k10,if_neg k11]
                            exact ⟨_,_,_,_,_,_,sx_mk HSL2.out hG.out Z5.out B5.out (Below.refl _ _) ((Set5.refl G W5).set (by omega) _ _) (CX5.out.code 3) (.inl rfl) (.inl rfl) (fun h=>absurd h (by decide)) (fun _=>⟨eC,eN,eM,eD⟩)⟩
    case rest =>
     obtain ⟨cc,nn,ee,vv,X,D,hsx⟩:=hcut
     rename World=>V
     have HSX:Hid (_):=hsx
     have SLV:=HSL2.out.keep hsx.bel
     have SLH:Hid (_):=SLV
     have hPG:P<G:=by rw [hG.out];exact HSL2.out.m.lt
     have hQG:Q<G:=by rw [hG.out];exact HSL2.out.c.lt
     have hoff:=sx_off HSL2.out hG.out hsx
     have HOFF:Hid (_):=hoff
     have hlen:(hans (hs0 tr) (l.take k)).length≤1000:=by rw [hans_len,List.length_take];have:=HIN.out.2;have:=hnl.out;omega
     have HLEN:Hid (_):=hlen
     have hk2:(k:Int)<200:=by have:=HIN.out.2;omega
     have HKN:Hid (k<l.length):=show _<_ by rw [← hnl.out];exact hlt
     have b0:=hsx.cx.a0
     have ls:=hsx.cx.sz
     have l1:G+1<V.heap.size:=by omega
     clear hoff hlen hlt
     by_cases hcc:cc=0
     · subst hcc
       have hok:=hsx.ok rfl
       have m0:=hsx.cx.x0
       have m1:=hsx.cx.x1
       have m2:=hsx.cx.x2
       have d0:=hsx.cx.d0
       have d1:=hsx.cx.d1
       have p0:=SLV.m.c0
       have p1:=SLV.m.c1
       have p2:=SLV.m.c2
       have pf0:=SLV.m.fz 0
       have pf1:=SLV.m.fz 1
       have pf2:=SLV.m.fz 2
       have lp:=SLV.m.lt
       have q0:=SLV.c.c0
       have q1:=SLV.c.c1
       have qf0:=SLV.c.fz 0
       have qf1:=SLV.c.fz 1
       have lq:=SLV.c.lt
       have l2:G+1+1<V.heap.size:=by omega
       have l4:G+1+1+1+1<V.heap.size:=by omega
       have nPQ:¬ P=Q:=HSL2.out.pq
       have nQP:¬ Q=P:=fun e=>nPQ e.symm
       have n4:¬ G+1+1+1+1=P:=by omega
       have n4' : ¬ P=G+1+1+1+1:=by omega
       have HOK:Hid (_):=hok
       clear hsx SLV hok
       go_upto_region 46 with fail
       obtain ⟨U,hU⟩:∃ U,Hid (U=((((V.setCell ⟨P,0,none⟩ (.slice X.fa X.frs.length X.fcap)).setCell ⟨P,1,none⟩ (.slice X.ea X.ens.length X.ecap)).setCell ⟨P,2,none⟩ (.slice X.qa X.qus.length X.qcap)).setCell ⟨Q,0,none⟩ (.slice D.ta D.tr.length D.tcap)).setCell ⟨Q,1,none⟩ (.slice D.na D.ns.length D.ncap)):=⟨_,rfl⟩
       rw [← hU.out]
       have HMU:Hid (SM W2 P Q v (hans (hs0 tr) (l.take k)) X D U):=show SM _ _ _ _ _ _ _ _ by rw [hU.out];exact sm_put HSL2.out hG.out HSX.out
       have CXU:Hid (Cx U G 0 nn ee vv X D):=show Cx _ _ _ _ _ _ _ _ by rw [hU.out];exact ((((HSX.out.cx.far (by omega) _ _).far (by omega) _ _).far (by omega) _ _).far (by omega) _ _).far (by omega) _ _
       clear hU b0 m0 m1 m2 d0 d1 p0 p1 p2 pf0 pf1 pf2 lp q0 q1 qf0 qf1 lq l1 l2 l4 nPQ nQP n4 n4' ls
       have o0:=CXU.out.o0
       have o1:=CXU.out.o1
       have b0:=CXU.out.a0
       have b1:=CXU.out.a1
       have fb0:=CXU.out.fz (G+1) 0 (by omega) (by omega)
       have fb1:=CXU.out.fz (G+1) 1 (by omega) (by omega)
       have ls:=CXU.out.sz
       have l1:G+1<U.heap.size:=by omega
       have l3:G+1+1+1<U.heap.size:=by omega
       clear ls
       by_cases e1:ee=1
       · have t1:(ee == 1)=true:=by simpa using e1
         as_aux_lemma =>
          go_upto_region 54 with fail
          obtain ⟨U2,hU2⟩:∃ U2,Hid (U2=U.setCell ⟨G+1,1,none⟩ (.int .i64 vv)):=⟨_,rfl⟩
          rw [← hU2.out]
          have HM2:Hid (SM W2 P Q v (hans (hs0 tr) (l.take k)) X D U2):=show SM _ _ _ _ _ _ _ _ by rw [hU2.out];exact HMU.out.far HOFF.out.1.1 HOFF.out.1.2 HOFF.out.2.2.1 HOFF.out.2.2.2 _ _
          have CX2:Hid (Cx U2 G 0 vv ee vv X D):=show Cx _ _ _ _ _ _ _ _ by rw [hU2.out];exact CXU.out.num vv
          have HF:Hid (actC M C x=0∧actN M C x=vv):=⟨HOK.out.2.2.1.trans (by rw [e1];rfl),HOK.out.2.2.2.trans (by rw [if_pos e1])⟩
          have HXD:Hid (X.Same (actM M C x)∧D.Same (actD M C x)):=⟨HOK.out.1,HOK.out.2.1⟩
          clear b0 b1 fb0 fb1 l1 o0 o1 l3 hU2
          have b0:=CX2.out.a0
          have b1:=CX2.out.a1
          have ls:=CX2.out.sz
          have l1:G+1<U2.heap.size:=by omega
          clear ls
          have b23:Below U2.heap.size U2 (U2.alloc (.cells #[.int .i64 0,.int .i64 vv] 39)):=(Below.refl _ _).alloc (Nat.le_refl _) _
          have HM3:=HM2.out.keep b23
          have q3:(U2.alloc (.cells #[.int .i64 0,.int .i64 vv] 39)).heap[U2.heap.size]? = some (.cells #[.int .i64 0,.int .i64 vv] 39 (0,0)):=Go.Deep.blk_alloc_new _ _
          obtain ⟨v',w',hrun,hown',hgr,hv'⟩:=app_an HM3.row HM3.bel.size U2.heap.size 0 vv 1 (by rw [World.cell?_alloc_at _ _ _ _ rfl];rfl) (by rw [World.cell?_alloc_at _ _ _ _ rfl];rfl) HLEN.out
          have HSN:Hid (SL W2 P Q (hs0 tr) l (k+1) v' X D w'):=show SL _ _ _ _ _ _ _ _ _ _ from sl_next HSL2.out HKN.out hx.out HXD.out.1 HXD.out.2 (by rw [HF.out.1,HF.out.2];exact sm_app HM3 hown' hgr hv')
          clear HM3 hown' hgr hv' q3 b23
          go_wp2_with (at_builtin;refine wpList_append_eq rfl _ _ 24 rfl _ _ v' rfl rfl hrun ?_)
          go_roundw
          case rel=>exact ⟨k+1,v',X,D,by omega,by go_num,rfl,HSN.out⟩
          case measure=>simp [intOf];omega
       · have t1:(ee == 1)=false:=by simpa using e1
         by_cases e2:ee=2
         · have t2:(ee == 2)=true:=by simpa using e2
           as_aux_lemma =>
            go_upto_region 54 with fail
            obtain ⟨U2,hU2⟩:∃ U2,Hid (U2=U.setCell ⟨G+1,0,none⟩ (.int .i64 9)):=⟨_,rfl⟩
            rw [← hU2.out]
            have HM2:Hid (SM W2 P Q v (hans (hs0 tr) (l.take k)) X D U2):=show SM _ _ _ _ _ _ _ _ by rw [hU2.out];exact HMU.out.far HOFF.out.1.1 HOFF.out.1.2 HOFF.out.2.2.1 HOFF.out.2.2.2 _ _
            have CX2:Hid (Cx U2 G 9 nn ee vv X D):=show Cx _ _ _ _ _ _ _ _ by rw [hU2.out];exact CXU.out.code 9
            have HF:Hid (actC M C x=9∧actN M C x=nn):=⟨HOK.out.2.2.1.trans (by rw [e2];rfl),HOK.out.2.2.2.trans (by rw [if_neg e1])⟩
            have HXD:Hid (X.Same (actM M C x)∧D.Same (actD M C x)):=⟨HOK.out.1,HOK.out.2.1⟩
            clear b0 b1 fb0 fb1 l1 o0 o1 l3 hU2
            have b0:=CX2.out.a0
            have b1:=CX2.out.a1
            have ls:=CX2.out.sz
            have l1:G+1<U2.heap.size:=by omega
            clear ls
            have b23:Below U2.heap.size U2 (U2.alloc (.cells #[.int .i64 9,.int .i64 nn] 39)):=(Below.refl _ _).alloc (Nat.le_refl _) _
            have HM3:=HM2.out.keep b23
            have q3:(U2.alloc (.cells #[.int .i64 9,.int .i64 nn] 39)).heap[U2.heap.size]? = some (.cells #[.int .i64 9,.int .i64 nn] 39 (0,0)):=Go.Deep.blk_alloc_new _ _
            obtain ⟨v',w',hrun,hown',hgr,hv'⟩:=app_an HM3.row HM3.bel.size U2.heap.size 9 nn 1 (by rw [World.cell?_alloc_at _ _ _ _ rfl];rfl) (by rw [World.cell?_alloc_at _ _ _ _ rfl];rfl) HLEN.out
            have HSN:Hid (SL W2 P Q (hs0 tr) l (k+1) v' X D w'):=show SL _ _ _ _ _ _ _ _ _ _ from sl_next HSL2.out HKN.out hx.out HXD.out.1 HXD.out.2 (by rw [HF.out.1,HF.out.2];exact sm_app HM3 hown' hgr hv')
            clear HM3 hown' hgr hv' q3 b23
            go_wp2_with (at_builtin;refine wpList_append_eq rfl _ _ 24 rfl _ _ v' rfl rfl hrun ?_)
            go_roundw
            case rel=>exact ⟨k+1,v',X,D,by omega,by go_num,rfl,HSN.out⟩
            case measure=>simp [intOf];omega
         · have t2:(ee == 2)=false:=by simpa using e2
           by_cases e3:ee=3
           · have t3:(ee == 3)=true:=by simpa using e3
             as_aux_lemma =>
              go_upto_region 54 with fail
              obtain ⟨U2,hU2⟩:∃ U2,Hid (U2=U.setCell ⟨G+1,0,none⟩ (.int .i64 10)):=⟨_,rfl⟩
              rw [← hU2.out]
              have HM2:Hid (SM W2 P Q v (hans (hs0 tr) (l.take k)) X D U2):=show SM _ _ _ _ _ _ _ _ by rw [hU2.out];exact HMU.out.far HOFF.out.1.1 HOFF.out.1.2 HOFF.out.2.2.1 HOFF.out.2.2.2 _ _
              have CX2:Hid (Cx U2 G 10 nn ee vv X D):=show Cx _ _ _ _ _ _ _ _ by rw [hU2.out];exact CXU.out.code 10
              have HF:Hid (actC M C x=10∧actN M C x=nn):=⟨HOK.out.2.2.1.trans (by rw [e3];rfl),HOK.out.2.2.2.trans (by rw [if_neg e1])⟩
              have HXD:Hid (X.Same (actM M C x)∧D.Same (actD M C x)):=⟨HOK.out.1,HOK.out.2.1⟩
              clear b0 b1 fb0 fb1 l1 o0 o1 l3 hU2
              have b0:=CX2.out.a0
              have b1:=CX2.out.a1
              have ls:=CX2.out.sz
              have l1:G+1<U2.heap.size:=by omega
              clear ls
              have b23:Below U2.heap.size U2 (U2.alloc (.cells #[.int .i64 10,.int .i64 nn] 39)):=(Below.refl _ _).alloc (Nat.le_refl _) _
              have HM3:=HM2.out.keep b23
              have q3:(U2.alloc (.cells #[.int .i64 10,.int .i64 nn] 39)).heap[U2.heap.size]? = some (.cells #[.int .i64 10,.int .i64 nn] 39 (0,0)):=Go.Deep.blk_alloc_new _ _
              obtain ⟨v',w',hrun,hown',hgr,hv'⟩:=app_an HM3.row HM3.bel.size U2.heap.size 10 nn 1 (by rw [World.cell?_alloc_at _ _ _ _ rfl];rfl) (by rw [World.cell?_alloc_at _ _ _ _ rfl];rfl) HLEN.out
              have HSN:Hid (SL W2 P Q (hs0 tr) l (k+1) v' X D w'):=show SL _ _ _ _ _ _ _ _ _ _ from sl_next HSL2.out HKN.out hx.out HXD.out.1 HXD.out.2 (by rw [HF.out.1,HF.out.2];exact sm_app HM3 hown' hgr hv')
              clear HM3 hown' hgr hv' q3 b23
              go_wp2_with (at_builtin;refine wpList_append_eq rfl _ _ 24 rfl _ _ v' rfl rfl hrun ?_)
              go_roundw
              case rel=>exact ⟨k+1,v',X,D,by omega,by go_num,rfl,HSN.out⟩
              case measure=>simp [intOf];omega
           · have t3:(ee == 3)=false:=by simpa using e3
             as_aux_lemma =>
              go_upto_region 54 with fail
              obtain ⟨U2,hU2⟩:∃ U2,Hid (U=U2):=⟨_,rfl⟩
              rw [hU2.out]
              have HM2:Hid (SM W2 P Q v (hans (hs0 tr) (l.take k)) X D U2):=show SM _ _ _ _ _ _ _ _ by rw [← hU2.out];exact HMU.out
              have CX2:Hid (Cx U2 G 0 nn ee vv X D):=show Cx _ _ _ _ _ _ _ _ by rw [← hU2.out];exact CXU.out
              have HF:Hid (actC M C x=0∧actN M C x=nn):=⟨HOK.out.2.2.1.trans (by unfold endC;rw [if_neg e2,if_neg e3]),HOK.out.2.2.2.trans (by rw [if_neg e1])⟩
              have HXD:Hid (X.Same (actM M C x)∧D.Same (actD M C x)):=⟨HOK.out.1,HOK.out.2.1⟩
              clear b0 b1 fb0 fb1 l1 o0 o1 l3 hU2
              have b0:=CX2.out.a0
              have b1:=CX2.out.a1
              have ls:=CX2.out.sz
              have l1:G+1<U2.heap.size:=by omega
              clear ls
              have b23:Below U2.heap.size U2 (U2.alloc (.cells #[.int .i64 0,.int .i64 nn] 39)):=(Below.refl _ _).alloc (Nat.le_refl _) _
              have HM3:=HM2.out.keep b23
              have q3:(U2.alloc (.cells #[.int .i64 0,.int .i64 nn] 39)).heap[U2.heap.size]? = some (.cells #[.int .i64 0,.int .i64 nn] 39 (0,0)):=Go.Deep.blk_alloc_new _ _
              obtain ⟨v',w',hrun,hown',hgr,hv'⟩:=app_an HM3.row HM3.bel.size U2.heap.size 0 nn 1 (by rw [World.cell?_alloc_at _ _ _ _ rfl];rfl) (by rw [World.cell?_alloc_at _ _ _ _ rfl];rfl) HLEN.out
              have HSN:Hid (SL W2 P Q (hs0 tr) l (k+1) v' X D w'):=show SL _ _ _ _ _ _ _ _ _ _ from sl_next HSL2.out HKN.out hx.out HXD.out.1 HXD.out.2 (by rw [HF.out.1,HF.out.2];exact sm_app HM3 hown' hgr hv')
              clear HM3 hown' hgr hv' q3 b23
              go_wp2_with (at_builtin;refine wpList_append_eq rfl _ _ 24 rfl _ _ v' rfl rfl hrun ?_)
              go_roundw
              case rel=>exact ⟨k+1,v',X,D,by omega,by go_num,rfl,HSN.out⟩
              case measure=>simp [intOf];omega
     · have tc:(cc == 0)=false:=by simpa using hcc
       have hno:=hsx.no hcc
       have b1:=hsx.cx.a1
       have fb1:=hsx.cx.fz (G+1) 1 (by omega) (by omega)
       have HNO:Hid (_):=hno
       clear hsx SLV hno ls
       as_aux_lemma =>
        go_upto_region 54 with fail
        obtain ⟨U2,hU2⟩:∃ U2,Hid (U2=V.setCell ⟨G+1,1,none⟩ (.int .i64 0)):=⟨_,rfl⟩
        rw [← hU2.out]
        have HM2:Hid (SM W2 P Q v (hans (hs0 tr) (l.take k)) M C U2):=show SM _ _ _ _ _ _ _ _ by rw [hU2.out];exact SLH.out.mem.far ⟨HOFF.out.1.1.1,HOFF.out.2.1.1⟩ ⟨HOFF.out.1.2.1,HOFF.out.2.1.2⟩ HOFF.out.2.2.1 HOFF.out.2.2.2 _ _
        have CX2:Hid (Cx U2 G cc 0 ee vv X D):=show Cx _ _ _ _ _ _ _ _ by rw [hU2.out];exact HSX.out.cx.num 0
        have HF:Hid (actC M C x=cc∧actN M C x=0):=⟨HNO.out.1,HNO.out.2.1⟩
        have HXD:Hid (M.Same (actM M C x)∧C.Same (actD M C x)):=⟨by rw [HNO.out.2.2.1];exact Mv.Same.refl _,by rw [HNO.out.2.2.2];exact Cv.Same.refl _⟩
        clear b0 b1 fb1 l1 hU2
        have b0:=CX2.out.a0
        have b1:=CX2.out.a1
        have ls:=CX2.out.sz
        have l1:G+1<U2.heap.size:=by omega
        clear ls
        have b23:Below U2.heap.size U2 (U2.alloc (.cells #[.int .i64 cc,.int .i64 0] 39)):=(Below.refl _ _).alloc (Nat.le_refl _) _
        have HM3:=HM2.out.keep b23
        have q3:(U2.alloc (.cells #[.int .i64 cc,.int .i64 0] 39)).heap[U2.heap.size]? = some (.cells #[.int .i64 cc,.int .i64 0] 39 (0,0)):=Go.Deep.blk_alloc_new _ _
        obtain ⟨v',w',hrun,hown',hgr,hv'⟩:=app_an HM3.row HM3.bel.size U2.heap.size cc 0 1 (by rw [World.cell?_alloc_at _ _ _ _ rfl];rfl) (by rw [World.cell?_alloc_at _ _ _ _ rfl];rfl) HLEN.out
        have HSN:Hid (SL W2 P Q (hs0 tr) l (k+1) v' M C w'):=show SL _ _ _ _ _ _ _ _ _ _ from sl_next HSL2.out HKN.out hx.out HXD.out.1 HXD.out.2 (by rw [HF.out.1,HF.out.2];exact sm_app HM3 hown' hgr hv')
        clear HM3 hown' hgr hv' q3 b23
        go_wp2_with (at_builtin;refine wpList_append_eq rfl _ _ 24 rfl _ _ v' rfl rfl hrun ?_)
        go_roundw
        case rel=>exact ⟨k+1,v',M,C,by omega,by go_num,rfl,HSN.out⟩
        case measure=>simp [intOf];omega
  · as_aux_lemma =>
     have hge:¬ ((k:Int)<(nl:Int)):=by omega
     have hkn:k=l.length:=by have:=hnl.out;omega
     have htk:l.take k=l:=by rw [hkn,List.take_length]
     have hgd:=hst_good (hs0 tr) (l.take k) new_good H00.out
     have hFM:M.Fits:=fits_goodH hgd.1 hsl.sm
     have hFC:C.Fits:=fits_chF hgd.2 hsl.sc
     have hCM:=fun w' (hb:Below wr.heap.size wr w')=>mcopy_any M w' (hsl.m.own.at_.below hb) hFM
     have hCC:=fun w' (hb:Below wr.heap.size wr w')=>ccopy_any C w' (hsl.c.own.at_.below hb) hFC
     unfold Mv.val at hCM
     unfold Cv.val at hCC
     have HTK:Hid (_):=htk
     have BT:Hid (∀ w',Below wr.heap.size wr w'→Below W2.heap.size W2 w'):=fun w' hb=>hsl.bel.trans (hb.mono hsl.bel.size)
     have GG:Hid (∀ w',Below wr.heap.size wr w'→(w'.cell? ⟨P,0,none⟩=some (.slice M.fa M.frs.length M.fcap)∧w'.cell? ⟨P,1,none⟩=some (.slice M.ea M.ens.length M.ecap)∧w'.cell? ⟨P,2,none⟩=some (.slice M.qa M.qus.length M.qcap)∧w'.cell? ⟨Q,0,none⟩=some (.slice C.ta C.tr.length C.tcap)∧w'.cell? ⟨Q,1,none⟩=some (.slice C.na C.ns.length C.ncap))):=fun w' hb=>by
      have h:=hsl.keep hb
      exact ⟨h.m.c0,h.m.c1,h.m.c2,h.c.c0,h.c.c1⟩
     have TT:Hid (∀ w',Below wr.heap.size wr w'→(w'.cell? ⟨w.heap.size,0,none⟩=some (.slice none 0 0)∧w'.cell? ⟨w.heap.size,1,none⟩=some (.slice none 0 0)∧w'.cell? ⟨w.heap.size,2,none⟩=some (.slice none 0 0)∧w'.cell? ⟨w.heap.size+1,0,none⟩=some (.slice none 0 0)∧w'.cell? ⟨w.heap.size+1,1,none⟩=some (.slice none 0 0))∧
      (w'.frozen? ⟨w.heap.size,0,none⟩=false∧w'.frozen? ⟨w.heap.size,1,none⟩=false∧w'.frozen? ⟨w.heap.size,2,none⟩=false∧w'.frozen? ⟨w.heap.size+1,0,none⟩=false∧w'.frozen? ⟨w.heap.size+1,1,none⟩=false)∧w.heap.size<w'.heap.size∧w.heap.size+1<w'.heap.size):=fun w' hb=>by
      have b2:=BT.out w' hb
      have z2:=hz2.out
      have s2:=b2.size
      have m9:=(b2.block w.heap.size (by omega)).trans QM.out
      have c9:=(b2.block (w.heap.size+1) (by omega)).trans QC.out
      refine ⟨⟨?_,?_,?_,?_,?_⟩,⟨?_,?_,?_,?_,?_⟩,by omega,by omega⟩
      · simp [World.cell?,m9]
      · simp [World.cell?,m9]
      · simp [World.cell?,m9]
      · simp [World.cell?,c9]
      · simp [World.cell?,c9]
      · simp [World.frozen?,m9]
      · simp [World.frozen?,m9]
      · simp [World.frozen?,m9]
      · simp [World.frozen?,c9]
      · simp [World.frozen?,c9]
     have HSL3:Hid (_):=hsl
     obtain ⟨p0,p1,p2,q0,q1⟩:=GG.out wr (Below.refl _ _)
     have lp:=hsl.m.lt
     have lq:=hsl.c.lt
     have z2:=hz2.out
     have gP:=hsl.gp
     have gQ:=hsl.gq
     have nP0:¬ P=w.heap.size:=by omega
     have nP1:¬ P=w.heap.size+1:=by omega
     have nQ0:¬ Q=w.heap.size:=by omega
     have nQ1:¬ Q=w.heap.size+1:=by omega
     have mP0:¬ w.heap.size=P:=by omega
     have mP1:¬ w.heap.size+1=P:=by omega
     have mQ0:¬ w.heap.size=Q:=by omega
     have mQ1:¬ w.heap.size+1=Q:=by omega
     clear z2 gP gQ
     clear hlt hgd hsl htk hkn hFM hFC
     go_upto_region 55 with fail
     go_region_held3 (fun w'=>w'.cell? ⟨P,0,none⟩=some (.slice M.fa M.frs.length M.fcap)∧w'.cell? ⟨P,1,none⟩=some (.slice M.ea M.ens.length M.ecap)∧w'.cell? ⟨P,2,none⟩=some (.slice M.qa M.qus.length M.qcap)∧w'.cell? ⟨Q,0,none⟩=some (.slice C.ta C.tr.length C.tcap)∧w'.cell? ⟨Q,1,none⟩=some (.slice C.na C.ns.length C.ncap))
      (first | (with_reducible exact ⟨p0,p1,p2,q0,q1⟩) | (with_reducible exact hG7) | (with_reducible exact hG8) | go_keep)
      (first
      | (go_at_call 58;refine (hCM _ (by repeat (first | (with_reducible exact Below.refl _ _) | (with_reducible exact HB8.out) | (with_reducible refine Below.drew ?_)))).mono ?_;clear hCM;rintro e w7 ⟨N,rfl,hNS,hNO,hb7⟩;have HB7:Hid (Below wr.heap.size wr w7):=Below.trans (by repeat (first | (with_reducible exact Below.refl _ _) | (with_reducible exact HB8.out) | (with_reducible refine Below.drew ?_))) (hb7.mono (by first | exact Nat.le_refl _ | exact HB8.out.size));have hG7:=GG.out w7 HB7.out;have HN7:Hid (_):=And.intro hNS hNO;have HBB7:Hid (_):=hb7;clear hNS hNO hb7;obtain ⟨⟨y0,y1,y2,y3,y4⟩,⟨f0,f1,f2,f3,f4⟩,g0,g1⟩:=TT.out w7 HB7.out)
      | (go_at_call 59;refine (hCC _ (by repeat (first | (with_reducible exact Below.refl _ _) | (with_reducible exact HB7.out) | (with_reducible refine Below.drew ?_)))).mono ?_;clear hCC;rintro e w8 ⟨E,rfl,hES,hEO,hb8⟩;have HB8:Hid (Below wr.heap.size wr w8):=Below.trans (by repeat (first | (with_reducible exact Below.refl _ _) | (with_reducible exact HB7.out) | (with_reducible refine Below.drew ?_))) (hb8.mono (by first | exact Nat.le_refl _ | exact HB7.out.size));have hG8:=GG.out w8 HB8.out;have HE8:Hid (_):=And.intro hES hEO;have HBB8:Hid (_):=hb8;clear hES hEO hb8;obtain ⟨⟨y0,y1,y2,y3,y4⟩,⟨f0,f1,f2,f3,f4⟩,g0,g1⟩:=TT.out w8 HB8.out)
      | fail)
     go_wp2
     refine bp_genR fun V9 hV9=>?_
     obtain ⟨V8,hV8⟩:∃ V8,V8=(((w8.setCell ⟨w.heap.size,0,none⟩ (.slice N.fa N.frs.length N.fcap)).setCell ⟨w.heap.size,1,none⟩ (.slice N.ea N.ens.length N.ecap)).setCell ⟨w.heap.size,2,none⟩ (.slice N.qa N.qus.length N.qcap)):=⟨_,rfl⟩
     obtain ⟨k0,k1,k2⟩:=blk3' (b:=w.heap.size) (v0:=.slice N.fa N.frs.length N.fcap) (v1:=.slice N.ea N.ens.length N.ecap) (v2:=.slice N.qa N.qus.length N.qcap) y0 y1 y2
     have hh8:∀ c,c≠w.heap.size→V8.heap[c]? = w8.heap[c]?:=fun c hc=>by rw [hV8];exact blk3_heap' c hc
     have B8:Below w.heap.size w V8:=by rw [hV8];exact blk3_below' (BW.out.trans ((BT.out w8 HB8.out).mono BW.out.size)) (Nat.le_refl _)
     have hs8:V8.heap.size=w8.heap.size:=by rw [hV8];simp [World.setCell]
     rw [← hV8] at hV9 k0 k1 k2
     have z3:V8.cell? ⟨w.heap.size+1,0,none⟩=some (.slice none 0 0):=(World.cell?_of_block (hh8 _ (Nat.succ_ne_self _))).trans y3
     have z4:V8.cell? ⟨w.heap.size+1,1,none⟩=some (.slice none 0 0):=(World.cell?_of_block (hh8 _ (Nat.succ_ne_self _))).trans y4
     have o5:∀ o,V9.cell? ⟨w.heap.size,o,none⟩=V8.cell? ⟨w.heap.size,o,none⟩:=fun o=>by rw [hV9];exact (far_cell _ 1 o _ (by omega)).trans (far_cell _ 0 o _ (by omega))
     rw [← o5] at k0 k1 k2
     have k3:V9.cell? ⟨w.heap.size+1,0,none⟩=some (.slice E.ta E.tr.length E.tcap):=by rw [hV9];exact (oth_cell _ _ 1 0 _ (by omega)).trans (World.cell?_setCell_same _ _ _ z3)
     have k4:V9.cell? ⟨w.heap.size+1,1,none⟩=some (.slice E.na E.ns.length E.ncap):=by rw [hV9];exact World.cell?_setCell_same _ _ _ ((oth_cell _ _ 0 1 _ (by omega)).trans z4)
     have hh9:∀ c,c≠w.heap.size→c≠w.heap.size+1→V9.heap[c]? = w8.heap[c]?:=fun c h1 h2=>by rw [hV9,set_heap _ _ _ _ _ h2,set_heap _ _ _ _ _ h2];exact hh8 c h1
     have hs9:V9.heap.size=w8.heap.size:=by rw [hV9];simp [World.setCell];exact hs8
     have B9:Below w.heap.size w V9:=by rw [hV9];exact (B8.setCell (p:=⟨w.heap.size+1,0,none⟩) (Nat.le_succ _) _).setCell (p:=⟨w.heap.size+1,1,none⟩) (Nat.le_succ _) _
     have gW:=HSL3.out.bel.size
     have z2:=hz2.out
     have s7:wr.heap.size≤w7.heap.size:=HB7.out.size
     have N8:Owned wr.heap.size w8 N:=Owned.below (n0:=wr.heap.size) HN7.out.2 (by first | exact HBB8.out | exact Below.refl _ _)
     have E8:COwn wr.heap.size w8 E:=COwn.mono HE8.out.2 (by first | exact s7 | exact Nat.le_refl _)
     have N9:Owned w.heap.size V9 N:=(N8.keepM (fun c hc=>by have:=(Mine.fresh N8 hc).1;exact hh9 c (by omega) (by omega)) (by omega)).mono (by omega)
     have E9:COwn w.heap.size V9 E:=(E8.keepC (fun c hc=>by have:=(MineC.fresh E8 hc).1;exact hh9 c (by omega) (by omega))).mono (by omega)
     have R9:OwnsAn V9 W2.heap.size v (hans (hs0 tr) l):=by
      have h:=HSL3.out.row
      rw [HTK.out] at h
      exact h.keepH (fun g hg=>by have:=h.lt g hg;exact (hh9 g (by omega) (by omega)).trans (HB8.out.block g this.2))
     obtain ⟨aa,acap,rfl,hrow⟩:=an_row R9
     have sM:=HSL3.out.sm
     have sC:=HSL3.out.sc
     rw [HTK.out] at sM sC
     clear hV9 hV8
     (try simp only [Exit.inBlock,Exit.then])
     refine bodyPost_ret (by simp [results,Tryz.results14,go_sem,k0,k1,k2,k3,k4];try rfl) rfl ?_
     exact ⟨aa,acap,_,N,E,rfl,hrow,rfl,HN7.out.1.trans sM,HE8.out.1.trans sC,N9,E9,B9⟩
end Go.Proofs.YtdngbojbpmdegaaGreatDoor
