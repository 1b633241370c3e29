import Derived.Test.YtdngbojbpmdegaaGreatDoorJRefEnter
namespace Go.Proofs.YtdngbojbpmdegaaGreatDoor
open Go.RowKit
set_option linter.unusedVariables false
structure ZB3 (w2:World) (b:Nat):Prop where
 e0:w2.cell? ⟨b,0,none⟩=some (.slice none 0 0)
 e1:w2.cell? ⟨b,1,none⟩=some (.slice none 0 0)
 e2:w2.cell? ⟨b,2,none⟩=some (.slice none 0 0)
 fz:∀ o,w2.frozen? ⟨b,o,none⟩=false
 lt:b<w2.heap.size
structure ZB2 (w2:World) (b:Nat):Prop where
 e0:w2.cell? ⟨b,0,none⟩=some (.int .i64 0)
 e1:w2.cell? ⟨b,1,none⟩=some (.int .i64 0)
 fz:∀ o,w2.frozen? ⟨b,o,none⟩=false
 lt:b<w2.heap.size
theorem ZB3.mk' {X w2:World} {b:Nat} {t:TypeId} (hX:X.heap[b]? = some (.cells #[.slice none 0 0,.slice none 0 0,.slice none 0 0] t (0,0))) (hb:Below X.heap.size X w2):ZB3 w2 b:=by
 have hlt:=(Array.getElem?_eq_some_iff.1 hX).1
 have h2:=(hb.block _ hlt).trans hX
 exact ⟨by simp [World.cell?,h2],by simp [World.cell?,h2],by simp [World.cell?,h2],fun o=>frozen_of_block h2 o,Nat.lt_of_lt_of_le hlt hb.size⟩
theorem ZB2.mk' {X w2:World} {b:Nat} {t:TypeId} (hX:X.heap[b]? = some (.cells #[.int .i64 0,.int .i64 0] t (0,0))) (hb:Below X.heap.size X w2):ZB2 w2 b:=by
 have hlt:=(Array.getElem?_eq_some_iff.1 hX).1
 have h2:=(hb.block _ hlt).trans hX
 exact ⟨by simp [World.cell?,h2],by simp [World.cell?,h2],fun o=>frozen_of_block h2 o,Nat.lt_of_lt_of_le hlt hb.size⟩
theorem new2 (X:World) (o1 o2:Obj):((X.alloc o1).alloc o2).heap[X.heap.size]? = some o1∧((X.alloc o1).alloc o2).heap[X.heap.size+1]? = some o2:=by
 refine ⟨?_,?_⟩
 · rw [Below.heap_alloc _ _ _ (by simp)];exact Go.Deep.blk_alloc_new _ _
 · have:=Go.Deep.blk_alloc_new (X.alloc o1) o2
   simpa using this
theorem zM1 {Wb w2:World} {t:TypeId} (hb:Below (Wb.alloc (.cells #[.slice none 0 0,.slice none 0 0,.slice none 0 0] t)).drew.heap.size (Wb.alloc (.cells #[.slice none 0 0,.slice none 0 0,.slice none 0 0] t)).drew w2):ZB3 w2 Wb.heap.size:=by
 refine ZB3.mk' (t:=t) ?_ hb
 exact Go.Deep.blk_alloc_new _ _
theorem zO1 {Wb w2:World} {t:TypeId} (hb:Below (Wb.alloc (.cells #[.int .i64 0,.int .i64 0] t)).drew.heap.size (Wb.alloc (.cells #[.int .i64 0,.int .i64 0] t)).drew w2):ZB2 w2 Wb.heap.size:=by
 refine ZB2.mk' (t:=t) ?_ hb
 exact Go.Deep.blk_alloc_new _ _
theorem zMO {Wb w2:World} {t s:TypeId} (hb:Below ((Wb.alloc (.cells #[.slice none 0 0,.slice none 0 0,.slice none 0 0] t)).alloc (.cells #[.int .i64 0,.int .i64 0] s)).drew.heap.size ((Wb.alloc (.cells #[.slice none 0 0,.slice none 0 0,.slice none 0 0] t)).alloc (.cells #[.int .i64 0,.int .i64 0] s)).drew w2):ZB3 w2 Wb.heap.size∧ZB2 w2 (Wb.heap.size+1):=by
 refine ⟨ZB3.mk' (t:=t) ?_ hb,ZB2.mk' (t:=s) ?_ hb⟩
 · exact (new2 _ _ _).1
 · exact (new2 _ _ _).2
theorem zOM {Wb w2:World} {t s:TypeId} (hb:Below ((Wb.alloc (.cells #[.int .i64 0,.int .i64 0] s)).alloc (.cells #[.slice none 0 0,.slice none 0 0,.slice none 0 0] t)).drew.heap.size ((Wb.alloc (.cells #[.int .i64 0,.int .i64 0] s)).alloc (.cells #[.slice none 0 0,.slice none 0 0,.slice none 0 0] t)).drew w2):ZB2 w2 Wb.heap.size∧ZB3 w2 (Wb.heap.size+1):=by
 refine ⟨ZB2.mk' (t:=s) ?_ hb,ZB3.mk' (t:=t) ?_ hb⟩
 · exact (new2 _ _ _).1
 · exact (new2 _ _ _).2
structure RBox (n1:Nat) (W3 V:World) (N:Mv) (nd v:Int) (P Z:Nat):Prop where
 p0:V.cell? ⟨P,0,none⟩=some (.slice N.fa N.frs.length N.fcap)
 p1:V.cell? ⟨P,1,none⟩=some (.slice N.ea N.ens.length N.ecap)
 p2:V.cell? ⟨P,2,none⟩=some (.slice N.qa N.qus.length N.qcap)
 o0:V.cell? ⟨Z,0,none⟩=some (.int .i64 nd)
 o1:V.cell? ⟨Z,1,none⟩=some (.int .i64 v)
 bel:Below W3.heap.size W3 V
 own:Owned n1 V N
 gp:W3.heap.size≤P
 gz:W3.heap.size≤Z
theorem RBox.mono {n1 n2:Nat} {W3 V:World} {N:Mv} {nd v:Int} {P Z:Nat} (h:RBox n1 W3 V N nd v P Z) (hn:n2≤n1):RBox n2 W3 V N nd v P Z:=⟨h.p0,h.p1,h.p2,h.o0,h.o1,h.bel,h.own.mono hn,h.gp,h.gz⟩
section
variable {n1:Nat} {W3 w2:World} {N:Mv} {nd v:Int} {t s:TypeId}
theorem rbox1 (hb:Below W3.heap.size W3 w2) (hO:Owned n1 w2 N):RBox n1 W3 ((w2.alloc (.cells #[.slice N.fa N.frs.length N.fcap,.slice N.ea N.ens.length N.ecap,.slice N.qa N.qus.length N.qcap] t)).alloc (.cells #[.int .i64 nd,.int .i64 v] s)) N nd v w2.heap.size (w2.heap.size+1):=by
 obtain ⟨q1,q2⟩:=new2 w2 (.cells #[.slice N.fa N.frs.length N.fcap,.slice N.ea N.ens.length N.ecap,.slice N.qa N.qus.length N.qcap] t) (.cells #[.int .i64 nd,.int .i64 v] s)
 have b2:Below w2.heap.size w2 ((w2.alloc (.cells #[.slice N.fa N.frs.length N.fcap,.slice N.ea N.ens.length N.ecap,.slice N.qa N.qus.length N.qcap] t)).alloc (.cells #[.int .i64 nd,.int .i64 v] s)):=below_allocR (below_allocR (Below.refl _ _) _) _
 generalize (w2.alloc (.cells #[.slice N.fa N.frs.length N.fcap,.slice N.ea N.ens.length N.ecap,.slice N.qa N.qus.length N.qcap] t)).alloc (.cells #[.int .i64 nd,.int .i64 v] s)=V at q1 q2 b2
 have sz:=hb.size
 exact ⟨by simp [World.cell?,q1],by simp [World.cell?,q1],by simp [World.cell?,q1],by simp [World.cell?,q2],by simp [World.cell?,q2],hb.trans (b2.mono sz),hO.below b2,sz,by omega⟩
theorem rbox2 (hb:Below W3.heap.size W3 w2) (hO:Owned n1 w2 N):RBox n1 W3 ((w2.alloc (.cells #[.int .i64 nd,.int .i64 v] s)).alloc (.cells #[.slice N.fa N.frs.length N.fcap,.slice N.ea N.ens.length N.ecap,.slice N.qa N.qus.length N.qcap] t)) N nd v (w2.heap.size+1) w2.heap.size:=by
 obtain ⟨q2,q1⟩:=new2 w2 (.cells #[.int .i64 nd,.int .i64 v] s) (.cells #[.slice N.fa N.frs.length N.fcap,.slice N.ea N.ens.length N.ecap,.slice N.qa N.qus.length N.qcap] t)
 have b2:Below w2.heap.size w2 ((w2.alloc (.cells #[.int .i64 nd,.int .i64 v] s)).alloc (.cells #[.slice N.fa N.frs.length N.fcap,.slice N.ea N.ens.length N.ecap,.slice N.qa N.qus.length N.qcap] t)):=below_allocR (below_allocR (Below.refl _ _) _) _
 generalize (w2.alloc (.cells #[.int .i64 nd,.int .i64 v] s)).alloc (.cells #[.slice N.fa N.frs.length N.fcap,.slice N.ea N.ens.length N.ecap,.slice N.qa N.qus.length N.qcap] t)=V at q1 q2 b2
 have sz:=hb.size
 exact ⟨by simp [World.cell?,q1],by simp [World.cell?,q1],by simp [World.cell?,q1],by simp [World.cell?,q2],by simp [World.cell?,q2],hb.trans (b2.mono sz),hO.below b2,by omega,sz⟩
theorem set2_below {w0 w:World} {b B:Nat} {v0 v1:Value} (h:Below B w0 w) (hb:B≤b):Below B w0 ((w.setCell ⟨b,0,none⟩ v0).setCell ⟨b,1,none⟩ v1):=(h.setCell hb _).setCell hb _
theorem set2_heap {w:World} {b:Nat} {v0 v1:Value} (c:Nat) (h:c≠b):((w.setCell ⟨b,0,none⟩ v0).setCell ⟨b,1,none⟩ v1).heap[c]? = w.heap[c]?:=by rw [set_heap _ _ _ _ _ h,set_heap _ _ _ _ _ h]
theorem set2_size {w:World} {b:Nat} {v0 v1:Value} : ((w.setCell ⟨b,0,none⟩ v0).setCell ⟨b,1,none⟩ v1).heap.size=w.heap.size:=by simp [World.setCell]
theorem rset3 {b:Nat} (hb:Below W3.heap.size W3 w2) (hO:Owned n1 w2 N) (hn:b<n1) (hg:W3.heap.size≤b) (z:ZB3 w2 b):Below W3.heap.size W3 (((w2.setCell ⟨b,0,none⟩ (.slice N.fa N.frs.length N.fcap)).setCell ⟨b,1,none⟩ (.slice N.ea N.ens.length N.ecap)).setCell ⟨b,2,none⟩ (.slice N.qa N.qus.length N.qcap))∧Owned n1 (((w2.setCell ⟨b,0,none⟩ (.slice N.fa N.frs.length N.fcap)).setCell ⟨b,1,none⟩ (.slice N.ea N.ens.length N.ecap)).setCell ⟨b,2,none⟩ (.slice N.qa N.qus.length N.qcap)) N:=
 ⟨blk3_below hb hg,hO.keep (fun g hg _=>blk3_heap g (by omega)) (by rw [blk3_size];exact Nat.le_refl _)⟩
theorem rset2 {b:Nat} (hb:Below W3.heap.size W3 w2) (hO:Owned n1 w2 N) (hn:b<n1) (hg:W3.heap.size≤b):Below W3.heap.size W3 ((w2.setCell ⟨b,0,none⟩ (.int .i64 nd)).setCell ⟨b,1,none⟩ (.int .i64 v))∧Owned n1 ((w2.setCell ⟨b,0,none⟩ (.int .i64 nd)).setCell ⟨b,1,none⟩ (.int .i64 v)) N:=
 ⟨set2_below hb hg,hO.keep (fun g hg _=>set2_heap g (by omega)) (by rw [set2_size];exact Nat.le_refl _)⟩
theorem rbox3 {b:Nat} (hb:Below W3.heap.size W3 w2) (hO:Owned n1 w2 N) (hn:b<n1) (hg:W3.heap.size≤b) (z:ZB3 w2 b):RBox n1 W3 ((((w2.setCell ⟨b,0,none⟩ (.slice N.fa N.frs.length N.fcap)).setCell ⟨b,1,none⟩ (.slice N.ea N.ens.length N.ecap)).setCell ⟨b,2,none⟩ (.slice N.qa N.qus.length N.qcap)).alloc (.cells #[.int .i64 nd,.int .i64 v] s)) N nd v b w2.heap.size:=by
 obtain ⟨k0,k1,k2⟩:=blk3 (v0:=.slice N.fa N.frs.length N.fcap) (v1:=.slice N.ea N.ens.length N.ecap) (v2:=.slice N.qa N.qus.length N.qcap) z.e0 z.e1 z.e2
 obtain ⟨h1,h2⟩:=rset3 hb hO hn hg z
 have sz:(((w2.setCell ⟨b,0,none⟩ (.slice N.fa N.frs.length N.fcap)).setCell ⟨b,1,none⟩ (.slice N.ea N.ens.length N.ecap)).setCell ⟨b,2,none⟩ (.slice N.qa N.qus.length N.qcap)).heap.size=w2.heap.size:=blk3_size
 generalize ((w2.setCell ⟨b,0,none⟩ (.slice N.fa N.frs.length N.fcap)).setCell ⟨b,1,none⟩ (.slice N.ea N.ens.length N.ecap)).setCell ⟨b,2,none⟩ (.slice N.qa N.qus.length N.qcap)=V at k0 k1 k2 h1 h2 sz
 have ba:Below V.heap.size V (V.alloc (.cells #[.int .i64 nd,.int .i64 v] s)):=below_allocR (Below.refl _ _) _
 have q:(V.alloc (.cells #[.int .i64 nd,.int .i64 v] s)).heap[V.heap.size]? = some (.cells #[.int .i64 nd,.int .i64 v] s):=Go.Deep.blk_alloc_new _ _
 rw [← sz]
 have bl:b<V.heap.size:=lt_of_cell k0
 generalize V.alloc (.cells #[.int .i64 nd,.int .i64 v] s)=U at ba q
 exact ⟨(ba.cell (p:=⟨b,0,none⟩) bl).trans k0,(ba.cell (p:=⟨b,1,none⟩) bl).trans k1,(ba.cell (p:=⟨b,2,none⟩) bl).trans k2,by simp [World.cell?,q],by simp [World.cell?,q],h1.trans (ba.mono h1.size),h2.below ba,hg,h1.size⟩
theorem rbox4 {b c:Nat} (hb:Below W3.heap.size W3 w2) (hO:Owned n1 w2 N) (hn:b<n1) (hg:W3.heap.size≤b) (z:ZB3 w2 b) (hc:c<n1) (hgc:W3.heap.size≤c) (zc:ZB2 w2 c) (ne:b≠c):RBox n1 W3 (((((w2.setCell ⟨b,0,none⟩ (.slice N.fa N.frs.length N.fcap)).setCell ⟨b,1,none⟩ (.slice N.ea N.ens.length N.ecap)).setCell ⟨b,2,none⟩ (.slice N.qa N.qus.length N.qcap)).setCell ⟨c,0,none⟩ (.int .i64 nd)).setCell ⟨c,1,none⟩ (.int .i64 v)) N nd v b c:=by
 obtain ⟨k0,k1,k2⟩:=blk3 (v0:=.slice N.fa N.frs.length N.fcap) (v1:=.slice N.ea N.ens.length N.ecap) (v2:=.slice N.qa N.qus.length N.qcap) z.e0 z.e1 z.e2
 obtain ⟨h1,h2⟩:=rset3 hb hO hn hg z
 have kc:=blk3_heap (w:=w2) (b:=b) (v0:=.slice N.fa N.frs.length N.fcap) (v1:=.slice N.ea N.ens.length N.ecap) (v2:=.slice N.qa N.qus.length N.qcap) c ne.symm
 generalize ((w2.setCell ⟨b,0,none⟩ (.slice N.fa N.frs.length N.fcap)).setCell ⟨b,1,none⟩ (.slice N.ea N.ens.length N.ecap)).setCell ⟨b,2,none⟩ (.slice N.qa N.qus.length N.qcap)=V at k0 k1 k2 h1 h2 kc
 have c0:V.cell? ⟨c,0,none⟩=some (.int .i64 0):=(World.cell?_of_block kc).trans zc.e0
 have c1:V.cell? ⟨c,1,none⟩=some (.int .i64 0):=(World.cell?_of_block kc).trans zc.e1
 obtain ⟨j0,j1⟩:=blk2R (v0:=.int .i64 nd) (v1:=.int .i64 v) c0 c1
 obtain ⟨g1,g2⟩:=rset2 (nd:=nd) (v:=v) h1 h2 hc hgc
 have kp:=set2_heap (w:=V) (b:=c) (v0:=.int .i64 nd) (v1:=.int .i64 v) b ne
 generalize (V.setCell ⟨c,0,none⟩ (.int .i64 nd)).setCell ⟨c,1,none⟩ (.int .i64 v)=U at j0 j1 g1 g2 kp
 exact ⟨(World.cell?_of_block kp).trans k0,(World.cell?_of_block kp).trans k1,(World.cell?_of_block kp).trans k2,j0,j1,g1,g2,hg,hgc⟩
theorem rbox5 {c:Nat} (hb:Below W3.heap.size W3 w2) (hO:Owned n1 w2 N) (hc:c<n1) (hgc:W3.heap.size≤c) (zc:ZB2 w2 c):RBox n1 W3 (((w2.setCell ⟨c,0,none⟩ (.int .i64 nd)).setCell ⟨c,1,none⟩ (.int .i64 v)).alloc (.cells #[.slice N.fa N.frs.length N.fcap,.slice N.ea N.ens.length N.ecap,.slice N.qa N.qus.length N.qcap] t)) N nd v w2.heap.size c:=by
 obtain ⟨k0,k1⟩:=blk2R (v0:=.int .i64 nd) (v1:=.int .i64 v) zc.e0 zc.e1
 obtain ⟨h1,h2⟩:=rset2 (nd:=nd) (v:=v) hb hO hc hgc
 have sz:((w2.setCell ⟨c,0,none⟩ (.int .i64 nd)).setCell ⟨c,1,none⟩ (.int .i64 v)).heap.size=w2.heap.size:=set2_size
 generalize (w2.setCell ⟨c,0,none⟩ (.int .i64 nd)).setCell ⟨c,1,none⟩ (.int .i64 v)=V at k0 k1 h1 h2 sz
 have ba:Below V.heap.size V (V.alloc (.cells #[.slice N.fa N.frs.length N.fcap,.slice N.ea N.ens.length N.ecap,.slice N.qa N.qus.length N.qcap] t)):=below_allocR (Below.refl _ _) _
 have q:(V.alloc (.cells #[.slice N.fa N.frs.length N.fcap,.slice N.ea N.ens.length N.ecap,.slice N.qa N.qus.length N.qcap] t)).heap[V.heap.size]? = some (.cells #[.slice N.fa N.frs.length N.fcap,.slice N.ea N.ens.length N.ecap,.slice N.qa N.qus.length N.qcap] t):=Go.Deep.blk_alloc_new _ _
 rw [← sz]
 have bl:c<V.heap.size:=lt_of_cell k0
 generalize V.alloc (.cells #[.slice N.fa N.frs.length N.fcap,.slice N.ea N.ens.length N.ecap,.slice N.qa N.qus.length N.qcap] t)=U at ba q
 exact ⟨by simp [World.cell?,q],by simp [World.cell?,q],by simp [World.cell?,q],(ba.cell (p:=⟨c,0,none⟩) bl).trans k0,(ba.cell (p:=⟨c,1,none⟩) bl).trans k1,h1.trans (ba.mono h1.size),h2.below ba,h1.size,hgc⟩
end
set_option maxRecDepth 100000 in
set_option maxHeartbeats 8000000 in
theorem resumedOf_any (M:Mv) (e fuel:Int) (w:World) (hM:MachAt w M) (hF:M.Fits) :
 Calls Tryz.prog 54 #[M.val,.int .i64 e,.int .i64 fuel] w (RunSaid (resD M e fuel) (resV M e fuel) (fuelF M e 3 fuel) (resM M e fuel) w):=by
 have h1':=fun w' (h:Below w.heap.size w w')=>asked_any M e 3 w' (hM.below h)
 have h2':=fun w' (h:Below w.heap.size w w') m pc r0 r1 r2 r3 f=>fun ho hf=>ranOf_run M m pc r0 r1 r2 r3 f w' (hM.below h) hF ho hf
 obtain ⟨z,hz⟩:∃ z,z=fuelF M e 3 fuel:=⟨_,rfl⟩
 obtain ⟨T,hT⟩:∃ T,T=resM M e fuel:=⟨_,rfl⟩
 obtain ⟨nd,hnd⟩:∃ nd,nd=resD M e fuel:=⟨_,rfl⟩
 obtain ⟨v,hv⟩:∃ v,v=resV M e fuel:=⟨_,rfl⟩
 rw [← hz,← hT,← hnd,← hv]
 by_cases h0:fuelF M e 3 fuel=0
 · obtain ⟨m,f,rfl,rfl,hf,ho⟩:=res_ok h0
   rw [(fuelF_zero h0).1] at h1'
   have hiF:inB (f:Int) 0 5000=true:=inB_iff.2 (fuelF_zero h0).2
   obtain ⟨E,hE⟩:∃ E,E=M.ens.getD m default:=⟨_,rfl⟩
   have h2'':=fun w' h=>h2' w' h m E.pc E.g0 E.g1 E.g2 E.g3 f (by rw [hE];exact ho) hf
   have HT:Hid (T=leftM (runR f M m E.pc [E.g0,E.g1,E.g2,E.g3] xorR) m):=by show T=_;rw [hT,hE];unfold resM resR;rw [if_pos h0,show ((m:Int)+1 - 1).toNat=m by omega,Int.toNat_natCast];rfl
   have HND:Hid (nd=(runR f M m E.pc [E.g0,E.g1,E.g2,E.g3] xorR).nd):=by show nd=_;rw [hnd,hE];unfold resD resR;rw [if_pos h0,show ((m:Int)+1 - 1).toNat=m by omega,Int.toNat_natCast];rfl
   have HV:Hid (v=(runR f M m E.pc [E.g0,E.g1,E.g2,E.g3] xorR).v):=by show v=_;rw [hv,hE];unfold resV resR;rw [if_pos h0,show ((m:Int)+1 - 1).toNat=m by omega,Int.toNat_natCast];rfl
   have HZ:Hid (z=0):=by show z=0;rw [hz,h0]
   unfold RanOfSaid at h2''
   rw [← HND.out,← HV.out,← HT.out] at h2''
   have hm4:=ho.m4
   have hl4:=ho.good.s2
   obtain ⟨eb,eo,hea,t0,t1,t2,t3,t4,t5,t6⟩:=hM.enclave (j:=m) (by omega)
   rw [← hE] at t0 t1 t2 t3 t4 t5 t6
   have el:=lt_of_cell t0
   have EE' : Hid (∀ w1,Below w.heap.size w w1→w1.cell? ⟨eb,eo+m * 7,none⟩=some (.int .i64 E.st)∧w1.cell? ⟨eb,eo+m * 7+1,none⟩=some (.string E.log)∧w1.cell? ⟨eb,eo+m * 7+2,none⟩=some (.int .i64 E.pc)∧w1.cell? ⟨eb,eo+m * 7+3,none⟩=some (.int .i64 E.g0)∧w1.cell? ⟨eb,eo+m * 7+4,none⟩=some (.int .i64 E.g1)∧w1.cell? ⟨eb,eo+m * 7+5,none⟩=some (.int .i64 E.g2)∧w1.cell? ⟨eb,eo+m * 7+6,none⟩=some (.int .i64 E.g3)∧eb<w1.heap.size):=fun w1 hb=>⟨(hb.cell (p:=⟨eb,eo+m * 7,none⟩) el).trans t0,(hb.cell (p:=⟨eb,eo+m * 7+1,none⟩) el).trans t1,(hb.cell (p:=⟨eb,eo+m * 7+2,none⟩) el).trans t2,(hb.cell (p:=⟨eb,eo+m * 7+3,none⟩) el).trans t3,(hb.cell (p:=⟨eb,eo+m * 7+4,none⟩) el).trans t4,(hb.cell (p:=⟨eb,eo+m * 7+5,none⟩) el).trans t5,(hb.cell (p:=⟨eb,eo+m * 7+6,none⟩) el).trans t6,Nat.lt_of_lt_of_le el hb.size⟩
   have hwm:IntKind.i64.wrap ((m:Int)+1 - 1)=(m:Int):=by rw [IntKind.wrap_i64];omega
   unfold Mv.val at h1' h2''
   unfold Mv.val
   obtain ⟨fa,frs,fcap,ea,ens,ecap,qa,qus,qcap⟩:=M
   dsimp only at h1' h2'' hea hl4 ⊢
   subst hea
   clear hM hF hz hT hnd hv h0 h2' ho hf hE t0 t1 t2 t3 t4 t5 t6 el
   obtain ⟨W3,hW3⟩:∃ W3,Hid (W3=(((w.alloc (.cells #[.slice fa frs.length fcap,.slice (some ⟨eb,eo,none⟩) ens.length ecap,.slice qa qus.length qcap] 29)).alloc (.cells #[.slice none 0 0,.slice none 0 0,.slice none 0 0] 29)).alloc (.cells #[.int .i64 0,.int .i64 0] 47))):=⟨_,rfl⟩
   have BW:Hid (Below w.heap.size w W3):=by show Below _ _ _;rw [hW3.out];exact below_allocR (below_allocR (below_allocR (Below.refl _ _) _) _) _
   have FC:Hid (∀ w1,Below W3.heap.size W3 w1→w1.cell? ⟨w.heap.size,0,none⟩=some (.slice fa frs.length fcap)∧w1.cell? ⟨w.heap.size,1,none⟩=some (.slice (some ⟨eb,eo,none⟩) ens.length ecap)∧w1.cell? ⟨w.heap.size,2,none⟩=some (.slice qa qus.length qcap)∧w1.heap[w.heap.size+1]? = some (.cells #[.slice none 0 0,.slice none 0 0,.slice none 0 0] 29 (0,0))∧w1.heap[w.heap.size+1+1]? = some (.cells #[.int .i64 0,.int .i64 0] 47 (0,0))):=fun w1 hb=>by
    have q1:W3.heap[w.heap.size]? = some (.cells #[.slice fa frs.length fcap,.slice (some ⟨eb,eo,none⟩) ens.length ecap,.slice qa qus.length qcap] 29):=by
     rw [hW3.out,Below.heap_alloc _ _ _ (by simp;omega),Below.heap_alloc _ _ _ (by simp)];exact Go.Deep.blk_alloc_new _ _
    have q2:W3.heap[w.heap.size+1]? = some (.cells #[.slice none 0 0,.slice none 0 0,.slice none 0 0] 29):=by
     rw [hW3.out,Below.heap_alloc _ _ _ (by simp)]
     have:=Go.Deep.blk_alloc_new (w.alloc (.cells #[.slice fa frs.length fcap,.slice (some ⟨eb,eo,none⟩) ens.length ecap,.slice qa qus.length qcap] 29)) (.cells #[.slice none 0 0,.slice none 0 0,.slice none 0 0] 29)
     simpa using this
    have q3:W3.heap[w.heap.size+1+1]? = some (.cells #[.int .i64 0,.int .i64 0] 47):=by
     rw [hW3.out]
     have:=Go.Deep.blk_alloc_new ((w.alloc (.cells #[.slice fa frs.length fcap,.slice (some ⟨eb,eo,none⟩) ens.length ecap,.slice qa qus.length qcap] 29)).alloc (.cells #[.slice none 0 0,.slice none 0 0,.slice none 0 0] 29)) (.cells #[.int .i64 0,.int .i64 0] 47)
     simpa using this
    have q1':=(hb.block _ (Array.getElem?_eq_some_iff.1 q1).1).trans q1
    have q2':=(hb.block _ (Array.getElem?_eq_some_iff.1 q2).1).trans q2
    have q3':=(hb.block _ (Array.getElem?_eq_some_iff.1 q3).1).trans q3
    exact ⟨by simp [World.cell?,q1'],by simp [World.cell?,q1'],by simp [World.cell?,q1'],q2',q3'⟩
   obtain ⟨m0,m1,m2,_,_⟩:=FC.out W3 (Below.refl _ _)
   have h1:=fun w' (h:Below W3.heap.size W3 w')=>h1' w' (BW.out.trans (h.mono BW.out.size))
   have EE:Hid (∀ w1,Below W3.heap.size W3 w1→_):=fun w1 hb=>EE'.out w1 (BW.out.trans (hb.mono BW.out.size))
   have h2:=fun w' (h:Below W3.heap.size W3 w')=>h2'' w' (BW.out.trans (h.mono BW.out.size))
   rw [hl4] at h1 h2 m1 FC hW3 ⊢
   have HL4:Hid (ens.length=4):=hl4
   clear h1' h2'' EE' hl4
   go_enter Tryz.func54,Tryz.ntmps54
   go_upto_region 1 with fail
   rw [← hW3.out]
   clear hW3
   go_upto_region 6 with (first
    | (go_at_call 107;refine (h1 _ (Below.refl _ _)).mono ?_;clear h1;rintro x w1 ⟨rfl,hb1⟩;clear m0 m1 m2;obtain ⟨m0,m1,m2,hx,hy⟩:=FC.out w1 hb1;have HB1:Hid (Below W3.heap.size W3 w1):=hb1;obtain ⟨x0,x1,x2,y0,y1,fx0,fx1,fx2,fy0,fy1⟩:=five_of hx hy;(obtain ⟨t0,t1,t2,t3,t4,t5,t6,tl⟩:=EE.out w1 hb1);have ml:w.heap.size<w1.heap.size:=lt_of_cell m0;clear hb1 hx hy)
    | (go_at_call 56;refine (in_any _ _ _ _).mono ?_;rintro e w' ⟨rfl,rfl⟩))
   have GG:Hid (∀ w',Below W3.heap.size W3 w'→w'.cell? ⟨w.heap.size,0,none⟩=some (.slice fa frs.length fcap)∧w'.cell? ⟨w.heap.size,1,none⟩=some (.slice (some ⟨eb,eo,none⟩) 4 ecap)∧w'.cell? ⟨w.heap.size,2,none⟩=some (.slice qa qus.length qcap)∧w'.cell? ⟨eb,eo+m * 7+2,none⟩=some (.int .i64 E.pc)∧w'.cell? ⟨eb,eo+m * 7+3,none⟩=some (.int .i64 E.g0)∧w'.cell? ⟨eb,eo+m * 7+4,none⟩=some (.int .i64 E.g1)∧w'.cell? ⟨eb,eo+m * 7+5,none⟩=some (.int .i64 E.g2)∧w'.cell? ⟨eb,eo+m * 7+6,none⟩=some (.int .i64 E.g3)):=fun w' hb=>by
    obtain ⟨a0,a1,a2,_,_⟩:=FC.out w' hb
    obtain ⟨_,_,b2,b3,b4,b5,b6,_⟩:=EE.out w' hb
    exact ⟨a0,a1,a2,b2,b3,b4,b5,b6⟩
   have s1:=HB1.out.size
   have hm4' : (m:Int)<4:=by omega
   have hwm2:IntKind.i64.wrap (m:Int)=(m:Int):=by rw [IntKind.wrap_i64];omega
   clear x0 x1 x2 y0 y1 fx0 fx1 fx2 fy0 fy1
   go_cut [10,11] from 27 to 47 (fun s10 s11 wx=>∃ P Z N,s10=.pointer (some ⟨P,0,none⟩)∧s11=.pointer (some ⟨Z,0,none⟩)∧Mv.Same N T∧RBox w1.heap.size W3 wx N nd v P Z)
   case first =>
    go_region_held3 (fun w'=>w'.cell? ⟨w.heap.size,0,none⟩=some (.slice fa frs.length fcap)∧w'.cell? ⟨w.heap.size,1,none⟩=some (.slice (some ⟨eb,eo,none⟩) 4 ecap)∧w'.cell? ⟨w.heap.size,2,none⟩=some (.slice qa qus.length qcap)∧w'.cell? ⟨eb,eo+m * 7+2,none⟩=some (.int .i64 E.pc)∧w'.cell? ⟨eb,eo+m * 7+3,none⟩=some (.int .i64 E.g0)∧w'.cell? ⟨eb,eo+m * 7+4,none⟩=some (.int .i64 E.g1)∧w'.cell? ⟨eb,eo+m * 7+5,none⟩=some (.int .i64 E.g2)∧w'.cell? ⟨eb,eo+m * 7+6,none⟩=some (.int .i64 E.g3)) (exact GG.out _ (by repeat (first | (with_reducible exact Below.refl _ _) | (with_reducible exact HB1.out) | (with_reducible exact HBC.out) | (with_reducible refine Below.drew ?_) | (with_reducible refine below_allocR ?_ _) | (with_reducible refine Below.setCell ?_ (by first | (simp;done) | (simp;omega) | (dsimp only;omega)) _)))) (first
     | (go_at_call 111;refine (h2 _ (by repeat (first | (with_reducible exact Below.refl _ _) | (with_reducible exact HB1.out) | (with_reducible exact HBC.out) | (with_reducible refine Below.drew ?_) | (with_reducible refine below_allocR ?_ _) | (with_reducible refine Below.setCell ?_ (by first | (simp;done) | (simp;omega) | (dsimp only;omega)) _)))).mono ?_;clear h2;rintro x w2 ⟨N,rfl,hS,hO,hb2⟩;have HS2:Hid (_):=hS;have HO2:Hid (_):=hO;have HBC:Hid (Below W3.heap.size W3 w2):=Below.trans (by repeat (first | (with_reducible exact Below.refl _ _) | (with_reducible exact HB1.out) | (with_reducible exact HBC.out) | (with_reducible refine Below.drew ?_) | (with_reducible refine below_allocR ?_ _) | (with_reducible refine Below.setCell ?_ (by first | (simp;done) | (simp;omega) | (dsimp only;omega)) _))) (hb2.mono (by first | exact s1 | (simp;done) | (simp;omega)));have s2:w1.heap.size≤w2.heap.size:=Nat.le_trans (by first | exact Nat.le_refl _ | (simp;done) | (simp;omega)) hb2.size;(first | ((with_reducible_and_instances have hzz:=zMO (Wb:=w1) hb2);have ZZ3:Hid (_):=hzz.1;have ZZ2:Hid (_):=hzz.2;have e0:=hzz.1.e0;have e1:=hzz.1.e1;have e2:=hzz.1.e2;have z0:=hzz.1.fz 0;have z1:=hzz.1.fz 1;have z2:=hzz.1.fz 2;have zl:=hzz.1.lt;have i0:=hzz.2.e0;have i1:=hzz.2.e1;have y0_:=hzz.2.fz 0;have y1_:=hzz.2.fz 1;have yl:=hzz.2.lt;clear hzz) | ((with_reducible_and_instances have hzz:=zOM (Wb:=w1) hb2);have ZZ3:Hid (_):=hzz.2;have ZZ2:Hid (_):=hzz.1;have e0:=hzz.2.e0;have e1:=hzz.2.e1;have e2:=hzz.2.e2;have z0:=hzz.2.fz 0;have z1:=hzz.2.fz 1;have z2:=hzz.2.fz 2;have zl:=hzz.2.lt;have i0:=hzz.1.e0;have i1:=hzz.1.e1;have y0_:=hzz.1.fz 0;have y1_:=hzz.1.fz 1;have yl:=hzz.1.lt;clear hzz) | ((with_reducible_and_instances have hzz:=zM1 (Wb:=w1) hb2);have ZZ3:Hid (_):=hzz;have e0:=hzz.e0;have e1:=hzz.e1;have e2:=hzz.e2;have z0:=hzz.fz 0;have z1:=hzz.fz 1;have z2:=hzz.fz 2;have zl:=hzz.lt;clear hzz) | ((with_reducible_and_instances have hzz:=zO1 (Wb:=w1) hb2);have ZZ2:Hid (_):=hzz;have i0:=hzz.e0;have i1:=hzz.e1;have y0_:=hzz.fz 0;have y1_:=hzz.fz 1;have yl:=hzz.lt;clear hzz) | skip);clear hS hO hb2)
     | fail)
    all_goals
     go_wp2_with fail
     go_meet
     case rel=>first
      | (have hR:=(rbox1 (t:=29) (s:=47) (nd:=nd) (v:=v) HBC.out HO2.out).mono (n2:=w1.heap.size) (by first | exact Nat.le_refl _ | (simp;done) | (simp;omega));(with_reducible exact ⟨w2.heap.size,w2.heap.size+1,N,rfl,rfl,HS2.out,hR⟩))
      | (have hR:=(rbox2 (t:=29) (s:=47) (nd:=nd) (v:=v) HBC.out HO2.out).mono (n2:=w1.heap.size) (by first | exact Nat.le_refl _ | (simp;done) | (simp;omega));(with_reducible exact ⟨w2.heap.size+1,w2.heap.size,N,rfl,rfl,HS2.out,hR⟩))
      | (have hR:=(rbox4 (nd:=nd) (v:=v) HBC.out HO2.out (by first | exact Nat.lt_succ_self _ | (simp;done) | (simp;omega) | (dsimp only;omega)) (by omega) ZZ3.out (by first | exact Nat.lt_succ_self _ | (simp;done) | (simp;omega) | (dsimp only;omega)) (by omega) ZZ2.out (by omega)).mono (n2:=w1.heap.size) (by first | exact Nat.le_refl _ | (simp;done) | (simp;omega));(with_reducible exact ⟨_,_,N,rfl,rfl,HS2.out,hR⟩))
      | (have hR:=(rbox3 (s:=47) (nd:=nd) (v:=v) HBC.out HO2.out (by first | exact Nat.lt_succ_self _ | (simp;done) | (simp;omega) | (dsimp only;omega)) (by omega) ZZ3.out).mono (n2:=w1.heap.size) (by first | exact Nat.le_refl _ | (simp;done) | (simp;omega));(with_reducible exact ⟨w1.heap.size,w2.heap.size,N,rfl,rfl,HS2.out,hR⟩))
      | (have hR:=(rbox5 (t:=29) (nd:=nd) (v:=v) HBC.out HO2.out (by first | exact Nat.lt_succ_self _ | (simp;done) | (simp;omega) | (dsimp only;omega)) (by omega) ZZ2.out).mono (n2:=w1.heap.size) (by first | exact Nat.le_refl _ | (simp;done) | (simp;omega));(with_reducible exact ⟨w2.heap.size,w1.heap.size,N,rfl,rfl,HS2.out,hR⟩))
      | (trace_state;fail)
   case rest =>
   obtain ⟨P,Z,N,rfl,rfl,hSN,hR⟩:=hcut
   rename World=>V3
   have HR:Hid (_):=hR
   have HS2:Hid (_):=hSN
   clear h2 GG EE t0 t1 t2 t3 t4 t5 t6 tl m0 m1 m2 ml
   obtain ⟨_,_,_,hx,hy⟩:=FC.out V3 hR.bel
   have lx:w.heap.size+1<W3.heap.size:=(Array.getElem?_eq_some_iff.1 (FC.out W3 (Below.refl _ _)).2.2.2.1).1
   have ly:w.heap.size+1+1<W3.heap.size:=(Array.getElem?_eq_some_iff.1 (FC.out W3 (Below.refl _ _)).2.2.2.2).1
   have p0:=hR.p0
   have p1:=hR.p1
   have p2:=hR.p2
   have o0:=hR.o0
   have o1:=hR.o1
   have pl:P<V3.heap.size:=lt_of_cell p0
   have ol:Z<V3.heap.size:=lt_of_cell o0
   have x0:V3.cell? ⟨w.heap.size+1,0,none⟩=some (.slice none 0 0):=by simp [World.cell?,hx]
   have x1:V3.cell? ⟨w.heap.size+1,1,none⟩=some (.slice none 0 0):=by simp [World.cell?,hx]
   have x2:V3.cell? ⟨w.heap.size+1,2,none⟩=some (.slice none 0 0):=by simp [World.cell?,hx]
   have y0:V3.cell? ⟨w.heap.size+1+1,0,none⟩=some (.int .i64 0):=by simp [World.cell?,hy]
   have y1:V3.cell? ⟨w.heap.size+1+1,1,none⟩=some (.int .i64 0):=by simp [World.cell?,hy]
   have fx0:=frozen_of_block hx 0
   have fx1:=frozen_of_block hx 1
   have fx2:=frozen_of_block hx 2
   have fy0:=frozen_of_block hy 0
   have fy1:=frozen_of_block hy 1
   obtain ⟨X,hX⟩:∃ X,Hid (X=w.heap.size+1):=⟨_,rfl⟩
   obtain ⟨Y,hY⟩:∃ Y,Hid (Y=w.heap.size+1+1):=⟨_,rfl⟩
   rw [← hY.out,← hX.out]
   rw [← hX.out] at x0 x1 x2 fx0 fx1 fx2 lx
   rw [← hY.out] at y0 y1 fy0 fy1 ly
   have gp:=hR.gp
   have gz:=hR.gz
   have eXY:X≠Y:=by have h1:=hX.out;have h2:=hY.out;omega
   have e1:P≠X:=by omega
   have e2:P≠Y:=by omega
   have e3:Z≠X:=by omega
   have e4:Z≠Y:=by omega
   have LXY:Hid (X<W3.heap.size∧Y<W3.heap.size):=⟨lx,ly⟩
   have GW:Hid (w.heap.size≤X∧w.heap.size≤Y):=by have h1:=hX.out;have h2:=hY.out;constructor<;>omega
   clear hx hy FC lx ly hX hY gp gz hR hSN
   go_upto_region 7 with fail
   go_big_region
   go_wp2
   refine bp_genR fun V9 hV9=>?_
   obtain ⟨k0,k1,k2,k3,k4⟩:=xy5 (a:=.slice N.fa N.frs.length N.fcap) (b:=.slice N.ea N.ens.length N.ecap) (c:=.slice N.qa N.qus.length N.qcap) (d:=.int .i64 nd) (e:=.int .i64 v) eXY x0 x1 x2 y0 y1
   have HB9:=((((((BW.out.trans (HR.out.bel.mono BW.out.size)).setCell (p:=⟨X,0,none⟩) GW.out.1 (.slice N.fa N.frs.length N.fcap)).setCell (p:=⟨X,1,none⟩) GW.out.1 (.slice N.ea N.ens.length N.ecap)).setCell (p:=⟨X,2,none⟩) GW.out.1 (.slice N.qa N.qus.length N.qcap)).setCell (p:=⟨Y,0,none⟩) GW.out.2 (.int .i64 nd)).setCell (p:=⟨Y,1,none⟩) GW.out.2 (.int .i64 v)).drew
   have HO9:=own_xy (a:=.slice N.fa N.frs.length N.fcap) (b:=.slice N.ea N.ens.length N.ecap) (c:=.slice N.qa N.qus.length N.qcap) (d:=.int .i64 nd) (e:=.int .i64 v) HR.out.own (Nat.lt_of_lt_of_le LXY.out.1 HB1.out.size) (Nat.lt_of_lt_of_le LXY.out.2 HB1.out.size)
   generalize ((((V3.setCell ⟨X,0,none⟩ (.slice N.fa N.frs.length N.fcap)).setCell ⟨X,1,none⟩ (.slice N.ea N.ens.length N.ecap)).setCell ⟨X,2,none⟩ (.slice N.qa N.qus.length N.qcap)).setCell ⟨Y,0,none⟩ (.int .i64 nd)).setCell ⟨Y,1,none⟩ (.int .i64 v)=V at hV9 k0 k1 k2 k3 k4 HB9 HO9
   subst hV9
   refine bodyPost_ret (by simp [results,Tryz.results54,go_sem,k0,k1,k2,k3,k4];try rfl) rfl ?_
   exact ⟨N,by rw [HZ.out];rfl,HS2.out,HO9.mono (Nat.le_trans BW.out.size HB1.out.size),HB9⟩
 · rw [hT,hnd,hv]
   unfold resM resD resV
   rw [if_neg h0,if_neg h0,if_neg h0]
   have hT' : noM.Same noM:=Mv.Same.refl _
   have HT:Hid (_):=hT'
   unfold fuelF at hz h0
   unfold Mv.val at h1'
   unfold Mv.val
   by_cases hc:askF M e 3=0
   · rw [if_pos hc] at hz h0
     rw [hc] at h1'
     by_cases hfu:inB fuel 0 5000=true
     · rw [if_pos hfu] at h0;exact absurd rfl h0
     · rw [if_neg hfu] at hz
       subst hz
       have hiF:inB fuel 0 5000=false:=by simpa using hfu
       obtain ⟨fa,frs,fcap,ea,ens,ecap,qa,qus,qcap⟩:=M
       dsimp only at h1' ⊢
       clear hM hF hT hnd hv h0 h2' hT' hc hfu
       obtain ⟨W3,hW3,BW,FC⟩:=box5 w (.slice fa frs.length fcap) (.slice ea ens.length ecap) (.slice qa qus.length qcap)
       obtain ⟨m0,m1,m2,_,_⟩:=FC.out W3 (Below.refl _ _)
       have h1:=fun w' (h:Below W3.heap.size W3 w')=>h1' w' (BW.out.trans (h.mono BW.out.size))
       clear h1'
       go_enter Tryz.func54,Tryz.ntmps54
       go_upto_region 1 with fail
       rw [← hW3.out]
       clear hW3
       go_wp2_with (first | (go_at_call 107;refine (h1 _ (Below.refl _ _)).mono ?_;clear h1;rintro x w1 ⟨rfl,hb1⟩;clear m0 m1 m2;obtain ⟨m0,m1,m2,hx,hy⟩:=FC.out w1 hb1;have HB1:Hid (Below W3.heap.size W3 w1):=hb1;obtain ⟨x0,x1,x2,y0,y1,fx0,fx1,fx2,fy0,fy1⟩:=five_of hx hy;clear FC hb1 hx hy) | (go_at_call 56;refine (in_any _ _ _ _).mono ?_;rintro e w' ⟨rfl,rfl⟩))
       refine bp_genR fun V9 hV9=>?_
       obtain ⟨k0,k1,k2,k3,k4⟩:=xy5 (a:=.slice none 0 0) (b:=.slice none 0 0) (c:=.slice none 0 0) (d:=.int .i64 0) (e:=.int .i64 0) (by omega) x0 x1 x2 y0 y1
       have HB9:Below w.heap.size w V9:=below5 BW.out HB1.out hV9
       rw [← hV9] at k0 k1 k2 k3 k4
       clear hV9
       (try simp only [Exit.inBlock,Exit.then])
       refine bodyPost_ret (by simp [results,Tryz.results54,go_sem,k0,k1,k2,k3,k4];try rfl) rfl ?_
       exact ⟨noM,rfl,HT.out,noM_own _ _,HB9⟩
   · rw [if_neg hc] at hz
     have hz1:(z != 0)=true:=by rw [hz];simpa using hc
     have hz2:(z == 0)=false:=by rw [hz];simpa using hc
     rw [← hz] at h1'
     obtain ⟨fa,frs,fcap,ea,ens,ecap,qa,qus,qcap⟩:=M
     dsimp only at h1' ⊢
     clear hM hF hT hnd hv h0 h2' hT' hc hz
     obtain ⟨W3,hW3,BW,FC⟩:=box5 w (.slice fa frs.length fcap) (.slice ea ens.length ecap) (.slice qa qus.length qcap)
     obtain ⟨m0,m1,m2,_,_⟩:=FC.out W3 (Below.refl _ _)
     have h1:=fun w' (h:Below W3.heap.size W3 w')=>h1' w' (BW.out.trans (h.mono BW.out.size))
     clear h1'
     go_enter Tryz.func54,Tryz.ntmps54
     go_upto_region 1 with fail
     rw [← hW3.out]
     clear hW3
     go_wp2_with (first | (go_at_call 107;refine (h1 _ (Below.refl _ _)).mono ?_;clear h1;rintro x w1 ⟨rfl,hb1⟩;clear m0 m1 m2;obtain ⟨m0,m1,m2,hx,hy⟩:=FC.out w1 hb1;have HB1:Hid (Below W3.heap.size W3 w1):=hb1;obtain ⟨x0,x1,x2,y0,y1,fx0,fx1,fx2,fy0,fy1⟩:=five_of hx hy;clear FC hb1 hx hy) | (go_at_call 56;refine (in_any _ _ _ _).mono ?_;rintro e w' ⟨rfl,rfl⟩))
     refine bp_genR fun V9 hV9=>?_
     obtain ⟨k0,k1,k2,k3,k4⟩:=xy5 (a:=.slice none 0 0) (b:=.slice none 0 0) (c:=.slice none 0 0) (d:=.int .i64 0) (e:=.int .i64 0) (by omega) x0 x1 x2 y0 y1
     have HB9:Below w.heap.size w V9:=below5 BW.out HB1.out hV9
     rw [← hV9] at k0 k1 k2 k3 k4
     clear hV9
     (try simp only [Exit.inBlock,Exit.then])
     refine bodyPost_ret (by simp [results,Tryz.results54,go_sem,k0,k1,k2,k3,k4];try rfl) rfl ?_
     exact ⟨noM,rfl,HT.out,noM_own _ _,HB9⟩
end Go.Proofs.YtdngbojbpmdegaaGreatDoor
