import Derived.Test.YtdngbojbpmdegaaGreatDoorJHostMath
import Derived.Test.YtdngbojbpmdegaaGreatDoorNew
import Derived.Test.YtdngbojbpmdegaaGreatDoorJCCopy
namespace Go.Proofs.YtdngbojbpmdegaaGreatDoor
open Go.RowKit
set_option linter.unusedVariables false
def anCells (p:Int × Int):List Value:=[.int .i64 p.1,.int .i64 p.2]
def hs0 (tr:List ByteArray):Hs:=⟨newM,⟨none,tr,0,none,[],0⟩⟩
def runF (tr:List ByteArray) (l:List Ac):Int:=if chF tr []=0 then (if 200<l.length then 1 else 0) else chF tr []
structure ZS5 (w2:World) (b:Nat):Prop where
 e:∀ i,i<5→w2.cell? ⟨b,i,none⟩=some (.slice none 0 0)
 fz:∀ o,w2.frozen? ⟨b,o,none⟩=false
 lt:b<w2.heap.size
theorem zs5_of {X w2:World} {b:Nat} {t:TypeId} (hX:X.heap[b]? = some (.cells #[.slice none 0 0,.slice none 0 0,.slice none 0 0,.slice none 0 0,.slice none 0 0] t (0,0))) (hb:Below X.heap.size X w2):ZS5 w2 b:=by
 have hlt:=(Array.getElem?_eq_some_iff.1 hX).1
 have h2:=(hb.block _ hlt).trans hX
 refine ⟨fun i hi=>?_,fun o=>frozen_of_block h2 o,Nat.lt_of_lt_of_le hlt hb.size⟩
 match i,hi with
 | 0,_=>simp [World.cell?,h2]
 | 1,_=>simp [World.cell?,h2]
 | 2,_=>simp [World.cell?,h2]
 | 3,_=>simp [World.cell?,h2]
 | 4,_=>simp [World.cell?,h2]
theorem zs1 {Wb w2:World} {t:TypeId} (hb:Below (Wb.alloc (.cells #[.slice none 0 0,.slice none 0 0,.slice none 0 0,.slice none 0 0,.slice none 0 0] t)).drew.heap.size (Wb.alloc (.cells #[.slice none 0 0,.slice none 0 0,.slice none 0 0,.slice none 0 0,.slice none 0 0] t)).drew w2):ZS5 w2 Wb.heap.size:=by
 refine zs5_of (t:=t) ?_ hb
 exact Go.Deep.blk_alloc_new _ _
theorem zs2 {Wb w2:World} {t:TypeId} (hb:Below (Wb.alloc (.cells #[.slice none 0 0,.slice none 0 0,.slice none 0 0,.slice none 0 0,.slice none 0 0] t)).heap.size (Wb.alloc (.cells #[.slice none 0 0,.slice none 0 0,.slice none 0 0,.slice none 0 0,.slice none 0 0] t)) w2):ZS5 w2 Wb.heap.size:=by
 refine zs5_of (t:=t) ?_ hb
 exact Go.Deep.blk_alloc_new _ _
theorem ZS5.keep {w w' : World} {b:Nat} (h:ZS5 w b) (hb:Below w.heap.size w w'):ZS5 w' b:=⟨fun i hi=>(hb.cell (p:=⟨b,i,none⟩) h.lt).trans (h.e i hi),fun o=>(hb.frozen (p:=⟨b,o,none⟩) h.lt).trans (h.fz o),Nat.lt_of_lt_of_le h.lt hb.size⟩
theorem site_new {n0:Nat} {V:World} {N:Mv} {D:Cv} {t:TypeId} (hN:Owned n0 V N) (hD:COwn n0 V D) (hn:n0≤V.heap.size):Site n0 (V.alloc (.cells #[.slice N.fa N.frs.length N.fcap,.slice N.ea N.ens.length N.ecap,.slice N.qa N.qus.length N.qcap,.slice D.ta D.tr.length D.tcap,.slice D.na D.ns.length D.ncap] t)) V.heap.size N D:=by
 obtain ⟨b2,q⟩:=al1w V (.cells #[.slice N.fa N.frs.length N.fcap,.slice N.ea N.ens.length N.ecap,.slice N.qa N.qus.length N.qcap,.slice D.ta D.tr.length D.tcap,.slice D.na D.ns.length D.ncap] t)
 generalize V.alloc (.cells #[.slice N.fa N.frs.length N.fcap,.slice N.ea N.ens.length N.ecap,.slice N.qa N.qus.length N.qcap,.slice D.ta D.tr.length D.tcap,.slice D.na D.ns.length D.ncap] t)=U at b2 q
 exact ⟨by simp [World.cell?,q],by simp [World.cell?,q],by simp [World.cell?,q],by simp [World.cell?,q],by simp [World.cell?,q],frozen_of_block q,(Array.getElem?_eq_some_iff.1 q).1,hN.below b2,hD.below b2,fun e=>by have:=(Mine.fresh hN e).2;omega,fun e=>by have:=(MineC.fresh hD e).2;omega,Nat.le_trans hn b2.size⟩
theorem site_set {n0 b:Nat} {V:World} {N:Mv} {D:Cv} (z:ZS5 V b) (hN:Owned n0 V N) (hD:COwn n0 V D) (hn:n0≤V.heap.size) (oM:¬ Mine N b) (oC:¬ MineC D b) :
 Site n0 (((((V.setCell ⟨b,0,none⟩ (.slice N.fa N.frs.length N.fcap)).setCell ⟨b,1,none⟩ (.slice N.ea N.ens.length N.ecap)).setCell ⟨b,2,none⟩ (.slice N.qa N.qus.length N.qcap)).setCell ⟨b,3,none⟩ (.slice D.ta D.tr.length D.tcap)).setCell ⟨b,4,none⟩ (.slice D.na D.ns.length D.ncap)) b N D:=by
 have s0:Site n0 V b noM noC:=⟨z.e 0 (by omega),z.e 1 (by omega),z.e 2 (by omega),z.e 3 (by omega),z.e 4 (by omega),z.fz,z.lt,noM_own _ _,noC_own _ _,fun e=>(by rcases e with ⟨o,s,e⟩ | ⟨o,s,e⟩ | ⟨o,s,e⟩ | ⟨j,hj,_⟩;cases e;cases e;cases e;exact absurd hj (by simp [noM])),fun e=>(by rcases e with ⟨o,s,e⟩ | ⟨o,s,e⟩<;>cases e),hn⟩
 have s1:=s0.putM hN oM
 have hD1:COwn n0 (((V.setCell ⟨b,0,none⟩ (.slice N.fa N.frs.length N.fcap)).setCell ⟨b,1,none⟩ (.slice N.ea N.ens.length N.ecap)).setCell ⟨b,2,none⟩ (.slice N.qa N.qus.length N.qcap)) D:=hD.keepC (fun c hc=>blk3_heap c (fun e=>oC (e▸hc)))
 exact s1.putC hD1 oC
def HostSaid (tr:List ByteArray) (l:List Ac) (w:World) (y:Ending) (w' : World):Prop:=∃ aa acap zs M C,y=.returned (.tuple #[.slice aa zs.length acap,M.val,C.val,.int .i64 (runF tr l)])∧RowsAt w' 2 anCells aa zs∧zs=(if runF tr l=0 then hans (hs0 tr) l else [])∧M.Same (if runF tr l=0 then (hst (hs0 tr) l).M else noM)∧C.Same (if runF tr l=0 then (hst (hs0 tr) l).C else noC)∧Owned w.heap.size w' M∧COwn w.heap.size w' C∧Below w.heap.size w w'
theorem fits_goodH {M N:Mv} (hz:machF M=0) (hs:N.Same M):N.Fits:=by
 have hg:=good_iff.1 hz
 refine fits_same (M:=M) ⟨by rw [hg.s1];omega,fun j hj=>?_,by rw [hg.s2];omega,by have:=hg.s3;omega⟩ hs
 have:=(machF_words hz (j:=j) (by rw [hg.s1] at hj;exact hj)).1
 rw [this];omega
theorem hans_get (s:Hs) (l:List Ac) (k:Nat) (hk:k<l.length):(hans s l).getD k (0,0)=(actC (hst s (l.take k)).M (hst s (l.take k)).C (l.getD k default),actN (hst s (l.take k)).M (hst s (l.take k)).C (l.getD k default)):=by
 induction l generalizing s k with
 | nil=>simp at hk
 | cons y l ih =>
   cases k with
   | zero=>simp [hans,hst]
   | succ k =>
     have:=ih (hstep s y) k (by simpa using hk)
     simpa [hans,hst] using this
theorem hst_next (s:Hs) (l:List Ac) (k:Nat) (hk:k<l.length):hst s (l.take (k+1))=hstep (hst s (l.take k)) (l.getD k default):=by
 rw [List.take_add_one,List.getElem?_eq_getElem hk,Option.toList_some,hst_snoc]
 congr 1
 simp [List.getD_eq_getElem?_getD,hk]
structure HLoop (W3:World) (b g:Nat) (s0:Hs) (l:List Ac) (k:Nat) (wr:World):Prop where
 st:∃ M C,M.Same (hst s0 (l.take k)).M∧C.Same (hst s0 (l.take k)).C∧Site W3.heap.size wr b M C∧¬ (Mine M g∨MineC C g)
 an:∀ j,j<k→wr.cell? ⟨g,j * 2,none⟩=some (.int .i64 ((hans s0 l).getD j (0,0)).1)∧wr.cell? ⟨g,j * 2+1,none⟩=some (.int .i64 ((hans s0 l).getD j (0,0)).2)
 there:∀ i,i<l.length * 2→∃ v,wr.cell? ⟨g,i,none⟩=some v
 fz:∀ o,wr.frozen? ⟨g,o,none⟩=false
 lt:g<wr.heap.size
 bel:Below W3.heap.size W3 wr
 ge:W3.heap.size≤g
 gb:W3.heap.size≤b
 ne:g≠b
theorem HLoop.next {W3:World} {b g:Nat} {s0:Hs} {l:List Ac} {k:Nat} {wr U w5 w6:World} (h:HLoop W3 b g s0 l k wr) (hk:k<l.length) (hU:Below wr.heap.size wr U) {M M' : Mv} {C C' : Cv} (hM:M.Same (hst s0 (l.take k)).M) (hC:C.Same (hst s0 (l.take k)).C) (hoff:¬ (Mine M g∨MineC C g))
 (hM' : M'.Same (actM M C (l.getD k default))) (hC' : C'.Same (actD M C (l.getD k default))) (hS:Site W3.heap.size w5 b M' C') (hF:Far b U w5) (hsub:∀ c,c<U.heap.size→Mine M' c∨MineC C' c→Mine M c∨MineC C c)
 (h6:w6=(w5.setCell ⟨g,k * 2,none⟩ (.int .i64 (actC M C (l.getD k default)))).setCell ⟨g,k * 2+1,none⟩ (.int .i64 (actN M C (l.getD k default)))):HLoop W3 b g s0 l (k+1) w6:=by
 have lU:g<U.heap.size:=Nat.lt_of_lt_of_le h.lt hU.size
 have kb:w5.heap[g]? = wr.heap[g]?:=(hF.block g lU h.ne).trans (hU.block g h.lt)
 have no:¬ (g=b∨Mine M' g∨MineC C' g):=fun q=>by
  rcases q with q | q
  · exact h.ne q
  · exact hoff (hsub g lU q)
 have e:(hans s0 l).getD k (0,0)=(actC M C (l.getD k default),actN M C (l.getD k default)):=by rw [hans_get s0 l k hk,actC_same hM hC,actN_same hM hC]
 have oth:∀ (V:World) (i j:Nat) (v:Value),i≠j→(V.setCell ⟨g,i,none⟩ v).cell? ⟨g,j,none⟩=V.cell? ⟨g,j,none⟩:=fun V i j v hij=>World.cell?_setCell_other _ _ _ _ (by intro q;simp only [Addr.mk.injEq,true_and,and_true] at q;exact hij q)
 obtain ⟨v0,hv0⟩:=h.there (k * 2) (by omega)
 obtain ⟨v1,hv1⟩:=h.there (k * 2+1) (by omega)
 have hv0' : w5.cell? ⟨g,k * 2,none⟩=some v0:=(World.cell?_of_block kb).trans hv0
 have hv1' : w5.cell? ⟨g,k * 2+1,none⟩=some v1:=(World.cell?_of_block kb).trans hv1
 have far:∀ j,j≠k * 2→j≠k * 2+1→w6.cell? ⟨g,j,none⟩=wr.cell? ⟨g,j,none⟩:=fun j h1 h2=>by
  rw [h6]
  exact (oth _ _ _ _ (Ne.symm h2)).trans ((oth _ _ _ _ (Ne.symm h1)).trans (World.cell?_of_block kb))
 have a0:w6.cell? ⟨g,k * 2,none⟩=some (.int .i64 (actC M C (l.getD k default))):=by
  rw [h6];exact (oth _ _ _ _ (by omega)).trans (World.cell?_setCell_same _ _ _ hv0')
 have a1:w6.cell? ⟨g,k * 2+1,none⟩=some (.int .i64 (actN M C (l.getD k default))):=by
  rw [h6];exact World.cell?_setCell_same _ _ _ ((oth _ _ _ _ (by omega)).trans hv1')
 have n3:W3.heap.size≤wr.heap.size:=h.bel.size
 refine ⟨⟨M',C',?_,?_,?_,fun q=>no (.inr q)⟩,fun j hj=>?_,fun i hi=>?_,fun o=>?_,?_,?_,h.ge,h.gb,h.ne⟩
 · rw [hst_next s0 l k hk];exact hM'.trans (actM_same (D:=(hst s0 (l.take k)).C) hM _)
 · rw [hst_next s0 l k hk];exact hC'.trans (actD_same hM hC _)
 · rw [h6];exact (hS.far no _ _).far no _ _
 · by_cases q:j=k
   · subst q;rw [e];exact ⟨a0,a1⟩
   · rw [far _ (by omega) (by omega),far _ (by omega) (by omega)];exact h.an j (by omega)
 · by_cases q:i=k * 2
   · subst q;exact ⟨_,a0⟩
   · by_cases q2:i=k * 2+1
     · subst q2;exact ⟨_,a1⟩
     · rw [far i q q2];exact h.there i hi
 · rw [h6,World.frozen?_setCell,World.frozen?_setCell];exact (World.frozen?_of_block kb).trans (h.fz o)
 · rw [h6];simp [World.setCell];exact Nat.lt_of_lt_of_le lU hF.size
 · rw [h6]
   exact (((h.bel.trans (hU.mono n3)).trans (hF.below h.gb (Nat.le_trans n3 hU.size))).setCell h.ge _).setCell h.ge _
set_option maxRecDepth 100000 in
set_option maxHeartbeats 8000000 in
theorem run_ok (ta:Option Addr) (tr:List ByteArray) (tcap:Nat) (la:Option Addr) (l:List Ac) (lcap:Nat) (w:World) (hT:Texts w ta tr) (hTo:(⟨ta,tr,tcap,none,[],0⟩:Cv).Ok) (hl:RowsAt w 7 Ac.cells la l) (hll:l.length≤maxLen) (hlo:∀ x ∈ l,x.Ok) (ht:Tab w) (h0:chF tr []=0) (h2:l.length≤200) :
 Calls Tryz.prog 13 #[.slice ta tr.length tcap,.slice la l.length lcap] w (HostSaid tr l w):=by
 obtain ⟨W3,hW3⟩:∃ W3,Hid (W3=((w.alloc (.cells #[.slice none 0 0,.slice none 0 0,.slice none 0 0] 29)).alloc (.cells #[.slice none 0 0,.slice none 0 0] 32)).alloc (.cells #[.slice ta tr.length tcap,.slice none 0 0] 32)):=⟨_,rfl⟩
 obtain ⟨bw,q1,q2,q3⟩:=al3w w (.cells #[.slice none 0 0,.slice none 0 0,.slice none 0 0] 29) (.cells #[.slice none 0 0,.slice none 0 0] 32) (.cells #[.slice ta tr.length tcap,.slice none 0 0] 32)
 rw [← hW3.out] at bw q1 q2 q3
 have BW:Hid (_):=bw
 have QX:Hid (_):=q1
 have QY:Hid (_):=q2
 have QA:Hid (_):=q3
 have hC0:ChalAt W3 ⟨ta,tr,tcap,none,[],0⟩:=⟨hT.below bw,.inl rfl,hTo⟩
 have HC0:Hid (_):=hC0
 have c1:=checkC_any ⟨ta,tr,tcap,none,[],0⟩ W3 hC0
 unfold Cv.val at c1
 dsimp only [List.length_nil] at c1
 rw [h0] at c1
 have hF0:(⟨ta,tr,tcap,none,[],0⟩:Cv).Fits:=fits_chF (C:=⟨ta,tr,tcap,none,[],0⟩) h0 (Cv.Same.refl _)
 have cC0:=fun w' (hb:Below W3.heap.size W3 w')=>copyC_any ⟨ta,tr,tcap,none,[],0⟩ w' (HC0.out.below hb) hF0
 unfold Cv.val at cC0
 dsimp only [List.length_nil] at cC0
 have cN0:=fun w'=>new_any w'
 unfold Mv.val at cN0
 have a0:W3.cell? ⟨w.heap.size+1+1,0,none⟩=some (.slice ta tr.length tcap):=by simp [World.cell?,q3]
 have a1:W3.cell? ⟨w.heap.size+1+1,1,none⟩=some (.slice none 0 0):=by simp [World.cell?,q3]
 have al:w.heap.size+1+1<W3.heap.size:=lt_of_cell a0
 have GG:Hid (∀ w',Below W3.heap.size W3 w'→w'.cell? ⟨w.heap.size+1+1,0,none⟩=some (.slice ta tr.length tcap)∧w'.cell? ⟨w.heap.size+1+1,1,none⟩=some (.slice none 0 0)):=by
  have d0:=a0
  have d1:=a1
  exact fun w' hb=>⟨(hb.cell (p:=⟨w.heap.size+1+1,0,none⟩) al).trans d0,(hb.cell (p:=⟨w.heap.size+1+1,1,none⟩) al).trans d1⟩
 have hl2:¬ (200<(l.length:Int)):=by omega
 have hl3:l.length≤9223372036854775807:=by omega
 clear bw q1 q2 q3 hC0
 go_enter Tryz.func13,Tryz.ntmps13
 go_upto_region 2 with fail
 rw [← hW3.out]
 clear hW3
 go_upto_region 7 with (go_at_call 29;refine c1.mono ?_;clear c1;rintro y w1 ⟨rfl,hb⟩;have HB1:Hid (Below W3.heap.size W3 w1):=hb;clear hb a0 a1 al)
 have cN:=cN0
 have cC:=cC0
 clear cN0 cC0
 have s1:=HB1.out.size
 go_cut [10] from 28 to 31 (fun s10 wx=>∃ b N D,s10=.pointer (some ⟨b,0,none⟩)∧Mv.Same N newM∧Cv.Same D ⟨ta,tr,tcap,none,[],0⟩∧Site W3.heap.size wx b N D∧Below W3.heap.size W3 wx∧W3.heap.size≤b)
 case first =>
  go_region_held3 (fun w'=>w'.cell? ⟨w.heap.size+1+1,0,none⟩=some (.slice ta tr.length tcap)∧w'.cell? ⟨w.heap.size+1+1,1,none⟩=some (.slice none 0 0)) (exact GG.out _ (by repeat (first | (with_reducible exact Below.refl _ _) | (with_reducible exact HB1.out) | (with_reducible exact HBN.out) | (with_reducible exact HBD.out) | (with_reducible refine Below.drew ?_) | (with_reducible refine below_allocR ?_ _) | (with_reducible refine Below.setCell ?_ (by first | exact Nat.le_refl _ | assumption | (simp;done) | (simp;omega) | omega) _)))) (first
   | (go_at_call 41;refine (cN _).mono ?_;clear cN;rintro y wn ⟨N,rfl,hS,hO,hb⟩;have HSN:Hid (_):=hS;have HN:Hid (_):=hO;(first | ((with_reducible_and_instances have hzz:=zs1 (Wb:=w1) hb);have zlN:=hzz.lt;have e0:=hzz.e 0 (by omega);have e1:=hzz.e 1 (by omega);have e2:=hzz.e 2 (by omega);have e3:=hzz.e 3 (by omega);have e4:=hzz.e 4 (by omega);have z0:=hzz.fz 0;have z1:=hzz.fz 1;have z2:=hzz.fz 2;have z3:=hzz.fz 3;have z4:=hzz.fz 4;have zl:=hzz.lt;have ZZ:Hid (_):=hzz;clear hzz) | ((with_reducible_and_instances have hzz:=zs2 (Wb:=wd) hb);have e0:=hzz.e 0 (by omega);have e1:=hzz.e 1 (by omega);have e2:=hzz.e 2 (by omega);have e3:=hzz.e 3 (by omega);have e4:=hzz.e 4 (by omega);have z0:=hzz.fz 0;have z1:=hzz.fz 1;have z2:=hzz.fz 2;have z3:=hzz.fz 3;have z4:=hzz.fz 4;have zl:=hzz.lt;have ZZ:Hid (_):=hzz;clear hzz) | (have hzz:=ZZ.out.keep (Below.trans (by repeat (first | (with_reducible exact Below.refl _ _) | (with_reducible refine Below.drew ?_) | (with_reducible refine below_allocR ?_ _))) (hb.mono (by first | exact Nat.le_refl _ | (simp;done) | (simp;omega))));clear ZZ;clear e0 e1 e2 e3 e4 z0 z1 z2 z3 z4 zl;have e0:=hzz.e 0 (by omega);have e1:=hzz.e 1 (by omega);have e2:=hzz.e 2 (by omega);have e3:=hzz.e 3 (by omega);have e4:=hzz.e 4 (by omega);have z0:=hzz.fz 0;have z1:=hzz.fz 1;have z2:=hzz.fz 2;have z3:=hzz.fz 3;have z4:=hzz.fz 4;have zl:=hzz.lt;have ZZ:Hid (_):=hzz;clear hzz) | skip);(first | (have HDV:Hid (COwn _ wn D):=HD.out.below (Below.trans (by repeat (first | (with_reducible exact Below.refl _ _) | (with_reducible refine Below.drew ?_) | (with_reducible refine below_allocR ?_ _))) (hb.mono (by first | exact Nat.le_refl _ | (simp;done) | (simp;omega))))) | skip);have HBN:Hid (Below W3.heap.size W3 wn):=Below.trans (by repeat (first | (with_reducible exact Below.refl _ _) | (with_reducible exact HB1.out) | (with_reducible exact HBN.out) | (with_reducible exact HBD.out) | (with_reducible refine Below.drew ?_) | (with_reducible refine below_allocR ?_ _) | (with_reducible refine Below.setCell ?_ (by first | exact Nat.le_refl _ | assumption | (simp;done) | (simp;omega) | omega) _))) (hb.mono (by first | exact s1 | exact sd | (simp;done) | (simp;omega)));have sn:=HBN.out.size;clear hS hO hb)
   | (go_at_call 42;refine (cC _ (by repeat (first | (with_reducible exact Below.refl _ _) | (with_reducible exact HB1.out) | (with_reducible exact HBN.out) | (with_reducible exact HBD.out) | (with_reducible refine Below.drew ?_) | (with_reducible refine below_allocR ?_ _) | (with_reducible refine Below.setCell ?_ (by first | exact Nat.le_refl _ | assumption | (simp;done) | (simp;omega) | omega) _)))).mono ?_;clear cC;rintro y wd ⟨D,rfl,hS,hO,hb⟩;have HSD:Hid (_):=hS;have HD:Hid (_):=hO;(first | ((with_reducible_and_instances have hzz:=zs1 (Wb:=w1) hb);have e0:=hzz.e 0 (by omega);have e1:=hzz.e 1 (by omega);have e2:=hzz.e 2 (by omega);have e3:=hzz.e 3 (by omega);have e4:=hzz.e 4 (by omega);have z0:=hzz.fz 0;have z1:=hzz.fz 1;have z2:=hzz.fz 2;have z3:=hzz.fz 3;have z4:=hzz.fz 4;have zl:=hzz.lt;have ZZ:Hid (_):=hzz;clear hzz) | ((with_reducible_and_instances have hzz:=zs2 (Wb:=wn) hb);have e0:=hzz.e 0 (by omega);have e1:=hzz.e 1 (by omega);have e2:=hzz.e 2 (by omega);have e3:=hzz.e 3 (by omega);have e4:=hzz.e 4 (by omega);have z0:=hzz.fz 0;have z1:=hzz.fz 1;have z2:=hzz.fz 2;have z3:=hzz.fz 3;have z4:=hzz.fz 4;have zl:=hzz.lt;have ZZ:Hid (_):=hzz;clear hzz) | (have hzz:=ZZ.out.keep (Below.trans (by repeat (first | (with_reducible exact Below.refl _ _) | (with_reducible refine Below.drew ?_) | (with_reducible refine below_allocR ?_ _))) (hb.mono (by first | exact Nat.le_refl _ | (simp;done) | (simp;omega))));clear ZZ;clear e0 e1 e2 e3 e4 z0 z1 z2 z3 z4 zl;have e0:=hzz.e 0 (by omega);have e1:=hzz.e 1 (by omega);have e2:=hzz.e 2 (by omega);have e3:=hzz.e 3 (by omega);have e4:=hzz.e 4 (by omega);have z0:=hzz.fz 0;have z1:=hzz.fz 1;have z2:=hzz.fz 2;have z3:=hzz.fz 3;have z4:=hzz.fz 4;have zl:=hzz.lt;have ZZ:Hid (_):=hzz;clear hzz) | skip);(first | (have HNV:Hid (Owned _ wd N):=HN.out.below (Below.trans (by repeat (first | (with_reducible exact Below.refl _ _) | (with_reducible refine Below.drew ?_) | (with_reducible refine below_allocR ?_ _))) (hb.mono (by first | exact Nat.le_refl _ | (simp;done) | (simp;omega))))) | skip);have HBD:Hid (Below W3.heap.size W3 wd):=Below.trans (by repeat (first | (with_reducible exact Below.refl _ _) | (with_reducible exact HB1.out) | (with_reducible exact HBN.out) | (with_reducible exact HBD.out) | (with_reducible refine Below.drew ?_) | (with_reducible refine below_allocR ?_ _) | (with_reducible refine Below.setCell ?_ (by first | exact Nat.le_refl _ | assumption | (simp;done) | (simp;omega) | omega) _))) (hb.mono (by first | exact s1 | exact sn | (simp;done) | (simp;omega)));have sd:=HBD.out.size;clear hS hO hb)
   | fail)
  all_goals
   go_wp2_with fail
   go_meet
   case rel=>first
    | (have hs:=site_new (n0:=W3.heap.size) (t:=97) (HNV.out.mono (by first | exact s1 | (simp;omega))) (HD.out.mono (by first | exact sn | (simp;omega))) HBD.out.size;(with_reducible exact ⟨wd.heap.size,N,D,rfl,HSN.out,HSD.out,hs,below_allocR HBD.out _,HBD.out.size⟩))
    | ((with_reducible refine ⟨wn.heap.size,N,D,rfl,HSN.out,HSD.out,?_,(by repeat (first | (with_reducible exact Below.refl _ _) | (with_reducible exact HB1.out) | (with_reducible exact HBN.out) | (with_reducible exact HBD.out) | (with_reducible refine Below.drew ?_) | (with_reducible refine below_allocR ?_ _) | (with_reducible refine Below.setCell ?_ (by first | exact Nat.le_refl _ | assumption | (simp;done) | (simp;omega) | omega) _))),sn⟩);exact site_set (n0:=W3.heap.size) ZZ.out (HNV.out.mono (by first | exact s1 | (simp;omega))) (HD.out.mono (by first | exact sn | (simp;omega))) HBD.out.size (fun q=>by have h1:=(Mine.fresh HN.out q).2;omega) (fun q=>by have h1:=(MineC.fresh HD.out q).1;simp at h1;omega))
    | ((with_reducible refine ⟨w1.heap.size,N,D,rfl,HSN.out,HSD.out,?_,(by repeat (first | (with_reducible exact Below.refl _ _) | (with_reducible exact HB1.out) | (with_reducible exact HBN.out) | (with_reducible exact HBD.out) | (with_reducible refine Below.drew ?_) | (with_reducible refine below_allocR ?_ _) | (with_reducible refine Below.setCell ?_ (by first | exact Nat.le_refl _ | assumption | (simp;done) | (simp;omega) | omega) _))),s1⟩);exact site_set (n0:=W3.heap.size) ZZ.out (HNV.out.mono (by first | exact s1 | (simp;omega))) (HD.out.mono (by first | exact sn | (simp;omega))) HBD.out.size (fun q=>by have h1:=(Mine.fresh HN.out q).1;simp at h1;omega) (fun q=>by have h1:=(MineC.fresh HD.out q).1;omega))
    | (trace_state;fail)
 case rest =>
 obtain ⟨b,N0,D0,rfl,hSN,hSD,hsite,hbel,hgb⟩:=hcut
 rename World=>V7
 have HS7:Hid (_):=hsite
 have HSN:Hid (_):=hSN
 have HSD:Hid (_):=hSD
 have HB7:Hid (_):=hbel
 have HGB:Hid (_):=hgb
 clear hsite hSN hSD hbel hgb GG cN cC
 have hmk:=fun w'=>make_rowsN 24 39 #[.int .i64 0,.int .i64 0] 2 16 Tryz.underlying24 (by kernel_rfl) l.length (by omega) (by omega) w'
 go_upto_region 8 with fail
 go_upto_region 9 with fail
 clear hmk
 obtain ⟨V8,hV8⟩:∃ V8,Hid (V8=V7.alloc (.cells (madeCells #[.int .i64 0,.int .i64 0] (l.length * 2)) 39)):=⟨_,rfl⟩
 obtain ⟨b8,q8⟩:=al1w V7 (.cells (madeCells #[.int .i64 0,.int .i64 0] (l.length * 2)) 39)
 rw [← hV8.out] at b8 q8
 rw [← hV8.out]
 have ST:Hid (HLoop W3 b V7.heap.size (hs0 tr) l 0 V8):=by
  have s7:=HB7.out.size
  refine ⟨⟨N0,D0,HSN.out,⟨HSD.out.tr,HSD.out.ns⟩,HS7.out.keep b8,fun q=>by have:=HS7.out.old (.inr q);omega⟩,fun j hj=>absurd hj (by omega),fun i hi=>?_,frozen_of_block q8,(Array.getElem?_eq_some_iff.1 q8).1,HB7.out.trans (b8.mono s7),s7,HGB.out,fun e=>by have:=HS7.out.lt;omega⟩
  have hz:i<(madeCells #[.int .i64 0,.int .i64 0] (l.length * 2)).size:=by rw [size_madeCells];exact hi
  exact ⟨(madeCells #[.int .i64 0,.int .i64 0] (l.length * 2))[i],by simp [World.cell?,q8,hz]⟩
 have HL:Hid (∀ w',Below w.heap.size w w'→RowsAt w' 7 Ac.cells la l):=fun w' hb=>RowsAt.below (cells:=Ac.cells) (fun _=>rfl) hl hb
 have HLO:Hid (_):=hlo
 have HTB:Hid (Tab w):=ht
 have H0:Hid (chF tr []=0):=h0
 obtain ⟨g,hg⟩:∃ g,Hid (g=V7.heap.size):=⟨_,rfl⟩
 rw [← hg.out] at ST
 rw [← hg.out]
 clear hT hTo hl hll hlo ht h0 hF0 b8 q8 hV8 HS7 HSN HSD HB7 HGB HB1 s1 HC0 hg
 go_wp2
 go_loopw [37] (fun i wr=>∃ k:Nat,k≤l.length∧i=.int .i64 k∧Hid (HLoop W3 b g (hs0 tr) l k wr)) (fun i _=>l.length - (intOf i).toNat)
 case atStart=>exact ⟨0,Nat.zero_le _,rfl,ST⟩
 case round =>
  obtain ⟨k,hk,rfl,hst⟩:=hrel
  clear ST
  by_cases hlt:k<l.length
  · obtain ⟨M,C,hM,hC,hS,hoff⟩:=hst.out.st
    have BWR:Hid (Below w.heap.size w wr):=BW.out.trans (hst.out.bel.mono BW.out.size)
    obtain ⟨lb,lo,hla,hcl⟩:∃ lb lo,la=some ⟨lb,lo,none⟩∧∀ i,i<7→wr.cell? ⟨lb,lo+k * 7+i,none⟩=(Ac.cells (l.getD k default))[i]?:=by
     rcases HL.out wr BWR.out with e | ⟨lb,lo,e,hc⟩
     · rw [e] at hlt;simp at hlt
     · exact ⟨lb,lo,e,fun i hi=>hc k hlt i hi⟩
    obtain ⟨x,hx⟩:∃ x,Hid (l.getD k default=x):=⟨_,rfl⟩
    have t0:wr.cell? ⟨lb,lo+k * 7,none⟩=some (.int .i64 x.k):=by have:=hcl 0 (by omega);rw [hx.out] at this;exact this
    have t1:wr.cell? ⟨lb,lo+k * 7+1,none⟩=some (.int .i64 x.e):=by have:=hcl 1 (by omega);rw [hx.out] at this;exact this
    have t2:wr.cell? ⟨lb,lo+k * 7+2,none⟩=some (.int .i64 x.f):=by have:=hcl 2 (by omega);rw [hx.out] at this;exact this
    have t3:wr.cell? ⟨lb,lo+k * 7+3,none⟩=some (.int .i64 x.at_):=by have:=hcl 3 (by omega);rw [hx.out] at this;exact this
    have t4:wr.cell? ⟨lb,lo+k * 7+4,none⟩=some (.int .i64 x.r):=by have:=hcl 4 (by omega);rw [hx.out] at this;exact this
    have t5:wr.cell? ⟨lb,lo+k * 7+5,none⟩=some (.int .i64 x.n):=by have:=hcl 5 (by omega);rw [hx.out] at this;exact this
    have t6:wr.cell? ⟨lb,lo+k * 7+6,none⟩=some (.int .i64 x.fuel):=by have:=hcl 6 (by omega);rw [hx.out] at this;exact this
    have tl:lb<wr.heap.size:=lt_of_cell t0
    subst hla
    have hgood:=hst_good (hs0 tr) (l.take k) new_good H0.out
    have hxo:x.Ok:=by
     rw [← hx.out]
     exact HLO.out _ (by rw [List.getD_eq_getElem?_getD,List.getElem?_eq_getElem hlt];exact List.getElem_mem hlt)
    obtain ⟨U,hU⟩:∃ U,Hid (U=wr.alloc (.cells #[.int .i64 x.k,.int .i64 x.e,.int .i64 x.f,.int .i64 x.at_,.int .i64 x.r,.int .i64 x.n,.int .i64 x.fuel] 68)):=⟨_,rfl⟩
    obtain ⟨bU,qU⟩:=al1w wr (.cells #[.int .i64 x.k,.int .i64 x.e,.int .i64 x.f,.int .i64 x.at_,.int .i64 x.r,.int .i64 x.n,.int .i64 x.fuel] 68)
    rw [← hU.out] at bU qU
    have BU:Hid (_):=bU
    have hcall:=do_any (hS.keep bU) x (fits_goodH hgood.1 hM) (fits_chF hgood.2 hC) ((show Tab w from HTB.out).below (BWR.out.trans (bU.mono BWR.out.size))) hxo
    unfold Ac.val at hcall
    have HM:Hid (_):=hM
    have HC:Hid (_):=hC
    have HOFF:Hid (_):=hoff
    obtain ⟨v0,hv0⟩:=hst.out.there (k * 2) (by omega)
    obtain ⟨v1,hv1⟩:=hst.out.there (k * 2+1) (by omega)
    obtain ⟨cd,hcd⟩:∃ cd,Hid (cd=actC M C x):=⟨_,rfl⟩
    obtain ⟨nn,hnn⟩:∃ nn,Hid (nn=actN M C x):=⟨_,rfl⟩
    rw [← hcd.out,← hnn.out] at hcall
    have V0:Hid (_):=hv0
    have V1:Hid (_):=hv1
    have hkl:(k:Int)<(l.length:Int):=by omega
    have lgU:g<U.heap.size:=Nat.lt_of_lt_of_le hst.out.lt bU.size
    have ub:∀ i,i<7→True:=fun _ _=>trivial
    have u0:U.cell? ⟨wr.heap.size,0,none⟩=some (.int .i64 x.k):=by simp [World.cell?,qU]
    have ul:wr.heap.size<U.heap.size:=lt_of_cell u0
    have u1:U.cell? ⟨wr.heap.size,1,none⟩=some (.int .i64 x.e):=by simp [World.cell?,qU]
    have u2:U.cell? ⟨wr.heap.size,2,none⟩=some (.int .i64 x.f):=by simp [World.cell?,qU]
    have u3:U.cell? ⟨wr.heap.size,3,none⟩=some (.int .i64 x.at_):=by simp [World.cell?,qU]
    have u4:U.cell? ⟨wr.heap.size,4,none⟩=some (.int .i64 x.r):=by simp [World.cell?,qU]
    have u5:U.cell? ⟨wr.heap.size,5,none⟩=some (.int .i64 x.n):=by simp [World.cell?,qU]
    have u6:U.cell? ⟨wr.heap.size,6,none⟩=some (.int .i64 x.fuel):=by simp [World.cell?,qU]
    clear hcl hM hC hoff hS hgood hxo bU qU hv0 hv1 ub
    go_upto_region 12 with fail
    rw [← hU.out]
    clear hU t0 t1 t2 t3 t4 t5 t6 tl
    go_wp2_with (go_at_call 43;refine hcall.mono ?_;clear hcall;rintro y w5 ⟨M',C',rfl,hs1,hs2,hs3,hF,hsub⟩;have HS1:Hid (_):=hs1;have HS2:Hid (_):=hs2;have HS3:Hid (_):=hs3;have HF5:Hid (_):=hF;have HSB:Hid (_):=hsub;have kb:=(hF.block g lgU hst.out.ne).trans (BU.out.block g hst.out.lt);have g0:w5.cell? ⟨g,k * 2,none⟩=some v0:=(World.cell?_of_block kb).trans V0.out;have g1:w5.cell? ⟨g,k * 2+1,none⟩=some v1:=(World.cell?_of_block kb).trans V1.out;have gf0:w5.frozen? ⟨g,k * 2,none⟩=false:=(World.frozen?_of_block kb).trans (hst.out.fz _);have gf1:w5.frozen? ⟨g,k * 2+1,none⟩=false:=(World.frozen?_of_block kb).trans (hst.out.fz _);have gl:g<w5.heap.size:=lt_of_cell g0;clear hs1 hs2 hs3 hF hsub kb)
    go_roundw
    case rel =>
     refine ⟨k+1,by omega,by go_num,?_⟩
     refine hst.out.next hlt BU.out HM.out HC.out HOFF.out ?_ ?_ HS3.out HF5.out HSB.out ?_
     · rw [hx.out];exact HS1.out
     · rw [hx.out];exact HS2.out
     · rw [hx.out,← hcd.out,← hnn.out]
    case measure=>simp [intOf];omega
  · have hkk:k=l.length:=by omega
    have hge:¬ ((k:Int)<(l.length:Int)):=by omega
    obtain ⟨M,C,hM,hC,hS,hoff⟩:=hst.out.st
    have hx:=(hst.out.bel.block _ (Array.getElem?_eq_some_iff.1 QX.out).1).trans QX.out
    have hy:=(hst.out.bel.block _ (Array.getElem?_eq_some_iff.1 QY.out).1).trans QY.out
    have lx:w.heap.size<W3.heap.size:=(Array.getElem?_eq_some_iff.1 QX.out).1
    have ly:w.heap.size+1<W3.heap.size:=(Array.getElem?_eq_some_iff.1 QY.out).1
    have HM:Hid (_):=hM
    have HC:Hid (_):=hC
    have HS:Hid (Site W3.heap.size wr b M C):=hS
    have gb:=hst.out.gb
    have gg:=hst.out.ge
    have nbX:b≠w.heap.size:=by omega
    have nbY:b≠w.heap.size+1:=by omega
    have LXY:Hid (w.heap.size<W3.heap.size∧w.heap.size+1<W3.heap.size):=⟨lx,ly⟩
    have x0:wr.cell? ⟨w.heap.size,0,none⟩=some (.slice none 0 0):=by simp [World.cell?,hx]
    have x1:wr.cell? ⟨w.heap.size,1,none⟩=some (.slice none 0 0):=by simp [World.cell?,hx]
    have x2:wr.cell? ⟨w.heap.size,2,none⟩=some (.slice none 0 0):=by simp [World.cell?,hx]
    have y0:wr.cell? ⟨w.heap.size+1,0,none⟩=some (.slice none 0 0):=by simp [World.cell?,hy]
    have y1:wr.cell? ⟨w.heap.size+1,1,none⟩=some (.slice none 0 0):=by simp [World.cell?,hy]
    have fx0:=frozen_of_block hx 0
    have fx1:=frozen_of_block hx 1
    have fx2:=frozen_of_block hx 2
    have fy0:=frozen_of_block hy 0
    have fy1:=frozen_of_block hy 1
    have xl:=lt_of_cell x0
    have yl:=lt_of_cell y0
    have s0:=hS.c0
    have s1:=hS.c1
    have s2:=hS.c2
    have s3:=hS.c3
    have s4:=hS.c4
    have sl:=hS.lt
    dsimp only at xl yl
    clear hx hy lx ly hM hC hS hoff gb gg hlt
    go_upto_region 14 with fail
    go_big_region
    go_wp2
    refine bp_genR fun V9 hV9=>?_
    obtain ⟨k0,k1,k2,k3,k4⟩:=xy5 (a:=.slice M.fa M.frs.length M.fcap) (b:=.slice M.ea M.ens.length M.ecap) (c:=.slice M.qa M.qus.length M.qcap) (d:=.slice C.ta C.tr.length C.tcap) (e:=.slice C.na C.ns.length C.ncap) (show w.heap.size≠w.heap.size+1 by omega) x0 x1 x2 y0 y1
    have BWR:Below w.heap.size w wr:=BW.out.trans (hst.out.bel.mono BW.out.size)
    have HB9:=(((((BWR.setCell (p:=⟨w.heap.size,0,none⟩) (Nat.le_refl _) (.slice M.fa M.frs.length M.fcap)).setCell (p:=⟨w.heap.size,1,none⟩) (Nat.le_refl _) (.slice M.ea M.ens.length M.ecap)).setCell (p:=⟨w.heap.size,2,none⟩) (Nat.le_refl _) (.slice M.qa M.qus.length M.qcap)).setCell (p:=⟨w.heap.size+1,0,none⟩) (show w.heap.size≤w.heap.size+1 by omega) (.slice C.ta C.tr.length C.tcap)).setCell (p:=⟨w.heap.size+1,1,none⟩) (show w.heap.size≤w.heap.size+1 by omega) (.slice C.na C.ns.length C.ncap)).drew
    have HO9:=own_xy (a:=.slice M.fa M.frs.length M.fcap) (b:=.slice M.ea M.ens.length M.ecap) (c:=.slice M.qa M.qus.length M.qcap) (d:=.slice C.ta C.tr.length C.tcap) (e:=.slice C.na C.ns.length C.ncap) HS.out.own LXY.out.1 LXY.out.2
    have hh:∀ c,W3.heap.size≤c→(((((wr.setCell ⟨w.heap.size,0,none⟩ (.slice M.fa M.frs.length M.fcap)).setCell ⟨w.heap.size,1,none⟩ (.slice M.ea M.ens.length M.ecap)).setCell ⟨w.heap.size,2,none⟩ (.slice M.qa M.qus.length M.qcap)).setCell ⟨w.heap.size+1,0,none⟩ (.slice C.ta C.tr.length C.tcap)).setCell ⟨w.heap.size+1,1,none⟩ (.slice C.na C.ns.length C.ncap)).heap[c]? = wr.heap[c]?:=fun c hc=>by
     have:=LXY.out.2
     rw [set_heap _ _ _ _ _ (show c≠w.heap.size+1 by omega),set_heap _ _ _ _ _ (show c≠w.heap.size+1 by omega),set_heap _ _ _ _ _ (show c≠w.heap.size by omega),set_heap _ _ _ _ _ (show c≠w.heap.size by omega),set_heap _ _ _ _ _ (show c≠w.heap.size by omega)]
    generalize ((((wr.setCell ⟨w.heap.size,0,none⟩ (.slice M.fa M.frs.length M.fcap)).setCell ⟨w.heap.size,1,none⟩ (.slice M.ea M.ens.length M.ecap)).setCell ⟨w.heap.size,2,none⟩ (.slice M.qa M.qus.length M.qcap)).setCell ⟨w.heap.size+1,0,none⟩ (.slice C.ta C.tr.length C.tcap)).setCell ⟨w.heap.size+1,1,none⟩ (.slice C.na C.ns.length C.ncap)=V at hV9 k0 k1 k2 k3 k4 HB9 HO9 hh
    have hc9:COwn W3.heap.size V C:=HS.out.cown.keepC (fun c hc=>hh c (MineC.fresh HS.out.cown hc).1)
    have hz:runF tr l=0:=by unfold runF;rw [if_pos H0.out,if_neg (by omega)]
    have hrow:RowsAt V.drew 2 anCells (some ⟨g,0,none⟩) (hans (hs0 tr) l):=by
     refine .inr ⟨g,0,rfl,fun j hj i hi=>?_⟩
     rw [hans_len] at hj
     obtain ⟨a0,a1⟩:=hst.out.an j (by omega)
     have eV:∀ o,V.drew.cell? ⟨g,o,none⟩=wr.cell? ⟨g,o,none⟩:=fun o=>World.cell?_of_block (hh g hst.out.ge)
     have ed:(hans (hs0 tr) l).getD j default=(hans (hs0 tr) l).getD j (0,0):=rfl
     rw [eV,ed]
     match i,hi with
     | 0,_=>rw [show 0+j * 2+0=j * 2 by omega,a0];rfl
     | 1,_=>rw [show 0+j * 2+1=j * 2+1 by omega,a1];rfl
    subst hV9
    (try simp only [Exit.inBlock,Exit.then])
    refine bodyPost_ret (by simp [results,Tryz.results13,go_sem,k0,k1,k2,k3,k4];try rfl) rfl ?_
    refine ⟨some ⟨g,0,none⟩,l.length,hans (hs0 tr) l,M,C,by rw [hz,hans_len];rfl,hrow,by rw [if_pos hz],?_,?_,HO9.mono BW.out.size,(hc9.below (Below.refl _ _).drew).mono BW.out.size,HB9⟩
    · rw [if_pos hz];have:=HM.out;rw [hkk,List.take_length] at this;exact this
    · rw [if_pos hz];have:=HC.out;rw [hkk,List.take_length] at this;exact this
set_option maxRecDepth 100000 in
set_option maxHeartbeats 8000000 in
theorem run_no (ta:Option Addr) (tr:List ByteArray) (tcap:Nat) (la:Option Addr) (l:List Ac) (lcap:Nat) (w:World) (hT:Texts w ta tr) (hTo:(⟨ta,tr,tcap,none,[],0⟩:Cv).Ok) (hl:RowsAt w 7 Ac.cells la l) (hll:l.length≤maxLen) (hlo:∀ x ∈ l,x.Ok) (ht:Tab w) (h0:¬ chF tr []=0) :
 Calls Tryz.prog 13 #[.slice ta tr.length tcap,.slice la l.length lcap] w (HostSaid tr l w):=by
 obtain ⟨W3,hW3⟩:∃ W3,Hid (W3=((w.alloc (.cells #[.slice none 0 0,.slice none 0 0,.slice none 0 0] 29)).alloc (.cells #[.slice none 0 0,.slice none 0 0] 32)).alloc (.cells #[.slice ta tr.length tcap,.slice none 0 0] 32)):=⟨_,rfl⟩
 obtain ⟨bw,q1,q2,q3⟩:=al3w w (.cells #[.slice none 0 0,.slice none 0 0,.slice none 0 0] 29) (.cells #[.slice none 0 0,.slice none 0 0] 32) (.cells #[.slice ta tr.length tcap,.slice none 0 0] 32)
 rw [← hW3.out] at bw q1 q2 q3
 have BW:Hid (_):=bw
 have QX:Hid (_):=q1
 have QY:Hid (_):=q2
 have QA:Hid (_):=q3
 have hC0:ChalAt W3 ⟨ta,tr,tcap,none,[],0⟩:=⟨hT.below bw,.inl rfl,hTo⟩
 have HC0:Hid (_):=hC0
 have c1:=checkC_any ⟨ta,tr,tcap,none,[],0⟩ W3 hC0
 unfold Cv.val at c1
 dsimp only [List.length_nil] at c1
 obtain ⟨z,hz⟩:∃ z,Hid (z=chF tr []):=⟨_,rfl⟩
 rw [← hz.out] at c1
 have hz1:(z != 0)=true:=by rw [hz.out];simpa using h0
 have HZ0:Hid (¬ z=0):=by show ¬ z=0;rw [hz.out];exact h0
 have H0:Hid (_):=h0
 clear h0
 have lx:w.heap.size<W3.heap.size:=(Array.getElem?_eq_some_iff.1 QX.out).1
 have ly:w.heap.size+1<W3.heap.size:=(Array.getElem?_eq_some_iff.1 QY.out).1
 have a0:W3.cell? ⟨w.heap.size+1+1,0,none⟩=some (.slice ta tr.length tcap):=by simp [World.cell?,q3]
 have a1:W3.cell? ⟨w.heap.size+1+1,1,none⟩=some (.slice none 0 0):=by simp [World.cell?,q3]
 have al:w.heap.size+1+1<W3.heap.size:=lt_of_cell a0
 have hl3:l.length≤9223372036854775807:=by unfold maxLen at hll;omega
 clear bw q1 q2 q3 hC0 HC0 hT hTo hl hlo ht
 go_enter Tryz.func13,Tryz.ntmps13
 go_upto_region 2 with fail
 rw [← hW3.out]
 clear hW3
 go_wp2_with (go_at_call 29;refine c1.mono ?_;clear c1;rintro y w1 ⟨rfl,hb⟩;have HB1:Hid (Below W3.heap.size W3 w1):=hb;have hx:=(hb.block _ lx).trans QX.out;have hy:=(hb.block _ ly).trans QY.out;have x0:w1.cell? ⟨w.heap.size,0,none⟩=some (.slice none 0 0):=(by simp [World.cell?,hx]);have x1:w1.cell? ⟨w.heap.size,1,none⟩=some (.slice none 0 0):=(by simp [World.cell?,hx]);have x2:w1.cell? ⟨w.heap.size,2,none⟩=some (.slice none 0 0):=(by simp [World.cell?,hx]);have y0:w1.cell? ⟨w.heap.size+1,0,none⟩=some (.slice none 0 0):=(by simp [World.cell?,hy]);have y1:w1.cell? ⟨w.heap.size+1,1,none⟩=some (.slice none 0 0):=(by simp [World.cell?,hy]);have fx0:=frozen_of_block hx 0;have fx1:=frozen_of_block hx 1;have fx2:=frozen_of_block hx 2;have fy0:=frozen_of_block hy 0;have fy1:=frozen_of_block hy 1;have xl:=lt_of_cell x0;have yl:=lt_of_cell y0;dsimp only at xl yl;clear hb hx hy a0 a1 al)
 refine bp_genR fun V9 hV9=>?_
 obtain ⟨k0,k1,k2,k3,k4⟩:=xy5 (a:=.slice none 0 0) (b:=.slice none 0 0) (c:=.slice none 0 0) (d:=.slice none 0 0) (e:=.slice none 0 0) (show w.heap.size≠w.heap.size+1 by omega) x0 x1 x2 y0 y1
 have HB9:Below w.heap.size w V9:=by
  rw [hV9]
  exact (((((BW.out.trans (HB1.out.mono BW.out.size)).setCell (p:=⟨w.heap.size,0,none⟩) (Nat.le_refl _) _).setCell (p:=⟨w.heap.size,1,none⟩) (Nat.le_refl _) _).setCell (p:=⟨w.heap.size,2,none⟩) (Nat.le_refl _) _).setCell (p:=⟨w.heap.size+1,0,none⟩) (show w.heap.size≤w.heap.size+1 by omega) _).setCell (p:=⟨w.heap.size+1,1,none⟩) (show w.heap.size≤w.heap.size+1 by omega) _
 rw [← hV9] at k0 k1 k2 k3 k4
 clear hV9
 (try simp only [Exit.inBlock,Exit.then])
 refine bodyPost_ret (by simp [results,Tryz.results13,go_sem,k0,k1,k2,k3,k4];try rfl) rfl ?_
 have hz:runF tr l=z:=by unfold runF;rw [if_neg H0.out,hz.out]
 have hz0:¬ runF tr l=0:=by rw [hz];first | decide | exact HZ0.out
 exact ⟨none,0,[],noM,noC,by rw [hz];rfl,.inl rfl,by rw [if_neg hz0],by rw [if_neg hz0];exact Mv.Same.refl _,by rw [if_neg hz0];exact Cv.Same.refl _,noM_own _ _,noC_own _ _,HB9⟩
set_option maxRecDepth 100000 in
set_option maxHeartbeats 8000000 in
theorem run_big (ta:Option Addr) (tr:List ByteArray) (tcap:Nat) (la:Option Addr) (l:List Ac) (lcap:Nat) (w:World) (hT:Texts w ta tr) (hTo:(⟨ta,tr,tcap,none,[],0⟩:Cv).Ok) (hl:RowsAt w 7 Ac.cells la l) (hll:l.length≤maxLen) (hlo:∀ x ∈ l,x.Ok) (ht:Tab w) (h0:chF tr []=0) (h2:200<l.length) :
 Calls Tryz.prog 13 #[.slice ta tr.length tcap,.slice la l.length lcap] w (HostSaid tr l w):=by
 obtain ⟨W3,hW3⟩:∃ W3,Hid (W3=((w.alloc (.cells #[.slice none 0 0,.slice none 0 0,.slice none 0 0] 29)).alloc (.cells #[.slice none 0 0,.slice none 0 0] 32)).alloc (.cells #[.slice ta tr.length tcap,.slice none 0 0] 32)):=⟨_,rfl⟩
 obtain ⟨bw,q1,q2,q3⟩:=al3w w (.cells #[.slice none 0 0,.slice none 0 0,.slice none 0 0] 29) (.cells #[.slice none 0 0,.slice none 0 0] 32) (.cells #[.slice ta tr.length tcap,.slice none 0 0] 32)
 rw [← hW3.out] at bw q1 q2 q3
 have BW:Hid (_):=bw
 have QX:Hid (_):=q1
 have QY:Hid (_):=q2
 have QA:Hid (_):=q3
 have hC0:ChalAt W3 ⟨ta,tr,tcap,none,[],0⟩:=⟨hT.below bw,.inl rfl,hTo⟩
 have HC0:Hid (_):=hC0
 have c1:=checkC_any ⟨ta,tr,tcap,none,[],0⟩ W3 hC0
 unfold Cv.val at c1
 dsimp only [List.length_nil] at c1
 rw [h0] at c1
 have hl2:200<(l.length:Int):=by omega
 have H0:Hid (_):=h0
 have H2:Hid (200<l.length):=h2
 clear h0 h2
 have lx:w.heap.size<W3.heap.size:=(Array.getElem?_eq_some_iff.1 QX.out).1
 have ly:w.heap.size+1<W3.heap.size:=(Array.getElem?_eq_some_iff.1 QY.out).1
 have a0:W3.cell? ⟨w.heap.size+1+1,0,none⟩=some (.slice ta tr.length tcap):=by simp [World.cell?,q3]
 have a1:W3.cell? ⟨w.heap.size+1+1,1,none⟩=some (.slice none 0 0):=by simp [World.cell?,q3]
 have al:w.heap.size+1+1<W3.heap.size:=lt_of_cell a0
 have hl3:l.length≤9223372036854775807:=by unfold maxLen at hll;omega
 clear bw q1 q2 q3 hC0 HC0 hT hTo hl hlo ht
 go_enter Tryz.func13,Tryz.ntmps13
 go_upto_region 2 with fail
 rw [← hW3.out]
 clear hW3
 go_wp2_with (go_at_call 29;refine c1.mono ?_;clear c1;rintro y w1 ⟨rfl,hb⟩;have HB1:Hid (Below W3.heap.size W3 w1):=hb;have hx:=(hb.block _ lx).trans QX.out;have hy:=(hb.block _ ly).trans QY.out;have x0:w1.cell? ⟨w.heap.size,0,none⟩=some (.slice none 0 0):=(by simp [World.cell?,hx]);have x1:w1.cell? ⟨w.heap.size,1,none⟩=some (.slice none 0 0):=(by simp [World.cell?,hx]);have x2:w1.cell? ⟨w.heap.size,2,none⟩=some (.slice none 0 0):=(by simp [World.cell?,hx]);have y0:w1.cell? ⟨w.heap.size+1,0,none⟩=some (.slice none 0 0):=(by simp [World.cell?,hy]);have y1:w1.cell? ⟨w.heap.size+1,1,none⟩=some (.slice none 0 0):=(by simp [World.cell?,hy]);have fx0:=frozen_of_block hx 0;have fx1:=frozen_of_block hx 1;have fx2:=frozen_of_block hx 2;have fy0:=frozen_of_block hy 0;have fy1:=frozen_of_block hy 1;have xl:=lt_of_cell x0;have yl:=lt_of_cell y0;dsimp only at xl yl;clear hb hx hy a0 a1 al)
 refine bp_genR fun V9 hV9=>?_
 obtain ⟨k0,k1,k2,k3,k4⟩:=xy5 (a:=.slice none 0 0) (b:=.slice none 0 0) (c:=.slice none 0 0) (d:=.slice none 0 0) (e:=.slice none 0 0) (show w.heap.size≠w.heap.size+1 by omega) x0 x1 x2 y0 y1
 have HB9:Below w.heap.size w V9:=by
  rw [hV9]
  exact (((((BW.out.trans (HB1.out.mono BW.out.size)).setCell (p:=⟨w.heap.size,0,none⟩) (Nat.le_refl _) _).setCell (p:=⟨w.heap.size,1,none⟩) (Nat.le_refl _) _).setCell (p:=⟨w.heap.size,2,none⟩) (Nat.le_refl _) _).setCell (p:=⟨w.heap.size+1,0,none⟩) (show w.heap.size≤w.heap.size+1 by omega) _).setCell (p:=⟨w.heap.size+1,1,none⟩) (show w.heap.size≤w.heap.size+1 by omega) _
 rw [← hV9] at k0 k1 k2 k3 k4
 clear hV9
 (try simp only [Exit.inBlock,Exit.then])
 refine bodyPost_ret (by simp [results,Tryz.results13,go_sem,k0,k1,k2,k3,k4];try rfl) rfl ?_
 have hz:runF tr l=1:=by unfold runF;rw [if_pos H0.out,if_pos H2.out]
 have hz0:¬ runF tr l=0:=by rw [hz];first | decide | exact HZ0.out
 exact ⟨none,0,[],noM,noC,by rw [hz];rfl,.inl rfl,by rw [if_neg hz0],by rw [if_neg hz0];exact Mv.Same.refl _,by rw [if_neg hz0];exact Cv.Same.refl _,noM_own _ _,noC_own _ _,HB9⟩
theorem runH_any (ta:Option Addr) (tr:List ByteArray) (tcap:Nat) (la:Option Addr) (l:List Ac) (lcap:Nat) (w:World) (hT:Texts w ta tr) (hTo:(⟨ta,tr,tcap,none,[],0⟩:Cv).Ok) (hl:RowsAt w 7 Ac.cells la l) (hll:l.length≤maxLen) (hlo:∀ x ∈ l,x.Ok) (ht:Tab w) :
 Calls Tryz.prog 13 #[.slice ta tr.length tcap,.slice la l.length lcap] w (HostSaid tr l w):=by
 by_cases h0:chF tr []=0
 · by_cases h2:200<l.length
   · exact run_big ta tr tcap la l lcap w hT hTo hl hll hlo ht h0 h2
   · exact run_ok ta tr tcap la l lcap w hT hTo hl hll hlo ht h0 (by omega)
 · exact run_no ta tr tcap la l lcap w hT hTo hl hll hlo ht h0
end Go.Proofs.YtdngbojbpmdegaaGreatDoor
