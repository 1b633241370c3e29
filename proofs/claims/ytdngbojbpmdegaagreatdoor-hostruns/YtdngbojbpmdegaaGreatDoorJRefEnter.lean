import Derived.Test.YtdngbojbpmdegaaGreatDoorRefRanL
namespace Go.Proofs.YtdngbojbpmdegaaGreatDoor
open Go.RowKit
set_option linter.unusedVariables false
def RanOfSaid (R:Rn) (m:Nat) (w:World) (y:Ending) (w' : World):Prop:=∃ N:Mv,y=.returned (.tuple #[N.val,.agg #[.int .i64 R.nd,.int .i64 R.v]])∧N.Same (leftM R m)∧Owned w.heap.size w' N∧Below w.heap.size w w'
theorem ranK_start {w W2 w5:World} {N M0:Mv} {m f:Nat} {pc r0 r1 r2 r3:Int} {R:Rn} (BW:Below w.heap.size w W2) (l4:w.heap.size+1+1+1<W2.heap.size) (q2:W2.heap[w.heap.size+1]? = some (.cells #[.int .i64 r0,.int .i64 r1,.int .i64 r2,.int .i64 r3] 56)) (q3:W2.heap[w.heap.size+1+1]? = some (.cells #[.slice none 0 0,.slice none 0 0,.slice none 0 0] 29)) (q4:W2.heap[w.heap.size+1+1+1]? = some (.cells #[.int .i64 0,.int .i64 0] 47))
 (HS:N.Same M0) (HO:Owned W2.heap.size w5 N) (HB:Below W2.heap.size W2 w5) (HQ:QRow W2.heap.size w5 N) (ho:RunOk M0 m pc [r0,r1,r2,r3]) (hf:f≤5000) (hR:R=runR f M0 m pc [r0,r1,r2,r3] xorR) :
 RanK W2.heap.size m w5.heap.size (w.heap.size+1) (w.heap.size+1+1) (w.heap.size+1+1+1) w R f pc N [r0,r1,r2,r3] (w5.alloc (.cells #[.slice N.fa N.frs.length N.fcap,.slice N.ea N.ens.length N.ecap,.slice N.qa N.qus.length N.qcap] 29)):=by
 have b6:Below w5.heap.size w5 (w5.alloc (.cells #[.slice N.fa N.frs.length N.fcap,.slice N.ea N.ens.length N.ecap,.slice N.qa N.qus.length N.qcap] 29)):=(Below.refl _ _).alloc (Nat.le_refl _) _
 have n6:(w5.alloc (.cells #[.slice N.fa N.frs.length N.fcap,.slice N.ea N.ens.length N.ecap,.slice N.qa N.qus.length N.qcap] 29)).heap[w5.heap.size]? = some (.cells #[.slice N.fa N.frs.length N.fcap,.slice N.ea N.ens.length N.ecap,.slice N.qa N.qus.length N.qcap] 29):=Go.Deep.blk_alloc_new _ _
 generalize w5.alloc (.cells #[.slice N.fa N.frs.length N.fcap,.slice N.ea N.ens.length N.ecap,.slice N.qa N.qus.length N.qcap] 29)=V at b6 n6
 have s5:=HB.size
 have s6:=b6.size
 have s2:=BW.size
 have lV:w5.heap.size<V.heap.size:=(Array.getElem?_eq_some_iff.1 n6).1
 have kp:∀ c,c<W2.heap.size→V.heap[c]? = W2.heap[c]?:=fun c hc=>(b6.block c (by omega)).trans (HB.block c hc)
 have k2:=(kp _ (by omega)).trans q2
 have k3:=(kp _ (by omega)).trans q3
 have k4:=(kp _ l4).trans q4
 refine ⟨hf,⟨by simp [World.cell?,n6],by simp [World.cell?,n6],by simp [World.cell?,n6],?_,frozen_of_block n6,frozen_of_block k2,lV,by omega,HO.below b6,HQ.keep fun b o s e=>b6.block b (HO.nq b o s e).2.1,?_,?_,by omega,by omega⟩,RunOk.same ho HS,?_,BW.trans ((HB.mono s2).trans (b6.mono (by omega))),k3,k4,by omega,by omega,by omega,by omega,by omega,by omega,by omega,by omega,by omega⟩
 · intro i hi
   match i,hi with
   | 0,_=>simp [World.cell?,k2]
   | 1,_=>simp [World.cell?,k2]
   | 2,_=>simp [World.cell?,k2]
   | 3,_=>simp [World.cell?,k2]
 · intro q;have:=(Mine.fresh HO q).2;omega
 · intro q;have:=(Mine.fresh HO q).1;omega
 · rw [hR];exact runR_same f HS.symm m pc _ xorR
set_option maxRecDepth 1000000 in
set_option maxHeartbeats 16000000 in
theorem ranOf_run (M:Mv) (m:Nat) (pc r0 r1 r2 r3:Int) (f:Nat) (w:World) (hM:MachAt w M) (hF:M.Fits) (ho:RunOk M m pc [r0,r1,r2,r3]) (hf:f≤5000) :
 Calls Tryz.prog 111 #[M.val,.int .i64 ((m:Int)+1),.int .i64 pc,.agg #[.int .i64 r0,.int .i64 r1,.int .i64 r2,.int .i64 r3],.int .i64 (f:Int)] w (RanOfSaid (runR f M m pc [r0,r1,r2,r3] xorR) m w):=by
 obtain ⟨R,hR⟩:∃ R,Hid (R=runR f M m pc [r0,r1,r2,r3] xorR):=⟨_,rfl⟩
 rw [← hR.out]
 have HO:Hid (_):=ho
 have HF5:Hid (f≤5000):=hf
 have cL0:=fun w' (h:Below w.heap.size w w')=>mcopy_own M w' (hM.below h) hF
 unfold Mv.val at cL0
 unfold Mv.val
 obtain ⟨fa,frs,fcap,ea,ens,ecap,qa,qus,qcap⟩:=M
 dsimp only at cL0 ⊢
 obtain ⟨W2,hW2⟩:∃ W2,Hid (W2=(((w.alloc (.cells #[.slice fa frs.length fcap,.slice ea ens.length ecap,.slice qa qus.length qcap] 29)).alloc (.cells #[.int .i64 r0,.int .i64 r1,.int .i64 r2,.int .i64 r3] 56)).alloc (.cells #[.slice none 0 0,.slice none 0 0,.slice none 0 0] 29)).alloc (.cells #[.int .i64 0,.int .i64 0] 47)):=⟨_,rfl⟩
 have BW:Hid (Below w.heap.size w W2):=by show Below _ _ _;rw [hW2.out];exact below_allocR (below_allocR (below_allocR (below_allocR (Below.refl _ _) _) _) _) _
 have cL:=cL0 W2 BW.out
 have FC:Hid (W2.heap[w.heap.size]? = some (.cells #[.slice fa frs.length fcap,.slice ea ens.length ecap,.slice qa qus.length qcap] 29)∧W2.heap[w.heap.size+1]? = some (.cells #[.int .i64 r0,.int .i64 r1,.int .i64 r2,.int .i64 r3] 56)∧W2.heap[w.heap.size+1+1]? = some (.cells #[.slice none 0 0,.slice none 0 0,.slice none 0 0] 29)∧W2.heap[w.heap.size+1+1+1]? = some (.cells #[.int .i64 0,.int .i64 0] 47)):=by
  show _∧_
  rw [hW2.out]
  exact ⟨al1 w _ _ _ _,al2 w _ _ _ _,al3 w _ _ _ _,al4 w _ _ _ _⟩
 obtain ⟨q1,q2,q3,q4⟩:=FC.out
 have t0:W2.cell? ⟨w.heap.size,0,none⟩=some (.slice fa frs.length fcap):=by simp [World.cell?,q1]
 have t1:W2.cell? ⟨w.heap.size,1,none⟩=some (.slice ea ens.length ecap):=by simp [World.cell?,q1]
 have t2:W2.cell? ⟨w.heap.size,2,none⟩=some (.slice qa qus.length qcap):=by simp [World.cell?,q1]
 have l0:w.heap.size<W2.heap.size:=lt_of_cell t0
 have HL4:Hid (w.heap.size+1+1+1<W2.heap.size):=(Array.getElem?_eq_some_iff.1 q4).1
 clear hM hF ho cL0 q1 q2 q3 q4 hf
 go_enter Tryz.func111,Tryz.ntmps111
 go_upto_region 1 with fail
 rw [← hW2.out]
 go_wp2_with (go_at_call 58;refine cL.mono ?_;clear cL;rintro x w5 ⟨N,rfl,hS,hO,hb,hq⟩;have HS5:Hid (_):=hS;have HO5:Hid (_):=hO;have HQ5:Hid (_):=hq;have HB5:Hid (_):=hb;clear hS hO hq hb;obtain ⟨nfa,nfrs,nfcap,nea,nens,necap,nqa,nqus,nqcap⟩:=N)
 refine ran_loop (n0:=W2.heap.size) (m:=m) (bm:=w5.heap.size) (br:=w.heap.size+1) (X:=w.heap.size+1+1) (Y:=w.heap.size+1+1+1) (w:=w) (R:=R) (k:=f) (pc:=pc) (M:=⟨nfa,nfrs,nfcap,nea,nens,necap,nqa,nqus,nqcap⟩) (rs:=[r0,r1,r2,r3]) ?_ _ ?_ ?_
 · exact ranK_start BW.out HL4.out FC.out.2.1 FC.out.2.2.1 FC.out.2.2.2 HS5.out HO5.out HB5.out HQ5.out HO.out HF5.out hR.out
 · intro a w9
   clear t0 t1 t2 l0 HO HF5 HS5 HO5 HQ5 HB5 FC BW HL4 hR hW2
   revert a
   refine ranF_all _ ?_
   intros
   rename_i hO
   obtain ⟨N,g0,g1,g2,g3,g4,hN,hO9,hb9⟩:=hO
   (try simp only [Exit.inBlock,Exit.then])
   refine bodyPost_ret (by simp [results,Tryz.results111,go_sem,g0,g1,g2,g3,g4];try rfl) rfl ?_
   exact ⟨N,rfl,hN,hO9,hb9⟩
 · intro a w9
   generalize w.heap.size+1+1+1=Y at *
   generalize w.heap.size+1+1=X at *
   generalize w.heap.size+1=br at *
   generalize w5.heap.size=bm at *
   generalize W2.heap.size=n0 at *
   clear t0 t1 t2 l0 HO HF5 HS5 HO5 HQ5 HB5 FC BW HL4 hR hW2
   revert a
   refine ranF_all _ ?_
   intros
   rename_i hE
   obtain ⟨pc',M,rs,rfl,hK⟩:=hE
   have H:Hid (_):=hK
   have hm4:=hK.ok.m4
   have hpc:=hK.ok.pc
   obtain ⟨fb,fo,hfa,_⟩:=hK.st.own.at_.frame (j:=0) (by have:=hK.ok.good.s1;omega)
   obtain ⟨zb,zo,hea,_⟩:=hK.st.own.at_.enclave (j:=m) (by have:=hK.ok.good.s2;omega)
   obtain ⟨lg,HLG⟩:∃ lg,Hid ((M.ens.getD m default).log=lg):=⟨_,rfl⟩
   have HFA:Hid (_):=hfa
   have HHA:Hid (_):=hea
   have FE:Hid (_):=end_at hK hfa hea HLG.out
   have HS0:Hid (R.Same ⟨M,pc',rs,2,0⟩):=hK.same
   obtain ⟨e0,he0⟩:∃ e,Hid (rs.getD 0 0=e):=⟨_,rfl⟩
   obtain ⟨e1,he1⟩:∃ e,Hid (rs.getD 1 0=e):=⟨_,rfl⟩
   obtain ⟨e2,he2⟩:∃ e,Hid (rs.getD 2 0=e):=⟨_,rfl⟩
   obtain ⟨e3,he3⟩:∃ e,Hid (rs.getD 3 0=e):=⟨_,rfl⟩
   have i0:=hK.st.cr 0 (by omega)
   have i1:=hK.st.cr 1 (by omega)
   have i2:=hK.st.cr 2 (by omega)
   have i3:=hK.st.cr 3 (by omega)
   rw [he0.out] at i0
   rw [he1.out] at i1
   rw [he2.out] at i2
   rw [he3.out] at i3
   have HWE:Hid ((Lit.int .i64 pc').wf=true∧(Lit.int .i64 e0).wf=true∧(Lit.int .i64 e1).wf=true∧(Lit.int .i64 e2).wf=true∧(Lit.int .i64 e3).wf=true):=by
    have a0:=hK.ok.rs 0
    have a1:=hK.ok.rs 1
    have a2:=hK.ok.rs 2
    have a3:=hK.ok.rs 3
    rw [he0.out] at a0
    rw [he1.out] at a1
    rw [he2.out] at a2
    rw [he3.out] at a3
    exact ⟨WalkArith.wf_i64 (by omega),WalkArith.wf_i64 (by omega),WalkArith.wf_i64 (by omega),WalkArith.wf_i64 (by omega),WalkArith.wf_i64 (by omega)⟩
   have hbrz:br≠zb:=fun q=>hK.st.offr (q▸.inr (.inl ⟨zo,none,hea⟩))
   have lr:=hK.st.lr
   clear hK hfa hea
   obtain ⟨hwm,hwm2,hmm⟩:=wm_of hm4
   obtain ⟨xzb,yzb,hxy,hbmX,hbmY,hbmz⟩:=ran_ne H.out HHA.out
   have HE:Hid (_):=FE.out w9 (Below.refl _ _)
   obtain ⟨⟨y0,y1,y2⟩,⟨n0_,n1_,n2_,n3_,n4_,n5_,n6_⟩,⟨nf0,nf1,nf2,nf3,nf4,nf5,nf6⟩,⟨x0,x1,x2,v0,v1⟩,⟨xf0,xf1,xf2,yf0,yf1⟩,lm,lz,lX,lY⟩:=HE.out
   go_upto_region 51 with fail
   go_region_held3 (fun w'=>w'.cell? ⟨bm,1,none⟩=some (.slice (some ⟨zb,zo,none⟩) 4 M.ecap)∧w'.cell? ⟨zb,zo+m * 7+1,none⟩=some (.string lg)∧w'.cell? ⟨br,0,none⟩=some (.int .i64 e0)∧w'.cell? ⟨br,1,none⟩=some (.int .i64 e1)∧w'.cell? ⟨br,2,none⟩=some (.int .i64 e2)∧w'.cell? ⟨br,3,none⟩=some (.int .i64 e3)) (first | (with_reducible exact ⟨(drew_cell _ _).trans y1,(drew_cell _ _).trans n1_,(drew_cell _ _).trans i0,(drew_cell _ _).trans i1,(drew_cell _ _).trans i2,(drew_cell _ _).trans i3⟩) | (with_reducible exact ⟨(seven_both hbmz y1 n1_).1,(seven_both hbmz y1 n1_).2,(drew_cell _ _).trans (seven_cell hbrz i0),(drew_cell _ _).trans (seven_cell hbrz i1),(drew_cell _ _).trans (seven_cell hbrz i2),(drew_cell _ _).trans (seven_cell hbrz i3)⟩) | go_keep) (fail)
   refine q_name fun V8 hV8=>?_
   clear y0 y1 y2 n0_ n1_ n2_ n3_ n4_ n5_ n6_ nf0 nf1 nf2 nf3 nf4 nf5 nf6 x0 x1 x2 v0 v1 xf0 xf1 xf2 yf0 yf1 lm lz lX lY i0 i1 i2 i3 lr
   obtain ⟨⟨y0,y1,y2⟩,⟨x0,x1,x2,v0,v1⟩,⟨xf0,xf1,xf2,yf0,yf1⟩,lb8,lx8,ly8⟩:=end_after hV8.out HE.out hbmz xzb yzb
   go_wp2
   refine bp_genR fun V9 hV9=>?_
   obtain ⟨E0,E1,E2⟩:=ran_es H.out HFA.out HHA.out HLG.out
   have hOut:=ran_last (d:=2) (v:=0) H.out (Below.refl _ _) HS0.out rfl HHA.out (E':=⟨3,lg,pc',e0,e1,e2,e3⟩) (by rw [← left_held (M:=M) (m:=m) (pc:=pc') (rs:=rs) HLG.out,he0.out,he1.out,he2.out,he3.out]) ⟨(show (Lit.int .i64 (3:Int)).wf=true by decide),E2,HWE.out.1,HWE.out.2.1,HWE.out.2.2.1,HWE.out.2.2.2.1,HWE.out.2.2.2.2⟩ rfl rfl E0 E1 rfl hV8.out hV9 (.int .i64 0) (.int .i64 0)
   obtain ⟨N,g0,g1,g2,g3,g4,hN,hO9,hb9⟩:=hOut
   clear hV9 hV8
   (try simp only [Exit.inBlock,Exit.then])
   refine bodyPost_ret (by simp [results,Tryz.results111,go_sem,g0,g1,g2,g3,g4];try rfl) rfl ?_
   exact ⟨N,rfl,hN,hO9,hb9⟩
end Go.Proofs.YtdngbojbpmdegaaGreatDoor

namespace Go.Proofs.YtdngbojbpmdegaaGreatDoor
open Go.RowKit
set_option linter.unusedVariables false
set_option maxRecDepth 100000 in
set_option maxHeartbeats 8000000 in
theorem enteredOf_any (M:Mv) (e word fuel:Int) (w:World) (hM:MachAt w M) (hF:M.Fits) :
 Calls Tryz.prog 53 #[M.val,.int .i64 e,.int .i64 word,.int .i64 fuel] w (RunSaid (entD M e word fuel) (entV M e word fuel) (entF M e word fuel) (entM M e word fuel) w):=by
 have h1':=fun w' (h:Below w.heap.size w w')=>asked_any M e 2 w' (hM.below h)
 have h2':=fun w' (h:Below w.heap.size w w') m pc r0 r1 r2 r3 f=>fun ho hf=>ranOf_run M m pc r0 r1 r2 r3 f w' (hM.below h) hF ho hf
 obtain ⟨z,hz⟩:∃ z,z=entF M e word fuel:=⟨_,rfl⟩
 obtain ⟨T,hT⟩:∃ T,T=entM M e word fuel:=⟨_,rfl⟩
 obtain ⟨nd,hnd⟩:∃ nd,nd=entD M e word fuel:=⟨_,rfl⟩
 obtain ⟨v,hv⟩:∃ v,v=entV M e word fuel:=⟨_,rfl⟩
 rw [← hz,← hT,← hnd,← hv]
 by_cases h0:entF M e word fuel=0
 · obtain ⟨m,f,rfl,rfl,hf,ho⟩:=ent_ok h0
   rw [(fuelF_zero (entF_zero h0).1).1] at h1'
   have hiF:inB (f:Int) 0 5000=true:=inB_iff.2 (fuelF_zero (entF_zero h0).1).2
   have hiW:inB word 0 65535=true:=inB_iff.2 (entF_zero h0).2
   have h2'':=fun w' h=>h2' w' h m 0 word 0 0 0 f ho hf
   have HT:Hid (T=leftM (runR f M m 0 [word,0,0,0] xorR) m):=by show T=_;rw [hT];unfold entM entR;rw [if_pos h0,show ((m:Int)+1 - 1).toNat=m by omega,Int.toNat_natCast]
   have HND:Hid (nd=(runR f M m 0 [word,0,0,0] xorR).nd):=by show nd=_;rw [hnd];unfold entD entR;rw [if_pos h0,show ((m:Int)+1 - 1).toNat=m by omega,Int.toNat_natCast]
   have HV:Hid (v=(runR f M m 0 [word,0,0,0] xorR).v):=by show v=_;rw [hv];unfold entV entR;rw [if_pos h0,show ((m:Int)+1 - 1).toNat=m by omega,Int.toNat_natCast]
   have HZ:Hid (z=0):=by show z=0;rw [hz,h0]
   unfold RanOfSaid at h2''
   rw [← HND.out,← HV.out,← HT.out] at h2''
   unfold Mv.val at h1' h2''
   unfold Mv.val
   obtain ⟨fa,frs,fcap,ea,ens,ecap,qa,qus,qcap⟩:=M
   dsimp only at h1' h2'' ⊢
   clear hM hF hz hT hnd hv h0 h2' ho hf
   obtain ⟨W3,hW3,BW,FC⟩:=box5 w (.slice fa frs.length fcap) (.slice ea ens.length ecap) (.slice qa qus.length qcap)
   obtain ⟨m0,m1,m2,_,_⟩:=FC.out W3 (Below.refl _ _)
   have h1:=fun w' (h:Below W3.heap.size W3 w')=>h1' w' (BW.out.trans (h.mono BW.out.size))
   have h2:=fun w' (h:Below W3.heap.size W3 w')=>h2'' w' (BW.out.trans (h.mono BW.out.size))
   clear h1' h2''
   go_enter Tryz.func53,Tryz.ntmps53
   go_upto_region 1 with fail
   rw [← hW3.out]
   clear hW3
   go_wp2_with (first
    | (go_at_call 107;refine (h1 _ (Below.refl _ _)).mono ?_;clear h1;rintro x w1 ⟨rfl,hb1⟩;clear m0 m1 m2;obtain ⟨m0,m1,m2,hx,hy⟩:=FC.out w1 hb1;have HB1:Hid (Below W3.heap.size W3 w1):=hb1;obtain ⟨x0,x1,x2,y0,y1,fx0,fx1,fx2,fy0,fy1⟩:=five_of hx hy;clear hb1 hx hy)
    | (go_at_call 56;refine (in_any _ _ _ _).mono ?_;rintro e w' ⟨rfl,rfl⟩)
    | (go_at_call 111;refine (h2 _ HB1.out).mono ?_;clear h2;rintro x w2 ⟨N,rfl,hS,hO,hb2⟩;have HS2:Hid (_):=hS;have HO2:Hid (Owned w1.heap.size w2 N):=hO.mono (by first | exact Nat.le_refl _ | (simp;done));have HB2:Hid (Below W3.heap.size W3 w2):=HB1.out.trans (hb2.mono HB1.out.size);clear hS hO hb2)
    | fail)
   clear m0 m1 m2 x0 x1 x2 y0 y1 fx0 fx1 fx2 fy0 fy1
   obtain ⟨V3,hV3⟩:∃ V3,Hid (V3=(w2.alloc (.cells #[.slice N.fa N.frs.length N.fcap,.slice N.ea N.ens.length N.ecap,.slice N.qa N.qus.length N.qcap] 29)).alloc (.cells #[.int .i64 nd,.int .i64 v] 47)):=⟨_,rfl⟩
   rw [← hV3.out]
   have BV:Hid (Below W3.heap.size W3 V3):=by show Below _ _ _;rw [hV3.out];exact below_allocR (below_allocR HB2.out _) _
   have BV2:Hid (Below w2.heap.size w2 V3):=by show Below _ _ _;rw [hV3.out];exact below_allocR (below_allocR (Below.refl _ _) _) _
   have q1:V3.heap[w2.heap.size]? = some (.cells #[.slice N.fa N.frs.length N.fcap,.slice N.ea N.ens.length N.ecap,.slice N.qa N.qus.length N.qcap] 29):=by rw [hV3.out,Below.heap_alloc _ _ _ (by simp)];exact Go.Deep.blk_alloc_new _ _
   have q2:V3.heap[w2.heap.size+1]? = some (.cells #[.int .i64 nd,.int .i64 v] 47):=by
    rw [hV3.out]
    have:=Go.Deep.blk_alloc_new (w2.alloc (.cells #[.slice N.fa N.frs.length N.fcap,.slice N.ea N.ens.length N.ecap,.slice N.qa N.qus.length N.qcap] 29)) (.cells #[.int .i64 nd,.int .i64 v] 47)
    simpa using this
   obtain ⟨_,_,_,hx,hy⟩:=FC.out V3 BV.out
   have lx:w.heap.size+1<W3.heap.size:=(Array.getElem?_eq_some_iff.1 (FC.out W3 (Below.refl _ _)).2.2.2.1).1
   have ly:w.heap.size+1+1<W3.heap.size:=(Array.getElem?_eq_some_iff.1 (FC.out W3 (Below.refl _ _)).2.2.2.2).1
   have p0:V3.cell? ⟨w2.heap.size,0,none⟩=some (.slice N.fa N.frs.length N.fcap):=by simp [World.cell?,q1]
   have p1:V3.cell? ⟨w2.heap.size,1,none⟩=some (.slice N.ea N.ens.length N.ecap):=by simp [World.cell?,q1]
   have p2:V3.cell? ⟨w2.heap.size,2,none⟩=some (.slice N.qa N.qus.length N.qcap):=by simp [World.cell?,q1]
   have o0:V3.cell? ⟨w2.heap.size+1,0,none⟩=some (.int .i64 nd):=by simp [World.cell?,q2]
   have o1:V3.cell? ⟨w2.heap.size+1,1,none⟩=some (.int .i64 v):=by simp [World.cell?,q2]
   have x0:V3.cell? ⟨w.heap.size+1,0,none⟩=some (.slice none 0 0):=by simp [World.cell?,hx]
   have x1:V3.cell? ⟨w.heap.size+1,1,none⟩=some (.slice none 0 0):=by simp [World.cell?,hx]
   have x2:V3.cell? ⟨w.heap.size+1,2,none⟩=some (.slice none 0 0):=by simp [World.cell?,hx]
   have y0:V3.cell? ⟨w.heap.size+1+1,0,none⟩=some (.int .i64 0):=by simp [World.cell?,hy]
   have y1:V3.cell? ⟨w.heap.size+1+1,1,none⟩=some (.int .i64 0):=by simp [World.cell?,hy]
   have fx0:=frozen_of_block hx 0
   have fx1:=frozen_of_block hx 1
   have fx2:=frozen_of_block hx 2
   have fy0:=frozen_of_block hy 0
   have fy1:=frozen_of_block hy 1
   obtain ⟨X,hX⟩:∃ X,Hid (X=w.heap.size+1):=⟨_,rfl⟩
   obtain ⟨Y,hY⟩:∃ Y,Hid (Y=w.heap.size+1+1):=⟨_,rfl⟩
   obtain ⟨P,hP⟩:∃ P,Hid (P=w2.heap.size):=⟨_,rfl⟩
   obtain ⟨Z,hZ⟩:∃ Z,Hid (Z=w2.heap.size+1):=⟨_,rfl⟩
   rw [← hY.out,← hX.out,← hZ.out,← hP.out]
   rw [← hX.out] at x0 x1 x2 fx0 fx1 fx2 lx
   rw [← hY.out] at y0 y1 fy0 fy1 ly
   rw [← hP.out] at p0 p1 p2
   rw [← hZ.out] at o0 o1
   have s2:=HB2.out.size
   have eXY:X≠Y:=by have h1:=hX.out;have h2:=hY.out;omega
   have e1:P≠X:=by have h1:=hP.out;omega
   have e2:P≠Y:=by have h1:=hP.out;omega
   have e3:Z≠X:=by have h1:=hZ.out;omega
   have e4:Z≠Y:=by have h1:=hZ.out;omega
   have LXY:Hid (X<W3.heap.size∧Y<W3.heap.size):=⟨lx,ly⟩
   have GW:Hid (w.heap.size≤X∧w.heap.size≤Y):=by have h1:=hX.out;have h2:=hY.out;constructor<;>omega
   clear hx hy q1 q2 FC s2 lx ly hX hY hP hZ hV3
   go_big_region
   go_wp2
   refine bp_genR fun V9 hV9=>?_
   obtain ⟨k0,k1,k2,k3,k4⟩:=xy5 (a:=.slice N.fa N.frs.length N.fcap) (b:=.slice N.ea N.ens.length N.ecap) (c:=.slice N.qa N.qus.length N.qcap) (d:=.int .i64 nd) (e:=.int .i64 v) eXY x0 x1 x2 y0 y1
   have HB9:=((((((BW.out.trans (BV.out.mono BW.out.size)).setCell (p:=⟨X,0,none⟩) GW.out.1 (.slice N.fa N.frs.length N.fcap)).setCell (p:=⟨X,1,none⟩) GW.out.1 (.slice N.ea N.ens.length N.ecap)).setCell (p:=⟨X,2,none⟩) GW.out.1 (.slice N.qa N.qus.length N.qcap)).setCell (p:=⟨Y,0,none⟩) GW.out.2 (.int .i64 nd)).setCell (p:=⟨Y,1,none⟩) GW.out.2 (.int .i64 v)).drew
   have HO9:=own_xy (a:=.slice N.fa N.frs.length N.fcap) (b:=.slice N.ea N.ens.length N.ecap) (c:=.slice N.qa N.qus.length N.qcap) (d:=.int .i64 nd) (e:=.int .i64 v) (HO2.out.below BV2.out) (Nat.lt_of_lt_of_le LXY.out.1 HB1.out.size) (Nat.lt_of_lt_of_le LXY.out.2 HB1.out.size)
   generalize ((((V3.setCell ⟨X,0,none⟩ (.slice N.fa N.frs.length N.fcap)).setCell ⟨X,1,none⟩ (.slice N.ea N.ens.length N.ecap)).setCell ⟨X,2,none⟩ (.slice N.qa N.qus.length N.qcap)).setCell ⟨Y,0,none⟩ (.int .i64 nd)).setCell ⟨Y,1,none⟩ (.int .i64 v)=V at hV9 k0 k1 k2 k3 k4 HB9 HO9
   subst hV9
   refine bodyPost_ret (by simp [results,Tryz.results53,go_sem,k0,k1,k2,k3,k4];try rfl) rfl ?_
   exact ⟨N,by rw [HZ.out];rfl,HS2.out,HO9.mono (Nat.le_trans BW.out.size HB1.out.size),HB9⟩
 · rw [hT,hnd,hv]
   unfold entM entD entV
   rw [if_neg h0,if_neg h0,if_neg h0]
   have hT' : noM.Same noM:=Mv.Same.refl _
   have HT:Hid (_):=hT'
   unfold entF fuelF at hz h0
   unfold Mv.val at h1'
   unfold Mv.val
   by_cases hc:askF M e 2=0
   · rw [if_pos hc] at hz h0
     rw [hc] at h1'
     by_cases hfu:inB fuel 0 5000=true
     · rw [if_pos hfu,if_pos rfl] at hz h0
       by_cases hwd:inB word 0 65535=true
       · rw [if_pos hwd] at h0;exact absurd rfl h0
       · rw [if_neg hwd] at hz
         subst hz
         have hiW:inB word 0 65535=false:=by simpa using hwd
         obtain ⟨fa,frs,fcap,ea,ens,ecap,qa,qus,qcap⟩:=M
         dsimp only at h1' ⊢
         clear hM hF hT hnd hv h0 h2' hT' hc hwd
         obtain ⟨W3,hW3,BW,FC⟩:=box5 w (.slice fa frs.length fcap) (.slice ea ens.length ecap) (.slice qa qus.length qcap)
         obtain ⟨m0,m1,m2,_,_⟩:=FC.out W3 (Below.refl _ _)
         have h1:=fun w' (h:Below W3.heap.size W3 w')=>h1' w' (BW.out.trans (h.mono BW.out.size))
         clear h1'
         go_enter Tryz.func53,Tryz.ntmps53
         go_upto_region 1 with fail
         rw [← hW3.out]
         clear hW3
         go_wp2_with (first | (go_at_call 107;refine (h1 _ (Below.refl _ _)).mono ?_;clear h1;rintro x w1 ⟨rfl,hb1⟩;clear m0 m1 m2;obtain ⟨m0,m1,m2,hx,hy⟩:=FC.out w1 hb1;have HB1:Hid (Below W3.heap.size W3 w1):=hb1;obtain ⟨x0,x1,x2,y0,y1,fx0,fx1,fx2,fy0,fy1⟩:=five_of hx hy;clear FC hb1 hx hy) | (go_at_call 56;refine (in_any _ _ _ _).mono ?_;rintro e w' ⟨rfl,rfl⟩))
         refine bp_genR fun V9 hV9=>?_
         obtain ⟨k0,k1,k2,k3,k4⟩:=xy5 (a:=.slice none 0 0) (b:=.slice none 0 0) (c:=.slice none 0 0) (d:=.int .i64 0) (e:=.int .i64 0) (by omega) x0 x1 x2 y0 y1
         have HB9:Below w.heap.size w V9:=below5 BW.out HB1.out hV9
         rw [← hV9] at k0 k1 k2 k3 k4
         clear hV9
         (try simp only [Exit.inBlock,Exit.then])
         refine bodyPost_ret (by simp [results,Tryz.results53,go_sem,k0,k1,k2,k3,k4];try rfl) rfl ?_
         exact ⟨noM,rfl,HT.out,noM_own _ _,HB9⟩
     · rw [if_neg hfu,if_neg (by decide)] at hz
       subst hz
       have hiF:inB fuel 0 5000=false:=by simpa using hfu
       obtain ⟨fa,frs,fcap,ea,ens,ecap,qa,qus,qcap⟩:=M
       dsimp only at h1' ⊢
       clear hM hF hT hnd hv h0 h2' hT' hc hfu
       obtain ⟨W3,hW3,BW,FC⟩:=box5 w (.slice fa frs.length fcap) (.slice ea ens.length ecap) (.slice qa qus.length qcap)
       obtain ⟨m0,m1,m2,_,_⟩:=FC.out W3 (Below.refl _ _)
       have h1:=fun w' (h:Below W3.heap.size W3 w')=>h1' w' (BW.out.trans (h.mono BW.out.size))
       clear h1'
       go_enter Tryz.func53,Tryz.ntmps53
       go_upto_region 1 with fail
       rw [← hW3.out]
       clear hW3
       go_wp2_with (first | (go_at_call 107;refine (h1 _ (Below.refl _ _)).mono ?_;clear h1;rintro x w1 ⟨rfl,hb1⟩;clear m0 m1 m2;obtain ⟨m0,m1,m2,hx,hy⟩:=FC.out w1 hb1;have HB1:Hid (Below W3.heap.size W3 w1):=hb1;obtain ⟨x0,x1,x2,y0,y1,fx0,fx1,fx2,fy0,fy1⟩:=five_of hx hy;clear FC hb1 hx hy) | (go_at_call 56;refine (in_any _ _ _ _).mono ?_;rintro e w' ⟨rfl,rfl⟩))
       refine bp_genR fun V9 hV9=>?_
       obtain ⟨k0,k1,k2,k3,k4⟩:=xy5 (a:=.slice none 0 0) (b:=.slice none 0 0) (c:=.slice none 0 0) (d:=.int .i64 0) (e:=.int .i64 0) (by omega) x0 x1 x2 y0 y1
       have HB9:Below w.heap.size w V9:=below5 BW.out HB1.out hV9
       rw [← hV9] at k0 k1 k2 k3 k4
       clear hV9
       (try simp only [Exit.inBlock,Exit.then])
       refine bodyPost_ret (by simp [results,Tryz.results53,go_sem,k0,k1,k2,k3,k4];try rfl) rfl ?_
       exact ⟨noM,rfl,HT.out,noM_own _ _,HB9⟩
   · rw [if_neg hc,if_neg hc] at hz
     have hz1:(z != 0)=true:=by rw [hz];simpa using hc
     have hz2:(z == 0)=false:=by rw [hz];simpa using hc
     rw [← hz] at h1'
     obtain ⟨fa,frs,fcap,ea,ens,ecap,qa,qus,qcap⟩:=M
     dsimp only at h1' ⊢
     clear hM hF hT hnd hv h0 h2' hT' hc hz
     obtain ⟨W3,hW3,BW,FC⟩:=box5 w (.slice fa frs.length fcap) (.slice ea ens.length ecap) (.slice qa qus.length qcap)
     obtain ⟨m0,m1,m2,_,_⟩:=FC.out W3 (Below.refl _ _)
     have h1:=fun w' (h:Below W3.heap.size W3 w')=>h1' w' (BW.out.trans (h.mono BW.out.size))
     clear h1'
     go_enter Tryz.func53,Tryz.ntmps53
     go_upto_region 1 with fail
     rw [← hW3.out]
     clear hW3
     go_wp2_with (first | (go_at_call 107;refine (h1 _ (Below.refl _ _)).mono ?_;clear h1;rintro x w1 ⟨rfl,hb1⟩;clear m0 m1 m2;obtain ⟨m0,m1,m2,hx,hy⟩:=FC.out w1 hb1;have HB1:Hid (Below W3.heap.size W3 w1):=hb1;obtain ⟨x0,x1,x2,y0,y1,fx0,fx1,fx2,fy0,fy1⟩:=five_of hx hy;clear FC hb1 hx hy) | (go_at_call 56;refine (in_any _ _ _ _).mono ?_;rintro e w' ⟨rfl,rfl⟩))
     refine bp_genR fun V9 hV9=>?_
     obtain ⟨k0,k1,k2,k3,k4⟩:=xy5 (a:=.slice none 0 0) (b:=.slice none 0 0) (c:=.slice none 0 0) (d:=.int .i64 0) (e:=.int .i64 0) (by omega) x0 x1 x2 y0 y1
     have HB9:Below w.heap.size w V9:=below5 BW.out HB1.out hV9
     rw [← hV9] at k0 k1 k2 k3 k4
     clear hV9
     (try simp only [Exit.inBlock,Exit.then])
     refine bodyPost_ret (by simp [results,Tryz.results53,go_sem,k0,k1,k2,k3,k4];try rfl) rfl ?_
     exact ⟨noM,rfl,HT.out,noM_own _ _,HB9⟩
end Go.Proofs.YtdngbojbpmdegaaGreatDoor
