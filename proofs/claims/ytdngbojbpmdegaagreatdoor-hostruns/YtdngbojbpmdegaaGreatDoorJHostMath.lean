import Derived.Test.YtdngbojbpmdegaaGreatDoorJOwnNew
import Derived.Test.YtdngbojbpmdegaaGreatDoorJQRow
import Derived.Test.YtdngbojbpmdegaaGreatDoorJCreate
import Derived.Test.YtdngbojbpmdegaaGreatDoorRemove
import Derived.Test.YtdngbojbpmdegaaGreatDoorNew
import Derived.Test.YtdngbojbpmdegaaGreatDoorJHostChk
import Derived.Deep.QuietTactic
import Derived.BigQuiet
import Derived.Test.YtdngbojbpmdegaaGreatDoorAsk
import Derived.Test.YtdngbojbpmdegaaGreatDoorHostDo
import Derived.Test.YtdngbojbpmdegaaGreatDoorJRunEnd
namespace Go.Proofs.YtdngbojbpmdegaaGreatDoor
open Go.RowKit
theorem poke_good {M:Mv} {f a n:Int} (hF:pokeF M f a n=0):machF (pokeM M f a n)=0:=by
 unfold pokeM
 rw [if_pos hF]
 unfold pokeF at hF
 split at hF
 · rename_i hw
   obtain ⟨hz,hf,_⟩:=wordF_zero hw
   have hfi:=inB_iff.1 hf
   split at hF
   · rename_i hn
     split
     · exact good_iff.2 ((good_iff.1 hz).word (by omega) hn)
     · exact hz
   · omega
 · rename_i hw;exact absurd hF hw
theorem create_good {M:Mv} (hF:creF M=0):machF (creM M)=0:=by
 unfold creM
 rw [if_pos hF]
 unfold creF at hF
 split at hF
 · rename_i hz
   exact good_iff.2 ((good_iff.1 hz).ens (by decide) (fun _=>by decide))
 · rename_i hz;exact absurd hF hz
theorem Good.logg {M:Mv} (h:Good M) {m:Nat} (hm:m<4) {s:ByteArray} (h0:(M.ens.getD m default).st≠0) (hl:logF M m s=0):Good {M with ens:=M.ens.set m ((M.ens.getD m default).withLog s)}:=by
 refine h.ens (enGood_iff.2 ?_) (fun h=>h)
 have hg:=enGood_iff.1 (h.en m hm)
 refine ⟨hg.1,?_,fun e=>absurd e h0,hg.2.2.2⟩
 unfold logF at hl
 split at hl
 · omega
 · show ((M.ens.getD m default).log ++ s).size≤1000
   rw [ByteArray.size_append];omega
theorem place_none {frs:List Fr} {e a:Int} (h:placeOf frs e a<0):∀ f ∈ frs,plB e a f=false:=by
 unfold placeOf idxOf at h
 cases hf:frs.findIdx? (plB e a) with
 | none=>intro f hx;simpa using List.findIdx?_eq_none_iff.1 hf f hx
 | some i=>rw [hf] at h;simp only at h;omega
theorem put_good {M:Mv} {e f a r:Int} (hF:putF M e f a r=0):machF (putM M e f a r)=0:=by
 unfold putM
 rw [if_pos hF]
 unfold putF at hF
 split at hF
 · rename_i hz
   obtain ⟨hz0,m,rfl,hm4,hst,_⟩:=askF_zero hz
   rw [show ((m:Int)+1 - 1).toNat=m by omega] at hF ⊢
   split at hF
   · rename_i hf
     have hfi:=inB_iff.1 hf
     split at hF
     · rename_i ha
       rw [Bool.and_eq_true] at ha
       split at hF
       · rename_i ho
         split at hF
         · rename_i hp
           have g:=good_iff.1 hz0
           have hg:=goodFr_iff.1 (g.fr f.toNat (by omega))
           have hpn:=place_none hp
           have g1:=g.frm (k:=f.toNat) (f:=putFr M f.toNat ((m:Int)+1) a r) (goodFr_iff.2 ⟨hg.1,inB_iff.2 ⟨by show (0:Int)≤(m:Int)+1;omega,by show (m:Int)+1≤4;omega⟩,ha.1,ha.2,fun h=>absurd h (by show (m:Int)+1≠0;omega),fun _=>by show (M.ens.getD ((m:Int)+1 - 1).toNat default).st≠0;rw [show ((m:Int)+1 - 1).toNat=m by omega];exact hst⟩) (fun i hi _ _ hc=>by
            have hil:i<M.frs.length:=by have:=g.s1;omega
            have:=hpn (M.frs.getD i default) (by simp [List.getD_eq_getElem?_getD,hil])
            simp only [plB,hc.1,hc.2,putFr,beq_self_eq_true,Bool.and_true,decide_eq_false_iff_not] at this
            omega)
           exact good_iff.2 (g1.logg (m:=m) hm4 hst hF)
         · omega
       · omega
     · omega
   · omega
 · rename_i hz;exact absurd hF hz
theorem measure_good {M:Mv} {e a:Int} (hF:meaF M e a=0):machF (meaM M e a)=0:=by
 unfold meaM
 rw [if_pos hF]
 unfold meaF at hF
 split at hF
 · rename_i hz
   obtain ⟨hz0,m,rfl,hm4,hst,_⟩:=askF_zero hz
   rw [show ((m:Int)+1 - 1).toNat=m by omega] at hF ⊢
   split at hF
   · omega
   · exact good_iff.2 ((good_iff.1 hz0).logg hm4 hst hF)
 · rename_i hz;exact absurd hF hz
theorem start_good {M:Mv} {e:Int} (hF:askF M e 1=0):machF (startM M e)=0:=by
 unfold startM
 rw [if_pos hF]
 obtain ⟨hz0,m,rfl,hm4,hst,hs1⟩:=askF_zero hF
 rw [show ((m:Int)+1 - 1).toNat=m by omega]
 have g:=good_iff.1 hz0
 have hg:=enGood_iff.1 (g.en m hm4)
 have hs:=hs1 (by omega)
 rw [hs] at hg
 exact good_iff.2 (g.ens (enGood_iff.2 ⟨(show inB 2 0 4=true by decide),hg.2.1,fun h=>absurd h (by show (2:Int)≠0;omega),by have h4:=hg.2.2.2;rw [if_neg (by omega)] at h4;show (if (2:Int)=3 then _ else _);rw [if_neg (by omega)];exact h4⟩) (fun _=>by show (2:Int)≠0;omega))
theorem zeroFr_good (ens:List En):Fr.good ens zeroFr=true:=goodFr_iff.2 ⟨by decide,by decide,by decide,by decide,fun _=>⟨rfl,rfl⟩,fun h=>absurd rfl h⟩
theorem frmap_getD {l:List Fr} (g:Fr→Fr) {j:Nat} (hj:j<l.length):(l.map g).getD j default=g (l.getD j default):=by simp [List.getD_eq_getElem?_getD,hj]
theorem remove_good {M:Mv} {e:Int} (hF:askF M e (-1)=0):machF (remM M e)=0:=by
 unfold remM
 rw [if_pos hF]
 obtain ⟨hz0,m,rfl,hm4,hst,_⟩:=askF_zero hF
 rw [show ((m:Int)+1 - 1).toNat=m by omega]
 have g:=good_iff.1 hz0
 have hl:∀ j,j<24→j<M.frs.length:=fun j hj=>by have:=g.s1;omega
 refine good_iff.2 ⟨by simpa using g.s1,by simpa using g.s2,g.s3,fun i hi=>?_,fun j hj=>?_,fun i j hij hj h0 hc=>?_,g.qu⟩
 · show ((M.ens.set m default).getD i default).good=true
   rw [getD_set_any];split
   · decide
   · exact g.en i hi
 · show Fr.good (M.ens.set m default) ((M.frs.map (remFr ((m:Int)+1))).getD j default)=true
   rw [frmap_getD _ (hl j hj)]
   unfold remFr
   split
   · exact zeroFr_good _
   · rename_i ho
     have hg:=goodFr_iff.1 (g.fr j hj)
     refine goodFr_iff.2 ⟨hg.1,hg.2.1,hg.2.2.1,hg.2.2.2.1,hg.2.2.2.2.1,fun h0=>?_⟩
     have hb:=inB_iff.1 hg.2.1
     rw [getD_set_any,if_neg (by omega)]
     exact hg.2.2.2.2.2 h0
 · have h0' : ((M.frs.map (remFr ((m:Int)+1))).getD j default).o≠0:=h0
   have hc' : ((M.frs.map (remFr ((m:Int)+1))).getD i default).o=((M.frs.map (remFr ((m:Int)+1))).getD j default).o∧((M.frs.map (remFr ((m:Int)+1))).getD i default).at_=((M.frs.map (remFr ((m:Int)+1))).getD j default).at_:=hc
   rw [frmap_getD _ (hl j hj)] at h0' hc'
   rw [frmap_getD _ (hl i (by omega))] at hc'
   unfold remFr at h0' hc'
   split at h0'
   · exact h0' rfl
   · rename_i hj1
     rw [if_neg hj1] at hc'
     split at hc'
     · exact h0' hc'.1.symm
     · exact g.tw i j hij hj h0' hc'
theorem new_good:machF newM=0:=by
 refine good_iff.2 ⟨by simp [newM],by simp [newM],by simp [newM],fun i hi=>?_,fun j hj=>?_,fun i j hij hj h0=>?_,fun q hq=>by simp [newM] at hq⟩
 · show ((List.replicate 4 (default:En)).getD i default).good=true
   rw [rep_getD _ _ _ hi];decide
 · show Fr.good _ ((List.replicate 24 zeroFr).getD j default)=true
   rw [rep_getD _ _ _ hj];exact zeroFr_good _
 · exfalso
   have h0' : ((List.replicate 24 zeroFr).getD j default).o≠0:=h0
   rw [rep_getD _ _ _ hj] at h0'
   exact h0' rfl
end Go.Proofs.YtdngbojbpmdegaaGreatDoor

namespace Go.Proofs.YtdngbojbpmdegaaGreatDoor
open Go.RowKit
theorem any_takeC {α:Type} [Inhabited α] (p:α→Bool) (xs:List α) (k:Nat) (hk:k<xs.length):(xs.take (k+1)).any p=((xs.take k).any p || p (xs.getD k default)):=by
 rw [List.take_add_one,List.any_append]
 simp [List.getD_eq_getElem?_getD,hk]
theorem any_whole {α:Type} (p:α→Bool) (xs:List α):(xs.take xs.length).any p=xs.any p:=by rw [List.take_length]
set_option maxRecDepth 100000 in
set_option maxHeartbeats 8000000 in
theorem lookedOf_any (C:Cv) (ma:Option Addr) (made:List Qu) (mcap:Nat) (q:Qu) (w:World) (hC:ChalAt w C) (hF:C.Fits) (hml:made.length≤maxLen) (hm:RowsAt w 2 Qu.cells ma made) (hq:q.Ok) :
 Calls Tryz.prog 57 #[C.val,.slice ma made.length mcap,.agg #[.string q.log,.int .i64 q.data]] w fun x w'=>∃ N:Cv,x=.returned (.tuple #[N.val,.int .i64 (lookE C made q)])∧N.Same (lookC C made q)∧COwn w.heap.size w' N∧Below w.heap.size w w':=by
 have h1:=fun w' (h:Below w.heap.size w w')=>faultC_any C w' (hC.below h)
 have h2:=fun w' (h:Below w.heap.size w w')=>ccopy_any C w' (hC.below h) hF
 have HM:Hid (∀ w',Below w.heap.size w w'→RowsAt w' 2 Qu.cells ma made):=fun w' h=>RowsAt.below (cells:=Qu.cells) (fun _=>rfl) hm h
 have HT:Hid (∀ w',Below w.heap.size w w'→Texts w' C.ta C.tr):=fun w' h=>hC.tr.below h
 have HN:Hid (∀ w',Below w.heap.size w w'→Ints w' C.na C.ns):=fun w' h=>hC.ns.below h
 have hwd:=i64_wf hq.wd
 have hl:=hC.ok.nsl
 have hl1:=hC.ok.trl
 unfold maxLen at hl hl1 hml
 unfold lookC backC
 obtain ⟨X,hX⟩:∃ X,Hid (lookE C made q=X):=⟨_,rfl⟩
 rw [hX.out]
 unfold lookE at hX
 unfold Cv.val at *
 obtain ⟨ta,tr,tcap,na,ns,ncap⟩:=C
 obtain ⟨ql,qd⟩:=q
 dsimp only at *
 clear hC hm hq hF
 have B3:∀ o1 o2 o3,Hid (Below w.heap.size w (((w.alloc o1).alloc o2).alloc o3)):=fun o1 o2 o3=>a3B _ _ _ _
 have HX:∀ o1 o2 o3 w1,Hid (Below (((w.alloc o1).alloc o2).alloc o3).heap.size (((w.alloc o1).alloc o2).alloc o3) w1→Below w.heap.size w w1):=fun o1 o2 o3 w1 h=>(B3 o1 o2 o3).out.trans (h.mono (by simp;omega))
 by_cases hz:chF tr ns=0
 · replace hX:Hid ((if made.any (fun m=>qeq m ⟨ql,qd⟩)=true then (if 1≤qd∧qd≤(ns.length:Int) then (if ns.getD (qd - 1).toNat 0=1 then (6:Int) else if tr.any (fun t=>teq t ql)=true then 0 else 11) else 5) else 4)=X):=by show _=_;rw [← hX.out,if_pos hz]
   rw [hz] at h1
   clear hz
   go_enter Tryz.func57,Tryz.ntmps57
   go_wp2_with (go_at_call 44;refine (h1 _ (B3 _ _ _).out).mono ?_;rintro x w1 ⟨rfl,hb1⟩;obtain ⟨m0,m1,u0,u1,r0,r1,rf,rl⟩:=boxes_look hb1;have HB1:Hid (Below w.heap.size w w1):=(HX _ _ _ _).out hb1;have CH:Hid (∀ w',Below w1.heap.size w1 w'→w'.cell? ⟨w.heap.size,0,none⟩=some (.slice ta tr.length tcap)∧w'.cell? ⟨w.heap.size,1,none⟩=some (.slice na ns.length ncap)∧w'.cell? ⟨w.heap.size+1,0,none⟩=some (.string ql)∧w'.cell? ⟨w.heap.size+1,1,none⟩=some (.int .i64 qd)∧w'.cell? ⟨w.heap.size+1+1,0,none⟩=some (.slice none 0 0)∧w'.cell? ⟨w.heap.size+1+1,1,none⟩=some (.slice none 0 0)∧(∀ o,w'.frozen? ⟨w.heap.size+1+1,o,none⟩=false)∧w.heap.size+1+1<w'.heap.size):=fun w' h=>⟨(h.cell (p:=⟨w.heap.size,0,none⟩) (by dsimp only;omega)).trans m0,(h.cell (p:=⟨w.heap.size,1,none⟩) (by dsimp only;omega)).trans m1,(h.cell (p:=⟨w.heap.size+1,0,none⟩) (by dsimp only;omega)).trans u0,(h.cell (p:=⟨w.heap.size+1,1,none⟩) (by dsimp only;omega)).trans u1,(h.cell (p:=⟨w.heap.size+1+1,0,none⟩) (by dsimp only;omega)).trans r0,(h.cell (p:=⟨w.heap.size+1+1,1,none⟩) (by dsimp only;omega)).trans r1,fun o=>(h.frozen (p:=⟨w.heap.size+1+1,o,none⟩) (by dsimp only;omega)).trans (rf o),Nat.lt_of_lt_of_le rl h.size⟩;clear hb1 m0 m1 u0 u1 r0 r1 rf rl)
   clear h1 HX B3
   go_loopw [9,10] (fun t i wr=>∃ (k:Nat) (b:Bool),k≤made.length∧t=.bool b∧i=.int .i64 k∧Below w1.heap.size w1 wr∧Hid (b=(made.take k).any (fun m=>qeq m ⟨ql,qd⟩))) (fun _ i _=>made.length - (intOf i).toNat)
   case atStart=>exact ⟨0,false,Nat.zero_le _,rfl,rfl,Below.refl _ _,rfl⟩
   case round =>
    obtain ⟨k,b,hk,rfl,rfl,hbel,hid⟩:=hrel
    obtain ⟨-,-,t0,t1,-⟩:=CH.out wr hbel
    by_cases hlt:k<made.length
    · rcases HM.out wr (HB1.out.trans (hbel.mono HB1.out.size)) with e | ⟨mb,mo,e,hc⟩
      · rw [e] at hlt;simp at hlt
      subst e
      have c0':=hc k hlt 0 (by omega)
      have c1':=hc k hlt 1 (by omega)
      obtain ⟨P,hP⟩:∃ P,made.getD k default=P:=⟨_,rfl⟩
      rw [hP] at c0' c1'
      have HP:Hid (made.getD k default=P):=hP
      clear hP hc
      obtain ⟨pl,pd⟩:=P
      have c0:wr.cell? ⟨mb,mo+k * 2,none⟩=some (.string pl):=c0'
      have c1:wr.cell? ⟨mb,mo+k * 2+1,none⟩=some (.int .i64 pd):=c1'
      clear c0' c1'
      have hE:∀ w',(Op.equalIn 10000 90 (.agg #[.string pl,.int .i64 pd]) (.agg #[.string ql,.int .i64 qd])).run Tryz.prog w' = .ok (qeq ⟨pl,pd⟩ ⟨ql,qd⟩) w':=fun w'=>eq_quote 9998 pl ql pd qd w'
      have HK:Hid ((made.take (k+1)).any (fun m=>qeq m ⟨ql,qd⟩)=(b || qeq ⟨pl,pd⟩ ⟨ql,qd⟩)):=by show _=_;rw [any_takeC _ _ _ hlt,← hid.out,HP.out]
      generalize qeq ⟨pl,pd⟩ ⟨ql,qd⟩=z at hE HK
      clear hid h2
      cases b with
      | true =>
        go_wp2
        go_quiet (fail)
        go_wp2
        go_roundw
        case rel=>exact ⟨k+1,_,by omega,rfl,by go_num,below_drewN hbel _,by show _=_;rw [HK.out];rfl⟩
        case measure=>simp [intOf];omega
      | false =>
        go_wp2
        go_quiet (fail)
        go_wp2
        go_roundw
        case rel=>exact ⟨k+1,_,by omega,rfl,by go_num,below_drewN hbel _,by show _=_;rw [HK.out];rfl⟩
        case measure=>simp [intOf];omega
    · have hkl:k=made.length:=by omega
      subst hkl
      have hid':=hid.out
      rw [any_whole] at hid'
      rw [← hid'] at hX
      clear hid hid' HM
      rename World=>wz
      cases b with
      | false =>
        obtain rfl:X=4:=by rw [← hX.out];rfl
        obtain ⟨-,-,-,-,s0,s1,sf,sl⟩:=CH.out wz hbel
        have sf0:=sf 0
        have sf1:=sf 1
        clear h2 hX
        go_wp2
        obtain ⟨k0,k1⟩:=blk2 (v0:=.slice none 0 0) (v1:=.slice none 0 0) s0 s1
        (try simp only [Exit.inBlock,Exit.then])
        refine bodyPost_ret (by simp [results,Tryz.results57,go_sem,k0,k1];try rfl) rfl ?_
        exact ⟨noC,rfl,Cv.Same.refl _,noC_own _ _,((HB1.out.trans (hbel.mono HB1.out.size)).setCell (by dsimp only;omega) _).setCell (by dsimp only;omega) _⟩
      | true =>
        replace hX:Hid ((if 1≤qd∧qd≤(ns.length:Int) then (if ns.getD (qd - 1).toNat 0=1 then (6:Int) else if tr.any (fun t=>teq t ql)=true then 0 else 11) else 5)=X):=by show _=_;rw [← hX.out,if_pos rfl]
        cases hI:inB qd 1 (ns.length:Int) with
        | false =>
          obtain rfl:X=5:=by rw [← hX.out,if_neg (fun q=>by rw [inB_true q.1 q.2] at hI;cases hI)]
          obtain ⟨v0,v1,t0,t1,s0,s1,sf,sl⟩:=CH.out wz hbel
          have sf0:=sf 0
          have sf1:=sf 1
          clear h2 hX
          go_wp2_with (go_at_call 56;refine (in_any _ _ _ _).mono ?_;rw [hI];rintro e w' ⟨rfl,rfl⟩)
          obtain ⟨k0,k1⟩:=blk2 (v0:=.slice none 0 0) (v1:=.slice none 0 0) s0 s1
          (try simp only [Exit.inBlock,Exit.then])
          refine bodyPost_ret (by simp [results,Tryz.results57,go_sem,k0,k1];try rfl) rfl ?_
          exact ⟨noC,rfl,Cv.Same.refl _,noC_own _ _,((HB1.out.trans (hbel.mono HB1.out.size)).setCell (by dsimp only;omega) _).setCell (by dsimp only;omega) _⟩
        | true =>
          have q:=inB_iff.1 hI
          replace hX:Hid ((if ns.getD (qd - 1).toNat 0=1 then (6:Int) else if tr.any (fun t=>teq t ql)=true then 0 else 11)=X):=by show _=_;rw [← hX.out,if_pos (show 1≤qd∧qd≤(ns.length:Int) from q)]
          obtain ⟨m,hqd⟩:∃ m:Nat,qd=(m:Int)+1:=⟨(qd - 1).toNat,by omega⟩
          subst hqd
          have hmn:m<ns.length:=by omega
          rw [show ((m:Int)+1 - 1).toNat=m by omega] at hX
          have hwm:IntKind.i64.wrap ((m:Int)+1 - 1)=(m:Int):=by rw [IntKind.wrap_i64];omega
          have k3:(m:Int)<(ns.length:Int):=by omega
          obtain ⟨v0,v1,t0,t1,s0,s1,sf,sl⟩:=CH.out wz hbel
          obtain ⟨nb,no,hna,hc⟩:∃ nb no,na=some ⟨nb,no,none⟩∧wz.cell? ⟨nb,no+m,none⟩=some (.int .i64 (ns.getD m 0)):=by
           rcases HN.out wz (HB1.out.trans (hbel.mono HB1.out.size)) with e | ⟨nb,no,e,hc⟩
           · rw [e] at hmn;simp at hmn
           · exact ⟨nb,no,e,hc m hmn⟩
          subst hna
          have HMN:Hid (m<ns.length):=hmn
          obtain ⟨v,hv⟩:∃ v,Hid (ns.getD m 0=v):=⟨_,rfl⟩
          rw [hv.out] at hc hX
          clear HN q hmn hv
          by_cases hv:v=1
          · subst hv
            obtain rfl:X=6:=by rw [← hX.out,if_pos rfl]
            have sf0:=sf 0
            have sf1:=sf 1
            clear h2 hX sf
            go_wp2_with (go_at_call 56;refine (in_any _ _ _ _).mono ?_;rw [hI];rintro e w' ⟨rfl,rfl⟩)
            obtain ⟨k0,k1⟩:=blk2 (v0:=.slice none 0 0) (v1:=.slice none 0 0) s0 s1
            (try simp only [Exit.inBlock,Exit.then])
            refine bodyPost_ret (by simp [results,Tryz.results57,go_sem,k0,k1];try rfl) rfl ?_
            exact ⟨noC,rfl,Cv.Same.refl _,noC_own _ _,((HB1.out.trans (hbel.mono HB1.out.size)).setCell (by dsimp only;omega) _).setCell (by dsimp only;omega) _⟩
          · have hv1:(v == 1)=false:=by simpa using hv
            replace hX:Hid ((if tr.any (fun t=>teq t ql)=true then (0:Int) else 11)=X):=by show _=_;rw [← hX.out,if_neg hv]
            clear hv sf s0 s1
            go_wp2_with (go_at_call 56;refine (in_any _ _ _ _).mono ?_;rw [hI];rintro e w' ⟨rfl,rfl⟩)
            go_loopw [11] (fun i wr=>∃ k:Nat,k≤tr.length∧i=.int .i64 k∧Below w1.heap.size w1 wr∧Hid (∀ j,j<k→teq (tr.getD j default) ql=false)) (fun i _=>tr.length - (intOf i).toNat)
            case atStart=>exact ⟨0,Nat.zero_le _,rfl,hbel,fun j hj=>absurd hj (by omega)⟩
            case round =>
             clear v0 v1 t0 t1 hc sl hbel
             obtain ⟨k,hk,rfl,hbel,hid⟩:=hrel
             have HBW:Hid (Below w.heap.size w wr):=HB1.out.trans (hbel.mono HB1.out.size)
             obtain ⟨v0,v1,t0,t1,s0,s1,sf,sl⟩:=CH.out wr hbel
             by_cases hlt:k<tr.length
             · rcases HT.out wr HBW.out with e | ⟨xb,xo,e,hc⟩
               · rw [e] at hlt;simp at hlt
               subst e
               have c0:=hc k hlt
               obtain ⟨P,hP⟩:∃ P,tr.getD k default=P:=⟨_,rfl⟩
               rw [hP] at c0
               have HP:Hid (tr.getD k default=P):=hP
               clear hP hc
               cases hE:(P.toList == ql.toList) with
               | false =>
                 have HK:Hid (teq (tr.getD k default) ql=false):=by show _=_;rw [HP.out];exact hE
                 clear sf s0 s1 h2
                 go_wp2
                 go_quiet (fail)
                 go_wp2
                 go_roundw
                 case rel=>exact ⟨k+1,by omega,by go_num,below_drewN hbel _,snoc_false (p:=fun t=>teq t ql) hid HK.out⟩
                 case measure=>simp [intOf];omega
               | true =>
                 obtain rfl:X=0:=by rw [← hX.out,if_pos (any_at (p:=fun t=>teq t ql) hlt (by rw [HP.out];exact hE))]
                 have H2:=fun n=>h2 (wr.drewN n) (below_drewN HBW.out n)
                 have HBD:Hid (∀ n,Below w1.heap.size w1 (wr.drewN n)):=fun n=>below_drewN hbel n
                 clear h2 hX
                 go_wp2
                 go_quiet (fail)
                 go_wp2_with (go_at_call 59;refine (H2 _).mono ?_;rintro x w2 ⟨N,rfl,hS,hO,hb2⟩;obtain ⟨nta,ntr,ntcap,nna,nns,nncap⟩:=N
                              obtain ⟨eT,eN⟩:=hS
                              dsimp only at eT eN
                              subst eT eN
                              replace hO:=hO.mono (HBD.out _).size
                              replace hb2:=(HBD.out _).trans (hb2.mono (HBD.out _).size)
                              obtain ⟨g,cp,hv,hg1,hg2⟩:=hO.ns.form (by dsimp only;have:=HMN.out;omega)
                              simp only [Value.slice.injEq] at hv
                              obtain ⟨hv1,_,hv3⟩:=hv
                              subst hv1 hv3
                              have HON:Hid (_):=hO
                              have HB2:Hid (_):=hb2
                              have g0:∃ y,w2.cell? ⟨g,m,none⟩=some y:=by
                               have:=hO.at_.ns
                               rcases this with e | ⟨b,off,e,hc⟩
                               · dsimp only at e;have:=HMN.out;rw [e] at this;simp at this
                               · simp only [Option.some.injEq,Addr.mk.injEq,and_true] at e
                                 obtain ⟨rfl,rfl⟩:=e
                                 have:=hc m HMN.out
                                 rw [Nat.zero_add] at this
                                 exact ⟨_,this⟩
                              obtain ⟨y,g0⟩:=g0
                              have gf:w2.frozen? ⟨g,m,none⟩=false:=(ownsRow_block hO.ns g 0 none rfl).2.2 m
                              obtain ⟨-,-,U0,U1,R0,R1,RF,RL⟩:=CH.out w2 hb2
                              have RF0:=RF 0
                              have RF1:=RF 1
                              have UL:w.heap.size+1<w2.heap.size:=lt_of_cell U1
                              have hgl:g<w2.heap.size:=hg2
                              have RW1:Hid (w.heap.size+1+1<w1.heap.size):=(CH.out w1 (Below.refl _ _)).2.2.2.2.2.2.2
                              have hgne:g≠w.heap.size+1+1:=by have:=RW1.out;omega
                              have hgne' : g≠w2.heap.size:=by omega
                              clear hO hb2 v0 v1 t0 t1 s0 s1 sf sl RF hg1 hg2;dsimp only)
                 refine bp_gen fun V9 hV9=>?_
                 obtain ⟨k0,k1,hO9,hB9⟩:=look_end HON.out rfl HMN.out RW1.out R0 R1 (by omega) (HB1.out.trans (HB2.out.mono HB1.out.size)) hV9
                 clear hV9
                 (try simp only [Exit.inBlock,Exit.then])
                 refine bodyPost_ret (by simp [results,Tryz.results57,go_sem,k0,k1];try rfl) rfl ?_
                 exact ⟨⟨nta,ntr,ntcap,some ⟨g,0,none⟩,nns.set m 1,nncap⟩,by simp,⟨rfl,rfl⟩,hO9.mono HB1.out.size,hB9⟩
             · have hkl:k=tr.length:=by omega
               subst hkl
               obtain rfl:X=11:=by rw [← hX.out,any_none (p:=fun t=>teq t ql) hid.out];rfl
               have sf0:=sf 0
               have sf1:=sf 1
               clear h2 hX sf
               go_wp2
               obtain ⟨k0,k1⟩:=blk2 (v0:=.slice none 0 0) (v1:=.slice none 0 0) s0 s1
               (try simp only [Exit.inBlock,Exit.then])
               refine bodyPost_ret (by simp [results,Tryz.results57,go_sem,k0,k1];try rfl) rfl ?_
               exact ⟨noC,rfl,Cv.Same.refl _,noC_own _ _,((HB1.out.trans (hbel.mono HB1.out.size)).setCell (by dsimp only;omega) _).setCell (by dsimp only;omega) _⟩
 · obtain rfl:X=chF tr ns:=by rw [← hX.out,if_neg hz]
   have hz1:(chF tr ns != 0)=true:=by simpa using hz
   rw [if_neg hz]
   clear hX hz h2
   generalize chF tr ns=z at h1 hz1 ⊢
   go_enter Tryz.func57,Tryz.ntmps57
   go_wp2_with (go_at_call 44;refine (h1 _ (B3 _ _ _).out).mono ?_;rintro x w1 ⟨rfl,hb1⟩;obtain ⟨m0,m1,u0,u1,s0,s1,sf,sl⟩:=boxes_look hb1;have HB1:Hid (Below w.heap.size w w1):=(HX _ _ _ _).out hb1;have sf0:=sf 0;have sf1:=sf 1;clear hb1)
   obtain ⟨k0,k1⟩:=blk2 (v0:=.slice none 0 0) (v1:=.slice none 0 0) s0 s1
   (try simp only [Exit.inBlock,Exit.then])
   refine bodyPost_ret (by simp [results,Tryz.results57,go_sem,k0,k1];try rfl) rfl ?_
   exact ⟨noC,rfl,Cv.Same.refl _,noC_own _ _,((HB1.out).setCell (by dsimp only;omega) _).setCell (by dsimp only;omega) _⟩
end Go.Proofs.YtdngbojbpmdegaaGreatDoor

namespace Go.Proofs.YtdngbojbpmdegaaGreatDoor
open Go.RowKit
structure CBox (w W:World) (b:Nat) (N D:Cv):Prop where
 bel:Below w.heap.size w W
 ge:w.heap.size≤b
 lt:b<W.heap.size
 c0:W.cell? ⟨b,0,none⟩=some (.slice N.ta N.tr.length N.tcap)
 c1:W.cell? ⟨b,1,none⟩=some (.slice N.na N.ns.length N.ncap)
 fz:∀ o,W.frozen? ⟨b,o,none⟩=false
 at_:ChalAt W N
 same:N.Same D
theorem CBox.keep {w W W' : World} {b:Nat} {N D:Cv} (h:CBox w W b N D) (hb:Below W.heap.size W W'):CBox w W' b N D:=
 ⟨h.bel.trans (hb.mono h.bel.size),h.ge,Nat.lt_of_lt_of_le h.lt hb.size,(hb.cell (p:=⟨b,0,none⟩) h.lt).trans h.c0,(hb.cell (p:=⟨b,1,none⟩) h.lt).trans h.c1,fun o=>(hb.frozen (p:=⟨b,o,none⟩) h.lt).trans (h.fz o),h.at_.below hb,h.same⟩
theorem CBox.new {w W:World} {N D:Cv} (hb:Below w.heap.size w W) (hM:ChalAt W N) (hs:N.Same D) (t:TypeId):CBox w (W.alloc (.cells #[.slice N.ta N.tr.length N.tcap,.slice N.na N.ns.length N.ncap] t)) W.heap.size N D:=by
 have h1:=a11 W (.cells #[.slice N.ta N.tr.length N.tcap,.slice N.na N.ns.length N.ncap] t)
 exact ⟨hb.alloc hb.size _,hb.size,by simp,by rw [World.cell?_alloc_at _ _ _ _ rfl];rfl,by rw [World.cell?_alloc_at _ _ _ _ rfl];rfl,fun o=>frozen_of_block h1 o,hM.below ((Below.refl _ _).alloc (Nat.le_refl _) _),hs⟩
theorem CBox.store {w W w1:World} {b:Nat} {N D N' D' : Cv} (h:CBox w W b N D) (hb:Below W.heap.size W w1) (hO:COwn W.heap.size w1 N') (hs:N'.Same D') :
 CBox w ((w1.setCell ⟨b,0,none⟩ (.slice N'.ta N'.tr.length N'.tcap)).setCell ⟨b,1,none⟩ (.slice N'.na N'.ns.length N'.ncap)) b N' D':=by
 have h1:=h.keep hb
 obtain ⟨k0,k1⟩:=blk2 (v0:=.slice N'.ta N'.tr.length N'.tcap) (v1:=.slice N'.na N'.ns.length N'.ncap) h1.c0 h1.c1
 have hh:∀ b',b'≠b→((w1.setCell ⟨b,0,none⟩ (.slice N'.ta N'.tr.length N'.tcap)).setCell ⟨b,1,none⟩ (.slice N'.na N'.ns.length N'.ncap)).heap[b']? = w1.heap[b']?:=fun b' hb'=>by rw [Below.heap_setCell _ _ _ _ hb',Below.heap_setCell _ _ _ _ hb']
 have lT:=ownsRow_block hO.tr
 have lN:=ownsRow_block hO.ns
 have hO2:COwn W.heap.size ((w1.setCell ⟨b,0,none⟩ (.slice N'.ta N'.tr.length N'.tcap)).setCell ⟨b,1,none⟩ (.slice N'.na N'.ns.length N'.ncap)) N':=
  ⟨ownsRow_keep hO.tr fun b' o s e=>hh b' (by have:=(lT b' o s e).1;have:=h.lt;omega),ownsRow_keep hO.ns fun b' o s e=>hh b' (by have:=(lN b' o s e).1;have:=h.lt;omega),hO.off,hO.ok⟩
 refine ⟨(h1.bel.setCell h.ge _).setCell h.ge _,h.ge,by simp [World.setCell];exact h1.lt,k0,k1,fun o=>?_,hO2.at_,hs⟩
 rw [World.frozen?_setCell,World.frozen?_setCell]
 exact h1.fz o
theorem fits_chF {C N:Cv} (hz:chF C.tr C.ns=0) (hs:N.Same C):N.Fits:=by
 have g:=chF_zero hz
 exact ⟨by rw [hs.tr];omega,by rw [hs.ns];omega⟩
theorem zbox {X w2:World} {b:Nat} {t:TypeId} (hX:X.heap[b]? = some (.cells #[.slice none 0 0,.slice none 0 0] t (0,0))) (hb:Below X.heap.size X w2) :
 w2.cell? ⟨b,0,none⟩=some (.slice none 0 0)∧w2.cell? ⟨b,1,none⟩=some (.slice none 0 0)∧w2.frozen? ⟨b,0,none⟩=false∧w2.frozen? ⟨b,1,none⟩=false∧b<w2.heap.size:=by
 have lt:b<X.heap.size:=(Array.getElem?_eq_some_iff.1 hX).1
 have c0:X.cell? ⟨b,0,none⟩=some (.slice none 0 0):=by simp [World.cell?,hX]
 have c1:X.cell? ⟨b,1,none⟩=some (.slice none 0 0):=by simp [World.cell?,hX]
 exact ⟨(hb.cell (p:=⟨b,0,none⟩) lt).trans c0,(hb.cell (p:=⟨b,1,none⟩) lt).trans c1,(hb.frozen (p:=⟨b,0,none⟩) lt).trans (frozen_of_block hX 0),(hb.frozen (p:=⟨b,1,none⟩) lt).trans (frozen_of_block hX 1),Nat.lt_of_lt_of_le lt hb.size⟩
theorem zcbox {w X:World} {b:Nat} {t:TypeId} (hX:X.heap[b]? = some (.cells #[.slice none 0 0,.slice none 0 0] t (0,0))) (hb:Below w.heap.size w X) (hge:w.heap.size≤b):CBox w X b noC noC:=
 ⟨hb,hge,(Array.getElem?_eq_some_iff.1 hX).1,by simp [World.cell?,hX,noC],by simp [World.cell?,hX,noC],fun o=>frozen_of_block hX o,(noC_own 0 X).at_,Cv.Same.refl _⟩
structure ZBox (w X w2:World) (b:Nat):Prop where
 e0:w2.cell? ⟨b,0,none⟩=some (.slice none 0 0)
 e1:w2.cell? ⟨b,1,none⟩=some (.slice none 0 0)
 z0:w2.frozen? ⟨b,0,none⟩=false
 z1:w2.frozen? ⟨b,1,none⟩=false
 lt:b<w2.heap.size
 st:∀ N' D' : Cv,COwn X.heap.size w2 N'→N'.Same D'→CBox w ((w2.setCell ⟨b,0,none⟩ (.slice N'.ta N'.tr.length N'.tcap)).setCell ⟨b,1,none⟩ (.slice N'.na N'.ns.length N'.ncap)) b N' D'
theorem zbox' {w X w2:World} {b:Nat} {t:TypeId} (hX:X.heap[b]? = some (.cells #[.slice none 0 0,.slice none 0 0] t (0,0))) (hw:Below w.heap.size w X) (hge:w.heap.size≤b) (hb:Below X.heap.size X w2):ZBox w X w2 b:=by
 obtain ⟨a,b',c,d,e⟩:=zbox hX hb
 exact ⟨a,b',c,d,e,fun N' D' hO hs=>(zcbox hX hw hge).store hb hO hs⟩
structure ZAt (w X:World) (b:Nat):Prop where
 hX:∃ t,X.heap[b]? = some (.cells #[.slice none 0 0,.slice none 0 0] t (0,0))
 bel:Below w.heap.size w X
 ge:w.heap.size≤b
theorem ZAt.box {w X w2:World} {b:Nat} (h:ZAt w X b) (hb:Below X.heap.size X w2):ZBox w X w2 b:=by
 obtain ⟨t,hX⟩:=h.hX
 exact zbox' hX h.bel h.ge hb
end Go.Proofs.YtdngbojbpmdegaaGreatDoor

namespace Go.Proofs.YtdngbojbpmdegaaGreatDoor
open Go.RowKit
theorem chkE_same {M N:Mv} {C D:Cv} (h:M.Same N) (k:C.Same D) (a:Int):chkE M C a=chkE N D a:=by
 unfold chkE;rw [h.qu,lookE_same k]
theorem chkD_same {M N:Mv} {C D:Cv} (h:M.Same N) (k:C.Same D) (a:Int):(chkD M C a).Same (chkD N D a):=by
 unfold chkD
 rw [chkE_same h k,h.qu]
 split
 · exact lookC_same k _ _
 · exact k
theorem actC_same {M N:Mv} {C D:Cv} (h:M.Same N) (k:C.Same D) (x:Ac):actC M C x=actC N D x:=by
 unfold actC
 rw [creF_same h,putF_same h,meaF_same h,askF_same h,askF_same h,wordF_same h,pokeF_same h,entD_same h,entF_same h,resD_same h,fuelF_same h,askE_same k,chkE_same h k]
theorem fr_sameH {M N:Mv} (h:M.Same N) (k:Nat):(M.frs.getD k default).o=(N.frs.getD k default).o∧(M.frs.getD k default).ws=(N.frs.getD k default).ws:=by
 by_cases hk:k<M.frs.length
 · obtain ⟨a,b,c,d⟩:=h.fr k hk
   first | exact ⟨a,d⟩ | exact ⟨a.symm,d.symm⟩
 · have hl:=h.len
   rw [List.getD_eq_getElem?_getD,List.getD_eq_getElem?_getD,List.getElem?_eq_none (by omega),List.getElem?_eq_none (by omega)]
   exact ⟨rfl,rfl⟩
theorem peekN_same {M N:Mv} (h:M.Same N) (f a:Int):peekN M f a=peekN N f a:=by
 unfold peekN
 rw [wordF_same h,(fr_sameH h _).1,(fr_sameH h _).2]
theorem actN_same {M N:Mv} {C D:Cv} (h:M.Same N) (k:C.Same D) (x:Ac):actN M C x=actN N D x:=by
 unfold actN
 rw [creN_same h,peekN_same h,entD_same h,entF_same h,entV_same h,resD_same h,resV_same h,fuelF_same h,askN_same k]
theorem ite_sameM {c:Prop} [Decidable c] {A B A' B' : Mv} (h1:A.Same A') (h2:B.Same B'):(if c then A else B).Same (if c then A' else B'):=by
 split
 · exact h1
 · exact h2
theorem ite_sameC {c:Prop} [Decidable c] {A B A' B' : Cv} (h1:A.Same A') (h2:B.Same B'):(if c then A else B).Same (if c then A' else B'):=by
 split
 · exact h1
 · exact h2
theorem actM_same {M N:Mv} {C D:Cv} (h:M.Same N) (x:Ac):(actM M C x).Same (actM N D x):=by
 unfold actM
 rw [creF_same h,putF_same h,meaF_same h,askF_same h,askF_same h,pokeF_same h,entF_same h,fuelF_same h]
 exact ite_sameM (ite_sameM (creM_same h) h) (ite_sameM (ite_sameM (putM_same h _ _ _ _) h) (ite_sameM (ite_sameM (meaM_same h _ _) h) (ite_sameM (ite_sameM (startM_same h _) h) (ite_sameM (ite_sameM (remM_same h _) h) (ite_sameM (ite_sameM (pokeM_same h _ _ _) h) (ite_sameM (ite_sameM (entM_same h _ _ _) h) (ite_sameM (ite_sameM (resM_same h _ _) h) h)))))))
theorem actD_same {M N:Mv} {C D:Cv} (h:M.Same N) (k:C.Same D) (x:Ac):(actD M C x).Same (actD N D x):=by
 unfold actD
 rw [askE_same k]
 exact ite_sameC (ite_sameC (askC_same k) k) (ite_sameC (chkD_same h k _) k)
theorem left_good {R:Rn} {m:Nat} (h:EndOk R m) (hm:m<4) (hn:R.nd=1∨R.nd=2∨R.nd=3):Good (leftM R m):=by
 have he:=enGood_iff.1 (h.good.en m hm)
 unfold leftM
 refine h.good.ens ?_ ?_
 · rw [enGood_iff]
   unfold leftE
   rcases hn with e | e | e
   · rw [if_pos e]
     exact ⟨(by decide:inB 2 0 4=true),he.2.1,fun q=>absurd (show (2:Int)=0 from q) (by decide),(by rw [if_neg (show ¬ (2:Int)=3 by decide)];exact ⟨rfl,rfl⟩)⟩
   · rw [if_neg (by omega),if_pos e]
     refine ⟨(by decide:inB 3 0 4=true),he.2.1,fun q=>absurd (show (3:Int)=0 from q) (by decide),?_⟩
     rw [if_pos rfl]
     refine ⟨inB_iff.2 ⟨h.pc.1,h.held e⟩,?_⟩
     unfold En.words
     simp only [Bool.and_eq_true]
     exact ⟨⟨⟨inB_iff.2 (h.rs 0),inB_iff.2 (h.rs 1)⟩,inB_iff.2 (h.rs 2)⟩,inB_iff.2 (h.rs 3)⟩
   · rw [if_neg (by omega),if_neg (by omega)]
     exact ⟨(by decide:inB 4 0 4=true),he.2.1,fun q=>absurd (show (4:Int)=0 from q) (by decide),(by rw [if_neg (show ¬ (4:Int)=3 by decide)];exact ⟨rfl,rfl⟩)⟩
 · intro _
   unfold leftE
   rcases hn with e | e | e
   · rw [if_pos e];exact (by decide:(2:Int)≠0)
   · rw [if_neg (by omega),if_pos e];exact (by decide:(3:Int)≠0)
   · rw [if_neg (by omega),if_neg (by omega)];exact (by decide:(4:Int)≠0)
theorem ent_good {M:Mv} {e word fuel:Int} (h:entF M e word fuel=0):machF (entM M e word fuel)=0:=by
 obtain ⟨m,f,rfl,rfl,hf,ho⟩:=ent_ok h
 unfold entM entR
 rw [if_pos h,good_iff,show ((m:Int)+1 - 1).toNat=m by omega,Int.toNat_natCast]
 exact left_good (runR_end f ho) ho.m4 (runR_nd f M m 0 _ xorR)
theorem res_good {M:Mv} {e fuel:Int} (h:fuelF M e 3 fuel=0):machF (resM M e fuel)=0:=by
 obtain ⟨m,f,rfl,rfl,hf,ho⟩:=res_ok h
 unfold resM resR
 rw [if_pos h,good_iff,show ((m:Int)+1 - 1).toNat=m by omega,Int.toNat_natCast]
 exact left_good (runR_end f ho) ho.m4 (runR_nd f M m _ _ xorR)
theorem ite_good {c:Prop} [Decidable c] {A B:Mv} (h1:c→machF A=0) (h2:machF B=0):machF (if c then A else B)=0:=by
 split
 · rename_i h;exact h1 h
 · exact h2
theorem act_good {M:Mv} (C:Cv) (x:Ac) (h:machF M=0):machF (actM M C x)=0:=by
 unfold actM
 exact ite_good (fun _=>ite_good create_good h) (ite_good (fun _=>ite_good put_good h) (ite_good (fun _=>ite_good measure_good h) (ite_good (fun _=>ite_good start_good h) (ite_good (fun _=>ite_good remove_good h) (ite_good (fun _=>ite_good poke_good h) (ite_good (fun _=>ite_good ent_good h) (ite_good (fun _=>ite_good res_good h) h)))))))
theorem ask_chF {C:Cv} (h:askE C=0):chF (askC C).tr (askC C).ns=0:=by
 unfold askC
 rw [if_pos h]
 unfold askE at h
 by_cases h0:chF C.tr C.ns=0
 · rw [if_pos h0] at h
   by_cases h1:20≤C.ns.length
   · rw [if_pos h1] at h;cases h
   · unfold moreC
     unfold chF at h0 ⊢
     dsimp only
     by_cases g1:4<C.tr.length∨20<C.ns.length
     · rw [if_pos g1] at h0;cases h0
     · rw [if_neg g1] at h0
       rw [if_neg (by simp;omega)]
       by_cases g2:(C.tr.any tooLong || C.ns.any noNonce)=true
       · rw [if_pos g2] at h0;cases h0
       · rw [if_neg]
         simp only [Bool.or_eq_true,not_or,Bool.not_eq_true,List.any_append] at g2 ⊢
         exact ⟨g2.1,g2.2,rfl⟩
 · rw [if_neg h0] at h;exact absurd h h0
theorem look_chF {C:Cv} {made:List Qu} {q:Qu} (h:lookE C made q=0):chF (lookC C made q).tr (lookC C made q).ns=0:=by
 unfold lookC
 rw [if_pos h]
 have h0:chF C.tr C.ns=0:=by
  unfold lookE at h
  by_cases h0:chF C.tr C.ns=0
  · exact h0
  · rw [if_neg h0] at h;exact absurd h h0
 unfold backC
 unfold chF at h0 ⊢
 dsimp only
 by_cases g1:4<C.tr.length∨20<C.ns.length
 · rw [if_pos g1] at h0;cases h0
 · rw [if_neg g1] at h0
   rw [if_neg (by simpa using g1)]
   by_cases g2:(C.tr.any tooLong || C.ns.any noNonce)=true
   · rw [if_pos g2] at h0;cases h0
   · rw [if_neg]
     simp only [Bool.or_eq_true,not_or,Bool.not_eq_true] at g2 ⊢
     have g3:=g2.2
     refine ⟨g2.1,?_⟩
     rw [List.any_eq_false] at g3 ⊢
     intro n hn
     rcases List.mem_or_eq_of_mem_set hn with q' | q'
     · exact g3 n q'
     · subst q';decide
theorem act_chF {M:Mv} {C:Cv} (x:Ac) (h:chF C.tr C.ns=0):chF (actD M C x).tr (actD M C x).ns=0:=by
 unfold actD
 split
 · split
   · rename_i g;exact ask_chF g
   · exact h
 · split
   · unfold chkD
     split
     · rename_i g
       unfold chkE at g
       by_cases r:0≤x.at_∧x.at_<(M.qus.length:Int)
       · rw [if_pos r] at g;exact look_chF g
       · rw [if_neg r] at g;cases g
     · exact h
   · exact h
structure Hs where
 M:Mv
 C:Cv
def hstep (s:Hs) (x:Ac):Hs:=⟨actM s.M s.C x,actD s.M s.C x⟩
def hst (s:Hs) (l:List Ac):Hs:=l.foldl hstep s
def hans:Hs→List Ac→List (Int × Int)
 | _,[]=>[]
 | s,x :: l=>(actC s.M s.C x,actN s.M s.C x) :: hans (hstep s x) l
theorem hst_snoc (s:Hs) (l:List Ac) (x:Ac):hst s (l ++ [x])=hstep (hst s l) x:=by simp [hst]
theorem hans_snoc (s:Hs) (l:List Ac) (x:Ac):hans s (l ++ [x])=hans s l ++ [(actC (hst s l).M (hst s l).C x,actN (hst s l).M (hst s l).C x)]:=by
 induction l generalizing s with
 | nil=>rfl
 | cons y l ih=>simp only [List.cons_append,hans,ih];rfl
theorem hans_len (s:Hs) (l:List Ac):(hans s l).length=l.length:=by
 induction l generalizing s with
 | nil=>rfl
 | cons y l ih=>simp only [hans,List.length_cons,ih]
theorem hst_good (s:Hs) (l:List Ac) (h:machF s.M=0) (hc:chF s.C.tr s.C.ns=0):machF (hst s l).M=0∧chF (hst s l).C.tr (hst s l).C.ns=0:=by
 induction l generalizing s with
 | nil=>exact ⟨h,hc⟩
 | cons y l ih=>exact ih (hstep s y) (act_good s.C y h) (act_chF y hc)
end Go.Proofs.YtdngbojbpmdegaaGreatDoor
