import Derived.Test.YtdngbojbpmdegaaGreatDoorJHostRan
import Derived.Test.YtdngbojbpmdegaaGreatDoorJCCopy
import Derived.Test.YtdngbojbpmdegaaGreatDoorJLookChk
import Derived.Test.YtdngbojbpmdegaaGreatDoorJHostChk
import Derived.Test.YtdngbojbpmdegaaGreatDoorJAdded
import Derived.Test.YtdngbojbpmdegaaGreatDoorPut
import Derived.Test.YtdngbojbpmdegaaGreatDoorJOwnNew
import Derived.Test.YtdngbojbpmdegaaGreatDoorRemove
import Derived.Test.YtdngbojbpmdegaaGreatDoorJSameM
import Derived.Test.YtdngbojbpmdegaaGreatDoorRunResume
namespace Go.Proofs.YtdngbojbpmdegaaGreatDoor
open Go.RowKit
set_option linter.unusedVariables false
def DoS (w:World) (b:Nat) (M:Mv) (x:Ac) (w' : World):Prop:=w'.cell? ⟨b,0,none⟩=some (.slice M.fa M.frs.length M.fcap)∧w'.cell? ⟨b,1,none⟩=some (.slice M.ea M.ens.length M.ecap)∧w'.cell? ⟨b,2,none⟩=some (.slice M.qa M.qus.length M.qcap)∧w'.cell? ⟨w.heap.size,1,none⟩=some (.int .i64 x.e)∧w'.cell? ⟨w.heap.size,2,none⟩=some (.int .i64 x.f)∧w'.cell? ⟨w.heap.size,3,none⟩=some (.int .i64 x.at_)∧w'.cell? ⟨w.heap.size,4,none⟩=some (.int .i64 x.r)∧w'.cell? ⟨w.heap.size,5,none⟩=some (.int .i64 x.n)∧w'.cell? ⟨w.heap.size,6,none⟩=some (.int .i64 x.fuel)
def Ac.val (x:Ac):Value:=.agg #[.int .i64 x.k,.int .i64 x.e,.int .i64 x.f,.int .i64 x.at_,.int .i64 x.r,.int .i64 x.n,.int .i64 x.fuel]
structure Ac.Ok (x:Ac):Prop where
 wk:(Lit.int .i64 x.k).wf=true
 we:(Lit.int .i64 x.e).wf=true
 wf:(Lit.int .i64 x.f).wf=true
 wat:(Lit.int .i64 x.at_).wf=true
 wr:(Lit.int .i64 x.r).wf=true
 wn:(Lit.int .i64 x.n).wf=true
 wfu:(Lit.int .i64 x.fuel).wf=true
set_option maxRecDepth 100000 in
set_option maxHeartbeats 2000000 in
theorem do_create {n0:Nat} {w:World} {b:Nat} {M:Mv} {C:Cv} (h:Site n0 w b M C) (x:Ac) (hF:M.Fits) (ht:Tab w) :
 Calls Tryz.prog 43 #[.pointer (some ⟨b,0,none⟩),.agg #[.int .i64 1,.int .i64 x.e,.int .i64 x.f,.int .i64 x.at_,.int .i64 x.r,.int .i64 x.n,.int .i64 x.fuel]] w (DoSaid n0 w b M C (creF M) (creN M) (if creF M=0 then creM M else M) C):=by
 obtain ⟨W2,hW2⟩:∃ W2,Hid (W2=(w.alloc (.cells #[.int .i64 1,.int .i64 x.e,.int .i64 x.f,.int .i64 x.at_,.int .i64 x.r,.int .i64 x.n,.int .i64 x.fuel] 68)).alloc (.cells #[.int .i64 0,.int .i64 0] 39)):=⟨_,rfl⟩
 obtain ⟨bw,q1,q2⟩:=al2w w (.cells #[.int .i64 1,.int .i64 x.e,.int .i64 x.f,.int .i64 x.at_,.int .i64 x.r,.int .i64 x.n,.int .i64 x.fuel] 68) (.cells #[.int .i64 0,.int .i64 0] 39)
 rw [← hW2.out] at bw q1 q2
 have BW:Hid (_):=bw
 have QA:Hid (_):=q1
 have QR:Hid (_):=q2
 have HST:Hid (Site n0 W2 b M C):=h.keep bw
 have HBL:Hid (b<w.heap.size):=h.lt
 have OLD:Hid (_):=h
 have c1:=create_site HST.out hF (ht.below BW.out)
 obtain ⟨z,hz⟩:∃ z,Hid (z=(creF M)):=⟨_,rfl⟩
 obtain ⟨n,hn⟩:∃ n:Int,Hid (n=(creN M)):=⟨_,rfl⟩
 obtain ⟨TM,hTM⟩:∃ T,Hid (T=(if creF M=0 then creM M else M)):=⟨_,rfl⟩
 obtain ⟨TC,hTC⟩:∃ T,Hid (T=C):=⟨_,rfl⟩
 rw [← hTM.out,← hz.out,← hn.out]
 rw [← hTM.out,← hz.out,← hn.out] at c1
 have a0:W2.cell? ⟨w.heap.size,0,none⟩=some (.int .i64 1):=by simp [World.cell?,q1]
 have a1:W2.cell? ⟨w.heap.size,1,none⟩=some (.int .i64 x.e):=by simp [World.cell?,q1]
 have a2:W2.cell? ⟨w.heap.size,2,none⟩=some (.int .i64 x.f):=by simp [World.cell?,q1]
 have a3:W2.cell? ⟨w.heap.size,3,none⟩=some (.int .i64 x.at_):=by simp [World.cell?,q1]
 have a4:W2.cell? ⟨w.heap.size,4,none⟩=some (.int .i64 x.r):=by simp [World.cell?,q1]
 have a5:W2.cell? ⟨w.heap.size,5,none⟩=some (.int .i64 x.n):=by simp [World.cell?,q1]
 have a6:W2.cell? ⟨w.heap.size,6,none⟩=some (.int .i64 x.fuel):=by simp [World.cell?,q1]
 have al:w.heap.size<W2.heap.size:=lt_of_cell a0
 clear h hF bw q1 q2 hz hn hTM hTC ht
 go_enter Tryz.func43,Tryz.ntmps43
 go_upto_region 1 with fail
 rw [← hW2.out]
 clear hW2
 go_wp2_with (go_at_call 100;refine c1.mono ?_;clear c1;rintro y w2 ⟨M',C',rfl,hS1,hS2,hS,hF,hsub⟩;have HSB:Hid (_):=hsub;have HS1:Hid (_):=hS1;have HS2:Hid (_):=hS2;have HS:Hid (_):=hS;have HF2:Hid (_):=hF;have lR:w.heap.size+1<W2.heap.size:=(Array.getElem?_eq_some_iff.1 QR.out).1;have nb:w.heap.size+1≠b:=(by have:=HBL.out;omega);have q4:=(hF.block (w.heap.size+1) lR nb).trans QR.out;have r0:w2.cell? ⟨w.heap.size+1,0,none⟩=some (.int .i64 0):=(by simp [World.cell?,q4]);have r1:w2.cell? ⟨w.heap.size+1,1,none⟩=some (.int .i64 0):=(by simp [World.cell?,q4]);have rl:w.heap.size+1<w2.heap.size:=lt_of_cell r0;have rf0:=frozen_of_block q4 0;have rf1:=frozen_of_block q4 1;clear hS1 hS2 hS hF hsub q4)
 refine bp_genR fun V9 hV9=>?_
 have NEW:¬ (w.heap.size+1=b∨Mine M' (w.heap.size+1)∨MineC C' (w.heap.size+1)):=by
  have lR:w.heap.size+1<W2.heap.size:=(Array.getElem?_eq_some_iff.1 QR.out).1
  have no:¬ (Mine M (w.heap.size+1)∨MineC C (w.heap.size+1)):=fun q=>by have:=OLD.out.old (.inr q);omega
  rintro (q | q | q)
  · have:=HBL.out;omega
  · exact no (HSB.out _ lR (.inl q))
  · exact no (HSB.out _ lR (.inr q))
 obtain ⟨k9,k0,k1⟩:=HS.out.ans NEW r0 r1 hV9
 have F9:Far b w V9:=by rw [hV9];exact (((Far.of_below BW.out).trans HF2.out).set (.inr (by omega)) 0 _).set (.inr (by omega)) 1 _
 clear hV9
 (try simp only [Exit.inBlock,Exit.then])
 refine bodyPost_ret (by simp [results,Tryz.results43,go_sem,k0,k1];try rfl) rfl ?_
 exact ⟨M',C',rfl,HS1.out,HS2.out,k9,F9,fun c hc q=>HSB.out c (by have:=BW.out.size;omega) q⟩
set_option maxRecDepth 100000 in
set_option maxHeartbeats 20000000 in
theorem do_chg {n0:Nat} {w:World} {b:Nat} {M:Mv} {C:Cv} (h:Site n0 w b M C) (x:Ac) (hF:M.Fits) (ht:Tab w) (hx:x.Ok) {kk F:Int} {T:Mv} (hkk:x.k=kk) (hk:(kk=2∧F=putF M x.e x.f x.at_ x.r∧T=putM M x.e x.f x.at_ x.r)∨(kk=3∧F=meaF M x.e x.at_∧T=meaM M x.e x.at_)∨(kk=4∧F=askF M x.e 1∧T=startM M x.e)∨(kk=5∧F=askF M x.e (-1)∧T=remM M x.e)∨(kk=7∧F=pokeF M x.f x.at_ x.n∧T=pokeM M x.f x.at_ x.n)) :
 Calls Tryz.prog 43 #[.pointer (some ⟨b,0,none⟩),x.val] w (DoSaid n0 w b M C F 0 (if F=0 then T else M) C):=by
 unfold Ac.val
 rw [hkk]
 clear hkk
 obtain ⟨W2,hW2⟩:∃ W2,Hid (W2=(w.alloc (.cells #[.int .i64 kk,.int .i64 x.e,.int .i64 x.f,.int .i64 x.at_,.int .i64 x.r,.int .i64 x.n,.int .i64 x.fuel] 68)).alloc (.cells #[.int .i64 0,.int .i64 0] 39)):=⟨_,rfl⟩
 obtain ⟨bw,q1,q2⟩:=al2w w (.cells #[.int .i64 kk,.int .i64 x.e,.int .i64 x.f,.int .i64 x.at_,.int .i64 x.r,.int .i64 x.n,.int .i64 x.fuel] 68) (.cells #[.int .i64 0,.int .i64 0] 39)
 rw [← hW2.out] at bw q1 q2
 have BW:Hid (_):=bw
 have QR:Hid (_):=q2
 have HST:Hid (Site n0 W2 b M C):=h.keep bw
 have HBL:Hid (b<w.heap.size):=h.lt
 have OLD:Hid (_):=h
 obtain ⟨TM,hTM⟩:∃ TM,Hid (TM=if F=0 then T else M):=⟨_,rfl⟩
 rw [← hTM.out]
 have a0:W2.cell? ⟨w.heap.size,0,none⟩=some (.int .i64 kk):=by simp [World.cell?,q1]
 have a1:W2.cell? ⟨w.heap.size,1,none⟩=some (.int .i64 x.e):=by simp [World.cell?,q1]
 have a2:W2.cell? ⟨w.heap.size,2,none⟩=some (.int .i64 x.f):=by simp [World.cell?,q1]
 have a3:W2.cell? ⟨w.heap.size,3,none⟩=some (.int .i64 x.at_):=by simp [World.cell?,q1]
 have a4:W2.cell? ⟨w.heap.size,4,none⟩=some (.int .i64 x.r):=by simp [World.cell?,q1]
 have a5:W2.cell? ⟨w.heap.size,5,none⟩=some (.int .i64 x.n):=by simp [World.cell?,q1]
 have a6:W2.cell? ⟨w.heap.size,6,none⟩=some (.int .i64 x.fuel):=by simp [World.cell?,q1]
 have al:w.heap.size<W2.heap.size:=lt_of_cell a0
 have s0:=HST.out.c0
 have s1:=HST.out.c1
 have s2:=HST.out.c2
 have sl:=HST.out.lt
 have HK0:Hid (_):=hk
 have HFT:Hid (M.Fits∧Tab w∧x.Ok):=⟨hF,ht,hx⟩
 clear h hF bw q1 q2 hk ht hx
 go_enter Tryz.func43,Tryz.ntmps43
 go_upto_region 1 with fail
 rw [← hW2.out]
 clear hW2
 rcases HK0.out with ⟨rfl,hz,hT⟩ | ⟨rfl,hz,hT⟩ | ⟨rfl,hz,hT⟩ | ⟨rfl,hz,hT⟩ | ⟨rfl,hz,hT⟩
 focus
  have c1:=fun w' (hb:Below W2.heap.size W2 w')=>put_any M x.e x.f x.at_ x.r w' (HST.out.own.at_.below hb) HFT.out.1 HFT.out.2.2.wat HFT.out.2.2.wr (HFT.out.2.1.below (BW.out.trans (hb.mono BW.out.size)))
  rw [← hz,← hT] at c1
  clear hz hT HK0 HFT
  go_upto_region 5 with fail
  refine wp_region_upTo [0,1,2,3,4,5,6,7,8,9,10,11,12] (DoS w b M x) (by kernel_rfl) ⟨s0,s1,s2,a1,a2,a3,a4,a5,a6⟩ (fun hHeld=>?_)
 rotate_left
 focus
  have c1:=fun w' (hb:Below W2.heap.size W2 w')=>measure_any M x.e x.at_ w' (HST.out.own.at_.below hb) HFT.out.1 HFT.out.2.2.wat (HFT.out.2.1.below (BW.out.trans (hb.mono BW.out.size)))
  rw [← hz,← hT] at c1
  clear hz hT HK0 HFT
  go_upto_region 7 with fail
  refine wp_region_upTo [0,1,2,3,4,5,6,7,8] (DoS w b M x) (by kernel_rfl) ⟨s0,s1,s2,a1,a2,a3,a4,a5,a6⟩ (fun hHeld=>?_)
 rotate_left
 focus
  have c1:=fun w' (hb:Below W2.heap.size W2 w')=>start_any M x.e w' (HST.out.own.at_.below hb) HFT.out.1
  rw [← hz,← hT] at c1
  clear hz hT HK0 HFT
  go_upto_region 9 with fail
  refine wp_region_upTo [0,1,2,3,4,5,6] (DoS w b M x) (by kernel_rfl) ⟨s0,s1,s2,a1,a2,a3,a4,a5,a6⟩ (fun hHeld=>?_)
 rotate_left
 focus
  have c1:=fun w' (hb:Below W2.heap.size W2 w')=>remove_any M x.e w' (HST.out.own.at_.below hb) HFT.out.1
  rw [← hz,← hT] at c1
  clear hz hT HK0 HFT
  go_upto_region 11 with fail
  refine wp_region_upTo [0,1,2,3,4,5,6] (DoS w b M x) (by kernel_rfl) ⟨s0,s1,s2,a1,a2,a3,a4,a5,a6⟩ (fun hHeld=>?_)
 rotate_left
 focus
  have c1:=fun w' (hb:Below W2.heap.size W2 w')=>poke_any M x.f x.at_ x.n w' (HST.out.own.at_.below hb) HFT.out.1 HFT.out.2.2.wn
  rw [← hz,← hT] at c1
  clear hz hT HK0 HFT
  go_upto_region 16 with fail
  refine wp_region_upTo [0,1,2,3,4,5,6,7,8,9,10] (DoS w b M x) (by kernel_rfl) ⟨s0,s1,s2,a1,a2,a3,a4,a5,a6⟩ (fun hHeld=>?_)
 rotate_left
 all_goals
  as_aux_lemma =>
   unfold Mv.val at c1
   clear s0 s1 s2 a0 a1 a2 a3 a4 a5 a6
   repeat ((first | (refine till_anyN (v:=?_) rfl (by kernel_rfl) (fun _ _ _ h=>h) (Or.inl ⟨by rfl,?_⟩) ?_;rotate_left;· (intro w';go_simp)<;>(with_reducible rfl)) | (refine till_takeN (v:=?_) rfl (by kernel_rfl) (fun _ _ _ h=>h) (Or.inl ⟨by rfl,?_⟩) hHeld ?_;rotate_left;· (intro w' hSw;(try dsimp only [DoS] at hSw);go_simp)<;>(with_reducible rfl)));(try simp only [Act.put,List.setIfInBounds_toArray,List.set_cons_zero,List.set_cons_succ]))
   refine till_rest (by kernel_rfl) ?_
   clear hHeld
   refine any_oneN rfl (by kernel_rfl) (fun K hK=>?_)
   have HK:Hid (_):=hK
   clear hK
   go_simp
   (first | go_at_call 93 | go_at_call 102 | go_at_call 94 | go_at_call 95 | go_at_call 97)
   refine (c1 W2.drew (Below.refl _ _).drew).mono ?_
   clear c1
   rintro y w1 ⟨N,rfl,hS,hO,hb⟩
   have HS:Hid (_):=hS
   have HO:Hid (_):=hO
   have HB:Hid (_):=hb
   clear hS hO hb
   (try go_simp)
   refine HK.out _ _ ?_
   clear HK
   (try simp only [Act.put,List.setIfInBounds_toArray,List.set_cons_zero,List.set_cons_succ])
   iterate 2 ((refine any_takeN (v:=?_) rfl (by kernel_rfl) (fun _ _ _ h=>h) (Or.inl ⟨by rfl,?_⟩) ?_;rotate_left;· (intro w';go_simp)<;>(with_reducible rfl));(try simp only [Act.put,List.setIfInBounds_toArray,List.set_cons_zero,List.set_cons_succ]))
   have sz1:=BW.out.size
   have sz2:=HB.out.size
   have hd:W2.drew.heap.size=W2.heap.size:=rfl
   have lR:w.heap.size+1<W2.heap.size:=(Array.getElem?_eq_some_iff.1 QR.out).1
   have BV:Hid (Below W2.heap.size W2 w1):=((Below.refl _ _).drew).trans HB.out
   have HST1:Hid (Site n0 w1 b M C):=HST.out.keep BV.out
   have hbl:=HBL.out
   have nb:w.heap.size+1≠b:=by omega
   have HON:Hid (Owned n0 w1 N∧¬ Mine N b∧¬ Mine N (w.heap.size+1)):=⟨HO.out.mono HST.out.ge,fun q=>by have h1:=(Mine.fresh HO.out q).1;omega,fun q=>by have h1:=(Mine.fresh HO.out q).1;omega⟩
   have c2:=changed_any HST1.out HON.out.1 HON.out.2.1 F
   unfold Mv.val at c2
   refine any_oneN rfl (by kernel_rfl) (fun K hK=>?_)
   have HK:Hid (_):=hK
   clear hK
   go_simp
   go_at_call 101
   refine c2.mono ?_
   clear c2
   rintro y w2 ⟨M',hM',rfl,hS,hF⟩
   have HM' : Hid (_):=hM'
   have HS2:Hid (_):=hS
   have HF2:Hid (_):=hF
   clear hM' hS hF
   (try go_simp)
   refine HK.out _ _ ?_
   clear HK
   (try simp only [Act.put,List.setIfInBounds_toArray,List.set_cons_zero,List.set_cons_succ])
   have sz3:=HF2.out.size
   have q4:=(HF2.out.block (w.heap.size+1) (by omega) nb).trans ((BV.out.block (w.heap.size+1) lR).trans QR.out)
   have r0:w2.cell? ⟨w.heap.size+1,0,none⟩=some (.int .i64 0):=by simp [World.cell?,q4]
   have r1:w2.cell? ⟨w.heap.size+1,1,none⟩=some (.int .i64 0):=by simp [World.cell?,q4]
   have rl:w.heap.size+1<w2.heap.size:=lt_of_cell r0
   have rf0:=frozen_of_block q4 0
   have rf1:=frozen_of_block q4 1
   have NEW:Hid (¬ (w.heap.size+1=b∨Mine M' (w.heap.size+1)∨MineC C (w.heap.size+1))):=by
    rintro (q | q | q)
    · exact nb q
    · rw [HM'.out] at q
      split at q
      · exact HON.out.2.2 q
      · have:=(Mine.fresh OLD.out.own q).2;omega
    · have:=(MineC.fresh OLD.out.cown q).2;omega
   have F2:Hid (Far b w w2):=((Far.of_below BW.out).trans (Far.of_below BV.out)).trans HF2.out
   clear q4
   refine any_oneN rfl (by kernel_rfl) (fun K hK=>?_)
   have HK:Hid (_):=hK
   clear hK
   go_simp
   refine HK.out _ _ ?_
   clear HK
   (try simp only [Act.put,List.setIfInBounds_toArray,List.set_cons_zero,List.set_cons_succ])
   refine wpAny_done (by kernel_rfl) ?_ _
   go_wp2
   refine bp_genR fun V9 hV9=>?_
   obtain ⟨k9,k0,k1⟩:=HS2.out.ans NEW.out r0 r1 hV9
   have F9:Far b w V9:=by rw [hV9];exact (F2.out.set (.inr (by omega)) 0 _).set (.inr (by omega)) 1 _
   clear hV9
   (try simp only [Exit.inBlock,Exit.then])
   refine bodyPost_ret (by simp [results,Tryz.results43,go_sem,k0,k1];try rfl) rfl ?_
   refine ⟨M',C,rfl,?_,Cv.Same.refl _,k9,F9,fun c hc q=>?_⟩
   · rw [HM'.out,hTM.out]
     split
     · exact HS.out
     · exact Mv.Same.refl _
   · rcases q with q | q
     · rw [HM'.out] at q
       split at q
       · have h1:=(Mine.fresh HO.out q).1;omega
       · exact .inl q
     · exact .inr q
set_option maxRecDepth 100000 in
set_option maxHeartbeats 2000000 in
theorem do_peek {n0:Nat} {w:World} {b:Nat} {M:Mv} {C:Cv} (h:Site n0 w b M C) (x:Ac) (hF:M.Fits) :
 Calls Tryz.prog 43 #[.pointer (some ⟨b,0,none⟩),.agg #[.int .i64 6,.int .i64 x.e,.int .i64 x.f,.int .i64 x.at_,.int .i64 x.r,.int .i64 x.n,.int .i64 x.fuel]] w (DoSaid n0 w b M C (wordF M x.f x.at_) (peekN M x.f x.at_) M C):=by
 obtain ⟨W2,hW2⟩:∃ W2,Hid (W2=(w.alloc (.cells #[.int .i64 6,.int .i64 x.e,.int .i64 x.f,.int .i64 x.at_,.int .i64 x.r,.int .i64 x.n,.int .i64 x.fuel] 68)).alloc (.cells #[.int .i64 0,.int .i64 0] 39)):=⟨_,rfl⟩
 obtain ⟨bw,q1,q2⟩:=al2w w (.cells #[.int .i64 6,.int .i64 x.e,.int .i64 x.f,.int .i64 x.at_,.int .i64 x.r,.int .i64 x.n,.int .i64 x.fuel] 68) (.cells #[.int .i64 0,.int .i64 0] 39)
 rw [← hW2.out] at bw q1 q2
 have BW:Hid (_):=bw
 have QA:Hid (_):=q1
 have QR:Hid (_):=q2
 have HST:Hid (Site n0 W2 b M C):=h.keep bw
 have HBL:Hid (b<w.heap.size):=h.lt
 have OLD:Hid (_):=h
 have c1:=fun w' (hb:Below W2.heap.size W2 w')=>peek_any M x.f x.at_ w' (HST.out.own.at_.below hb)
 obtain ⟨z,hz⟩:∃ z,Hid (z=wordF M x.f x.at_):=⟨_,rfl⟩
 obtain ⟨n,hn⟩:∃ n,Hid (n=peekN M x.f x.at_):=⟨_,rfl⟩
 rw [← hz.out,← hn.out]
 rw [← hz.out,← hn.out] at c1
 unfold Mv.val at c1
 have a0:W2.cell? ⟨w.heap.size,0,none⟩=some (.int .i64 6):=by simp [World.cell?,q1]
 have a1:W2.cell? ⟨w.heap.size,1,none⟩=some (.int .i64 x.e):=by simp [World.cell?,q1]
 have a2:W2.cell? ⟨w.heap.size,2,none⟩=some (.int .i64 x.f):=by simp [World.cell?,q1]
 have a3:W2.cell? ⟨w.heap.size,3,none⟩=some (.int .i64 x.at_):=by simp [World.cell?,q1]
 have a4:W2.cell? ⟨w.heap.size,4,none⟩=some (.int .i64 x.r):=by simp [World.cell?,q1]
 have a5:W2.cell? ⟨w.heap.size,5,none⟩=some (.int .i64 x.n):=by simp [World.cell?,q1]
 have a6:W2.cell? ⟨w.heap.size,6,none⟩=some (.int .i64 x.fuel):=by simp [World.cell?,q1]
 have al:w.heap.size<W2.heap.size:=lt_of_cell a0
 have s0:=HST.out.c0
 have s1:=HST.out.c1
 have s2:=HST.out.c2
 have sl:=HST.out.lt
 have GG:Hid (∀ w',Below W2.heap.size W2 w'→w'.cell? ⟨b,0,none⟩=some (.slice M.fa M.frs.length M.fcap)∧w'.cell? ⟨b,1,none⟩=some (.slice M.ea M.ens.length M.ecap)∧w'.cell? ⟨b,2,none⟩=some (.slice M.qa M.qus.length M.qcap)∧w'.cell? ⟨w.heap.size,2,none⟩=some (.int .i64 x.f)∧w'.cell? ⟨w.heap.size,3,none⟩=some (.int .i64 x.at_)):=by
  have a0_:=a2
  have a1_:=a3
  have b0_:=s0
  have b1_:=s1
  have b2_:=s2
  exact fun w' hb=>⟨(hb.cell (p:=⟨b,0,none⟩) sl).trans b0_,(hb.cell (p:=⟨b,1,none⟩) sl).trans b1_,(hb.cell (p:=⟨b,2,none⟩) sl).trans b2_,(hb.cell (p:=⟨w.heap.size,2,none⟩) al).trans a0_,(hb.cell (p:=⟨w.heap.size,3,none⟩) al).trans a1_⟩
 clear h hF bw q1 q2 hz hn
 go_enter Tryz.func43,Tryz.ntmps43
 go_upto_region 1 with fail
 rw [← hW2.out]
 clear hW2
 go_upto_region 13 with fail
 go_region_held3 (fun w'=>w'.cell? ⟨b,0,none⟩=some (.slice M.fa M.frs.length M.fcap)∧w'.cell? ⟨b,1,none⟩=some (.slice M.ea M.ens.length M.ecap)∧w'.cell? ⟨b,2,none⟩=some (.slice M.qa M.qus.length M.qcap)∧w'.cell? ⟨w.heap.size,2,none⟩=some (.int .i64 x.f)∧w'.cell? ⟨w.heap.size,3,none⟩=some (.int .i64 x.at_)) (exact GG.out _ (by repeat (first | (with_reducible exact Below.refl _ _) | (with_reducible exact HBC.out) | (with_reducible refine Below.drew ?_)))) (first
  | (go_at_call 96;refine (c1 _ (by repeat (first | (with_reducible exact Below.refl _ _) | (with_reducible refine Below.drew ?_)))).mono ?_;clear c1;rintro y w2 ⟨rfl,hb2⟩;have HBC:Hid (Below W2.heap.size W2 w2):=((Below.refl _ _).drew).trans hb2;clear hb2)
  | fail)
 have q4:=(HBC.out.block _ (Array.getElem?_eq_some_iff.1 QR.out).1).trans QR.out
 have r0:w2.cell? ⟨w.heap.size+1,0,none⟩=some (.int .i64 0):=by simp [World.cell?,q4]
 have r1:w2.cell? ⟨w.heap.size+1,1,none⟩=some (.int .i64 0):=by simp [World.cell?,q4]
 have rl:w.heap.size+1<w2.heap.size:=lt_of_cell r0
 have rf0:=frozen_of_block q4 0
 have rf1:=frozen_of_block q4 1
 have HST2:Hid (Site n0 w2 b M C):=HST.out.keep HBC.out
 have HNR:Hid (¬ (w.heap.size+1=b∨Mine M (w.heap.size+1)∨MineC C (w.heap.size+1))):=OLD.out.new (by omega)
 clear q4 GG a0 a1 a2 a3 a4 a5 a6 al s0 s1 s2 sl
 go_wp2
 refine bp_genR fun V9 hV9=>?_
 obtain ⟨k9,k0,k1⟩:=HST2.out.ans HNR.out r0 r1 hV9
 have F9:Far b w V9:=by rw [hV9];exact (((Far.of_below BW.out).trans (Far.of_below HBC.out)).set (.inr (by omega)) 0 _).set (.inr (by omega)) 1 _
 clear hV9
 (try simp only [Exit.inBlock,Exit.then])
 refine bodyPost_ret (by simp [results,Tryz.results43,go_sem,k0,k1];try rfl) rfl ?_
 exact ⟨M,C,rfl,Mv.Same.refl _,Cv.Same.refl _,k9,F9,fun _ _ q=>q⟩
set_option maxRecDepth 100000 in
set_option maxHeartbeats 20000000 in
theorem do_run {n0:Nat} {w:World} {b:Nat} {M:Mv} {C:Cv} (h:Site n0 w b M C) (x:Ac) (hF:M.Fits) (ht:Tab w) (hx:x.Ok) {kk F D V:Int} {T:Mv} (hkk:x.k=kk) (hk:(kk=8∧F=entF M x.e x.n x.fuel∧T=entM M x.e x.n x.fuel∧D=entD M x.e x.n x.fuel∧V=entV M x.e x.n x.fuel)∨(kk=9∧F=fuelF M x.e 3 x.fuel∧T=resM M x.e x.fuel∧D=resD M x.e x.fuel∧V=resV M x.e x.fuel)) :
 Calls Tryz.prog 43 #[.pointer (some ⟨b,0,none⟩),x.val] w (DoSaid n0 w b M C (ranC D F) (ranN D V F) (if F=0 then T else M) C):=by
 unfold Ac.val
 rw [hkk]
 clear hkk
 obtain ⟨W2,hW2⟩:∃ W2,Hid (W2=(w.alloc (.cells #[.int .i64 kk,.int .i64 x.e,.int .i64 x.f,.int .i64 x.at_,.int .i64 x.r,.int .i64 x.n,.int .i64 x.fuel] 68)).alloc (.cells #[.int .i64 0,.int .i64 0] 39)):=⟨_,rfl⟩
 obtain ⟨bw,q1,q2⟩:=al2w w (.cells #[.int .i64 kk,.int .i64 x.e,.int .i64 x.f,.int .i64 x.at_,.int .i64 x.r,.int .i64 x.n,.int .i64 x.fuel] 68) (.cells #[.int .i64 0,.int .i64 0] 39)
 rw [← hW2.out] at bw q1 q2
 have BW:Hid (_):=bw
 have QR:Hid (_):=q2
 have HST:Hid (Site n0 W2 b M C):=h.keep bw
 have HBL:Hid (b<w.heap.size):=h.lt
 have OLD:Hid (_):=h
 obtain ⟨TM,hTM⟩:∃ TM,Hid (TM=if F=0 then T else M):=⟨_,rfl⟩
 rw [← hTM.out]
 obtain ⟨cd,hcd⟩:∃ z,Hid (z=ranC D F):=⟨_,rfl⟩
 obtain ⟨vn,hvn⟩:∃ z,Hid (z=ranN D V F):=⟨_,rfl⟩
 rw [← hcd.out,← hvn.out]
 have a0:W2.cell? ⟨w.heap.size,0,none⟩=some (.int .i64 kk):=by simp [World.cell?,q1]
 have a1:W2.cell? ⟨w.heap.size,1,none⟩=some (.int .i64 x.e):=by simp [World.cell?,q1]
 have a2:W2.cell? ⟨w.heap.size,2,none⟩=some (.int .i64 x.f):=by simp [World.cell?,q1]
 have a3:W2.cell? ⟨w.heap.size,3,none⟩=some (.int .i64 x.at_):=by simp [World.cell?,q1]
 have a4:W2.cell? ⟨w.heap.size,4,none⟩=some (.int .i64 x.r):=by simp [World.cell?,q1]
 have a5:W2.cell? ⟨w.heap.size,5,none⟩=some (.int .i64 x.n):=by simp [World.cell?,q1]
 have a6:W2.cell? ⟨w.heap.size,6,none⟩=some (.int .i64 x.fuel):=by simp [World.cell?,q1]
 have al:w.heap.size<W2.heap.size:=lt_of_cell a0
 have s0:=HST.out.c0
 have s1:=HST.out.c1
 have s2:=HST.out.c2
 have sl:=HST.out.lt
 have HK0:Hid (_):=hk
 have HFT:Hid (M.Fits∧Tab w∧x.Ok):=⟨hF,ht,hx⟩
 clear h hF bw q1 q2 hk ht hx
 go_enter Tryz.func43,Tryz.ntmps43
 go_upto_region 1 with fail
 rw [← hW2.out]
 clear hW2
 rcases HK0.out with ⟨rfl,hz,hT,hD,hV⟩ | ⟨rfl,hz,hT,hD,hV⟩
 focus
  have c1:=fun w' (hb:Below W2.heap.size W2 w')=>enter_any M x.e x.n x.fuel w' (HST.out.own.at_.below hb) HFT.out.1
  unfold RunSaid at c1
  rw [← hz,← hT,← hD,← hV] at c1
  clear hz hT hD hV HK0 HFT
  go_upto_region 18 with fail
  refine wp_region_upTo [0,1,2,3,4,5,6,7,8,9,10] (DoS w b M x) (by kernel_rfl) ⟨s0,s1,s2,a1,a2,a3,a4,a5,a6⟩ (fun hHeld=>?_)
 rotate_left
 focus
  have c1:=fun w' (hb:Below W2.heap.size W2 w')=>resume_any M x.e x.fuel w' (HST.out.own.at_.below hb) HFT.out.1
  unfold RunSaid at c1
  rw [← hz,← hT,← hD,← hV] at c1
  clear hz hT hD hV HK0 HFT
  go_upto_region 20 with fail
  refine wp_region_upTo [0,1,2,3,4,5,6,7,8] (DoS w b M x) (by kernel_rfl) ⟨s0,s1,s2,a1,a2,a3,a4,a5,a6⟩ (fun hHeld=>?_)
 rotate_left
 all_goals
  as_aux_lemma =>
   unfold Mv.val at c1
   clear s0 s1 s2 a0 a1 a2 a3 a4 a5 a6
   repeat ((first | (refine till_anyN (v:=?_) rfl (by kernel_rfl) (fun _ _ _ h=>h) (Or.inl ⟨by rfl,?_⟩) ?_;rotate_left;· (intro w';go_simp)<;>(with_reducible rfl)) | (refine till_takeN (v:=?_) rfl (by kernel_rfl) (fun _ _ _ h=>h) (Or.inl ⟨by rfl,?_⟩) hHeld ?_;rotate_left;· (intro w' hSw;(try dsimp only [DoS] at hSw);go_simp)<;>(with_reducible rfl)));(try simp only [Act.put,List.setIfInBounds_toArray,List.set_cons_zero,List.set_cons_succ]))
   refine till_rest (by kernel_rfl) ?_
   clear hHeld
   refine any_oneN rfl (by kernel_rfl) (fun K hK=>?_)
   have HK:Hid (_):=hK
   clear hK
   go_simp
   (first | go_at_call 21 | go_at_call 23)
   refine (c1 W2.drew (Below.refl _ _).drew).mono ?_
   clear c1
   rintro y w1 ⟨N,rfl,hS,hO,hb⟩
   have HS:Hid (_):=hS
   have HO:Hid (_):=hO
   have HB:Hid (_):=hb
   clear hS hO hb
   (try go_simp)
   refine HK.out _ _ ?_
   clear HK
   (try simp only [Act.put,List.setIfInBounds_toArray,List.set_cons_zero,List.set_cons_succ])
   iterate 3 ((refine any_takeN (v:=?_) rfl (by kernel_rfl) (fun _ _ _ h=>h) (Or.inl ⟨by rfl,?_⟩) ?_;rotate_left;· (intro w';go_simp)<;>(with_reducible rfl));(try simp only [Act.put,List.setIfInBounds_toArray,List.set_cons_zero,List.set_cons_succ]))
   have sz1:=BW.out.size
   have sz2:=HB.out.size
   have hd:W2.drew.heap.size=W2.heap.size:=rfl
   have lR:w.heap.size+1<W2.heap.size:=(Array.getElem?_eq_some_iff.1 QR.out).1
   have BV:Hid (Below W2.heap.size W2 w1):=((Below.refl _ _).drew).trans HB.out
   have HST1:Hid (Site n0 w1 b M C):=HST.out.keep BV.out
   have hbl:=HBL.out
   have nb:w.heap.size+1≠b:=by omega
   have HON:Hid (Owned n0 w1 N∧¬ Mine N b∧¬ Mine N (w.heap.size+1)):=⟨HO.out.mono HST.out.ge,fun q=>by have h1:=(Mine.fresh HO.out q).1;omega,fun q=>by have h1:=(Mine.fresh HO.out q).1;omega⟩
   have c2:=ranS_any HST1.out HON.out.1 HON.out.2.1 D V F
   rw [← hcd.out,← hvn.out] at c2
   unfold Mv.val at c2
   refine any_oneN rfl (by kernel_rfl) (fun K hK=>?_)
   have HK:Hid (_):=hK
   clear hK
   go_simp
   go_at_call 103
   refine c2.mono ?_
   clear c2
   rintro y w2 ⟨M',hM',rfl,hS,hF⟩
   have HM' : Hid (_):=hM'
   have HS2:Hid (_):=hS
   have HF2:Hid (_):=hF
   clear hM' hS hF
   (try go_simp)
   refine HK.out _ _ ?_
   clear HK
   (try simp only [Act.put,List.setIfInBounds_toArray,List.set_cons_zero,List.set_cons_succ])
   have sz3:=HF2.out.size
   have q4:=(HF2.out.block (w.heap.size+1) (by omega) nb).trans ((BV.out.block (w.heap.size+1) lR).trans QR.out)
   have r0:w2.cell? ⟨w.heap.size+1,0,none⟩=some (.int .i64 0):=by simp [World.cell?,q4]
   have r1:w2.cell? ⟨w.heap.size+1,1,none⟩=some (.int .i64 0):=by simp [World.cell?,q4]
   have rl:w.heap.size+1<w2.heap.size:=lt_of_cell r0
   have rf0:=frozen_of_block q4 0
   have rf1:=frozen_of_block q4 1
   have NEW:Hid (¬ (w.heap.size+1=b∨Mine M' (w.heap.size+1)∨MineC C (w.heap.size+1))):=by
    rintro (q | q | q)
    · exact nb q
    · rw [HM'.out] at q
      split at q
      · exact HON.out.2.2 q
      · have:=(Mine.fresh OLD.out.own q).2;omega
    · have:=(MineC.fresh OLD.out.cown q).2;omega
   have F2:Hid (Far b w w2):=((Far.of_below BW.out).trans (Far.of_below BV.out)).trans HF2.out
   clear q4
   refine any_oneN rfl (by kernel_rfl) (fun K hK=>?_)
   have HK:Hid (_):=hK
   clear hK
   go_simp
   refine HK.out _ _ ?_
   clear HK
   (try simp only [Act.put,List.setIfInBounds_toArray,List.set_cons_zero,List.set_cons_succ])
   refine wpAny_done (by kernel_rfl) ?_ _
   go_wp2
   refine bp_genR fun V9 hV9=>?_
   obtain ⟨k9,k0,k1⟩:=HS2.out.ans NEW.out r0 r1 hV9
   have F9:Far b w V9:=by rw [hV9];exact (F2.out.set (.inr (by omega)) 0 _).set (.inr (by omega)) 1 _
   clear hV9
   (try simp only [Exit.inBlock,Exit.then])
   refine bodyPost_ret (by simp [results,Tryz.results43,go_sem,k0,k1];try rfl) rfl ?_
   refine ⟨M',C,rfl,?_,Cv.Same.refl _,k9,F9,fun c hc q=>?_⟩
   · rw [HM'.out,hTM.out]
     split
     · exact HS.out
     · exact Mv.Same.refl _
   · rcases q with q | q
     · rw [HM'.out] at q
       split at q
       · have h1:=(Mine.fresh HO.out q).1;omega
       · exact .inl q
     · exact .inr q
set_option maxRecDepth 100000 in
set_option maxHeartbeats 2000000 in
theorem do_ask {n0:Nat} {w:World} {b:Nat} {M:Mv} {C:Cv} (h:Site n0 w b M C) (x:Ac) (hF:M.Fits) (hFC:C.Fits) :
 Calls Tryz.prog 43 #[.pointer (some ⟨b,0,none⟩),.agg #[.int .i64 10,.int .i64 x.e,.int .i64 x.f,.int .i64 x.at_,.int .i64 x.r,.int .i64 x.n,.int .i64 x.fuel]] w (DoSaid n0 w b M C (askE C) (askN C) M (if askE C=0 then askC C else C)):=by
 obtain ⟨W2,hW2⟩:∃ W2,Hid (W2=(w.alloc (.cells #[.int .i64 10,.int .i64 x.e,.int .i64 x.f,.int .i64 x.at_,.int .i64 x.r,.int .i64 x.n,.int .i64 x.fuel] 68)).alloc (.cells #[.int .i64 0,.int .i64 0] 39)):=⟨_,rfl⟩
 obtain ⟨bw,q1,q2⟩:=al2w w (.cells #[.int .i64 10,.int .i64 x.e,.int .i64 x.f,.int .i64 x.at_,.int .i64 x.r,.int .i64 x.n,.int .i64 x.fuel] 68) (.cells #[.int .i64 0,.int .i64 0] 39)
 rw [← hW2.out] at bw q1 q2
 have BW:Hid (_):=bw
 have QA:Hid (_):=q1
 have QR:Hid (_):=q2
 have HST:Hid (Site n0 W2 b M C):=h.keep bw
 have HBL:Hid (b<w.heap.size):=h.lt
 have OLD:Hid (_):=h
 have c1:=askS_any HST.out hFC
 obtain ⟨z,hz⟩:∃ z,Hid (z=(askE C)):=⟨_,rfl⟩
 obtain ⟨n,hn⟩:∃ n:Int,Hid (n=(askN C)):=⟨_,rfl⟩
 obtain ⟨TM,hTM⟩:∃ T,Hid (T=M):=⟨_,rfl⟩
 obtain ⟨TC,hTC⟩:∃ T,Hid (T=(if askE C=0 then askC C else C)):=⟨_,rfl⟩
 rw [← hTC.out,← hz.out,← hn.out]
 rw [← hTC.out,← hz.out,← hn.out] at c1
 have a0:W2.cell? ⟨w.heap.size,0,none⟩=some (.int .i64 10):=by simp [World.cell?,q1]
 have a1:W2.cell? ⟨w.heap.size,1,none⟩=some (.int .i64 x.e):=by simp [World.cell?,q1]
 have a2:W2.cell? ⟨w.heap.size,2,none⟩=some (.int .i64 x.f):=by simp [World.cell?,q1]
 have a3:W2.cell? ⟨w.heap.size,3,none⟩=some (.int .i64 x.at_):=by simp [World.cell?,q1]
 have a4:W2.cell? ⟨w.heap.size,4,none⟩=some (.int .i64 x.r):=by simp [World.cell?,q1]
 have a5:W2.cell? ⟨w.heap.size,5,none⟩=some (.int .i64 x.n):=by simp [World.cell?,q1]
 have a6:W2.cell? ⟨w.heap.size,6,none⟩=some (.int .i64 x.fuel):=by simp [World.cell?,q1]
 have al:w.heap.size<W2.heap.size:=lt_of_cell a0
 clear h hF bw q1 q2 hz hn hTM hTC hFC
 go_enter Tryz.func43,Tryz.ntmps43
 go_upto_region 1 with fail
 rw [← hW2.out]
 clear hW2
 go_wp2_with (go_at_call 104;refine c1.mono ?_;clear c1;rintro y w2 ⟨M',C',rfl,hS1,hS2,hS,hF,hsub⟩;have HSB:Hid (_):=hsub;have HS1:Hid (_):=hS1;have HS2:Hid (_):=hS2;have HS:Hid (_):=hS;have HF2:Hid (_):=hF;have lR:w.heap.size+1<W2.heap.size:=(Array.getElem?_eq_some_iff.1 QR.out).1;have nb:w.heap.size+1≠b:=(by have:=HBL.out;omega);have q4:=(hF.block (w.heap.size+1) lR nb).trans QR.out;have r0:w2.cell? ⟨w.heap.size+1,0,none⟩=some (.int .i64 0):=(by simp [World.cell?,q4]);have r1:w2.cell? ⟨w.heap.size+1,1,none⟩=some (.int .i64 0):=(by simp [World.cell?,q4]);have rl:w.heap.size+1<w2.heap.size:=lt_of_cell r0;have rf0:=frozen_of_block q4 0;have rf1:=frozen_of_block q4 1;clear hS1 hS2 hS hF hsub q4)
 refine bp_genR fun V9 hV9=>?_
 have NEW:¬ (w.heap.size+1=b∨Mine M' (w.heap.size+1)∨MineC C' (w.heap.size+1)):=by
  have lR:w.heap.size+1<W2.heap.size:=(Array.getElem?_eq_some_iff.1 QR.out).1
  have no:¬ (Mine M (w.heap.size+1)∨MineC C (w.heap.size+1)):=fun q=>by have:=OLD.out.old (.inr q);omega
  rintro (q | q | q)
  · have:=HBL.out;omega
  · exact no (HSB.out _ lR (.inl q))
  · exact no (HSB.out _ lR (.inr q))
 obtain ⟨k9,k0,k1⟩:=HS.out.ans NEW r0 r1 hV9
 have F9:Far b w V9:=by rw [hV9];exact (((Far.of_below BW.out).trans HF2.out).set (.inr (by omega)) 0 _).set (.inr (by omega)) 1 _
 clear hV9
 (try simp only [Exit.inBlock,Exit.then])
 refine bodyPost_ret (by simp [results,Tryz.results43,go_sem,k0,k1];try rfl) rfl ?_
 exact ⟨M',C',rfl,HS1.out,HS2.out,k9,F9,fun c hc q=>HSB.out c (by have:=BW.out.size;omega) q⟩
set_option maxRecDepth 100000 in
set_option maxHeartbeats 2000000 in
theorem do_check {n0:Nat} {w:World} {b:Nat} {M:Mv} {C:Cv} (h:Site n0 w b M C) (x:Ac) (hF:M.Fits) (hFC:C.Fits) :
 Calls Tryz.prog 43 #[.pointer (some ⟨b,0,none⟩),.agg #[.int .i64 11,.int .i64 x.e,.int .i64 x.f,.int .i64 x.at_,.int .i64 x.r,.int .i64 x.n,.int .i64 x.fuel]] w (DoSaid n0 w b M C (chkE M C x.at_) 0 M (chkD M C x.at_)):=by
 obtain ⟨W2,hW2⟩:∃ W2,Hid (W2=(w.alloc (.cells #[.int .i64 11,.int .i64 x.e,.int .i64 x.f,.int .i64 x.at_,.int .i64 x.r,.int .i64 x.n,.int .i64 x.fuel] 68)).alloc (.cells #[.int .i64 0,.int .i64 0] 39)):=⟨_,rfl⟩
 obtain ⟨bw,q1,q2⟩:=al2w w (.cells #[.int .i64 11,.int .i64 x.e,.int .i64 x.f,.int .i64 x.at_,.int .i64 x.r,.int .i64 x.n,.int .i64 x.fuel] 68) (.cells #[.int .i64 0,.int .i64 0] 39)
 rw [← hW2.out] at bw q1 q2
 have BW:Hid (_):=bw
 have QA:Hid (_):=q1
 have QR:Hid (_):=q2
 have HST:Hid (Site n0 W2 b M C):=h.keep bw
 have HBL:Hid (b<w.heap.size):=h.lt
 have OLD:Hid (_):=h
 have c1:=checkS_any HST.out hFC x.at_
 obtain ⟨z,hz⟩:∃ z,Hid (z=(chkE M C x.at_)):=⟨_,rfl⟩
 obtain ⟨n,hn⟩:∃ n:Int,Hid (n=0):=⟨_,rfl⟩
 obtain ⟨TM,hTM⟩:∃ T,Hid (T=M):=⟨_,rfl⟩
 obtain ⟨TC,hTC⟩:∃ T,Hid (T=(chkD M C x.at_)):=⟨_,rfl⟩
 rw [← hTC.out,← hz.out]
 rw [← hTC.out,← hz.out] at c1
 have a0:W2.cell? ⟨w.heap.size,0,none⟩=some (.int .i64 11):=by simp [World.cell?,q1]
 have a1:W2.cell? ⟨w.heap.size,1,none⟩=some (.int .i64 x.e):=by simp [World.cell?,q1]
 have a2:W2.cell? ⟨w.heap.size,2,none⟩=some (.int .i64 x.f):=by simp [World.cell?,q1]
 have a3:W2.cell? ⟨w.heap.size,3,none⟩=some (.int .i64 x.at_):=by simp [World.cell?,q1]
 have a4:W2.cell? ⟨w.heap.size,4,none⟩=some (.int .i64 x.r):=by simp [World.cell?,q1]
 have a5:W2.cell? ⟨w.heap.size,5,none⟩=some (.int .i64 x.n):=by simp [World.cell?,q1]
 have a6:W2.cell? ⟨w.heap.size,6,none⟩=some (.int .i64 x.fuel):=by simp [World.cell?,q1]
 have al:w.heap.size<W2.heap.size:=lt_of_cell a0
 clear h hF bw q1 q2 hz hn hTM hTC hFC
 go_enter Tryz.func43,Tryz.ntmps43
 go_upto_region 1 with fail
 rw [← hW2.out]
 clear hW2
 go_wp2_with (go_at_call 105;refine c1.mono ?_;clear c1;rintro y w2 ⟨M',C',rfl,hS1,hS2,hS,hF,hsub⟩;have HSB:Hid (_):=hsub;have HS1:Hid (_):=hS1;have HS2:Hid (_):=hS2;have HS:Hid (_):=hS;have HF2:Hid (_):=hF;have lR:w.heap.size+1<W2.heap.size:=(Array.getElem?_eq_some_iff.1 QR.out).1;have nb:w.heap.size+1≠b:=(by have:=HBL.out;omega);have q4:=(hF.block (w.heap.size+1) lR nb).trans QR.out;have r0:w2.cell? ⟨w.heap.size+1,0,none⟩=some (.int .i64 0):=(by simp [World.cell?,q4]);have r1:w2.cell? ⟨w.heap.size+1,1,none⟩=some (.int .i64 0):=(by simp [World.cell?,q4]);have rl:w.heap.size+1<w2.heap.size:=lt_of_cell r0;have rf0:=frozen_of_block q4 0;have rf1:=frozen_of_block q4 1;clear hS1 hS2 hS hF hsub q4)
 refine bp_genR fun V9 hV9=>?_
 have NEW:¬ (w.heap.size+1=b∨Mine M' (w.heap.size+1)∨MineC C' (w.heap.size+1)):=by
  have lR:w.heap.size+1<W2.heap.size:=(Array.getElem?_eq_some_iff.1 QR.out).1
  have no:¬ (Mine M (w.heap.size+1)∨MineC C (w.heap.size+1)):=fun q=>by have:=OLD.out.old (.inr q);omega
  rintro (q | q | q)
  · have:=HBL.out;omega
  · exact no (HSB.out _ lR (.inl q))
  · exact no (HSB.out _ lR (.inr q))
 obtain ⟨k9,k0,k1⟩:=HS.out.ans NEW r0 r1 hV9
 have F9:Far b w V9:=by rw [hV9];exact (((Far.of_below BW.out).trans HF2.out).set (.inr (by omega)) 0 _).set (.inr (by omega)) 1 _
 clear hV9
 (try simp only [Exit.inBlock,Exit.then])
 refine bodyPost_ret (by simp [results,Tryz.results43,go_sem,k0,k1];try rfl) rfl ?_
 exact ⟨M',C',rfl,HS1.out,HS2.out,k9,F9,fun c hc q=>HSB.out c (by have:=BW.out.size;omega) q⟩
set_option maxRecDepth 100000 in
set_option maxHeartbeats 2000000 in
theorem do_odd {n0:Nat} {w:World} {b:Nat} {M:Mv} {C:Cv} (h:Site n0 w b M C) (x:Ac) (hF:M.Fits) (n1:¬ x.k=1) (n2:¬ x.k=2) (n3:¬ x.k=3) (n4:¬ x.k=4) (n5:¬ x.k=5) (n6:¬ x.k=6) (n7:¬ x.k=7) (n8:¬ x.k=8) (n9:¬ x.k=9) (n10:¬ x.k=10) (n11:¬ x.k=11) :
 Calls Tryz.prog 43 #[.pointer (some ⟨b,0,none⟩),.agg #[.int .i64 x.k,.int .i64 x.e,.int .i64 x.f,.int .i64 x.at_,.int .i64 x.r,.int .i64 x.n,.int .i64 x.fuel]] w (DoSaid n0 w b M C 3 0 M C):=by
 obtain ⟨W2,hW2⟩:∃ W2,Hid (W2=(w.alloc (.cells #[.int .i64 x.k,.int .i64 x.e,.int .i64 x.f,.int .i64 x.at_,.int .i64 x.r,.int .i64 x.n,.int .i64 x.fuel] 68)).alloc (.cells #[.int .i64 0,.int .i64 0] 39)):=⟨_,rfl⟩
 obtain ⟨bw,q1,q2⟩:=al2w w (.cells #[.int .i64 x.k,.int .i64 x.e,.int .i64 x.f,.int .i64 x.at_,.int .i64 x.r,.int .i64 x.n,.int .i64 x.fuel] 68) (.cells #[.int .i64 0,.int .i64 0] 39)
 rw [← hW2.out] at bw q1 q2
 have BW:Hid (_):=bw
 have QA:Hid (_):=q1
 have QR:Hid (_):=q2
 have HST:Hid (Site n0 W2 b M C):=h.keep bw
 have HBL:Hid (b<w.heap.size):=h.lt
 have OLD:Hid (_):=h
 have m1:(x.k == 1)=false:=by simpa using n1
 have m2:(x.k == 2)=false:=by simpa using n2
 have m3:(x.k == 3)=false:=by simpa using n3
 have m4:(x.k == 4)=false:=by simpa using n4
 have m5:(x.k == 5)=false:=by simpa using n5
 have m6:(x.k == 6)=false:=by simpa using n6
 have m7:(x.k == 7)=false:=by simpa using n7
 have m8:(x.k == 8)=false:=by simpa using n8
 have m9:(x.k == 9)=false:=by simpa using n9
 have m10:(x.k == 10)=false:=by simpa using n10
 have m11:(x.k == 11)=false:=by simpa using n11
 have a0:W2.cell? ⟨w.heap.size,0,none⟩=some (.int .i64 x.k):=by simp [World.cell?,q1]
 have a1:W2.cell? ⟨w.heap.size,1,none⟩=some (.int .i64 x.e):=by simp [World.cell?,q1]
 have a2:W2.cell? ⟨w.heap.size,2,none⟩=some (.int .i64 x.f):=by simp [World.cell?,q1]
 have a3:W2.cell? ⟨w.heap.size,3,none⟩=some (.int .i64 x.at_):=by simp [World.cell?,q1]
 have a4:W2.cell? ⟨w.heap.size,4,none⟩=some (.int .i64 x.r):=by simp [World.cell?,q1]
 have a5:W2.cell? ⟨w.heap.size,5,none⟩=some (.int .i64 x.n):=by simp [World.cell?,q1]
 have a6:W2.cell? ⟨w.heap.size,6,none⟩=some (.int .i64 x.fuel):=by simp [World.cell?,q1]
 have al:w.heap.size<W2.heap.size:=lt_of_cell a0
 have r0:W2.cell? ⟨w.heap.size+1,0,none⟩=some (.int .i64 0):=by simp [World.cell?,q2]
 have r1:W2.cell? ⟨w.heap.size+1,1,none⟩=some (.int .i64 0):=by simp [World.cell?,q2]
 have rl:w.heap.size+1<W2.heap.size:=lt_of_cell r0
 have rf0:=frozen_of_block q2 0
 have rf1:=frozen_of_block q2 1
 have HNR:Hid (¬ (w.heap.size+1=b∨Mine M (w.heap.size+1)∨MineC C (w.heap.size+1))):=OLD.out.new (by omega)
 clear h hF bw q1 q2 n1 n2 n3 n4 n5 n6 n7 n8 n9 n10 n11
 go_enter Tryz.func43,Tryz.ntmps43
 go_upto_region 1 with fail
 rw [← hW2.out]
 clear hW2
 go_wp2
 refine bp_genR fun V9 hV9=>?_
 obtain ⟨k9,k0,k1⟩:=HST.out.ans HNR.out r0 r1 hV9
 have F9:Far b w V9:=by rw [hV9];exact ((Far.of_below BW.out).set (.inr (by omega)) 0 _).set (.inr (by omega)) 1 _
 clear hV9
 (try simp only [Exit.inBlock,Exit.then])
 refine bodyPost_ret (by simp [results,Tryz.results43,go_sem,k0,k1];try rfl) rfl ?_
 exact ⟨M,C,rfl,Mv.Same.refl _,Cv.Same.refl _,k9,F9,fun _ _ q=>q⟩
def actC (M:Mv) (C:Cv) (x:Ac):Int:=
 if x.k=1 then creF M else if x.k=2 then putF M x.e x.f x.at_ x.r else if x.k=3 then meaF M x.e x.at_ else if x.k=4 then askF M x.e 1 else if x.k=5 then askF M x.e (-1) else if x.k=6 then wordF M x.f x.at_ else if x.k=7 then pokeF M x.f x.at_ x.n
 else if x.k=8 then ranC (entD M x.e x.n x.fuel) (entF M x.e x.n x.fuel) else if x.k=9 then ranC (resD M x.e x.fuel) (fuelF M x.e 3 x.fuel) else if x.k=10 then askE C else if x.k=11 then chkE M C x.at_ else 3
def actN (M:Mv) (C:Cv) (x:Ac):Int:=
 if x.k=1 then creN M else if x.k=6 then peekN M x.f x.at_ else if x.k=8 then ranN (entD M x.e x.n x.fuel) (entV M x.e x.n x.fuel) (entF M x.e x.n x.fuel) else if x.k=9 then ranN (resD M x.e x.fuel) (resV M x.e x.fuel) (fuelF M x.e 3 x.fuel) else if x.k=10 then askN C else 0
def actM (M:Mv) (C:Cv) (x:Ac):Mv:=
 if x.k=1 then (if creF M=0 then creM M else M) else if x.k=2 then (if putF M x.e x.f x.at_ x.r=0 then putM M x.e x.f x.at_ x.r else M) else if x.k=3 then (if meaF M x.e x.at_=0 then meaM M x.e x.at_ else M) else if x.k=4 then (if askF M x.e 1=0 then startM M x.e else M)
 else if x.k=5 then (if askF M x.e (-1)=0 then remM M x.e else M) else if x.k=7 then (if pokeF M x.f x.at_ x.n=0 then pokeM M x.f x.at_ x.n else M) else if x.k=8 then (if entF M x.e x.n x.fuel=0 then entM M x.e x.n x.fuel else M) else if x.k=9 then (if fuelF M x.e 3 x.fuel=0 then resM M x.e x.fuel else M) else M
def actD (M:Mv) (C:Cv) (x:Ac):Cv:=if x.k=10 then (if askE C=0 then askC C else C) else if x.k=11 then chkD M C x.at_ else C
theorem do_any {n0:Nat} {w:World} {b:Nat} {M:Mv} {C:Cv} (h:Site n0 w b M C) (x:Ac) (hF:M.Fits) (hFC:C.Fits) (ht:Tab w) (hx:x.Ok) :
 Calls Tryz.prog 43 #[.pointer (some ⟨b,0,none⟩),x.val] w (DoSaid n0 w b M C (actC M C x) (actN M C x) (actM M C x) (actD M C x)):=by
 unfold Ac.val
 by_cases n1:x.k=1
 · unfold actC actN actM actD
   rw [n1]
   exact do_create h x hF ht
 by_cases n2:x.k=2
 · have q:=do_chg h x hF ht hx n2 (.inl ⟨rfl,rfl,rfl⟩)
   unfold Ac.val at q
   unfold actC actN actM actD
   rw [n2] at q ⊢
   exact q
 by_cases n3:x.k=3
 · have q:=do_chg h x hF ht hx n3 (.inr (.inl ⟨rfl,rfl,rfl⟩))
   unfold Ac.val at q
   unfold actC actN actM actD
   rw [n3] at q ⊢
   exact q
 by_cases n4:x.k=4
 · have q:=do_chg h x hF ht hx n4 (.inr (.inr (.inl ⟨rfl,rfl,rfl⟩)))
   unfold Ac.val at q
   unfold actC actN actM actD
   rw [n4] at q ⊢
   exact q
 by_cases n5:x.k=5
 · have q:=do_chg h x hF ht hx n5 (.inr (.inr (.inr (.inl ⟨rfl,rfl,rfl⟩))))
   unfold Ac.val at q
   unfold actC actN actM actD
   rw [n5] at q ⊢
   exact q
 by_cases n6:x.k=6
 · unfold actC actN actM actD
   rw [n6]
   exact do_peek h x hF
 by_cases n7:x.k=7
 · have q:=do_chg h x hF ht hx n7 (.inr (.inr (.inr (.inr ⟨rfl,rfl,rfl⟩))))
   unfold Ac.val at q
   unfold actC actN actM actD
   rw [n7] at q ⊢
   exact q
 by_cases n8:x.k=8
 · have q:=do_run h x hF ht hx n8 (.inl ⟨rfl,rfl,rfl,rfl,rfl⟩)
   unfold Ac.val at q
   unfold actC actN actM actD
   rw [n8] at q ⊢
   exact q
 by_cases n9:x.k=9
 · have q:=do_run h x hF ht hx n9 (.inr ⟨rfl,rfl,rfl,rfl,rfl⟩)
   unfold Ac.val at q
   unfold actC actN actM actD
   rw [n9] at q ⊢
   exact q
 by_cases n10:x.k=10
 · unfold actC actN actM actD
   rw [n10]
   exact do_ask h x hF hFC
 by_cases n11:x.k=11
 · unfold actC actN actM actD
   rw [n11]
   exact do_check h x hF hFC
 unfold actC actN actM actD
 rw [if_neg n1,if_neg n2,if_neg n3,if_neg n4,if_neg n5,if_neg n6,if_neg n7,if_neg n8,if_neg n9,if_neg n10,if_neg n11,if_neg n1,if_neg n6,if_neg n8,if_neg n9,if_neg n10,if_neg n1,if_neg n2,if_neg n3,if_neg n4,if_neg n5,if_neg n7,if_neg n8,if_neg n9,if_neg n10,if_neg n11]
 exact do_odd h x hF n1 n2 n3 n4 n5 n6 n7 n8 n9 n10 n11
end Go.Proofs.YtdngbojbpmdegaaGreatDoor
