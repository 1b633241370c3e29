import Derived.Test.YtdngbojbpmdegaaGreatDoorJHostRan
import Derived.Test.YtdngbojbpmdegaaGreatDoorJCreate
import Derived.Test.YtdngbojbpmdegaaGreatDoorJAc
import Derived.Test.YtdngbojbpmdegaaGreatDoorJIdxBase
import Derived.Handy
import Derived.Outline
import Derived.Deep.CutRange
namespace Go.Proofs.YtdngbojbpmdegaaGreatDoor
open Go.RowKit
set_option linter.unusedVariables false
set_option maxRecDepth 100000 in
set_option maxHeartbeats 2000000 in
theorem create_site {n0:Nat} {w:World} {b:Nat} {M:Mv} {C:Cv} (h:Site n0 w b M C) (hF:M.Fits) (ht:Tab w) :
 Calls Tryz.prog 100 #[.pointer (some ⟨b,0,none⟩)] w (DoSaid n0 w b M C (creF M) (creN M) (if creF M=0 then creM M else M) C):=by
 obtain ⟨W1,hW1⟩:∃ W1,Hid (W1=w.alloc (.cells #[.int .i64 0,.int .i64 0] 39)):=⟨_,rfl⟩
 obtain ⟨bw,q1⟩:=al1w w (.cells #[.int .i64 0,.int .i64 0] 39)
 rw [← hW1.out] at bw q1
 have BW:Hid (_):=bw
 have QR:Hid (_):=q1
 have HST:Hid (Site n0 W1 b M C):=h.keep bw
 have c1:=create_any M W1 HST.out.own.at_ hF (ht.below bw)
 obtain ⟨z,hz⟩:∃ z,Hid (z=creF M):=⟨_,rfl⟩
 obtain ⟨n,hn⟩:∃ n,Hid (n=creN M):=⟨_,rfl⟩
 obtain ⟨T,hT⟩:∃ T,Hid (T=creM M):=⟨_,rfl⟩
 obtain ⟨TM,hTM⟩:∃ TM,Hid (TM=if creF M=0 then creM M else M):=⟨_,rfl⟩
 rw [← hTM.out,← hz.out,← hn.out]
 rw [← hz.out,← hT.out] at hTM
 rw [← hz.out,← hn.out,← hT.out] at c1
 unfold Mv.val at c1
 have HBL:Hid (b<w.heap.size):=h.lt
 have OLD:Hid (_):=h
 have s0:=HST.out.c0
 have sf0:=HST.out.fz 0
 have s1:=HST.out.c1
 have sf1:=HST.out.fz 1
 have s2:=HST.out.c2
 have sf2:=HST.out.fz 2
 have sl:=HST.out.lt
 clear h hF ht bw q1 hz hn hT
 go_enter Tryz.func100,Tryz.ntmps100
 go_upto_region 1 with fail
 rw [← hW1.out]
 clear hW1
 go_upto_region 2 with (go_at_call 92;refine c1.mono ?_;clear c1;rintro x w1 ⟨N,rfl,hS,hO,hb⟩;have HS:Hid (_):=hS;have HO:Hid (_):=hO;have HB:Hid (_):=hb;clear hS hO hb)
 obtain ⟨V1,hV1⟩:∃ V1,Hid (V1=w1.alloc (.cells #[.slice N.fa N.frs.length N.fcap,.slice N.ea N.ens.length N.ecap,.slice N.qa N.qus.length N.qcap] 29)):=⟨_,rfl⟩
 obtain ⟨bv,q2⟩:=al1w w1 (.cells #[.slice N.fa N.frs.length N.fcap,.slice N.ea N.ens.length N.ecap,.slice N.qa N.qus.length N.qcap] 29)
 rw [← hV1.out] at bv q2
 rw [← hV1.out]
 have BV:Hid (Below W1.heap.size W1 V1):=HB.out.trans (bv.mono HB.out.size)
 have HST1:Hid (Site n0 V1 b M C):=HST.out.keep BV.out
 have c2:=changed_any HST1.out ((HO.out.below bv).mono HST.out.ge) (fun q=>by have h1:=(Mine.fresh HO.out q).1;have h2:=BW.out.size;have h3:=HBL.out;omega) z
 unfold Mv.val at c2
 have p0:V1.cell? ⟨w1.heap.size,0,none⟩=some (.slice N.fa N.frs.length N.fcap):=by simp [World.cell?,q2]
 have p1:V1.cell? ⟨w1.heap.size,1,none⟩=some (.slice N.ea N.ens.length N.ecap):=by simp [World.cell?,q2]
 have p2:V1.cell? ⟨w1.heap.size,2,none⟩=some (.slice N.qa N.qus.length N.qcap):=by simp [World.cell?,q2]
 have pl:w1.heap.size<V1.heap.size:=lt_of_cell p0
 clear hV1 bv q2 s0 s1 s2 sf0 sf1 sf2 sl
 go_upto_region 3 with (go_at_call 101;refine c2.mono ?_;clear c2;rintro x w2 ⟨M',hM',rfl,hS,hF⟩;have HM' : Hid (_):=hM';have HS2:Hid (_):=hS;have HF2:Hid (_):=hF;clear hM' hS hF)
 obtain ⟨V2,hV2⟩:∃ V2,Hid (V2=w2.alloc (.cells #[.int .i64 z,.int .i64 0] 39)):=⟨_,rfl⟩
 obtain ⟨bv,q3⟩:=al1w w2 (.cells #[.int .i64 z,.int .i64 0] 39)
 rw [← hV2.out] at bv q3
 rw [← hV2.out]
 have HST2:Hid (Site n0 V2 b M' C):=HS2.out.keep bv
 have F2:Hid (Far b w V2):=(((Far.of_below BW.out).trans (Far.of_below BV.out)).trans HF2.out).trans (Far.of_below bv)
 have sz1:=BW.out.size
 have lR:w.heap.size<W1.heap.size:=(Array.getElem?_eq_some_iff.1 QR.out).1
 have sz2:=BV.out.size
 have sz3:=HF2.out.size
 have sz4:=bv.size
 have nb:w.heap.size≠b:=by have:=HBL.out;omega
 have q4:=(bv.block w.heap.size (by omega)).trans ((HF2.out.block w.heap.size (by omega) nb).trans ((BV.out.block w.heap.size lR).trans QR.out))
 have r0:V2.cell? ⟨w.heap.size,0,none⟩=some (.int .i64 0):=by simp [World.cell?,q4]
 have r1:V2.cell? ⟨w.heap.size,1,none⟩=some (.int .i64 0):=by simp [World.cell?,q4]
 have rl:w.heap.size<V2.heap.size:=lt_of_cell r0
 have rf0:=frozen_of_block q4 0
 have rf1:=frozen_of_block q4 1
 have t0:V2.cell? ⟨w2.heap.size,0,none⟩=some (.int .i64 z):=by simp [World.cell?,q3]
 have t1:V2.cell? ⟨w2.heap.size,1,none⟩=some (.int .i64 0):=by simp [World.cell?,q3]
 have tl:w2.heap.size<V2.heap.size:=lt_of_cell t0
 have tf0:=frozen_of_block q3 0
 have tf1:=frozen_of_block q3 1
 have nRT:w.heap.size≠w2.heap.size:=by omega
 have NEW:Hid (¬ (w2.heap.size=b∨Mine M' w2.heap.size∨MineC C w2.heap.size)∧¬ (w.heap.size=b∨Mine M' w.heap.size∨MineC C w.heap.size)):=by
  refine ⟨HS2.out.new (Nat.le_refl _),?_⟩
  rintro (q | q | q)
  · exact nb q
  · rw [HM'.out] at q
    split at q
    · have:=(Mine.fresh HO.out q).1;omega
    · have:=(Mine.fresh (show Owned n0 w M from OLD.out.own) q).2;omega
  · have:=(MineC.fresh (show COwn n0 w C from OLD.out.cown) q).2;omega
 clear hV2 bv q3 q4 p0 p1 p2 pl
 go_wp2
 refine bp_genR fun V9 hV9=>?_
 have s3:=HST2.out.far NEW.out.1 1 (.int .i64 n)
 have F3:Far b w (V2.setCell ⟨w2.heap.size,1,none⟩ (.int .i64 n)):=F2.out.set (.inr (by omega)) 1 _
 have r0':=(cell_offH nRT 1 0 (.int .i64 n)).trans r0
 have r1':=(cell_offH nRT 1 1 (.int .i64 n)).trans r1
 generalize V2.setCell ⟨w2.heap.size,1,none⟩ (.int .i64 n)=V3 at hV9 s3 F3 r0' r1'
 obtain ⟨k9,k0,k1⟩:=s3.ans NEW.out.2 r0' r1' hV9
 have F9:Far b w V9:=by rw [hV9];exact (F3.set (.inr (Nat.le_refl _)) 0 _).set (.inr (Nat.le_refl _)) 1 _
 clear hV9
 (try simp only [Exit.inBlock,Exit.then])
 refine bodyPost_ret (by simp [results,Tryz.results100,go_sem,k0,k1];try rfl) rfl ?_
 refine ⟨M',C,rfl,?_,Cv.Same.refl _,k9,F9,fun c hc q=>?_⟩
 · rw [HM'.out,hTM.out]
   split
   · exact HS.out
   · exact Mv.Same.refl _
 · rcases q with q | q
   · rw [HM'.out] at q
     split at q
     · have h1:=(Mine.fresh HO.out q).1;have h2:=BW.out.size;omega
     · exact .inl q
   · exact .inr q
end Go.Proofs.YtdngbojbpmdegaaGreatDoor

namespace Go.Proofs.YtdngbojbpmdegaaGreatDoor
open Go.RowKit
def tooLong (s:ByteArray):Bool:=decide (1000<(s.size:Int))
def noNonce (n:Int):Bool:=!inB n 0 1
def chF (tr:List ByteArray) (ns:List Int):Int:=if 4<tr.length∨20<ns.length then 1 else if tr.any tooLong || ns.any noNonce then 8 else 0
theorem chF_zero {tr:List ByteArray} {ns:List Int} (h:chF tr ns=0):tr.length≤4∧ns.length≤20∧tr.any tooLong=false∧ns.any noNonce=false:=by
 unfold chF at h
 split at h
 · omega
 · rename_i h1
   split at h
   · omega
   · rename_i h2
     simp only [Bool.or_eq_true,not_or,Bool.not_eq_true] at h2
     exact ⟨by omega,by omega,h2.1,h2.2⟩
set_option maxHeartbeats 400000 in
theorem tooLong_any (s:ByteArray) (w:World):Calls Tryz.prog 82 #[.string s] w fun e w'=>e=.returned (.bool (tooLong s))∧Below w.heap.size w w':=by
 unfold tooLong
 go_enter Tryz.func82,Tryz.ntmps82
 go_wp2
 go_ret
 exact ⟨rfl,Below.refl _ _⟩
theorem noNonce_any (n:Int) (w:World):Calls Tryz.prog 83 #[.int .i64 n] w fun e w'=>e=.returned (.bool (noNonce n))∧Below w.heap.size w w':=by
 have hE:noNonce n=(n != 0 && n != 1):=by
  unfold noNonce inB
  rw [Bool.eq_iff_iff]
  simp
  omega
 rw [hE]
 by_cases h0:n=0
 · subst h0
   go_enter Tryz.func83,Tryz.ntmps83
   go_wp2
   go_ret
   exact ⟨rfl,Below.refl _ _⟩
 · have h1:(n != 0)=true:=by simpa using h0
   rw [h1]
   clear h0 hE
   go_enter Tryz.func83,Tryz.ntmps83
   go_wp2
   go_ret
   exact ⟨rfl,Below.refl _ _⟩
set_option maxHeartbeats 800000 in
theorem tooLong_index (a:Option Addr) (xs:List ByteArray) (cap:Nat) (p:ByteArray→Bool) (w:World) (hl:xs.length≤maxLen) (hx:Texts w a xs)
 (hp:∀ x w',Below w.heap.size w w'→Calls Tryz.prog 82 #[.string x] w' fun e w''=>e=.returned (.bool (p x))∧Below w'.heap.size w' w'') :
 Calls Tryz.prog 120 #[.slice a xs.length cap,.func (.func 82) #[] #[]] w fun e w'=>e=.returned (.int .i64 (idxOf p xs))∧Below w.heap.size w w':=by
 unfold maxLen at hl
 rcases hx with rfl | ⟨b,off,rfl,hc⟩
 · clear hp
   go_enter Tryz.func120,Tryz.ntmps120
   go_wp2
   refine wp_loop_rounds 1 ?_
   rw [rounds_succ]
   go_wp2
   go_ret
   exact ⟨rfl,Below.refl _ _⟩
 · go_enter Tryz.func120,Tryz.ntmps120
   go_wp2
   go_loopw [8] (fun i wr=>∃ k:Nat,k≤xs.length∧i=.int .i64 k∧Below w.heap.size w wr∧Hid (∀ j,j<k→p (xs.getD j default)=false)) (fun i _=>xs.length - (intOf i).toNat)
   case atStart=>exact ⟨0,Nat.zero_le _,rfl,Below.refl _ _,fun j hj=>absurd hj (by omega)⟩
   case round =>
    obtain ⟨k,hk,rfl,hbel,hid⟩:=hrel
    by_cases hlt:k<xs.length
    · have k0:=hc k hlt
      obtain ⟨P,hP⟩:∃ P,xs.getD k default=P:=⟨_,rfl⟩
      rw [hP] at k0
      have HP:Hid (xs.getD k default=P):=hP
      have hcall:=hp P
      clear hP hc hp
      have bl:b<w.heap.size:=lt_of_cell k0
      have l0:wr.cell? ⟨b,off+k,none⟩=some (.string P):=(hbel.cell (p:=⟨b,_,none⟩) bl).trans k0
      clear k0 bl
      obtain ⟨z,hz⟩:∃ z,p P=z:=⟨_,rfl⟩
      rw [hz] at hcall
      have HZ:Hid (p (xs.getD k default)=z):=by rw [HP.out];exact hz
      clear hz
      cases z with
      | false =>
        go_wp2_with (go_at_call 82;refine (hcall _ hbel).mono ?_;rintro e w1 ⟨rfl,hb1⟩)
        go_roundw
        case rel=>exact ⟨k+1,by omega,by go_num,hbel.trans (hb1.mono hbel.size),snoc_false hid HZ.out⟩
        case measure=>simp [intOf];omega
      | true =>
        go_wp2_with (go_at_call 82;refine (hcall _ hbel).mono ?_;rintro e w1 ⟨rfl,hb1⟩)
        go_ret
        exact ⟨ret_int (idxOf_at hlt hid.out HZ.out).symm,hbel.trans (hb1.mono hbel.size)⟩
    · have hkl:k=xs.length:=by omega
      subst hkl
      clear hp hc
      go_wp2
      go_ret
      exact ⟨ret_int (idxOf_none hid.out).symm,hbel⟩
theorem tooLong_contains (a:Option Addr) (xs:List ByteArray) (cap:Nat) (p:ByteArray→Bool) (w:World) (hl:xs.length≤maxLen) (hx:Texts w a xs)
 (hp:∀ x w',Below w.heap.size w w'→Calls Tryz.prog 82 #[.string x] w' fun e w''=>e=.returned (.bool (p x))∧Below w'.heap.size w' w'') :
 Calls Tryz.prog 84 #[.slice a xs.length cap,.func (.func 82) #[] #[]] w fun e w'=>e=.returned (.bool (xs.any p))∧Below w.heap.size w w':=by
 have hI:=tooLong_index a xs cap p w hl hx hp
 have E:=idxOf_any p xs
 generalize idxOf p xs=z at hI E
 rw [← E]
 clear hx hl hp E
 go_enter Tryz.func84,Tryz.ntmps84
 go_wp2_with (go_at_call 120;refine hI.mono ?_;rintro e w' ⟨rfl,hb⟩)
 go_ret
 exact ⟨rfl,hb⟩
set_option maxHeartbeats 800000 in
theorem noNonce_index (a:Option Addr) (xs:List Int) (cap:Nat) (p:Int→Bool) (w:World) (hl:xs.length≤maxLen) (hx:Ints w a xs)
 (hp:∀ x w',Below w.heap.size w w'→Calls Tryz.prog 83 #[.int .i64 x] w' fun e w''=>e=.returned (.bool (p x))∧Below w'.heap.size w' w'') :
 Calls Tryz.prog 121 #[.slice a xs.length cap,.func (.func 83) #[] #[]] w fun e w'=>e=.returned (.int .i64 (idxOf p xs))∧Below w.heap.size w w':=by
 unfold maxLen at hl
 rcases hx with rfl | ⟨b,off,rfl,hc⟩
 · clear hp
   go_enter Tryz.func121,Tryz.ntmps121
   go_wp2
   refine wp_loop_rounds 1 ?_
   rw [rounds_succ]
   go_wp2
   go_ret
   exact ⟨rfl,Below.refl _ _⟩
 · go_enter Tryz.func121,Tryz.ntmps121
   go_wp2
   go_loopw [8] (fun i wr=>∃ k:Nat,k≤xs.length∧i=.int .i64 k∧Below w.heap.size w wr∧Hid (∀ j,j<k→p (xs.getD j default)=false)) (fun i _=>xs.length - (intOf i).toNat)
   case atStart=>exact ⟨0,Nat.zero_le _,rfl,Below.refl _ _,fun j hj=>absurd hj (by omega)⟩
   case round =>
    obtain ⟨k,hk,rfl,hbel,hid⟩:=hrel
    by_cases hlt:k<xs.length
    · have k0:=hc k hlt
      obtain ⟨P,hP⟩:∃ P,xs.getD k 0=P:=⟨_,rfl⟩
      rw [hP] at k0
      have HP:Hid (xs.getD k default=P):=hP
      have hcall:=hp P
      clear hP hc hp
      have bl:b<w.heap.size:=lt_of_cell k0
      have l0:wr.cell? ⟨b,off+k,none⟩=some (.int .i64 P):=(hbel.cell (p:=⟨b,_,none⟩) bl).trans k0
      clear k0 bl
      obtain ⟨z,hz⟩:∃ z,p P=z:=⟨_,rfl⟩
      rw [hz] at hcall
      have HZ:Hid (p (xs.getD k default)=z):=by rw [HP.out];exact hz
      clear hz
      cases z with
      | false =>
        go_wp2_with (go_at_call 83;refine (hcall _ hbel).mono ?_;rintro e w1 ⟨rfl,hb1⟩)
        go_roundw
        case rel=>exact ⟨k+1,by omega,by go_num,hbel.trans (hb1.mono hbel.size),snoc_false hid HZ.out⟩
        case measure=>simp [intOf];omega
      | true =>
        go_wp2_with (go_at_call 83;refine (hcall _ hbel).mono ?_;rintro e w1 ⟨rfl,hb1⟩)
        go_ret
        exact ⟨ret_int (idxOf_at hlt hid.out HZ.out).symm,hbel.trans (hb1.mono hbel.size)⟩
    · have hkl:k=xs.length:=by omega
      subst hkl
      clear hp hc
      go_wp2
      go_ret
      exact ⟨ret_int (idxOf_none hid.out).symm,hbel⟩
theorem noNonce_contains (a:Option Addr) (xs:List Int) (cap:Nat) (p:Int→Bool) (w:World) (hl:xs.length≤maxLen) (hx:Ints w a xs)
 (hp:∀ x w',Below w.heap.size w w'→Calls Tryz.prog 83 #[.int .i64 x] w' fun e w''=>e=.returned (.bool (p x))∧Below w'.heap.size w' w'') :
 Calls Tryz.prog 85 #[.slice a xs.length cap,.func (.func 83) #[] #[]] w fun e w'=>e=.returned (.bool (xs.any p))∧Below w.heap.size w w':=by
 have hI:=noNonce_index a xs cap p w hl hx hp
 have E:=idxOf_any p xs
 generalize idxOf p xs=z at hI E
 rw [← E]
 clear hx hl hp E
 go_enter Tryz.func85,Tryz.ntmps85
 go_wp2_with (go_at_call 121;refine hI.mono ?_;rintro e w' ⟨rfl,hb⟩)
 go_ret
 exact ⟨rfl,hb⟩
theorem box2 {x v:World} {a b:Value} {t:TypeId} (h:Below (x.alloc (.cells #[a,b] t)).heap.size (x.alloc (.cells #[a,b] t)) v) :
 v.cell? ⟨x.heap.size,0,none⟩=some a∧v.cell? ⟨x.heap.size,1,none⟩=some b∧x.heap.size<v.heap.size:=by
 refine ⟨(h.cell (p:=⟨x.heap.size,0,none⟩) (by simp)).trans ?_,(h.cell (p:=⟨x.heap.size,1,none⟩) (by simp)).trans ?_,by have:=h.size;simp at this;omega⟩
 · rw [World.cell?_alloc_at _ _ _ _ rfl];rfl
 · rw [World.cell?_alloc_at _ _ _ _ rfl];rfl
set_option maxRecDepth 100000 in
set_option maxHeartbeats 1600000 in
theorem checkC_any (C:Cv) (w:World) (hC:ChalAt w C) :
 Calls Tryz.prog 29 #[C.val] w fun x w'=>x=.returned (.int .i64 (chF C.tr C.ns))∧Below w.heap.size w w':=by
 have h1:=fun w' (h:Below w.heap.size w w')=>tooLong_contains C.ta C.tr C.tcap tooLong w' hC.ok.trl (hC.tr.below h) (fun s w'' _=>tooLong_any s w'')
 have h2:=fun w' (h:Below w.heap.size w w')=>noNonce_contains C.na C.ns C.ncap noNonce w' hC.ok.nsl (hC.ns.below h) (fun s w'' _=>noNonce_any s w'')
 have B1:∀ o,Hid (Below w.heap.size w (w.alloc o)):=fun o=>(Below.refl _ _).alloc (Nat.le_refl _) _
 have hl1:=hC.ok.trl
 have hl2:=hC.ok.nsl
 unfold maxLen at hl1 hl2
 unfold Cv.val chF
 clear hC
 obtain ⟨ta,tr,tcap,na,ns,ncap⟩:=C
 dsimp only at *
 by_cases k1:4<tr.length
 · rw [if_pos (.inl k1)]
   clear h1 h2
   go_enter Tryz.func29,Tryz.ntmps29
   go_wp2
   go_ret
   exact ⟨rfl,(B1 _).out⟩
 · by_cases k2:20<ns.length
   · rw [if_pos (.inr k2)]
     clear h1 h2
     go_enter Tryz.func29,Tryz.ntmps29
     go_wp2
     go_ret
     exact ⟨rfl,(B1 _).out⟩
   · rw [if_neg (by omega)]
     generalize tr.any tooLong=z1 at h1
     generalize ns.any noNonce=z2 at h2
     cases z1 with
     | true =>
       clear h2
       go_enter Tryz.func29,Tryz.ntmps29
       go_wp2_with (go_at_call 84;refine (h1 _ (B1 _).out).mono ?_;rintro x w1 ⟨rfl,hb1⟩)
       go_ret
       exact ⟨rfl,(B1 _).out.trans (hb1.mono (by simp))⟩
     | false =>
       cases z2
       all_goals
        go_enter Tryz.func29,Tryz.ntmps29
        go_wp2_with (first
         | (go_at_call 84;refine (h1 _ (B1 _).out).mono ?_;rintro x w1 ⟨rfl,hb1⟩;obtain ⟨m0,m1,ml⟩:=box2 hb1;have HB1:Hid (Below w.heap.size w w1):=(B1 _).out.trans (hb1.mono (by simp));clear hb1)
         | (go_at_call 85;refine (h2 _ HB1.out).mono ?_;rintro x w2 ⟨rfl,hb2⟩)
         | fail)
        go_ret
        exact ⟨rfl,HB1.out.trans (hb2.mono HB1.out.size)⟩
theorem any_at {α:Type} [Inhabited α] {p:α→Bool} {xs:List α} {k:Nat} (hk:k<xs.length) (hg:p (xs.getD k default)=true):xs.any p=true:=
 List.any_eq_true.2 ⟨_,List.getElem_mem hk,by simpa [List.getD_eq_getElem?_getD,hk] using hg⟩
theorem any_none {α:Type} [Inhabited α] {p:α→Bool} {xs:List α} (h:∀ j,j<xs.length→p (xs.getD j default)=false):xs.any p=false:=by
 rw [List.any_eq_false]
 intro x hx
 obtain ⟨i,hi,rfl⟩:=List.getElem_of_mem hx
 have:=h i hi
 simp [List.getD_eq_getElem?_getD,hi] at this
 simp [this]
set_option maxRecDepth 100000 in
set_option maxHeartbeats 1600000 in
theorem faultC_any (C:Cv) (w:World) (hC:ChalAt w C) :
 Calls Tryz.prog 44 #[C.val] w fun x w'=>x=.returned (.int .i64 (chF C.tr C.ns))∧Below w.heap.size w w':=by
 obtain ⟨z,hz⟩:∃ z,Hid (chF C.tr C.ns=z):=⟨_,rfl⟩
 rw [hz.out]
 have hl1:=hC.ok.trl
 have hl2:=hC.ok.nsl
 unfold maxLen at hl1 hl2
 have hT:=hC.tr
 have hN:=hC.ns
 unfold Cv.val
 clear hC
 obtain ⟨ta,tr,tcap,na,ns,ncap⟩:=C
 dsimp only at *
 obtain ⟨W2,hW2⟩:∃ W2,Hid (W2=w.alloc (.cells #[.slice ta tr.length tcap,.slice na ns.length ncap] 32)):=⟨_,rfl⟩
 have HBW:Hid (Below w.heap.size w W2):=by show Below _ _ _;rw [hW2.out];exact (Below.refl _ _).alloc (Nat.le_refl _) _
 have p0:W2.cell? ⟨w.heap.size,0,none⟩=some (.slice ta tr.length tcap):=by rw [hW2.out,World.cell?_alloc_at _ _ _ _ rfl];rfl
 have p1:W2.cell? ⟨w.heap.size,1,none⟩=some (.slice na ns.length ncap):=by rw [hW2.out,World.cell?_alloc_at _ _ _ _ rfl];rfl
 replace hT:=hT.below HBW.out
 replace hN:=hN.below HBW.out
 by_cases k1:4<tr.length
 · obtain rfl:z=1:=by rw [← hz.out];unfold chF;rw [if_pos (.inl k1)]
   clear hT hN hz
   go_enter Tryz.func44,Tryz.ntmps44
   go_upto_region 1 with fail
   rw [← hW2.out]
   go_wp2
   go_ret
   exact ⟨rfl,HBW.out⟩
 · by_cases k2:20<ns.length
   · obtain rfl:z=1:=by rw [← hz.out];unfold chF;rw [if_pos (.inr k2)]
     clear hT hN hz
     go_enter Tryz.func44,Tryz.ntmps44
     go_upto_region 1 with fail
     rw [← hW2.out]
     go_wp2
     go_ret
     exact ⟨rfl,HBW.out⟩
   · have HZ:Hid (z=if tr.any tooLong || ns.any noNonce then 8 else 0):=by show z=_;rw [← hz.out];unfold chF;rw [if_neg (by omega)]
     clear hz
     go_enter Tryz.func44,Tryz.ntmps44
     go_upto_region 1 with fail
     rw [← hW2.out]
     go_wp2
     go_loop [3] (fun i=>∃ k:Nat,k≤tr.length∧i=.int .i64 k∧Hid (∀ j,j<k→tooLong (tr.getD j default)=false)) (fun i=>tr.length - (intOf i).toNat)
     case atStart=>exact ⟨0,Nat.zero_le _,rfl,fun j hj=>absurd hj (by omega)⟩
     case round =>
      obtain ⟨k,hk,rfl,hid⟩:=hrel
      by_cases hlt:k<tr.length
      · rcases hT with rfl | ⟨b,off,rfl,hc⟩
        · simp at hlt
        · have k0:=hc k hlt
          obtain ⟨P,hP⟩:∃ P,tr.getD k default=P:=⟨_,rfl⟩
          rw [hP] at k0
          have HP:Hid (tr.getD k default=P):=hP
          clear hP hc hN
          by_cases hs:1000<(P.size:Int)
          · have HT:Hid (tooLong (tr.getD k default)=true):=by show _=_;rw [HP.out];simp [tooLong,hs]
            go_wp2
            go_ret
            refine ⟨ret_int ?_,HBW.out⟩
            rw [HZ.out,any_at hlt HT.out];rfl
          · have HT:Hid (tooLong (tr.getD k default)=false):=by show _=_;rw [HP.out];simp [tooLong,hs]
            go_wp2
            go_round
            case rel=>exact ⟨k+1,by omega,by go_num,snoc_false hid HT.out⟩
            case measure=>simp [intOf];omega
      · have hkl:k=tr.length:=by omega
        subst hkl
        have HZ2:Hid (z=if ns.any noNonce then 8 else 0):=by show z=_;rw [HZ.out,any_none hid.out];simp
        clear HZ hid
        go_wp2
        go_loop [4] (fun i=>∃ k:Nat,k≤ns.length∧i=.int .i64 k∧Hid (∀ j,j<k→noNonce (ns.getD j default)=false)) (fun i=>ns.length - (intOf i).toNat)
        case atStart=>exact ⟨0,Nat.zero_le _,rfl,fun j hj=>absurd hj (by omega)⟩
        case round =>
         obtain ⟨k,hk,rfl,hid⟩:=hrel
         by_cases hlt:k<ns.length
         · rcases hN with rfl | ⟨b,off,rfl,hc⟩
           · simp at hlt
           · have k0:=hc k hlt
             obtain ⟨P,hP⟩:∃ P,ns.getD k 0=P:=⟨_,rfl⟩
             rw [hP] at k0
             have HP:Hid (ns.getD k default=P):=hP
             clear hP hc hT
             cases hs:inB P 0 1 with
             | false =>
               have HT:Hid (noNonce (ns.getD k default)=true):=by show _=_;rw [HP.out];simp [noNonce,hs]
               go_wp2_with (go_at_call 56;refine (in_any _ _ _ _).mono ?_;rintro e w' ⟨rfl,rfl⟩)
               go_ret
               refine ⟨ret_int ?_,HBW.out⟩
               rw [HZ2.out,any_at hlt HT.out];rfl
             | true =>
               have HT:Hid (noNonce (ns.getD k default)=false):=by show _=_;rw [HP.out];simp [noNonce,hs]
               go_wp2_with (go_at_call 56;refine (in_any _ _ _ _).mono ?_;rintro e w' ⟨rfl,rfl⟩)
               go_round
               case rel=>exact ⟨k+1,by omega,by go_num,snoc_false hid HT.out⟩
               case measure=>simp [intOf];omega
         · have hkl:k=ns.length:=by omega
           subst hkl
           go_wp2
           go_ret
           refine ⟨ret_int ?_,HBW.out⟩
           rw [HZ2.out,any_none hid.out];rfl
end Go.Proofs.YtdngbojbpmdegaaGreatDoor

namespace Go.Proofs.YtdngbojbpmdegaaGreatDoor
open Go.RowKit
theorem bp_gen {P:Program} {f:Func} {Q:Ending→World→Prop} {ex:Exit} {a:Act} {W:World} (h:∀ W9,W9=W→bodyPost P f Q ex a W9):bodyPost P f Q ex a W:=h W rfl
theorem row_made {n0 g cap n:Nat} {w:World} {e:TypeId} {xs zs:List Value} (hn:n0≤g) (hg:w.heap[g]? = some (.cells (xs ++ zs).toArray e (0,0))) (hx:xs.length=n) (hc:n≤cap∧(xs ++ zs).length=cap * 1∧cap≤maxLen):w.ownsRow n0 e 1 (.slice (some ⟨g,0,none⟩) n cap) n xs:=
 row_of_block hn hg hx hc.1 hc.2.2 (by have:=hc.2.1;omega)
def sets (W:World) (R:Nat) (v0 v1:Value):World:=(W.setCell ⟨R,0,none⟩ v0).setCell ⟨R,1,none⟩ v1
theorem sets_size (W:World) (R:Nat) (v0 v1:Value):(sets W R v0 v1).heap.size=W.heap.size:=by simp [sets,World.setCell]
theorem sets_cells {W:World} {R:Nat} {v0 v1 x0 x1:Value} (h0:W.cell? ⟨R,0,none⟩=some x0) (h1:W.cell? ⟨R,1,none⟩=some x1):(sets W R v0 v1).cell? ⟨R,0,none⟩=some v0∧(sets W R v0 v1).cell? ⟨R,1,none⟩=some v1:=by
 refine ⟨?_,?_⟩
 · unfold sets
   rw [World.cell?_setCell_other _ _ _ _ (by simp)]
   exact World.cell?_setCell_same _ _ _ h0
 · exact World.cell?_setCell_same _ _ _ ((World.cell?_setCell_other _ _ _ _ (by simp)).trans h1)
theorem blk2 {w:World} {b:Nat} {v0 v1 x0 x1:Value} (h0:w.cell? ⟨b,0,none⟩=some x0) (h1:w.cell? ⟨b,1,none⟩=some x1) :
 ((w.setCell ⟨b,0,none⟩ v0).setCell ⟨b,1,none⟩ v1).cell? ⟨b,0,none⟩=some v0∧((w.setCell ⟨b,0,none⟩ v0).setCell ⟨b,1,none⟩ v1).cell? ⟨b,1,none⟩=some v1:=sets_cells h0 h1
theorem sets_below {w W:World} {B R:Nat} {v0 v1:Value} (hR:B≤R) (h:Below B w W):Below B w (sets W R v0 v1):=(h.setCell (by simpa using hR) _).setCell (by simpa using hR) _
theorem two0 {w W W9:World} {R:Nat} {v0 v1 x0 x1:Value} (hR:w.heap.size≤R) (h0:W.cell? ⟨R,0,none⟩=some x0) (h1:W.cell? ⟨R,1,none⟩=some x1) (hb:Below w.heap.size w W) (h9:W9=(sets W R v0 v1).drew) :
 W9.cell? ⟨R,0,none⟩=some v0∧W9.cell? ⟨R,1,none⟩=some v1∧Below w.heap.size w W9:=by
 subst h9
 exact ⟨(sets_cells h0 h1).1,(sets_cells h0 h1).2,(sets_below hR hb).drew⟩
theorem two1 {w W W9:World} {R:Nat} {v0 v1 x0 x1:Value} {o1:Obj} (hR:w.heap.size≤R) (h0:W.cell? ⟨R,0,none⟩=some x0) (h1:W.cell? ⟨R,1,none⟩=some x1) (hb:Below w.heap.size w W) (h9:W9=((sets W R v0 v1).alloc o1).drew.drew) :
 W9.cell? ⟨R,0,none⟩=some v0∧W9.cell? ⟨R,1,none⟩=some v1∧W9.heap[W.heap.size]? = some o1∧Below w.heap.size w W9:=by
 subst h9
 have lt:R<(sets W R v0 v1).heap.size:=by rw [sets_size];exact lt_of_cell h0
 refine ⟨(World.cell?_alloc_past _ _ _ lt).trans (sets_cells h0 h1).1,(World.cell?_alloc_past _ _ _ lt).trans (sets_cells h0 h1).2,?_,(((sets_below hR hb).alloc (by rw [sets_size];exact hb.size) _).drew).drew⟩
 have:=a11 (sets W R v0 v1) o1
 rw [sets_size] at this
 exact this
theorem two2 {w W W9:World} {R:Nat} {v0 v1 x0 x1:Value} {o1 o2:Obj} (hR:w.heap.size≤R) (h0:W.cell? ⟨R,0,none⟩=some x0) (h1:W.cell? ⟨R,1,none⟩=some x1) (hb:Below w.heap.size w W) (h9:W9=(((sets W R v0 v1).alloc o1).alloc o2).drew.drew.drew) :
 W9.cell? ⟨R,0,none⟩=some v0∧W9.cell? ⟨R,1,none⟩=some v1∧W9.heap[W.heap.size]? = some o1∧W9.heap[W.heap.size+1]? = some o2∧Below w.heap.size w W9:=by
 subst h9
 have lt:R<(sets W R v0 v1).heap.size:=by rw [sets_size];exact lt_of_cell h0
 refine ⟨(World.cell?_alloc_past _ _ _ (by simp;omega)).trans ((World.cell?_alloc_past _ _ _ lt).trans (sets_cells h0 h1).1),(World.cell?_alloc_past _ _ _ (by simp;omega)).trans ((World.cell?_alloc_past _ _ _ lt).trans (sets_cells h0 h1).2),?_,?_,((((sets_below hR hb).alloc (by rw [sets_size];exact hb.size) _).alloc (by have:=hb.size;simp [sets_size];omega) _).drew.drew).drew⟩
 · have:=a21 (sets W R v0 v1) o1 o2
   rw [sets_size] at this
   exact this
 · have:=a22 (sets W R v0 v1) o1 o2
   rw [sets_size] at this
   exact this
set_option maxRecDepth 100000 in
set_option maxHeartbeats 4000000 in
theorem ccopy_any (C:Cv) (w:World) (hC:ChalAt w C) (hF:C.Fits) :
 Calls Tryz.prog 59 #[C.val] w fun e w'=>∃ N:Cv,e=.returned N.val∧N.Same C∧COwn w.heap.size w' N∧Below w.heap.size w w':=by
 have hl1:=hC.ok.trl
 have hl2:=hC.ok.nsl
 unfold maxLen at hl1 hl2
 obtain ⟨iE,hiE,hzE⟩:=Option.map_eq_some_iff.1 info_s
 simp only [Prod.mk.injEq] at hzE
 obtain ⟨zE,sE,bE⟩:=hzE
 obtain ⟨iQ,hiQ,hzQ⟩:=Option.map_eq_some_iff.1 info_n
 simp only [Prod.mk.injEq] at hzQ
 obtain ⟨zQ,sQ,bQ⟩:=hzQ
 have IE:Hid (_):=hiE
 have ZE:Hid (_):=zE
 have SE:Hid (_):=sE
 have YE:Hid (_):=bE
 have IQ:Hid (_):=hiQ
 have ZQ:Hid (_):=zQ
 have SQ:Hid (_):=sQ
 have YQ:Hid (_):=bQ
 clear hiE zE sE bE hiQ zQ sQ bQ
 obtain ⟨ta,tr,tcap,na,ns,ncap⟩:=C
 unfold Cv.val
 have HFE:Hid (_):=hF.tr
 have HFQ:Hid (_):=hF.ns
 have HOK:Hid (_):=hC.ok
 dsimp only at *
 obtain ⟨W2,hW2⟩:∃ W2,Hid (W2=(w.alloc (.cells #[.slice ta tr.length tcap,.slice na ns.length ncap] 32)).alloc (.cells #[.slice none 0 0,.slice none 0 0] 32)):=⟨_,rfl⟩
 have BW:Hid (Below w.heap.size w W2):=by show Below _ _ _;rw [hW2.out];exact ((Below.refl _ _).alloc (Nat.le_refl _) _).alloc (by simp) _
 have hM2:=hC.below BW.out
 have p0:W2.cell? ⟨w.heap.size,0,none⟩=some (.slice ta tr.length tcap):=by rw [hW2.out,World.cell?_alloc_past _ _ _ (by simp),World.cell?_alloc_at _ _ _ _ rfl];rfl
 have p1:W2.cell? ⟨w.heap.size,1,none⟩=some (.slice na ns.length ncap):=by rw [hW2.out,World.cell?_alloc_past _ _ _ (by simp),World.cell?_alloc_at _ _ _ _ rfl];rfl
 have v0:W2.cell? ⟨w.heap.size+1,0,none⟩=some (.slice none 0 0):=by rw [hW2.out,World.cell?_alloc_at _ _ _ _ (by simp)];rfl
 have v1:W2.cell? ⟨w.heap.size+1,1,none⟩=some (.slice none 0 0):=by rw [hW2.out,World.cell?_alloc_at _ _ _ _ (by simp)];rfl
 have vf0:W2.frozen? ⟨w.heap.size+1,0,none⟩=false:=by rw [hW2.out];exact World.frozen?_alloc_at _ _ _ _ (by simp)
 have vf1:W2.frozen? ⟨w.heap.size+1,1,none⟩=false:=by rw [hW2.out];exact World.frozen?_alloc_at _ _ _ _ (by simp)
 have RE:Hid (RowsAt W2 1 tcell ta tr):=texts_rows hM2.tr
 have RQ:Hid (RowsAt W2 1 (fun n:Int=>[Value.int .i64 n]) na ns):=ints_rows hM2.ns
 have s2:w.heap.size<W2.heap.size:=lt_of_cell p0
 have s3:w.heap.size<W2.heap.size+1:=by omega
 have s4:w.heap.size<W2.heap.size+1+1:=by omega
 have t2:w.heap.size+1<W2.heap.size:=lt_of_cell v0
 have t3:w.heap.size+1<W2.heap.size+1:=by omega
 have t4:w.heap.size+1<W2.heap.size+1+1:=by omega
 clear hC hM2 hF
 go_enter Tryz.func59,Tryz.ntmps59
 go_upto_region 1 with fail
 rw [← hW2.out]
 by_cases he:tr = []
 · subst he
   by_cases hq:ns = []
   · subst hq
     simp only [List.length_nil] at *
     go_region_law (first
      | (refine step_append_none rfl (.tmp 4) 22 rfl 9 iE Tryz.underlying22 IE.out ta tcap (by simp [Act.eval]) ?_)
      | (refine step_append_none rfl (.tmp 7) 30 rfl 3 iQ Tryz.underlying30 IQ.out na ncap (by simp [Act.eval]) ?_)
      | fail)
     all_goals
      go_wp2_with fail
      refine bp_gen fun W9 hW9=>?_
      obtain ⟨k0,k1,bb⟩:=two0 (by simp) v0 v1 BW.out hW9
      (try simp only [Exit.inBlock,Exit.then])
      refine bodyPost_ret (by simp [results,Tryz.results59,go_sem,k0,k1];try rfl) rfl ?_
      exact ⟨⟨none,[],0,none,[],0⟩,rfl,⟨rfl,rfl⟩,⟨World.ownsRow_nil _ _ _ _,World.ownsRow_nil _ _ _ _,off_none,HOK.out.same ⟨rfl,rfl⟩⟩,bb⟩
   · simp only [List.length_nil] at *
     go_region_law (first
      | (refine step_append_none rfl (.tmp 4) 22 rfl 9 iE Tryz.underlying22 IE.out ta tcap (by simp [Act.eval]) ?_)
      | (refine step_append_new (cells:=fun n:Int=>[Value.int .i64 n]) (c:=1) (fun _=>rfl) (by omega) rfl (.tmp 7) 30 rfl 3 iQ _ 8 Tryz.underlying30 IQ.out ZQ.out SQ.out YQ.out na ncap ns (by simp [Act.eval]) W2 RQ.out (by repeat (first | exact Below.refl _ _ | refine Below.drew ?_ | refine Below.alloc ?_ (by simp) _ | refine Below.alloc ?_ (by simp;omega) _)) hq (by omega) HFQ.out rfl (fun q v hv=>by simp at hv;subst hv;rfl) (by first | assumption | (unfold maxLen;omega)) ?_;intro capQ zsQ hcQ)
      | fail)
     all_goals
      go_wp2_with fail
      rw [wvals_flat] at hcQ
      (try rw [wvals_flat])
      refine bp_gen fun W9 hW9=>?_
      obtain ⟨k0,k1,b1,bb⟩:=two1 (by simp) v0 v1 BW.out hW9
      (try simp only [Exit.inBlock,Exit.then])
      refine bodyPost_ret (by simp [results,Tryz.results59,go_sem,k0,k1];try rfl) rfl ?_
      exact ⟨⟨none,[],0,_,ns,capQ⟩,rfl,⟨rfl,rfl⟩,⟨World.ownsRow_nil _ _ _ _,by first | exact row_made (by omega) b1 (wvals_len _) hcQ,off_none,HOK.out.same ⟨rfl,rfl⟩⟩,bb⟩
 · by_cases hq:ns = []
   · subst hq
     simp only [List.length_nil] at *
     go_region_law (first
      | (refine step_append_new (cells:=tcell) (c:=1) (fun _=>rfl) (by omega) rfl (.tmp 4) 22 rfl 9 iE _ 16 Tryz.underlying22 IE.out ZE.out SE.out YE.out ta tcap tr (by simp [Act.eval]) W2 RE.out (by repeat (first | exact Below.refl _ _ | refine Below.drew ?_ | refine Below.alloc ?_ (by simp) _ | refine Below.alloc ?_ (by simp;omega) _)) he (by omega) HFE.out rfl tcell_one (by first | assumption | (unfold maxLen;omega)) ?_;intro capE zsE hcE)
      | (refine step_append_none rfl (.tmp 7) 30 rfl 3 iQ Tryz.underlying30 IQ.out na ncap (by simp [Act.eval]) ?_)
      | fail)
     all_goals
      go_wp2_with fail
      refine bp_gen fun W9 hW9=>?_
      obtain ⟨k0,k1,b1,bb⟩:=two1 (by simp) v0 v1 BW.out hW9
      (try simp only [Exit.inBlock,Exit.then])
      refine bodyPost_ret (by simp [results,Tryz.results59,go_sem,k0,k1];try rfl) rfl ?_
      exact ⟨⟨_,tr,capE,none,[],0⟩,rfl,⟨rfl,rfl⟩,⟨by first | exact row_made (by omega) b1 (texts_len _) hcE,World.ownsRow_nil _ _ _ _,none_off,HOK.out.same ⟨rfl,rfl⟩⟩,bb⟩
   · skip
     go_region_law (first
      | (refine step_append_new (cells:=tcell) (c:=1) (fun _=>rfl) (by omega) rfl (.tmp 4) 22 rfl 9 iE _ 16 Tryz.underlying22 IE.out ZE.out SE.out YE.out ta tcap tr (by simp [Act.eval]) W2 RE.out (by repeat (first | exact Below.refl _ _ | refine Below.drew ?_ | refine Below.alloc ?_ (by simp) _ | refine Below.alloc ?_ (by simp;omega) _)) he (by omega) HFE.out rfl tcell_one (by first | assumption | (unfold maxLen;omega)) ?_;intro capE zsE hcE)
      | (refine step_append_new (cells:=fun n:Int=>[Value.int .i64 n]) (c:=1) (fun _=>rfl) (by omega) rfl (.tmp 7) 30 rfl 3 iQ _ 8 Tryz.underlying30 IQ.out ZQ.out SQ.out YQ.out na ncap ns (by simp [Act.eval]) W2 RQ.out (by repeat (first | exact Below.refl _ _ | refine Below.drew ?_ | refine Below.alloc ?_ (by simp) _ | refine Below.alloc ?_ (by simp;omega) _)) hq (by omega) HFQ.out rfl (fun q v hv=>by simp at hv;subst hv;rfl) (by first | assumption | (unfold maxLen;omega)) ?_;intro capQ zsQ hcQ)
      | fail)
     all_goals
      go_wp2_with fail
      rw [wvals_flat] at hcQ
      (try rw [wvals_flat])
      refine bp_gen fun W9 hW9=>?_
      obtain ⟨k0,k1,b1,b2,bb⟩:=two2 (by simp) v0 v1 BW.out hW9
      (try simp only [Exit.inBlock,Exit.then])
      refine bodyPost_ret (by simp [results,Tryz.results59,go_sem,k0,k1];try rfl) rfl ?_
      exact ⟨⟨_,tr,capE,_,ns,capQ⟩,rfl,⟨rfl,rfl⟩,⟨by first | exact row_made (by omega) b1 (texts_len _) hcE | exact row_made (by omega) b2 (texts_len _) hcE,by first | exact row_made (by omega) b1 (wvals_len _) hcQ | exact row_made (by omega) b2 (wvals_len _) hcQ,off_some (by omega),HOK.out.same ⟨rfl,rfl⟩⟩,bb⟩
end Go.Proofs.YtdngbojbpmdegaaGreatDoor
