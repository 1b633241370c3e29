import Derived.Test.YtdngbojbpmdegaaGreatDoorRefFault
import Derived.Test.YtdngbojbpmdegaaGreatDoorJOpenCells
import Derived.Deep.QuietTactic
import Derived.BigQuiet
import Derived.Test.YtdngbojbpmdegaaGreatDoorJIdxBase
namespace Go.Proofs.YtdngbojbpmdegaaGreatDoor
open Go.RowKit
theorem machF_sizes {M:Mv} (h:machF M=0):M.frs.length=24∧M.ens.length=4∧M.qus.length≤40:=by
 unfold machF at h
 split at h
 · assumption
 · simp at h
theorem machF_all {M:Mv} (h:machF M=0):M.ens.all En.good=true∧(List.range 24).all (frOk M.ens M.frs)=true∧M.qus.all Qu.good=true:=by
 obtain ⟨s1,s2,s3⟩:=machF_sizes h
 rw [machF_eq s1 s2 s3] at h
 split at h
 · rename_i hh
   simp only [Bool.and_eq_true] at hh
   exact ⟨hh.1.1,hh.1.2,hh.2⟩
 · simp at h
theorem machF_frame {M:Mv} (h:machF M=0) {j:Nat} (hj:j<24):Fr.good M.ens (M.frs.getD j default)=true:=by
 have:=List.all_eq_true.1 (machF_all h).2.1 j (by simpa using hj)
 unfold frOk at this
 rw [Bool.and_eq_true] at this
 exact this.1
theorem machF_words {M:Mv} (h:machF M=0) {j:Nat} (hj:j<24):(M.frs.getD j default).ws.length=8∧mayW (M.frs.getD j default).ws=true∧inB (M.frs.getD j default).o 0 4=true:=by
 have hg:=machF_frame h hj
 generalize M.frs.getD j default=P at hg
 obtain ⟨o,fat,r,fa,ws,fcap⟩:=P
 rw [good_eq] at hg
 simp only [Bool.and_eq_true] at hg
 exact ⟨(mayW_iff.1 hg.1.1.1.1).1,hg.1.1.1.1,hg.1.1.1.2⟩
theorem isFrameNumber_any (n:Int) (w:World):Calls Tryz.prog 129 #[.int .i64 n] w fun e w'=>e=.returned (.bool (inB n 0 23))∧w=w':=by
 by_cases h1:0≤n
 · by_cases h2:n<24
   · rw [inB_true h1 (by omega)]
     go_enter Tryz.func129,Tryz.ntmps129
     go_wp2
     go_ret
     exact ⟨rfl,rfl⟩
   · rw [inB_high (by omega)]
     go_enter Tryz.func129,Tryz.ntmps129
     go_wp2
     go_ret
     exact ⟨rfl,rfl⟩
 · rw [inB_low h1]
   go_enter Tryz.func129,Tryz.ntmps129
   go_wp2
   go_ret
   exact ⟨rfl,rfl⟩
def wordF (M:Mv) (f at_:Int):Int:=if machF M=0 then (if inB f 0 23 && inB at_ 0 7 then 0 else 2) else machF M
theorem wordF_zero {M:Mv} {f at_:Int} (h:wordF M f at_=0):machF M=0∧inB f 0 23=true∧inB at_ 0 7=true:=by
 unfold wordF at h
 split at h
 · rename_i hz
   split at h
   · rename_i hh
     simp only [Bool.and_eq_true] at hh
     exact ⟨hz,hh.1,hh.2⟩
   · simp at h
 · rename_i hz
   exact absurd h hz
theorem checkWord_any (M:Mv) (f at_:Int) (w:World) (hM:MachAt w M) :
 Calls Tryz.prog 132 #[M.val,.int .i64 f,.int .i64 at_] w fun x w'=>x=.returned (.int .i64 (wordF M f at_))∧Below w.heap.size w w':=by
 have h1:=fun w' (h:Below w.heap.size w w')=>checkM_any M w' (hM.below h)
 have h2:=fun w'=>isFrameNumber_any f w'
 have B1:∀ o,Hid (Below w.heap.size w (w.alloc o)):=fun o=>(Below.refl _ _).alloc (Nat.le_refl _) _
 have HX:∀ o w1,Hid (Below (w.alloc o).heap.size (w.alloc o) w1→Below w.heap.size w w1):=fun o w1 h=>(B1 o).out.trans (h.mono (by simp))
 unfold wordF
 unfold Mv.val at *
 clear hM
 generalize machF M=z at h1 ⊢
 by_cases hz:z=0
 · subst hz
   rw [if_pos rfl]
   cases hf:inB f 0 23 with
   | false =>
     rw [hf] at h2
     go_enter Tryz.func132,Tryz.ntmps132
     go_wp2_with (first | (go_at_call 28;refine (h1 _ (B1 _).out).mono ?_;rintro x w1 ⟨rfl,hb1⟩) | (go_at_call 129;refine (h2 _).mono ?_;rintro x w2 ⟨rfl,rfl⟩) | fail)
     go_ret
     exact ⟨rfl,(HX _ _).out hb1⟩
   | true =>
     rw [hf] at h2
     by_cases c1:at_<0
     · rw [inB_low (show ¬ 0≤at_ by omega)]
       go_enter Tryz.func132,Tryz.ntmps132
       go_wp2_with (first | (go_at_call 28;refine (h1 _ (B1 _).out).mono ?_;rintro x w1 ⟨rfl,hb1⟩) | (go_at_call 129;refine (h2 _).mono ?_;rintro x w2 ⟨rfl,rfl⟩) | fail)
       go_ret
       exact ⟨rfl,(HX _ _).out hb1⟩
     · by_cases c2:8≤at_
       · rw [inB_high (show ¬ at_≤7 by omega)]
         go_enter Tryz.func132,Tryz.ntmps132
         go_wp2_with (first | (go_at_call 28;refine (h1 _ (B1 _).out).mono ?_;rintro x w1 ⟨rfl,hb1⟩) | (go_at_call 129;refine (h2 _).mono ?_;rintro x w2 ⟨rfl,rfl⟩) | fail)
         go_ret
         exact ⟨rfl,(HX _ _).out hb1⟩
       · rw [inB_true (show 0≤at_ by omega) (show at_≤7 by omega)]
         go_enter Tryz.func132,Tryz.ntmps132
         go_wp2_with (first | (go_at_call 28;refine (h1 _ (B1 _).out).mono ?_;rintro x w1 ⟨rfl,hb1⟩) | (go_at_call 129;refine (h2 _).mono ?_;rintro x w2 ⟨rfl,rfl⟩) | fail)
         go_ret
         exact ⟨rfl,(HX _ _).out hb1⟩
 · have hz1:(z != 0)=true:=by simpa using hz
   rw [if_neg hz]
   go_enter Tryz.func132,Tryz.ntmps132
   go_wp2_with (go_at_call 28;refine (h1 _ (B1 _).out).mono ?_;rintro x w1 ⟨rfl,hb1⟩)
   go_ret
   exact ⟨rfl,(HX _ _).out hb1⟩
def peekN (M:Mv) (f at_:Int):Int:=if wordF M f at_=0 then (if (M.frs.getD f.toNat default).o=0 then (M.frs.getD f.toNat default).ws.getD at_.toNat 0 else 65535) else 0
theorem word_at {M:Mv} {w:World} (hM:MachAt w M) (hz:machF M=0) {n m:Nat} (hn:n<24) (hm:m<8) :
 ∃ fb fo b off wcap,M.fa=some ⟨fb,fo,none⟩∧∀ w1,Below w.heap.size w w1→w1.cell? ⟨fb,fo+n * 4,none⟩=some (.int .i64 (M.frs.getD n default).o)∧
   w1.cell? ⟨fb,fo+n * 4+3,none⟩=some (.slice (some ⟨b,off,none⟩) 8 wcap)∧w1.cell? ⟨b,off+m,none⟩=some (.int .i64 ((M.frs.getD n default).ws.getD m 0)):=by
 have hs:=(machF_sizes hz).1
 obtain ⟨fb,fo,e,c0,_,_,c3⟩:=hM.frame (j:=n) (by omega)
 have ok:=hM.frok n (by omega)
 have h8:=(machF_words hz hn).1
 rcases ok.ints with h0 | ⟨b,off,ha,hc⟩
 · rw [h0] at h8;simp at h8
 · refine ⟨fb,fo,b,off,(M.frs.getD n default).cap,e,fun w1 hb=>⟨(hb.cell (p:=⟨fb,_,none⟩) (lt_of_cell c0)).trans c0,?_,?_⟩⟩
   · rw [(hb.cell (p:=⟨fb,_,none⟩) (lt_of_cell c3)),c3,h8,ha]
   · have:=hc m (by omega)
     exact (hb.cell (p:=⟨b,_,none⟩) (lt_of_cell this)).trans this
set_option maxHeartbeats 800000 in
theorem peek_any (M:Mv) (f at_:Int) (w:World) (hM:MachAt w M) :
 Calls Tryz.prog 96 #[M.val,.int .i64 f,.int .i64 at_] w fun x w'=>x=.returned (.tuple #[.int .i64 (peekN M f at_),.int .i64 (wordF M f at_)])∧Below w.heap.size w w':=by
 have h1:=fun w' (h:Below w.heap.size w w')=>checkWord_any M f at_ w' (hM.below h)
 have B1:∀ o,Hid (Below w.heap.size w (w.alloc o)):=fun o=>(Below.refl _ _).alloc (Nat.le_refl _) _
 have HX:∀ o w1,Hid (Below (w.alloc o).heap.size (w.alloc o) w1→Below w.heap.size w w1):=fun o w1 h=>(B1 o).out.trans (h.mono (by simp))
 unfold peekN
 by_cases hz:wordF M f at_=0
 · obtain ⟨g0,g1,g2⟩:=wordF_zero hz
   rw [hz] at h1 ⊢
   rw [if_pos rfl]
   have b1:=inB_iff.1 g1
   have b2:=inB_iff.1 g2
   obtain ⟨n,rfl⟩:∃ n:Nat,f=(n:Int):=⟨f.toNat,by omega⟩
   obtain ⟨m,rfl⟩:∃ m:Nat,at_=(m:Int):=⟨at_.toNat,by omega⟩
   have hs:=(machF_sizes g0).1
   obtain ⟨fb,fo,b,off,wcap,hfa,hw⟩:=word_at hM g0 (n:=n) (m:=m) (by omega) (by omega)
   simp only [Int.toNat_natCast]
   unfold Mv.val at h1 ⊢
   rw [hfa,hs] at h1 ⊢
   obtain ⟨o,ho⟩:∃ o,Hid (o=(M.frs.getD n default).o):=⟨_,rfl⟩
   obtain ⟨v,hv⟩:∃ v,Hid (v=(M.frs.getD n default).ws.getD m 0):=⟨_,rfl⟩
   rw [← ho.out,← hv.out] at hw ⊢
   clear hM hs hfa hz g0 g1 g2 ho hv
   by_cases c:o=0
   · subst c
     rw [if_pos rfl]
     go_enter Tryz.func96,Tryz.ntmps96
     go_wp2_with (go_at_call 132;refine (h1 _ (B1 _).out).mono ?_;rintro x w1 ⟨rfl,hb1⟩;have HB:Hid (Below w.heap.size w w1):=(HX _ _).out hb1;obtain ⟨c0,c1,c2⟩:=hw _ HB.out;obtain ⟨hc,hf⟩:=bcell hb1)
     go_ret2
     exact ⟨rfl,HB.out⟩
   · have c' : (o != 0)=true:=by simpa using c
     rw [if_neg c]
     go_enter Tryz.func96,Tryz.ntmps96
     go_wp2_with (go_at_call 132;refine (h1 _ (B1 _).out).mono ?_;rintro x w1 ⟨rfl,hb1⟩;have HB:Hid (Below w.heap.size w w1):=(HX _ _).out hb1;obtain ⟨c0,c1,c2⟩:=hw _ HB.out;obtain ⟨hc,hf⟩:=bcell hb1)
     go_ret2
     exact ⟨rfl,HB.out⟩
 · rw [if_neg hz]
   have hz1:(wordF M f at_ != 0)=true:=by simpa using hz
   clear hM hz
   unfold Mv.val at *
   generalize wordF M f at_=z at h1 hz1 ⊢
   go_enter Tryz.func96,Tryz.ntmps96
   go_wp2_with (go_at_call 132;refine (h1 _ (B1 _).out).mono ?_;rintro x w1 ⟨rfl,hb1⟩)
   go_ret2
   exact ⟨rfl,(HX _ _).out hb1⟩
set_option maxHeartbeats 800000 in
theorem peekedOf_any (M:Mv) (f at_:Int) (w:World) (hM:MachAt w M) :
 Calls Tryz.prog 51 #[M.val,.int .i64 f,.int .i64 at_] w fun x w'=>x=.returned (.tuple #[.int .i64 (peekN M f at_),.int .i64 (wordF M f at_)])∧Below w.heap.size w w':=by
 have h1:=fun w' (h:Below w.heap.size w w')=>machineFault_any M w' (hM.below h)
 have B1:∀ o,Hid (Below w.heap.size w (w.alloc o)):=fun o=>(Below.refl _ _).alloc (Nat.le_refl _) _
 have HX:∀ o w1,Hid (Below (w.alloc o).heap.size (w.alloc o) w1→Below w.heap.size w w1):=fun o w1 h=>(B1 o).out.trans (h.mono (by simp))
 unfold peekN
 by_cases hz:wordF M f at_=0
 · obtain ⟨g0,g1,g2⟩:=wordF_zero hz
   rw [hz]
   rw [g0] at h1
   rw [if_pos rfl]
   have b1:=inB_iff.1 g1
   have b2:=inB_iff.1 g2
   obtain ⟨n,rfl⟩:∃ n:Nat,f=(n:Int):=⟨f.toNat,by omega⟩
   obtain ⟨m,rfl⟩:∃ m:Nat,at_=(m:Int):=⟨at_.toNat,by omega⟩
   have hs:=(machF_sizes g0).1
   have ho4:=inB_iff.1 (machF_words g0 (j:=n) (by omega)).2.2
   obtain ⟨fb,fo,b,off,wcap,hfa,hw⟩:=word_at hM g0 (n:=n) (m:=m) (by omega) (by omega)
   simp only [Int.toNat_natCast]
   unfold Mv.val at h1 ⊢
   rw [hfa,hs] at h1 ⊢
   obtain ⟨o,ho⟩:∃ o,Hid (o=(M.frs.getD n default).o):=⟨_,rfl⟩
   obtain ⟨v,hv⟩:∃ v,Hid (v=(M.frs.getD n default).ws.getD m 0):=⟨_,rfl⟩
   rw [← ho.out] at ho4
   rw [← ho.out,← hv.out] at hw ⊢
   clear hM hs hfa hz g0 ho hv
   by_cases c:o=0
   · subst c
     rw [if_pos rfl]
     go_enter Tryz.func51,Tryz.ntmps51
     go_wp2_with (first | (go_at_call 106;refine (h1 _ (B1 _).out).mono ?_;rintro x w1 ⟨rfl,hb1⟩;have HB:Hid (Below w.heap.size w w1):=(HX _ _).out hb1;obtain ⟨c0,c1,c2⟩:=hw _ HB.out;obtain ⟨hc,hf⟩:=bcell hb1) | (go_at_call 56;refine (in_any _ _ _ _).mono ?_;rintro x w2 ⟨rfl,rfl⟩) | fail)
     go_ret2
     exact ⟨rfl,HB.out⟩
   · have c' : 0<o:=by omega
     rw [if_neg c]
     go_enter Tryz.func51,Tryz.ntmps51
     go_wp2_with (first | (go_at_call 106;refine (h1 _ (B1 _).out).mono ?_;rintro x w1 ⟨rfl,hb1⟩;have HB:Hid (Below w.heap.size w w1):=(HX _ _).out hb1;obtain ⟨c0,c1,c2⟩:=hw _ HB.out;obtain ⟨hc,hf⟩:=bcell hb1) | (go_at_call 56;refine (in_any _ _ _ _).mono ?_;rintro x w2 ⟨rfl,rfl⟩) | fail)
     go_ret2
     exact ⟨rfl,HB.out⟩
 · rw [if_neg hz]
   unfold wordF at hz ⊢
   clear hM
   unfold Mv.val at *
   generalize machF M=z at h1 hz ⊢
   by_cases hq:z=0
   · subst hq
     rw [if_pos rfl] at hz ⊢
     cases hf:inB f 0 23 with
     | false =>
       go_enter Tryz.func51,Tryz.ntmps51
       go_wp2_with (first | (go_at_call 106;refine (h1 _ (B1 _).out).mono ?_;rintro x w1 ⟨rfl,hb1⟩) | (go_at_call 56;refine (in_any _ _ _ _).mono ?_;rintro x w2 ⟨rfl,rfl⟩) | fail)
       go_ret2
       exact ⟨rfl,(HX _ _).out hb1⟩
     | true =>
       cases ha:inB at_ 0 7 with
       | true=>simp [hf,ha] at hz
       | false =>
         clear hz
         go_enter Tryz.func51,Tryz.ntmps51
         go_wp2_with (first | (go_at_call 106;refine (h1 _ (B1 _).out).mono ?_;rintro x w1 ⟨rfl,hb1⟩) | (go_at_call 56;refine (in_any _ _ _ _).mono ?_;rintro x w2 ⟨rfl,rfl⟩) | fail)
         go_ret2
         exact ⟨rfl,(HX _ _).out hb1⟩
   · have hq1:(z == 0)=false:=by simpa using hq
     have hq2:(z != 0)=true:=by simpa using hq
     rw [if_neg hq]
     clear hz hq
     go_enter Tryz.func51,Tryz.ntmps51
     go_wp2_with (go_at_call 106;refine (h1 _ (B1 _).out).mono ?_;rintro x w1 ⟨rfl,hb1⟩)
     go_ret2
     exact ⟨rfl,(HX _ _).out hb1⟩
end Go.Proofs.YtdngbojbpmdegaaGreatDoor

namespace Go.Proofs.YtdngbojbpmdegaaGreatDoor
open Go.RowKit
theorem Ints.drewN {w:World} {a:Option Addr} {xs:List Int} (h:Ints w a xs) (n:Nat):Ints (w.drewN n) a xs:=h.below (below_drewN (Below.refl _ _) n)
set_option maxHeartbeats 400000 in
theorem sameInts_any (a b:Option Addr) (xs:List Int) (ca cb:Nat) (w:World) (hl:xs.length≤maxLen) (ha:Ints w a xs) (hb:Ints w b xs) :
 Calls Tryz.prog 60 #[.slice a xs.length ca,.slice b xs.length cb] w fun e w'=>e=.returned (.bool true)∧∃ n,w' = w.drewN n:=by
 unfold maxLen at hl
 rcases ha with rfl | ⟨ba,oa,rfl,hca⟩
 · go_enter Tryz.func60,Tryz.ntmps60
   go_wp2
   refine wp_loop_rounds 1 ?_
   rw [rounds_succ]
   go_wp2
   go_ret
   exact ⟨rfl,0,rfl⟩
 · rcases hb with rfl | ⟨bb,ob,rfl,hcb⟩
   · go_enter Tryz.func60,Tryz.ntmps60
     go_wp2
     refine wp_loop_rounds 1 ?_
     rw [rounds_succ]
     go_wp2
     go_ret
     exact ⟨rfl,0,rfl⟩
   · go_enter Tryz.func60,Tryz.ntmps60
     go_wp2
     go_loopw [5] (fun i wr=>∃ k:Nat,k≤xs.length∧i=.int .i64 k∧∃ n,wr=w.drewN n) (fun i _=>xs.length - (intOf i).toNat)
     case atStart=>exact ⟨0,Nat.zero_le _,rfl,0,rfl⟩
     case round =>
      obtain ⟨k,hk,rfl,n,rfl⟩:=hrel
      by_cases hlt:k<xs.length
      · have h1:=hca k hlt
        have h2:=hcb k hlt
        obtain ⟨z,hz⟩:∃ z,xs.getD k 0=z:=⟨_,rfl⟩
        rw [hz] at h1 h2
        clear hz hca hcb
        go_wp2
        go_quiet (fail)
        go_wp2
        go_roundw
        case rel=>exact ⟨k+1,by omega,by go_num,_,rfl⟩
        case measure=>simp [intOf];omega
      · have hkl:k=xs.length:=by omega
        subst hkl
        go_wp2
        go_ret
        exact ⟨rfl,n,rfl⟩
end Go.Proofs.YtdngbojbpmdegaaGreatDoor

namespace Go.Proofs.YtdngbojbpmdegaaGreatDoor
open Go.RowKit
def Fr.Same (p q:Fr):Prop:=p.o=q.o∧p.at_=q.at_∧p.r=q.r∧p.ws=q.ws
structure Mv.Same (M N:Mv):Prop where
 len:M.frs.length=N.frs.length
 fr:∀ j,j<M.frs.length→(M.frs.getD j default).Same (N.frs.getD j default)
 en:M.ens=N.ens
 qu:M.qus=N.qus
theorem Mv.Same.refl (M:Mv):M.Same M:=⟨rfl,fun _ _=>⟨rfl,rfl,rfl,rfl⟩,rfl,rfl⟩
theorem Mv.Same.symm {M N:Mv} (h:M.Same N):N.Same M:=⟨h.len.symm,fun j hj=>by obtain ⟨a,b,c,d⟩:=h.fr j (by rw [h.len];exact hj);exact ⟨a.symm,b.symm,c.symm,d.symm⟩,h.en.symm,h.qu.symm⟩
theorem Mv.Same.trans {M N K:Mv} (h:M.Same N) (g:N.Same K):M.Same K:=⟨h.len.trans g.len,fun j hj=>by
 obtain ⟨a,b,c,d⟩:=h.fr j hj
 obtain ⟨a',b',c',d'⟩:=g.fr j (by rw [← h.len];exact hj)
 exact ⟨a.trans a',b.trans b',c.trans c',d.trans d'⟩,h.en.trans g.en,h.qu.trans g.qu⟩
set_option maxRecDepth 100000 in
set_option maxHeartbeats 4000000 in
theorem sameMachine_any (M N:Mv) (w:World) (hM:MachAt w M) (hN:MachAt w N) (hS:M.Same N) :
 Calls Tryz.prog 15 #[M.val,N.val] w fun e w'=>e=.returned (.bool true)∧Below w.heap.size w w':=by
 have hl1:=hM.frl
 have hl2:=hM.enl
 have hl3:=hM.qul
 unfold maxLen at hl1 hl2 hl3
 unfold Mv.val
 obtain ⟨fa,frs,fcap,ea,ens,ecap,qa,qus,qcap⟩:=M
 obtain ⟨fb,gs,gcap,eb,ens',ecap',qb,qus',qcap'⟩:=N
 obtain ⟨sl,sf,se,sq⟩:=hS
 dsimp only at *
 subst se sq
 rw [← sl]
 have SL:Hid (gs.length=frs.length):=sl.symm
 obtain ⟨nf,hnf⟩:∃ nf,Hid (nf=frs.length):=⟨_,rfl⟩
 obtain ⟨ne,hne⟩:∃ ne,Hid (ne=ens.length):=⟨_,rfl⟩
 obtain ⟨nq,hnq⟩:∃ nq,Hid (nq=qus.length):=⟨_,rfl⟩
 rw [← hnf.out] at hl1
 rw [← hne.out] at hl2
 rw [← hnq.out] at hl3
 rw [← hnf.out,← hne.out,← hnq.out]
 clear sl
 obtain ⟨W0,hW0⟩:∃ W0,Hid (W0=(w.alloc (.cells #[.slice fa nf fcap,.slice ea ne ecap,.slice qa nq qcap] 29)).alloc (.cells #[.slice fb nf gcap,.slice eb ne ecap',.slice qb nq qcap'] 29)):=⟨_,rfl⟩
 have BW:Hid (Below w.heap.size w W0):=by show Below _ _ _;rw [hW0.out];exact ((Below.refl _ _).alloc (Nat.le_refl _) _).alloc (by simp) _
 have p0:Hid (W0.cell? ⟨w.heap.size,0,none⟩=some (.slice fa nf fcap)):=by show _=_;rw [hW0.out,World.cell?_alloc_past _ _ _ (by simp),World.cell?_alloc_at _ _ _ _ rfl];rfl
 have p1:Hid (W0.cell? ⟨w.heap.size,1,none⟩=some (.slice ea ne ecap)):=by show _=_;rw [hW0.out,World.cell?_alloc_past _ _ _ (by simp),World.cell?_alloc_at _ _ _ _ rfl];rfl
 have p2:Hid (W0.cell? ⟨w.heap.size,2,none⟩=some (.slice qa nq qcap)):=by show _=_;rw [hW0.out,World.cell?_alloc_past _ _ _ (by simp),World.cell?_alloc_at _ _ _ _ rfl];rfl
 have q0:Hid (W0.cell? ⟨w.heap.size+1,0,none⟩=some (.slice fb nf gcap)):=by show _=_;rw [hW0.out,World.cell?_alloc_at _ _ _ _ (by simp)];rfl
 have q1:Hid (W0.cell? ⟨w.heap.size+1,1,none⟩=some (.slice eb ne ecap')):=by show _=_;rw [hW0.out,World.cell?_alloc_at _ _ _ _ (by simp)];rfl
 have q2:Hid (W0.cell? ⟨w.heap.size+1,2,none⟩=some (.slice qb nq qcap')):=by show _=_;rw [hW0.out,World.cell?_alloc_at _ _ _ _ (by simp)];rfl
 have hM0:=hM.below BW.out
 have hN0:=hN.below BW.out
 have HF:Hid (Below w.heap.size w W0∧True):=⟨BW.out,trivial⟩
 go_enter Tryz.func15,Tryz.ntmps15
 go_wp2
 rw [← hW0.out]
 clear hW0 hM hN
 go_loopw [5] (fun i wr=>∃ k:Nat,k≤nf∧i=.int .i64 k∧Below W0.heap.size W0 wr) (fun i _=>nf - (intOf i).toNat)
 case atStart=>exact ⟨0,Nat.zero_le _,rfl,Below.refl _ _⟩
 case round =>
  obtain ⟨k,hk,rfl,hbel⟩:=hrel
  have P0:wr.cell? ⟨w.heap.size,0,none⟩=some (.slice fa nf fcap):=(hbel.cell (p:=⟨w.heap.size,0,none⟩) (lt_of_cell p0.out)).trans p0.out
  have Q0:wr.cell? ⟨w.heap.size+1,0,none⟩=some (.slice fb nf gcap):=(hbel.cell (p:=⟨w.heap.size+1,0,none⟩) (lt_of_cell q0.out)).trans q0.out
  have b1:w.heap.size<wr.heap.size:=lt_of_cell P0
  have b2:w.heap.size+1<wr.heap.size:=lt_of_cell Q0
  by_cases hlt:k<nf
  · have hMr:=hM0.below hbel
    have hNr:=hN0.below hbel
    obtain ⟨xb,xo,hxa,c0,c1,c2,c3⟩:=hMr.frame (j:=k) (by dsimp only;rw [← hnf.out];exact hlt)
    obtain ⟨yb,yo,hya,d0,d1,d2,d3⟩:=hNr.frame (j:=k) (by dsimp only;rw [SL.out,← hnf.out];exact hlt)
    have okM:=hMr.frok k (by dsimp only;rw [← hnf.out];exact hlt)
    have okN:=hNr.frok k (by dsimp only;rw [SL.out,← hnf.out];exact hlt)
    obtain ⟨e0,e1,e2,e3⟩:=sf k (by rw [← hnf.out];exact hlt)
    dsimp only at hxa hya c0 c1 c2 c3 d0 d1 d2 d3 okM okN
    subst hxa hya
    generalize frs.getD k default=P at c0 c1 c2 c3 e0 e1 e2 e3 okM
    generalize gs.getD k default=Q at d0 d1 d2 d3 e0 e1 e2 e3 okN
    obtain ⟨o,fat,r,pa,ws,pcap⟩:=P
    obtain ⟨o',fat',r',ra,ws',rcap⟩:=Q
    dsimp only at c0 c1 c2 c3 d0 d1 d2 d3 e0 e1 e2 e3
    subst e0 e1 e2 e3
    have BZ:∀ o1 o2,Hid (Below wr.heap.size wr ((wr.alloc o1).alloc o2)):=fun o1 o2=>((Below.refl _ _).alloc (Nat.le_refl _) _).alloc (by simp) _
    have hcall:=fun w' (h:Below wr.heap.size wr w')=>sameInts_any pa ra ws pcap rcap w' okM.len (okM.ints.below h) (okN.ints.below h)
    have b3:xb<wr.heap.size:=lt_of_cell c0
    have b4:yb<wr.heap.size:=lt_of_cell d0
    generalize ws.length=nl at *
    clear hMr hNr okM okN hM0 hN0 sf p0 p1 p2 q0 q1 q2
    go_wp2_with (go_at_call 60;refine (hcall _ (BZ _ _).out).mono ?_;rintro e w1 ⟨rfl,n,rfl⟩)
    go_roundw
    case rel=>exact ⟨k+1,by omega,by go_num,below_drewN (hbel.trans ((BZ _ _).out.mono hbel.size)) n⟩
    case measure=>simp [intOf];omega
  · have hge:¬ ((k:Int)<(nf:Int)):=by omega
    clear sf SL hnf hlt
    rename World=>wa
    have P1:wa.cell? ⟨w.heap.size,1,none⟩=some (.slice ea ne ecap):=(hbel.cell (p:=⟨w.heap.size,1,none⟩) (lt_of_cell p1.out)).trans p1.out
    go_wp2
    go_loopw [8] (fun i wr=>∃ k:Nat,k≤ne∧i=.int .i64 k∧Below W0.heap.size W0 wr) (fun i _=>ne - (intOf i).toNat)
    case atStart=>exact ⟨0,Nat.zero_le _,rfl,hbel⟩
    case round =>
     clear P0 Q0 P1 b1 b2 hbel
     obtain ⟨j,hj,rfl,hbel⟩:=hrel
     have P1:wr.cell? ⟨w.heap.size,1,none⟩=some (.slice ea ne ecap):=(hbel.cell (p:=⟨w.heap.size,1,none⟩) (lt_of_cell p1.out)).trans p1.out
     have Q1:wr.cell? ⟨w.heap.size+1,1,none⟩=some (.slice eb ne ecap'):=(hbel.cell (p:=⟨w.heap.size+1,1,none⟩) (lt_of_cell q1.out)).trans q1.out
     by_cases hlt:j<ne
     · obtain ⟨xb,xo,hxa,c0,c1,c2,c3,c4,c5,c6⟩:=(hM0.below hbel).enclave (j:=j) (by dsimp only;rw [← hne.out];exact hlt)
       obtain ⟨yb,yo,hya,d0,d1,d2,d3,d4,d5,d6⟩:=(hN0.below hbel).enclave (j:=j) (by dsimp only;rw [← hne.out];exact hlt)
       dsimp only at hxa hya c0 c1 c2 c3 c4 c5 c6 d0 d1 d2 d3 d4 d5 d6
       subst hxa hya
       generalize ens.getD j default=P at c0 c1 c2 c3 c4 c5 c6 d0 d1 d2 d3 d4 d5 d6
       obtain ⟨st,lg,pc,g0,g1,g2,g3⟩:=P
       dsimp only at c0 c1 c2 c3 c4 c5 c6 d0 d1 d2 d3 d4 d5 d6
       have hE:∀ w',(Op.equalIn 10000 58 (.agg #[.int .i64 st,.string lg,.int .i64 pc,.int .i64 g0,.int .i64 g1,.int .i64 g2,.int .i64 g3]) (.agg #[.int .i64 st,.string lg,.int .i64 pc,.int .i64 g0,.int .i64 g1,.int .i64 g2,.int .i64 g3])).run Tryz.prog w' = .ok true w':=fun w'=>by
        have:=eq_enclave 9997 st pc g0 g1 g2 g3 st pc g0 g1 g2 g3 lg lg w'
        simpa using this
       clear hM0 hN0 p0 p1 p2 q0 q1 q2
       go_wp2
       go_quiet (fail)
       go_wp2
       go_roundw
       case rel=>exact ⟨j+1,by omega,by go_num,below_drewN hbel _⟩
       case measure=>simp [intOf];omega
     · have hge2:¬ ((j:Int)<(ne:Int)):=by omega
       clear hlt hne
       rename World=>wb
       have P2:wb.cell? ⟨w.heap.size,2,none⟩=some (.slice qa nq qcap):=(hbel.cell (p:=⟨w.heap.size,2,none⟩) (lt_of_cell p2.out)).trans p2.out
       go_wp2
       go_loopw [9] (fun i wr=>∃ k:Nat,k≤nq∧i=.int .i64 k∧Below W0.heap.size W0 wr) (fun i _=>nq - (intOf i).toNat)
       case atStart=>exact ⟨0,Nat.zero_le _,rfl,hbel⟩
       case round =>
        clear P1 Q1 P2 hbel
        obtain ⟨i,hi,rfl,hbel⟩:=hrel
        have P2:wr.cell? ⟨w.heap.size,2,none⟩=some (.slice qa nq qcap):=(hbel.cell (p:=⟨w.heap.size,2,none⟩) (lt_of_cell p2.out)).trans p2.out
        have Q2:wr.cell? ⟨w.heap.size+1,2,none⟩=some (.slice qb nq qcap'):=(hbel.cell (p:=⟨w.heap.size+1,2,none⟩) (lt_of_cell q2.out)).trans q2.out
        by_cases hlt:i<nq
        · obtain ⟨xb,xo,hxa,c0,c1⟩:=(hM0.below hbel).quote (j:=i) (by dsimp only;rw [← hnq.out];exact hlt)
          obtain ⟨yb,yo,hya,d0,d1⟩:=(hN0.below hbel).quote (j:=i) (by dsimp only;rw [← hnq.out];exact hlt)
          dsimp only at hxa hya c0 c1 d0 d1
          subst hxa hya
          generalize qus.getD i default=P at c0 c1 d0 d1
          obtain ⟨lg,da⟩:=P
          dsimp only at c0 c1 d0 d1
          have hE:∀ w',(Op.equalIn 10000 90 (.agg #[.string lg,.int .i64 da]) (.agg #[.string lg,.int .i64 da])).run Tryz.prog w' = .ok true w':=fun w'=>by
           have:=eq_quote 9998 lg lg da da w'
           simpa using this
          clear hM0 hN0 p0 p1 p2 q0 q1 q2
          go_wp2
          go_quiet (fail)
          go_wp2
          go_roundw
          case rel=>exact ⟨i+1,by omega,by go_num,below_drewN hbel _⟩
          case measure=>simp [intOf];omega
        · have hge3:¬ ((i:Int)<(nq:Int)):=by omega
          clear hlt hM0 hN0
          go_wp2
          go_ret
          exact ⟨rfl,BW.out.trans (hbel.mono BW.out.size)⟩
end Go.Proofs.YtdngbojbpmdegaaGreatDoor
