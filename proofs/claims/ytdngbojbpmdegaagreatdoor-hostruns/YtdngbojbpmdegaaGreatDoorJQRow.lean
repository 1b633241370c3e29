import Derived.Test.YtdngbojbpmdegaaGreatDoorJSameM
import Derived.Test.YtdngbojbpmdegaaGreatDoorOwn
import Derived.Test.YtdngbojbpmdegaaGreatDoorJIdxBase
import Derived.Deep.QuietTactic
import Derived.BigQuiet
import Derived.Deep.AppendLies
namespace Go.Proofs.YtdngbojbpmdegaaGreatDoor
open Go.RowKit
def Fr.norm (f:Fr):Fr:=⟨f.o,f.at_,f.r,none,f.ws,0⟩
theorem norm_eq {M N:Mv} (h:M.Same N):M.frs.map Fr.norm=N.frs.map Fr.norm:=by
 apply List.ext_getElem (by simpa using h.len)
 intro j h1 h2
 have hj:j<M.frs.length:=by simpa using h1
 have hj' : j<N.frs.length:=by simpa using h2
 obtain ⟨a,b,c,d⟩:=h.fr j hj
 simp only [List.getD_eq_getElem?_getD,hj,hj',List.getElem?_eq_getElem,Option.getD_some] at a b c d
 simp only [List.getElem_map,Fr.norm,a,b,c,d]
theorem norm_getD (l:List Fr) (k:Nat):(l.map Fr.norm).getD k default=(l.getD k default).norm:=by
 by_cases h:k<l.length
 · simp [List.getD_eq_getElem?_getD,h]
 · simp [List.getD_eq_getElem?_getD,h]
   rfl
theorem twins_norm (l:List Fr):twins (l.map Fr.norm)=twins l:=by
 unfold twins
 rw [List.length_map]
 congr 1
 funext k
 unfold twAt
 rw [norm_getD,← List.map_take,List.any_map]
 rfl
theorem machF_norm (M:Mv):machF {M with frs:=M.frs.map Fr.norm} = machF M:=by
 unfold machF
 dsimp only
 rw [List.length_map,twins_norm,List.any_map]
 rfl
theorem machF_same {M N:Mv} (h:M.Same N):machF M=machF N:=by
 rw [← machF_norm M,← machF_norm N]
 have e:=norm_eq h
 unfold machF
 dsimp only
 rw [e,h.en,h.qu]
def askF (M:Mv) (e s:Int):Int:=if machF M=0 then (if inB e 1 4=true then (if (M.ens.getD (e - 1).toNat default).st=0 then 5 else if 0≤s∧(M.ens.getD (e - 1).toNat default).st≠s then 8 else 0) else 5) else machF M
theorem askF_same {M N:Mv} (h:M.Same N) (e s:Int):askF M e s=askF N e s:=by
 unfold askF
 rw [machF_same h,h.en]
theorem askF_zero {M:Mv} {e s:Int} (h:askF M e s=0):machF M=0∧∃ m:Nat,e=(m:Int)+1∧m<4∧(M.ens.getD m default).st≠0∧(0≤s→(M.ens.getD m default).st=s):=by
 unfold askF at h
 by_cases h0:machF M=0
 · rw [if_pos h0] at h
   by_cases h1:inB e 1 4=true
   · rw [if_pos h1] at h
     have b:=inB_iff.1 h1
     obtain ⟨m,rfl⟩:∃ m:Nat,e=(m:Int)+1:=⟨(e - 1).toNat,by omega⟩
     rw [show ((m:Int)+1 - 1).toNat=m by omega] at h
     refine ⟨h0,m,rfl,by omega,fun q=>?_,fun q=>?_⟩
     · rw [if_pos q] at h;simp at h
     · by_cases h2:(M.ens.getD m default).st=0
       · rw [if_pos h2] at h;simp at h
       · rw [if_neg h2] at h
         by_cases h3:(M.ens.getD m default).st=s
         · exact h3
         · rw [if_pos ⟨q,h3⟩] at h;simp at h
   · rw [if_neg h1] at h;simp at h
 · rw [if_neg h0] at h;exact absurd h h0
theorem st_at {M:Mv} {w:World} (hM:MachAt w M) (hz:machF M=0) {m:Nat} (hm:m<4) :
 ∃ eb eo,M.ea=some ⟨eb,eo,none⟩∧∀ w1,Below w.heap.size w w1→w1.cell? ⟨eb,eo+m * 7,none⟩=some (.int .i64 (M.ens.getD m default).st):=by
 have hs:=(machF_sizes hz).2.1
 obtain ⟨eb,eo,e,c0,_⟩:=hM.enclave (j:=m) (by omega)
 exact ⟨eb,eo,e,fun w1 hb=>(hb.cell (p:=⟨eb,_,none⟩) (lt_of_cell c0)).trans c0⟩
set_option maxHeartbeats 1600000 in
theorem checkEnclave_any (M:Mv) (e:Int) (w:World) (hM:MachAt w M) :
 Calls Tryz.prog 131 #[M.val,.int .i64 e] w fun x w'=>x=.returned (.int .i64 (askF M e (-1)))∧Below w.heap.size w w':=by
 have h1:=fun w' (h:Below w.heap.size w w')=>checkM_any M w' (hM.below h)
 have B1:∀ o,Hid (Below w.heap.size w (w.alloc o)):=fun o=>(Below.refl _ _).alloc (Nat.le_refl _) _
 have HX:∀ o w1,Hid (Below (w.alloc o).heap.size (w.alloc o) w1→Below w.heap.size w w1):=fun o w1 h=>(B1 o).out.trans (h.mono (by simp))
 unfold askF
 unfold Mv.val at *
 by_cases hz:machF M=0
 · rw [if_pos hz]
   by_cases c1:e<1
   · rw [inB_low (show ¬ 1≤e by omega),if_neg (by simp)]
     rw [hz] at h1
     clear hM hz
     go_enter Tryz.func131,Tryz.ntmps131
     go_wp2_with (go_at_call 28;refine (h1 _ (B1 _).out).mono ?_;rintro x w1 ⟨rfl,hb1⟩)
     go_ret
     exact ⟨rfl,(HX _ _).out hb1⟩
   by_cases c2:4<e
   · rw [inB_high (show ¬ e≤4 by omega),if_neg (by simp)]
     rw [hz] at h1
     clear hM hz
     go_enter Tryz.func131,Tryz.ntmps131
     go_wp2_with (go_at_call 28;refine (h1 _ (B1 _).out).mono ?_;rintro x w1 ⟨rfl,hb1⟩)
     go_ret
     exact ⟨rfl,(HX _ _).out hb1⟩
   rw [inB_true (show 1≤e by omega) (show e≤4 by omega),if_pos rfl]
   obtain ⟨m,rfl⟩:∃ m:Nat,e=(m:Int)+1:=⟨(e - 1).toNat,by omega⟩
   rw [show ((m:Int)+1 - 1).toNat=m by omega]
   have hm4:m<4:=by omega
   obtain ⟨eb,eo,hea,hst⟩:=st_at hM hz hm4
   have hs:=(machF_sizes hz).2.1
   rw [hz] at h1
   rw [hea,hs] at h1 ⊢
   generalize (M.ens.getD m default).st=s at hst ⊢
   have hwm:IntKind.i64.wrap ((m:Int)+1 - 1)=(m:Int):=by rw [IntKind.wrap_i64];omega
   clear hM hz hea hs
   by_cases c3:s=0
   · subst c3
     rw [if_pos rfl]
     go_enter Tryz.func131,Tryz.ntmps131
     go_wp2_with (go_at_call 28;refine (h1 _ (B1 _).out).mono ?_;rintro x w1 ⟨rfl,hb1⟩;have HB:Hid (Below w.heap.size w w1):=(HX _ _).out hb1;have c0:=hst _ HB.out;obtain ⟨hc,hf⟩:=bcell hb1)
     go_ret
     exact ⟨rfl,HB.out⟩
   · have c3' : (s == 0)=false:=by simpa using c3
     rw [if_neg c3,if_neg (by omega)]
     go_enter Tryz.func131,Tryz.ntmps131
     go_wp2_with (go_at_call 28;refine (h1 _ (B1 _).out).mono ?_;rintro x w1 ⟨rfl,hb1⟩;have HB:Hid (Below w.heap.size w w1):=(HX _ _).out hb1;have c0:=hst _ HB.out;obtain ⟨hc,hf⟩:=bcell hb1)
     go_ret
     exact ⟨rfl,HB.out⟩
 · rw [if_neg hz]
   have hz1:(machF M != 0)=true:=by simpa using hz
   clear hM hz
   generalize machF M=z at h1 hz1 ⊢
   go_enter Tryz.func131,Tryz.ntmps131
   go_wp2_with (go_at_call 28;refine (h1 _ (B1 _).out).mono ?_;rintro x w1 ⟨rfl,hb1⟩)
   go_ret
   exact ⟨rfl,(HX _ _).out hb1⟩
theorem askF_one (M:Mv) (e:Int):askF M e 1=if askF M e (-1)=0 then (if (M.ens.getD (e - 1).toNat default).st=1 then 0 else 8) else askF M e (-1):=by
 unfold askF
 by_cases h0:machF M=0
 · rw [if_pos h0,if_pos h0]
   by_cases h1:inB e 1 4=true
   · rw [if_pos h1,if_pos h1]
     by_cases h2:(M.ens.getD (e - 1).toNat default).st=0
     · rw [if_pos h2,if_pos h2];simp
     · rw [if_neg h2,if_neg h2]
       generalize (M.ens.getD (e - 1).toNat default).st=t
       by_cases h3:t=1
       · subst h3;simp
       · simp [h3]
   · rw [if_neg h1,if_neg h1];simp
 · rw [if_neg h0,if_neg h0,if_neg h0]
set_option maxHeartbeats 1600000 in
theorem checkOpened_any (M:Mv) (e:Int) (w:World) (hM:MachAt w M) :
 Calls Tryz.prog 128 #[M.val,.int .i64 e] w fun x w'=>x=.returned (.int .i64 (askF M e 1))∧Below w.heap.size w w':=by
 have h1:=fun w' (h:Below w.heap.size w w')=>checkEnclave_any M e w' (hM.below h)
 have B1:∀ o,Hid (Below w.heap.size w (w.alloc o)):=fun o=>(Below.refl _ _).alloc (Nat.le_refl _) _
 have HX:∀ o w1,Hid (Below (w.alloc o).heap.size (w.alloc o) w1→Below w.heap.size w w1):=fun o w1 h=>(B1 o).out.trans (h.mono (by simp))
 rw [askF_one]
 unfold Mv.val at *
 by_cases hz:askF M e (-1)=0
 · rw [if_pos hz]
   obtain ⟨g0,m,rfl,hm4,_,_⟩:=askF_zero hz
   rw [show ((m:Int)+1 - 1).toNat=m by omega]
   obtain ⟨eb,eo,hea,hst⟩:=st_at hM g0 hm4
   have hs:=(machF_sizes g0).2.1
   rw [hz] at h1
   rw [hea,hs] at h1 ⊢
   generalize (M.ens.getD m default).st=s at hst ⊢
   have hwm:IntKind.i64.wrap ((m:Int)+1 - 1)=(m:Int):=by rw [IntKind.wrap_i64];omega
   clear hM hz hea hs g0
   by_cases c3:s=1
   · subst c3
     rw [if_pos rfl]
     go_enter Tryz.func128,Tryz.ntmps128
     go_wp2_with (go_at_call 131;refine (h1 _ (B1 _).out).mono ?_;rintro x w1 ⟨rfl,hb1⟩;have HB:Hid (Below w.heap.size w w1):=(HX _ _).out hb1;have c0:=hst _ HB.out;obtain ⟨hc,hf⟩:=bcell hb1)
     go_ret
     exact ⟨rfl,HB.out⟩
   · have c3' : (s != 1)=true:=by simpa using c3
     rw [if_neg c3]
     go_enter Tryz.func128,Tryz.ntmps128
     go_wp2_with (go_at_call 131;refine (h1 _ (B1 _).out).mono ?_;rintro x w1 ⟨rfl,hb1⟩;have HB:Hid (Below w.heap.size w w1):=(HX _ _).out hb1;have c0:=hst _ HB.out;obtain ⟨hc,hf⟩:=bcell hb1)
     go_ret
     exact ⟨rfl,HB.out⟩
 · rw [if_neg hz]
   have hz1:(askF M e (-1) != 0)=true:=by simpa using hz
   clear hM hz
   generalize askF M e (-1)=z at h1 hz1 ⊢
   go_enter Tryz.func128,Tryz.ntmps128
   go_wp2_with (go_at_call 131;refine (h1 _ (B1 _).out).mono ?_;rintro x w1 ⟨rfl,hb1⟩)
   go_ret
   exact ⟨rfl,(HX _ _).out hb1⟩
set_option maxHeartbeats 1600000 in
theorem asked_any (M:Mv) (e s:Int) (w:World) (hM:MachAt w M) :
 Calls Tryz.prog 107 #[M.val,.int .i64 e,.int .i64 s] w fun x w'=>x=.returned (.int .i64 (askF M e s))∧Below w.heap.size w w':=by
 have h1:=fun w' (h:Below w.heap.size w w')=>machineFault_any M w' (hM.below h)
 have B1:∀ o,Hid (Below w.heap.size w (w.alloc o)):=fun o=>(Below.refl _ _).alloc (Nat.le_refl _) _
 have HX:∀ o w1,Hid (Below (w.alloc o).heap.size (w.alloc o) w1→Below w.heap.size w w1):=fun o w1 h=>(B1 o).out.trans (h.mono (by simp))
 unfold askF
 unfold Mv.val at *
 by_cases hz:machF M=0
 · rw [if_pos hz]
   cases hi:inB e 1 4 with
   | false =>
     rw [if_neg (by simp)]
     rw [hz] at h1
     clear hM hz
     go_enter Tryz.func107,Tryz.ntmps107
     go_wp2_with (first | (go_at_call 106;refine (h1 _ (B1 _).out).mono ?_;rintro x w1 ⟨rfl,hb1⟩) | (go_at_call 56;refine (in_any _ _ _ _).mono ?_;rintro x w2 ⟨rfl,rfl⟩) | fail)
     go_ret
     exact ⟨rfl,(HX _ _).out hb1⟩
   | true =>
     rw [if_pos rfl]
     have b:=inB_iff.1 hi
     obtain ⟨m,rfl⟩:∃ m:Nat,e=(m:Int)+1:=⟨(e - 1).toNat,by omega⟩
     rw [show ((m:Int)+1 - 1).toNat=m by omega]
     have hm4:m<4:=by omega
     obtain ⟨eb,eo,hea,hst⟩:=st_at hM hz hm4
     have hs:=(machF_sizes hz).2.1
     rw [hz] at h1
     rw [hea,hs] at h1 ⊢
     generalize (M.ens.getD m default).st=t at hst ⊢
     have hwm:IntKind.i64.wrap ((m:Int)+1 - 1)=(m:Int):=by rw [IntKind.wrap_i64];omega
     clear hM hz hea hs b
     by_cases c3:t=0
     · subst c3
       rw [if_pos rfl]
       go_enter Tryz.func107,Tryz.ntmps107
       go_wp2_with (first | (go_at_call 106;refine (h1 _ (B1 _).out).mono ?_;rintro x w1 ⟨rfl,hb1⟩;have HB:Hid (Below w.heap.size w w1):=(HX _ _).out hb1;have c0:=hst _ HB.out;obtain ⟨hc,hf⟩:=bcell hb1) | (go_at_call 56;refine (in_any _ _ _ _).mono ?_;rintro x w2 ⟨rfl,rfl⟩) | fail)
       go_ret
       exact ⟨rfl,HB.out⟩
     · have c3' : (t == 0)=false:=by simpa using c3
       rw [if_neg c3]
       by_cases c4:0≤s
       · by_cases c5:t=s
         · subst c5
           rw [if_neg (by omega)]
           go_enter Tryz.func107,Tryz.ntmps107
           go_wp2_with (first | (go_at_call 106;refine (h1 _ (B1 _).out).mono ?_;rintro x w1 ⟨rfl,hb1⟩;have HB:Hid (Below w.heap.size w w1):=(HX _ _).out hb1;have c0:=hst _ HB.out;obtain ⟨hc,hf⟩:=bcell hb1) | (go_at_call 56;refine (in_any _ _ _ _).mono ?_;rintro x w2 ⟨rfl,rfl⟩) | fail)
           go_ret
           exact ⟨rfl,HB.out⟩
         · have c5' : (t != s)=true:=by simpa using c5
           rw [if_pos ⟨c4,c5⟩]
           go_enter Tryz.func107,Tryz.ntmps107
           go_wp2_with (first | (go_at_call 106;refine (h1 _ (B1 _).out).mono ?_;rintro x w1 ⟨rfl,hb1⟩;have HB:Hid (Below w.heap.size w w1):=(HX _ _).out hb1;have c0:=hst _ HB.out;obtain ⟨hc,hf⟩:=bcell hb1) | (go_at_call 56;refine (in_any _ _ _ _).mono ?_;rintro x w2 ⟨rfl,rfl⟩) | fail)
           go_ret
           exact ⟨rfl,HB.out⟩
       · rw [if_neg (by omega)]
         go_enter Tryz.func107,Tryz.ntmps107
         go_wp2_with (first | (go_at_call 106;refine (h1 _ (B1 _).out).mono ?_;rintro x w1 ⟨rfl,hb1⟩;have HB:Hid (Below w.heap.size w w1):=(HX _ _).out hb1;have c0:=hst _ HB.out;obtain ⟨hc,hf⟩:=bcell hb1) | (go_at_call 56;refine (in_any _ _ _ _).mono ?_;rintro x w2 ⟨rfl,rfl⟩) | fail)
         go_ret
         exact ⟨rfl,HB.out⟩
 · rw [if_neg hz]
   have hz1:(machF M != 0)=true:=by simpa using hz
   clear hM hz
   generalize machF M=z at h1 hz1 ⊢
   go_enter Tryz.func107,Tryz.ntmps107
   go_wp2_with (go_at_call 106;refine (h1 _ (B1 _).out).mono ?_;rintro x w1 ⟨rfl,hb1⟩)
   go_ret
   exact ⟨rfl,(HX _ _).out hb1⟩
end Go.Proofs.YtdngbojbpmdegaaGreatDoor

namespace Go.Proofs.YtdngbojbpmdegaaGreatDoor
open Go.RowKit
structure Good (M:Mv):Prop where
 s1:M.frs.length=24
 s2:M.ens.length=4
 s3:M.qus.length≤40
 en:∀ i,i<4→(M.ens.getD i default).good=true
 fr:∀ j,j<24→Fr.good M.ens (M.frs.getD j default)=true
 tw:∀ i j,i<j→j<24→(M.frs.getD j default).o≠0→¬ ((M.frs.getD i default).o=(M.frs.getD j default).o∧(M.frs.getD i default).at_=(M.frs.getD j default).at_)
 qu:∀ q ∈ M.qus,q.good=true
theorem all_getD {α:Type} [Inhabited α] {p:α→Bool} {l:List α} {n:Nat} (hl:l.length=n):l.all p=true↔∀ i,i<n→p (l.getD i default)=true:=by
 subst hl
 rw [List.all_eq_true]
 constructor
 · intro h i hi
   exact h _ (by simp [List.getD_eq_getElem?_getD,hi])
 · intro h x hx
   obtain ⟨i,hi,e⟩:=List.mem_iff_getElem.1 hx
   have:=h i hi
   simpa [List.getD_eq_getElem?_getD,hi,e] using this
theorem twAt_iff {frs:List Fr} {k:Nat} (hk:k≤frs.length):twAt frs k=true↔(frs.getD k default).o≠0∧∃ i,i<k∧(frs.getD i default).o=(frs.getD k default).o∧(frs.getD i default).at_=(frs.getD k default).at_:=by
 unfold twAt
 simp only [Bool.and_eq_true,bne_iff_ne,ne_eq,List.any_eq_true,twB,beq_iff_eq]
 constructor
 · rintro ⟨h0,x,hx,h1,h2⟩
   obtain ⟨i,hi,e⟩:=List.mem_iff_getElem.1 hx
   have hik:i<k:=by simp at hi;omega
   refine ⟨h0,i,hik,?_⟩
   have:frs.getD i default=x:=by
    rw [← e]
    have hl:i<frs.length:=by omega
    simp [List.getD_eq_getElem?_getD,hl]
   rw [this]
   exact ⟨h1,h2⟩
 · rintro ⟨h0,i,hi,h1,h2⟩
   have hl:i<frs.length:=by omega
   refine ⟨h0,frs.getD i default,?_,h1,h2⟩
   rw [List.mem_iff_getElem]
   exact ⟨i,by simp;omega,by simp [List.getD_eq_getElem?_getD,hl]⟩
theorem good_iff {M:Mv} : machF M=0↔Good M:=by
 constructor
 · intro h
   obtain ⟨s1,s2,s3⟩:=machF_sizes h
   obtain ⟨h1,h2,h3⟩:=machF_all h
   refine ⟨s1,s2,s3,(all_getD s2).1 h1,fun j hj=>machF_frame h hj,fun i j hij hj h0 hc=>?_,fun q hq=>List.all_eq_true.1 h3 q hq⟩
   have:=List.all_eq_true.1 h2 j (by simpa using hj)
   unfold frOk at this
   rw [Bool.and_eq_true] at this
   have t:=(twAt_iff (frs:=M.frs) (k:=j) (by omega)).2 ⟨h0,i,hij,hc⟩
   simp [t] at this
 · intro h
   rw [machF_eq h.s1 h.s2 h.s3,if_pos]
   simp only [Bool.and_eq_true]
   refine ⟨⟨(all_getD h.s2).2 h.en,List.all_eq_true.2 fun j hj=>?_⟩,List.all_eq_true.2 h.qu⟩
   have hj' : j<24:=by simpa using hj
   unfold frOk
   rw [Bool.and_eq_true]
   refine ⟨h.fr j hj',?_⟩
   cases ht:twAt M.frs j with
   | false=>rfl
   | true =>
     obtain ⟨h0,i,hi,hc⟩:=(twAt_iff (by have:=h.s1;omega)).1 ht
     exact absurd hc (h.tw i j hi hj' h0)
theorem goodFr_iff {ens:List En} {f:Fr} : Fr.good ens f=true↔mayW f.ws=true∧inB f.o 0 4=true∧inB f.at_ 0 7=true∧inB f.r 0 7=true∧(f.o=0→f.at_=0∧f.r=0)∧(f.o≠0→(ens.getD (f.o - 1).toNat default).st≠0):=by
 obtain ⟨o,fat,r,fa,ws,fcap⟩:=f
 rw [good_eq]
 simp only [Bool.and_eq_true]
 by_cases h:o=0
 · simp [h,and_assoc]
 · simp [h,and_assoc]
theorem goodFr_ens {ens ens' : List En} {f:Fr} (h:Fr.good ens f=true) (hs:∀ i,(ens.getD i default).st≠0→(ens'.getD i default).st≠0):Fr.good ens' f=true:=by
 rw [goodFr_iff] at h ⊢
 exact ⟨h.1,h.2.1,h.2.2.1,h.2.2.2.1,h.2.2.2.2.1,fun h0=>hs _ (h.2.2.2.2.2 h0)⟩
theorem getD_set_any {α:Type} [Inhabited α] (xs:List α) (k j:Nat) (x:α):(xs.set k x).getD j default=if j=k∧k<xs.length then x else xs.getD j default:=by
 by_cases hk:k<xs.length
 · rw [getD_set _ _ _ _ hk];simp [hk]
 · rw [List.set_eq_of_length_le (by omega)];simp [hk]
theorem Good.ens {M:Mv} (h:Good M) {k:Nat} {E:En} (hE:E.good=true) (hs:(M.ens.getD k default).st≠0→E.st≠0):Good {M with ens:=M.ens.set k E}:=by
 refine ⟨h.s1,by simpa using h.s2,h.s3,fun i hi=>?_,fun j hj=>goodFr_ens (h.fr j hj) fun i hi=>?_,h.tw,h.qu⟩
 · show ((M.ens.set k E).getD i default).good=true
   rw [getD_set_any];split
   · exact hE
   · exact h.en i hi
 · show ((M.ens.set k E).getD i default).st≠0
   rw [getD_set_any];split
   · rename_i e;rw [e.1] at hi;exact hs hi
   · exact hi
theorem Good.frm {M:Mv} (h:Good M) {k:Nat} {f:Fr} (hf:Fr.good M.ens f=true) (ht:∀ i,i<24→i≠k→f.o≠0→¬ ((M.frs.getD i default).o=f.o∧(M.frs.getD i default).at_=f.at_)):Good {M with frs:=M.frs.set k f}:=by
 refine ⟨by simpa using h.s1,h.s2,h.s3,h.en,fun j hj=>?_,fun i j hij hj h0 hc=>?_,h.qu⟩
 · show Fr.good M.ens ((M.frs.set k f).getD j default)=true
   rw [getD_set_any];split
   · exact hf
   · exact h.fr j hj
 · have hj0:((M.frs.set k f).getD j default).o≠0:=h0
   have hc' : ((M.frs.set k f).getD i default).o=((M.frs.set k f).getD j default).o∧((M.frs.set k f).getD i default).at_=((M.frs.set k f).getD j default).at_:=hc
   rw [getD_set_any] at hj0
   rw [getD_set_any,getD_set_any] at hc'
   have hl:=h.s1
   by_cases ej:j=k∧k<M.frs.length
   · rw [if_pos ej] at hj0 hc'
     rw [if_neg (by omega)] at hc'
     exact ht i (by omega) (by omega) hj0 hc'
   · rw [if_neg ej] at hj0 hc'
     by_cases ei:i=k∧k<M.frs.length
     · rw [if_pos ei] at hc'
       exact ht j hj (by omega) (by rw [hc'.1];exact hj0) ⟨hc'.1.symm,hc'.2.symm⟩
     · rw [if_neg ei] at hc'
       exact h.tw i j hij hj hj0 hc'
theorem mayW_set {ws:List Int} (h:mayW ws=true) {p:Nat} {n:Int} (hn:inB n 0 65535=true):mayW (ws.set p n)=true:=by
 unfold mayW at h ⊢
 simp only [Bool.and_eq_true,beq_iff_eq,List.length_set] at h ⊢
 refine ⟨h.1,List.all_eq_true.2 fun x hx=>?_⟩
 rcases List.mem_or_eq_of_mem_set hx with hx | rfl
 · exact List.all_eq_true.1 h.2 x hx
 · exact hn
theorem Good.word {M:Mv} (h:Good M) {k p:Nat} (hk:k<24) {n:Int} (hn:inB n 0 65535=true):Good {M with frs:=M.frs.set k {M.frs.getD k default with ws:=(M.frs.getD k default).ws.set p n}}:=by
 have hg:=goodFr_iff.1 (h.fr k hk)
 refine h.frm (goodFr_iff.2 ⟨mayW_set hg.1 hn,hg.2.1,hg.2.2.1,hg.2.2.2.1,hg.2.2.2.2.1,hg.2.2.2.2.2⟩) fun i hi hik h0 hc=>?_
 rcases Nat.lt_or_ge i k with hl | hl
 · exact h.tw i k hl hk h0 hc
 · exact h.tw k i (by omega) hi (by rw [hc.1];exact h0) ⟨hc.1.symm,hc.2.symm⟩
theorem enGood_iff {e:En} : e.good=true↔inB e.st 0 4=true∧e.log.size≤1000∧(e.st=0→e.log.size=0)∧(if e.st=3 then inB e.pc 0 65535=true∧e.words=true else e.pc=0∧e.zeros=true):=by
 unfold En.good
 simp only [Bool.and_eq_true,decide_eq_true_eq,Bool.or_eq_true,bne_iff_ne,ne_eq,beq_iff_eq]
 by_cases h3:e.st=3
 · by_cases h0:e.st=0
   · omega
   · simp [h3,and_assoc]
 · by_cases h0:e.st=0
   · simp [h0,and_assoc]
   · simp [h3,h0,and_assoc]
end Go.Proofs.YtdngbojbpmdegaaGreatDoor

namespace Go.Proofs.YtdngbojbpmdegaaGreatDoor
open Go.RowKit
set_option maxHeartbeats 800000 in
theorem place_index (a:Option Addr) (xs:List Fr) (cap:Nat) (c0 c1:Value) (p:Fr→Bool) (w:World) (hl:xs.length≤maxLen) (hx:RowsAt w 4 Fr.cells a xs)
 (hp:∀ j,j<xs.length→∀ w',Below w.heap.size w w'→Calls Tryz.prog 66 #[.agg #[.int .i64 (xs.getD j default).o,.int .i64 (xs.getD j default).at_,.int .i64 (xs.getD j default).r,.slice (xs.getD j default).a (xs.getD j default).ws.length (xs.getD j default).cap],c0,c1] w' fun e w''=>e=.returned (.bool (p (xs.getD j default)))∧Below w'.heap.size w' w'') :
 Calls Tryz.prog 67 #[.slice a xs.length cap,.func (.func 66) #[] #[c0,c1]] w fun e w'=>e=.returned (.int .i64 (idxOf p xs))∧Below w.heap.size w w':=by
 unfold maxLen at hl
 rcases hx with rfl | ⟨b,off,rfl,hc⟩
 · clear hp
   go_enter Tryz.func67,Tryz.ntmps67
   go_wp2
   refine wp_loop_rounds 1 ?_
   rw [rounds_succ]
   go_wp2
   go_ret
   exact ⟨rfl,Below.refl _ _⟩
 · go_enter Tryz.func67,Tryz.ntmps67
   go_wp2
   go_loopw [8] (fun i wr=>∃ k:Nat,k≤xs.length∧i=.int .i64 k∧Below w.heap.size w wr∧Hid (∀ j,j<k→p (xs.getD j default)=false)) (fun i _=>xs.length - (intOf i).toNat)
   case atStart=>exact ⟨0,Nat.zero_le _,rfl,Below.refl _ _,fun j hj=>absurd hj (by omega)⟩
   case round =>
    obtain ⟨k,hk,rfl,hbel,hid⟩:=hrel
    by_cases hlt:k<xs.length
    · have k0:=hc k hlt 0 (by omega);have k1:=hc k hlt 1 (by omega);have k2:=hc k hlt 2 (by omega);have k3:=hc k hlt 3 (by omega)
      have hcall:=hp k hlt
      have HP:Hid (xs.getD k default=xs.getD k default):=rfl
      obtain ⟨P,hP⟩:∃ P,xs.getD k default=P:=⟨_,rfl⟩
      rw [hP] at k0 k1 k2 k3 hcall
      have HP:Hid (xs.getD k default=P):=hP
      clear hP hc hp
      have HQ:Hid (p P=p P):=rfl
      obtain ⟨o,at_,r,fa,ws,fcap⟩:=P
      simp only [Fr.cells] at k0 k1 k2 k3
      have bl:b<w.heap.size:=lt_of_cell k0
      have l0:wr.cell? ⟨b,off+k * 4,none⟩=some (.int .i64 o):=(hbel.cell (p:=⟨b,_,none⟩) bl).trans k0;have l1:wr.cell? ⟨b,off+k * 4+1,none⟩=some (.int .i64 at_):=(hbel.cell (p:=⟨b,_,none⟩) bl).trans k1;have l2:wr.cell? ⟨b,off+k * 4+2,none⟩=some (.int .i64 r):=(hbel.cell (p:=⟨b,_,none⟩) bl).trans k2;have l3:wr.cell? ⟨b,off+k * 4+3,none⟩=some (.slice fa ws.length fcap):=(hbel.cell (p:=⟨b,_,none⟩) bl).trans k3
      clear k0 k1 k2 k3 bl
      obtain ⟨z,hz⟩:∃ z,p ⟨o,at_,r,fa,ws,fcap⟩=z:=⟨_,rfl⟩
      rw [hz] at hcall
      have HZ:Hid (p (xs.getD k default)=z):=by rw [HP.out];exact hz
      clear hz HQ
      cases z with
      | false =>
        go_wp2_with (go_at_call 66;refine (hcall _ hbel).mono ?_;rintro e w1 ⟨rfl,hb1⟩)
        go_roundw
        case rel=>exact ⟨k+1,by omega,by go_num,hbel.trans (hb1.mono hbel.size),snoc_false hid HZ.out⟩
        case measure=>simp [intOf];omega
      | true =>
        go_wp2_with (go_at_call 66;refine (hcall _ hbel).mono ?_;rintro e w1 ⟨rfl,hb1⟩)
        go_ret
        exact ⟨ret_int (idxOf_at hlt hid.out HZ.out).symm,hbel.trans (hb1.mono hbel.size)⟩
    · have hkl:k=xs.length:=by omega
      subst hkl
      clear hp hc
      go_wp2
      go_ret
      exact ⟨ret_int (idxOf_none hid.out).symm,hbel⟩
end Go.Proofs.YtdngbojbpmdegaaGreatDoor

namespace Go.Proofs.YtdngbojbpmdegaaGreatDoor
open Go.RowKit
def plB (e at_:Int) (f:Fr):Bool:=decide (0<e) && (f.o == e) && (f.at_ == at_)
def placeOf (frs:List Fr) (e at_:Int):Int:=idxOf (plB e at_) frs
theorem place1_any (o fat r e at_:Int) (fa:Option Addr) (n fcap:Nat) (b1 b2:Nat) (w:World) (h1:w.cell? ⟨b1,0,none⟩=some (.int .i64 e)) (h2:w.cell? ⟨b2,0,none⟩=some (.int .i64 at_)) :
 Calls Tryz.prog 66 #[.agg #[.int .i64 o,.int .i64 fat,.int .i64 r,.slice fa n fcap],.pointer (some ⟨b1,0,none⟩),.pointer (some ⟨b2,0,none⟩)] w fun x w' =>
  x=.returned (.bool (decide (0<e) && (o == e) && (fat == at_)))∧Below w.heap.size w w':=by
 have l1:b1<w.heap.size:=lt_of_cell h1
 have l2:b2<w.heap.size:=lt_of_cell h2
 by_cases c1:0<e
 · by_cases c2:o=e
   · subst c2
     by_cases c3:fat=at_
     · subst c3
       go_enter Tryz.func66,Tryz.ntmps66
       go_wp2
       go_ret
       exact ⟨ret_bool (by simp [c1]),(Below.refl _ _).alloc (Nat.le_refl _) _⟩
     · have c3' : (fat == at_)=false:=by simpa using c3
       go_enter Tryz.func66,Tryz.ntmps66
       go_wp2
       go_ret
       exact ⟨ret_bool (by simp [c3]),(Below.refl _ _).alloc (Nat.le_refl _) _⟩
   · have c2' : (o == e)=false:=by simpa using c2
     go_enter Tryz.func66,Tryz.ntmps66
     go_wp2
     go_ret
     exact ⟨ret_bool (by simp [c2]),(Below.refl _ _).alloc (Nat.le_refl _) _⟩
 · go_enter Tryz.func66,Tryz.ntmps66
   go_wp2
   go_ret
   exact ⟨ret_bool (by rw [decide_eq_false (by omega)];rfl),(Below.refl _ _).alloc (Nat.le_refl _) _⟩
set_option maxHeartbeats 800000 in
theorem place_any (M:Mv) (e at_:Int) (w:World) (hM:MachAt w M) :
 Calls Tryz.prog 22 #[M.val,.int .i64 e,.int .i64 at_] w fun x w'=>x=.returned (.int .i64 (placeOf M.frs e at_))∧Below w.heap.size w w':=by
 have hI:=fun (w' : World) (b1 b2:Nat) (hb:Below w.heap.size w w') (h1:w'.cell? ⟨b1,0,none⟩=some (.int .i64 e)) (h2:w'.cell? ⟨b2,0,none⟩=some (.int .i64 at_)) =>
  place_index M.fa M.frs M.fcap (.pointer (some ⟨b1,0,none⟩)) (.pointer (some ⟨b2,0,none⟩)) (plB e at_) w' hM.frl (hM.below hb).fr
   (fun j hj w'' hb'=>place1_any _ _ _ e at_ _ _ _ b1 b2 w'' ((hb'.cell (p:=⟨b1,0,none⟩) (lt_of_cell h1)).trans h1) ((hb'.cell (p:=⟨b2,0,none⟩) (lt_of_cell h2)).trans h2))
 unfold placeOf Mv.val
 generalize idxOf (plB e at_) M.frs=z at hI
 obtain ⟨fa,frs,fcap,ea,ens,ecap,qa,qus,qcap⟩:=M
 dsimp only at hI ⊢
 clear hM
 generalize frs.length=nf at hI ⊢
 generalize ens.length=ne at hI ⊢
 generalize qus.length=nq at hI ⊢
 go_enter Tryz.func22,Tryz.ntmps22
 have B3:∀ o1 o2 o3,Hid (Below w.heap.size w (((w.alloc o1).alloc o2).alloc o3)):=fun o1 o2 o3=>(((Below.refl _ _).alloc (Nat.le_refl _) _).alloc (by simp) _).alloc (by simp;omega) _
 go_wp2_with (go_at_call 67;refine (hI _ _ _ (B3 _ _ _).out (by rw [World.cell?_alloc_past _ _ _ (by simp),World.cell?_alloc_at _ _ _ _ (by simp)];rfl) (by rw [World.cell?_alloc_at _ _ _ _ (by simp)];rfl)).mono ?_;rintro x w' ⟨rfl,hb⟩)
 go_ret
 exact ⟨rfl,(B3 _ _ _).out.trans (hb.mono (by simp;omega))⟩
set_option maxHeartbeats 800000 in
theorem placeOf_any (M:Mv) (e at_:Int) (w:World) (hM:MachAt w M) :
 Calls Tryz.prog 109 #[M.val,.int .i64 e,.int .i64 at_] w fun x w'=>x=.returned (.int .i64 (placeOf M.frs e at_))∧Below w.heap.size w w':=by
 have hl:=hM.frl
 unfold maxLen at hl
 unfold placeOf Mv.val
 rcases hM.fr with h0 | ⟨b,off,h1,hc⟩
 · obtain ⟨fa,frs,fcap,ea,ens,ecap,qa,qus,qcap⟩:=M
   dsimp only at h0 ⊢
   subst h0
   clear hM
   generalize ens.length=ne
   generalize qus.length=nq
   go_enter Tryz.func109,Tryz.ntmps109
   go_wp2
   refine wp_loop_rounds 1 ?_
   rw [rounds_succ]
   go_wp2
   go_ret
   exact ⟨rfl,(Below.refl _ _).alloc (Nat.le_refl _) _⟩
 · obtain ⟨fa,frs,fcap,ea,ens,ecap,qa,qus,qcap⟩:=M
   dsimp only at h1 hc hl ⊢
   subst h1
   clear hM
   generalize ens.length=ne
   generalize qus.length=nq
   go_enter Tryz.func109,Tryz.ntmps109
   go_wp2
   go_loop [7] (fun i=>∃ k:Nat,k≤frs.length∧i=.int .i64 k∧Hid (∀ j,j<k→plB e at_ (frs.getD j default)=false)) (fun i=>frs.length - (intOf i).toNat)
   case atStart=>exact ⟨0,Nat.zero_le _,rfl,fun j hj=>absurd hj (by omega)⟩
   case round =>
    obtain ⟨k,hk,rfl,hid⟩:=hrel
    by_cases hlt:k<frs.length
    · have k0:=hc k hlt 0 (by omega)
      have k1:=hc k hlt 1 (by omega)
      obtain ⟨P,hP⟩:∃ P,frs.getD k default=P:=⟨_,rfl⟩
      rw [hP] at k0 k1
      have HP:Hid (frs.getD k default=P):=hP
      clear hP hc
      obtain ⟨o,fat,r,fa,ws,fcap'⟩:=P
      have l0:w.cell? ⟨b,off+k * 4,none⟩=some (.int .i64 o):=k0
      have l1:w.cell? ⟨b,off+k * 4+1,none⟩=some (.int .i64 fat):=k1
      have bl:b<w.heap.size:=lt_of_cell l0
      clear k0 k1
      by_cases c1:0<e
      · by_cases c2:o=e
        · subst c2
          by_cases c3:fat=at_
          · subst c3
            go_wp2
            go_ret
            exact ⟨ret_int (idxOf_at hlt hid.out (by rw [HP.out];simp [plB,c1])).symm,(Below.refl _ _).alloc (Nat.le_refl _) _⟩
          · have c3' : (fat == at_)=false:=by simpa using c3
            go_wp2
            go_round
            case rel=>exact ⟨k+1,by omega,by go_num,snoc_false hid (by rw [HP.out];simp [plB,c3])⟩
            case measure=>simp [intOf];omega
        · have c2' : (o == e)=false:=by simpa using c2
          go_wp2
          go_round
          case rel=>exact ⟨k+1,by omega,by go_num,snoc_false hid (by rw [HP.out];simp [plB,c2])⟩
          case measure=>simp [intOf];omega
      · go_wp2
        go_round
        case rel=>exact ⟨k+1,by omega,by go_num,snoc_false hid (by rw [HP.out];simp [plB,c1])⟩
        case measure=>simp [intOf];omega
    · have hkl:k=frs.length:=by omega
      subst hkl
      clear hc
      go_wp2
      go_ret
      exact ⟨ret_int (idxOf_none hid.out).symm,(Below.refl _ _).alloc (Nat.le_refl _) _⟩
end Go.Proofs.YtdngbojbpmdegaaGreatDoor

namespace Go.Proofs.YtdngbojbpmdegaaGreatDoor
open Go.RowKit
def QRow (n0:Nat) (w:World) (M:Mv):Prop:=w.ownsRow n0 90 2 (.slice M.qa M.qus.length M.qcap) M.qus.length (M.qus.flatMap Qu.cells)
theorem QRow.keep {n0:Nat} {w w' : World} {M:Mv} (h:QRow n0 w M) (hw:∀ b o s,M.qa=some ⟨b,o,s⟩→w'.heap[b]? = w.heap[b]?):QRow n0 w' M:=by
 refine ⟨h.1,?_⟩
 rcases h.2 with h2 | ⟨g,cap,cur,hv,hb,hg,h3⟩
 · exact .inl h2
 · refine .inr ⟨g,cap,cur,hv,hb,?_,h3⟩
   simp only [Value.slice.injEq] at hv
   rw [hw g 0 none hv.1]
   exact hg
theorem QRow.mono {n0 n1:Nat} {w:World} {M:Mv} (h:QRow n0 w M) (hn:n1≤n0):QRow n1 w M:=by
 refine ⟨h.1,?_⟩
 rcases h.2 with h2 | ⟨g,cap,cur,hv,hb,h3⟩
 · exact .inl h2
 · exact .inr ⟨g,cap,cur,hv,Nat.le_trans hn hb,h3⟩
theorem QRow.of_block {n0:Nat} {w:World} {M:Mv} {Z:Nat} {zs:List Value} (hZ:n0≤Z) (ha:M.qa=some ⟨Z,0,none⟩) (h:w.heap[Z]? = some (.cells (M.qus.flatMap Qu.cells ++ zs).toArray 90 (0,0))) (hc:(M.qus.flatMap Qu.cells ++ zs).length=M.qcap * 2) (hl:M.qus.length≤M.qcap) (hm:M.qcap≤maxLen):QRow n0 w M:=by
 have hf:(M.qus.flatMap Qu.cells).length=M.qus.length * 2:=flat_len (cells:=Qu.cells) (c:=2) (fun _=>rfl) M.qus
 refine ⟨hf,.inr ⟨Z,M.qcap,_,by rw [ha],hZ,h,hl,hm,by simpa using hc,?_⟩⟩
 rw [← hf]
 simp
theorem QRow.none {n0:Nat} {w:World} {M:Mv} (ha:M.qa=none) (hq:M.qus = []) (hc:M.qcap=0):QRow n0 w M:=by
 refine ⟨by rw [hq];rfl,.inl ⟨by rw [ha,hq,hc];rfl,by rw [hq];rfl⟩⟩
end Go.Proofs.YtdngbojbpmdegaaGreatDoor
