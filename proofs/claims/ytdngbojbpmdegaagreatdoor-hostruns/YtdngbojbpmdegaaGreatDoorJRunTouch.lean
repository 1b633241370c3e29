import Derived.Test.YtdngbojbpmdegaaGreatDoorJQRow
import Derived.Handy
import Derived.Outline
import Derived.Deep.CutRange
import Derived.Deep.RegionLaw
namespace Go.Proofs.YtdngbojbpmdegaaGreatDoor
open Go.RowKit
def hasR (r right:Int):Bool:=if right=1 then r % 2 == 1 else if right=2 then r / 2 % 2 == 1 else r / 4 == 1
def shF (frs:List Fr) (n right:Int):Int:=if right=4 then -1 else if 24≤(n - 64) / 8 then -1 else if (frs.getD ((n - 64) / 8).toNat default).o=0 then (n - 64) / 8 else -1
def frmF (frs:List Fr) (e n right:Int):Int:=
 if 64≤n then shF frs n right
 else if placeOf frs e (n / 8)<0 then -1 else if hasR (frs.getD (placeOf frs e (n / 8)).toNat default).r right=true then placeOf frs e (n / 8) else -1
def wordAt (M:Mv) (f n:Int):Int:=(M.frs.getD f.toNat default).ws.getD (n % 8).toNat 0
theorem place_lt (frs:List Fr) (e a:Int):placeOf frs e a<frs.length:=by
 unfold placeOf idxOf
 cases h:frs.findIdx? (plB e a) with
 | none=>simp only;omega
 | some i =>
   obtain ⟨h1,_⟩:=List.findIdx?_eq_some_iff_getElem.1 h
   simp only;omega
theorem place_ge (frs:List Fr) (e a:Int) : -1≤placeOf frs e a:=by
 unfold placeOf idxOf
 cases h:frs.findIdx? (plB e a) with
 | none=>simp only;omega
 | some i=>simp only;omega
theorem frmF_lt {frs:List Fr} (hl:frs.length=24) (e n right:Int) (_h0:0≤n):frmF frs e n right<24∧-1≤frmF frs e n right:=by
 have hp:=place_lt frs e (n / 8)
 have hq:=place_ge frs e (n / 8)
 rw [hl] at hp
 unfold frmF shF
 split
 · split
   · omega
   · split
     · omega
     · split
       · omega
       · omega
 · split
   · omega
   · split
     · omega
     · omega
theorem frmF_cases {frs:List Fr} (hl:frs.length=24) (e n right:Int) (h0:0≤n):frmF frs e n right=-1∨∃ k:Nat,k<24∧frmF frs e n right=(k:Int):=by
 obtain ⟨h1,h2⟩:=frmF_lt hl e n right h0
 rcases Int.lt_or_le (frmF frs e n right) 0 with h | h
 · left;omega
 · right;exact ⟨(frmF frs e n right).toNat,by omega,by omega⟩
structure Rn where
 M:Mv
 pc:Int
 rs:List Int
 nd:Int
 v:Int
def putWord (M:Mv) (f n v:Int):Mv:={M with frs:=M.frs.set f.toNat {M.frs.getD f.toNat default with ws:=(M.frs.getD f.toNat default).ws.set (n % 8).toNat v}}
def sayM (M:Mv) (m:Nat) (v:Int):Mv:={M with qus:=M.qus ++ [⟨(M.ens.getD m default).log,v⟩]}
def kindR (x:Int):Int:=x % 16
def regA (x:Int):Nat:=(x / 16 % 4).toNat
def regB (x:Int):Nat:=(x / 256 % 4).toNat
def doR (M:Mv) (m:Nat) (pc:Int) (rs:List Int) (x n:Int) (xr:Int→Int→Int):Rn:=
 if kindR x=1 then ⟨M,pc+2,rs.set (regA x) n,0,0⟩
 else if kindR x=2 then ⟨M,pc+2,rs.set (regA x) ((rs.getD (regA x) 0+rs.getD (regB x) 0) % 65536),0,0⟩
 else if kindR x=3 then ⟨M,pc+2,rs.set (regA x) (xr (rs.getD (regA x) 0) (rs.getD (regB x) 0)),0,0⟩
 else if kindR x=4 then ⟨M,pc+2,rs.set (regA x) (if rs.getD (regA x) 0<rs.getD (regB x) 0 then 1 else 0),0,0⟩
 else if kindR x=5 then (if frmF M.frs ((m:Int)+1) (rs.getD (regB x) 0) 1<0 then ⟨M,pc+2,rs,3,0⟩ else ⟨M,pc+2,rs.set (regA x) (wordAt M (frmF M.frs ((m:Int)+1) (rs.getD (regB x) 0) 1) (rs.getD (regB x) 0)),0,0⟩)
 else if kindR x=6 then (if frmF M.frs ((m:Int)+1) (rs.getD (regB x) 0) 2<0 then ⟨M,pc+2,rs,3,0⟩ else ⟨putWord M (frmF M.frs ((m:Int)+1) (rs.getD (regB x) 0) 2) (rs.getD (regB x) 0) (rs.getD (regA x) 0),pc+2,rs,0,0⟩)
 else if kindR x=7 then ⟨M,if rs.getD (regA x) 0=0 then n else pc+2,rs,0,0⟩
 else if kindR x=8 then ⟨M,pc+2,rs,1,rs.getD (regA x) 0⟩
 else if kindR x=9 then (if 40≤M.qus.length then ⟨M,pc+2,rs,3,0⟩ else ⟨sayM M m (rs.getD (regA x) 0),pc+2,rs,0,0⟩)
 else ⟨M,pc+2,rs,3,0⟩
def stepR (M:Mv) (m:Nat) (pc:Int) (rs:List Int) (xr:Int→Int→Int):Rn:=
 if frmF M.frs ((m:Int)+1) pc 4<0∨frmF M.frs ((m:Int)+1) (pc+1) 4<0 then ⟨M,pc,rs,3,0⟩
 else doR M m pc rs (wordAt M (frmF M.frs ((m:Int)+1) pc 4) pc) (wordAt M (frmF M.frs ((m:Int)+1) (pc+1) 4) (pc+1)) xr
def runR:Nat→Mv→Nat→Int→List Int→(Int→Int→Int)→Rn
 | 0,M,_,pc,rs,_=>⟨M,pc,rs,2,0⟩
 | n+1,M,m,pc,rs,xr=>if (stepR M m pc rs xr).nd=0 then runR n (stepR M m pc rs xr).M m (stepR M m pc rs xr).pc (stepR M m pc rs xr).rs xr else stepR M m pc rs xr
def leftE (E:En) (R:Rn):En:=
 if R.nd=1 then ⟨2,E.log,0,0,0,0,0⟩ else if R.nd=2 then ⟨3,E.log,R.pc,R.rs.getD 0 0,R.rs.getD 1 0,R.rs.getD 2 0,R.rs.getD 3 0⟩ else ⟨4,E.log,0,0,0,0,0⟩
def leftM (R:Rn) (m:Nat):Mv:={R.M with ens:=R.M.ens.set m (leftE (R.M.ens.getD m default) R)}
structure RunOk (M:Mv) (m:Nat) (pc:Int) (rs:List Int):Prop where
 good:Good M
 m4:m<4
 pc:0≤pc∧pc≤65535
 len:rs.length=4
 rs:∀ i,0≤rs.getD i 0∧rs.getD i 0≤65535
 st:(M.ens.getD m default).st≠0
theorem getD_mem {l:List Int} {i:Nat} (h:i<l.length):l.getD i 0 ∈ l:=by
 rw [List.getD_eq_getElem?_getD,List.getElem?_eq_getElem h];exact List.getElem_mem h
theorem wordAt_in {M:Mv} (h:Good M) {k:Nat} (hk:k<24) (n:Int):0≤wordAt M k n∧wordAt M k n≤65535:=by
 have hg:=(goodFr_iff.1 (h.fr k hk)).1
 unfold wordAt
 rw [Int.toNat_natCast]
 unfold mayW at hg
 simp only [Bool.and_eq_true,beq_iff_eq,List.all_eq_true] at hg
 by_cases hb:(n % 8).toNat<(M.frs.getD k default).ws.length
 · have:=inB_iff.1 (hg.2 ((M.frs.getD k default).ws.getD (n % 8).toNat 0) (getD_mem hb))
   omega
 · rw [List.getD_eq_getElem?_getD,List.getElem?_eq_none (by omega)]
   simp
theorem run_at {M:Mv} {e n:Int} (h:¬ frmF M.frs e n 4<0) (h0:0≤n):n<64:=by
 unfold frmF at h
 split at h
 · unfold shF at h
   rw [if_pos rfl] at h
   omega
 · omega
theorem rs_set {rs:List Int} (hl:rs.length=4) (h:∀ i,0≤rs.getD i 0∧rs.getD i 0≤65535) (a:Nat) {v:Int} (hv:0≤v∧v≤65535):(rs.set a v).length=4∧∀ i,0≤(rs.set a v).getD i 0∧(rs.set a v).getD i 0≤65535:=by
 refine ⟨by simpa using hl,fun i=>?_⟩
 by_cases e:i=a
 · subst e
   by_cases hi:i<rs.length
   · simp [List.getD_eq_getElem?_getD,hi];exact hv
   · rw [List.getD_eq_getElem?_getD,List.getElem?_eq_none (by simp;omega)];simp
 · have:(rs.set a v).getD i 0=rs.getD i 0:=by simp [List.getD_eq_getElem?_getD,List.getElem?_set_ne (Ne.symm e)]
   rw [this];exact h i
theorem say_good {M:Mv} (h:Good M) {m:Nat} (hm:m<4) {v:Int} (hv:0≤v∧v≤65535) (hq:¬ 40≤M.qus.length):Good (sayM M m v):=by
 refine ⟨h.s1,h.s2,by show (M.qus ++ _).length≤40;simp;omega,h.en,h.fr,h.tw,fun q hq=>?_⟩
 have hq' : q ∈ M.qus ++ [⟨(M.ens.getD m default).log,v⟩]:=hq
 rcases List.mem_append.1 hq' with hq | hq
 · exact h.qu q hq
 · simp only [List.mem_cons,List.not_mem_nil,or_false] at hq
   subst hq
   have:=(enGood_iff.1 (h.en m hm)).2.1
   unfold Qu.good
   simp only [Bool.and_eq_true,decide_eq_true_eq]
   exact ⟨this,inB_iff.2 hv⟩
theorem step_ok {M:Mv} {m:Nat} {pc:Int} {rs:List Int} (h:RunOk M m pc rs) {xr:Int→Int→Int} (hx:∀ a b,0≤a∧a≤65535→0≤b∧b≤65535→0≤xr a b∧xr a b≤65535) (hn:(stepR M m pc rs xr).nd=0) :
 RunOk (stepR M m pc rs xr).M m (stepR M m pc rs xr).pc (stepR M m pc rs xr).rs:=by
 have same:∀ {pc' : Int} {rs' : List Int},(0≤pc'∧pc'≤65535)→(rs'.length=4∧∀ i,0≤rs'.getD i 0∧rs'.getD i 0≤65535)→RunOk M m pc' rs':=fun hp hr=>⟨h.good,h.m4,hp,hr.1,hr.2,h.st⟩
 unfold stepR at hn ⊢
 split at hn
 · simp at hn
 · rename_i hff
   rw [if_neg hff]
   rw [not_or] at hff
   have hp:=run_at hff.1 h.pc.1
   have hp2:0≤pc+2∧pc+2≤65535:=by have:=h.pc;omega
   obtain ⟨g,hg,eg⟩:∃ g:Nat,g<24∧frmF M.frs ((m:Int)+1) (pc+1) 4=(g:Int):=by
    rcases frmF_cases h.good.s1 ((m:Int)+1) (pc+1) 4 (by have:=h.pc;omega) with e | e
    · exact absurd (by rw [e];omega) hff.2
    · exact e
   have hN:=wordAt_in h.good hg (pc+1)
   rw [eg] at hn ⊢
   generalize wordAt M (g:Int) (pc+1)=nn at hn hN ⊢
   generalize wordAt M (frmF M.frs ((m:Int)+1) pc 4) pc=x at hn ⊢
   unfold doR at hn ⊢
   split at hn
   · rename_i c;rw [if_pos c];exact same hp2 (rs_set h.len h.rs _ hN)
   · rename_i c;rw [if_neg c]
     split at hn
     · rename_i c;rw [if_pos c];exact same hp2 (rs_set h.len h.rs _ (by omega))
     · rename_i c;rw [if_neg c]
       split at hn
       · rename_i c;rw [if_pos c];exact same hp2 (rs_set h.len h.rs _ (hx _ _ (h.rs _) (h.rs _)))
       · rename_i c;rw [if_neg c]
         split at hn
         · rename_i c;rw [if_pos c];exact same hp2 (rs_set h.len h.rs _ (by split<;>omega))
         · rename_i c;rw [if_neg c]
           split at hn
           · rename_i c;rw [if_pos c]
             split at hn
             · simp at hn
             · rename_i c;rw [if_neg c]
               obtain ⟨k,hk,ek⟩:∃ k:Nat,k<24∧frmF M.frs ((m:Int)+1) (rs.getD (regB x) 0) 1=(k:Int):=by
                rcases frmF_cases h.good.s1 ((m:Int)+1) (rs.getD (regB x) 0) 1 (h.rs _).1 with e | e
                · exact absurd (by rw [e];omega) c
                · exact e
               rw [ek]
               exact same hp2 (rs_set h.len h.rs _ (wordAt_in h.good hk _))
           · rename_i c;rw [if_neg c]
             split at hn
             · rename_i c;rw [if_pos c]
               split at hn
               · simp at hn
               · rename_i c;rw [if_neg c]
                 obtain ⟨k,hk,ek⟩:∃ k:Nat,k<24∧frmF M.frs ((m:Int)+1) (rs.getD (regB x) 0) 2=(k:Int):=by
                  rcases frmF_cases h.good.s1 ((m:Int)+1) (rs.getD (regB x) 0) 2 (h.rs _).1 with e | e
                  · exact absurd (by rw [e];omega) c
                  · exact e
                 rw [ek]
                 unfold putWord
                 rw [Int.toNat_natCast]
                 exact ⟨h.good.word hk (inB_iff.2 (h.rs _)),h.m4,hp2,h.len,h.rs,h.st⟩
             · rename_i c;rw [if_neg c]
               split at hn
               · rename_i c;rw [if_pos c]
                 exact same (by dsimp only;split<;>omega) ⟨h.len,h.rs⟩
               · rename_i c;rw [if_neg c]
                 split at hn
                 · simp at hn
                 · rename_i c;rw [if_neg c]
                   split at hn
                   · rename_i c;rw [if_pos c]
                     split at hn
                     · simp at hn
                     · rename_i c;rw [if_neg c]
                       exact ⟨say_good h.good h.m4 (h.rs _) c,h.m4,hp2,h.len,h.rs,h.st⟩
                   · simp at hn
end Go.Proofs.YtdngbojbpmdegaaGreatDoor

namespace Go.Proofs.YtdngbojbpmdegaaGreatDoor
open Go.RowKit
structure CoreAt (w:World) (cb:Nat) (M:Mv) (e pc:Int) (rs:List Int):Prop where
 c0:w.cell? ⟨cb,0,none⟩=some (.slice M.fa M.frs.length M.fcap)
 c1:w.cell? ⟨cb,1,none⟩=some (.slice M.ea M.ens.length M.ecap)
 c2:w.cell? ⟨cb,2,none⟩=some (.slice M.qa M.qus.length M.qcap)
 c3:w.cell? ⟨cb,3,none⟩=some (.int .i64 e)
 c4:w.cell? ⟨cb,4,none⟩=some (.int .i64 pc)
 cr:∀ i,i<4→w.cell? ⟨cb,5+i,none⟩=some (.int .i64 (rs.getD i 0))
 fz:∀ o,w.frozen? ⟨cb,o,none⟩=false
 lt:cb<w.heap.size
theorem CoreAt.below {w w' : World} {cb:Nat} {M:Mv} {e pc:Int} {rs:List Int} (h:CoreAt w cb M e pc rs) (hb:Below w.heap.size w w'):CoreAt w' cb M e pc rs:=
 ⟨(hb.cell (p:=⟨cb,0,none⟩) h.lt).trans h.c0,(hb.cell (p:=⟨cb,1,none⟩) h.lt).trans h.c1,(hb.cell (p:=⟨cb,2,none⟩) h.lt).trans h.c2,(hb.cell (p:=⟨cb,3,none⟩) h.lt).trans h.c3,(hb.cell (p:=⟨cb,4,none⟩) h.lt).trans h.c4,fun i hi=>(hb.cell (p:=⟨cb,5+i,none⟩) h.lt).trans (h.cr i hi),fun o=>(hb.frozen (p:=⟨cb,o,none⟩) h.lt).trans (h.fz o),Nat.lt_of_lt_of_le h.lt hb.size⟩
theorem place_cases' (frs:List Fr) (e a:Int):placeOf frs e a=-1∨∃ k:Nat,placeOf frs e a=(k:Int)∧k<frs.length:=by
 have h1:=place_lt frs e a
 have h2:=place_ge frs e a
 rcases Int.lt_or_le (placeOf frs e a) 0 with h | h
 · left;omega
 · right;exact ⟨(placeOf frs e a).toNat,by omega,by omega⟩
set_option maxHeartbeats 2000000 in
theorem sharedFrame_run (M:Mv) (e pc n right:Int) (rs:List Int) (cb:Nat) (w:World) (hC:CoreAt w cb M e pc rs) (hM:MachAt w M) (hl:M.frs.length=24) (h64:64≤n) (hn:n≤1000000) :
 Calls Tryz.prog 164 #[.pointer (some ⟨cb,0,none⟩),.int .i64 n,.int .i64 right] w fun x w'=>x=.returned (.int .i64 (shF M.frs n right))∧w=w':=by
 have hS:shF M.frs n right=if right=4 then -1 else if 24≤(n - 64) / 8 then -1 else if (M.frs.getD ((n - 64) / 8).toNat default).o=0 then (n - 64) / 8 else -1:=rfl
 have c0:=hC.c0
 rw [hl] at c0
 have hw:IntKind.i64.wrap (n - 64)=n - 64:=by rw [IntKind.wrap_i64];omega
 have hq:Int.tdiv (n - 64) 8=(n - 64) / 8:=Int.tdiv_eq_ediv_of_nonneg (by omega)
 have hq2:IntKind.i64.wrap ((n - 64) / 8)=(n - 64) / 8:=by rw [IntKind.wrap_i64];omega
 obtain ⟨k,hk⟩:∃ k:Nat,(n - 64) / 8=(k:Int):=⟨((n - 64) / 8).toNat,by omega⟩
 rw [hk] at hS hq hq2
 by_cases h4:right=4
 · rw [if_pos h4] at hS
   rw [hS]
   subst h4
   clear hM hC hS
   go_enter Tryz.func164,Tryz.ntmps164
   go_wp2
   go_ret
   exact ⟨rfl,rfl⟩
 · rw [if_neg h4] at hS
   have h4' : (right == 4)=false:=by simpa using h4
   by_cases hb:24≤(k:Int)
   · rw [if_pos hb] at hS
     rw [hS]
     clear hM hC hS
     go_enter Tryz.func164,Tryz.ntmps164
     go_wp2
     go_ret
     exact ⟨rfl,rfl⟩
   · rw [if_neg hb,Int.toNat_natCast] at hS
     have hb' : (k:Int)<24:=by omega
     obtain ⟨fb,fo,hfa,t0,_⟩:=hM.frame (j:=k) (by omega)
     rw [hfa] at c0
     obtain ⟨ow,how⟩:∃ ow,(M.frs.getD k default).o=ow:=⟨_,rfl⟩
     rw [how] at hS t0
     by_cases ho:ow=0
     · rw [if_pos ho] at hS
       rw [hS]
       subst ho
       clear hM hC hS
       go_enter Tryz.func164,Tryz.ntmps164
       go_wp2
       go_ret
       exact ⟨rfl,rfl⟩
     · rw [if_neg ho] at hS
       rw [hS]
       have ho' : (ow != 0)=true:=by simpa using ho
       clear hM hC hS
       go_enter Tryz.func164,Tryz.ntmps164
       go_wp2
       go_ret
       exact ⟨rfl,rfl⟩
end Go.Proofs.YtdngbojbpmdegaaGreatDoor

namespace Go.Proofs.YtdngbojbpmdegaaGreatDoor
open Go.RowKit
theorem and_has {r right:Int} (h0:0≤r) (h7:r≤7) (hr:right=1∨right=2∨right=4):(bits .and .i64 r right == 0) = !hasR r right:=by
 have:r=0∨r=1∨r=2∨r=3∨r=4∨r=5∨r=6∨r=7:=by omega
 rcases this with rfl | rfl | rfl | rfl | rfl | rfl | rfl | rfl<;>rcases hr with rfl | rfl | rfl<;>decide +kernel
set_option maxRecDepth 100000 in
set_option maxHeartbeats 4000000 in
theorem frame_run (M:Mv) (e pc n right:Int) (rs:List Int) (cb:Nat) (w:World) (hC:CoreAt w cb M e pc rs) (hM:MachAt w M) (hG:Good M) (h0:0≤n) (hn:n≤1000000) (hr:right=1∨right=2∨right=4) :
 Calls Tryz.prog 159 #[.pointer (some ⟨cb,0,none⟩),.int .i64 n,.int .i64 right] w fun x w'=>x=.returned (.int .i64 (frmF M.frs e n right))∧Below w.heap.size w w':=by
 have hS:frmF M.frs e n right=if 64≤n then shF M.frs n right else if placeOf M.frs e (n / 8)<0 then -1 else if hasR (M.frs.getD (placeOf M.frs e (n / 8)).toNat default).r right=true then placeOf M.frs e (n / 8) else -1:=rfl
 by_cases h64:64≤n
 · rw [if_pos h64] at hS
   rw [hS]
   have h1:=sharedFrame_run M e pc n right rs cb w hC hM hG.s1 h64 hn
   clear hC hM hG hS
   generalize shF M.frs n right=z at h1
   go_enter Tryz.func159,Tryz.ntmps159
   go_wp2_with (go_at_call 164;refine h1.mono ?_;rintro x w' ⟨rfl,rfl⟩)
   go_ret
   exact ⟨rfl,Below.refl _ _⟩
 · rw [if_neg h64] at hS
   have h64' : n<64:=by omega
   have hq:Int.tdiv n 8=n / 8:=Int.tdiv_eq_ediv_of_nonneg h0
   have hq2:IntKind.i64.wrap (n / 8)=n / 8:=by rw [IntKind.wrap_i64];omega
   have h1:=fun w' (h:Below w.heap.size w w')=>place_any M e (n / 8) w' (hM.below h)
   unfold Mv.val at h1
   have c0:=hC.c0
   have c1:=hC.c1
   have c2:=hC.c2
   have c3:=hC.c3
   have HC:Hid (_):=hC
   have hl:=hG.s1
   rw [hl] at c0 h1
   rcases place_cases' M.frs e (n / 8) with hp | ⟨k,hp,hk⟩
   · rw [hp,if_pos (by omega)] at hS
     rw [hS]
     rw [hp] at h1
     clear hM hG hC hS hl
     go_enter Tryz.func159,Tryz.ntmps159
     go_upto_region 3 with fail
     go_region_law (go_simp;go_at_call 22;refine (h1 _ (Below.refl _ _).drew).mono ?_;clear h1;rintro x w1 ⟨rfl,hb⟩;have HB:Hid (Below w.heap.size w w1):=(Below.refl _ _).drew.trans hb;clear hb;dsimp only)
     all_goals
      go_wp2
      go_ret
      exact ⟨rfl,HB.out⟩
   · rw [hp,if_neg (by omega),Int.toNat_natCast] at hS
     rw [hp] at h1
     obtain ⟨fb,fo,hfa,_,_,t2,_⟩:=hM.frame (j:=k) hk
     obtain ⟨r,hrr⟩:∃ r,(M.frs.getD k default).r=r:=⟨_,rfl⟩
     have hg:=goodFr_iff.1 (hG.fr k (by omega))
     have r7:=inB_iff.1 hg.2.2.2.1
     rw [hrr] at hS t2 r7
     have hki:(k:Int)<24:=by omega
     rw [hfa] at c0 h1
     have hge:¬ ((k:Int)<0):=by omega
     have HT2:Hid (_):=t2
     clear hM hG hC hg hl
     have hand:=and_has r7.1 r7.2 hr
     cases hh:hasR r right with
     | true =>
       rw [hh,if_pos rfl] at hS
       rw [hS]
       rw [hh] at hand
       clear hS
       go_enter Tryz.func159,Tryz.ntmps159
       go_upto_region 3 with fail
       go_region_law (go_simp;go_at_call 22;refine (h1 _ (Below.refl _ _).drew).mono ?_;clear h1;rintro x w1 ⟨rfl,hb⟩;have HB:Hid (Below w.heap.size w w1):=(Below.refl _ _).drew.trans hb;have d0:w1.cell? ⟨cb,0,none⟩=some (.slice (some ⟨fb,fo,none⟩) 24 M.fcap):=(HB.out.cell (p:=⟨cb,0,none⟩) HC.out.lt).trans c0;have d2:=(HB.out.cell (p:=⟨fb,fo+k * 4+2,none⟩) (lt_of_cell HT2.out)).trans HT2.out;clear hb;dsimp only)
       all_goals
        go_wp2
        go_ret
        exact ⟨rfl,HB.out⟩
     | false =>
       rw [hh,if_neg (by simp)] at hS
       rw [hS]
       rw [hh] at hand
       clear hS
       go_enter Tryz.func159,Tryz.ntmps159
       go_upto_region 3 with fail
       go_region_law (go_simp;go_at_call 22;refine (h1 _ (Below.refl _ _).drew).mono ?_;clear h1;rintro x w1 ⟨rfl,hb⟩;have HB:Hid (Below w.heap.size w w1):=(Below.refl _ _).drew.trans hb;have d0:w1.cell? ⟨cb,0,none⟩=some (.slice (some ⟨fb,fo,none⟩) 24 M.fcap):=(HB.out.cell (p:=⟨cb,0,none⟩) HC.out.lt).trans c0;have d2:=(HB.out.cell (p:=⟨fb,fo+k * 4+2,none⟩) (lt_of_cell HT2.out)).trans HT2.out;clear hb;dsimp only)
       all_goals
        go_wp2
        go_ret
        exact ⟨rfl,HB.out⟩
set_option maxRecDepth 100000 in
set_option maxHeartbeats 4000000 in
theorem touch_none (M:Mv) (e pc n right:Int) (rs:List Int) (cb:Nat) (w:World) (hC:CoreAt w cb M e pc rs) (hM:MachAt w M) (hG:Good M) (h0:0≤n) (hn:n≤1000000) (hr:right=1∨right=2∨right=4) (hf:frmF M.frs e n right=-1) :
 Calls Tryz.prog 156 #[.pointer (some ⟨cb,0,none⟩),.int .i64 n,.int .i64 right] w fun x w'=>x=.returned (.pointer none)∧Below w.heap.size w w':=by
 have h1:=frame_run M e pc n right rs cb w hC hM hG h0 hn hr
 rw [hf] at h1
 clear hC hM hG hf
 go_enter Tryz.func156,Tryz.ntmps156
 go_wp2_with (go_at_call 159;refine h1.mono ?_;clear h1;rintro x w1 ⟨rfl,hb⟩)
 go_ret
 exact ⟨rfl,hb⟩
set_option maxRecDepth 100000 in
set_option maxHeartbeats 4000000 in
theorem touch_some (M:Mv) (e pc n right:Int) (rs:List Int) (cb k:Nat) (w:World) (hC:CoreAt w cb M e pc rs) (hM:MachAt w M) (hG:Good M) (h0:0≤n) (hn:n≤1000000) (hr:right=1∨right=2∨right=4) (hf:frmF M.frs e n right=(k:Int)) (hk:k<24) :
 Calls Tryz.prog 156 #[.pointer (some ⟨cb,0,none⟩),.int .i64 n,.int .i64 right] w fun x w'=>∃ b o,(M.frs.getD k default).a=some ⟨b,o,none⟩∧x=.returned (.pointer (some ⟨b,o+(n % 8).toNat,none⟩))∧Below w.heap.size w w':=by
 have h1:=frame_run M e pc n right rs cb w hC hM hG h0 hn hr
 rw [hf] at h1
 have hl:=hG.s1
 obtain ⟨fb,fo,hfa,_,_,_,t3⟩:=hM.frame (j:=k) (by omega)
 have hg:=goodFr_iff.1 (hG.fr k hk)
 have hw8:(M.frs.getD k default).ws.length=8:=(mayW_iff.1 hg.1).1
 obtain ⟨b,o,ha⟩:∃ b o,(M.frs.getD k default).a=some ⟨b,o,none⟩:=by
  rcases (hM.frok k (by omega)).ints with e | ⟨b,o,e,_⟩
  · rw [e] at hw8;simp at hw8
  · exact ⟨b,o,e⟩
 have HA:Hid (_):=ha
 rw [ha,hw8] at t3
 obtain ⟨i,hi⟩:∃ i:Nat,n % 8=(i:Int):=⟨(n % 8).toNat,by omega⟩
 have hi8:(i:Int)<8:=by omega
 have hq:Int.tmod n 8=(i:Int):=by rw [Int.tmod_eq_emod_of_nonneg h0,hi]
 have hq2:IntKind.i64.wrap (i:Int)=(i:Int):=by rw [IntKind.wrap_i64];omega
 have HI:Hid ((n % 8).toNat=i):=by show _=_;rw [hi];omega
 have c0:=hC.c0
 rw [hl,hfa] at c0
 have hk24:(k:Int)<24:=by omega
 have hge:¬ ((k:Int)<0):=by omega
 have lc:=hC.lt
 have lf:fb<w.heap.size:=lt_of_cell t3
 have C0:Hid (_):=c0
 have T3:Hid (_):=t3
 clear hC hM hG hf hg hw8 ha hi hl hfa c0 t3
 go_enter Tryz.func156,Tryz.ntmps156
 go_wp2_with (go_at_call 159;refine h1.mono ?_;clear h1;rintro x w1 ⟨rfl,hb⟩;have HB:Hid (_):=hb;have c0:=(hb.cell (p:=⟨cb,0,none⟩) lc).trans C0.out;have t3:=(hb.cell (p:=⟨fb,fo+k * 4+3,none⟩) lf).trans T3.out;clear hb)
 go_ret
 exact ⟨b,o,HA.out,by rw [HI.out];rfl,HB.out⟩
end Go.Proofs.YtdngbojbpmdegaaGreatDoor
