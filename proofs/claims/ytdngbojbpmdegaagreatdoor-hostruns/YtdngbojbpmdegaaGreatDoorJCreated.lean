import Derived.Test.YtdngbojbpmdegaaGreatDoorJPutMath
import Derived.Test.YtdngbojbpmdegaaGreatDoorJScrMem
import Derived.Deep.RegionHeld3
import Derived.Test.YtdngbojbpmdegaaGreatDoorJHostMath
import Derived.Deep.OwnRows
import Derived.Laws.CopyOwn
import Derived.Test.YtdngbojbpmdegaaGreatDoorJAc
import Derived.Deep.Heap
import Derived.Test.YtdngbojbpmdegaaGreatDoorHostRun
import Derived.Test.YtdngbojbpmdegaaGreatDoorJAppRows
import Derived.Test.YtdngbojbpmdegaaGreatDoorJCCopy
import Derived.Test.YtdngbojbpmdegaaGreatDoorJCreate
namespace Go.Proofs.YtdngbojbpmdegaaGreatDoor
open Go.RowKit
def sOpen:List UInt8:=[111,112,101,110,59]
end Go.Proofs.YtdngbojbpmdegaaGreatDoor

namespace Go.Proofs.YtdngbojbpmdegaaGreatDoor
open Go.RowKit
def val (l:List UInt8):Nat:=l.foldl (fun a c=>10 * a+(c.toNat - 48)) 0
end Go.Proofs.YtdngbojbpmdegaaGreatDoor

namespace Go.Proofs.YtdngbojbpmdegaaGreatDoor
open Go.RowKit
end Go.Proofs.YtdngbojbpmdegaaGreatDoor

namespace Go.Proofs.YtdngbojbpmdegaaGreatDoor
open Go.RowKit
inductive Lg where
 | pg (a r:Int)
 | wd (a:Int) (ws:List Int)
def Lg.bytes:Lg→List UInt8
 | .pg a r=>entryL sPage [a,r]
 | .wd a ws=>entryL sWords (a :: ws)
def Lg.Pos:Lg→Prop
 | .pg a r=>0≤a∧0≤r
 | .wd a ws=>0≤a∧∀ n ∈ ws,0≤n
def Lg.isPg:Lg→Bool
 | .pg _ _=>true
 | .wd _ _=>false
def ownB (e:Int) (f:Fr):Bool:=f.o == e
theorem countP_upto {p q:Fr→Bool} {xs ys:List Fr} (hl:xs.length=ys.length) (h:∀ j,j<xs.length→p (xs.getD j default)=q (ys.getD j default)):xs.countP p=ys.countP q:=by
 have e:xs.map p=ys.map q:=by
  apply List.ext_getElem (by simpa using hl)
  intro j h1 h2
  have h3:j<xs.length:=by simpa using h1
  have h4:j<ys.length:=by simpa using h2
  have:=h j h3
  simpa [List.getD_eq_getElem?_getD,h3,h4] using this
 have e1:∀ (zs:List Fr) (r:Fr→Bool),zs.countP r=(zs.map r).countP id:=fun zs r=>by rw [List.countP_map];rfl
 rw [e1 xs p,e1 ys q,e]
structure Logs (M:Mv) (m:Nat) (L:List Lg):Prop where
 log:(M.ens.getD m default).log=txt (sOpen ++ L.flatMap Lg.bytes)
 pos:∀ x ∈ L,x.Pos
 pg:∀ a r,Lg.pg a r ∈ L→∃ j,j<24∧(M.frs.getD j default).o=(m:Int)+1∧(M.frs.getD j default).at_=a∧(M.frs.getD j default).r=r
 wd:∀ a ws,Lg.wd a ws ∈ L→∃ j,j<24∧(M.frs.getD j default).o=(m:Int)+1∧(M.frs.getD j default).at_=a∧(M.frs.getD j default).ws=ws
 cnt:M.frs.countP (ownB ((m:Int)+1))=L.countP Lg.isPg
def KeptM (M M' : Mv) (m:Nat):Prop:=∀ j,j<24→(M.frs.getD j default).o=(m:Int)+1∨(M'.frs.getD j default).o=(m:Int)+1→M'.frs.getD j default=M.frs.getD j default
theorem kept_count {M M' : Mv} {m:Nat} (h1:M.frs.length=24) (h2:M'.frs.length=24) (hk:KeptM M M' m):M'.frs.countP (ownB ((m:Int)+1))=M.frs.countP (ownB ((m:Int)+1)):=by
 refine countP_upto (by rw [h1,h2]) fun j hj=>?_
 have hk':=hk j (by omega)
 unfold ownB
 by_cases c:(M.frs.getD j default).o=(m:Int)+1
 · rw [hk' (.inl c)]
 · by_cases c' : (M'.frs.getD j default).o=(m:Int)+1
   · rw [hk' (.inr c')]
   · rw [beq_eq_false_iff_ne.2 c,beq_eq_false_iff_ne.2 c']
theorem Logs.keep {M M' : Mv} {m:Nat} {L:List Lg} (h:Logs M m L) (h1:M.frs.length=24) (h2:M'.frs.length=24) (hl:(M'.ens.getD m default).log=(M.ens.getD m default).log) (hk:KeptM M M' m):Logs M' m L:=by
 refine ⟨hl.trans h.log,h.pos,fun a r hx=>?_,fun a ws hx=>?_,(kept_count h1 h2 hk).trans h.cnt⟩
 · obtain ⟨j,hj,e1,e2,e3⟩:=h.pg a r hx
   have e:=hk j hj (.inl e1)
   exact ⟨j,hj,by rw [e];exact e1,by rw [e];exact e2,by rw [e];exact e3⟩
 · obtain ⟨j,hj,e1,e2,e3⟩:=h.wd a ws hx
   have e:=hk j hj (.inl e1)
   exact ⟨j,hj,by rw [e];exact e1,by rw [e];exact e2,by rw [e];exact e3⟩
end Go.Proofs.YtdngbojbpmdegaaGreatDoor

namespace Go.Proofs.YtdngbojbpmdegaaGreatDoor
open Go.RowKit
def Pg.Same (q p:Pg):Prop:=q.at_=p.at_∧q.r=p.r∧q.ws=p.ws
theorem Ints.blocks {w w' : World} {a:Option Addr} {xs:List Int} {B:Nat} (h:Ints w a xs) (ha:∀ b off s,a=some ⟨b,off,s⟩→b≠B) (hb:∀ b,b<w.heap.size→b≠B→w'.heap[b]? = w.heap[b]?):Ints w' a xs:=by
 rcases h with h | ⟨b,off,h1,h2⟩
 · exact .inl h
 · exact .inr ⟨b,off,h1,fun j hj=>(World.cell?_of_block (w:=w) (hb b (lt_of_cell (h2 j hj)) (ha b off none h1))).trans (h2 j hj)⟩
theorem Pg.Ok.blocks {w w' : World} {p:Pg} {B:Nat} (h:p.Ok w) (ha:∀ b off s,p.a=some ⟨b,off,s⟩→b≠B) (hb:∀ b,b<w.heap.size→b≠B→w'.heap[b]? = w.heap[b]?):p.Ok w':=
 ⟨h.wat,h.wr,h.len,h.ints.blocks ha hb,h.wws⟩
def wcells (ws:List Int):List Value:=ws.map (Value.int .i64)
theorem wcells_get (ws:List Int) (j:Nat) (h:j<ws.length):(wcells ws)[j]? = some (.int .i64 (ws.getD j 0)):=by
 simp [wcells,h,List.getD_eq_getElem?_getD]
def W7 (wr:World) (B k:Nat) (pat pr:Int) (pa:Option Addr) (pws:List Int) (pcap:Nat):World:=
 (((((wr.setCell ⟨B,k * 3,none⟩ (.int .i64 pat)).setCell ⟨B,k * 3+1,none⟩ (.int .i64 pr)).setCell ⟨B,k * 3+2,none⟩ (.slice pa pws.length pcap)).setCell ⟨B,k * 3+2,none⟩ (.slice (some ⟨wr.heap.size+1,0,none⟩) pws.length pws.length)).alloc
   (.cells #[.int .i64 pat,.int .i64 pr,.slice pa pws.length pcap] 116)).alloc (.cells (madeCells #[.int .i64 0] pws.length) 3)
end Go.Proofs.YtdngbojbpmdegaaGreatDoor

namespace Go.Proofs.YtdngbojbpmdegaaGreatDoor
open Go.RowKit
structure OwnedP (w:World) (B:Nat) (qs:List Pg):Prop where
 row:∃ F,w.rowIs B 116 (qs.length * 3) F∧∀ j,j<qs.length→F (j * 3)=.int .i64 (qs.getD j default).at_∧F (j * 3+1)=.int .i64 (qs.getD j default).r∧F (j * 3+2)=.slice (qs.getD j default).a (qs.getD j default).ws.length (qs.getD j default).cap
 own:∀ j,j<qs.length→∃ g,(qs.getD j default).a=some ⟨g,0,none⟩∧B<g∧w.heap[g]? = some (.cells (wcells (qs.getD j default).ws).toArray 3 (0,0))
 apart:∀ i j,i<qs.length→j<qs.length→i≠j→(qs.getD i default).a≠(qs.getD j default).a
 fit:∀ j,j<qs.length→(Lit.int .i64 (qs.getD j default).at_).wf=true∧(Lit.int .i64 (qs.getD j default).r).wf=true∧(qs.getD j default).ws.length≤maxLen∧∀ n ∈ (qs.getD j default).ws,(Lit.int .i64 n).wf=true
theorem wcells_cell {w:World} {g:Nat} {ws:List Int} (h:w.heap[g]? = some (.cells (wcells ws).toArray 3 (0,0))) (j:Nat) (hj:j<ws.length):w.cell? ⟨g,0+j,none⟩=some (.int .i64 (ws.getD j 0)):=by
 have:=wcells_get ws j hj
 simp [World.cell?,h,this]
theorem OwnedP.pages {w:World} {B:Nat} {qs:List Pg} (h:OwnedP w B qs):PagesAt w (some ⟨B,0,none⟩) qs:=by
 obtain ⟨F,hF,hc⟩:=h.row
 refine ⟨.inr ⟨B,0,rfl,fun j hj=>?_⟩,fun j hj=>?_⟩
 · obtain ⟨s1,s2,s3⟩:=hc j hj
   have r0:=hF.cell (i:=j * 3) (by omega)
   have r1:=hF.cell (i:=j * 3+1) (by omega)
   have r2:=hF.cell (i:=j * 3+2) (by omega)
   rw [s1] at r0
   rw [s2] at r1
   rw [s3] at r2
   simp only [Nat.zero_add]
   exact ⟨r0,r1,r2⟩
 · obtain ⟨f1,f2,f3,f4⟩:=h.fit j hj
   obtain ⟨g,hg,_,hh⟩:=h.own j hj
   exact ⟨f1,f2,f3,.inr ⟨g,0,hg,fun i hi=>wcells_cell hh i hi⟩,f4⟩
theorem getD_set_eq (qs:List Pg) (j:Nat) (p:Pg) (hj:j<qs.length):(qs.set j p).getD j default=p:=by simp [List.getD_eq_getElem?_getD,hj]
theorem getD_set_ne (qs:List Pg) (i j:Nat) (p:Pg) (h:i≠j):(qs.set j p).getD i default=qs.getD i default:=by
 simp [List.getD_eq_getElem?_getD,List.getElem?_set_ne (Ne.symm h)]
theorem OwnedP.right {w:World} {B:Nat} {qs:List Pg} (h:OwnedP w B qs) (j:Nat) (hj:j<qs.length) (r:Int) (hr:(Lit.int .i64 r).wf=true) :
 PagesAt (w.setCell ⟨B,j * 3+1,none⟩ (.int .i64 r)) (some ⟨B,0,none⟩) (qs.set j ⟨(qs.getD j default).at_,r,(qs.getD j default).a,(qs.getD j default).ws,(qs.getD j default).cap⟩):=by
 obtain ⟨F,hF,hc⟩:=h.row
 refine OwnedP.pages (B:=B) ⟨⟨_,by simpa using hF.set (j * 3+1) (.int .i64 r),fun i hi=>?_⟩,fun i hi=>?_,fun i k hi hk hik=>?_,fun i hi=>?_⟩
 · have hi' : i<qs.length:=by simpa using hi
   obtain ⟨s1,s2,s3⟩:=hc i hi'
   by_cases e:i=j
   · subst e
     rw [getD_set_eq _ _ _ hj]
     simp [s1,s3]
   · rw [getD_set_ne _ _ _ _ e,if_neg (by omega),if_neg (by omega),if_neg (by omega)]
     exact ⟨s1,s2,s3⟩
 · have hi' : i<qs.length:=by simpa using hi
   obtain ⟨g,g1,g2,g3⟩:=h.own i hi'
   have keep:(w.setCell ⟨B,j * 3+1,none⟩ (.int .i64 r)).heap[g]? = w.heap[g]?:=Go.Deep.blk_setCell_other _ _ _ _ (by simp;omega)
   by_cases e:i=j
   · subst e
     rw [getD_set_eq _ _ _ hj]
     exact ⟨g,g1,g2,keep.trans g3⟩
   · rw [getD_set_ne _ _ _ _ e]
     exact ⟨g,g1,g2,keep.trans g3⟩
 · have hi' : i<qs.length:=by simpa using hi
   have hk' : k<qs.length:=by simpa using hk
   have key:∀ x,x<qs.length→((qs.set j ⟨(qs.getD j default).at_,r,(qs.getD j default).a,(qs.getD j default).ws,(qs.getD j default).cap⟩).getD x default).a=(qs.getD x default).a:=fun x hx=>by
    by_cases e:x=j
    · subst e;rw [getD_set_eq _ _ _ hj]
    · rw [getD_set_ne _ _ _ _ e]
   rw [key i hi',key k hk']
   exact h.apart i k hi' hk' hik
 · have hi' : i<qs.length:=by simpa using hi
   obtain ⟨f1,f2,f3,f4⟩:=h.fit i hi'
   by_cases e:i=j
   · subst e
     rw [getD_set_eq _ _ _ hj]
     exact ⟨f1,hr,f3,f4⟩
   · rw [getD_set_ne _ _ _ _ e]
     exact ⟨f1,f2,f3,f4⟩
theorem wcells_set (ws:List Int) (k:Nat) (x:Int):((wcells ws).toArray.setIfInBounds k (.int .i64 x))=(wcells (ws.set k x)).toArray:=by
 apply Array.ext'
 simp [wcells,List.map_set]
theorem OwnedP.word {w:World} {B:Nat} {qs:List Pg} (h:OwnedP w B qs) (j:Nat) (hj:j<qs.length) (g:Nat) (hg:(qs.getD j default).a=some ⟨g,0,none⟩) (k:Nat) (x:Int) (hx:(Lit.int .i64 x).wf=true) :
 PagesAt (w.setCell ⟨g,k,none⟩ (.int .i64 x)) (some ⟨B,0,none⟩) (qs.set j ⟨(qs.getD j default).at_,(qs.getD j default).r,(qs.getD j default).a,(qs.getD j default).ws.set k x,(qs.getD j default).cap⟩):=by
 obtain ⟨F,hF,hc⟩:=h.row
 obtain ⟨g',e1,e2,e3⟩:=h.own j hj
 have hgg:g' = g:=by rw [hg] at e1;simpa using e1.symm
 subst hgg
 refine OwnedP.pages (B:=B) ⟨⟨F,by simpa using hF.setOther (a:=⟨g',k,none⟩) (by simp;omega) (.int .i64 x),fun i hi=>?_⟩,fun i hi=>?_,fun i m hi hm him=>?_,fun i hi=>?_⟩
 · have hi' : i<qs.length:=by simpa using hi
   obtain ⟨s1,s2,s3⟩:=hc i hi'
   by_cases e:i=j
   · subst e
     rw [getD_set_eq _ _ _ hj]
     exact ⟨s1,s2,by rw [s3];simp⟩
   · rw [getD_set_ne _ _ _ _ e]
     exact ⟨s1,s2,s3⟩
 · have hi' : i<qs.length:=by simpa using hi
   by_cases e:i=j
   · subst e
     rw [getD_set_eq _ _ _ hj]
     refine ⟨g',hg,e2,?_⟩
     dsimp only
     rw [← wcells_set]
     simp [World.setCell,Array.getElem?_modify,e3]
   · rw [getD_set_ne _ _ _ _ e]
     obtain ⟨u,u1,u2,u3⟩:=h.own i hi'
     refine ⟨u,u1,u2,(Go.Deep.blk_setCell_other _ _ _ _ ?_).trans u3⟩
     have:=h.apart i j hi' hj e
     rw [u1,hg] at this
     intro q
     exact this (by simp at q;rw [q])
 · have hi' : i<qs.length:=by simpa using hi
   have hm' : m<qs.length:=by simpa using hm
   have key:∀ y,y<qs.length→((qs.set j ⟨(qs.getD j default).at_,(qs.getD j default).r,(qs.getD j default).a,(qs.getD j default).ws.set k x,(qs.getD j default).cap⟩).getD y default).a=(qs.getD y default).a:=fun y hy=>by
    by_cases e:y=j
    · subst e;rw [getD_set_eq _ _ _ hj]
    · rw [getD_set_ne _ _ _ _ e]
   rw [key i hi',key m hm']
   exact h.apart i m hi' hm' him
 · have hi' : i<qs.length:=by simpa using hi
   obtain ⟨f1,f2,f3,f4⟩:=h.fit i hi'
   by_cases e:i=j
   · subst e
     rw [getD_set_eq _ _ _ hj]
     refine ⟨f1,f2,by simpa using f3,fun n hn=>?_⟩
     rcases List.mem_or_eq_of_mem_set hn with hn | rfl
     · exact f4 n hn
     · exact hx
   · rw [getD_set_ne _ _ _ _ e]
     exact ⟨f1,f2,f3,f4⟩
end Go.Proofs.YtdngbojbpmdegaaGreatDoor

namespace Go.Proofs.YtdngbojbpmdegaaGreatDoor
open Go.RowKit
end Go.Proofs.YtdngbojbpmdegaaGreatDoor

namespace Go.Proofs.YtdngbojbpmdegaaGreatDoor
open Go.RowKit
end Go.Proofs.YtdngbojbpmdegaaGreatDoor

namespace Go.Proofs.YtdngbojbpmdegaaGreatDoor
open Go.RowKit
end Go.Proofs.YtdngbojbpmdegaaGreatDoor

namespace Go.Proofs.YtdngbojbpmdegaaGreatDoor
open Go.RowKit
theorem hst_append (s:Hs) (a b:List Ac):hst s (a ++ b)=hst (hst s a) b:=List.foldl_append
theorem hans_append (s:Hs) (a b:List Ac):hans s (a ++ b)=hans s a ++ hans (hst s a) b:=by
 induction a generalizing s with
 | nil=>rfl
 | cons x a ih=>simp only [List.cons_append,hans,ih];rfl
def Steps (M:Mv) (l:List Ac) (M' : Mv):Prop:=∀ C,hst ⟨M,C⟩ l=⟨M',C⟩∧∀ x ∈ hans ⟨M,C⟩ l,x.1=0
theorem Steps.nil (M:Mv):Steps M [] M:=fun C=>⟨rfl,fun x hx=>by cases hx⟩
theorem Steps.append {M M' M'' : Mv} {a b:List Ac} (h:Steps M a M') (g:Steps M' b M''):Steps M (a ++ b) M'':=fun C=>by
 obtain ⟨h1,h2⟩:=h C
 obtain ⟨g1,g2⟩:=g C
 refine ⟨by rw [hst_append,h1,g1],fun x hx=>?_⟩
 rw [hans_append,h1] at hx
 rcases List.mem_append.1 hx with hx | hx
 · exact h2 x hx
 · exact g2 x hx
theorem Steps.one {M M' : Mv} {x:Ac} (hk:x.k≠10∧x.k≠11) (hc:∀ C,actC M C x=0) (hm:∀ C,actM M C x=M'):Steps M [x] M':=fun C=>by
 refine ⟨?_,fun y hy=>?_⟩
 · show (⟨actM M C x,actD M C x⟩:Hs)=_
   rw [hm C]
   unfold actD
   rw [if_neg hk.1,if_neg hk.2]
 · have:y=(actC M C x,actN M C x):=by simpa [hans] using hy
   rw [this];exact hc C
theorem take_set {α:Type} (xs old:List α) (d:α) {j:Nat} (h1:j<xs.length) (h2:j<old.length):(xs.take j ++ old.drop j).set j (xs.getD j d)=xs.take (j+1) ++ old.drop (j+1):=by
 have e1:(xs.take j).length=j:=by simp;omega
 rw [List.set_append_right _ _ (by omega),e1,Nat.sub_self,List.drop_eq_getElem_cons h2,List.set_cons_zero,List.take_succ_eq_append_getElem h1,List.append_assoc,show xs.getD j d=xs[j] from by simp [List.getD_eq_getElem?_getD,h1]]
 rfl
end Go.Proofs.YtdngbojbpmdegaaGreatDoor

namespace Go.Proofs.YtdngbojbpmdegaaGreatDoor
open Go.RowKit
set_option maxRecDepth 100000
theorem acts_row {w:World} {B:Nat} {v:Value} {l:List Ac} (h:Owns w B v l):∃ a cap,v=.slice a l.length cap∧RowsAt w 7 Ac.cells a l:=by
 rcases h.2 with ⟨hv,h0⟩ | ⟨g,cap,cur,hv,_,hg,_,_,_,h4⟩
 · exact ⟨none,0,by rw [hv,h0],.inl (List.eq_nil_of_length_eq_zero h0)⟩
 · refine ⟨some ⟨g,0,none⟩,cap,hv,?_⟩
   have e:cur=(l.flatMap Ac.cells ++ cur.toList.drop (l.length * 7)).toArray:=by
    have:(rowA l ++ cur.toList.drop (l.length * 7)).toArray=cur:=by rw [← h4,List.take_append_drop]
    exact this.symm
   rw [e] at hg
   exact rows_of_block (cells:=Ac.cells) (c:=7) (fun _=>rfl) hg
end Go.Proofs.YtdngbojbpmdegaaGreatDoor

namespace Go.Proofs.YtdngbojbpmdegaaGreatDoor
open Go.RowKit
set_option maxRecDepth 100000
end Go.Proofs.YtdngbojbpmdegaaGreatDoor

namespace Go.Proofs.YtdngbojbpmdegaaGreatDoor
open Go.RowKit
set_option maxRecDepth 100000
end Go.Proofs.YtdngbojbpmdegaaGreatDoor

namespace Go.Proofs.YtdngbojbpmdegaaGreatDoor
open Go.RowKit
set_option maxRecDepth 100000
end Go.Proofs.YtdngbojbpmdegaaGreatDoor

namespace Go.Proofs.YtdngbojbpmdegaaGreatDoor
open Go.RowKit
set_option maxRecDepth 100000
set_option linter.unusedVariables false
theorem app_texts {w:World} (ta:Option Addr) (tr:List ByteArray) (tcap:Nat) (hT:Texts w ta tr) (hok:(⟨ta,tr,tcap,none,[],0⟩:Cv).Ok) (hfit:tr.length * 16≤140737488351232) :
 ∃ a' c' w',(Builtin.append_ #[22,22] 22 #[.slice none 0 0,.slice ta tr.length tcap]).run Tryz.prog w=.ok (.slice a' tr.length c') w'∧COwn w.heap.size w' ⟨a',tr,c',none,[],0⟩∧Below w.heap.size w w':=by
 obtain ⟨i0,hi,hz⟩:=Option.map_eq_some_iff.1 info_s
 simp only [Prod.mk.injEq] at hz
 obtain ⟨hz0,hz1,hz2⟩:=hz
 have hnn:=World.ownsRow_nil w w.heap.size 9 1
 by_cases h0:tr = []
 · subst h0
   refine ⟨none,0,w,append_none w _ _ _ i0 Tryz.underlying22 hi ta tcap,⟨World.ownsRow_nil _ _ _ _,World.ownsRow_nil _ _ _ _,(fun b o s o' s' _ e=>by cases e),⟨hok.trl,hok.trok,hok.nsl,hok.nsw⟩⟩,Below.refl _ _⟩
 · rcases hT with e | ⟨b,off,rfl,hc⟩
   · exact absurd e h0
   · have hpos:0<tr.length:=List.length_pos_iff.2 h0
     have hl:=hok.trl
     dsimp only at hl
     obtain ⟨g,cap,w',h1,h2,h3,_,_⟩:=run_append_lies (P:=Tryz.prog) (w:=w) 22 22 w.heap.size 9 i0 _ 1 16 Tryz.underlying22 hi hz0 hz1 hz2 rfl (by decide) (.slice none 0 0) 0 [] hnn ⟨b,off,none⟩ tr.length tcap (tr.flatMap tcell) (by rw [texts_len];omega)
      (src_of_rows (cells:=tcell) (c:=1) (fun _=>rfl) (by decide) (fun j hj i hi=>by
        have hi0:i=0:=by omega
        subst hi0
        have:=hc j hj
        simp [tcell,this]))
      (fun v hv=>by
        obtain ⟨q,_,hq⟩:=List.mem_flatMap.1 hv
        exact tcell_one q v hq) hpos (by omega) (by omega) (Nat.le_refl _) _ rfl
     rw [Nat.zero_add] at h1 h2
     refine ⟨some ⟨g,0,none⟩,cap,w',h1,⟨h2,World.ownsRow_nil _ _ _ _,(fun b o s o' s' _ e=>by cases e),⟨hok.trl,hok.trok,hok.nsl,hok.nsw⟩⟩,(Below.refl _ _).grown h3 (Nat.le_refl _) (fun k hk=>by cases hk)⟩
theorem app_an {w:World} {B:Nat} {v:Value} {xs:List (Int × Int)} (hown:OwnsAn w B v xs) (hB:B≤w.heap.size) (g0:Nat) (c n:Int) (qc:Nat) (h0:w.cell? ⟨g0,0,none⟩=some (.int .i64 c)) (h1' : w.cell? ⟨g0,1,none⟩=some (.int .i64 n)) (hs:xs.length≤1000) :
 ∃ v' w',(Builtin.append_ #[24,24] 24 #[v,.slice (some ⟨g0,0,none⟩) 1 qc]).run Tryz.prog w=.ok v' w'∧OwnsAn w' B v' (xs ++ [(c,n)])∧w.grownBy w' v.ownBlock∧(∀ g',v'.ownBlock=some g'→v.ownBlock=some g'∨g' = w.heap.size):=by
 obtain ⟨i0,hi,hz⟩:=Option.map_eq_some_iff.1 an_info
 simp only [Prod.mk.injEq] at hz
 obtain ⟨hz0,hz1,hz2⟩:=hz
 obtain ⟨g,cap,w',h1,h2,h3,h4,_⟩:=run_append_lies (P:=Tryz.prog) (w:=w) 24 24 B 39 i0 _ 2 16 Tryz.underlying24 hi hz0 hz1 hz2 rfl (by decide) v xs.length (xs.flatMap anCells) hown ⟨g0,0,none⟩ 1 qc [.int .i64 c,.int .i64 n] rfl
  (fun j u hu=>by
    match j,hu with
    | 0,hu=>cases hu;exact h0
    | 1,hu=>cases hu;exact h1'
    | j+2,hu=>simp at hu)
  (fun u hu=>by
    simp only [List.mem_cons,List.not_mem_nil,or_false] at hu
    rcases hu with rfl | rfl<;>rfl) (by omega) (by unfold maxLen;omega) (by omega) hB _ rfl
 refine ⟨_,w',h1,?_,h3,fun g' hg=>?_⟩
 · unfold OwnsAn
   rw [List.length_append,List.flatMap_append]
   exact h2
 · rcases h4 with h4 | h4
   · left;rw [h4,show g=g' from Option.some.inj hg]
   · right;rw [← h4];exact (Option.some.inj hg).symm
end Go.Proofs.YtdngbojbpmdegaaGreatDoor

namespace Go.Proofs.YtdngbojbpmdegaaGreatDoor
open Go.RowKit
theorem Owned.layEn {n0:Nat} {w:World} {M:Mv} (h:Owned n0 w M) {eb eo k:Nat} (he:M.ea=some ⟨eb,eo,none⟩) (hk:k<M.ens.length) (E' : En) (q' : E'.Ok) :
 Owned n0 (((((((w.setCell ⟨eb,eo+k * 7,none⟩ (.int .i64 E'.st)).setCell ⟨eb,eo+k * 7+1,none⟩ (.string E'.log)).setCell ⟨eb,eo+k * 7+2,none⟩ (.int .i64 E'.pc)).setCell ⟨eb,eo+k * 7+3,none⟩ (.int .i64 E'.g0)).setCell ⟨eb,eo+k * 7+4,none⟩ (.int .i64 E'.g1)).setCell ⟨eb,eo+k * 7+5,none⟩ (.int .i64 E'.g2)).setCell ⟨eb,eo+k * 7+6,none⟩ (.int .i64 E'.g3)) {M with ens:=M.ens.set k E'}:=by
 have q:=h.at_.enok k hk
 obtain ⟨E,hE⟩:∃ E,E=M.ens.getD k default:=⟨_,rfl⟩
 rw [← hE] at q
 have step:∀ {w:World} {N:Mv} (_:Owned n0 w N) (_:N.ea=some ⟨eb,eo,none⟩) (_:k<N.ens.length) (i0:Nat) (_:i0<7) (e0 e' : En) (v:Value) (_:N.ens.getD k default=e0) (_:e'.Ok) (_:∀ i,i<7→e'.cells[i]? = if i=i0 then some v else e0.cells[i]?),
  Owned n0 (w.setCell ⟨eb,eo+k * 7+i0,none⟩ v) {N with ens:=N.ens.set k e'}:=fun h he hk i0 hi e0 e' v h0 hok hx=>h.setEn he hk hi hok (by rw [h0];exact hx)
 have g:∀ (N:Mv) (e:En),k<N.ens.length→(N.ens.set k e).getD k default=e:=fun N e hk=>by rw [getD_set _ _ _ _ hk,if_pos rfl]
 have s1:=step h he hk 0 (by omega) E {E with st:=E'.st} (.int .i64 E'.st) hE.symm ⟨q'.wst,q.len,q.wpc,q.w0,q.w1,q.w2,q.w3⟩ (fun i hi=>by match i,hi with | 0,_=>rfl | 1,_=>rfl | 2,_=>rfl | 3,_=>rfl | 4,_=>rfl | 5,_=>rfl | 6,_=>rfl)
 have s2:=step s1 he (by simpa using hk) 1 (by omega) _ {E with st:=E'.st,log:=E'.log} (.string E'.log) (g _ _ hk) ⟨q'.wst,q'.len,q.wpc,q.w0,q.w1,q.w2,q.w3⟩ (fun i hi=>by match i,hi with | 0,_=>rfl | 1,_=>rfl | 2,_=>rfl | 3,_=>rfl | 4,_=>rfl | 5,_=>rfl | 6,_=>rfl)
 have s3:=step s2 he (by simpa using hk) 2 (by omega) _ {E with st:=E'.st,log:=E'.log,pc:=E'.pc} (.int .i64 E'.pc) (g _ _ (by simpa using hk)) ⟨q'.wst,q'.len,q'.wpc,q.w0,q.w1,q.w2,q.w3⟩ (fun i hi=>by match i,hi with | 0,_=>rfl | 1,_=>rfl | 2,_=>rfl | 3,_=>rfl | 4,_=>rfl | 5,_=>rfl | 6,_=>rfl)
 have s4:=step s3 he (by simpa using hk) 3 (by omega) _ {E with st:=E'.st,log:=E'.log,pc:=E'.pc,g0:=E'.g0} (.int .i64 E'.g0) (g _ _ (by simpa using hk)) ⟨q'.wst,q'.len,q'.wpc,q'.w0,q.w1,q.w2,q.w3⟩ (fun i hi=>by match i,hi with | 0,_=>rfl | 1,_=>rfl | 2,_=>rfl | 3,_=>rfl | 4,_=>rfl | 5,_=>rfl | 6,_=>rfl)
 have s5:=step s4 he (by simpa using hk) 4 (by omega) _ {E with st:=E'.st,log:=E'.log,pc:=E'.pc,g0:=E'.g0,g1:=E'.g1} (.int .i64 E'.g1) (g _ _ (by simpa using hk)) ⟨q'.wst,q'.len,q'.wpc,q'.w0,q'.w1,q.w2,q.w3⟩ (fun i hi=>by match i,hi with | 0,_=>rfl | 1,_=>rfl | 2,_=>rfl | 3,_=>rfl | 4,_=>rfl | 5,_=>rfl | 6,_=>rfl)
 have s6:=step s5 he (by simpa using hk) 5 (by omega) _ {E with st:=E'.st,log:=E'.log,pc:=E'.pc,g0:=E'.g0,g1:=E'.g1,g2:=E'.g2} (.int .i64 E'.g2) (g _ _ (by simpa using hk)) ⟨q'.wst,q'.len,q'.wpc,q'.w0,q'.w1,q'.w2,q.w3⟩ (fun i hi=>by match i,hi with | 0,_=>rfl | 1,_=>rfl | 2,_=>rfl | 3,_=>rfl | 4,_=>rfl | 5,_=>rfl | 6,_=>rfl)
 have s7:=step s6 he (by simpa using hk) 6 (by omega) _ E' (.int .i64 E'.g3) (g _ _ (by simpa using hk)) q' (fun i hi=>by match i,hi with | 0,_=>rfl | 1,_=>rfl | 2,_=>rfl | 3,_=>rfl | 4,_=>rfl | 5,_=>rfl | 6,_=>rfl)
 simp only [List.set_set,Nat.add_zero] at s7
 exact s7
theorem lay7_below {w0 w:World} {B eb:Nat} {v0 v1 v2 v3 v4 v5 v6:Value} {a:Nat} (h:Below B w0 w) (hb:B≤eb) :
 Below B w0 (((((((w.setCell ⟨eb,a,none⟩ v0).setCell ⟨eb,a+1,none⟩ v1).setCell ⟨eb,a+2,none⟩ v2).setCell ⟨eb,a+3,none⟩ v3).setCell ⟨eb,a+4,none⟩ v4).setCell ⟨eb,a+5,none⟩ v5).setCell ⟨eb,a+6,none⟩ v6):=
 ((((((h.setCell (by simpa using hb) _).setCell (by simpa using hb) _).setCell (by simpa using hb) _).setCell (by simpa using hb) _).setCell (by simpa using hb) _).setCell (by simpa using hb) _).setCell (by simpa using hb) _
theorem lay7_heap {w:World} {eb:Nat} {v0 v1 v2 v3 v4 v5 v6:Value} {a b:Nat} (h:b≠eb) :
 (((((((w.setCell ⟨eb,a,none⟩ v0).setCell ⟨eb,a+1,none⟩ v1).setCell ⟨eb,a+2,none⟩ v2).setCell ⟨eb,a+3,none⟩ v3).setCell ⟨eb,a+4,none⟩ v4).setCell ⟨eb,a+5,none⟩ v5).setCell ⟨eb,a+6,none⟩ v6).heap[b]? = w.heap[b]?:=by
 rw [Below.heap_setCell _ _ _ _ h,Below.heap_setCell _ _ _ _ h,Below.heap_setCell _ _ _ _ h,Below.heap_setCell _ _ _ _ h,Below.heap_setCell _ _ _ _ h,Below.heap_setCell _ _ _ _ h,Below.heap_setCell _ _ _ _ h]
theorem lay7_size {w:World} {eb:Nat} {v0 v1 v2 v3 v4 v5 v6:Value} {a:Nat} :
 (((((((w.setCell ⟨eb,a,none⟩ v0).setCell ⟨eb,a+1,none⟩ v1).setCell ⟨eb,a+2,none⟩ v2).setCell ⟨eb,a+3,none⟩ v3).setCell ⟨eb,a+4,none⟩ v4).setCell ⟨eb,a+5,none⟩ v5).setCell ⟨eb,a+6,none⟩ v6).heap.size=w.heap.size:=by simp [World.setCell]
theorem openE_ok:openE.Ok:=by
 have z:(Lit.int .i64 0).wf=true:=by decide
 exact ⟨by show (Lit.int .i64 1).wf=true;decide,by show (5:Nat)≤maxLen;unfold maxLen;omega,z,z,z,z,z⟩
set_option maxRecDepth 100000 in
set_option maxHeartbeats 4000000 in
theorem created_any (M:Mv) (w:World) (hM:MachAt w M) (hF:M.Fits) :
 Calls Tryz.prog 46 #[M.val] w fun x w'=>∃ N:Mv,x=.returned (.tuple #[N.val,.int .i64 (creN M),.int .i64 (creF M)])∧N.Same (creM M)∧Owned w.heap.size w' N∧Below w.heap.size w w':=by
 have h1:=fun w' (h:Below w.heap.size w w')=>machineFault_any M w' (hM.below h)
 have h2:=fun w' (h:Below w.heap.size w w')=>mcopy_any M w' (hM.below h) hF
 have HM:Hid (∀ w',Below w.heap.size w w'→MachAt w' M):=fun w' h=>hM.below h
 obtain ⟨RM,hRM⟩:∃ RM,Hid (RM=creM M):=⟨_,rfl⟩
 obtain ⟨rn,hrn⟩:∃ rn,Hid (rn=creN M):=⟨_,rfl⟩
 obtain ⟨rf,hrf⟩:∃ rf,Hid (rf=creF M):=⟨_,rfl⟩
 rw [← hRM.out,← hrn.out,← hrf.out]
 have hN0:creN M=if creF M=0 then creI M+1 else 0:=rfl
 have hF0:creF M=if machF M=0 then (if creI M<0 then 7 else 0) else machF M:=rfl
 by_cases hz:machF M=0
 · rw [if_pos hz] at hF0
   rw [hz] at h1
   have HS4:Hid (M.ens.length=4):=(machF_sizes hz).2.1
   have HFull:Hid ((∀ j,j<4→emptyB (M.ens.getD j default)=false)→RM=noM∧rn=0∧rf=7):=fun hall=>by
    have hi:creI M=-1:=idxOf_none (by rw [HS4.out];exact hall)
    rw [hi] at hF0
    rw [hRM.out,hrn.out,hrf.out]
    unfold creM
    rw [hN0,hF0]
    exact ⟨rfl,rfl,rfl⟩
   have HHit:Hid (∀ k,k<4→(∀ j,j<k→emptyB (M.ens.getD j default)=false)→emptyB (M.ens.getD k default)=true→RM = {M with ens:=M.ens.set k openE}∧rn=(k:Int)+1∧rf=0):=fun k hk hall he=>by
    have hi:creI M=(k:Int):=idxOf_at (by rw [HS4.out];exact hk) hall he
    have e0:creF M=0:=by rw [hF0,hi];exact if_neg (by omega)
    rw [hRM.out,hrn.out,hrf.out]
    unfold creM
    rw [hN0,e0,if_pos rfl,if_pos rfl,hi,Int.toNat_natCast]
    exact ⟨rfl,rfl,rfl⟩
   unfold Mv.val at h1 h2 ⊢
   obtain ⟨fa,frs,fcap,ea,ens,ecap,qa,qus,qcap⟩:=M
   dsimp only at h1 h2 HS4 ⊢
   have B2:∀ o1 o2,Hid (Below w.heap.size w ((w.alloc o1).alloc o2)):=fun o1 o2=>a2B _ _ _
   have HX:∀ o1 o2 w1,Hid (Below ((w.alloc o1).alloc o2).heap.size ((w.alloc o1).alloc o2) w1→Below w.heap.size w w1):=fun o1 o2 w1 h=>(B2 o1 o2).out.trans (h.mono (by simp;omega))
   have CF:Hid (_):=boxes_blk w (.slice fa frs.length fcap) (.slice ea ens.length ecap) (.slice qa qus.length qcap)
   clear hM hF hz hN0 hF0 hRM hrn hrf
   rw [HS4.out] at h1 h2 CF ⊢
   go_enter Tryz.func46,Tryz.ntmps46
   go_wp2_with (first
    | (go_at_call 106;refine (h1 _ (B2 _ _).out).mono ?_;rintro x w1 ⟨rfl,hb1⟩;obtain ⟨AB,RB⟩:=CF.out w1 hb1;have HAB:Hid (_):=AB;have HRB:Hid (_):=RB;have HB1:Hid (Below w.heap.size w w1):=(HX _ _ _).out hb1;clear hb1 CF AB RB)
    | fail)
   clear HX B2 h1
   go_loop [6] (fun i=>∃ k:Nat,k≤4∧i=.int .i64 k∧Hid (∀ j,j<k→emptyB (ens.getD j default)=false)) (fun i=>4 - (intOf i).toNat)
   case atStart=>exact ⟨0,Nat.zero_le _,rfl,fun j hj=>absurd hj (by omega)⟩
   case round =>
    obtain ⟨k,hk,rfl,hid⟩:=hrel
    by_cases hlt:k<4
    · have hM1:=HM.out w1 HB1.out
      obtain ⟨eb,eo,hea,t0,_⟩:=hM1.enclave (j:=k) (by dsimp only;have:=HS4.out;omega)
      dsimp only at hea t0
      subst hea
      have hkl:(k:Int)<4:=by omega
      obtain ⟨st,HST⟩:∃ st,Hid ((ens.getD k default).st=st):=⟨_,rfl⟩
      rw [HST.out] at t0
      have bl:eb<w1.heap.size:=lt_of_cell t0
      obtain ⟨m0,m1,m2,_,_,_,ml⟩:=box_cells HAB.out
      clear hM1
      by_cases c0:st=0
      · subst c0
        obtain ⟨e1,e2,e3⟩:=HHit.out k hlt hid.out (by unfold emptyB;rw [HST.out];rfl)
        subst e1 e2 e3
        have hwm:IntKind.i64.wrap ((k:Int)+1)=(k:Int)+1:=by rw [IntKind.wrap_i64];omega
        clear HHit HFull
        go_upto_region 10 with (first
         | (go_at_call 58;refine (h2 _ HB1.out).mono ?_;rintro x w3 ⟨N,rfl,hS,hO,hb3⟩;obtain ⟨nfa,nfrs,nfcap,nea,nens,necap,nqa,nqus,nqcap⟩:=N;have HSN:Hid (_):=hS;have HON:Hid (_):=hO;have HB3:Hid (_):=hb3;have eN:=hS.en;dsimp only at eN;subst eN;obtain ⟨xb,xo,hxa,t0',t1',t2',t3',t4',t5',t6'⟩:=hO.at_.enclave (j:=k) (by dsimp only;have:=HS4.out;omega);dsimp only at hxa t0' t1' t2' t3' t4' t5' t6';subst hxa;have nn:=hO.ne xb xo none rfl;have ef:=nn.2.2;have ef0:=ef (xo+k * 7);have ef1:=ef (xo+k * 7+1);have ef2:=ef (xo+k * 7+2);have ef3:=ef (xo+k * 7+3);have ef4:=ef (xo+k * 7+4);have ef5:=ef (xo+k * 7+5);have ef6:=ef (xo+k * 7+6);have el:xb<w3.heap.size:=nn.2.1;have HEN:Hid (w1.heap.size≤xb):=nn.1;have RB3:=((hb3.block _ (Array.getElem?_eq_some_iff.1 HRB.out).1).trans HRB.out);have HRL:Hid (w.heap.size+1<w1.heap.size):=(Array.getElem?_eq_some_iff.1 HRB.out).1;obtain ⟨r0,r1,r2,rf0,rf1,rf2,rl⟩:=box_cells RB3;have hne:xb≠w.heap.size+1:=(by have:=HEN.out;have:=HRL.out;omega);generalize (nens.getD k default).st=e0 at t0';generalize (nens.getD k default).log=e1 at t1';generalize (nens.getD k default).pc=e2 at t2';generalize (nens.getD k default).g0=e3 at t3';generalize (nens.getD k default).g1=e4 at t4';generalize (nens.getD k default).g2=e5 at t5';generalize (nens.getD k default).g3=e6 at t6';rw [HS4.out];clear nn hS hO hb3 m0 m1 m2 HRB ef;have HRB3:Hid (_):=RB3;clear RB3 r0 r1 r2 rf0 rf1 rf2 rl;dsimp only)
         | fail)
        have HO7:Owned w1.heap.size _ _:=HON.out.layEn (k:=k) rfl (by dsimp only;have:=HS4.out;omega) openE openE_ok
        dsimp only [openE] at HO7
        have HB7:=lay7_below (v0:=.int .i64 1) (v1:=.string ⟨#[111,112,101,110,59]⟩) (v2:=.int .i64 0) (v3:=.int .i64 0) (v4:=.int .i64 0) (v5:=.int .i64 0) (v6:=.int .i64 0) (a:=xo+k * 7) (HB1.out.trans (HB3.out.mono HB1.out.size)) (show w.heap.size≤xb by have:=HEN.out;have:=HRL.out;omega)
        have k7:=lay7_heap (w:=w3) (eb:=xb) (v0:=.int .i64 1) (v1:=.string ⟨#[111,112,101,110,59]⟩) (v2:=.int .i64 0) (v3:=.int .i64 0) (v4:=.int .i64 0) (v5:=.int .i64 0) (v6:=.int .i64 0) (a:=xo+k * 7) (Ne.symm hne)
        have s7:=lay7_size (w:=w3) (eb:=xb) (v0:=.int .i64 1) (v1:=.string ⟨#[111,112,101,110,59]⟩) (v2:=.int .i64 0) (v3:=.int .i64 0) (v4:=.int .i64 0) (v5:=.int .i64 0) (v6:=.int .i64 0) (a:=xo+k * 7)
        obtain ⟨W7,hW7⟩:∃ W7,W7=(((((((w3.setCell ⟨xb,xo+k * 7,none⟩ (.int .i64 1)).setCell ⟨xb,xo+k * 7+1,none⟩ (.string ⟨#[111,112,101,110,59]⟩)).setCell ⟨xb,xo+k * 7+2,none⟩ (.int .i64 0)).setCell ⟨xb,xo+k * 7+3,none⟩ (.int .i64 0)).setCell ⟨xb,xo+k * 7+4,none⟩ (.int .i64 0)).setCell ⟨xb,xo+k * 7+5,none⟩ (.int .i64 0)).setCell ⟨xb,xo+k * 7+6,none⟩ (.int .i64 0)):=⟨_,rfl⟩
        clear t0' t1' t2' t3' t4' t5' t6' ef0 ef1 ef2 ef3 ef4 ef5 ef6
        rw [← hW7] at HO7 HB7 k7 s7 ⊢
        obtain ⟨W8,hW8⟩:∃ W8,W8=W7.alloc (.cells #[.slice nfa nfrs.length nfcap,.slice (some ⟨xb,xo,none⟩) 4 necap,.slice nqa nqus.length nqcap] 29):=⟨_,rfl⟩
        have HO8:Hid (_):=HO7.below (w':=W8) (by rw [hW8];exact (Below.refl _ _).alloc (Nat.le_refl _) _)
        have HB8:Hid (Below w.heap.size w W8):=by show Below _ _ _;rw [hW8];exact HB7.alloc HB7.size _
        have HBX8:W8.heap[w3.heap.size]? = some (.cells #[.slice nfa nfrs.length nfcap,.slice (some ⟨xb,xo,none⟩) 4 necap,.slice nqa nqus.length nqcap] 29 (0,0)):=by rw [hW8,← s7];exact a11 _ _
        have HR8:W8.heap[w.heap.size+1]? = some (.cells #[.slice none 0 0,.slice none 0 0,.slice none 0 0] 29 (0,0)):=by rw [hW8,Below.heap_alloc _ _ _ (by rw [s7];have:=HRL.out;have:=HB3.out.size;omega),k7];exact HRB3.out
        rw [← hW8]
        obtain ⟨y0,y1,y2,_,_,_,yl⟩:=box_cells HBX8
        obtain ⟨r0,r1,r2,rf0,rf1,rf2,rl⟩:=box_cells HR8
        clear hW7 hW8 HO7 HB7 k7 s7 HBX8 HR8 HRB3 HON HB3 hid HM h2 HAB HB1
        go_wp2
        obtain ⟨k0,k1,k2⟩:=blk3 (v0:=.slice nfa nfrs.length nfcap) (v1:=.slice (some ⟨xb,xo,none⟩) 4 necap) (v2:=.slice nqa nqus.length nqcap) r0 r1 r2
        (try simp only [Exit.inBlock,Exit.then])
        refine bodyPost_ret (by simp [results,Tryz.results46,go_sem,k0,k1,k2];try rfl) rfl ?_
        exact ⟨⟨nfa,nfrs,nfcap,some ⟨xb,xo,none⟩,nens.set k openE,necap,nqa,nqus,nqcap⟩,by simp [HS4.out],⟨HSN.out.len,HSN.out.fr,rfl,HSN.out.qu⟩,(HO8.out.keep (fun b hb _=>blk3_heap b (by have:=HRL.out;omega)) (by rw [blk3_size];exact Nat.le_refl _)).mono (by first | exact HB1.out.size | (have:=HRL.out;omega) | omega),blk3_below HB8.out (by omega)⟩
      · have c0' : (st == 0)=false:=by simpa using c0
        go_wp2
        go_round
        case rel=>exact ⟨k+1,by omega,by go_num,snoc_false hid (by unfold emptyB;rw [HST.out];exact c0')⟩
        case measure=>simp [intOf];omega
    · have hk4:k=4:=by omega
      subst hk4
      obtain ⟨e1,e2,e3⟩:=HFull.out hid.out
      subst e1 e2 e3
      obtain ⟨r0,r1,r2,rf0,rf1,rf2,rl⟩:=box_cells HRB.out
      clear HHit HFull
      go_wp2
      obtain ⟨k0,k1,k2⟩:=blk3 (v0:=.slice none 0 0) (v1:=.slice none 0 0) (v2:=.slice none 0 0) r0 r1 r2
      (try simp only [Exit.inBlock,Exit.then])
      refine bodyPost_ret (by simp [results,Tryz.results46,go_sem,k0,k1,k2];try rfl) rfl ?_
      exact ⟨noM,rfl,Mv.Same.refl _,noM_own _ _,blk3_below HB1.out (by omega)⟩
 · have hz1:(machF M != 0)=true:=by simpa using hz
   rw [if_neg hz] at hF0
   have RN:RM=noM:=by rw [hRM.out];unfold creM;rw [hF0,if_neg hz]
   have e1:rf=machF M:=by rw [hrf.out,hF0]
   have e2:rn=0:=by rw [hrn.out,hN0,hF0,if_neg hz]
   subst RN e2 e1
   unfold Mv.val at h1 h2 ⊢
   obtain ⟨fa,frs,fcap,ea,ens,ecap,qa,qus,qcap⟩:=M
   dsimp only at h1 h2 ⊢
   have B2:∀ o1 o2,Hid (Below w.heap.size w ((w.alloc o1).alloc o2)):=fun o1 o2=>a2B _ _ _
   have HX:∀ o1 o2 w1,Hid (Below ((w.alloc o1).alloc o2).heap.size ((w.alloc o1).alloc o2) w1→Below w.heap.size w w1):=fun o1 o2 w1 h=>(B2 o1 o2).out.trans (h.mono (by simp;omega))
   have CF:Hid (_):=boxes_blk w (.slice fa frs.length fcap) (.slice ea ens.length ecap) (.slice qa qus.length qcap)
   clear hM hF hz hRM hN0 hF0 hrn hrf
   generalize machF _=z at h1 hz1 ⊢
   go_enter Tryz.func46,Tryz.ntmps46
   go_wp2_with (first
    | (go_at_call 106;refine (h1 _ (B2 _ _).out).mono ?_;rintro x w1 ⟨rfl,hb1⟩;obtain ⟨AB,RB⟩:=CF.out w1 hb1;have HB1:Hid (Below w.heap.size w w1):=(HX _ _ _).out hb1;obtain ⟨r0,r1,r2,rf0,rf1,rf2,rl⟩:=box_cells RB;clear hb1 CF AB RB)
    | fail)
   obtain ⟨k0,k1,k2⟩:=blk3 (v0:=.slice none 0 0) (v1:=.slice none 0 0) (v2:=.slice none 0 0) r0 r1 r2
   (try simp only [Exit.inBlock,Exit.then])
   refine bodyPost_ret (by simp [results,Tryz.results46,go_sem,k0,k1,k2];try rfl) rfl ?_
   exact ⟨noM,rfl,Mv.Same.refl _,noM_own _ _,blk3_below HB1.out (by omega)⟩
end Go.Proofs.YtdngbojbpmdegaaGreatDoor
