import Derived.Test.YtdngbojbpmdegaaGreatDoorJHostRan
import Derived.Test.YtdngbojbpmdegaaGreatDoorRunResume
import Derived.Test.YtdngbojbpmdegaaGreatDoorJOpenCells
import Derived.Lib.SmallJoins
import Derived.Deep.Slices
import Derived.Deep.Strs
import Derived.SizedLaws
import Derived.Test.YtdngbojbpmdegaaGreatDoorJIdxBase
import Derived.Deep.QuietTactic
import Derived.BigQuiet
import Derived.Outline
import Derived.Test.YtdngbojbpmdegaaGreatDoorJPutMath
import Derived.Deep.RegionHeld3
import Derived.Deep.AppendLies
import Derived.Deep.LoopGhost
import Derived.Test.YtdngbojbpmdegaaGreatDoorJAppRows
import Derived.Lib.AppendZeros
import Derived.Lib.AppendZerosOnto
import Derived.Test.YtdngbojbpmdegaaGreatDoorJSameM
import Derived.Test.YtdngbojbpmdegaaGreatDoorHostRun
namespace Go.Proofs.YtdngbojbpmdegaaGreatDoor
open Go.RowKit
set_option maxRecDepth 100000
set_option linter.unusedVariables false
structure MBox (n0:Nat) (w:World) (b:Nat) (M:Mv):Prop where
 c0:w.cell? ⟨b,0,none⟩=some (.slice M.fa M.frs.length M.fcap)
 c1:w.cell? ⟨b,1,none⟩=some (.slice M.ea M.ens.length M.ecap)
 c2:w.cell? ⟨b,2,none⟩=some (.slice M.qa M.qus.length M.qcap)
 fz:∀ o,w.frozen? ⟨b,o,none⟩=false
 lt:b<w.heap.size
 own:Owned n0 w M
 off:¬ Mine M b
theorem MBox.keepH {n0:Nat} {w w' : World} {b:Nat} {M:Mv} (h:MBox n0 w b M) (hw:∀ c,c=b∨Mine M c→w'.heap[c]? = w.heap[c]?) (hs:w.heap.size≤w'.heap.size):MBox n0 w' b M:=by
 have hc:∀ o,w'.cell? ⟨b,o,none⟩=w.cell? ⟨b,o,none⟩:=fun o=>World.cell?_of_block (hw b (.inl rfl))
 exact ⟨(hc 0).trans h.c0,(hc 1).trans h.c1,(hc 2).trans h.c2,fun o=>(World.frozen?_of_block (hw b (.inl rfl))).trans (h.fz o),Nat.lt_of_lt_of_le h.lt hs,h.own.keepM (fun c hc=>hw c (.inr hc)) hs,h.off⟩
theorem MBox.old {n0:Nat} {w:World} {b:Nat} {M:Mv} (h:MBox n0 w b M) {c:Nat} (hc:c=b∨Mine M c):c<w.heap.size:=by
 rcases hc with rfl | hc
 · exact h.lt
 · exact (Mine.fresh h.own hc).2
theorem MBox.keep {n0:Nat} {w w' : World} {b:Nat} {M:Mv} (h:MBox n0 w b M) (hb:Below w.heap.size w w'):MBox n0 w' b M:=
 h.keepH (fun c hc=>hb.block c (h.old hc)) hb.size
theorem MBox.far {n0:Nat} {w:World} {b:Nat} {M:Mv} (h:MBox n0 w b M) {c:Nat} (hc:¬ (c=b∨Mine M c)) (o:Nat) (v:Value):MBox n0 (w.setCell ⟨c,o,none⟩ v) b M:=
 h.keepH (fun d hd=>set_heap _ _ _ _ _ (fun e=>hc (e▸hd))) (by simp [World.setCell])
theorem MBox.mono {n0 n1:Nat} {w:World} {b:Nat} {M:Mv} (h:MBox n0 w b M) (hn:n1≤n0):MBox n1 w b M:=⟨h.c0,h.c1,h.c2,h.fz,h.lt,h.own.mono hn,h.off⟩
theorem MBox.of_block {n0:Nat} {w:World} {b:Nat} {M:Mv} {t:TypeId} (hO:Owned n0 w M) (hb:w.heap[b]? = some (.cells #[.slice M.fa M.frs.length M.fcap,.slice M.ea M.ens.length M.ecap,.slice M.qa M.qus.length M.qcap] t (0,0))) (off:¬ Mine M b):MBox n0 w b M:=
 ⟨by simp [World.cell?,hb],by simp [World.cell?,hb],by simp [World.cell?,hb],fun o=>by simp [World.frozen?,hb],(Array.getElem?_eq_some_iff.1 hb).1,hO,off⟩
theorem MBox.putM {n0 n1:Nat} {w:World} {b:Nat} {M N:Mv} (h:MBox n0 w b M) (hO:Owned n1 w N) (off:¬ Mine N b) :
 MBox n1 (((w.setCell ⟨b,0,none⟩ (.slice N.fa N.frs.length N.fcap)).setCell ⟨b,1,none⟩ (.slice N.ea N.ens.length N.ecap)).setCell ⟨b,2,none⟩ (.slice N.qa N.qus.length N.qcap)) b N:=by
 obtain ⟨k0,k1,k2⟩:=blk3 (v0:=.slice N.fa N.frs.length N.fcap) (v1:=.slice N.ea N.ens.length N.ecap) (v2:=.slice N.qa N.qus.length N.qcap) h.c0 h.c1 h.c2
 have hf:∀ o,(((w.setCell ⟨b,0,none⟩ (.slice N.fa N.frs.length N.fcap)).setCell ⟨b,1,none⟩ (.slice N.ea N.ens.length N.ecap)).setCell ⟨b,2,none⟩ (.slice N.qa N.qus.length N.qcap)).frozen? ⟨b,o,none⟩=false:=fun o=>by rw [World.frozen?_setCell,World.frozen?_setCell,World.frozen?_setCell];exact h.fz o
 have hh:=fun c hc=>blk3_heap (w:=w) (b:=b) (v0:=.slice N.fa N.frs.length N.fcap) (v1:=.slice N.ea N.ens.length N.ecap) (v2:=.slice N.qa N.qus.length N.qcap) c hc
 have hz:(((w.setCell ⟨b,0,none⟩ (.slice N.fa N.frs.length N.fcap)).setCell ⟨b,1,none⟩ (.slice N.ea N.ens.length N.ecap)).setCell ⟨b,2,none⟩ (.slice N.qa N.qus.length N.qcap)).heap.size=w.heap.size:=blk3_size
 generalize ((w.setCell ⟨b,0,none⟩ (.slice N.fa N.frs.length N.fcap)).setCell ⟨b,1,none⟩ (.slice N.ea N.ens.length N.ecap)).setCell ⟨b,2,none⟩ (.slice N.qa N.qus.length N.qcap)=V at k0 k1 k2 hf hh hz
 exact ⟨k0,k1,k2,hf,by rw [hz];exact h.lt,hO.keepM (fun c hc=>hh c (fun q=>off (q▸hc))) (by rw [hz];exact Nat.le_refl _),off⟩
structure OBox (w:World) (b:Nat) (nd v:Int):Prop where
 c0:w.cell? ⟨b,0,none⟩=some (.int .i64 nd)
 c1:w.cell? ⟨b,1,none⟩=some (.int .i64 v)
 fz:∀ o,w.frozen? ⟨b,o,none⟩=false
 lt:b<w.heap.size
theorem OBox.keepH {w w' : World} {b:Nat} {nd v:Int} (h:OBox w b nd v) (hw:w'.heap[b]? = w.heap[b]?) (hs:w.heap.size≤w'.heap.size):OBox w' b nd v:=
 ⟨(World.cell?_of_block hw).trans h.c0,(World.cell?_of_block hw).trans h.c1,fun o=>(World.frozen?_of_block hw).trans (h.fz o),Nat.lt_of_lt_of_le h.lt hs⟩
theorem OBox.keep {w w' : World} {b:Nat} {nd v:Int} (h:OBox w b nd v) (hb:Below w.heap.size w w'):OBox w' b nd v:=h.keepH (hb.block b h.lt) hb.size
theorem OBox.far {w:World} {b:Nat} {nd v:Int} (h:OBox w b nd v) {c:Nat} (hc:c≠b) (o:Nat) (x:Value):OBox (w.setCell ⟨c,o,none⟩ x) b nd v:=
 h.keepH (set_heap _ _ _ _ _ (Ne.symm hc)) (by simp [World.setCell])
theorem OBox.of_block {w:World} {b:Nat} {nd v:Int} {t:TypeId} (hb:w.heap[b]? = some (.cells #[.int .i64 nd,.int .i64 v] t (0,0))):OBox w b nd v:=
 ⟨by simp [World.cell?,hb],by simp [World.cell?,hb],fun o=>by simp [World.frozen?,hb],(Array.getElem?_eq_some_iff.1 hb).1⟩
theorem OBox.put {w:World} {b:Nat} {nd v:Int} (h:OBox w b nd v) (nd' v' : Int):OBox ((w.setCell ⟨b,0,none⟩ (.int .i64 nd')).setCell ⟨b,1,none⟩ (.int .i64 v')) b nd' v':=by
 have oth:∀ (V:World) (i j:Nat) (x:Value),i≠j→(V.setCell ⟨b,i,none⟩ x).cell? ⟨b,j,none⟩=V.cell? ⟨b,j,none⟩:=fun V i j x hij=>World.cell?_setCell_other _ _ _ _ (by intro q;simp only [Addr.mk.injEq,true_and,and_true] at q;exact hij q)
 exact ⟨(oth _ 1 0 _ (by omega)).trans (World.cell?_setCell_same _ _ _ h.c0),World.cell?_setCell_same _ _ _ ((oth w 0 1 _ (by omega)).trans h.c1),fun o=>by rw [World.frozen?_setCell,World.frozen?_setCell];exact h.fz o,by simp [World.setCell];exact h.lt⟩
end Go.Proofs.YtdngbojbpmdegaaGreatDoor

namespace Go.Proofs.YtdngbojbpmdegaaGreatDoor
open Go.ChangeShapes Go.WideShapes Go.ChangeAt Go.RowKit Go.Joins
set_option maxRecDepth 100000
structure Pg where
 at_:Int
 r:Int
 a:Option Addr
 ws:List Int
 cap:Nat
instance:Inhabited Pg:=⟨⟨0,0,none,[],0⟩⟩
def Pg.val (p:Pg):Value:=.agg #[.int .i64 p.at_,.int .i64 p.r,.slice p.a p.ws.length p.cap]
structure Pg.Ok (w:World) (p:Pg):Prop where
 wat:(Lit.int .i64 p.at_).wf=true
 wr:(Lit.int .i64 p.r).wf=true
 len:p.ws.length≤maxLen
 ints:Ints w p.a p.ws
 wws:∀ n ∈ p.ws,(Lit.int .i64 n).wf=true
structure PagesAt (w:World) (a:Option Addr) (ps:List Pg):Prop where
 at_:ps = []∨∃ b off,a=some ⟨b,off,none⟩∧∀ j,j<ps.length→w.cell? ⟨b,off+j * 3,none⟩=some (.int .i64 (ps.getD j default).at_)∧
  w.cell? ⟨b,off+j * 3+1,none⟩=some (.int .i64 (ps.getD j default).r)∧w.cell? ⟨b,off+j * 3+2,none⟩=some (.slice (ps.getD j default).a (ps.getD j default).ws.length (ps.getD j default).cap)
 ok:∀ j,j<ps.length→(ps.getD j default).Ok w
end Go.Proofs.YtdngbojbpmdegaaGreatDoor

namespace Go.Proofs.YtdngbojbpmdegaaGreatDoor
open Go.RowKit
end Go.Proofs.YtdngbojbpmdegaaGreatDoor

namespace Go.Proofs.YtdngbojbpmdegaaGreatDoor
open Go.ChangeShapes Go.WideShapes Go.ChangeAt Go.RowKit Go.Joins
set_option maxRecDepth 100000
structure Rw where
 k:Int
 a:Int
 b:Int
 c:Int
instance:Inhabited Rw:=⟨⟨0,0,0,0⟩⟩
def Rw.val (r:Rw):Value:=.agg #[.int .i64 r.k,.int .i64 r.a,.int .i64 r.b,.int .i64 r.c]
structure Rw.Ok (r:Rw):Prop where
 k:(Lit.int .i64 r.k).wf=true
 a:(Lit.int .i64 r.a).wf=true
 b:(Lit.int .i64 r.b).wf=true
 c:(Lit.int .i64 r.c).wf=true
structure RawsAt (w:World) (a:Option Addr) (rs:List Rw):Prop where
 at_:rs = []∨∃ b off,a=some ⟨b,off,none⟩∧∀ j,j<rs.length→w.cell? ⟨b,off+j * 4,none⟩=some (.int .i64 (rs.getD j default).k)∧
  w.cell? ⟨b,off+j * 4+1,none⟩=some (.int .i64 (rs.getD j default).a)∧w.cell? ⟨b,off+j * 4+2,none⟩=some (.int .i64 (rs.getD j default).b)∧w.cell? ⟨b,off+j * 4+3,none⟩=some (.int .i64 (rs.getD j default).c)
 ok:∀ j,j<rs.length→(rs.getD j default).Ok
theorem RawsAt.below {w w' : World} {a:Option Addr} {rs:List Rw} (h:RawsAt w a rs) (hb:Below w.heap.size w w'):RawsAt w' a rs:=by
 refine ⟨?_,h.ok⟩
 rcases h.at_ with h | ⟨b,off,h1,h2⟩
 · exact .inl h
 · refine .inr ⟨b,off,h1,fun j hj=>?_⟩
   obtain ⟨c0,c1,c2,c3⟩:=h2 j hj
   exact ⟨(hb.cell (p:=⟨b,_,none⟩) (lt_of_cell c0)).trans c0,(hb.cell (p:=⟨b,_,none⟩) (lt_of_cell c1)).trans c1,(hb.cell (p:=⟨b,_,none⟩) (lt_of_cell c2)).trans c2,(hb.cell (p:=⟨b,_,none⟩) (lt_of_cell c3)).trans c3⟩
end Go.Proofs.YtdngbojbpmdegaaGreatDoor

namespace Go.Proofs.YtdngbojbpmdegaaGreatDoor
open Go.RowKit
end Go.Proofs.YtdngbojbpmdegaaGreatDoor

namespace Go.Proofs.YtdngbojbpmdegaaGreatDoor
open Go.RowKit
def Pg.f (p:Pg):Int:=pageF p.at_ p.r p.ws
theorem Pg.Ok.below {w w' : World} {p:Pg} (h:p.Ok w) (hb:Below w.heap.size w w'):p.Ok w':=⟨h.wat,h.wr,h.len,h.ints.below hb,h.wws⟩
theorem PagesAt.below {w w' : World} {a:Option Addr} {ps:List Pg} (h:PagesAt w a ps) (hb:Below w.heap.size w w'):PagesAt w' a ps:=by
 refine ⟨?_,fun j hj=>(h.ok j hj).below hb⟩
 rcases h.at_ with h | ⟨b,off,h1,h2⟩
 · exact .inl h
 · refine .inr ⟨b,off,h1,fun j hj=>?_⟩
   obtain ⟨c0,c1,c2⟩:=h2 j hj
   exact ⟨(hb.cell (p:=⟨b,_,none⟩) (lt_of_cell c0)).trans c0,(hb.cell (p:=⟨b,_,none⟩) (lt_of_cell c1)).trans c1,(hb.cell (p:=⟨b,_,none⟩) (lt_of_cell c2)).trans c2⟩
theorem PagesAt.cells {w:World} {b off:Nat} {ps:List Pg} (h:PagesAt w (some ⟨b,off,none⟩) ps) {j:Nat} (hj:j<ps.length) :
 w.cell? ⟨b,off+j * 3,none⟩=some (.int .i64 (ps.getD j default).at_)∧w.cell? ⟨b,off+j * 3+1,none⟩=some (.int .i64 (ps.getD j default).r)∧
  w.cell? ⟨b,off+j * 3+2,none⟩=some (.slice (ps.getD j default).a (ps.getD j default).ws.length (ps.getD j default).cap):=by
 rcases h.at_ with rfl | ⟨b',off',h1,h2⟩
 · simp at hj
 · simp at h1
   obtain ⟨rfl,rfl⟩:=h1
   exact h2 j hj
end Go.Proofs.YtdngbojbpmdegaaGreatDoor

namespace Go.Proofs.YtdngbojbpmdegaaGreatDoor
open Go.RowKit
end Go.Proofs.YtdngbojbpmdegaaGreatDoor

namespace Go.Proofs.YtdngbojbpmdegaaGreatDoor
open Go.RowKit
set_option maxRecDepth 100000
end Go.Proofs.YtdngbojbpmdegaaGreatDoor

namespace Go.Proofs.YtdngbojbpmdegaaGreatDoor
open Go.RowKit
set_option maxRecDepth 100000
set_option linter.unusedVariables false
structure PtI where
 a:Option Addr
 l:List Int
 cap:Nat
instance:Inhabited PtI:=⟨⟨none,[],0⟩⟩
def PtI.cells (p:PtI):List Value:=[.slice p.a p.l.length p.cap]
end Go.Proofs.YtdngbojbpmdegaaGreatDoor

namespace Go.Proofs.YtdngbojbpmdegaaGreatDoor
open Go.RowKit
set_option maxRecDepth 100000
set_option linter.unusedVariables false
end Go.Proofs.YtdngbojbpmdegaaGreatDoor

namespace Go.Proofs.YtdngbojbpmdegaaGreatDoor
open Go.RowKit
set_option maxRecDepth 100000
set_option linter.unusedVariables false
end Go.Proofs.YtdngbojbpmdegaaGreatDoor

namespace Go.Proofs.YtdngbojbpmdegaaGreatDoor
open Go.RowKit
set_option maxRecDepth 100000
set_option linter.unusedVariables false
end Go.Proofs.YtdngbojbpmdegaaGreatDoor

namespace Go.Proofs.YtdngbojbpmdegaaGreatDoor
open Go.RowKit
set_option maxRecDepth 100000
set_option linter.unusedVariables false
def allocs (os:List Obj) (w:World):World:=os.foldl World.alloc w
theorem allocs_size (os:List Obj):∀ w:World,(allocs os w).heap.size=w.heap.size+os.length:=by
 induction os with
 | nil=>intro w;rfl
 | cons o os ih=>intro w;show (allocs os (w.alloc o)).heap.size=_;rw [ih,World.size_alloc,List.length_cons];omega
theorem allocs_below (os:List Obj):∀ (n:Nat) (w0 w:World),Below n w0 w→n≤w.heap.size→Below n w0 (allocs os w):=by
 induction os with
 | nil=>intro n w0 w h _;exact h
 | cons o os ih=>intro n w0 w h hn;exact ih n w0 (w.alloc o) (h.alloc hn o) (by rw [World.size_alloc];omega)
theorem allocs_at (os:List Obj):∀ (w:World) (i:Nat) (o:Obj),os[i]? = some o→(allocs os w).heap[w.heap.size+i]? = some o:=by
 induction os with
 | nil=>intro w i o h;simp at h
 | cons a os ih =>
   intro w i o h
   show (allocs os (w.alloc a)).heap[w.heap.size+i]? = some o
   cases i with
   | zero =>
     have hb:=allocs_below os (w.alloc a).heap.size (w.alloc a) (w.alloc a) (Below.refl _ _) (Nat.le_refl _)
     rw [Nat.add_zero,hb.block _ (by rw [World.size_alloc];omega),Go.Deep.blk_alloc_new]
     simpa using h
   | succ i =>
     have:=ih (w.alloc a) i o (by simpa using h)
     rw [World.size_alloc] at this
     rw [show w.heap.size+(i+1)=w.heap.size+1+i by omega]
     exact this
end Go.Proofs.YtdngbojbpmdegaaGreatDoor

namespace Go.Proofs.YtdngbojbpmdegaaGreatDoor
open Go.RowKit
set_option maxRecDepth 100000
set_option linter.unusedVariables false
theorem oth_cell (V:World) (b i j:Nat) (x:Value) (hij:i≠j):(V.setCell ⟨b,i,none⟩ x).cell? ⟨b,j,none⟩=V.cell? ⟨b,j,none⟩:=
 World.cell?_setCell_other _ _ _ _ (by intro q;simp only [Addr.mk.injEq,true_and,and_true] at q;exact hij q)
theorem far_cell (V:World) {b c:Nat} (i j:Nat) (x:Value) (h:c≠b):(V.setCell ⟨c,i,none⟩ x).cell? ⟨b,j,none⟩=V.cell? ⟨b,j,none⟩:=
 World.cell?_of_block (set_heap _ _ _ _ _ (Ne.symm h))
structure CH (n0:Nat) (w:World) (b:Nat) (C:Cv):Prop where
 c0:w.cell? ⟨b,0,none⟩=some (.slice C.ta C.tr.length C.tcap)
 c1:w.cell? ⟨b,1,none⟩=some (.slice C.na C.ns.length C.ncap)
 fz:∀ o,w.frozen? ⟨b,o,none⟩=false
 lt:b<w.heap.size
 own:COwn n0 w C
 off:¬ MineC C b
theorem CH.keepH {n0:Nat} {w w' : World} {b:Nat} {C:Cv} (h:CH n0 w b C) (hw:∀ c,c=b∨MineC C c→w'.heap[c]? = w.heap[c]?) (hs:w.heap.size≤w'.heap.size):CH n0 w' b C:=by
 have hc:∀ o,w'.cell? ⟨b,o,none⟩=w.cell? ⟨b,o,none⟩:=fun o=>World.cell?_of_block (hw b (.inl rfl))
 exact ⟨(hc 0).trans h.c0,(hc 1).trans h.c1,fun o=>(World.frozen?_of_block (hw b (.inl rfl))).trans (h.fz o),Nat.lt_of_lt_of_le h.lt hs,h.own.keepC (fun c hc=>hw c (.inr hc)),h.off⟩
theorem CH.old {n0:Nat} {w:World} {b:Nat} {C:Cv} (h:CH n0 w b C) {c:Nat} (hc:c=b∨MineC C c):c<w.heap.size:=by
 rcases hc with rfl | hc
 · exact h.lt
 · exact (MineC.fresh h.own hc).2
theorem CH.keep {n0:Nat} {w w' : World} {b:Nat} {C:Cv} (h:CH n0 w b C) (hb:Below w.heap.size w w'):CH n0 w' b C:=h.keepH (fun c hc=>hb.block c (h.old hc)) hb.size
theorem CH.far {n0:Nat} {w:World} {b:Nat} {C:Cv} (h:CH n0 w b C) {c:Nat} (hc:¬ (c=b∨MineC C c)) (o:Nat) (v:Value):CH n0 (w.setCell ⟨c,o,none⟩ v) b C:=
 h.keepH (fun d hd=>set_heap _ _ _ _ _ (fun e=>hc (e▸hd))) (by simp [World.setCell])
theorem CH.mono {n0 n1:Nat} {w:World} {b:Nat} {C:Cv} (h:CH n0 w b C) (hn:n1≤n0):CH n1 w b C:=⟨h.c0,h.c1,h.fz,h.lt,h.own.mono hn,h.off⟩
theorem CH.of_block {n0:Nat} {w:World} {b:Nat} {C:Cv} {t:TypeId} (hO:COwn n0 w C) (hb:w.heap[b]? = some (.cells #[.slice C.ta C.tr.length C.tcap,.slice C.na C.ns.length C.ncap] t (0,0))) (off:¬ MineC C b):CH n0 w b C:=
 ⟨by simp [World.cell?,hb],by simp [World.cell?,hb],fun o=>by simp [World.frozen?,hb],(Array.getElem?_eq_some_iff.1 hb).1,hO,off⟩
theorem CH.put {n0 n1:Nat} {w:World} {b:Nat} {C D:Cv} (h:CH n0 w b C) (hO:COwn n1 w D) (off:¬ MineC D b) :
 CH n1 ((w.setCell ⟨b,0,none⟩ (.slice D.ta D.tr.length D.tcap)).setCell ⟨b,1,none⟩ (.slice D.na D.ns.length D.ncap)) b D:=by
 have hh:∀ c,c≠b→((w.setCell ⟨b,0,none⟩ (.slice D.ta D.tr.length D.tcap)).setCell ⟨b,1,none⟩ (.slice D.na D.ns.length D.ncap)).heap[c]? = w.heap[c]?:=fun c hc=>by rw [set_heap _ _ _ _ _ hc,set_heap _ _ _ _ _ hc]
 exact ⟨(oth_cell _ _ 1 0 _ (by omega)).trans (World.cell?_setCell_same _ _ _ h.c0),World.cell?_setCell_same _ _ _ ((oth_cell w _ 0 1 _ (by omega)).trans h.c1),fun o=>by rw [World.frozen?_setCell,World.frozen?_setCell];exact h.fz o,by simp [World.setCell];exact h.lt,hO.keepC (fun c hc=>hh c (fun q=>off (q▸hc))),off⟩
def OwnsAn (w:World) (B:Nat) (v:Value) (xs:List (Int × Int)):Prop:=w.ownsRow B 39 2 v xs.length (xs.flatMap anCells)
theorem an_row {w:World} {B:Nat} {v:Value} {l:List (Int × Int)} (h:OwnsAn w B v l):∃ a cap,v=.slice a l.length cap∧RowsAt w 2 anCells a l:=by
 rcases h.2 with ⟨hv,h0⟩ | ⟨g,cap,cur,hv,_,hg,_,_,_,h4⟩
 · exact ⟨none,0,by rw [hv,h0],.inl (List.eq_nil_of_length_eq_zero h0)⟩
 · refine ⟨some ⟨g,0,none⟩,cap,hv,?_⟩
   have e:cur=(l.flatMap anCells ++ cur.toList.drop (l.length * 2)).toArray:=by
    have:(l.flatMap anCells ++ cur.toList.drop (l.length * 2)).toArray=cur:=by rw [← h4,List.take_append_drop]
    exact this.symm
   rw [e] at hg
   exact rows_of_block (cells:=anCells) (c:=2) (fun _=>rfl) hg
theorem an_info:(Tryz.prog.info? 39).map (fun i=>(i.zero,i.size,i.bytes))=some (some (.agg #[.int .i64 0,.int .i64 0]),2,16):=by kernel_rfl
structure SL (W0:World) (P Q:Nat) (s0:Hs) (l:List Ac) (k:Nat) (v:Value) (M:Mv) (C:Cv) (wr:World):Prop where
 sm:M.Same (hst s0 (l.take k)).M
 sc:C.Same (hst s0 (l.take k)).C
 m:MBox W0.heap.size wr P M
 c:CH W0.heap.size wr Q C
 mq:¬ Mine M Q
 cp:¬ MineC C P
 pq:P≠Q
 row:OwnsAn wr W0.heap.size v (hans s0 (l.take k))
 ob:∀ g,v.ownBlock=some g→g≠P∧g≠Q∧¬ Mine M g∧¬ MineC C g
 bel:Below W0.heap.size W0 wr
 gp:W0.heap.size≤P
 gq:W0.heap.size≤Q
theorem OwnsAn.keepH {w w' : World} {B:Nat} {v:Value} {xs:List (Int × Int)} (h:OwnsAn w B v xs) (hb:∀ g,v.ownBlock=some g→w'.heap[g]? = w.heap[g]?):OwnsAn w' B v xs:=by
 refine ⟨h.1,?_⟩
 rcases h.2 with q | ⟨g,cap,cur,hv,h1,hg,h2,h3,h4,h5⟩
 · exact .inl q
 · exact .inr ⟨g,cap,cur,hv,h1,(hb g (by rw [hv];rfl)).trans hg,h2,h3,h4,h5⟩
theorem SL.keepH {W0:World} {P Q:Nat} {s0:Hs} {l:List Ac} {k:Nat} {v:Value} {M:Mv} {C:Cv} {wr w' : World} (h:SL W0 P Q s0 l k v M C wr) (hw:∀ c,c<wr.heap.size→w'.heap[c]? = wr.heap[c]?) (hs:wr.heap.size≤w'.heap.size) (hb:Below W0.heap.size W0 w'):SL W0 P Q s0 l k v M C w':=
 ⟨h.sm,h.sc,h.m.keepH (fun c hc=>hw c (h.m.old hc)) hs,h.c.keepH (fun c hc=>hw c (h.c.old hc)) hs,h.mq,h.cp,h.pq,h.row.keepH (fun g hg=>hw g (h.row.lt g hg).2),h.ob,hb,h.gp,h.gq⟩
theorem SL.keep {W0:World} {P Q:Nat} {s0:Hs} {l:List Ac} {k:Nat} {v:Value} {M:Mv} {C:Cv} {wr w' : World} (h:SL W0 P Q s0 l k v M C wr) (hb:Below wr.heap.size wr w'):SL W0 P Q s0 l k v M C w':=
 h.keepH (fun c hc=>hb.block c hc) hb.size (h.bel.trans (hb.mono h.bel.size))
structure Cx (V:World) (G:Nat) (cc nn ee vv:Int) (X:Mv) (D:Cv):Prop where
 a0:V.cell? ⟨G+1,0,none⟩=some (.int .i64 cc)
 a1:V.cell? ⟨G+1,1,none⟩=some (.int .i64 nn)
 x0:V.cell? ⟨G+1+1,0,none⟩=some (.slice X.fa X.frs.length X.fcap)
 x1:V.cell? ⟨G+1+1,1,none⟩=some (.slice X.ea X.ens.length X.ecap)
 x2:V.cell? ⟨G+1+1,2,none⟩=some (.slice X.qa X.qus.length X.qcap)
 o0:V.cell? ⟨G+1+1+1,0,none⟩=some (.int .i64 ee)
 o1:V.cell? ⟨G+1+1+1,1,none⟩=some (.int .i64 vv)
 d0:V.cell? ⟨G+1+1+1+1,0,none⟩=some (.slice D.ta D.tr.length D.tcap)
 d1:V.cell? ⟨G+1+1+1+1,1,none⟩=some (.slice D.na D.ns.length D.ncap)
 fz:∀ c o,G<c→c<G+5→V.frozen? ⟨c,o,none⟩=false
 sz:G+5≤V.heap.size
theorem Cx.keepH {V V' : World} {G:Nat} {cc nn ee vv:Int} {X:Mv} {D:Cv} (h:Cx V G cc nn ee vv X D) (hw:∀ c,G<c→c<G+5→V'.heap[c]? = V.heap[c]?) (hs:V.heap.size≤V'.heap.size):Cx V' G cc nn ee vv X D:=by
 have hc:∀ c o,G<c→c<G+5→V'.cell? ⟨c,o,none⟩=V.cell? ⟨c,o,none⟩:=fun c o h1 h2=>World.cell?_of_block (hw c h1 h2)
 exact ⟨(hc _ _ (by omega) (by omega)).trans h.a0,(hc _ _ (by omega) (by omega)).trans h.a1,(hc _ _ (by omega) (by omega)).trans h.x0,(hc _ _ (by omega) (by omega)).trans h.x1,(hc _ _ (by omega) (by omega)).trans h.x2,(hc _ _ (by omega) (by omega)).trans h.o0,(hc _ _ (by omega) (by omega)).trans h.o1,(hc _ _ (by omega) (by omega)).trans h.d0,(hc _ _ (by omega) (by omega)).trans h.d1,
  fun c o h1 h2=>(World.frozen?_of_block (hw c h1 h2)).trans (h.fz c o h1 h2),Nat.le_trans h.sz hs⟩
theorem Cx.keep {V V' : World} {G:Nat} {cc nn ee vv:Int} {X:Mv} {D:Cv} (h:Cx V G cc nn ee vv X D) (hb:Below V.heap.size V V'):Cx V' G cc nn ee vv X D:=
 h.keepH (fun c h1 h2=>hb.block c (by have:=h.sz;omega)) hb.size
theorem Cx.far {V:World} {G:Nat} {cc nn ee vv:Int} {X:Mv} {D:Cv} (h:Cx V G cc nn ee vv X D) {c:Nat} (hc:c≤G) (o:Nat) (u:Value):Cx (V.setCell ⟨c,o,none⟩ u) G cc nn ee vv X D:=
 h.keepH (fun d h1 h2=>set_heap _ _ _ _ _ (by omega)) (by simp [World.setCell])
theorem Cx.code {V:World} {G:Nat} {cc nn ee vv:Int} {X:Mv} {D:Cv} (h:Cx V G cc nn ee vv X D) (z:Int):Cx (V.setCell ⟨G+1,0,none⟩ (.int .i64 z)) G z nn ee vv X D:=
 ⟨World.cell?_setCell_same _ _ _ h.a0,(oth_cell _ _ 0 1 _ (by omega)).trans h.a1,(far_cell _ 0 0 _ (by omega)).trans h.x0,(far_cell _ 0 1 _ (by omega)).trans h.x1,(far_cell _ 0 2 _ (by omega)).trans h.x2,(far_cell _ 0 0 _ (by omega)).trans h.o0,(far_cell _ 0 1 _ (by omega)).trans h.o1,(far_cell _ 0 0 _ (by omega)).trans h.d0,(far_cell _ 0 1 _ (by omega)).trans h.d1,
   fun c o h1 h2=>by rw [World.frozen?_setCell];exact h.fz c o h1 h2,by simp [World.setCell];exact h.sz⟩
theorem Cx.num {V:World} {G:Nat} {cc nn ee vv:Int} {X:Mv} {D:Cv} (h:Cx V G cc nn ee vv X D) (z:Int):Cx (V.setCell ⟨G+1,1,none⟩ (.int .i64 z)) G cc z ee vv X D:=
 ⟨(oth_cell _ _ 1 0 _ (by omega)).trans h.a0,World.cell?_setCell_same _ _ _ h.a1,(far_cell _ 1 0 _ (by omega)).trans h.x0,(far_cell _ 1 1 _ (by omega)).trans h.x1,(far_cell _ 1 2 _ (by omega)).trans h.x2,(far_cell _ 1 0 _ (by omega)).trans h.o0,(far_cell _ 1 1 _ (by omega)).trans h.o1,(far_cell _ 1 0 _ (by omega)).trans h.d0,(far_cell _ 1 1 _ (by omega)).trans h.d1,
   fun c o h1 h2=>by rw [World.frozen?_setCell];exact h.fz c o h1 h2,by simp [World.setCell];exact h.sz⟩
theorem Cx.next {V:World} {G:Nat} {cc nn ee vv:Int} {X:Mv} {D:Cv} (h:Cx V G cc nn ee vv X D) (Y:Mv) :
 Cx (((V.setCell ⟨G+1+1,0,none⟩ (.slice Y.fa Y.frs.length Y.fcap)).setCell ⟨G+1+1,1,none⟩ (.slice Y.ea Y.ens.length Y.ecap)).setCell ⟨G+1+1,2,none⟩ (.slice Y.qa Y.qus.length Y.qcap)) G cc nn ee vv Y D:=by
 obtain ⟨k0,k1,k2⟩:=blk3 (v0:=.slice Y.fa Y.frs.length Y.fcap) (v1:=.slice Y.ea Y.ens.length Y.ecap) (v2:=.slice Y.qa Y.qus.length Y.qcap) h.x0 h.x1 h.x2
 have f:∀ c o,c≠G+1+1→(((V.setCell ⟨G+1+1,0,none⟩ (.slice Y.fa Y.frs.length Y.fcap)).setCell ⟨G+1+1,1,none⟩ (.slice Y.ea Y.ens.length Y.ecap)).setCell ⟨G+1+1,2,none⟩ (.slice Y.qa Y.qus.length Y.qcap)).cell? ⟨c,o,none⟩=V.cell? ⟨c,o,none⟩:=fun c o hc=>World.cell?_of_block (blk3_heap c hc)
 exact ⟨(f _ _ (by omega)).trans h.a0,(f _ _ (by omega)).trans h.a1,k0,k1,k2,(f _ _ (by omega)).trans h.o0,(f _ _ (by omega)).trans h.o1,(f _ _ (by omega)).trans h.d0,(f _ _ (by omega)).trans h.d1,
  fun c o h1 h2=>by rw [World.frozen?_setCell,World.frozen?_setCell,World.frozen?_setCell];exact h.fz c o h1 h2,by simp [World.setCell];exact h.sz⟩
theorem Cx.out {V:World} {G:Nat} {cc nn ee vv:Int} {X:Mv} {D:Cv} (h:Cx V G cc nn ee vv X D) (e' v' : Int) :
 Cx ((V.setCell ⟨G+1+1+1,0,none⟩ (.int .i64 e')).setCell ⟨G+1+1+1,1,none⟩ (.int .i64 v')) G cc nn e' v' X D:=by
 have f:∀ c o,c≠G+1+1+1→((V.setCell ⟨G+1+1+1,0,none⟩ (.int .i64 e')).setCell ⟨G+1+1+1,1,none⟩ (.int .i64 v')).cell? ⟨c,o,none⟩=V.cell? ⟨c,o,none⟩:=fun c o hc=>(far_cell _ 1 o _ (Ne.symm hc)).trans (far_cell _ 0 o _ (Ne.symm hc))
 exact ⟨(f _ _ (by omega)).trans h.a0,(f _ _ (by omega)).trans h.a1,(f _ _ (by omega)).trans h.x0,(f _ _ (by omega)).trans h.x1,(f _ _ (by omega)).trans h.x2,(oth_cell _ _ 1 0 _ (by omega)).trans (World.cell?_setCell_same _ _ _ h.o0),World.cell?_setCell_same _ _ _ ((oth_cell V _ 0 1 _ (by omega)).trans h.o1),(f _ _ (by omega)).trans h.d0,(f _ _ (by omega)).trans h.d1,
  fun c o h1 h2=>by rw [World.frozen?_setCell,World.frozen?_setCell];exact h.fz c o h1 h2,by simp [World.setCell];exact h.sz⟩
theorem Cx.chal {V:World} {G:Nat} {cc nn ee vv:Int} {X:Mv} {D:Cv} (h:Cx V G cc nn ee vv X D) (E:Cv) :
 Cx ((V.setCell ⟨G+1+1+1+1,0,none⟩ (.slice E.ta E.tr.length E.tcap)).setCell ⟨G+1+1+1+1,1,none⟩ (.slice E.na E.ns.length E.ncap)) G cc nn ee vv X E:=by
 have f:∀ c o,c≠G+1+1+1+1→((V.setCell ⟨G+1+1+1+1,0,none⟩ (.slice E.ta E.tr.length E.tcap)).setCell ⟨G+1+1+1+1,1,none⟩ (.slice E.na E.ns.length E.ncap)).cell? ⟨c,o,none⟩=V.cell? ⟨c,o,none⟩:=fun c o hc=>(far_cell _ 1 o _ (Ne.symm hc)).trans (far_cell _ 0 o _ (Ne.symm hc))
 exact ⟨(f _ _ (by omega)).trans h.a0,(f _ _ (by omega)).trans h.a1,(f _ _ (by omega)).trans h.x0,(f _ _ (by omega)).trans h.x1,(f _ _ (by omega)).trans h.x2,(f _ _ (by omega)).trans h.o0,(f _ _ (by omega)).trans h.o1,(oth_cell _ _ 1 0 _ (by omega)).trans (World.cell?_setCell_same _ _ _ h.d0),World.cell?_setCell_same _ _ _ ((oth_cell V _ 0 1 _ (by omega)).trans h.d1),
  fun c o h1 h2=>by rw [World.frozen?_setCell,World.frozen?_setCell];exact h.fz c o h1 h2,by simp [World.setCell];exact h.sz⟩
end Go.Proofs.YtdngbojbpmdegaaGreatDoor
