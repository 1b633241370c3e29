import Derived.Test.YtdngbojbpmdegaaGreatDoorJAppRows
import Derived.Test.YtdngbojbpmdegaaGreatDoorMInv
import Derived.Handy
import Derived.Outline
import Derived.Deep.CutRange
import Derived.Test.YtdngbojbpmdegaaGreatDoorJOpenCells
import Derived.Deep.Heap
namespace Go.Proofs.YtdngbojbpmdegaaGreatDoor
open Go.ChangeShapes Go.WideShapes Go.ChangeAt Go.RowKit Go.Joins
def tcell (s:ByteArray):List Value:=[.string s]
def Texts (w:World) (a:Option Addr) (xs:List ByteArray):Prop:=
 xs = []∨∃ b off,a=some ⟨b,off,none⟩∧∀ j,j<xs.length→w.cell? ⟨b,off+j,none⟩=some (.string (xs.getD j default))
theorem texts_rows {w:World} {a:Option Addr} {xs:List ByteArray} (h:Texts w a xs):RowsAt w 1 tcell a xs:=by
 rcases h with rfl | ⟨b,off,h1,h2⟩
 · exact .inl rfl
 · refine .inr ⟨b,off,h1,fun j hj i hi=>?_⟩
   obtain rfl:i=0:=by omega
   show w.cell? ⟨b,off+j * 1+0,none⟩=some (.string (xs.getD j default))
   rw [Nat.mul_one,Nat.add_zero]
   exact h2 j hj
theorem rows_texts {w:World} {a:Option Addr} {xs:List ByteArray} (h:RowsAt w 1 tcell a xs):Texts w a xs:=by
 rcases h with rfl | ⟨b,off,h1,h2⟩
 · exact .inl rfl
 · refine .inr ⟨b,off,h1,fun j hj=>?_⟩
   have:=h2 j hj 0 (by omega)
   simpa [tcell] using this
theorem Texts.below {w w' : World} {a:Option Addr} {xs:List ByteArray} (h:Texts w a xs) (hb:Below w.heap.size w w'):Texts w' a xs:=by
 rcases h with h | ⟨b,off,h1,h2⟩
 · exact .inl h
 · exact .inr ⟨b,off,h1,fun j hj=>(hb.cell (p:=⟨b,off+j,none⟩) (lt_of_cell (h2 j hj))).trans (h2 j hj)⟩
structure Cv where
 ta:Option Addr
 tr:List ByteArray
 tcap:Nat
 na:Option Addr
 ns:List Int
 ncap:Nat
def Cv.val (C:Cv):Value:=.agg #[.slice C.ta C.tr.length C.tcap,.slice C.na C.ns.length C.ncap]
structure Cv.Ok (C:Cv):Prop where
 trl:C.tr.length≤maxLen
 trok:∀ s ∈ C.tr,s.size≤maxLen
 nsl:C.ns.length≤maxLen
 nsw:∀ n ∈ C.ns,(Lit.int .i64 n).wf=true
structure ChalAt (w:World) (C:Cv):Prop where
 tr:Texts w C.ta C.tr
 ns:Ints w C.na C.ns
 ok:C.Ok
structure Cv.Fits (C:Cv):Prop where
 tr:C.tr.length * 16≤140737488351232
 ns:C.ns.length * 8≤140737488351232
structure Cv.Same (C D:Cv):Prop where
 tr:C.tr=D.tr
 ns:C.ns=D.ns
theorem Cv.Same.refl (C:Cv):C.Same C:=⟨rfl,rfl⟩
theorem Cv.Same.symm {C D:Cv} (h:C.Same D):D.Same C:=⟨h.tr.symm,h.ns.symm⟩
theorem Cv.Same.trans {C D E:Cv} (h:C.Same D) (k:D.Same E):C.Same E:=⟨h.tr.trans k.tr,h.ns.trans k.ns⟩
theorem Cv.Fits.same {C D:Cv} (h:C.Fits) (hs:D.Same C):D.Fits:=⟨by rw [hs.tr];exact h.tr,by rw [hs.ns];exact h.ns⟩
theorem Cv.Ok.same {C D:Cv} (h:C.Ok) (hs:D.Same C):D.Ok:=⟨by rw [hs.tr];exact h.trl,by rw [hs.tr];exact h.trok,by rw [hs.ns];exact h.nsl,by rw [hs.ns];exact h.nsw⟩
theorem ChalAt.below {w w' : World} {C:Cv} (h:ChalAt w C) (hb:Below w.heap.size w w'):ChalAt w' C:=⟨h.tr.below hb,h.ns.below hb,h.ok⟩
structure COwn (n0:Nat) (w:World) (C:Cv):Prop where
 tr:w.ownsRow n0 9 1 (.slice C.ta C.tr.length C.tcap) C.tr.length (C.tr.flatMap tcell)
 ns:w.ownsRow n0 3 1 (.slice C.na C.ns.length C.ncap) C.ns.length (wvals C.ns)
 off:Off C.ta C.na
 ok:C.Ok
theorem tcell_len (q:ByteArray):(tcell q).length=1:=rfl
theorem tcell_one:∀ q:ByteArray,∀ v ∈ tcell q,v.oneCell' = true:=fun q v hv=>by
 simp [tcell] at hv;subst hv;rfl
theorem texts_len (xs:List ByteArray):(xs.flatMap tcell).length=xs.length:=by
 have:=flat_len (cells:=tcell) (c:=1) tcell_len xs
 simpa using this
theorem texts_of_row {n0:Nat} {w:World} {e:TypeId} {a:Option Addr} {cap:Nat} {xs:List ByteArray} (h:w.ownsRow n0 e 1 (.slice a xs.length cap) xs.length (xs.flatMap tcell)):Texts w a xs:=by
 rcases h.2 with ⟨_,h0⟩ | ⟨g,cap',cur,hv,_,hg,_,_,_,ht⟩
 · exact .inl (List.length_eq_zero_iff.1 h0)
 · simp only [Value.slice.injEq] at hv
   rw [hv.1]
   refine rows_texts ?_
   have e1:cur=(xs.flatMap tcell ++ cur.toList.drop (xs.length * 1)).toArray:=by
    have:xs.flatMap tcell=cur.toList.take (xs.length * 1):=by rw [← ht]
    rw [this]
    simp
   rw [e1] at hg
   exact rows_of_block (cells:=tcell) (c:=1) tcell_len hg
theorem ints_of_row {n0:Nat} {w:World} {e:TypeId} {a:Option Addr} {cap:Nat} {xs:List Int} (h:w.ownsRow n0 e 1 (.slice a xs.length cap) xs.length (wvals xs)):Ints w a xs:=by
 rcases h.2 with ⟨_,h0⟩ | ⟨g,cap',cur,hv,_,hg,_,_,_,ht⟩
 · exact .inl (List.length_eq_zero_iff.1 h0)
 · simp only [Value.slice.injEq] at hv
   rw [hv.1]
   have e1:cur=(wvals xs ++ cur.toList.drop (xs.length * 1)).toArray:=by
    have:wvals xs=cur.toList.take (xs.length * 1):=by rw [← ht]
    rw [this]
    simp
   rw [e1] at hg
   exact ints_of_block hg
theorem COwn.at_ {n0:Nat} {w:World} {C:Cv} (h:COwn n0 w C):ChalAt w C:=⟨texts_of_row h.tr,ints_of_row h.ns,h.ok⟩
theorem ownsRow_keep {n0:Nat} {w w' : World} {e:TypeId} {c n cap:Nat} {a:Option Addr} {xs:List Value} (h:w.ownsRow n0 e c (.slice a n cap) n xs) (hw:∀ b o s,a=some ⟨b,o,s⟩→w'.heap[b]? = w.heap[b]?):w'.ownsRow n0 e c (.slice a n cap) n xs:=by
 refine ⟨h.1,?_⟩
 rcases h.2 with h2 | ⟨g,cap',cur,hv,hb,hg,h3⟩
 · exact .inl h2
 · refine .inr ⟨g,cap',cur,hv,hb,?_,h3⟩
   simp only [Value.slice.injEq] at hv
   rw [hw g 0 none hv.1]
   exact hg
theorem ownsRow_mono {n0 n1:Nat} {w:World} {e:TypeId} {c n:Nat} {v:Value} {xs:List Value} (h:w.ownsRow n0 e c v n xs) (hn:n1≤n0):w.ownsRow n1 e c v n xs:=by
 refine ⟨h.1,?_⟩
 rcases h.2 with h2 | ⟨g,cap,cur,hv,hb,h3⟩
 · exact .inl h2
 · exact .inr ⟨g,cap,cur,hv,Nat.le_trans hn hb,h3⟩
theorem ownsRow_block {n0:Nat} {w:World} {e:TypeId} {c n cap:Nat} {a:Option Addr} {xs:List Value} (h:w.ownsRow n0 e c (.slice a n cap) n xs):∀ b o s,a=some ⟨b,o,s⟩→n0≤b∧b<w.heap.size∧(∀ i,w.frozen? ⟨b,i,none⟩=false):=by
 intro b o s ha
 rcases h.2 with ⟨hv,_⟩ | ⟨g,cap',cur,hv,hb,hg,h3⟩
 · simp only [Value.slice.injEq] at hv
   rw [hv.1] at ha;cases ha
 · simp only [Value.slice.injEq] at hv
   rw [hv.1] at ha
   simp only [Option.some.injEq,Addr.mk.injEq] at ha
   obtain ⟨rfl,_⟩:=ha
   exact ⟨hb,(Array.getElem?_eq_some_iff.1 hg).1,frozen_of_block hg⟩
theorem COwn.below {n0:Nat} {w w' : World} {C:Cv} (h:COwn n0 w C) (hb:Below w.heap.size w w'):COwn n0 w' C:=
 ⟨ownsRow_keep h.tr fun b o s e=>hb.block _ (ownsRow_block h.tr b o s e).2.1,ownsRow_keep h.ns fun b o s e=>hb.block _ (ownsRow_block h.ns b o s e).2.1,h.off,h.ok⟩
theorem COwn.mono {n0 n1:Nat} {w:World} {C:Cv} (h:COwn n0 w C) (hn:n1≤n0):COwn n1 w C:=⟨ownsRow_mono h.tr hn,ownsRow_mono h.ns hn,h.off,h.ok⟩
def noC:Cv:=⟨none,[],0,none,[],0⟩
theorem noC_own (n0:Nat) (w:World):COwn n0 w noC:=⟨World.ownsRow_nil _ _ _ _,World.ownsRow_nil _ _ _ _,fun _ _ _ _ _ e _=>(by cases e),⟨Nat.zero_le _,fun s hs=>(by cases hs),Nat.zero_le _,fun s hs=>(by cases hs)⟩⟩
end Go.Proofs.YtdngbojbpmdegaaGreatDoor

namespace Go.Proofs.YtdngbojbpmdegaaGreatDoor
open Go.RowKit
theorem info_s:(Tryz.prog.info? 9).map (fun i=>(i.zero,i.size,i.bytes))=some (some (.string ⟨#[]⟩),1,16):=by kernel_rfl
theorem info_n:(Tryz.prog.info? 3).map (fun i=>(i.zero,i.size,i.bytes))=some (some (.int .i64 0),1,8):=by kernel_rfl
structure MadeC (W wx:World) (nt nn B X Y:Nat):Prop where
 lB:W.heap.size≤B
 lX:W.heap.size≤X
 lY:W.heap.size≤Y
 BX:B≠X
 BY:B≠Y
 XY:X≠Y
 hB:wx.heap[B]? = some (.cells #[.slice (some ⟨X,0,none⟩) nt nt,.slice (some ⟨Y,0,none⟩) nn nn] 32 (0,0))
 hX:wx.heap[X]? = some (.cells (madeCells #[.string ⟨#[]⟩] nt) 9 (0,0))
 hY:wx.heap[Y]? = some (.cells (madeCells #[.int .i64 0] nn) 3 (0,0))
 bel:Below W.heap.size W wx
theorem row_of_block {n0 g cap n:Nat} {w:World} {e:TypeId} {xs zs:List Value} (hn:n0≤g) (hg:w.heap[g]? = some (.cells (xs ++ zs).toArray e (0,0))) (hx:xs.length=n) (hl:n≤cap) (hm:cap≤maxLen) (hc:(xs ++ zs).length=cap):w.ownsRow n0 e 1 (.slice (some ⟨g,0,none⟩) n cap) n xs:=by
 refine ⟨by simpa using hx,.inr ⟨g,cap,_,rfl,hn,hg,hl,hm,by simpa using hc,?_⟩⟩
 rw [← hx];simp
set_option maxRecDepth 100000 in
set_option maxHeartbeats 4000000 in
theorem copyC_any (C:Cv) (w:World) (hC:ChalAt w C) (hF:C.Fits) :
 Calls Tryz.prog 42 #[C.val] w fun e w'=>∃ N:Cv,e=.returned N.val∧N.Same C∧COwn w.heap.size w' N∧Below w.heap.size w w':=by
 have hl1:=hC.ok.trl
 have hl2:=hC.ok.nsl
 unfold maxLen at hl1 hl2
 have mk1:=run_make_row' (P:=Tryz.prog) 22 9 _ 16 Tryz.underlying22 info_s rfl .i64 .i64 C.tr.length (by have:=hF.tr;omega) (by omega)
 have mk2:=run_make_row' (P:=Tryz.prog) 30 3 _ 8 Tryz.underlying30 info_n rfl .i64 .i64 C.ns.length (by have:=hF.ns;omega) (by omega)
 unfold Cv.val
 obtain ⟨nt,hnt⟩:∃ nt,Hid (nt=C.tr.length):=⟨_,rfl⟩
 obtain ⟨nn,hnn⟩:∃ nn,Hid (nn=C.ns.length):=⟨_,rfl⟩
 rw [← hnt.out] at hl1 mk1
 rw [← hnn.out] at hl2 mk2
 rw [← hnt.out,← hnn.out]
 obtain ⟨W2,hW2⟩:∃ W2,Hid (W2=(w.alloc (.cells #[.slice C.ta nt C.tcap,.slice C.na nn C.ncap] 32)).alloc (.cells #[.slice none 0 0,.slice none 0 0] 32)):=⟨_,rfl⟩
 have p0:W2.cell? ⟨w.heap.size,0,none⟩=some (.slice C.ta nt C.tcap):=by rw [hW2.out,World.cell?_alloc_past _ _ _ (by simp),World.cell?_alloc_at _ _ _ _ rfl];rfl
 have p1:W2.cell? ⟨w.heap.size,1,none⟩=some (.slice C.na nn C.ncap):=by rw [hW2.out,World.cell?_alloc_past _ _ _ (by simp),World.cell?_alloc_at _ _ _ _ rfl];rfl
 have s2:w.heap.size<W2.heap.size:=lt_of_cell p0
 have s3:w.heap.size<W2.heap.size+1:=by omega
 have s4:w.heap.size<W2.heap.size+1+1:=by omega
 have s5:w.heap.size<W2.heap.size+2:=by omega
 go_enter Tryz.func42,Tryz.ntmps42
 go_upto_region 1 with fail
 rw [← hW2.out]
 go_cut [3,7,11] from 4 (fun s3 s7 s11 wx=>∃ B X Y,s3=.pointer (some ⟨B,0,none⟩)∧s7=.slice (some ⟨X,0,none⟩) nt nt∧s11=.slice (some ⟨Y,0,none⟩) nn nn∧MadeC W2 wx nt nn B X Y)
 case first =>
  go_big_region
  all_goals
   go_wp2_with fail
   go_meet
   case rel =>
    refine ⟨_,_,_,rfl,rfl,rfl,?_⟩
    exact ⟨by omega,by omega,by omega,by omega,by omega,by omega,
     by first | exact a33 _ _ _ _ | exact a32 _ _ _ _ | exact a31 _ _ _ _,by first | exact a33 _ _ _ _ | exact a32 _ _ _ _ | exact a31 _ _ _ _,
     by first | exact a33 _ _ _ _ | exact a32 _ _ _ _ | exact a31 _ _ _ _,(a3B _ _ _ _).drew⟩
 case rest =>
  obtain ⟨B,X,Y,rfl,rfl,rfl,hm⟩:=hcut
  have S2:Hid (w.heap.size<W2.heap.size):=s2
  have BW:Hid (Below w.heap.size w W2):=by show Below _ _ _;rw [hW2.out];exact ((Below.refl _ _).alloc (Nat.le_refl _) _).alloc (by simp) _
  have hM2:=hC.below BW.out
  have R2:Hid (W2.cell? ⟨w.heap.size+1,0,none⟩=some (.slice none 0 0)∧W2.cell? ⟨w.heap.size+1,1,none⟩=some (.slice none 0 0)∧∀ o,W2.frozen? ⟨w.heap.size+1,o,none⟩=false):=by
   show _∧_∧_
   rw [hW2.out,World.cell?_alloc_at _ _ _ _ (by simp),World.cell?_alloc_at _ _ _ _ (by simp)]
   exact ⟨rfl,rfl,fun o=>World.frozen?_alloc_at _ _ _ _ (by simp)⟩
  have P0:Hid (_):=p0
  have P1:Hid (_):=p1
  clear mk1 mk2 p0 p1 s2 s3 s4 s5
  obtain ⟨w3,hr3,g3,o3,b3⟩:=copy_rows (P:=Tryz.prog) (cells:=tcell) (c:=1) tcell_len (by omega) tcell_one wc 22 3 9 9 Tryz.underlying22 (by kernel_rfl) X C.tcap C.ta C.tr (texts_rows (hM2.below hm.bel).tr) _ hm.hX (by rw [size_madeCells,← hnt.out];omega)
  rw [← hnt.out] at hr3
  obtain ⟨w4,hr4,g4,o4,b4⟩:=copy_rows (P:=Tryz.prog) (cells:=fun n:Int=>[Value.int .i64 n]) (c:=1) (fun _=>rfl) (by omega) (fun q v hv=>by simp at hv;subst hv;rfl) w3 30 3 3 3 Tryz.underlying30 (by kernel_rfl) Y C.ncap C.na C.ns (ints_rows (hM2.below (b3 _ _ hm.lX hm.bel)).ns) _ ((o3 Y (Ne.symm hm.XY)).trans hm.hY) (by rw [size_madeCells,← hnn.out];omega)
  rw [← hnn.out] at hr4
  rw [wvals_flat] at g4
  have HB3:Hid (Below W2.heap.size W2 w3):=b3 _ _ hm.lX hm.bel
  have HB4:Hid (Below W2.heap.size W2 w4):=b4 _ _ hm.lY HB3.out
  have hB4:Hid (w4.heap[B]? = some (.cells #[.slice (some ⟨X,0,none⟩) nt nt,.slice (some ⟨Y,0,none⟩) nn nn] 32 (0,0))):=((o4 B hm.BY).trans (o3 B hm.BX)).trans hm.hB
  have hX4:Hid (w4.heap[X]? = some (.cells (C.tr.flatMap tcell).toArray 9 (0,0))):=(o4 X hm.XY).trans g3
  have hY4:Hid (w4.heap[Y]? = some (.cells (wvals C.ns).toArray 3 (0,0))):=g4
  have HM:Hid (_):=hm
  have x1:wc.cell? ⟨B,0,none⟩=some (.slice (some ⟨X,0,none⟩) nt nt):=by simp [World.cell?,hm.hB]
  have x2:wc.cell? ⟨w.heap.size,0,none⟩=some (.slice C.ta nt C.tcap):=(hm.bel.cell (p:=⟨w.heap.size,0,none⟩) S2.out).trans P0.out
  have y1:w3.cell? ⟨B,1,none⟩=some (.slice (some ⟨Y,0,none⟩) nn nn):=by simp [World.cell?,(o3 B hm.BX),hm.hB]
  have y2:w3.cell? ⟨w.heap.size,1,none⟩=some (.slice C.na nn C.ncap):=(HB3.out.cell (p:=⟨w.heap.size,1,none⟩) S2.out).trans P1.out
  have z0:w4.cell? ⟨B,0,none⟩=some (.slice (some ⟨X,0,none⟩) nt nt):=by simp [World.cell?,hB4.out]
  have z1:w4.cell? ⟨B,1,none⟩=some (.slice (some ⟨Y,0,none⟩) nn nn):=by simp [World.cell?,hB4.out]
  obtain ⟨u0,u1,uf⟩:=R2.out
  have sz:w.heap.size+1<W2.heap.size:=lt_of_cell u0
  have v0:w4.cell? ⟨w.heap.size+1,0,none⟩=some (.slice none 0 0):=(HB4.out.cell (p:=⟨w.heap.size+1,0,none⟩) sz).trans u0
  have v1:w4.cell? ⟨w.heap.size+1,1,none⟩=some (.slice none 0 0):=(HB4.out.cell (p:=⟨w.heap.size+1,1,none⟩) sz).trans u1
  have vf0:w4.frozen? ⟨w.heap.size+1,0,none⟩=false:=(HB4.out.frozen (p:=⟨w.heap.size+1,0,none⟩) sz).trans (uf 0)
  have vf1:w4.frozen? ⟨w.heap.size+1,1,none⟩=false:=(HB4.out.frozen (p:=⟨w.heap.size+1,1,none⟩) sz).trans (uf 1)
  have HOK:Hid (C.Ok):=hC.ok
  clear hm g3 o3 b3 g4 o4 b4 hM2 hC u0 u1 uf R2
  go_wp2
  obtain ⟨W9,hW9⟩:∃ W9,Hid (W9=(w4.setCell ⟨w.heap.size+1,0,none⟩ (.slice (some ⟨X,0,none⟩) nt nt)).setCell ⟨w.heap.size+1,1,none⟩ (.slice (some ⟨Y,0,none⟩) nn nn)):=⟨_,rfl⟩
  rw [← hW9.out]
  have k0:W9.cell? ⟨w.heap.size+1,0,none⟩=some (.slice (some ⟨X,0,none⟩) nt nt):=by
   rw [hW9.out,World.cell?_setCell_other _ _ _ _ (by simp)]
   exact World.cell?_setCell_same _ _ _ v0
  have k1:W9.cell? ⟨w.heap.size+1,1,none⟩=some (.slice (some ⟨Y,0,none⟩) nn nn):=by
   rw [hW9.out]
   exact World.cell?_setCell_same _ _ _ ((World.cell?_setCell_other _ _ _ _ (by simp)).trans v1)
  have H9:∀ b,b≠w.heap.size+1→W9.heap[b]? = w4.heap[b]?:=fun b hb=>by rw [hW9.out,Below.heap_setCell _ _ _ _ hb,Below.heap_setCell _ _ _ _ hb]
  have HE:Hid (Below w.heap.size w W9):=by
   show Below _ _ _
   rw [hW9.out]
   exact ((BW.out.trans (HB4.out.mono (by omega))).setCell (by simp) _).setCell (by simp) _
  have lX:=HM.out.lX
  have lY:=HM.out.lY
  have hX9:=(H9 X (by omega)).trans hX4.out
  have hY9:=(H9 Y (by omega)).trans hY4.out
  (try simp only [Exit.inBlock,Exit.then])
  refine bodyPost_ret (by simp [results,Tryz.results42,go_sem,k0,k1];try rfl) rfl ?_
  have ok:=HOK.out
  have e1:=hnt.out
  have e2:=hnn.out
  refine ⟨⟨some ⟨X,0,none⟩,C.tr,nt,some ⟨Y,0,none⟩,C.ns,nn⟩,by rw [← e1,← e2],⟨rfl,rfl⟩,⟨?_,?_,off_some HM.out.XY,ok.same ⟨rfl,rfl⟩⟩,HE.out⟩
  · exact row_of_block (zs:=[]) (by omega) (by simpa using hX9) (texts_len _) (by dsimp only;omega) (by rw [e1];exact ok.trl) (by simp only [List.append_nil];rw [texts_len];omega)
  · exact row_of_block (zs:=[]) (by omega) (by simpa using hY9) (wvals_len _) (by dsimp only;omega) (by rw [e2];exact ok.nsl) (by simp only [List.append_nil];rw [wvals_len];omega)
end Go.Proofs.YtdngbojbpmdegaaGreatDoor

namespace Go.Proofs.YtdngbojbpmdegaaGreatDoor
open Go.RowKit
structure Ac where
 k:Int
 e:Int
 f:Int
 at_:Int
 r:Int
 n:Int
 fuel:Int
instance:Inhabited Ac:=⟨⟨0,0,0,0,0,0,0⟩⟩
def Ac.cells (x:Ac):List Value:=[.int .i64 x.k,.int .i64 x.e,.int .i64 x.f,.int .i64 x.at_,.int .i64 x.r,.int .i64 x.n,.int .i64 x.fuel]
def rowA (l:List Ac):List Value:=l.flatMap Ac.cells
theorem rowA_len (l:List Ac):(rowA l).length=l.length * 7:=by
 induction l with
 | nil=>rfl
 | cons x l ih=>simp only [rowA,List.flatMap_cons,List.length_append,List.length_cons] at ih ⊢;rw [ih];simp [Ac.cells];omega
theorem cells_one (x:Ac):∀ u ∈ x.cells,u.oneCell' = true:=by
 intro u hu
 simp [Ac.cells] at hu
 rcases hu with rfl | rfl | rfl | rfl | rfl | rfl | rfl<;>rfl
theorem rowA_cells_one (l:List Ac):∀ u ∈ rowA l,u.oneCell' = true:=by
 intro u hu
 simp only [rowA,List.mem_flatMap] at hu
 obtain ⟨x,_,hx⟩:=hu
 exact cells_one x u hx
theorem act_info:(Tryz.prog.info? 68).map (fun i=>(i.zero,i.size,i.bytes))=some (some (.agg #[.int .i64 0,.int .i64 0,.int .i64 0,.int .i64 0,.int .i64 0,.int .i64 0,.int .i64 0]),7,56):=by kernel_rfl
def Owns (w:World) (B:Nat) (v:Value) (l:List Ac):Prop:=w.ownsRow B 68 7 v l.length (rowA l)
end Go.Proofs.YtdngbojbpmdegaaGreatDoor
