/-
  For every list of texts and every list of acts HostRuns answers true: host.Run answers a script as the document has it. No condition but that the library's tables are as the program's text lays them, which the card ties.
-/
import Derived.Test.YtdngbojbpmdegaaGreatDoorScript
import Derived.Test.YtdngbojbpmdegaaGreatDoorHostRun
import Derived.Test.YtdngbojbpmdegaaGreatDoorJAc
import Derived.Test.YtdngbojbpmdegaaGreatDoorJSameM
import Derived.Test.YtdngbojbpmdegaaGreatDoorJScrMem
import Derived.Test.YtdngbojbpmdegaaGreatDoorJCreate
import Derived.Deep.DeepCutAuto
import Derived.BigQuiet
namespace Go.Proofs.YtdngbojbpmdegaaGreatDoor
open Go.RowKit
set_option maxRecDepth 100000
set_option linter.unusedVariables false
set_option maxHeartbeats 16000000 in
theorem script_no (ta:Option Addr) (tr:List ByteArray) (tcap:Nat) (la:Option Addr) (l:List Ac) (lcap:Nat) (w:World) (hT:Texts w ta tr) (hTo:(⟨ta,tr,tcap,none,[],0⟩:Cv).Ok) (hfit:tr.length * 16≤140737488351232) (hl:RowsAt w 7 Ac.cells la l) (hll:l.length≤maxLen) (hlo:∀ x ∈ l,x.Ok) (ht:Tab w) (h0:¬ chF tr []=0) :
 Calls Tryz.prog 14 #[.slice ta tr.length tcap,.slice la l.length lcap] w (HostSaid tr l w):=by
 obtain ⟨z,hz⟩:∃ z,z=chF tr []:=⟨_,rfl⟩
 have hrF:runF tr l=z:=by unfold runF;rw [if_neg h0,hz]
 have hz0:¬ z=0:=by rw [hz];exact h0
 unfold HostSaid
 rw [hrF]
 obtain ⟨W2,hW2⟩:∃ W2,Hid (W2=(w.alloc (.cells #[.slice none 0 0,.slice none 0 0,.slice none 0 0] 29)).alloc (.cells #[.slice none 0 0,.slice none 0 0] 32)):=⟨_,rfl⟩
 obtain ⟨bw,q1,q2⟩:=al2w w (.cells #[.slice none 0 0,.slice none 0 0,.slice none 0 0] 29) (.cells #[.slice none 0 0,.slice none 0 0] 32)
 have hz2:Hid (W2.heap.size=w.heap.size+2):=show _=_ by rw [hW2.out,World.size_alloc,World.size_alloc]
 rw [← hW2.out] at bw q1 q2
 have BW:Hid (_):=bw
 have QM:Hid (_):=q1
 have QC:Hid (_):=q2
 obtain ⟨ax,cx,w3,hrun,hown3,hb3⟩:=app_texts ta tr tcap (hT.below bw) hTo hfit
 obtain ⟨nl,hnl⟩:∃ nl,Hid (nl=l.length):=⟨_,rfl⟩
 rw [← hnl.out]
 obtain ⟨W4,hW4⟩:∃ W4,Hid (W4=w3.alloc (.cells #[.slice ax tr.length cx,.slice none 0 0] 32)):=⟨_,rfl⟩
 obtain ⟨Q,hQ⟩:∃ Q,Hid (Q=w3.heap.size):=⟨_,rfl⟩
 have b34:Below w3.heap.size w3 W4:=by rw [hW4.out];exact (Below.refl _ _).alloc (Nat.le_refl _) _
 have CB4:Hid (CH W2.heap.size W4 Q ⟨ax,tr,cx,none,[],0⟩):=show CH _ _ _ _ from CH.of_block (t:=32) (hown3.below b34) (by rw [hW4.out,hQ.out];exact Go.Deep.blk_alloc_new _ _) (fun q=>by have h1:=(MineC.fresh hown3 q).2;have h2:=hQ.out;omega)
 have B24:Hid (Below W2.heap.size W2 W4):=show Below _ _ _ from hb3.trans (b34.mono hb3.size)
 have hF:=faultC_any ⟨ax,tr,cx,none,[],0⟩ W4 CB4.out.own.at_
 unfold Cv.val at hF
 dsimp only [List.length_nil] at hF
 rw [← hz] at hF
 have HR:Hid (_):=hrun
 clear hT hTo hfit hl hlo ht bw q1 q2 hown3 hb3 b34 hrun
 go_enter Tryz.func14,Tryz.ntmps14
 go_upto_region 1 with fail
 rw [← hW2.out]
 have hrun:=HR.out
 go_upto_region 2 with (at_builtin;refine wpList_append_eq rfl _ _ 22 rfl _ _ _ rfl rfl hrun ?_)
 rw [← hW4.out,← hQ.out]
 have k0:=CB4.out.c0
 have k1:=CB4.out.c1
 have lk:=CB4.out.lt
 dsimp only [List.length_nil] at k0 k1
 clear hW2 hW4 hQ hrun HR
 go_upto_region 3 with (go_at_call 44;refine hF.mono ?_;clear hF;rintro e w8 ⟨rfl,hb5⟩)
 have B28:Hid (Below W2.heap.size W2 w8):=show Below _ _ _ from B24.out.trans (hb5.mono B24.out.size)
 have z2:=hz2.out
 have s2:=B28.out.size
 have m9:=(B28.out.block w.heap.size (by omega)).trans QM.out
 have c9:=(B28.out.block (w.heap.size+1) (by omega)).trans QC.out
 have y0:w8.cell? ⟨w.heap.size,0,none⟩=some (.slice none 0 0):=by simp [World.cell?,m9]
 have y1:w8.cell? ⟨w.heap.size,1,none⟩=some (.slice none 0 0):=by simp [World.cell?,m9]
 have y2:w8.cell? ⟨w.heap.size,2,none⟩=some (.slice none 0 0):=by simp [World.cell?,m9]
 have y3:w8.cell? ⟨w.heap.size+1,0,none⟩=some (.slice none 0 0):=by simp [World.cell?,c9]
 have y4:w8.cell? ⟨w.heap.size+1,1,none⟩=some (.slice none 0 0):=by simp [World.cell?,c9]
 have f0:w8.frozen? ⟨w.heap.size,0,none⟩=false:=by simp [World.frozen?,m9]
 have f1:w8.frozen? ⟨w.heap.size,1,none⟩=false:=by simp [World.frozen?,m9]
 have f2:w8.frozen? ⟨w.heap.size,2,none⟩=false:=by simp [World.frozen?,m9]
 have f3:w8.frozen? ⟨w.heap.size+1,0,none⟩=false:=by simp [World.frozen?,c9]
 have f4:w8.frozen? ⟨w.heap.size+1,1,none⟩=false:=by simp [World.frozen?,c9]
 have l1:w.heap.size<w8.heap.size:=by omega
 have l2:w.heap.size+1<w8.heap.size:=by omega
 clear k0 k1 lk m9 c9
 have tz:(z == 0)=false:=by simpa using hz0
 go_wp2
 refine bp_genR fun V9 hV9=>?_
 obtain ⟨V8,hV8⟩:∃ V8,V8=(((w8.setCell ⟨w.heap.size,0,none⟩ (.slice none 0 0)).setCell ⟨w.heap.size,1,none⟩ (.slice none 0 0)).setCell ⟨w.heap.size,2,none⟩ (.slice none 0 0)):=⟨_,rfl⟩
 obtain ⟨k0,k1,k2⟩:=blk3' (b:=w.heap.size) (v0:=.slice none 0 0) (v1:=.slice none 0 0) (v2:=.slice none 0 0) y0 y1 y2
 have hh8:∀ c,c≠w.heap.size→V8.heap[c]? = w8.heap[c]?:=fun c hc=>by rw [hV8];exact blk3_heap' c hc
 have B8:Below w.heap.size w V8:=by rw [hV8];exact blk3_below' (BW.out.trans (B28.out.mono BW.out.size)) (Nat.le_refl _)
 rw [← hV8] at hV9 k0 k1 k2
 have z3:V8.cell? ⟨w.heap.size+1,0,none⟩=some (.slice none 0 0):=(World.cell?_of_block (hh8 _ (Nat.succ_ne_self _))).trans y3
 have z4:V8.cell? ⟨w.heap.size+1,1,none⟩=some (.slice none 0 0):=(World.cell?_of_block (hh8 _ (Nat.succ_ne_self _))).trans y4
 have o5:∀ o,V9.cell? ⟨w.heap.size,o,none⟩=V8.cell? ⟨w.heap.size,o,none⟩:=fun o=>by rw [hV9];exact (far_cell _ 1 o _ (by omega)).trans (far_cell _ 0 o _ (by omega))
 rw [← o5] at k0 k1 k2
 have k3:V9.cell? ⟨w.heap.size+1,0,none⟩=some (.slice none 0 0):=by rw [hV9];exact (oth_cell _ _ 1 0 _ (by omega)).trans (World.cell?_setCell_same _ _ _ z3)
 have k4:V9.cell? ⟨w.heap.size+1,1,none⟩=some (.slice none 0 0):=by rw [hV9];exact World.cell?_setCell_same _ _ _ ((oth_cell _ _ 0 1 _ (by omega)).trans z4)
 have B9:Below w.heap.size w V9:=by rw [hV9];exact (B8.setCell (p:=⟨w.heap.size+1,0,none⟩) (Nat.le_succ _) _).setCell (p:=⟨w.heap.size+1,1,none⟩) (Nat.le_succ _) _
 clear hV9 hV8
 (try simp only [Exit.inBlock,Exit.then])
 refine bodyPost_ret (by simp [results,Tryz.results14,go_sem,k0,k1,k2,k3,k4];try rfl) rfl ?_
 exact ⟨none,0,[],noM,noC,rfl,.inl rfl,rfl,Mv.Same.refl _,Cv.Same.refl _,noM_own _ _,noC_own _ _,B9⟩
set_option maxHeartbeats 16000000 in
theorem script_big (ta:Option Addr) (tr:List ByteArray) (tcap:Nat) (la:Option Addr) (l:List Ac) (lcap:Nat) (w:World) (hT:Texts w ta tr) (hTo:(⟨ta,tr,tcap,none,[],0⟩:Cv).Ok) (hfit:tr.length * 16≤140737488351232) (hl:RowsAt w 7 Ac.cells la l) (hll:l.length≤maxLen) (hlo:∀ x ∈ l,x.Ok) (ht:Tab w) (h0:chF tr []=0) (h2:200<l.length) :
 Calls Tryz.prog 14 #[.slice ta tr.length tcap,.slice la l.length lcap] w (HostSaid tr l w):=by
 have hrF:runF tr l=1:=by unfold runF;rw [if_pos h0,if_pos h2]
 have hz0:¬ (1:Int)=0:=by decide
 unfold maxLen at hll
 unfold HostSaid
 rw [hrF]
 obtain ⟨W2,hW2⟩:∃ W2,Hid (W2=(w.alloc (.cells #[.slice none 0 0,.slice none 0 0,.slice none 0 0] 29)).alloc (.cells #[.slice none 0 0,.slice none 0 0] 32)):=⟨_,rfl⟩
 obtain ⟨bw,q1,q2⟩:=al2w w (.cells #[.slice none 0 0,.slice none 0 0,.slice none 0 0] 29) (.cells #[.slice none 0 0,.slice none 0 0] 32)
 have hz2:Hid (W2.heap.size=w.heap.size+2):=show _=_ by rw [hW2.out,World.size_alloc,World.size_alloc]
 rw [← hW2.out] at bw q1 q2
 have BW:Hid (_):=bw
 have QM:Hid (_):=q1
 have QC:Hid (_):=q2
 obtain ⟨ax,cx,w3,hrun,hown3,hb3⟩:=app_texts ta tr tcap (hT.below bw) hTo hfit
 obtain ⟨nl,hnl⟩:∃ nl,Hid (nl=l.length):=⟨_,rfl⟩
 rw [← hnl.out]
 obtain ⟨W4,hW4⟩:∃ W4,Hid (W4=w3.alloc (.cells #[.slice ax tr.length cx,.slice none 0 0] 32)):=⟨_,rfl⟩
 obtain ⟨Q,hQ⟩:∃ Q,Hid (Q=w3.heap.size):=⟨_,rfl⟩
 have b34:Below w3.heap.size w3 W4:=by rw [hW4.out];exact (Below.refl _ _).alloc (Nat.le_refl _) _
 have CB4:Hid (CH W2.heap.size W4 Q ⟨ax,tr,cx,none,[],0⟩):=show CH _ _ _ _ from CH.of_block (t:=32) (hown3.below b34) (by rw [hW4.out,hQ.out];exact Go.Deep.blk_alloc_new _ _) (fun q=>by have h1:=(MineC.fresh hown3 q).2;have h2:=hQ.out;omega)
 have B24:Hid (Below W2.heap.size W2 W4):=show Below _ _ _ from hb3.trans (b34.mono hb3.size)
 have hF:=faultC_any ⟨ax,tr,cx,none,[],0⟩ W4 CB4.out.own.at_
 unfold Cv.val at hF
 dsimp only [List.length_nil] at hF
 rw [h0] at hF
 rw [← hnl.out] at h2 hll
 have HR:Hid (_):=hrun
 clear hT hTo hfit hl hlo ht bw q1 q2 hown3 hb3 b34 hrun
 go_enter Tryz.func14,Tryz.ntmps14
 go_upto_region 1 with fail
 rw [← hW2.out]
 have hrun:=HR.out
 go_upto_region 2 with (at_builtin;refine wpList_append_eq rfl _ _ 22 rfl _ _ _ rfl rfl hrun ?_)
 rw [← hW4.out,← hQ.out]
 have k0:=CB4.out.c0
 have k1:=CB4.out.c1
 have lk:=CB4.out.lt
 dsimp only [List.length_nil] at k0 k1
 clear hW2 hW4 hQ hrun HR
 go_upto_region 3 with (go_at_call 44;refine hF.mono ?_;clear hF;rintro e w8 ⟨rfl,hb5⟩)
 have B28:Hid (Below W2.heap.size W2 w8):=show Below _ _ _ from B24.out.trans (hb5.mono B24.out.size)
 have z2:=hz2.out
 have s2:=B28.out.size
 have m9:=(B28.out.block w.heap.size (by omega)).trans QM.out
 have c9:=(B28.out.block (w.heap.size+1) (by omega)).trans QC.out
 have y0:w8.cell? ⟨w.heap.size,0,none⟩=some (.slice none 0 0):=by simp [World.cell?,m9]
 have y1:w8.cell? ⟨w.heap.size,1,none⟩=some (.slice none 0 0):=by simp [World.cell?,m9]
 have y2:w8.cell? ⟨w.heap.size,2,none⟩=some (.slice none 0 0):=by simp [World.cell?,m9]
 have y3:w8.cell? ⟨w.heap.size+1,0,none⟩=some (.slice none 0 0):=by simp [World.cell?,c9]
 have y4:w8.cell? ⟨w.heap.size+1,1,none⟩=some (.slice none 0 0):=by simp [World.cell?,c9]
 have f0:w8.frozen? ⟨w.heap.size,0,none⟩=false:=by simp [World.frozen?,m9]
 have f1:w8.frozen? ⟨w.heap.size,1,none⟩=false:=by simp [World.frozen?,m9]
 have f2:w8.frozen? ⟨w.heap.size,2,none⟩=false:=by simp [World.frozen?,m9]
 have f3:w8.frozen? ⟨w.heap.size+1,0,none⟩=false:=by simp [World.frozen?,c9]
 have f4:w8.frozen? ⟨w.heap.size+1,1,none⟩=false:=by simp [World.frozen?,c9]
 have l1:w.heap.size<w8.heap.size:=by omega
 have l2:w.heap.size+1<w8.heap.size:=by omega
 clear k0 k1 lk m9 c9
 have hnI:(200:Int)<(nl:Int):=by omega
 go_wp2
 refine bp_genR fun V9 hV9=>?_
 obtain ⟨V8,hV8⟩:∃ V8,V8=(((w8.setCell ⟨w.heap.size,0,none⟩ (.slice none 0 0)).setCell ⟨w.heap.size,1,none⟩ (.slice none 0 0)).setCell ⟨w.heap.size,2,none⟩ (.slice none 0 0)):=⟨_,rfl⟩
 obtain ⟨k0,k1,k2⟩:=blk3' (b:=w.heap.size) (v0:=.slice none 0 0) (v1:=.slice none 0 0) (v2:=.slice none 0 0) y0 y1 y2
 have hh8:∀ c,c≠w.heap.size→V8.heap[c]? = w8.heap[c]?:=fun c hc=>by rw [hV8];exact blk3_heap' c hc
 have B8:Below w.heap.size w V8:=by rw [hV8];exact blk3_below' (BW.out.trans (B28.out.mono BW.out.size)) (Nat.le_refl _)
 rw [← hV8] at hV9 k0 k1 k2
 have z3:V8.cell? ⟨w.heap.size+1,0,none⟩=some (.slice none 0 0):=(World.cell?_of_block (hh8 _ (Nat.succ_ne_self _))).trans y3
 have z4:V8.cell? ⟨w.heap.size+1,1,none⟩=some (.slice none 0 0):=(World.cell?_of_block (hh8 _ (Nat.succ_ne_self _))).trans y4
 have o5:∀ o,V9.cell? ⟨w.heap.size,o,none⟩=V8.cell? ⟨w.heap.size,o,none⟩:=fun o=>by rw [hV9];exact (far_cell _ 1 o _ (by omega)).trans (far_cell _ 0 o _ (by omega))
 rw [← o5] at k0 k1 k2
 have k3:V9.cell? ⟨w.heap.size+1,0,none⟩=some (.slice none 0 0):=by rw [hV9];exact (oth_cell _ _ 1 0 _ (by omega)).trans (World.cell?_setCell_same _ _ _ z3)
 have k4:V9.cell? ⟨w.heap.size+1,1,none⟩=some (.slice none 0 0):=by rw [hV9];exact World.cell?_setCell_same _ _ _ ((oth_cell _ _ 0 1 _ (by omega)).trans z4)
 have B9:Below w.heap.size w V9:=by rw [hV9];exact (B8.setCell (p:=⟨w.heap.size+1,0,none⟩) (Nat.le_succ _) _).setCell (p:=⟨w.heap.size+1,1,none⟩) (Nat.le_succ _) _
 clear hV9 hV8
 (try simp only [Exit.inBlock,Exit.then])
 refine bodyPost_ret (by simp [results,Tryz.results14,go_sem,k0,k1,k2,k3,k4];try rfl) rfl ?_
 exact ⟨none,0,[],noM,noC,rfl,.inl rfl,rfl,Mv.Same.refl _,Cv.Same.refl _,noM_own _ _,noC_own _ _,B9⟩
theorem script_any (ta:Option Addr) (tr:List ByteArray) (tcap:Nat) (la:Option Addr) (l:List Ac) (lcap:Nat) (w:World) (hT:Texts w ta tr) (hTo:(⟨ta,tr,tcap,none,[],0⟩:Cv).Ok) (hfit:tr.length * 16≤140737488351232) (hl:RowsAt w 7 Ac.cells la l) (hll:l.length≤maxLen) (hlo:∀ x ∈ l,x.Ok) (ht:Tab w) :
 Calls Tryz.prog 14 #[.slice ta tr.length tcap,.slice la l.length lcap] w (HostSaid tr l w):=by
 by_cases h0:chF tr []=0
 · by_cases h2:200<l.length
   · exact script_big ta tr tcap la l lcap w hT hTo hfit hl hll hlo ht h0 h2
   · exact script_ok ta tr tcap la l lcap w hT hTo hfit hl hlo ht h0 (by omega)
 · exact script_no ta tr tcap la l lcap w hT hTo hfit hl hll hlo ht h0
end Go.Proofs.YtdngbojbpmdegaaGreatDoor

namespace Go.Proofs.YtdngbojbpmdegaaGreatDoor
open Go.RowKit
set_option maxRecDepth 100000
set_option linter.unusedVariables false
theorem open_act {H:Type} {enc:TypeId × Value→H} {W:World} {base n:Nat} {sp:Nat→Bool} {full:Bool} {cs:List Value} {d:DataW H} {pl:List MemPlace}
 (h:DataW.trod enc Tryz.prog W base sp full n 68 cs=some (d,pl)):∃ q:Ac,cs=q.cells∧q.Ok:=by
 obtain ⟨xs,n',_,hx,hl,hlen,hf⟩:=DataW.trod_struct Tryz.underlying68 h
 have ce:Tryz.prog.cellsOf 68=7:=by kernel_rfl
 rw [ce] at hl
 obtain ⟨v0,v1,v2,v3,v4,v5,v6,rfl⟩:=list7 hl
 obtain ⟨y0,y1,y2,y3,y4,y5,y6,rfl⟩:=list7 (by simpa using hlen)
 have o1:Tryz.prog.cellsOf 3=1:=by kernel_rfl
 have g0:=hf 0 _ rfl
 have g1:=hf 1 _ rfl
 have g2:=hf 2 _ rfl
 have g3:=hf 3 _ rfl
 have g4:=hf 4 _ rfl
 have g5:=hf 5 _ rfl
 have g6:=hf 6 _ rfl
 simp [o1] at g0 g1 g2 g3 g4 g5 g6
 obtain ⟨n0,rfl,w0⟩:=open_int_cell g0
 obtain ⟨n1,rfl,w1⟩:=open_int_cell g1
 obtain ⟨n2,rfl,w2⟩:=open_int_cell g2
 obtain ⟨n3,rfl,w3⟩:=open_int_cell g3
 obtain ⟨n4,rfl,w4⟩:=open_int_cell g4
 obtain ⟨n5,rfl,w5⟩:=open_int_cell g5
 obtain ⟨n6,rfl,w6⟩:=open_int_cell g6
 exact ⟨⟨n0,n1,n2,n3,n4,n5,n6⟩,rfl,⟨w0,w1,w2,w3,w4,w5,w6⟩⟩
theorem open_acts {H:Type} {enc:TypeId × Value→H} {W:World} {base:Nat} {sp:Nat→Bool} {full:Bool} {a0:Option Addr} {len0 cap0:Nat} {d:DataW H} {p:List MemPlace}
 (h:DataW.Trod enc Tryz.prog W base sp full 23 (.slice a0 len0 cap0) d p):∃ qs:List Ac,qs.length=len0∧qs.length≤maxLen∧RowsAt W 7 Ac.cells a0 qs∧(∀ x ∈ qs,x.Ok)∧
   ((∀ n ∈ d.weights Tryz.prog 23,n≤reachBytes)→qs.length * 56≤140737488351232):=by
 obtain ⟨fuel,hf⟩:=h
 obtain ⟨a,cap,qs,hv,q1,q2,q3,q4⟩:=open_rows 7 56 Ac.cells Ac.Ok (fun _=>True) (by omega) Tryz.underlying23 (by kernel_rfl) (by kernel_rfl) (fun _=>rfl) (fun _ _ _ _ h=>by obtain ⟨q,h1,h2⟩:=open_act h;exact ⟨q,h1,h2,fun _=>trivial⟩) (v:=.slice a0 len0 cap0) (by simpa [Value.cells] using hf)
 simp only [Value.slice.injEq] at hv
 obtain ⟨rfl,rfl,rfl⟩:=hv
 refine ⟨qs,rfl,q1.1,q2,fun x hx=>?_,fun hb=>(q4 hb).1⟩
 obtain ⟨i,hi,rfl⟩:=List.getElem_of_mem hx
 have:=q3 i hi
 simpa [List.getD_eq_getElem?_getD,hi] using this
theorem open_texts {H:Type} {enc:TypeId × Value→H} {W:World} {base:Nat} {sp:Nat→Bool} {full:Bool} {a0:Option Addr} {len0 cap0:Nat} {d:DataW H} {p:List MemPlace}
 (h:DataW.Trod enc Tryz.prog W base sp full 22 (.slice a0 len0 cap0) d p):∃ tr:List ByteArray,tr.length=len0∧tr.length≤maxLen∧Texts W a0 tr∧(∀ s ∈ tr,s.size≤maxLen)∧
   ((∀ n ∈ d.weights Tryz.prog 22,n≤reachBytes)→tr.length * 16≤140737488351232):=by
 obtain ⟨fuel,hf⟩:=h
 obtain ⟨a,cap,tr,hv,q1,q2,q3,q4⟩:=open_rows 1 16 tcell (fun s=>s.size≤maxLen) (fun _=>True) (by omega) Tryz.underlying22 (by kernel_rfl) (by kernel_rfl) (fun _=>rfl) (fun _ cs' _ _ h=>by
  have hl:∃ v0,cs' = [v0]:=by
   obtain ⟨s,e0,_,_⟩:=DataW.trod_string Tryz.underlying9 h
   exact ⟨_,e0⟩
  obtain ⟨v0,rfl⟩:=hl
  obtain ⟨s,rfl,hs⟩:=open_text_cell h
  exact ⟨s,rfl,hs,fun _=>trivial⟩) (v:=.slice a0 len0 cap0) (by simpa [Value.cells] using hf)
 simp only [Value.slice.injEq] at hv
 obtain ⟨rfl,rfl,rfl⟩:=hv
 refine ⟨tr,rfl,q1.1,rows_texts q2,fun s hs=>?_,fun hb=>(q4 hb).1⟩
 obtain ⟨i,hi,rfl⟩:=List.getElem_of_mem hs
 have:=q3 i hi
 simpa [List.getD_eq_getElem?_getD,hi] using this
end Go.Proofs.YtdngbojbpmdegaaGreatDoor

namespace Go.Proofs.YtdngbojbpmdegaaGreatDoor
open Go.RowKit
set_option maxRecDepth 100000 in
set_option maxHeartbeats 1600000 in
theorem sameC_any (C D:Cv) (w:World) (hC:ChalAt w C) (hD:ChalAt w D) (hS:C.Same D) :
 Calls Tryz.prog 16 #[C.val,D.val] w fun e w'=>e=.returned (.bool true)∧Below w.heap.size w w':=by
 have hl1:=hC.ok.trl
 have hl2:=hC.ok.nsl
 unfold maxLen at hl1
 unfold Cv.val
 obtain ⟨ta,tr,tcap,na,ns,ncap⟩:=C
 obtain ⟨ta',tr',tcap',na',ns',ncap'⟩:=D
 obtain ⟨rfl,rfl⟩:=hS
 dsimp only at *
 obtain ⟨W0,hW0⟩:∃ W0,Hid (W0=(w.alloc (.cells #[.slice ta tr.length tcap,.slice na ns.length ncap] 32)).alloc (.cells #[.slice ta' tr.length tcap',.slice na' ns.length ncap'] 32)):=⟨_,rfl⟩
 have BW:Hid (Below w.heap.size w W0):=by show Below _ _ _;rw [hW0.out];exact ((Below.refl _ _).alloc (Nat.le_refl _) _).alloc (by simp) _
 have p0:Hid (W0.cell? ⟨w.heap.size,0,none⟩=some (.slice ta tr.length tcap)):=by show _=_;rw [hW0.out,World.cell?_alloc_past _ _ _ (by simp),World.cell?_alloc_at _ _ _ _ rfl];rfl
 have p1:Hid (W0.cell? ⟨w.heap.size,1,none⟩=some (.slice na ns.length ncap)):=by show _=_;rw [hW0.out,World.cell?_alloc_past _ _ _ (by simp),World.cell?_alloc_at _ _ _ _ rfl];rfl
 have q0:Hid (W0.cell? ⟨w.heap.size+1,0,none⟩=some (.slice ta' tr.length tcap')):=by show _=_;rw [hW0.out,World.cell?_alloc_at _ _ _ _ (by simp)];rfl
 have q1:Hid (W0.cell? ⟨w.heap.size+1,1,none⟩=some (.slice na' ns.length ncap')):=by show _=_;rw [hW0.out,World.cell?_alloc_at _ _ _ _ (by simp)];rfl
 have hM0:=hC.below BW.out
 have hN0:=hD.below BW.out
 go_enter Tryz.func16,Tryz.ntmps16
 go_wp2
 rw [← hW0.out]
 clear hW0 hC hD
 go_loopw [5] (fun i wr=>∃ k:Nat,k≤tr.length∧i=.int .i64 k∧Below W0.heap.size W0 wr) (fun i _=>tr.length - (intOf i).toNat)
 case atStart=>exact ⟨0,Nat.zero_le _,rfl,Below.refl _ _⟩
 case round =>
  obtain ⟨k,hk,rfl,hbel⟩:=hrel
  have P0:wr.cell? ⟨w.heap.size,0,none⟩=some (.slice ta tr.length tcap):=(hbel.cell (p:=⟨w.heap.size,0,none⟩) (lt_of_cell p0.out)).trans p0.out
  have Q0:wr.cell? ⟨w.heap.size+1,0,none⟩=some (.slice ta' tr.length tcap'):=(hbel.cell (p:=⟨w.heap.size+1,0,none⟩) (lt_of_cell q0.out)).trans q0.out
  have b1:w.heap.size<wr.heap.size:=lt_of_cell P0
  have b2:w.heap.size+1<wr.heap.size:=lt_of_cell Q0
  by_cases hlt:k<tr.length
  · rcases (hM0.below hbel).tr with h0 | ⟨xb,xo,hxa,c⟩
    · dsimp only at h0;rw [h0] at hlt;simp at hlt
    rcases (hN0.below hbel).tr with h0 | ⟨yb,yo,hya,d⟩
    · dsimp only at h0;rw [h0] at hlt;simp at hlt
    have c0:=c k hlt
    have d0:=d k hlt
    dsimp only at hxa hya c0 d0
    subst hxa hya
    generalize tr.getD k default=P at c0 d0
    clear hM0 hN0 p0 p1 q0 q1 c d
    go_wp2
    go_quiet (fail)
    go_wp2
    go_roundw
    case rel=>exact ⟨k+1,by omega,by go_num,below_drewN hbel _⟩
    case measure=>simp [intOf];omega
  · have hge:¬ ((k:Int)<(tr.length:Int)):=by omega
    have P1:wr.cell? ⟨w.heap.size,1,none⟩=some (.slice na ns.length ncap):=(hbel.cell (p:=⟨w.heap.size,1,none⟩) (lt_of_cell p1.out)).trans p1.out
    have Q1:wr.cell? ⟨w.heap.size+1,1,none⟩=some (.slice na' ns.length ncap'):=(hbel.cell (p:=⟨w.heap.size+1,1,none⟩) (lt_of_cell q1.out)).trans q1.out
    have hcall:=sameInts_any na na' ns ncap ncap' wr hl2 (hM0.below hbel).ns (hN0.below hbel).ns
    clear hM0 hN0 p0 p1 q0 q1
    go_wp2_with (go_at_call 60;refine hcall.mono ?_;rintro e w1 ⟨rfl,n,rfl⟩)
    go_ret
    exact ⟨rfl,below_drewN (BW.out.trans (hbel.mono BW.out.size)) n⟩
end Go.Proofs.YtdngbojbpmdegaaGreatDoor

namespace Go.Proofs.YtdngbojbpmdegaaGreatDoor
open Go.ChangeShapes Go.WideShapes Go.ChangeAt Go.RowKit
set_option linter.unusedVariables false
theorem eqv_answer (d:Nat) (a b a' b' : Int) (w:World) :
 (Op.equalIn (d+1+1) 39 (.agg #[.int .i64 a,.int .i64 b]) (.agg #[.int .i64 a',.int .i64 b'])).run Tryz.prog w=.ok ((a == a') && (b == b')) w:=by
 rw [run_equalIn_struct w (d+1) 39 _ _ (by kernel_rfl) (by kernel_rfl)]
 refine eq_fields2 (show (Tryz.prog.fieldsOf 39).toList.map (fun f=>(f.name,f.type,f.offset)) = [("Code",33,0),("N",3,1)] by kernel_rfl) (by decide) (by decide) (run_part_plain w (by kernel_rfl) rfl) (run_part_plain w (by kernel_rfl) rfl) (run_part_plain w (by kernel_rfl) rfl) (run_part_plain w (by kernel_rfl) rfl)
  (run_equalIn_int w d 33 .i64 _ _ _ Tryz.underlying33) (run_equalIn_int w d 3 .i64 _ _ _ Tryz.underlying3)
theorem nil_acts {w:World} (qa:Option Addr) (ql:List Ac) (qc:Nat) (hq:RowsAt w 7 Ac.cells qa ql) (hl:ql.length≤maxLen) (hfit:ql.length * 56≤140737488351232) :
 ∃ a' c' w',(Builtin.append_ #[23,23] 23 #[.slice none 0 0,.slice qa ql.length qc]).run Tryz.prog w=.ok (.slice a' ql.length c') w'∧RowsAt w' 7 Ac.cells a' ql∧Below w.heap.size w w':=by
 obtain ⟨i0,hi,hz0,hz1,hz2⟩:=info_parts act_info
 have hnn:Owns w w.heap.size (.slice none 0 0) []:=World.ownsRow_nil w w.heap.size 68 7
 by_cases h0:ql = []
 · subst h0
   exact ⟨none,0,w,append_none w _ _ _ i0 Tryz.underlying23 hi qa qc,.inl rfl,Below.refl _ _⟩
 · rcases hq with e | ⟨b,off,rfl,hc⟩
   · exact absurd e h0
   · have hpos:0<ql.length:=List.length_pos_iff.2 h0
     obtain ⟨g,cap,w',h1,h2,h3,_,_⟩:=run_append_lies (P:=Tryz.prog) (w:=w) 23 23 w.heap.size 68 i0 _ 7 56 Tryz.underlying23 hi hz0 hz1 hz2 rfl (by decide) (.slice none 0 0) 0 (rowA []) hnn ⟨b,off,none⟩ ql.length qc (rowA ql) (rowA_len ql) (src_of_rows (cells:=Ac.cells) (c:=7) (fun _=>rfl) (by decide) hc) (rowA_cells_one ql) hpos (by omega) (by omega) (Nat.le_refl _) _ rfl
     rw [Nat.zero_add] at h1 h2
     have ho:Owns w' w.heap.size (.slice (some ⟨g,0,none⟩) ql.length cap) ql:=h2
     obtain ⟨a,c2,e,hr⟩:=acts_row ho
     simp only [Value.slice.injEq,true_and] at e
     obtain ⟨rfl,rfl⟩:=e
     exact ⟨_,_,w',h1,hr,(Below.refl _ _).grown h3 (Nat.le_refl _) (fun k hk=>by cases hk)⟩
set_option maxRecDepth 100000 in
set_option maxHeartbeats 16000000 in
theorem hostRuns_walk (ta:Option Addr) (tr:List ByteArray) (tcap:Nat) (la:Option Addr) (l:List Ac) (lcap:Nat) (w:World) (hm:tr.length≤maxLen) (hT:Texts w ta tr) (hsk:∀ s ∈ tr,s.size≤maxLen) (hfit:tr.length * 16≤140737488351232) (hll:l.length≤maxLen) (hl:RowsAt w 7 Ac.cells la l) (hlo:∀ x ∈ l,x.Ok) (hfl:l.length * 56≤140737488351232) (ht:Tab w) :
 Calls Tryz.prog 3 #[.slice ta tr.length tcap,.slice la l.length lcap] w fun e w'=>e=.returned (.bool true)∧Below w.heap.size w w':=by
 have hTo:∀ a c,(⟨a,tr,c,none,[],0⟩:Cv).Ok:=fun a c=>⟨hm,hsk,Nat.zero_le _,fun n hn=>by cases hn⟩
 obtain ⟨a1,c1,w1,hrun1,hown1,hb1⟩:=app_texts ta tr tcap hT (hTo ta tcap) hfit
 obtain ⟨a2,c2,w2,hrun2,hrow2,hb2⟩:=nil_acts la l lcap (RowsAt.below (cells:=Ac.cells) (fun _=>rfl) hl hb1) hll hfl
 have B2:Hid (Below w.heap.size w w2):=show Below _ _ _ from hb1.trans (hb2.mono hb1.size)
 have hT1:Texts w1 a1 tr:=hown1.at_.tr
 have hR:=runH_any a1 tr c1 a2 l c2 w2 (hT1.below hb2) (hTo a1 c1) hrow2 hll hlo (ht.below B2.out)
 have HS:=fun w' (hb:Below w.heap.size w w')=>script_any ta tr tcap la l lcap w' (hT.below hb) (hTo ta tcap) hfit (RowsAt.below (cells:=Ac.cells) (fun _=>rfl) hl hb) hll hlo (ht.below hb)
 unfold HostSaid at hR HS
 obtain ⟨z,hz⟩:∃ z,Hid (z=runF tr l):=⟨_,rfl⟩
 obtain ⟨TM,hTM⟩:∃ T,Hid (T=if runF tr l=0 then (hst (hs0 tr) l).M else noM):=⟨_,rfl⟩
 obtain ⟨TC,hTC⟩:∃ T,Hid (T=if runF tr l=0 then (hst (hs0 tr) l).C else noC):=⟨_,rfl⟩
 obtain ⟨TZ,hTZ⟩:∃ T,Hid (T=if runF tr l=0 then hans (hs0 tr) l else []):=⟨_,rfl⟩
 simp only [← hTM.out,← hTC.out,← hTZ.out] at hR HS
 simp only [← hz.out] at hR HS
 have hlz:TZ.length≤200:=by
  rw [hTZ.out]
  split
  · rename_i h
    rw [hans_len]
    unfold runF at h
    split at h
    · split at h
      · cases h
      · omega
    · rename_i hh;exact absurd h hh
  · exact Nat.zero_le _
 generalize hgt:tr.length=nt at *
 generalize hgl:l.length=nl at *
 clear hown1 hT1 hrow2 hT hl hlo ht hTo hfit hfl hm hsk hb2 hb1
 go_enter Tryz.func3,Tryz.ntmps3
 go_upto_region 2 with (first
  | (at_builtin;refine wpList_append_eq rfl _ _ 22 rfl _ _ _ rfl rfl hrun1 ?_;clear hrun1)
  | (at_builtin;refine wpList_append_eq rfl _ _ 23 rfl _ _ _ rfl rfl hrun2 ?_;clear hrun2)
  | (go_at_call 13;refine hR.mono ?_;clear hR;rintro e w3 ⟨aa,acap,zs,M,C,rfl,hrw,hzs,hMs,hCs,hMo,hCo,hb3⟩;(have hq:=hzs.symm);subst hq;unfold Mv.val Cv.val))
 obtain ⟨W4,hW4⟩:∃ W4,Hid (W4=(w3.alloc (.cells #[.slice M.fa M.frs.length M.fcap,.slice M.ea M.ens.length M.ecap,.slice M.qa M.qus.length M.qcap] 29)).alloc (.cells #[.slice C.ta C.tr.length C.tcap,.slice C.na C.ns.length C.ncap] 32)):=⟨_,rfl⟩
 obtain ⟨b34,m4,d4⟩:=al2w w3 (.cells #[.slice M.fa M.frs.length M.fcap,.slice M.ea M.ens.length M.ecap,.slice M.qa M.qus.length M.qcap] 29) (.cells #[.slice C.ta C.tr.length C.tcap,.slice C.na C.ns.length C.ncap] 32)
 rw [← hW4.out] at b34 m4 d4
 rw [← hW4.out]
 have B4:Hid (Below w.heap.size w W4):=show Below _ _ _ from (B2.out.trans (hb3.mono B2.out.size)).trans (b34.mono (Nat.le_trans B2.out.size hb3.size))
 obtain ⟨P,hP⟩:∃ P,Hid (P=w3.heap.size):=⟨_,rfl⟩
 rw [← hP.out] at m4 d4
 rw [← hP.out]
 have M4:Hid (W4.heap[P]? = some (.cells #[.slice M.fa M.frs.length M.fcap,.slice M.ea M.ens.length M.ecap,.slice M.qa M.qus.length M.qcap] 29 (0,0))∧W4.heap[P+1]? = some (.cells #[.slice C.ta C.tr.length C.tcap,.slice C.na C.ns.length C.ncap] 32 (0,0))∧MachAt W4 M∧ChalAt W4 C∧RowsAt W4 2 anCells aa TZ):=⟨m4,d4,hMo.at_.below b34,hCo.at_.below b34,RowsAt.below (cells:=anCells) (fun _=>rfl) hrw b34⟩
 have HMC:Hid (M.Same TM∧C.Same TC):=⟨hMs,hCs⟩
 have hS4:=HS W4 B4.out
 clear HS hMs hCs hMo hCo hb3 b34 m4 d4 hrw hW4 hP
 go_upto_region 3 with (go_at_call 14;refine hS4.mono ?_;clear hS4;rintro e w5 ⟨ab,bcap,zs',N,E,rfl,hrw,hzs',hNs,hEs,hNo,hEo,hb5⟩;(have hq:=hzs'.symm);subst hq;unfold Mv.val Cv.val)
 obtain ⟨W6,hW6⟩:∃ W6,Hid (W6=(w5.alloc (.cells #[.slice N.fa N.frs.length N.fcap,.slice N.ea N.ens.length N.ecap,.slice N.qa N.qus.length N.qcap] 29)).alloc (.cells #[.slice E.ta E.tr.length E.tcap,.slice E.na E.ns.length E.ncap] 32)):=⟨_,rfl⟩
 obtain ⟨b56,m6,d6⟩:=al2w w5 (.cells #[.slice N.fa N.frs.length N.fcap,.slice N.ea N.ens.length N.ecap,.slice N.qa N.qus.length N.qcap] 29) (.cells #[.slice E.ta E.tr.length E.tcap,.slice E.na E.ns.length E.ncap] 32)
 rw [← hW6.out] at b56 m6 d6
 rw [← hW6.out]
 have b46:Below W4.heap.size W4 W6:=hb5.trans (b56.mono hb5.size)
 have B6:Hid (Below w.heap.size w W6):=show Below _ _ _ from B4.out.trans (b46.mono B4.out.size)
 obtain ⟨R,hR⟩:∃ R,Hid (R=w5.heap.size):=⟨_,rfl⟩
 rw [← hR.out] at m6 d6
 rw [← hR.out]
 have m4:=(b46.block P (Array.getElem?_eq_some_iff.1 M4.out.1).1).trans M4.out.1
 have d4:=(b46.block (P+1) (Array.getElem?_eq_some_iff.1 M4.out.2.1).1).trans M4.out.2.1
 have hMM:=fun w' (hb:Below W6.heap.size W6 w')=>sameMachine_any M N w' ((M4.out.2.2.1.below b46).below hb) ((hNo.at_.below b56).below hb) (HMC.out.1.trans hNs.symm)
 have hCC:=fun w' (hb:Below W6.heap.size W6 w')=>sameC_any C E w' ((M4.out.2.2.2.1.below b46).below hb) ((hEo.at_.below b56).below hb) (HMC.out.2.trans hEs.symm)
 unfold Mv.val at hMM
 unfold Cv.val at hCC
 have HR6:Hid (RowsAt W6 2 anCells aa TZ∧RowsAt W6 2 anCells ab TZ):=⟨RowsAt.below (cells:=anCells) (fun _=>rfl) M4.out.2.2.2.2 b46,RowsAt.below (cells:=anCells) (fun _=>rfl) hrw b56⟩
 have KK:Hid (∀ w',Below W6.heap.size W6 w'→(w'.cell? ⟨P+1,0,none⟩=some (.slice C.ta C.tr.length C.tcap)∧w'.cell? ⟨P+1,1,none⟩=some (.slice C.na C.ns.length C.ncap)∧w'.cell? ⟨R+1,0,none⟩=some (.slice E.ta E.tr.length E.tcap)∧w'.cell? ⟨R+1,1,none⟩=some (.slice E.na E.ns.length E.ncap))∧P+1<w'.heap.size∧R+1<w'.heap.size):=fun w' hb=>by
  have q4:=(hb.block (P+1) (Array.getElem?_eq_some_iff.1 d4).1).trans d4
  have q6:=(hb.block (R+1) (Array.getElem?_eq_some_iff.1 d6).1).trans d6
  refine ⟨⟨by simp [World.cell?,q4],by simp [World.cell?,q4],by simp [World.cell?,q6],by simp [World.cell?,q6]⟩,(Array.getElem?_eq_some_iff.1 q4).1,(Array.getElem?_eq_some_iff.1 q6).1⟩
 have p0:W6.cell? ⟨P,0,none⟩=some (.slice M.fa M.frs.length M.fcap):=by simp [World.cell?,m4]
 have p1:W6.cell? ⟨P,1,none⟩=some (.slice M.ea M.ens.length M.ecap):=by simp [World.cell?,m4]
 have p2:W6.cell? ⟨P,2,none⟩=some (.slice M.qa M.qus.length M.qcap):=by simp [World.cell?,m4]
 have r0:W6.cell? ⟨R,0,none⟩=some (.slice N.fa N.frs.length N.fcap):=by simp [World.cell?,m6]
 have r1:W6.cell? ⟨R,1,none⟩=some (.slice N.ea N.ens.length N.ecap):=by simp [World.cell?,m6]
 have r2:W6.cell? ⟨R,2,none⟩=some (.slice N.qa N.qus.length N.qcap):=by simp [World.cell?,m6]
 have lp:=lt_of_cell p0
 have lr:=lt_of_cell r0
 have tz:(z == z)=true:=beq_self_eq_true _
 have tzn:(z != z)=false:=by simp
 obtain ⟨nz,hnz⟩:∃ nz,Hid (nz=TZ.length):=⟨_,rfl⟩
 rw [← hnz.out] at hlz ⊢
 clear hNs hEs hNo hEo hb5 b56 b46 m6 d6 m4 d4 hrw hW6 hR
 go_upto_region 5 with (first
  | (go_at_call 15;refine (hMM _ (by repeat (first | (with_reducible exact Below.refl _ _) | (with_reducible refine Below.drew ?_)))).mono ?_;clear hMM;rintro e w7 ⟨rfl,hb7⟩;have HB7:Hid (Below W6.heap.size W6 w7):=hb7;obtain ⟨⟨q0,q1,q2,q3⟩,lq,lq2⟩:=KK.out w7 hb7;clear hb7)
  | (go_at_call 16;refine (hCC _ HB7.out).mono ?_;clear hCC;rintro e w8 ⟨rfl,hb8⟩;have HB8:Hid (Below W6.heap.size W6 w8):=(show Below _ _ _ from HB7.out.trans (hb8.mono HB7.out.size));clear hb8))
 clear p0 p1 p2 r0 r1 r2 lp lr q0 q1 q2 q3 lq lq2
 go_upto_region 6 with fail
 go_loopw [13] (fun i wr=>∃ k:Nat,k≤nz∧i=.int .i64 k∧Below w8.heap.size w8 wr) (fun i _=>nz - (intOf i).toNat)
 case atStart=>exact ⟨0,Nat.zero_le _,rfl,Below.refl _ _⟩
 case round =>
  obtain ⟨k,hk,rfl,hbel⟩:=hrel
  rename World=>wr
  have HBE:Hid (Below W6.heap.size W6 wr):=show Below _ _ _ from HB8.out.trans (hbel.mono HB8.out.size)
  have HBL:Hid (_):=hbel
  by_cases hlt:k<nz
  · have hkz:k<TZ.length:=by rw [← hnz.out];exact hlt
    obtain ⟨xb,xo,hxa,x0,x1⟩:∃ b o,aa=some ⟨b,o,none⟩∧wr.cell? ⟨b,o+k * 2,none⟩=some (.int .i64 (TZ.getD k default).1)∧wr.cell? ⟨b,o+k * 2+1,none⟩=some (.int .i64 (TZ.getD k default).2):=by
     rcases RowsAt.below (cells:=anCells) (fun _=>rfl) HR6.out.1 HBE.out with e | ⟨b,o,e,h⟩
     · rw [e] at hkz;simp at hkz
     · exact ⟨b,o,e,h k hkz 0 (by omega),h k hkz 1 (by omega)⟩
    obtain ⟨yb,yo,hya,y0,y1⟩:∃ b o,ab=some ⟨b,o,none⟩∧wr.cell? ⟨b,o+k * 2,none⟩=some (.int .i64 (TZ.getD k default).1)∧wr.cell? ⟨b,o+k * 2+1,none⟩=some (.int .i64 (TZ.getD k default).2):=by
     rcases RowsAt.below (cells:=anCells) (fun _=>rfl) HR6.out.2 HBE.out with e | ⟨b,o,e,h⟩
     · rw [e] at hkz;simp at hkz
     · exact ⟨b,o,e,h k hkz 0 (by omega),h k hkz 1 (by omega)⟩
    rw [hxa,hya]
    generalize TZ.getD k default=pr at x0 x1 y0 y1
    obtain ⟨u,t⟩:=pr
    dsimp only at x0 x1 y0 y1
    have hE:∀ w',(Op.equalIn 10000 39 (.agg #[.int .i64 u,.int .i64 t]) (.agg #[.int .i64 u,.int .i64 t])).run Tryz.prog w' = .ok true w':=fun w'=>by
     have:=eqv_answer 9998 u t u t w'
     simpa using this
    have hkI:(k:Int)<(nz:Int):=by omega
    have hk0:(0:Int)≤(k:Int):=by omega
    have hk2:(k:Int)<200:=by omega
    clear hbel hkz hxa hya
    go_upto_region 8 with fail
    go_quiet (fail)
    go_wp2
    go_roundw
    case rel=>exact ⟨k+1,by omega,by go_num,(below_drewN HBL.out _)⟩
    case measure=>simp [intOf];omega
  · have hge:¬ ((k:Int)<(nz:Int)):=by omega
    clear hlt hbel
    go_wp2
    go_ret
    exact ⟨rfl,B6.out.trans (HBE.out.mono B6.out.size)⟩
set_option maxRecDepth 100000 in
theorem hostRuns_contract (H:Type) (enc:TypeId × Value→H) (W:World) (base:Nat) (args:Array Value) (ds gs:List (DataW H)) (before:List MemPlace)
 (hval0:∀ (j:Nat) t v,Tryz.f3.params[j]? = some t→args[j]? = some v→Value.okWide Tryz.prog W .any base t v)
 (hW:DataW.Whole enc Tryz.prog Tryz.f3.params.toList Rows.hostRunsSpec.vars false W args.toList ds gs before) (hL:laidMetH Tryz.prog listed W)
 (hsz0:(DataW.weightsEach Tryz.prog (Tryz.f3.params.toList ++ []) (ds ++ gs)).all (·≤reachBytes)=true) :
 Calls Tryz.prog 3 args W fun e W'=>∃ v,e=.returned v∧Rows.hostRunsSpec.post enc Tryz.prog Tryz.f3 false true false false W args v W':=by
 have hval:=hval0
 have hsz:=hsz0
 have hW':=hW
 obtain ⟨p,q,hA0,hV,rfl,hfz,hnd⟩:=hW
 have hA:DataW.TrodAll enc Tryz.prog W 0 (fun _=>true) true Tryz.f3.params.toList args.toList ds p:=hA0
 rw [Tryz.params3] at hA hval hsz
 obtain ⟨v0,vs0,d0,ds0,p0,q0,hargs,rfl,rfl,h0,r0⟩:=trodAll_cons hA
 obtain ⟨v1,vs1,d1,ds1,p1,q1,rfl,rfl,rfl,h1,r1⟩:=trodAll_cons r0
 obtain ⟨rfl,rfl,rfl⟩:=trodAll_nil r1
 obtain rfl:args=#[v0,v1]:=by cases args;simp_all
 obtain ⟨rfl,rfl⟩:=trodVars_none hV
 have k0:=h0
 have lt0:∀ x ∈ p0,x.block<W.heap.size:=by obtain ⟨m,hm⟩:=k0;exact DataW.trod_lt m _ _ _ hm
 obtain ⟨a0,len0,cap0,rfl⟩:=okWide_slice Tryz.underlying22 (hval 0 22 v0 rfl rfl)
 obtain ⟨rs0,hlen0,hmax0,hx0,hok0,hbnd0⟩:=open_texts h0
 subst hlen0
 have hbd0:=hbnd0 fun n hn=>by simpa using List.all_eq_true.1 hsz n (DataW.weights_mem_each (j:=0) rfl rfl n hn)
 have k1:=h1
 have lt1:∀ x ∈ p1,x.block<W.heap.size:=by obtain ⟨m,hm⟩:=k1;exact DataW.trod_lt m _ _ _ hm
 obtain ⟨a1,len1,cap1,rfl⟩:=okWide_slice Tryz.underlying23 (hval 1 23 v1 rfl rfl)
 obtain ⟨rs1,hlen1,hmax1,hx1,hok1,hbnd1⟩:=open_acts h1
 subst hlen1
 have hbd1:=hbnd1 fun n hn=>by simpa using List.all_eq_true.1 hsz n (DataW.weights_mem_each (j:=1) rfl rfl n hn)
 clear hA0 hval0
 refine (hostRuns_walk a0 rs0 cap0 a1 rs1 cap1 W hmax0 hx0 hok0 hbd0 hmax1 hx1 hok1 hbd1 (tab_of hL)).mono fun e W' ⟨he,bel⟩=>?_
 subst he
 exact ⟨_,rfl,_,_,_,[],_,[],hW',trodAll_mk1 (shut_bool Tryz.underlying4 _),(trodAll_cons_mk (Below.trod laidOut (by kernel_rfl) (of_decide_eq_true (by kernel_rfl)) k0 bel lt0) (trodAll_cons_mk (Below.trod laidOut (by kernel_rfl) (of_decide_eq_true (by kernel_rfl)) k1 bel lt1) trodAll_mk0)),rfl,bel.frame _,fun h=>by cases h⟩
theorem hostRuns_laid (os:Os):laidMet Tryz.prog listed ((laidWorld os).forCall (fun _ _=>0) ⟨#[],#[.slice none 0 0,.slice none 0 0],[]⟩).memory:=
 laidMet_of_run' 8 (by kernel_rfl) (by kernel_rfl)
theorem hostRuns_reads (os:Os) {H:Type} (enc:TypeId × Value→H):∃ places,DataW.whole enc Tryz.prog ((laidWorld os).forCall (fun _ _=>0) ⟨#[],#[.slice none 0 0,.slice none 0 0],[]⟩).memory Tryz.f3.params.toList Rows.hostRunsSpec.vars false (#[.slice none 0 0,.slice none 0 0]:Array Value).toList 8=some ([.nil,.nil],[],places):=
 ⟨[],by kernel_rfl⟩
set_option maxRecDepth 100000 in
theorem hostRuns_lifted (os:Os) (started:os.Started) (H:Type) (enc:TypeId × Value→H) (F:Stop.Interp) :
 ReturnsInHanded {} Tryz.checked os 3 .any ((OpenSpec.ofChange Rows.hostRunsSpec).preRow enc Tryz.prog Tryz.f3 Rows.hostRunsRow.domain false Rows.hostRunsRow.laid) (((OpenSpec.ofChange Rows.hostRunsSpec).at F).post enc Tryz.prog Tryz.f3 false true false false):=by
 obtain ⟨places,hx⟩:=hostRuns_reads os enc
 refine returnsInHanded_of_row (C:=Tryz.checked) (s:=(OpenSpec.ofChange Rows.hostRunsSpec)) own started (by kernel_rfl) Tryz.func3
  (witness_row_at (enc:=enc) (C:=Tryz.checked) false (laidWorld os) #[.slice none 0 0,.slice none 0 0] rfl (by kernel_rfl) (by kernel_rfl) (by kernel_rfl)
    (OpenSpec.preRow_of_cond 8 hx (by kernel_rfl) (fun k hk=>by cases hk) (by kernel_rfl) (hostRuns_laid os))) ?_
 intro W base args ds gs before hval hW _ hcond hsz hL _ _
 exact hostRuns_contract H enc W base args ds gs before hval hW hL hsz
theorem hostRuns_said:Rows.HostRunsSaid:=
 OpenClaim.holds_of_cond 3 Tryz.f3 rfl rfl rfl rfl rfl rfl rfl ⟨rfl,rfl,rfl,rfl,rfl⟩ rfl rfl rfl rfl rfl (by kernel_rfl) Tryz.func3 (by kernel_rfl)
  (of_decide_eq_true (by kernel_rfl)) (by unfold Func.isWrapper;first | (rw [if_pos (by decide +kernel)];kernel_rfl) | (rw [if_neg (by decide +kernel)];exact ⟨rfl,rfl⟩))
  (fun os started H enc _ F=>by rw [OpenClaim.pre_eq_preRow];exact hostRuns_lifted os started H enc F)
theorem hostRuns_plain (f:FuncId) (fn:Func) (hf:Tryz.pinned.checked.prog.funcNamed "riddle/riddlelaw.HostRuns" = some f) (hfn:Tryz.pinned.checked.prog.funcs[f]? = some fn) :
 false=Tryz.pinned.checked.prog.looks []∧∀ (j:Nat) t,fn.params[j]? = some t→Tryz.pinned.checked.prog.wantsStandIn t=false:=by
 obtain rfl:f=3:=Option.some.inj ((show Tryz.prog.funcNamed "riddle/riddlelaw.HostRuns" = some 3 by kernel_rfl).symm.trans hf) |>.symm
 obtain rfl:fn=Tryz.f3:=(Option.some.inj (Tryz.func3.symm.trans hfn)).symm
 refine ⟨by kernel_rfl,fun j t ht=>?_⟩
 rw [Tryz.params3] at ht
 have hm:t=22∨t=23:=by simpa using Array.mem_of_getElem? ht
 rcases hm with rfl | rfl
 · exact (show Tryz.prog.wantsStandIn 22=false by kernel_rfl)
 · exact (show Tryz.prog.wantsStandIn 23=false by kernel_rfl)
theorem hostRuns_card:Rows.HostRunsCardSaid:=
 Claim7.holds_tied_plain_at .later [] _ _ _ _ hostRuns_said (fun _ h=>by cases h) (by kernel_rfl) (fun _ h=>by cases h) hostRuns_row_tie rfl ⟨rfl,rfl⟩ (by kernel_rfl) rfl hostRuns_plain (by kernel_rfl)
#print axioms hostRuns_card
end Go.Proofs.YtdngbojbpmdegaaGreatDoor
