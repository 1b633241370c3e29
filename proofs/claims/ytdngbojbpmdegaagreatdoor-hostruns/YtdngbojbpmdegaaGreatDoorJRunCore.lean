import Derived.Test.YtdngbojbpmdegaaGreatDoorJRunTouch
import Derived.Deep.RegionHeld3
namespace Go.Proofs.YtdngbojbpmdegaaGreatDoor
open Go.RowKit
theorem below_allocR {a w:World} (h:Below a.heap.size a w) (o:Obj):Below a.heap.size a (w.alloc o):=h.alloc h.size o
def wAddr (M:Mv) (e n right:Int):Option Addr:=if frmF M.frs e n right<0 then none else match (M.frs.getD (frmF M.frs e n right).toNat default).a with | some a=>some ⟨a.block,a.off+(n % 8).toNat,none⟩ | none=>none
theorem touch_run (M:Mv) (e pc n right:Int) (rs:List Int) (cb:Nat) (w:World) (hC:CoreAt w cb M e pc rs) (hM:MachAt w M) (hG:Good M) (h0:0≤n) (hn:n≤1000000) (hr:right=1∨right=2∨right=4) :
 Calls Tryz.prog 156 #[.pointer (some ⟨cb,0,none⟩),.int .i64 n,.int .i64 right] w fun x w'=>x=.returned (.pointer (wAddr M e n right))∧Below w.heap.size w w':=by
 rcases frmF_cases hG.s1 e n right h0 with h | ⟨k,hk,h⟩
 · have:wAddr M e n right=none:=by unfold wAddr;rw [h,if_pos (by omega)]
   rw [this]
   exact touch_none M e pc n right rs cb w hC hM hG h0 hn hr h
 · refine (touch_some M e pc n right rs cb k w hC hM hG h0 hn hr h hk).mono ?_
   rintro x w' ⟨b,o,ha,rfl,hb⟩
   refine ⟨?_,hb⟩
   have:wAddr M e n right=some ⟨b,o+(n % 8).toNat,none⟩:=by unfold wAddr;rw [h,if_neg (by omega),Int.toNat_natCast,ha]
   rw [this]
theorem wAddr_word {M:Mv} {w:World} (hM:MachAt w M) (hG:Good M) {e n right:Int} (h0:0≤n) {a:Addr} (h:wAddr M e n right=some a) :
 a.spot=none∧w.cell? a=some (.int .i64 (wordAt M (frmF M.frs e n right) n))∧¬ frmF M.frs e n right<0∧∃ k:Nat,k<24∧frmF M.frs e n right=(k:Int)∧∃ o,(M.frs.getD k default).a=some ⟨a.block,o,none⟩∧a=⟨a.block,o+(n % 8).toNat,none⟩:=by
 rcases frmF_cases hG.s1 e n right h0 with hf | ⟨k,hk,hf⟩
 · unfold wAddr at h
   rw [hf,if_pos (by omega)] at h
   cases h
 · unfold wAddr at h
   rw [hf,if_neg (by omega),Int.toNat_natCast] at h
   have hg:=goodFr_iff.1 (hG.fr k hk)
   have hw8:(M.frs.getD k default).ws.length=8:=(mayW_iff.1 hg.1).1
   rcases (hM.frok k (by have:=hG.s1;omega)).ints with q | ⟨b,o,q,hc⟩
   · rw [q] at hw8;simp at hw8
   · rw [q] at h
     simp only [Option.some.injEq] at h
     subst h
     have:=hc (n % 8).toNat (by rw [hw8];omega)
     refine ⟨rfl,?_,by omega,k,hk,hf,o,q,rfl⟩
     unfold wordAt
     rw [hf,Int.toNat_natCast]
     exact this
theorem wAddr_none {M:Mv} {w:World} (hM:MachAt w M) (hG:Good M) {e n right:Int} (h0:0≤n) (h:wAddr M e n right=none):frmF M.frs e n right<0:=by
 rcases frmF_cases hG.s1 e n right h0 with hf | ⟨k,hk,hf⟩
 · omega
 · unfold wAddr at h
   rw [hf,if_neg (by omega),Int.toNat_natCast] at h
   have hg:=goodFr_iff.1 (hG.fr k hk)
   have hw8:(M.frs.getD k default).ws.length=8:=(mayW_iff.1 hg.1).1
   rcases (hM.frok k (by have:=hG.s1;omega)).ints with q | ⟨b,o,q,hc⟩
   · rw [q] at hw8;simp at hw8
   · rw [q] at h;cases h
theorem blk4 {w:World} {b:Nat} {v0 v1 v2 v3 x0 x1 x2 x3:Value} (h0:w.cell? ⟨b,0,none⟩=some x0) (h1:w.cell? ⟨b,1,none⟩=some x1) (h2:w.cell? ⟨b,2,none⟩=some x2) (h3:w.cell? ⟨b,3,none⟩=some x3) :
 ((((w.setCell ⟨b,0,none⟩ v0).setCell ⟨b,1,none⟩ v1).setCell ⟨b,2,none⟩ v2).setCell ⟨b,3,none⟩ v3).cell? ⟨b,0,none⟩=some v0∧((((w.setCell ⟨b,0,none⟩ v0).setCell ⟨b,1,none⟩ v1).setCell ⟨b,2,none⟩ v2).setCell ⟨b,3,none⟩ v3).cell? ⟨b,1,none⟩=some v1∧
   ((((w.setCell ⟨b,0,none⟩ v0).setCell ⟨b,1,none⟩ v1).setCell ⟨b,2,none⟩ v2).setCell ⟨b,3,none⟩ v3).cell? ⟨b,2,none⟩=some v2∧((((w.setCell ⟨b,0,none⟩ v0).setCell ⟨b,1,none⟩ v1).setCell ⟨b,2,none⟩ v2).setCell ⟨b,3,none⟩ v3).cell? ⟨b,3,none⟩=some v3:=by
 have o:∀ (w:World) (i j:Nat) (v:Value),i≠j→(w.setCell ⟨b,i,none⟩ v).cell? ⟨b,j,none⟩=w.cell? ⟨b,j,none⟩:=fun w i j v h=>World.cell?_setCell_other _ _ _ _ (by intro q;simp only [Addr.mk.injEq,true_and,and_true] at q;exact h q)
 refine ⟨?_,?_,?_,?_⟩
 · rw [o _ 3 0 _ (by omega),o _ 2 0 _ (by omega),o _ 1 0 _ (by omega)];exact World.cell?_setCell_same _ _ _ h0
 · rw [o _ 3 1 _ (by omega),o _ 2 1 _ (by omega)];exact World.cell?_setCell_same _ _ _ ((o _ 0 1 _ (by omega)).trans h1)
 · rw [o _ 3 2 _ (by omega)];exact World.cell?_setCell_same _ _ _ ((o _ 1 2 _ (by omega)).trans ((o _ 0 2 _ (by omega)).trans h2))
 · exact World.cell?_setCell_same _ _ _ ((o _ 2 3 _ (by omega)).trans ((o _ 1 3 _ (by omega)).trans ((o _ 0 3 _ (by omega)).trans h3)))
set_option maxRecDepth 100000 in
set_option maxHeartbeats 4000000 in
theorem fetch_none (M:Mv) (e pc:Int) (rs:List Int) (cb:Nat) (w:World) (hC:CoreAt w cb M e pc rs) (hM:MachAt w M) (hG:Good M) (h0:0≤pc) (hn:pc≤65535) (hf:wAddr M e pc 4=none∨wAddr M e (pc+1) 4=none) :
 Calls Tryz.prog 146 #[.pointer (some ⟨cb,0,none⟩)] w fun x w'=>x=.returned (.tuple #[.agg #[.int .i64 0,.int .i64 0,.int .i64 0,.int .i64 0],.bool false])∧Below w.heap.size w w':=by
 obtain ⟨W2,hW2⟩:∃ W2,Hid (W2=w.alloc (.cells #[.int .i64 0,.int .i64 0,.int .i64 0,.int .i64 0] 184)):=⟨_,rfl⟩
 have BW:Hid (Below w.heap.size w W2):=by show Below _ _ _;rw [hW2.out];exact (Below.refl _ _).alloc (Nat.le_refl _) _
 have hC2:=hC.below BW.out
 have hM2:=hM.below BW.out
 have hT:=fun (n' : Int) w' (h:Below W2.heap.size W2 w') (hn' : n' = pc∨n' = pc+1)=>touch_run M e pc n' 4 rs cb w' (hC2.below h) (hM2.below h) hG (by omega) (by omega) (by omega)
 have c4:=hC2.c4
 have lc:=hC2.lt
 have hblk:W2.heap[w.heap.size]? = some (.cells #[.int .i64 0,.int .i64 0,.int .i64 0,.int .i64 0] 184 (0,0)):=by rw [hW2.out];exact Go.Deep.blk_alloc_new _ _
 have rl:w.heap.size<W2.heap.size:=(Array.getElem?_eq_some_iff.1 hblk).1
 have RB:Hid (∀ w',Below W2.heap.size W2 w'→w'.heap[w.heap.size]? = some (.cells #[.int .i64 0,.int .i64 0,.int .i64 0,.int .i64 0] 184 (0,0))):=fun w' h=>(h.block _ rl).trans hblk
 have hw1:IntKind.i64.wrap (pc+1)=pc+1:=by rw [IntKind.wrap_i64];omega
 have HC2:Hid (_):=hC2
 have HM2:Hid (_):=hM2
 have C4:Hid (_):=c4
 clear hC hM hC2 hM2 hblk
 go_enter Tryz.func146,Tryz.ntmps146
 go_upto_region 1 with fail
 rw [← hW2.out]
 go_cut [4,5] from 7 to 19 (fun s4 s5 wx=>s4=.pointer (wAddr M e pc 4)∧s5=.pointer (wAddr M e (pc+1) 4)∧Below W2.heap.size W2 wx)
 case first =>
  go_region_held3 (fun w'=>w'.cell? ⟨cb,4,none⟩=some (.int .i64 pc)) (first | exact g4 | go_keep) (first
   | (go_at_call 156;refine (hT _ _ (by first | exact HBx.out | (repeat (first | (with_reducible exact Below.refl _ _) | (with_reducible refine Below.drew ?_) | (with_reducible refine below_allocR ?_ _)))) (by first | exact .inl rfl | exact .inr rfl)).mono ?_;rintro x w1 ⟨rfl,hb⟩;have HBn:Hid (Below W2.heap.size W2 w1):=Below.trans (by first | exact HBx.out | (repeat (first | (with_reducible exact Below.refl _ _) | (with_reducible refine Below.drew ?_) | (with_reducible refine below_allocR ?_ _)))) (hb.mono (by first | exact HBx.out.size | exact Nat.le_refl _));have g4:w1.cell? ⟨cb,4,none⟩=some (.int .i64 pc):=(HBn.out.cell (p:=⟨cb,4,none⟩) lc).trans C4.out;clear hb;(try clear HBx);have HBx:Hid (_):=HBn;clear HBn;dsimp only)
   | fail)
  all_goals
   go_wp2_with fail
   go_meet
   case rel=>exact ⟨rfl,rfl,HBx.out⟩
 case rest =>
 obtain ⟨rfl,rfl,hbw⟩:=hcut
 have HBW:Hid (Below W2.heap.size W2 wc):=hbw
 have hblk:=RB.out wc hbw
 have r0:wc.cell? ⟨w.heap.size,0,none⟩=some (.int .i64 0):=by simp [World.cell?,hblk]
 have r1:wc.cell? ⟨w.heap.size,1,none⟩=some (.int .i64 0):=by simp [World.cell?,hblk]
 have r2:wc.cell? ⟨w.heap.size,2,none⟩=some (.int .i64 0):=by simp [World.cell?,hblk]
 have r3:wc.cell? ⟨w.heap.size,3,none⟩=some (.int .i64 0):=by simp [World.cell?,hblk]
 have f0:=frozen_of_block hblk 0
 have f1:=frozen_of_block hblk 1
 have f2:=frozen_of_block hblk 2
 have f3:=frozen_of_block hblk 3
 have rl2:=lt_of_cell r0
 dsimp only at rl2
 clear hT hbw hblk RB C4 c4 lc
 have HF:Hid (_):=hf
 clear hf HC2 HM2
 cases h1:wAddr M e pc 4 with
 | none =>
   clear HF
   go_wp2
   obtain ⟨k0,k1,k2,k3⟩:=blk4 (v0:=.int .i64 0) (v1:=.int .i64 0) (v2:=.int .i64 0) (v3:=.int .i64 0) r0 r1 r2 r3
   (try simp only [Exit.inBlock,Exit.then])
   refine bodyPost_ret (by simp [results,Tryz.results146,go_sem,k0,k1,k2,k3];try rfl) rfl ?_
   exact ⟨rfl,BW.out.trans ((((((HBW.out.mono BW.out.size).setCell (by simp) _).setCell (by simp) _).setCell (by simp) _).setCell (by simp) _))⟩
 | some a =>
   have h2:wAddr M e (pc+1) 4=none:=by
    rcases HF.out with q | q
    · rw [h1] at q;cases q
    · exact q
   rw [h2]
   clear h2 HF
   go_wp2
   obtain ⟨k0,k1,k2,k3⟩:=blk4 (v0:=.int .i64 0) (v1:=.int .i64 0) (v2:=.int .i64 0) (v3:=.int .i64 0) r0 r1 r2 r3
   (try simp only [Exit.inBlock,Exit.then])
   refine bodyPost_ret (by simp [results,Tryz.results146,go_sem,k0,k1,k2,k3];try rfl) rfl ?_
   exact ⟨rfl,BW.out.trans ((((((HBW.out.mono BW.out.size).setCell (by simp) _).setCell (by simp) _).setCell (by simp) _).setCell (by simp) _))⟩
set_option maxRecDepth 100000 in
set_option maxHeartbeats 4000000 in
theorem fetch_some (M:Mv) (e pc x n:Int) (rs:List Int) (cb:Nat) (w:World) (hC:CoreAt w cb M e pc rs) (hM:MachAt w M) (hG:Good M) (h0:0≤pc) (hn:pc≤65535) {a1 a2:Addr} (hf1:wAddr M e pc 4=some a1) (hf2:wAddr M e (pc+1) 4=some a2)
 (hx:wordAt M (frmF M.frs e pc 4) pc=x) (hx2:wordAt M (frmF M.frs e (pc+1) 4) (pc+1)=n) :
 Calls Tryz.prog 146 #[.pointer (some ⟨cb,0,none⟩)] w fun y w'=>y=.returned (.tuple #[.agg #[.int .i64 (x % 16),.int .i64 (x / 16 % 4),.int .i64 (x / 256 % 4),.int .i64 n],.bool true])∧Below w.heap.size w w':=by
 have HF1:Hid (wAddr M e pc 4=some a1):=hf1
 have HF2:Hid (wAddr M e (pc+1) 4=some a2):=hf2
 have HX1:Hid (wordAt M (frmF M.frs e pc 4) pc=x):=hx
 have HX2:Hid (wordAt M (frmF M.frs e (pc+1) 4) (pc+1)=n):=hx2
 clear hf1 hf2 hx hx2
 obtain ⟨W2,hW2⟩:∃ W2,Hid (W2=w.alloc (.cells #[.int .i64 0,.int .i64 0,.int .i64 0,.int .i64 0] 184)):=⟨_,rfl⟩
 have BW:Hid (Below w.heap.size w W2):=by show Below _ _ _;rw [hW2.out];exact (Below.refl _ _).alloc (Nat.le_refl _) _
 have hC2:=hC.below BW.out
 have hM2:=hM.below BW.out
 have hT:=fun (n' : Int) w' (h:Below W2.heap.size W2 w') (hn' : n' = pc∨n' = pc+1)=>touch_run M e pc n' 4 rs cb w' (hC2.below h) (hM2.below h) hG (by omega) (by omega) (by omega)
 have c4:=hC2.c4
 have lc:=hC2.lt
 have hblk:W2.heap[w.heap.size]? = some (.cells #[.int .i64 0,.int .i64 0,.int .i64 0,.int .i64 0] 184 (0,0)):=by rw [hW2.out];exact Go.Deep.blk_alloc_new _ _
 have rl:w.heap.size<W2.heap.size:=(Array.getElem?_eq_some_iff.1 hblk).1
 have RB:Hid (∀ w',Below W2.heap.size W2 w'→w'.heap[w.heap.size]? = some (.cells #[.int .i64 0,.int .i64 0,.int .i64 0,.int .i64 0] 184 (0,0))):=fun w' h=>(h.block _ rl).trans hblk
 have hw1:IntKind.i64.wrap (pc+1)=pc+1:=by rw [IntKind.wrap_i64];omega
 have HC2:Hid (_):=hC2
 have HM2:Hid (_):=hM2
 have C4:Hid (_):=c4
 clear hC hM hC2 hM2 hblk
 go_enter Tryz.func146,Tryz.ntmps146
 go_upto_region 1 with fail
 rw [← hW2.out]
 go_cut [4,5] from 7 to 19 (fun s4 s5 wx=>s4=.pointer (wAddr M e pc 4)∧s5=.pointer (wAddr M e (pc+1) 4)∧Below W2.heap.size W2 wx)
 case first =>
  go_region_held3 (fun w'=>w'.cell? ⟨cb,4,none⟩=some (.int .i64 pc)) (first | exact g4 | go_keep) (first
   | (go_at_call 156;refine (hT _ _ (by first | exact HBx.out | (repeat (first | (with_reducible exact Below.refl _ _) | (with_reducible refine Below.drew ?_) | (with_reducible refine below_allocR ?_ _)))) (by first | exact .inl rfl | exact .inr rfl)).mono ?_;rintro x w1 ⟨rfl,hb⟩;have HBn:Hid (Below W2.heap.size W2 w1):=Below.trans (by first | exact HBx.out | (repeat (first | (with_reducible exact Below.refl _ _) | (with_reducible refine Below.drew ?_) | (with_reducible refine below_allocR ?_ _)))) (hb.mono (by first | exact HBx.out.size | exact Nat.le_refl _));have g4:w1.cell? ⟨cb,4,none⟩=some (.int .i64 pc):=(HBn.out.cell (p:=⟨cb,4,none⟩) lc).trans C4.out;clear hb;(try clear HBx);have HBx:Hid (_):=HBn;clear HBn;dsimp only)
   | fail)
  all_goals
   go_wp2_with fail
   go_meet
   case rel=>exact ⟨rfl,rfl,HBx.out⟩
 case rest =>
 obtain ⟨rfl,rfl,hbw⟩:=hcut
 have HBW:Hid (Below W2.heap.size W2 wc):=hbw
 have hblk:=RB.out wc hbw
 have r0:wc.cell? ⟨w.heap.size,0,none⟩=some (.int .i64 0):=by simp [World.cell?,hblk]
 have r1:wc.cell? ⟨w.heap.size,1,none⟩=some (.int .i64 0):=by simp [World.cell?,hblk]
 have r2:wc.cell? ⟨w.heap.size,2,none⟩=some (.int .i64 0):=by simp [World.cell?,hblk]
 have r3:wc.cell? ⟨w.heap.size,3,none⟩=some (.int .i64 0):=by simp [World.cell?,hblk]
 have f0:=frozen_of_block hblk 0
 have f1:=frozen_of_block hblk 1
 have f2:=frozen_of_block hblk 2
 have f3:=frozen_of_block hblk 3
 have rl2:=lt_of_cell r0
 dsimp only at rl2
 clear hT hbw hblk RB C4 c4 lc
 have hf1:=HF1.out
 have hf2:=HF2.out
 have hx:=HX1.out
 have hx2:=HX2.out
 have hM3:=HM2.out.below HBW.out
 obtain ⟨s1,x1,_,k,hk,hfk,_⟩:=wAddr_word hM3 hG h0 hf1
 obtain ⟨s2,x2,_⟩:=wAddr_word hM3 hG (n:=pc+1) (by omega) hf2
 have hxb:=wordAt_in hG hk pc
 rw [← hfk,hx] at hxb
 rw [hx] at x1
 rw [hx2] at x2
 rw [hf1,hf2]
 have d1:Int.tmod x 16=x % 16:=Int.tmod_eq_emod_of_nonneg hxb.1
 have d2:Int.tdiv x 16=x / 16:=Int.tdiv_eq_ediv_of_nonneg hxb.1
 have d3:Int.tmod (x / 16) 4=x / 16 % 4:=Int.tmod_eq_emod_of_nonneg (by omega)
 have d4:Int.tdiv x 256=x / 256:=Int.tdiv_eq_ediv_of_nonneg hxb.1
 have d5:Int.tmod (x / 256) 4=x / 256 % 4:=Int.tmod_eq_emod_of_nonneg (by omega)
 have e1:IntKind.i64.wrap (x % 16)=x % 16:=by rw [IntKind.wrap_i64];omega
 have e2:IntKind.i64.wrap (x / 16)=x / 16:=by rw [IntKind.wrap_i64];omega
 have e3:IntKind.i64.wrap (x / 16 % 4)=x / 16 % 4:=by rw [IntKind.wrap_i64];omega
 have e4:IntKind.i64.wrap (x / 256)=x / 256:=by rw [IntKind.wrap_i64];omega
 have e5:IntKind.i64.wrap (x / 256 % 4)=x / 256 % 4:=by rw [IntKind.wrap_i64];omega
 obtain ⟨b1,o1,p1⟩:=a1
 obtain ⟨b2,o2,p2⟩:=a2
 dsimp only at s1 s2
 subst s1 s2
 clear hM3 HM2 HC2 hf1 hf2 hx hx2 hG hfk HF1 HF2 HX1 HX2
 go_wp2
 obtain ⟨k0,k1,k2,k3⟩:=blk4 (v0:=.int .i64 (x % 16)) (v1:=.int .i64 (x / 16 % 4)) (v2:=.int .i64 (x / 256 % 4)) (v3:=.int .i64 n) r0 r1 r2 r3
 (try simp only [Exit.inBlock,Exit.then])
 refine bodyPost_ret (by simp [results,Tryz.results146,go_sem,k0,k1,k2,k3];try rfl) rfl ?_
 exact ⟨rfl,BW.out.trans ((((((HBW.out.mono BW.out.size).setCell (by simp) _).setCell (by simp) _).setCell (by simp) _).setCell (by simp) _))⟩
end Go.Proofs.YtdngbojbpmdegaaGreatDoor

namespace Go.Proofs.YtdngbojbpmdegaaGreatDoor
open Go.RowKit
theorem placeOf_normR (l:List Fr) (e a:Int):placeOf (l.map Fr.norm) e a=placeOf l e a:=by
 unfold placeOf idxOf
 rw [List.findIdx?_map]
 rfl
theorem placeOf_sameR {M N:Mv} (h:M.Same N) (e a:Int):placeOf M.frs e a=placeOf N.frs e a:=by
 rw [← placeOf_normR M.frs,norm_eq h,placeOf_normR]
theorem norm_atR {M N:Mv} (h:M.Same N) (k:Nat):(M.frs.getD k default).norm=(N.frs.getD k default).norm:=by
 rw [← norm_getD,norm_eq h,norm_getD]
theorem same_o {M N:Mv} (h:M.Same N) (k:Nat):(M.frs.getD k default).o=(N.frs.getD k default).o:=by have:=congrArg Fr.o (norm_atR h k);exact this
theorem same_r {M N:Mv} (h:M.Same N) (k:Nat):(M.frs.getD k default).r=(N.frs.getD k default).r:=by have:=congrArg Fr.r (norm_atR h k);exact this
theorem same_at {M N:Mv} (h:M.Same N) (k:Nat):(M.frs.getD k default).at_=(N.frs.getD k default).at_:=by have:=congrArg Fr.at_ (norm_atR h k);exact this
theorem same_ws {M N:Mv} (h:M.Same N) (k:Nat):(M.frs.getD k default).ws=(N.frs.getD k default).ws:=by have:=congrArg Fr.ws (norm_atR h k);exact this
theorem frmF_same {M N:Mv} (h:M.Same N) (e n right:Int):frmF M.frs e n right=frmF N.frs e n right:=by
 unfold frmF shF
 rw [placeOf_sameR h,same_o h,same_r h]
theorem wordAt_same {M N:Mv} (h:M.Same N) (f n:Int):wordAt M f n=wordAt N f n:=by unfold wordAt;rw [same_ws h]
theorem putWord_same {M N:Mv} (h:M.Same N) (f n v:Int):(putWord M f n v).Same (putWord N f n v):=by
 unfold putWord
 by_cases hj:f.toNat<N.frs.length
 · have hj' : f.toNat<M.frs.length:=by rw [h.len];exact hj
   refine ⟨by simpa using h.len,fun i hi=>?_,h.en,h.qu⟩
   have hi' : i<M.frs.length:=by simpa using hi
   show ((M.frs.set _ _).getD i default).Same ((N.frs.set _ _).getD i default)
   rw [getD_set _ _ _ _ hj',getD_set _ _ _ _ hj]
   by_cases e:i=f.toNat
   · rw [if_pos e,if_pos e]
     exact ⟨same_o h _,same_at h _,same_r h _,by dsimp only;rw [same_ws h]⟩
   · rw [if_neg e,if_neg e];exact h.fr i hi'
 · have hj' : ¬ f.toNat<M.frs.length:=by rw [h.len];exact hj
   rw [List.set_eq_of_length_le (by omega),List.set_eq_of_length_le (by omega)]
   exact h
theorem sayM_same {M N:Mv} (h:M.Same N) (m:Nat) (v:Int):(sayM M m v).Same (sayM N m v):=⟨h.len,h.fr,h.en,by unfold sayM;dsimp only;rw [h.en,h.qu]⟩
structure Rn.Same (R S:Rn):Prop where
 M:R.M.Same S.M
 pc:R.pc=S.pc
 rs:R.rs=S.rs
 nd:R.nd=S.nd
 v:R.v=S.v
theorem ite_same {c:Prop} [Decidable c] {A B A' B' : Rn} (h1:A.Same A') (h2:B.Same B'):(if c then A else B).Same (if c then A' else B'):=by
 by_cases h:c
 · rw [if_pos h,if_pos h];exact h1
 · rw [if_neg h,if_neg h];exact h2
theorem doR_same {M N:Mv} (h:M.Same N) (m:Nat) (pc:Int) (rs:List Int) (x n:Int) (xr:Int→Int→Int):(doR M m pc rs x n xr).Same (doR N m pc rs x n xr):=by
 unfold doR
 rw [frmF_same h,frmF_same h,wordAt_same h,show M.qus.length=N.qus.length by rw [h.qu]]
 repeat' refine ite_same ?_ ?_
 all_goals first | exact ⟨h,rfl,rfl,rfl,rfl⟩ | exact ⟨putWord_same h _ _ _,rfl,rfl,rfl,rfl⟩ | exact ⟨sayM_same h _ _,rfl,rfl,rfl,rfl⟩
theorem stepR_same {M N:Mv} (h:M.Same N) (m:Nat) (pc:Int) (rs:List Int) (xr:Int→Int→Int):(stepR M m pc rs xr).Same (stepR N m pc rs xr):=by
 unfold stepR
 rw [frmF_same h,frmF_same h,wordAt_same h,wordAt_same h]
 exact ite_same ⟨h,rfl,rfl,rfl,rfl⟩ (doR_same h m pc rs _ _ xr)
theorem runR_same:∀ (k:Nat) {M N:Mv} (_:M.Same N) (m:Nat) (pc:Int) (rs:List Int) (xr:Int→Int→Int),(runR k M m pc rs xr).Same (runR k N m pc rs xr)
 | 0,_,_,h,_,_,_,_=>⟨h,rfl,rfl,rfl,rfl⟩
 | k+1,M,N,h,m,pc,rs,xr=>by
   have hs:=stepR_same h m pc rs xr
   unfold runR
   rw [hs.nd,hs.pc,hs.rs]
   exact ite_same (runR_same k hs.M m _ _ xr) hs
theorem leftM_same {R S:Rn} (h:R.Same S) (m:Nat):(leftM R m).Same (leftM S m):=by
 refine ⟨h.M.len,h.M.fr,?_,h.M.qu⟩
 unfold leftM leftE
 dsimp only
 rw [h.M.en,h.nd,h.pc,h.rs]
theorem runR_stop {k:Nat} {M:Mv} {m:Nat} {pc:Int} {rs:List Int} {xr:Int→Int→Int} (h:¬ (stepR M m pc rs xr).nd=0):runR (k+1) M m pc rs xr=stepR M m pc rs xr:=by
 rw [runR,if_neg h]
theorem runR_more {k:Nat} {M:Mv} {m:Nat} {pc:Int} {rs:List Int} {xr:Int→Int→Int} (h:(stepR M m pc rs xr).nd=0):runR (k+1) M m pc rs xr=runR k (stepR M m pc rs xr).M m (stepR M m pc rs xr).pc (stepR M m pc rs xr).rs xr:=by
 rw [runR,if_pos h]
end Go.Proofs.YtdngbojbpmdegaaGreatDoor

namespace Go.Proofs.YtdngbojbpmdegaaGreatDoor
open Go.RowKit
def Mine (M:Mv) (b:Nat):Prop:=(∃ o s,M.fa=some ⟨b,o,s⟩)∨(∃ o s,M.ea=some ⟨b,o,s⟩)∨(∃ o s,M.qa=some ⟨b,o,s⟩)∨∃ j,j<M.frs.length∧∃ o s,(M.frs.getD j default).a=some ⟨b,o,s⟩
theorem Mine.fresh {n0:Nat} {w:World} {M:Mv} (h:Owned n0 w M) {b:Nat} (hb:Mine M b):n0≤b∧b<w.heap.size:=by
 rcases hb with ⟨o,s,e⟩ | ⟨o,s,e⟩ | ⟨o,s,e⟩ | ⟨j,hj,o,s,e⟩
 · exact ⟨(h.nf b o s e).1,(h.nf b o s e).2.1⟩
 · exact ⟨(h.ne b o s e).1,(h.ne b o s e).2.1⟩
 · exact ⟨(h.nq b o s e).1,(h.nq b o s e).2.1⟩
 · exact ⟨(h.nw j hj b o s e).1,(h.nw j hj b o s e).2.1⟩
theorem Owned.keepM {n0:Nat} {w w' : World} {M:Mv} (h:Owned n0 w M) (hw:∀ b,Mine M b→w'.heap[b]? = w.heap[b]?) (hs:w.heap.size≤w'.heap.size):Owned n0 w' M:=by
 have rows:∀ {α:Type} [Inhabited α] {c:Nat} {cells:α→List Value} {a:Option Addr} {xs:List α},(∀ b o s,a=some ⟨b,o,s⟩→Mine M b)→RowsAt w c cells a xs→RowsAt w' c cells a xs:=fun {α} _ {c cells a xs} ha hx=>by
  rcases hx with e | ⟨b,off,h1,h2⟩
  · exact .inl e
  · exact .inr ⟨b,off,h1,fun j hj i hi=>(World.cell?_of_block (hw b (ha b off none h1))).trans (h2 j hj i hi)⟩
 have new:∀ {a:Option Addr},(∀ b o s,a=some ⟨b,o,s⟩→Mine M b)→New n0 w a→New n0 w' a:=fun {a} ha hn b o s e=>⟨(hn b o s e).1,Nat.lt_of_lt_of_le (hn b o s e).2.1 hs,fun i=>(World.frozen?_of_block (hw b (ha b o s e))).trans ((hn b o s e).2.2 i)⟩
 have mf:∀ b o s,M.fa=some ⟨b,o,s⟩→Mine M b:=fun b o s e=>.inl ⟨o,s,e⟩
 have me:∀ b o s,M.ea=some ⟨b,o,s⟩→Mine M b:=fun b o s e=>.inr (.inl ⟨o,s,e⟩)
 have mq:∀ b o s,M.qa=some ⟨b,o,s⟩→Mine M b:=fun b o s e=>.inr (.inr (.inl ⟨o,s,e⟩))
 have mw:∀ j,j<M.frs.length→∀ b o s,(M.frs.getD j default).a=some ⟨b,o,s⟩→Mine M b:=fun j hj b o s e=>.inr (.inr (.inr ⟨j,hj,o,s,e⟩))
 refine ⟨⟨rows mf h.at_.fr,h.at_.frl,h.at_.frc,fun j hj=>?_,rows me h.at_.en,h.at_.enl,h.at_.enok,rows mq h.at_.qu,h.at_.qul,h.at_.quok⟩,new mf h.nf,new me h.ne,new mq h.nq,fun j hj=>new (mw j hj) (h.nw j hj),h.fe,h.fq,h.eq,h.wf,h.we,h.wq,h.ww⟩
 have q:=h.at_.frok j hj
 refine ⟨q.wo,q.wat,q.wr,q.len,?_,q.wws⟩
 rcases q.ints with e | ⟨b,off,h1,h2⟩
 · exact .inl e
 · exact .inr ⟨b,off,h1,fun i hi=>(World.cell?_of_block (hw b (mw j hj b off none h1))).trans (h2 i hi)⟩
structure Core (n0:Nat) (w:World) (cb:Nat) (M:Mv) (e pc:Int) (rs:List Int):Prop where
 at_:CoreAt w cb M e pc rs
 own:Owned n0 w M
 q:QRow n0 w M
 ge:n0≤cb
 off:¬ Mine M cb
theorem Core.keepM {n0:Nat} {w w' : World} {cb:Nat} {M:Mv} {e pc:Int} {rs:List Int} (h:Core n0 w cb M e pc rs) (hw:∀ b,Mine M b∨b=cb→w'.heap[b]? = w.heap[b]?) (hs:w.heap.size≤w'.heap.size):Core n0 w' cb M e pc rs:=by
 have hc:∀ o,w'.cell? ⟨cb,o,none⟩=w.cell? ⟨cb,o,none⟩:=fun o=>World.cell?_of_block (hw cb (.inr rfl))
 exact ⟨⟨(hc 0).trans h.at_.c0,(hc 1).trans h.at_.c1,(hc 2).trans h.at_.c2,(hc 3).trans h.at_.c3,(hc 4).trans h.at_.c4,fun i hi=>(hc _).trans (h.at_.cr i hi),fun o=>(World.frozen?_of_block (hw cb (.inr rfl))).trans (h.at_.fz o),Nat.lt_of_lt_of_le h.at_.lt hs⟩,
  h.own.keepM (fun b hb=>hw b (.inl hb)) hs,h.q.keep fun b o s e=>hw b (.inl (.inr (.inr (.inl ⟨o,s,e⟩)))),h.ge,h.off⟩
theorem Core.keep {n0:Nat} {w w' : World} {cb:Nat} {M:Mv} {e pc:Int} {rs:List Int} (h:Core n0 w cb M e pc rs) (hb:Below w.heap.size w w'):Core n0 w' cb M e pc rs:=
 h.keepM (fun b q=>hb.block b (by rcases q with q | rfl;exact (Mine.fresh h.own q).2;exact h.at_.lt)) hb.size
theorem Core.far {n0:Nat} {w:World} {cb:Nat} {M:Mv} {e pc:Int} {rs:List Int} (h:Core n0 w cb M e pc rs) {b:Nat} (hb:¬ Mine M b) (hn:b≠cb) (o:Nat) (v:Value):Core n0 (w.setCell ⟨b,o,none⟩ v) cb M e pc rs:=
 h.keepM (fun b' q=>Below.heap_setCell _ _ _ _ (fun e=>by dsimp only at e;subst e;rcases q with q | q;exact hb q;exact hn q)) (by simp [World.setCell])
theorem set_heap (w:World) (cb o:Nat) (v:Value) (b:Nat) (h:b≠cb):(w.setCell ⟨cb,o,none⟩ v).heap[b]? = w.heap[b]?:=Below.heap_setCell _ _ _ _ h
theorem Core.pcSet {n0:Nat} {w:World} {cb:Nat} {M:Mv} {e pc:Int} {rs:List Int} (h:Core n0 w cb M e pc rs) (pc' : Int):Core n0 (w.setCell ⟨cb,4,none⟩ (.int .i64 pc')) cb M e pc' rs:=by
 have oth:∀ o,o≠4→(w.setCell ⟨cb,4,none⟩ (.int .i64 pc')).cell? ⟨cb,o,none⟩=w.cell? ⟨cb,o,none⟩:=fun o ho=>World.cell?_setCell_other _ _ _ _ (by intro q;simp only [Addr.mk.injEq,true_and,and_true] at q;omega)
 have hw:∀ b,Mine M b→(w.setCell ⟨cb,4,none⟩ (.int .i64 pc')).heap[b]? = w.heap[b]?:=fun b hb=>set_heap _ _ _ _ _ (fun e=>h.off (e▸hb))
 exact ⟨⟨(oth 0 (by omega)).trans h.at_.c0,(oth 1 (by omega)).trans h.at_.c1,(oth 2 (by omega)).trans h.at_.c2,(oth 3 (by omega)).trans h.at_.c3,World.cell?_setCell_same _ _ _ h.at_.c4,fun i hi=>(oth (5+i) (by omega)).trans (h.at_.cr i hi),fun o=>(World.frozen?_setCell _ _ _ _).trans (h.at_.fz o),by simp [World.setCell];exact h.at_.lt⟩,
  h.own.keepM hw (by simp [World.setCell]),h.q.keep fun b o s e=>hw b (.inr (.inr (.inl ⟨o,s,e⟩))),h.ge,h.off⟩
theorem Core.regSet {n0:Nat} {w:World} {cb:Nat} {M:Mv} {e pc:Int} {rs:List Int} (h:Core n0 w cb M e pc rs) {a:Nat} (ha:a<4) (hl:rs.length=4) (v:Int):Core n0 (w.setCell ⟨cb,5+a,none⟩ (.int .i64 v)) cb M e pc (rs.set a v):=by
 have oth:∀ o,o≠5+a→(w.setCell ⟨cb,5+a,none⟩ (.int .i64 v)).cell? ⟨cb,o,none⟩=w.cell? ⟨cb,o,none⟩:=fun o ho=>World.cell?_setCell_other _ _ _ _ (by intro q;simp only [Addr.mk.injEq,true_and,and_true] at q;omega)
 have hw:∀ b,Mine M b→(w.setCell ⟨cb,5+a,none⟩ (.int .i64 v)).heap[b]? = w.heap[b]?:=fun b hb=>set_heap _ _ _ _ _ (fun e=>h.off (e▸hb))
 refine ⟨⟨(oth 0 (by omega)).trans h.at_.c0,(oth 1 (by omega)).trans h.at_.c1,(oth 2 (by omega)).trans h.at_.c2,(oth 3 (by omega)).trans h.at_.c3,(oth 4 (by omega)).trans h.at_.c4,fun i hi=>?_,fun o=>(World.frozen?_setCell _ _ _ _).trans (h.at_.fz o),by simp [World.setCell];exact h.at_.lt⟩,
  h.own.keepM hw (by simp [World.setCell]),h.q.keep fun b o s e=>hw b (.inr (.inr (.inl ⟨o,s,e⟩))),h.ge,h.off⟩
 by_cases e:i=a
 · subst e
   rw [World.cell?_setCell_same _ _ _ (h.at_.cr i hi)]
   simp [List.getD_eq_getElem?_getD,hl,ha]
 · rw [oth (5+i) (by omega),h.at_.cr i hi]
   simp [List.getD_eq_getElem?_getD,List.getElem?_set_ne (Ne.symm e)]
theorem Core.word {n0:Nat} {w:World} {cb:Nat} {M:Mv} {e pc:Int} {rs:List Int} (h:Core n0 w cb M e pc rs) {b o k i:Nat} (hk:k<M.frs.length) (ha:(M.frs.getD k default).a=some ⟨b,o,none⟩) (hi:i<(M.frs.getD k default).ws.length) {v:Int} (wv:(Lit.int .i64 v).wf=true) :
 Core n0 (w.setCell ⟨b,o+i,none⟩ (.int .i64 v)) cb {M with frs:=M.frs.set k {M.frs.getD k default with ws:=(M.frs.getD k default).ws.set i v}} e pc rs:=by
 have hbc:b≠cb:=fun q=>h.off (q▸.inr (.inr (.inr ⟨k,hk,o,none,ha⟩)))
 have hb:∀ o',(w.setCell ⟨b,o+i,none⟩ (.int .i64 v)).cell? ⟨cb,o',none⟩=w.cell? ⟨cb,o',none⟩:=fun o'=>World.cell?_setCell_other _ _ _ _ (by intro q;simp only [Addr.mk.injEq] at q;exact hbc q.1)
 have addr:∀ j,j<M.frs.length→((M.frs.set k {M.frs.getD k default with ws:=(M.frs.getD k default).ws.set i v}).getD j default).a=(M.frs.getD j default).a:=fun j hj=>by
  rw [getD_set _ _ _ _ hk];split
  · rename_i e;subst e;rfl
  · rfl
 refine ⟨⟨?_,(hb 1).trans h.at_.c1,(hb 2).trans h.at_.c2,(hb 3).trans h.at_.c3,(hb 4).trans h.at_.c4,fun i hi=>(hb _).trans (h.at_.cr i hi),fun o=>(World.frozen?_setCell _ _ _ _).trans (h.at_.fz o),by simp [World.setCell];exact h.at_.lt⟩,h.own.setWord hk ha hi wv,?_,h.ge,?_⟩
 · rw [hb 0,h.at_.c0];simp
 · exact QRow.keep (M:=M) h.q fun b' o' s e'=>set_heap _ _ _ _ _ (fun q=>by subst q;exact h.own.wq k hk b' o none o' s ha e')
 · rintro (q | q | q | ⟨j,hj,q⟩)
   · exact h.off (.inl q)
   · exact h.off (.inr (.inl q))
   · exact h.off (.inr (.inr (.inl q)))
   · have hj' : j<M.frs.length:=by simpa using hj
     dsimp only at q
     rw [addr j hj'] at q
     exact h.off (.inr (.inr (.inr ⟨j,hj',q⟩)))
def FarSame (M:Mv) (cb:Nat) (w w' : World):Prop:=∀ b,b<w.heap.size→¬ Mine M b→b≠cb→w'.heap[b]? = w.heap[b]?
theorem FarSame.refl (M:Mv) (cb:Nat) (w:World):FarSame M cb w w:=fun _ _ _ _=>rfl
theorem FarSame.below {M:Mv} {cb:Nat} {w w1 w2:World} (h:FarSame M cb w w1) (hs:w.heap.size≤w1.heap.size) (hb:Below w1.heap.size w1 w2):FarSame M cb w w2:=fun b hl hm hc=>(hb.block b (by omega)).trans (h b hl hm hc)
theorem FarSame.set {M:Mv} {cb:Nat} {w w1:World} (h:FarSame M cb w w1) {c:Nat} (hc:w.heap.size≤c∨Mine M c∨c=cb) (o:Nat) (v:Value):FarSame M cb w (w1.setCell ⟨c,o,none⟩ v):=fun b hl hm hb=>by
 rw [set_heap _ _ _ _ _ (by
  rintro rfl
  rcases hc with q | q | q
  · omega
  · exact hm q
  · exact hb q)]
 exact h b hl hm hb
def MineSub (M M' : Mv) (n:Nat):Prop:=∀ b,b<n→¬ Mine M b→¬ Mine M' b
theorem MineSub.refl (M:Mv) (n:Nat):MineSub M M n:=fun _ _ h=>h
theorem FarSame.trans {M M' : Mv} {cb:Nat} {w w1 w2:World} (h:FarSame M cb w w1) (hs:w.heap.size≤w1.heap.size) (hm:MineSub M M' w.heap.size) (h' : FarSame M' cb w1 w2):FarSame M cb w w2:=fun b hl hn hc=>(h' b (by omega) (hm b hl hn) hc).trans (h b hl hn hc)
theorem MineSub.trans {M M' M'' : Mv} {n n' : Nat} (h:MineSub M M' n) (hn:n≤n') (h' : MineSub M' M'' n'):MineSub M M'' n:=fun b hl hm=>h' b (by omega) (h b hl hm)
end Go.Proofs.YtdngbojbpmdegaaGreatDoor
