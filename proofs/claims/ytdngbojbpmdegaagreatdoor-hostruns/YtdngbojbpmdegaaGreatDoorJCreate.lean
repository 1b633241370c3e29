import Derived.Test.YtdngbojbpmdegaaGreatDoorPoke
import Derived.Test.YtdngbojbpmdegaaGreatDoorJIdxBase
import Derived.Test.YtdngbojbpmdegaaGreatDoorShelf
import Derived.Test.YtdngbojbpmdegaaGreatDoorRows
import Derived.WalkKit
import Derived.WalkLawsBesides
import Derived.WalkSpells
import Derived.LoopTactic
import Derived.Below
import Derived.Lib.Builder
import Derived.Lib.AppendStr
import Derived.Lib.UnsafeStr
import Derived.Laws.Externs
import Derived.Outline
import Derived.Test.YtdngbojbpmdegaaGreatDoorJOpenCells
import Derived.Lib.ItoaLen
import Derived.Lib.AppendIntMem
import Derived.Test.YtdngbojbpmdegaaGreatDoorCards
import Derived.Test.YtdngbojbpmdegaaGreatDoorTie
import Derived.ProofKit
import Derived.OpenShut
import Derived.Deep.DeepHandedRow
import Derived.Lib.LaidTab
import Derived.Stop.LaidErr
namespace Go.Proofs.YtdngbojbpmdegaaGreatDoor
open Go.RowKit
theorem box_cells {w:World} {b:Nat} {x y z:Value} {t:TypeId} (h:w.heap[b]? = some (.cells #[x,y,z] t (0,0))) :
 w.cell? ⟨b,0,none⟩=some x∧w.cell? ⟨b,1,none⟩=some y∧w.cell? ⟨b,2,none⟩=some z∧w.frozen? ⟨b,0,none⟩=false∧w.frozen? ⟨b,1,none⟩=false∧w.frozen? ⟨b,2,none⟩=false∧b<w.heap.size:=by
 refine ⟨by simp [World.cell?,h],by simp [World.cell?,h],by simp [World.cell?,h],frozen_of_block h 0,frozen_of_block h 1,frozen_of_block h 2,(Array.getElem?_eq_some_iff.1 h).1⟩
theorem boxes_blk (w:World) (a b c:Value):∀ w1,Below ((w.alloc (.cells #[a,b,c] 29)).alloc (.cells #[.slice none 0 0,.slice none 0 0,.slice none 0 0] 29)).heap.size ((w.alloc (.cells #[a,b,c] 29)).alloc (.cells #[.slice none 0 0,.slice none 0 0,.slice none 0 0] 29)) w1→
 w1.heap[w.heap.size]? = some (.cells #[a,b,c] 29 (0,0))∧w1.heap[w.heap.size+1]? = some (.cells #[.slice none 0 0,.slice none 0 0,.slice none 0 0] 29 (0,0)):=fun w1 hb=>by
 refine ⟨(hb.block _ (by simp;omega)).trans (a21 _ _ _),(hb.block _ (by simp)).trans (a22 _ _ _)⟩
def En.withLog (e:En) (s:ByteArray):En:={e with log:=e.log ++ s}
end Go.Proofs.YtdngbojbpmdegaaGreatDoor

namespace Go.Proofs.YtdngbojbpmdegaaGreatDoor
open Go.RowKit
set_option maxHeartbeats 800000 in
theorem emp_index (a:Option Addr) (xs:List En) (cap:Nat) (p:En→Bool) (w:World) (hl:xs.length≤maxLen) (hx:RowsAt w 7 En.cells a xs)
 (hp:∀ j,j<xs.length→∀ w',Below w.heap.size w w'→Calls Tryz.prog 127 #[.agg #[.int .i64 (xs.getD j default).st,.string (xs.getD j default).log,.int .i64 (xs.getD j default).pc,.int .i64 (xs.getD j default).g0,.int .i64 (xs.getD j default).g1,.int .i64 (xs.getD j default).g2,.int .i64 (xs.getD j default).g3]] w' fun e w''=>e=.returned (.bool (p (xs.getD j default)))∧Below w'.heap.size w' w'') :
 Calls Tryz.prog 117 #[.slice a xs.length cap,.func (.func 127) #[] #[]] w fun e w'=>e=.returned (.int .i64 (idxOf p xs))∧Below w.heap.size w w':=by
 unfold maxLen at hl
 rcases hx with rfl | ⟨b,off,rfl,hc⟩
 · clear hp
   go_enter Tryz.func117,Tryz.ntmps117
   go_wp2
   refine wp_loop_rounds 1 ?_
   rw [rounds_succ]
   go_wp2
   go_ret
   exact ⟨rfl,Below.refl _ _⟩
 · go_enter Tryz.func117,Tryz.ntmps117
   go_wp2
   go_loopw [8] (fun i wr=>∃ k:Nat,k≤xs.length∧i=.int .i64 k∧Below w.heap.size w wr∧Hid (∀ j,j<k→p (xs.getD j default)=false)) (fun i _=>xs.length - (intOf i).toNat)
   case atStart=>exact ⟨0,Nat.zero_le _,rfl,Below.refl _ _,fun j hj=>absurd hj (by omega)⟩
   case round =>
    obtain ⟨k,hk,rfl,hbel,hid⟩:=hrel
    by_cases hlt:k<xs.length
    · have k0:=hc k hlt 0 (by omega);have k1:=hc k hlt 1 (by omega);have k2:=hc k hlt 2 (by omega);have k3:=hc k hlt 3 (by omega);have k4:=hc k hlt 4 (by omega);have k5:=hc k hlt 5 (by omega);have k6:=hc k hlt 6 (by omega)
      have hcall:=hp k hlt
      have HP:Hid (xs.getD k default=xs.getD k default):=rfl
      obtain ⟨P,hP⟩:∃ P,xs.getD k default=P:=⟨_,rfl⟩
      rw [hP] at k0 k1 k2 k3 k4 k5 k6 hcall
      have HP:Hid (xs.getD k default=P):=hP
      clear hP hc hp
      have HQ:Hid (p P=p P):=rfl
      obtain ⟨st,lg,pc,g0,g1,g2,g3⟩:=P
      simp only [En.cells] at k0 k1 k2 k3 k4 k5 k6
      have bl:b<w.heap.size:=lt_of_cell k0
      have l0:wr.cell? ⟨b,off+k * 7,none⟩=some (.int .i64 st):=(hbel.cell (p:=⟨b,_,none⟩) bl).trans k0;have l1:wr.cell? ⟨b,off+k * 7+1,none⟩=some (.string lg):=(hbel.cell (p:=⟨b,_,none⟩) bl).trans k1;have l2:wr.cell? ⟨b,off+k * 7+2,none⟩=some (.int .i64 pc):=(hbel.cell (p:=⟨b,_,none⟩) bl).trans k2;have l3:wr.cell? ⟨b,off+k * 7+3,none⟩=some (.int .i64 g0):=(hbel.cell (p:=⟨b,_,none⟩) bl).trans k3;have l4:wr.cell? ⟨b,off+k * 7+4,none⟩=some (.int .i64 g1):=(hbel.cell (p:=⟨b,_,none⟩) bl).trans k4;have l5:wr.cell? ⟨b,off+k * 7+5,none⟩=some (.int .i64 g2):=(hbel.cell (p:=⟨b,_,none⟩) bl).trans k5;have l6:wr.cell? ⟨b,off+k * 7+6,none⟩=some (.int .i64 g3):=(hbel.cell (p:=⟨b,_,none⟩) bl).trans k6
      clear k0 k1 k2 k3 k4 k5 k6 bl
      obtain ⟨z,hz⟩:∃ z,p ⟨st,lg,pc,g0,g1,g2,g3⟩=z:=⟨_,rfl⟩
      rw [hz] at hcall
      have HZ:Hid (p (xs.getD k default)=z):=by rw [HP.out];exact hz
      clear hz HQ
      cases z with
      | false =>
        go_wp2_with (go_at_call 127;refine (hcall _ hbel).mono ?_;rintro e w1 ⟨rfl,hb1⟩)
        go_roundw
        case rel=>exact ⟨k+1,by omega,by go_num,hbel.trans (hb1.mono hbel.size),snoc_false hid HZ.out⟩
        case measure=>simp [intOf];omega
      | true =>
        go_wp2_with (go_at_call 127;refine (hcall _ hbel).mono ?_;rintro e w1 ⟨rfl,hb1⟩)
        go_ret
        exact ⟨ret_int (idxOf_at hlt hid.out HZ.out).symm,hbel.trans (hb1.mono hbel.size)⟩
    · have hkl:k=xs.length:=by omega
      subst hkl
      clear hp hc
      go_wp2
      go_ret
      exact ⟨ret_int (idxOf_none hid.out).symm,hbel⟩
end Go.Proofs.YtdngbojbpmdegaaGreatDoor

namespace Go.Proofs.YtdngbojbpmdegaaGreatDoor
open Go.RowKit
theorem builder_size:(Tryz.prog.info? 176).map (·.size)=some 2:=by kernel_rfl
theorem builder_lies:liesAt Tryz.prog Tryz.prog.depth 176 (2 / Tryz.prog.cellsOf 176) 0 176 1=true:=by kernel_rfl
theorem byte_info:(Tryz.prog.info? 5).map (fun i=>(i.zero,i.size,i.bytes))=some (some (.int .u8 0),1,1):=by kernel_rfl
set_option maxHeartbeats 1000000 in
set_option maxRecDepth 100000 in
theorem copyCheck_used (b:Nat) (w:World) (h0:w.cell? ⟨b,0,none⟩=some (.pointer (some ⟨b,0,none⟩))) :
 Calls Tryz.prog 152 #[.pointer (some ⟨b,0,none⟩)] w fun e w'=>e=.returned (.tuple #[])∧w=w':=by
 obtain ⟨j,hj,_⟩:=Option.map_eq_some_iff.1 builder_size
 go_enter Tryz.func152,Tryz.ntmps152
 go_wp2
 rw [Lib.run_neq_ptr_same w _ Tryz.underlying173 hj]
 go_wp2
 go_end0
 exact ⟨rfl,rfl⟩
set_option maxHeartbeats 1000000 in
set_option maxRecDepth 100000 in
theorem copyCheck_fresh (b:Nat) (w:World) (h0:w.cell? ⟨b,0,none⟩=some (.pointer none)) (hsh:w.shape? b=some (176,2)) (hfz:w.frozen? ⟨b,0,none⟩=false) :
 Calls Tryz.prog 152 #[.pointer (some ⟨b,0,none⟩)] w fun e w'=>e=.returned (.tuple #[])∧w.setCell ⟨b,0,none⟩ (.pointer (some ⟨b,0,none⟩))=w':=by
 obtain ⟨j,hj,hjs⟩:=Option.map_eq_some_iff.1 builder_size
 go_enter Tryz.func152,Tryz.ntmps152
 go_wp2
 rw [Lib.run_to_unsafe w ⟨b,0,none⟩ Tryz.underlying173 Tryz.underlying193 hj (by rw [hjs];decide) hsh (Nat.zero_lt_succ 1)]
 simp only [Result.andThen]
 rw [Oper.upon_value]
 go_wp2
 rw [run_callFunc_extern Tryz.func157 (by kernel_rfl) (by kernel_rfl) (by kernel_rfl) (e:=Extern.AbiNoEscape.same) (by kernel_rfl),Lib.run_noEscape]
 simp only [Result.andThen]
 rw [Oper.upon_value]
 go_wp2
 rw [Lib.run_from_unsafe w ⟨b,0,none⟩ Tryz.underlying193 Tryz.underlying173 hj hsh builder_lies]
 simp only [Result.andThen]
 rw [Oper.upon_value]
 go_wp2
 go_end0
 exact ⟨rfl,rfl⟩
abbrev Bld (B b:Nat) (bs:List Value) (w:World):Prop:=Lib.BuilderAt 176 5 B b (.pointer (some ⟨b,0,none⟩)) bs w
abbrev IsBld (B b:Nat) (bs:List Value) (w:World):Prop:=Lib.IsBuilder 176 5 B b bs w
theorem copyCheck_any (B b:Nat) (bs:List Value) (w:World) (h:IsBld B b bs w) :
 Calls Tryz.prog 152 #[.pointer (some ⟨b,0,none⟩)] w fun e w'=>e=.returned (.tuple #[])∧Bld B b bs w'∧Below B w w':=by
 rcases h with h | h
 · refine (copyCheck_fresh b w h.cell0 h.shape h.frozen0).mono ?_
   rintro e w' ⟨rfl,rfl⟩
   exact ⟨rfl,h.used _,(Below.refl B w).setCell (p:=⟨b,0,none⟩) h.1 _⟩
 · refine (copyCheck_used b w h.cell0).mono ?_
   rintro e w' ⟨rfl,rfl⟩
   exact ⟨rfl,h,Below.refl B _⟩
theorem own_form {w:World} {B:Nat} {e:TypeId} {v:Value} {n:Nat} {xs:List Value} (h:w.ownsRow B e 1 v n xs):∃ ao cap,v=.slice ao n cap:=by
 rcases h.2 with ⟨hv,h0⟩ | ⟨g,cap,cur,hv,_⟩
 · exact ⟨none,0,by rw [hv,h0]⟩
 · exact ⟨_,_,hv⟩
set_option maxHeartbeats 2000000 in
set_option maxRecDepth 100000 in
theorem writeByte_any (B b:Nat) (bs:List Value) (c:Int) (w:World) (h:IsBld B b bs w) (hlen:bs.length+1≤140737488355328) (hBw:B≤w.heap.size) :
 Calls Tryz.prog 141 #[.pointer (some ⟨b,0,none⟩),.int .u8 c] w fun e w'=>e=.returned .nilIface∧Bld B b (bs ++ [.int .u8 c]) w'∧Below B w w':=by
 obtain ⟨i0,hi,hz0,hz1,hz2⟩:=info_parts byte_info
 go_enter Tryz.func141,Tryz.ntmps141
 go_wp2_with (go_at_call 152;refine (copyCheck_any B b bs _ h).mono ?_)
 rintro e w1 ⟨rfl,h1,hb1⟩
 have hlt:=h1.lt
 obtain ⟨hB,v,hbk,hown,hne⟩:=h1
 have c0:w1.cell? ⟨b,0,none⟩=some (.pointer (some ⟨b,0,none⟩)):=by rw [Lib.cell_of_heap hbk];rfl
 have c1:w1.cell? ⟨b,1,none⟩=some v:=by rw [Lib.cell_of_heap hbk];rfl
 go_wp2_with (at_builtin;refine wpList_append_own _ rfl _ _ 174 rfl B 5 i0 (.int .u8 0) 1 1 Tryz.underlying174 hi hz0 hz1 hz2 rfl (by decide) _ _ _ rfl (hown.alloc _) ⟨w1.heap.size,0,none⟩ 1 1 [.int .u8 c] rfl rfl ?c1 ?c2 ?c3 ?c4 ?c5 ?_)
 case c1 =>
  intro j u hj
  match j,hj with
  | 0,hj=>simp at hj;subst hj;simp [Addr.add]
 case c2=>intro u hu;simp at hu;subst hu;rfl
 case c3=>unfold maxLen;omega
 case c4=>omega
 case c5=>have:=hb1.size;simp;omega
 intro v' w2 hown' hgrow _
 have hb2:w2.heap[b]? = some (.cells #[.pointer (some ⟨b,0,none⟩),v] 176 (0,0)):=by
  rw [hgrow.block b (by simp;omega) (fun e=>hne e.symm),Lib.alloc_old w1 _ b hlt]
  exact hbk
 have d0:w2.cell? ⟨b,0,none⟩=some (.pointer (some ⟨b,0,none⟩)):=by rw [Lib.cell_of_heap hb2];rfl
 have d1:w2.cell? ⟨b,1,none⟩=some v:=by rw [Lib.cell_of_heap hb2];rfl
 have f1:w2.frozen? ⟨b,1,none⟩=false:=Lib.frozen_of_heap hb2 1
 obtain ⟨ao,cap,rfl⟩:=own_form hown'
 go_wp2
 go_ret
 refine ⟨rfl,?_,?_⟩
 · exact Lib.BuilderAt.put (T:=176) (e:=5) hB hb2 (bs':=bs ++ [.int .u8 c]) (by simpa using hown') (by decide)
 · exact ((hb1.alloc (by have:=hb1.size;omega) _).grown hgrow (by have:=hb1.size;simp;omega) (fun k hk=>(hown.lt k hk).1)).setCell (p:=⟨b,1,none⟩) hB _
set_option maxHeartbeats 2000000 in
set_option maxRecDepth 100000 in
theorem writeString_any (B b:Nat) (bs:List Value) (s:ByteArray) (w:World) (h:IsBld B b bs w) (hlen:bs.length+s.size≤140737488355328) (hBw:B≤w.heap.size) :
 Calls Tryz.prog 140 #[.pointer (some ⟨b,0,none⟩),.string s] w fun e w'=>e=.returned (.tuple #[.int .i64 s.size,.nilIface])∧Bld B b (bs ++ Lib.strCells s) w'∧Below B w w':=by
 obtain ⟨i0,hi,hz0,hz1,hz2⟩:=info_parts byte_info
 go_enter Tryz.func140,Tryz.ntmps140
 go_wp2_with (go_at_call 152;refine (copyCheck_any B b bs _ h).mono ?_)
 rintro e w1 ⟨rfl,h1,hb1⟩
 have hlt:=h1.lt
 obtain ⟨hB,v,hbk,hown,hne⟩:=h1
 have c0:w1.cell? ⟨b,0,none⟩=some (.pointer (some ⟨b,0,none⟩)):=by rw [Lib.cell_of_heap hbk];rfl
 have c1:w1.cell? ⟨b,1,none⟩=some v:=by rw [Lib.cell_of_heap hbk];rfl
 go_wp2_with (at_builtin;refine Lib.wpList_append_own_string _ rfl _ _ 174 9 rfl B 5 i0 Tryz.underlying174 Tryz.underlying9 hi hz0 hz1 hz2 _ _ _ rfl hown s rfl ?c3 ?c4 ?c5 ?_)
 case c3=>unfold maxLen;omega
 case c4=>omega
 case c5=>have:=hb1.size;omega
 intro v' w2 hown' hgrow _
 have hb2:w2.heap[b]? = some (.cells #[.pointer (some ⟨b,0,none⟩),v] 176 (0,0)):=by
  rw [hgrow.block b hlt (fun e=>hne e.symm)]
  exact hbk
 have d0:w2.cell? ⟨b,0,none⟩=some (.pointer (some ⟨b,0,none⟩)):=by rw [Lib.cell_of_heap hb2];rfl
 have d1:w2.cell? ⟨b,1,none⟩=some v:=by rw [Lib.cell_of_heap hb2];rfl
 have f1:w2.frozen? ⟨b,1,none⟩=false:=Lib.frozen_of_heap hb2 1
 obtain ⟨ao,cap,rfl⟩:=own_form hown'
 go_wp2
 go_ret2
 refine ⟨rfl,?_,?_⟩
 · exact Lib.BuilderAt.put (T:=176) (e:=5) hB hb2 (bs':=bs ++ Lib.strCells s) (by simpa [Lib.strCells_length] using hown') (by decide)
 · exact (hb1.grown hgrow (by have:=hb1.size;omega) (fun k hk=>(hown.lt k hk).1)).setCell (p:=⟨b,1,none⟩) hB _
theorem string_any (B b:Nat) (l:List UInt8) (w:World) (h:IsBld B b (Lib.byteCells l) w) (h0:l≠[]) :
 Calls Tryz.prog 143 #[.pointer (some ⟨b,0,none⟩)] w fun e w'=>e=.returned (.string ⟨l.toArray⟩)∧Below B w w':=
 Any.Builder_String Tryz.lays169 Tryz.Builder_Extra_169 B b l w h h0
end Go.Proofs.YtdngbojbpmdegaaGreatDoor

namespace Go.Proofs.YtdngbojbpmdegaaGreatDoor
open Go.RowKit
abbrev Tab (w:World):Prop:=Lib.TabIs Tryz.prog w "internal/strconv.uint64pow10" .u64 Lib.pow10Tab
theorem Tab.below {w w' : World} (h:Tab w) (hb:Below w.heap.size w w'):Tab w':=Lib.tabBelow_of_tabIs h w' hb
def numsL (xs:List Int):List UInt8:=xs.flatMap fun n=>32 :: Lib.itoa n
def entryL (nm:List UInt8) (xs:List Int):List UInt8:=nm ++ numsL xs ++ [59]
theorem numsL_le (xs:List Int) (h:∀ n ∈ xs,(Lit.int .i64 n).wf=true):(numsL xs).length≤22 * xs.length:=by
 induction xs with
 | nil=>simp [numsL]
 | cons n xs ih =>
   have h1:=i64_wf (h n (by simp))
   have h2:=Lib.itoa_length_le n h1.1 h1.2
   have h3:=ih fun m hm=>h m (by simp [hm])
   simp only [numsL,List.flatMap_cons,List.length_append,List.length_cons] at h3 ⊢
   omega
theorem bld_below {B b:Nat} {bs:List Value} {w w' : World} (h:Bld B b bs w) (hb:Below w.heap.size w w'):Bld B b bs w':=by
 have hlt:=h.lt
 obtain ⟨hB,v,hbk,hown,hne⟩:=h
 exact ⟨hB,v,(hb.block b hlt).trans hbk,hown.kept (row:=none) ⟨hb.os,hb.tape,hb.output,hb.size,fun k hk _=>hb.block k hk⟩ (by cases hv:v.ownBlock<;>simp),hne⟩
theorem take_nums (xs:List Int) (k:Nat) (h:k<xs.length):numsL (xs.take (k+1))=numsL (xs.take k) ++ (32 :: Lib.itoa (xs.getD k 0)):=by
 unfold numsL
 rw [List.take_succ_eq_append_getElem h,List.flatMap_append]
 simp [List.getD_eq_getElem?_getD,h]
theorem itoa_any (n:Int) (h:(Lit.int .i64 n).wf=true) (w:World) (ht:Tab w) :
 Calls Tryz.prog 142 #[.int .i64 n] w fun e w'=>e=.returned (.string ⟨(Lib.itoa n).toArray⟩)∧Below w.heap.size w w':=by
 have hb:=i64_wf h
 refine (Any.strconv_Itoa Tryz.laysM171 n hb.1 hb.2 w ht).mono ?_
 rintro e w' ⟨rfl,k,os,rfl⟩
 exact ⟨rfl,Lib.below_grow _ _ (Nat.le_refl _) _ _⟩
set_option maxHeartbeats 2000000 in
set_option maxRecDepth 100000 in
theorem entry_any (nm:ByteArray) (a:Option Addr) (xs:List Int) (cap:Nat) (w:World) (hn:nm.size≤1000) (hl:xs.length≤1000) (hx:Ints w a xs) (hwf:∀ n ∈ xs,(Lit.int .i64 n).wf=true) (ht:Tab w) :
 Calls Tryz.prog 123 #[.string nm,.slice a xs.length cap] w fun e w'=>e=.returned (.string ⟨(entryL nm.data.toList xs).toArray⟩)∧Below w.heap.size w w':=by
 have hfresh:IsBld w.heap.size w.heap.size [] (w.alloc (.cells #[.pointer none,.slice none 0 0] 176)):=Lib.fresh_isBuilder _ _ w
 have hw1:=writeString_any w.heap.size w.heap.size [] nm _ hfresh (by simp;omega) (by simp)
 go_enter Tryz.func123,Tryz.ntmps123
 go_wp2_with (go_at_call 140;go_must (refine hw1.mono ?_);rintro e w1 ⟨rfl,h1,hb1⟩)
 go_loopw [12] (fun i wr=>∃ k:Nat,k≤xs.length∧i=.int .i64 k∧Bld w.heap.size w.heap.size (Lib.byteCells (nm.data.toList ++ numsL (xs.take k))) wr∧Below w.heap.size w wr∧w.heap.size<wr.heap.size) (fun i _=>xs.length - (intOf i).toNat)
 case atStart =>
  have hs:=hb1.size
  exact ⟨0,Nat.zero_le _,rfl,by simpa [numsL,Lib.strCells_eq] using h1,((Below.refl _ _).alloc (Nat.le_refl _) _).trans hb1,by simp at hs;omega⟩
 case round =>
  obtain ⟨k,hk,rfl,hB,hbel,hsz⟩:=hrel
  clear hw1 hfresh h1 hb1
  have hlen:(nm.data.toList ++ numsL (xs.take k)).length≤1000+22 * xs.length:=by
   have h1:=numsL_le (xs.take k) fun n hn=>hwf n (List.mem_of_mem_take hn)
   have h2:nm.data.toList.length=nm.size:=Array.length_toList
   simp only [List.length_append,List.length_take] at h1 ⊢
   omega
  by_cases hlt:k<xs.length
  · rcases (hx.below hbel) with h0 | ⟨b,off,rfl,hc⟩
    · simp [h0] at hlt
    · have hck:=hc k hlt
      obtain ⟨z,hz⟩:∃ z,xs.getD k 0=z:=⟨_,rfl⟩
      have hzwf:(Lit.int .i64 z).wf=true:=by rw [← hz];exact hwf _ (by simp [List.getD_eq_getElem?_getD,hlt])
      have HZ:Hid (numsL (xs.take (k+1))=numsL (xs.take k) ++ (32 :: Lib.itoa z)):=by rw [← hz];exact take_nums xs k hlt
      rw [hz] at hck
      clear hz hc
      have g1:=writeByte_any w.heap.size w.heap.size (Lib.byteCells (nm.data.toList ++ numsL (xs.take k))) 32 wr (.inr hB) (by rw [Lib.byteCells_length];omega) (by omega)
      have g2:=fun w' (h:Below w.heap.size wr w')=>itoa_any z hzwf w' (ht.below (hbel.trans h))
      have g3:=fun w' (h:Bld w.heap.size w.heap.size (Lib.byteCells (nm.data.toList ++ numsL (xs.take k)) ++ [.int .u8 32]) w') (hz:w.heap.size≤w'.heap.size)=>writeString_any w.heap.size w.heap.size _ ⟨(Lib.itoa z).toArray⟩ w' (.inr h) (by
       have:=Lib.itoa_length_le z (i64_wf hzwf).1 (i64_wf hzwf).2
       have e:(ByteArray.mk (Lib.itoa z).toArray).size=(Lib.itoa z).length:=by simp [ByteArray.size]
       rw [e]
       simp only [List.length_append,Lib.byteCells_length,List.length_cons,List.length_nil] at hlen ⊢
       omega) hz
      clear hx ht hwf hzwf
      go_wp2_with (first
       | (go_at_call 141;go_must (refine g1.mono ?_);rintro e w2 ⟨rfl,hB2,hb2⟩;have hs2:=hb2.size)
       | (go_at_call 142;go_must (refine (g2 _ hb2).mono ?_);rintro e w3 ⟨rfl,hb3⟩;have hs3:=hb3.size)
       | (go_at_call 140;go_must (refine (g3 _ (bld_below hB2 hb3) (by omega)).mono ?_);rintro e w4 ⟨rfl,hB4,hb4⟩;have hs4:=hb4.size))
      go_roundw
      case rel =>
       refine ⟨k+1,by omega,by go_num,?_,((hbel.trans hb2).trans (hb3.mono (by omega))).trans hb4,by omega⟩
       rw [HZ.out]
       have e:Lib.byteCells (nm.data.toList ++ (numsL (xs.take k) ++ (32 :: Lib.itoa z)))=Lib.byteCells (nm.data.toList ++ numsL (xs.take k)) ++ [.int .u8 32] ++ Lib.strCells ⟨(Lib.itoa z).toArray⟩:=by
        simp [Lib.byteCells,Lib.strCells]
       rw [e]
       exact hB4
      case measure=>simp [intOf];omega
  · have hkl:k=xs.length:=by omega
    subst hkl
    rw [List.take_of_length_le (Nat.le_refl _)] at hB hlen
    have g1:=writeByte_any w.heap.size w.heap.size (Lib.byteCells (nm.data.toList ++ numsL xs)) 59 wr (.inr hB) (by rw [Lib.byteCells_length];omega) (by omega)
    have g2:=fun w' (h:Bld w.heap.size w.heap.size (Lib.byteCells (nm.data.toList ++ numsL xs) ++ [.int .u8 59]) w')=>string_any w.heap.size w.heap.size (entryL nm.data.toList xs) w' (.inr (by simpa [entryL,Lib.byteCells] using h)) (by simp [entryL])
    clear hx ht hwf
    go_wp2_with (first
     | (go_at_call 141;go_must (refine g1.mono ?_);rintro e w2 ⟨rfl,hB2,hb2⟩)
     | (go_at_call 143;go_must (refine (g2 _ hB2).mono ?_);rintro e w3 ⟨rfl,hb3⟩))
    go_ret
    exact ⟨rfl,(hbel.trans hb2).trans hb3⟩
end Go.Proofs.YtdngbojbpmdegaaGreatDoor

namespace Go.Proofs.YtdngbojbpmdegaaGreatDoor
open Go.ChangeShapes Go.WideShapes Go.ChangeAt Go.RowKit
theorem tab_global:Tryz.prog.globalNamed "internal/strconv.uint64pow10" = some 0:=by kernel_rfl
theorem tab_type:(Tryz.prog.globals[0]?).map (·.type)=some 203:=by kernel_rfl
theorem tab_cells:Tryz.prog.cellsOf 203=20:=by kernel_rfl
theorem tab_cell:Tryz.prog.cellsOf 197=1:=by kernel_rfl
abbrev listed:List (String × DataW Unit):=[("math/bits.deBruijn32tab",Rows.laid_math_bits_deBruijn32tab),("math/bits.deBruijn64tab",Rows.laid_math_bits_deBruijn64tab),("internal/strconv.uint64pow10",Rows.laid_internal_strconv_uint64pow10)]
theorem tab_of {W:World} (h:laidMetH Tryz.prog listed W):Tab W:=by
 have h' : laidMet Tryz.prog listed W:=h
 exact Lib.tabIs_of_head (k:=.u64) (zs:=Lib.pow10Tab) (rest:=[]) tab_global tab_type Tryz.underlying203 Tryz.underlying197 tab_cell tab_cells h'.tail.tail
def cellsOf (d:DataW Unit):Array Value:=match d with
 | .agg l=>(l.map fun | .lit (.int k z)=>Value.int k z | _=>.bool false).toArray
 | _=>#[]
def relay (cs:Array Value):Obj→Obj
 | .cells _ t frozen=>.cells cs t frozen
 | o=>o
noncomputable def laidWorld (os:Os):World:=
 {World.holding Tryz.prog os ⟨#[],#[],[]⟩ with heap:=(((World.holding Tryz.prog os ⟨#[],#[],[]⟩).heap.modify 0 (relay (cellsOf Rows.laid_internal_strconv_uint64pow10))).modify 1 (relay (cellsOf Rows.laid_math_bits_deBruijn32tab))).modify 2 (relay (cellsOf Rows.laid_math_bits_deBruijn64tab))}
end Go.Proofs.YtdngbojbpmdegaaGreatDoor

namespace Go.Proofs.YtdngbojbpmdegaaGreatDoor
open Go.ChangeShapes Go.WideShapes Go.ChangeAt Go.RowKit
set_option linter.unusedVariables false
theorem opened_any (w:World) (ht:Tab w):Calls Tryz.prog 88 #[] w fun e w'=>e=.returned (.string ⟨#[111,112,101,110,59]⟩)∧Below w.heap.size w w':=by
 have h:=entry_any ⟨#[111,112,101,110]⟩ none [] 0 w (by decide) (by decide) (.inl rfl) (fun n hn=>absurd hn (by simp)) ht
 go_enter Tryz.func88,Tryz.ntmps88
 go_wp2_with (go_at_call 123;go_must (refine h.mono ?_);rintro e w1 ⟨rfl,hb⟩)
 go_ret
 exact ⟨rfl,hb⟩
end Go.Proofs.YtdngbojbpmdegaaGreatDoor

namespace Go.Proofs.YtdngbojbpmdegaaGreatDoor
open Go.RowKit
def emptyB (e:En):Bool:=e.st == 0
def creI (M:Mv):Int:=idxOf emptyB M.ens
def creF (M:Mv):Int:=if machF M=0 then (if creI M<0 then 7 else 0) else machF M
def creN (M:Mv):Int:=if creF M=0 then creI M+1 else 0
def openE:En:=⟨1,⟨#[111,112,101,110,59]⟩,0,0,0,0,0⟩
def creM (M:Mv):Mv:=if creF M=0 then {M with ens:=M.ens.set (creI M).toNat openE} else noM
theorem creI_same {M N:Mv} (h:M.Same N):creI M=creI N:=by unfold creI;rw [h.en]
theorem creF_same {M N:Mv} (h:M.Same N):creF M=creF N:=by unfold creF;rw [machF_same h,creI_same h]
theorem creN_same {M N:Mv} (h:M.Same N):creN M=creN N:=by unfold creN;rw [creF_same h,creI_same h]
theorem creM_same {M N:Mv} (h:M.Same N):(creM M).Same (creM N):=by
 unfold creM
 rw [creF_same h,creI_same h,h.en]
 split
 · exact ⟨h.len,h.fr,rfl,h.qu⟩
 · exact Mv.Same.refl _
theorem idxOf_cases {α:Type} [Inhabited α] (p:α→Bool) (xs:List α):(idxOf p xs=-1∧∀ j,j<xs.length→p (xs.getD j default)=false)∨∃ k:Nat,idxOf p xs=(k:Int)∧k<xs.length∧p (xs.getD k default)=true∧∀ j,j<k→p (xs.getD j default)=false:=by
 unfold idxOf
 cases h:xs.findIdx? p with
 | none =>
   left
   refine ⟨rfl,fun j hj=>?_⟩
   have:=List.findIdx?_eq_none_iff.1 h (xs.getD j default) (by simp [List.getD_eq_getElem?_getD,hj])
   simpa using this
 | some i =>
   right
   obtain ⟨h1,h2,h3⟩:=List.findIdx?_eq_some_iff_getElem.1 h
   refine ⟨i,rfl,h1,by simpa [List.getD_eq_getElem?_getD,h1] using h2,fun j hj=>?_⟩
   have:=h3 j hj
   have hl:j<xs.length:=by omega
   simpa [List.getD_eq_getElem?_getD,hl] using this
theorem empty_en {M:Mv} (hz:machF M=0) {k:Nat} (hk:k<M.ens.length) (h:emptyB (M.ens.getD k default)=true):M.ens.getD k default=default:=by
 have hg:=List.all_eq_true.1 (machF_all hz).1 (M.ens.getD k default) (by simp [List.getD_eq_getElem?_getD,hk])
 generalize M.ens.getD k default=E at h hg
 obtain ⟨st,lg,pc,g0,g1,g2,g3⟩:=E
 simp only [emptyB,beq_iff_eq] at h
 subst h
 simp [En.good,En.zeros] at hg
 obtain ⟨⟨_,h2⟩,h3,⟨⟨h4,h5⟩,h6⟩,h7⟩:=hg
 subst h3 h4 h5 h6 h7
 rw [h2]
 rfl
theorem create1_any (st pc g0 g1 g2 g3:Int) (lg:ByteArray) (w:World) :
 Calls Tryz.prog 127 #[.agg #[.int .i64 st,.string lg,.int .i64 pc,.int .i64 g0,.int .i64 g1,.int .i64 g2,.int .i64 g3]] w fun x w'=>x=.returned (.bool (emptyB ⟨st,lg,pc,g0,g1,g2,g3⟩))∧Below w.heap.size w w':=by
 go_enter Tryz.func127,Tryz.ntmps127
 go_wp2
 go_ret
 exact ⟨rfl,(Below.refl _ _).alloc (Nat.le_refl _) _⟩
set_option maxRecDepth 100000 in
set_option maxHeartbeats 4000000 in
theorem create_any (M:Mv) (w:World) (hM:MachAt w M) (hF:M.Fits) (ht:Tab w) :
 Calls Tryz.prog 92 #[M.val] w fun x w'=>∃ N:Mv,x=.returned (.tuple #[N.val,.int .i64 (creN M),.int .i64 (creF M)])∧N.Same (creM M)∧Owned w.heap.size w' N∧Below w.heap.size w w':=by
 have h1:=fun w' (h:Below w.heap.size w w')=>checkM_any M w' (hM.below h)
 have h2:=fun w' (h:Below w.heap.size w w')=>copyM_any M w' (hM.below h) hF
 have h3:=fun w' (h:Below w.heap.size w w')=>emp_index M.ea M.ens M.ecap emptyB w' hM.enl (hM.below h).en (fun j _ w'' _=>create1_any _ _ _ _ _ _ _ w'')
 have h4:=fun w' (h:Below w.heap.size w w')=>opened_any w' (ht.below h)
 obtain ⟨RM,hRM⟩:∃ RM,Hid (RM=creM M):=⟨_,rfl⟩
 rw [← hRM.out]
 have HMM:Hid (M=M):=rfl
 have hN0:creN M=if creF M=0 then creI M+1 else 0:=rfl
 have hF0:creF M=if machF M=0 then (if creI M<0 then 7 else 0) else machF M:=rfl
 have hI0:idxOf emptyB M.ens=creI M:=rfl
 rw [hI0] at h3
 by_cases hz:machF M=0
 · rw [if_pos hz] at hF0
   rw [hz] at h1
   rcases idxOf_cases emptyB M.ens with ⟨hi,_⟩ | ⟨m,hi,hml,hme,_⟩
   · rw [hI0] at hi
     have RN:RM=noM:=by rw [hRM.out];unfold creM;rw [hF0,hi];rfl
     rw [hF0,hi] at hN0
     rw [hi] at hF0 h3
     rw [hN0,hF0]
     subst RN
     unfold Mv.val at h1 h2 ⊢
     obtain ⟨fa,frs,fcap,ea,ens,ecap,qa,qus,qcap⟩:=M
     dsimp only at h1 h2 h3 ⊢
     have B2:∀ o1 o2,Hid (Below w.heap.size w ((w.alloc o1).alloc o2)):=fun o1 o2=>a2B _ _ _
     have HX:∀ o1 o2 w1,Hid (Below ((w.alloc o1).alloc o2).heap.size ((w.alloc o1).alloc o2) w1→Below w.heap.size w w1):=fun o1 o2 w1 h=>(B2 o1 o2).out.trans (h.mono (by simp;omega))
     have CF:Hid (_):=boxes_blk w (.slice fa frs.length fcap) (.slice ea ens.length ecap) (.slice qa qus.length qcap)
     clear hM hF hz hi hRM ht h4 hN0 hF0 hI0
     go_enter Tryz.func92,Tryz.ntmps92
     go_wp2_with (first
      | (go_at_call 28;refine (h1 _ (B2 _ _).out).mono ?_;rintro x w1 ⟨rfl,hb1⟩;obtain ⟨AB,RB⟩:=CF.out w1 hb1;have HRB:Hid (_):=RB;have HB1:Hid (Below w.heap.size w w1):=(HX _ _ _).out hb1;obtain ⟨m0,m1,m2,_,_,_,ml⟩:=box_cells AB;clear hb1 CF AB RB)
      | (go_at_call 117;refine (h3 _ HB1.out).mono ?_;rintro x w2 ⟨rfl,hb2⟩;obtain ⟨r0,r1,r2,rf0,rf1,rf2,rl⟩:=box_cells ((hb2.block _ (Array.getElem?_eq_some_iff.1 HRB.out).1).trans HRB.out);have HB2:Hid (Below w.heap.size w w2):=HB1.out.trans (hb2.mono HB1.out.size);clear hb2 m0 m1 m2)
      | fail)
     obtain ⟨k0,k1,k2⟩:=blk3 (v0:=.slice none 0 0) (v1:=.slice none 0 0) (v2:=.slice none 0 0) r0 r1 r2
     (try simp only [Exit.inBlock,Exit.then])
     refine bodyPost_ret (by simp [results,Tryz.results92,go_sem,k0,k1,k2];try rfl) rfl ?_
     exact ⟨noM,rfl,Mv.Same.refl _,noM_own _ _,blk3_below HB2.out (by omega)⟩
   · rw [hI0] at hi
     have hm4:m<4:=by have:=(machF_sizes hz).2.1;omega
     have HS4:Hid (M.ens.length=4):=(machF_sizes hz).2.1
     have HE:Hid (M.ens.getD m default=default):=empty_en hz hml hme
     have e0:creF M=0:=by rw [hF0,hi];exact if_neg (by omega)
     have eN:creN M=(m:Int)+1:=by rw [hN0,e0,if_pos rfl,hi]
     have RN:Hid (RM = {M with ens:=M.ens.set m openE}):=by
      show _=_
      rw [hRM.out];unfold creM;rw [e0,if_pos rfl,hi,Int.toNat_natCast]
     rw [hi] at h3
     rw [e0,eN]
     unfold Mv.val at h1 h2 ⊢
     obtain ⟨fa,frs,fcap,ea,ens,ecap,qa,qus,qcap⟩:=M
     dsimp only at h1 h2 h3 HS4 ⊢
     have B2:∀ o1 o2,Hid (Below w.heap.size w ((w.alloc o1).alloc o2)):=fun o1 o2=>a2B _ _ _
     have HX:∀ o1 o2 w1,Hid (Below ((w.alloc o1).alloc o2).heap.size ((w.alloc o1).alloc o2) w1→Below w.heap.size w w1):=fun o1 o2 w1 h=>(B2 o1 o2).out.trans (h.mono (by simp;omega))
     have CF:Hid (_):=boxes_blk w (.slice fa frs.length fcap) (.slice ea ens.length ecap) (.slice qa qus.length qcap)
     have HT:Hid (_):=h4
     have hge:¬ ((m:Int)<0):=by omega
     have hm4i:(m:Int)<4:=by omega
     have hwm:IntKind.i64.wrap ((m:Int)+1)=(m:Int)+1:=by rw [IntKind.wrap_i64];omega
     clear hM hF hz hi hRM ht h4 hN0 hF0 hI0 hml hme e0 eN
     go_enter Tryz.func92,Tryz.ntmps92
     go_wp2_with (first
      | (go_at_call 28;refine (h1 _ (B2 _ _).out).mono ?_;rintro x w1 ⟨rfl,hb1⟩;obtain ⟨AB,RB⟩:=CF.out w1 hb1;have HAB:Hid (_):=AB;have HRB:Hid (_):=RB;have HB1:Hid (Below w.heap.size w w1):=(HX _ _ _).out hb1;obtain ⟨m0,m1,m2,_,_,_,ml⟩:=box_cells AB;clear hb1 CF AB RB)
      | (go_at_call 117;refine (h3 _ HB1.out).mono ?_;rintro x w2 ⟨rfl,hb2⟩;have HRB2:Hid (_):=((hb2.block _ (Array.getElem?_eq_some_iff.1 HRB.out).1).trans HRB.out);clear ml m0 m1 m2;obtain ⟨m0,m1,m2,_,_,_,ml⟩:=box_cells ((hb2.block _ (Array.getElem?_eq_some_iff.1 HAB.out).1).trans HAB.out);have HB2:Hid (Below w.heap.size w w2):=HB1.out.trans (hb2.mono HB1.out.size);clear hb2 HAB HRB HB1)
      | (go_at_call 37;refine (h2 _ HB2.out).mono ?_;rintro x w3 ⟨N,rfl,hS,hO,hb3⟩;obtain ⟨nfa,nfrs,nfcap,nea,nens,necap,nqa,nqus,nqcap⟩:=N;have HSN:Hid (_):=hS;have HON:Hid (_):=hO;have HB3:Hid (_):=hb3;have eN:=hS.en;dsimp only at eN;subst eN;obtain ⟨eb,eo,hea,t0,t1,_⟩:=hO.at_.enclave (j:=m) (by dsimp only;have:=HS4.out;omega);dsimp only at hea t0 t1;subst hea;rw [HE.out] at t0 t1;have nn:=hO.ne eb eo none rfl;have ef0:w3.frozen? ⟨eb,eo+m * 7,none⟩=false:=nn.2.2 _;have ef1:w3.frozen? ⟨eb,eo+m * 7+1,none⟩=false:=nn.2.2 _;have el:eb<w3.heap.size:=nn.2.1;have HRB3:Hid (_):=((hb3.block _ (Array.getElem?_eq_some_iff.1 HRB2.out).1).trans HRB2.out);have HRL:Hid (w.heap.size+1<w2.heap.size):=(Array.getElem?_eq_some_iff.1 HRB2.out).1;rw [HS4.out];clear nn hS hO hb3 m0 m1 m2 HRB2;dsimp only)
      | fail)
     obtain ⟨W4,hW4⟩:∃ W4,Hid (W4=(w3.setCell ⟨eb,eo+m * 7,none⟩ (.int .i64 1)).alloc (.cells #[.slice nfa nfrs.length nfcap,.slice (some ⟨eb,eo,none⟩) 4 necap,.slice nqa nqus.length nqcap] 29)):=⟨_,rfl⟩
     rw [← hW4.out]
     have hok:=HON.out.at_.enok m (by dsimp only;have:=HS4.out;omega)
     dsimp only at hok
     rw [HE.out] at hok
     have HO4:Hid (Owned w2.heap.size W4 ⟨nfa,nfrs,nfcap,some ⟨eb,eo,none⟩,nens.set m {(default:En) with st:=1},necap,nqa,nqus,nqcap⟩):=by
      show Owned _ _ _
      have:=HON.out.setEn (k:=m) (i0:=0) (e':={(default:En) with st:=1}) (v:=.int .i64 1) rfl (by dsimp only;have:=HS4.out;omega) (by omega) ⟨by show (Lit.int .i64 1).wf=true;decide,hok.len,hok.wpc,hok.w0,hok.w1,hok.w2,hok.w3⟩ (fun i hi=>by
       dsimp only
       rw [HE.out]
       match i,hi with
       | 0,_=>rfl
       | 1,_=>rfl
       | 2,_=>rfl
       | 3,_=>rfl
       | 4,_=>rfl
       | 5,_=>rfl
       | 6,_=>rfl)
      dsimp only [Nat.add_zero] at this
      rw [hW4.out]
      exact this.below ((Below.refl _ _).alloc (Nat.le_refl _) _)
     have hen:=HON.out.ne eb eo none rfl
     have HB34:Hid (Below w.heap.size w W4):=by
      show Below _ _ _
      have a:=HB2.out.trans (HB3.out.mono HB2.out.size)
      have b:=(a.setCell (p:=⟨eb,eo+m * 7,none⟩) (by have:=HB2.out.size;have:=hen.1;dsimp only;omega) (.int .i64 1))
      rw [hW4.out]
      exact b.alloc (by have:=b.size;omega) _
     have hsz4:W4.heap.size=w3.heap.size+1:=by rw [hW4.out];simp [World.setCell]
     have HBX:Hid (W4.heap[w3.heap.size]? = some (.cells #[.slice nfa nfrs.length nfcap,.slice (some ⟨eb,eo,none⟩) 4 necap,.slice nqa nqus.length nqcap] 29 (0,0))):=by
      show _=_
      rw [hW4.out]
      have:=a11 (w3.setCell ⟨eb,eo+m * 7,none⟩ (.int .i64 1)) (.cells #[.slice nfa nfrs.length nfcap,.slice (some ⟨eb,eo,none⟩) 4 necap,.slice nqa nqus.length nqcap] 29)
      simpa [World.setCell] using this
     have HR4:Hid (W4.heap[w.heap.size+1]? = some (.cells #[.slice none 0 0,.slice none 0 0,.slice none 0 0] 29 (0,0))):=by
      show _=_
      rw [hW4.out,Below.heap_alloc _ _ _ (by simp [World.setCell];have:=HRL.out;have:=HB3.out.size;omega),Below.heap_setCell _ _ _ _ (show w.heap.size+1≠eb by have:=hen.1;have:=HRL.out;omega)]
      exact HRB3.out
     obtain ⟨x0,x1,x2,_,_,_,xl⟩:=box_cells HBX.out
     obtain ⟨_,_,hea',u0,u1,_⟩:=HO4.out.at_.enclave (j:=m) (by simp;have:=HS4.out;omega)
     dsimp only at hea' u0 u1
     simp only [Option.some.injEq,Addr.mk.injEq,and_true] at hea'
     obtain ⟨rfl,rfl⟩:=hea'
     have EL4:eb<W4.heap.size:=by omega
     have F4:Hid (∀ o,W4.frozen? ⟨eb,o,none⟩=false):=(HO4.out.ne eb eo none rfl).2.2
     have HSZ:Hid (W4.heap.size=w3.heap.size+1):=hsz4
     have HEN:Hid (w2.heap.size≤eb):=hen.1
     have X1:Hid (w3.heap.size<W4.heap.size):=xl
     clear hen hsz4 hW4 t0 t1 ef0 ef1 hok HRB3 HB3 HON u0 x0 x2 h1 h2 h3
     clear HX B2 HB2
     go_region_law (go_simp;go_at_call 88;refine (HT.out _ (by first | exact HB34.out | exact HB34.out.drew)).mono ?_;rintro x w5 ⟨rfl,hb5⟩;have d1:w5.cell? ⟨w3.heap.size,1,none⟩=some (.slice (some ⟨eb,eo,none⟩) 4 necap):=(hb5.cell (p:=⟨w3.heap.size,1,none⟩) X1.out).trans x1;have d2:=(hb5.cell (p:=⟨eb,eo+m * 7+1,none⟩) EL4).trans u1;have d3:w5.frozen? ⟨eb,eo+m * 7+1,none⟩=false:=(hb5.frozen (p:=⟨eb,_,none⟩) EL4).trans (F4.out _);dsimp only)
     all_goals
      have HQ5:Hid (Below W4.heap.size W4 w5):=by first | exact hb5 | exact ((Below.refl _ _).drew).trans hb5
      have HB5:Hid (Below w.heap.size w w5):=HB34.out.trans (HQ5.out.mono HB34.out.size)
      obtain ⟨W6,hW6⟩:∃ W6,Hid (W6=w5.setCell ⟨eb,eo+m * 7+1,none⟩ (.string ⟨#[111,112,101,110,59]⟩)):=⟨_,rfl⟩
      rw [← hW6.out]
      have HO6:Hid (Owned w2.heap.size W6 ⟨nfa,nfrs,nfcap,some ⟨eb,eo,none⟩,nens.set m openE,necap,nqa,nqus,nqcap⟩):=by
       show Owned _ _ _
       have h5:=HO4.out.below HQ5.out
       have hlm:m<(nens.set m {(default:En) with st:=1}).length:=by simp;have:=HS4.out;omega
       have hgd:(nens.set m {(default:En) with st:=1}).getD m default = {(default:En) with st:=1}:=by rw [getD_set _ _ _ _ (by have:=HS4.out;omega),if_pos rfl]
       have z:(Lit.int .i64 0).wf=true:=by decide
       have:=h5.setEn (k:=m) (i0:=1) (e':=openE) (v:=.string ⟨#[111,112,101,110,59]⟩) rfl hlm (by omega) ⟨by show (Lit.int .i64 1).wf=true;decide,by show (5:Nat)≤maxLen;unfold maxLen;omega,z,z,z,z,z⟩ (fun i hi=>by
        dsimp only
        rw [hgd]
        match i,hi with
        | 0,_=>rfl
        | 1,_=>rfl
        | 2,_=>rfl
        | 3,_=>rfl
        | 4,_=>rfl
        | 5,_=>rfl
        | 6,_=>rfl)
       dsimp only at this
       rw [List.set_set] at this
       rw [hW6.out]
       exact this
      have HB6:Hid (Below w.heap.size w W6):=by
       show Below _ _ _
       rw [hW6.out]
       exact HB5.out.setCell (by have:=HEN.out;have:=HRL.out;dsimp only;omega) _
      have hs6:∀ b,b≠eb→W6.heap[b]? = w5.heap[b]?:=fun b hb=>by rw [hW6.out,Below.heap_setCell _ _ _ _ hb]
      have HBX6:Hid (_):=(hs6 w3.heap.size (by omega)).trans ((HQ5.out.block _ X1.out).trans HBX.out)
      have HR6:Hid (_):=(hs6 (w.heap.size+1) (by have:=HEN.out;have:=HRL.out;omega)).trans ((HQ5.out.block _ (Array.getElem?_eq_some_iff.1 HR4.out).1).trans HR4.out)
      obtain ⟨y0,y1,y2,_,_,_,yl⟩:=box_cells HBX6.out
      obtain ⟨r0,r1,r2,rf0,rf1,rf2,rl⟩:=box_cells HR6.out
      clear hb5 d1 d2 d3 x1 u1 HO4 HBX HR4 HT F4 hs6
      go_wp2
      obtain ⟨k0,k1,k2⟩:=blk3 (v0:=.slice nfa nfrs.length nfcap) (v1:=.slice (some ⟨eb,eo,none⟩) 4 necap) (v2:=.slice nqa nqus.length nqcap) r0 r1 r2
      (try simp only [Exit.inBlock,Exit.then])
      refine bodyPost_ret (by simp [results,Tryz.results92,go_sem,k0,k1,k2];try rfl) rfl ?_
      exact ⟨⟨nfa,nfrs,nfcap,some ⟨eb,eo,none⟩,nens.set m openE,necap,nqa,nqus,nqcap⟩,by simp [HS4.out],by rw [RN.out];exact ⟨HSN.out.len,HSN.out.fr,rfl,HSN.out.qu⟩,(HO6.out.keep (fun b hb _=>blk3_heap b (by have:=HRL.out;omega)) (by rw [blk3_size];exact Nat.le_refl _)).mono (by first | exact HB1.out.size | (have:=HRL.out;omega) | omega),blk3_below HB6.out (by omega)⟩
 · have hz1:(machF M != 0)=true:=by simpa using hz
   rw [if_neg hz] at hF0
   have RN:RM=noM:=by rw [hRM.out];unfold creM;rw [hF0,if_neg hz]
   rw [hF0,if_neg hz] at hN0
   rw [hN0,hF0]
   subst RN
   unfold Mv.val at h1 h2 ⊢
   obtain ⟨fa,frs,fcap,ea,ens,ecap,qa,qus,qcap⟩:=M
   dsimp only at h1 h2 h3 ⊢
   have B2:∀ o1 o2,Hid (Below w.heap.size w ((w.alloc o1).alloc o2)):=fun o1 o2=>a2B _ _ _
   have HX:∀ o1 o2 w1,Hid (Below ((w.alloc o1).alloc o2).heap.size ((w.alloc o1).alloc o2) w1→Below w.heap.size w w1):=fun o1 o2 w1 h=>(B2 o1 o2).out.trans (h.mono (by simp;omega))
   have CF:Hid (_):=boxes_blk w (.slice fa frs.length fcap) (.slice ea ens.length ecap) (.slice qa qus.length qcap)
   clear hM hF hz hRM ht h4 hN0 hF0 hI0
   generalize machF _=z at h1 hz1 ⊢
   go_enter Tryz.func92,Tryz.ntmps92
   go_wp2_with (first
    | (go_at_call 28;refine (h1 _ (B2 _ _).out).mono ?_;rintro x w1 ⟨rfl,hb1⟩;obtain ⟨AB,RB⟩:=CF.out w1 hb1;have HB1:Hid (Below w.heap.size w w1):=(HX _ _ _).out hb1;obtain ⟨r0,r1,r2,rf0,rf1,rf2,rl⟩:=box_cells RB;clear hb1 CF AB RB)
    | fail)
   obtain ⟨k0,k1,k2⟩:=blk3 (v0:=.slice none 0 0) (v1:=.slice none 0 0) (v2:=.slice none 0 0) r0 r1 r2
   (try simp only [Exit.inBlock,Exit.then])
   refine bodyPost_ret (by simp [results,Tryz.results92,go_sem,k0,k1,k2];try rfl) rfl ?_
   exact ⟨noM,rfl,Mv.Same.refl _,noM_own _ _,blk3_below HB1.out (by omega)⟩
end Go.Proofs.YtdngbojbpmdegaaGreatDoor
