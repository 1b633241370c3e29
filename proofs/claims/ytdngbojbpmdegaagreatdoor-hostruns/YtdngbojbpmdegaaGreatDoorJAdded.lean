import Derived.Test.YtdngbojbpmdegaaGreatDoorJOpenCells
import Derived.Deep.RegionHeld3
import Derived.Test.YtdngbojbpmdegaaGreatDoorJCreate
import Derived.Laws.BytesString
import Derived.Laws.BytesArg
import Derived.Laws.Concat
import Derived.Outline
namespace Go.Proofs.YtdngbojbpmdegaaGreatDoor
section
variable {P:Program} {ops:Array Oper} {Q:Exit→Act→World→Prop} {md:Region.Mode} {S:World→Prop} {A:List Nat}
def wpTill (P:Program) (md:Region.Mode) (ops:Array Oper) (Q:Exit→Act→World→Prop) (S:World→Prop) (A:List Nat):Nat→Array Bool→Act→World→Prop
 | 0,seen,a,w=>Region.ready md ops seen = []∧Q .normal a w
 | n+1,seen,a,w=>(Region.ready md ops seen = []→Q .normal a w)∧∀ i ∈ Region.ready md ops seen,wpOp P ops Q i (fun a' w'=>(A.contains i=true→S w→S w')∧wpTill P md ops Q S A n (seen.setIfInBounds i true) a' w') a w
theorem any_of_till:∀ (n:Nat) (seen:Array Bool) (a:Act) (w:World),wpTill P md ops Q S A n seen a w→wpAny P md ops Q n seen a w
 | 0,_,_,_,h=>h
 | n+1,_,_,_,h=>⟨h.1,fun i hi=>wpOp_mono (fun a' w' g=>any_of_till n _ a' w' g.2) (h.2 i hi)⟩
theorem till_of_any:∀ (n:Nat) (seen:Array Bool) (a:Act) (w:World),(∀ k,A.contains k=true→seen.getD k true=true)→wpAny P md ops Q n seen a w→wpTill P md ops Q S A n seen a w
 | 0,_,_,_,_,h=>h
 | n+1,seen,_,_,hA,h=>⟨h.1,fun i hi=>wpOp_mono (fun a' w' g=>⟨fun hc _=>(by have h1:=hA i hc;have h2:=(mem_ready.1 hi).1;rw [h1] at h2;cases h2),till_of_any n _ a' w' (fun k hk=>(by
    by_cases e:i=k
    · subst e
      rcases Nat.lt_or_ge i seen.size with q | q
      · simp [q]
      · simp [q]
    · rw [getD_set_ne true e];exact hA k hk)) g⟩) (h.2 i hi)⟩
def Shut9 (md:Region.Mode) (ops:Array Oper) (seen:Array Bool):Prop:=∀ j o,ops[j]? = some o→seen.getD j false=true→∀ e ∈ o.after,Region.binds md e=true→seen.getD e.on false=true
def shutB (md:Region.Mode) (ops:Array Oper) (seen:Array Bool):Bool:=(List.range ops.size).all fun j=>!(seen.getD j false) || ((ops[j]?).map (fun o=>o.after.all fun e=>!Region.binds md e || seen.getD e.on false)).getD true
theorem shut_of {seen:Array Bool} (h:shutB md ops seen=true):Shut9 md ops seen:=fun j o ho hj e he hb=>by
 unfold shutB at h
 rw [List.all_eq_true] at h
 have h1:=h j (List.mem_range.2 (Array.getElem?_eq_some_iff.1 ho).1)
 rw [hj,ho] at h1
 simp only [Bool.not_true,Bool.false_or,Option.map_some,Option.getD_some,Array.all_eq_true_iff_forall_mem,Bool.or_eq_true] at h1
 exact (h1 e he).resolve_left (by simp [hb])
theorem Shut9.more {seen:Array Bool} (h:Shut9 md ops seen) {j:Nat} (hj:j ∈ Region.ready md ops seen):Shut9 md ops (seen.setIfInBounds j true):=fun k o ho hk e he hb=>by
 by_cases q:j=k
 · subst q
   obtain ⟨_,o',ho',hall⟩:=mem_ready.1 hj
   rw [ho] at ho'
   cases ho'
   exact getD_set_true (hall e he hb)
 · rw [getD_set_ne false q] at hk
   exact getD_set_true (h k o ho hk e he hb)
def waitsB (md:Region.Mode) (ops:Array Oper):Nat→Nat→Nat→Bool
 | 0,_,_=>false
 | n+1,j,i=>((ops[j]?).map (fun o=>o.after.any fun e=>Region.binds md e && (e.on == i || waitsB md ops n e.on i))).getD false
theorem waits_seen {seen:Array Bool} (hc:Shut9 md ops seen) (i:Nat):∀ (n j:Nat) (o:Oper),ops[j]? = some o→(∀ e ∈ o.after,Region.binds md e=true→seen.getD e.on false=true)→waitsB md ops n j i=true→seen.getD i false=true
 | 0,_,_,_,_,h=>by cases h
 | n+1,j,o,ho,hall,h=>by
   unfold waitsB at h
   rw [ho] at h
   simp only [Option.map_some,Option.getD_some,Array.any_eq_true',Bool.and_eq_true,Bool.or_eq_true,beq_iff_eq] at h
   obtain ⟨e,he,hb,h | h⟩:=h
   · rw [← h];exact hall e he hb
   · have hl:=hall e he hb
     match n,h with
     | 0,h=>cases h
     | n+1,h =>
       have h':=h
       unfold waitsB at h
       cases ho' : ops[e.on]? with
       | none=>rw [ho'] at h;cases h
       | some o'=>exact waits_seen hc i (n+1) e.on o' ho' (hc e.on o' ho' hl) h'
theorem till_first {i N:Nat} {oi:Oper} {v:Value} (hi:ops[i]? = some oi) (hsel:∀ (j:Nat) (o:Oper) cs b,ops[j]? = some o→o.op≠.select cs b) (hQ:∀ c a w,Q (.panic c) (a.put oi.dst v) w→Q (.panic c) a w)
 (hB:∀ j,j<ops.size→A.contains j=true∨waitsB md ops N j i=true) :
 ∀ (n:Nat) (seen:Array Bool) (a:Act) (w:World),Shut9 md ops seen→(∀ j oj,ops[j]? = some oj→j≠i→seen.getD j true=false→(∀ e ∈ oj.after,Region.binds md e=true→e.on≠i)→oi.apart ops oj=true)→
   i ∈ Region.ready md ops seen→YieldsIf P ops S oi v a→S w→wpTill P md ops Q S A n (seen.setIfInBounds i true) (a.put oi.dst v) w→wpTill P md ops Q S A (n+1) seen a w:=by
 intro n
 have no:∀ {seen:Array Bool},i ∈ Region.ready md ops seen→seen.getD i false=true→False:=fun hr ht=>by
  rename_i seen
  have h0:=(mem_ready.1 hr).1
  rcases Nat.lt_or_ge i seen.size with q | q
  · simp [q] at h0 ht;rw [h0] at ht;cases ht
  · simp [Array.getElem?_eq_none q] at ht
 induction n with
 | zero =>
   intro seen a w _ _ hr hy hS H
   refine ⟨fun h=>(by rw [h] at hr;cases hr),fun j hj=>?_⟩
   by_cases e:j=i
   · subst e;exact hy.wpOp hi hS ⟨fun _ h=>h,H⟩
   · have g:=ready_mono hj e
     rw [H.1] at g
     cases g
 | succ n ih =>
   intro seen a w hc hfree hr hy hS H
   refine ⟨fun h=>(by rw [h] at hr;cases hr),fun j hj=>?_⟩
   by_cases e:j=i
   · subst e;exact hy.wpOp hi hS ⟨fun _ h=>h,H⟩
   · obtain ⟨hun,oj,hoj,hall⟩:=mem_ready.1 hj
     have hA:A.contains j=true:=(hB j (Array.getElem?_eq_some_iff.1 hoj).1).resolve_right fun hw=>no hr (waits_seen hc i N j oj hoj hall hw)
     have hnot:∀ x ∈ oj.after,Region.binds md x=true→x.on≠i:=fun x hx hb q=>no hr (by rw [← q];exact hall x hx hb)
     have h2:=wpOp_putIf hoj (hfree j oj hoj e hun hnot) (fun cs b=>hsel i oi cs b hi) (fun cs b=>hsel j oj cs b hoj) hQ hy (H.2 j (ready_mono hj e))
     refine wpOp_mono (fun a' w' g=>⟨g.2.1,ih (seen.setIfInBounds j true) a' w' (hc.more hj) (fun k ok hk hki hu hno=>hfree k ok hk hki ?_ hno) (ready_mono hr (Ne.symm e)) g.1 (g.2.1 hA hS) ?_⟩) h2
     · by_cases q:j=k
       · subst q;exact hun
       · rw [getD_set_ne true q] at hu;exact hu
     · rw [Array.setIfInBounds_comm _ _ e]
       exact g.2.2
theorem till_take {i:Nat} {oi:Oper} {v:Value} {n:Nat} {seen:Array Bool} {a:Act} {w:World} (hi:ops[i]? = some oi) (hs:Region.noSelect ops=true) (hf:Region.free md ops seen i=true) (hr:(Region.ready md ops seen).contains i=true)
 (hc:shutB md ops seen=true) (hB:(List.range ops.size).all (fun j=>A.contains j || waitsB md ops ops.size j i)=true) (hQ:∀ c a w,Q (.panic c) (a.put oi.dst v) w→Q (.panic c) a w) (hy:YieldsIf P ops S oi v a) (hS:S w)
 (h:wpTill P md ops Q S A n (seen.setIfInBounds i true) (a.put oi.dst v) w):wpTill P md ops Q S A (n+1) seen a w:=
 till_first (N:=ops.size) hi (Region.noSelect_spec hs) hQ (fun j hj=>by
  rw [List.all_eq_true] at hB
  have:=hB j (List.mem_range.2 hj)
  simpa [Bool.or_eq_true] using this) n seen a w (shut_of hc) (Region.free_spec hi hf) (by simpa using hr) hy hS h
theorem till_rest {n:Nat} {seen:Array Bool} {a:Act} {w:World} (hA:A.all (fun k=>seen.getD k true)=true) (h:wpAny P md ops Q n seen a w):wpTill P md ops Q S A n seen a w:=
 till_of_any n seen a w (fun k hk=>by
  rw [List.all_eq_true] at hA
  exact hA k (by simpa using hk)) h
theorem wp_region_till {id:Nat} {a:Act} {w:World} (A:List Nat) (S:World→Prop) (hm:P.follows .mixedOrders=true) (hS:S w.drew) (h:S w.drew→wpTill P .any ops Q S A ops.size (Array.replicate ops.size false) a w.drew):(Code.region id ops true).wp P Q a w:=
 wp_region_any hm (any_of_till _ _ _ _ (h hS))
theorem till_takeL {l:List Oper} {i:Nat} {oi:Oper} {v:Value} {n:Nat} {seen:Array Bool} {a:Act} {w:World} (hi:l[i]? = some oi) (hs:Region.noSelect l.toArray=true) (hf:Region.free md l.toArray seen i=true) (hr:(Region.ready md l.toArray seen).contains i=true)
 (hc:shutB md l.toArray seen=true) (hB:(List.range l.toArray.size).all (fun j=>A.contains j || waitsB md l.toArray l.toArray.size j i)=true) (hQ:∀ c a w,Q (.panic c) (a.put oi.dst v) w→Q (.panic c) a w) (hy:YieldsIf P l.toArray S oi v a) (hS:S w)
 (h:wpTill P md l.toArray Q S A n (seen.setIfInBounds i true) (a.put oi.dst v) w):wpTill P md l.toArray Q S A (n+1) seen a w:=
 till_take (by rw [List.getElem?_toArray];exact hi) hs hf hr hc hB hQ hy hS h
theorem till_any {i:Nat} {oi:Oper} {v:Value} (hi:ops[i]? = some oi) (hsel:∀ (j:Nat) (o:Oper) cs b,ops[j]? = some o→o.op≠.select cs b) (hQ:∀ c a w,Q (.panic c) (a.put oi.dst v) w→Q (.panic c) a w) :
 ∀ (n:Nat) (seen:Array Bool) (a:Act) (w:World),(∀ j oj,ops[j]? = some oj→j≠i→seen.getD j true=false→(∀ e ∈ oj.after,Region.binds md e=true→e.on≠i)→oi.apart ops oj=true)→
   i ∈ Region.ready md ops seen→Yields P ops oi v a→wpTill P md ops Q S A n (seen.setIfInBounds i true) (a.put oi.dst v) w→wpTill P md ops Q S A (n+1) seen a w:=by
 intro n
 have no:∀ {seen:Array Bool},i ∈ Region.ready md ops seen→seen.getD i false=true→False:=fun hr ht=>by
  rename_i seen
  have h0:=(mem_ready.1 hr).1
  rcases Nat.lt_or_ge i seen.size with q | q
  · simp [q] at h0 ht;rw [h0] at ht;cases ht
  · simp [Array.getElem?_eq_none q] at ht
 induction n with
 | zero =>
   intro seen a w _ hr hy H
   refine ⟨fun h=>(by rw [h] at hr;cases hr),fun j hj=>?_⟩
   by_cases e:j=i
   · subst e;exact hy.wpOp hi ⟨fun _ h=>h,H⟩
   · have g:=ready_mono hj e
     rw [H.1] at g
     cases g
 | succ n ih =>
   intro seen a w hfree hr hy H
   refine ⟨fun h=>(by rw [h] at hr;cases hr),fun j hj=>?_⟩
   by_cases e:j=i
   · subst e;exact hy.wpOp hi ⟨fun _ h=>h,H⟩
   · obtain ⟨hun,oj,hoj,hall⟩:=mem_ready.1 hj
     have hnot:∀ x ∈ oj.after,Region.binds md x=true→x.on≠i:=fun x hx hb q=>no hr (by rw [← q];exact hall x hx hb)
     have h2:=wpOp_put hoj (hfree j oj hoj e hun hnot) (fun cs b=>hsel i oi cs b hi) (fun cs b=>hsel j oj cs b hoj) hQ hy (H.2 j (ready_mono hj e))
     refine wpOp_mono (fun a' w' g=>⟨g.2.1,ih (seen.setIfInBounds j true) a' w' (fun k ok hk hki hu hno=>hfree k ok hk hki ?_ hno) (ready_mono hr (Ne.symm e)) g.1 ?_⟩) h2
     · by_cases q:j=k
       · subst q;exact hun
       · rw [getD_set_ne true q] at hu;exact hu
     · rw [Array.setIfInBounds_comm _ _ e]
       exact g.2.2
theorem till_anyL {l:List Oper} {i:Nat} {oi:Oper} {v:Value} {n:Nat} {seen:Array Bool} {a:Act} {w:World} (hi:l[i]? = some oi) (hs:Region.noSelect l.toArray=true) (hf:Region.free md l.toArray seen i=true) (hr:(Region.ready md l.toArray seen).contains i=true)
 (hQ:∀ c a w,Q (.panic c) (a.put oi.dst v) w→Q (.panic c) a w) (hy:Yields P l.toArray oi v a) (h:wpTill P md l.toArray Q S A n (seen.setIfInBounds i true) (a.put oi.dst v) w):wpTill P md l.toArray Q S A (n+1) seen a w:=
 have hi' : l.toArray[i]? = some oi:=by rw [List.getElem?_toArray];exact hi
 till_any hi' (Region.noSelect_spec hs) hQ n seen a w (Region.free_spec hi' hf) (by simpa using hr) hy h
theorem any_takeL {l:List Oper} {i:Nat} {oi:Oper} {v:Value} {n:Nat} {seen:Array Bool} {a:Act} {w:World} (hi:l[i]? = some oi) (hs:Region.noSelect l.toArray=true) (hf:Region.free md l.toArray seen i=true) (hr:(Region.ready md l.toArray seen).contains i=true)
 (hQ:∀ c a w,Q (.panic c) (a.put oi.dst v) w→Q (.panic c) a w) (hy:Yields P l.toArray oi v a) (h:wpAny P md l.toArray Q n (seen.setIfInBounds i true) (a.put oi.dst v) w):wpAny P md l.toArray Q (n+1) seen a w:=
 wpAny_take (by rw [List.getElem?_toArray];exact hi) hs hf hr hQ hy h
theorem any_oneL {l:List Oper} {i:Nat} {oi:Oper} {n:Nat} {seen:Array Bool} {a:Act} {w:World} (hi:l[i]? = some oi) (hr:Region.ready md l.toArray seen = [i])
 (h:∀ K' : Act→World→Prop,(∀ a w,wpAny P md l.toArray Q n (seen.setIfInBounds i true) a w→K' a w)→if Region.wanted oi (yielded l.toArray a.tmps)=true then Oper.wp P oi a w K' Q else K' (a.put oi.dst undef) w):wpAny P md l.toArray Q (n+1) seen a w:=
 wpAny_ready hr (by simp) (AllReady.cons (by rw [List.getElem?_toArray];exact hi) h AllReady.nil)
def upTo (N k:Nat):Array Bool:=((List.range N).map (fun i=>decide (i<k))).toArray
theorem upTo_zero (N:Nat):Array.replicate N false=upTo N 0:=by
 apply Array.ext
 · simp [upTo]
 · intro i h1 h2;simp [upTo]
theorem upTo_next (N k:Nat):(upTo N k).setIfInBounds k true=upTo N (k+1):=by
 unfold upTo
 rw [List.setIfInBounds_toArray]
 congr 1
 apply List.ext_getElem
 · simp
 · intro i h1 h2
   rw [List.getElem_set]
   simp only [List.getElem_map,List.getElem_range]
   by_cases e:k=i
   · subst e;simp
   · rw [if_neg e,decide_eq_decide];omega
theorem wp_region_upTo {id:Nat} {a:Act} {w:World} (A:List Nat) (S:World→Prop) (hm:P.follows .mixedOrders=true) (hS:S w.drew) (h:S w.drew→wpTill P .any ops Q S A ops.size (upTo ops.size 0) a w.drew):(Code.region id ops true).wp P Q a w:=
 wp_region_till A S hm hS (fun q=>by rw [upTo_zero];exact h q)
def tillB (md:Region.Mode) (l:List Oper) (A:List Nat) (N k:Nat):Bool:=Region.noSelect l.toArray && Region.free md l.toArray (upTo N k) k && (Region.ready md l.toArray (upTo N k)).contains k && shutB md l.toArray (upTo N k) && (List.range l.toArray.size).all (fun j=>A.contains j || waitsB md l.toArray l.toArray.size j k)
def anyB (md:Region.Mode) (l:List Oper) (N k:Nat):Bool:=Region.noSelect l.toArray && Region.free md l.toArray (upTo N k) k && (Region.ready md l.toArray (upTo N k)).contains k
theorem till_takeN {l:List Oper} {N k:Nat} {oi:Oper} {v:Value} {n:Nat} {a:Act} {w:World} (hi:l[k]? = some oi) (hb:tillB md l A N k=true) (hQ:∀ c a w,Q (.panic c) (a.put oi.dst v) w→Q (.panic c) a w) (hy:YieldsIf P l.toArray S oi v a) (hS:S w)
 (h:wpTill P md l.toArray Q S A n (upTo N (k+1)) (a.put oi.dst v) w):wpTill P md l.toArray Q S A (n+1) (upTo N k) a w:=by
 unfold tillB at hb
 simp only [Bool.and_eq_true] at hb
 obtain ⟨⟨⟨⟨h1,h2⟩,h3⟩,h4⟩,h5⟩:=hb
 exact till_takeL hi h1 h2 h3 h4 h5 hQ hy hS (by rw [upTo_next];exact h)
theorem till_anyN {l:List Oper} {N k:Nat} {oi:Oper} {v:Value} {n:Nat} {a:Act} {w:World} (hi:l[k]? = some oi) (hb:anyB md l N k=true) (hQ:∀ c a w,Q (.panic c) (a.put oi.dst v) w→Q (.panic c) a w) (hy:Yields P l.toArray oi v a)
 (h:wpTill P md l.toArray Q S A n (upTo N (k+1)) (a.put oi.dst v) w):wpTill P md l.toArray Q S A (n+1) (upTo N k) a w:=by
 unfold anyB at hb
 simp only [Bool.and_eq_true] at hb
 exact till_anyL hi hb.1.1 hb.1.2 hb.2 hQ hy (by rw [upTo_next];exact h)
theorem any_takeN {l:List Oper} {N k:Nat} {oi:Oper} {v:Value} {n:Nat} {a:Act} {w:World} (hi:l[k]? = some oi) (hb:anyB md l N k=true) (hQ:∀ c a w,Q (.panic c) (a.put oi.dst v) w→Q (.panic c) a w) (hy:Yields P l.toArray oi v a)
 (h:wpAny P md l.toArray Q n (upTo N (k+1)) (a.put oi.dst v) w):wpAny P md l.toArray Q (n+1) (upTo N k) a w:=by
 unfold anyB at hb
 simp only [Bool.and_eq_true] at hb
 exact any_takeL hi hb.1.1 hb.1.2 hb.2 hQ hy (by rw [upTo_next];exact h)
theorem any_oneN {l:List Oper} {N k:Nat} {oi:Oper} {n:Nat} {a:Act} {w:World} (hi:l[k]? = some oi) (hr:Region.ready md l.toArray (upTo N k) = [k])
 (h:∀ K' : Act→World→Prop,(∀ a w,wpAny P md l.toArray Q n (upTo N (k+1)) a w→K' a w)→if Region.wanted oi (yielded l.toArray a.tmps)=true then Oper.wp P oi a w K' Q else K' (a.put oi.dst undef) w):wpAny P md l.toArray Q (n+1) (upTo N k) a w:=
 any_oneL hi hr (fun K hK=>h K (fun a w q=>hK a w (by rw [upTo_next];exact q)))
end
end Go.Proofs.YtdngbojbpmdegaaGreatDoor

namespace Go.Proofs.YtdngbojbpmdegaaGreatDoor
open Go.RowKit
def logF (M:Mv) (m:Nat) (s:ByteArray):Int:=if (M.ens.getD m default).log.size+s.size > 1000 then 7 else 0
def logM (M:Mv) (m:Nat) (s:ByteArray):Mv:=if logF M m s=0 then {M with ens:=M.ens.set m ((M.ens.getD m default).withLog s)} else noM
theorem lg_at {M:Mv} {w:World} (hM:MachAt w M) (hz:machF M=0) {m:Nat} (hm:m<4) :
 ∃ eb eo,M.ea=some ⟨eb,eo,none⟩∧(M.ens.getD m default).log.size≤1000∧∀ w1,Below w.heap.size w w1→w1.cell? ⟨eb,eo+m * 7+1,none⟩=some (.string (M.ens.getD m default).log):=by
 have hs:=(machF_sizes hz).2.1
 obtain ⟨eb,eo,e,_,c1,_⟩:=hM.enclave (j:=m) (by omega)
 have hg:=List.all_eq_true.1 (machF_all hz).1 (M.ens.getD m default) (by have:m<M.ens.length:=by omega
                                                                         simp [List.getD_eq_getElem?_getD,this])
 refine ⟨eb,eo,e,?_,fun w1 hb=>(hb.cell (p:=⟨eb,_,none⟩) (lt_of_cell c1)).trans c1⟩
 simp only [En.good,Bool.and_eq_true,decide_eq_true_eq] at hg
 exact hg.1.1.2
set_option maxRecDepth 100000 in
set_option maxHeartbeats 4000000 in
theorem logged_any (M:Mv) (m:Nat) (s:ByteArray) (w:World) (hM:MachAt w M) (hF:M.Fits) (hz:machF M=0) (hm4:m<4) (hs:s.size≤1000000) :
 Calls Tryz.prog 130 #[M.val,.int .i64 ((m:Int)+1),.string s] w fun x w'=>∃ N:Mv,x=.returned (.tuple #[N.val,.int .i64 (logF M m s)])∧N.Same (logM M m s)∧Owned w.heap.size w' N∧Below w.heap.size w w':=by
 have h2:=fun w' (h:Below w.heap.size w w')=>copyM_any M w' (hM.below h) hF
 obtain ⟨eb,eo,hea,hl1,hlg⟩:=lg_at hM hz hm4
 have HS4:Hid (M.ens.length=4):=(machF_sizes hz).2.1
 have hwm:IntKind.i64.wrap ((m:Int)+1 - 1)=(m:Int):=by rw [IntKind.wrap_i64];omega
 have hm4i:(m:Int)<4:=by omega
 have hL:logM M m s=if logF M m s=0 then {M with ens:=M.ens.set m ((M.ens.getD m default).withLog s)} else noM:=rfl
 have hE:logF M m s=if (M.ens.getD m default).log.size+s.size > 1000 then 7 else 0:=rfl
 obtain ⟨E,hEE⟩:∃ E,Hid (M.ens.getD m default=E):=⟨_,rfl⟩
 rw [hEE.out] at hl1 hlg hE hL
 obtain ⟨lg,HLG⟩:∃ lg,Hid (E.log=lg):=⟨_,rfl⟩
 rw [HLG.out] at hl1 hlg hE
 have hw:IntKind.i64.wrap ((lg.size:Int)+(s.size:Int))=(lg.size:Int)+(s.size:Int):=by rw [IntKind.wrap_i64];omega
 by_cases hc:lg.size+s.size > 1000
 · rw [if_pos hc] at hE
   rw [hE] at hL
   rw [hL,hE,if_neg (by decide)]
   have hc' : (1000:Int)<(lg.size:Int)+(s.size:Int):=by omega
   clear hL hE hc HLG hEE
   unfold Mv.val at h2 ⊢
   obtain ⟨fa,frs,fcap,ea,ens,ecap,qa,qus,qcap⟩:=M
   dsimp only at *
   have B2:∀ o1 o2,Hid (Below w.heap.size w ((w.alloc o1).alloc o2)):=fun o1 o2=>a2B _ _ _
   have HX:∀ o1 o2 w1,Hid (Below ((w.alloc o1).alloc o2).heap.size ((w.alloc o1).alloc o2) w1→Below w.heap.size w w1):=fun o1 o2 w1 h=>(B2 o1 o2).out.trans (h.mono (by simp;omega))
   have CF:Hid (_):=boxes_blk w (.slice fa frs.length fcap) (.slice ea ens.length ecap) (.slice qa qus.length qcap)
   subst hea
   rw [HS4.out] at h2 CF ⊢
   clear hM hF hz
   obtain ⟨W2,hW2⟩:∃ W2,Hid (W2=(w.alloc (.cells #[.slice fa frs.length fcap,.slice (some ⟨eb,eo,none⟩) 4 ecap,.slice qa qus.length qcap] 29)).alloc (.cells #[.slice none 0 0,.slice none 0 0,.slice none 0 0] 29)):=⟨_,rfl⟩
   have l0:=hlg W2 (by rw [hW2.out];exact (B2 _ _).out)
   rw [← hW2.out] at CF
   obtain ⟨AB,RB⟩:=CF.out W2 (Below.refl _ _)
   have HB1:Hid (Below w.heap.size w W2):=by show Below _ _ _;rw [hW2.out];exact (B2 _ _).out
   obtain ⟨m0,m1,m2,_,_,_,ml⟩:=box_cells AB
   obtain ⟨r0,r1,r2,rf0,rf1,rf2,rl⟩:=box_cells RB
   clear AB RB CF HX B2 hlg h2
   go_enter Tryz.func130,Tryz.ntmps130
   go_upto_region 1 with fail
   rw [← hW2.out]
   clear hW2
   go_wp2
   obtain ⟨k0,k1,k2⟩:=blk3 (v0:=.slice none 0 0) (v1:=.slice none 0 0) (v2:=.slice none 0 0) r0 r1 r2
   (try simp only [Exit.inBlock,Exit.then])
   refine bodyPost_ret (by simp [results,Tryz.results130,go_sem,k0,k1,k2];try rfl) rfl ?_
   exact ⟨noM,rfl,Mv.Same.refl _,noM_own _ _,blk3_below HB1.out (by omega)⟩
 · rw [if_neg hc] at hE
   rw [hE,if_pos rfl] at hL
   rw [hL,hE]
   have hc' : ¬ ((1000:Int)<(lg.size:Int)+(s.size:Int)):=by omega
   clear hL hE
   unfold Mv.val at h2 ⊢
   obtain ⟨fa,frs,fcap,ea,ens,ecap,qa,qus,qcap⟩:=M
   dsimp only at *
   have B2:∀ o1 o2,Hid (Below w.heap.size w ((w.alloc o1).alloc o2)):=fun o1 o2=>a2B _ _ _
   have HX:∀ o1 o2 w1,Hid (Below ((w.alloc o1).alloc o2).heap.size ((w.alloc o1).alloc o2) w1→Below w.heap.size w w1):=fun o1 o2 w1 h=>(B2 o1 o2).out.trans (h.mono (by simp;omega))
   have CF:Hid (_):=boxes_blk w (.slice fa frs.length fcap) (.slice ea ens.length ecap) (.slice qa qus.length qcap)
   subst hea
   rw [HS4.out] at h2 CF ⊢
   clear hM hF hz
   obtain ⟨W2,hW2⟩:∃ W2,Hid (W2=(w.alloc (.cells #[.slice fa frs.length fcap,.slice (some ⟨eb,eo,none⟩) 4 ecap,.slice qa qus.length qcap] 29)).alloc (.cells #[.slice none 0 0,.slice none 0 0,.slice none 0 0] 29)):=⟨_,rfl⟩
   have l0:=hlg W2 (by rw [hW2.out];exact (B2 _ _).out)
   rw [← hW2.out] at CF
   obtain ⟨AB,RB⟩:=CF.out W2 (Below.refl _ _)
   have HB1:Hid (Below w.heap.size w W2):=by show Below _ _ _;rw [hW2.out];exact (B2 _ _).out
   obtain ⟨m0,m1,m2,_,_,_,ml⟩:=box_cells AB
   have HRB:Hid (_):=RB
   have HRL:Hid (w.heap.size+1<W2.heap.size):=(Array.getElem?_eq_some_iff.1 RB).1
   clear AB RB CF HX B2 hlg
   go_enter Tryz.func130,Tryz.ntmps130
   go_upto_region 1 with fail
   rw [← hW2.out]
   clear hW2
   go_upto_region 5 with (first
    | (go_at_call 37;refine (h2 _ HB1.out).mono ?_;rintro x w3 ⟨N,rfl,hS,hO,hb3⟩;obtain ⟨nfa,nfrs,nfcap,nea,nens,necap,nqa,nqus,nqcap⟩:=N;have HSN:Hid (_):=hS;have HON:Hid (_):=hO;have HB3:Hid (_):=hb3;have eN:=hS.en;dsimp only at eN;subst eN;obtain ⟨xb,xo,hxa,_,t1,_⟩:=hO.at_.enclave (j:=m) (by dsimp only;have:=HS4.out;omega);dsimp only at hxa t1;subst hxa;rw [hEE.out,HLG.out] at t1;have nn:=hO.ne xb xo none rfl;have ef1:w3.frozen? ⟨xb,xo+m * 7+1,none⟩=false:=nn.2.2 _;have el:xb<w3.heap.size:=nn.2.1;have HEN:Hid (W2.heap.size≤xb):=nn.1;have HRB3:Hid (_):=((hb3.block _ HRL.out).trans HRB.out);rw [HS4.out];clear nn hS hO hb3 m0 m1 m2 HRB;dsimp only)
    | fail)
   have hok:=HON.out.at_.enok m (by dsimp only;have:=HS4.out;omega)
   dsimp only at hok
   rw [hEE.out] at hok
   have HO7:Owned W2.heap.size (w3.setCell ⟨xb,xo+m * 7+1,none⟩ (.string (lg ++ s))) ⟨nfa,nfrs,nfcap,some ⟨xb,xo,none⟩,nens.set m (E.withLog s),necap,nqa,nqus,nqcap⟩:=
    HON.out.setEn (k:=m) (i0:=1) (e':=E.withLog s) (v:=.string (lg ++ s)) rfl (by dsimp only;have:=HS4.out;omega) (by omega) ⟨hok.wst,by show (E.log ++ s).size≤maxLen;rw [HLG.out,ByteArray.size_append];unfold maxLen;omega,hok.wpc,hok.w0,hok.w1,hok.w2,hok.w3⟩ (fun i hi=>by
     dsimp only
     rw [hEE.out,← HLG.out]
     match i,hi with
     | 0,_=>rfl
     | 1,_=>rfl
     | 2,_=>rfl
     | 3,_=>rfl
     | 4,_=>rfl
     | 5,_=>rfl
     | 6,_=>rfl)
   have HB7:Below w.heap.size w (w3.setCell ⟨xb,xo+m * 7+1,none⟩ (.string (lg ++ s))):=(HB1.out.trans (HB3.out.mono HB1.out.size)).setCell (by have:=HEN.out;have:=HB1.out.size;dsimp only;omega) _
   have k7:(w3.setCell ⟨xb,xo+m * 7+1,none⟩ (.string (lg ++ s))).heap[w.heap.size+1]? = w3.heap[w.heap.size+1]?:=Below.heap_setCell _ _ _ _ (show w.heap.size+1≠xb by have:=HEN.out;have:=HRL.out;omega)
   have s7:(w3.setCell ⟨xb,xo+m * 7+1,none⟩ (.string (lg ++ s))).heap.size=w3.heap.size:=by simp [World.setCell]
   obtain ⟨W7,hW7⟩:∃ W7,W7=w3.setCell ⟨xb,xo+m * 7+1,none⟩ (.string (lg ++ s)):=⟨_,rfl⟩
   rw [← hW7] at HO7 HB7 k7 s7
   obtain ⟨W8,hW8⟩:∃ W8,W8=W7.alloc (.cells #[.slice nfa nfrs.length nfcap,.slice (some ⟨xb,xo,none⟩) 4 necap,.slice nqa nqus.length nqcap] 29):=⟨_,rfl⟩
   have HO8:Hid (_):=HO7.below (w':=W8) (by rw [hW8];exact (Below.refl _ _).alloc (Nat.le_refl _) _)
   have HB8:Hid (Below w.heap.size w W8):=by show Below _ _ _;rw [hW8];exact HB7.alloc HB7.size _
   have HBX8:W8.heap[w3.heap.size]? = some (.cells #[.slice nfa nfrs.length nfcap,.slice (some ⟨xb,xo,none⟩) 4 necap,.slice nqa nqus.length nqcap] 29 (0,0)):=by rw [hW8,← s7];exact a11 _ _
   have HR8:W8.heap[w.heap.size+1]? = some (.cells #[.slice none 0 0,.slice none 0 0,.slice none 0 0] 29 (0,0)):=by rw [hW8,Below.heap_alloc _ _ _ (by rw [s7];have:=HRL.out;have:=HB3.out.size;omega),k7];exact HRB3.out
   rw [← hW7,← hW8]
   obtain ⟨y0,y1,y2,_,_,_,yl⟩:=box_cells HBX8
   obtain ⟨r0,r1,r2,rf0,rf1,rf2,rl⟩:=box_cells HR8
   clear hW7 hW8 HO7 HB7 k7 s7 HBX8 HR8 HRB3 HON HB3 h2 t1 ef1 hok l0
   go_wp2
   obtain ⟨k0,k1,k2⟩:=blk3 (v0:=.slice nfa nfrs.length nfcap) (v1:=.slice (some ⟨xb,xo,none⟩) 4 necap) (v2:=.slice nqa nqus.length nqcap) r0 r1 r2
   (try simp only [Exit.inBlock,Exit.then])
   refine bodyPost_ret (by simp [results,Tryz.results130,go_sem,k0,k1,k2];try rfl) rfl ?_
   exact ⟨⟨nfa,nfrs,nfcap,some ⟨xb,xo,none⟩,nens.set m (E.withLog s),necap,nqa,nqus,nqcap⟩,by simp [HS4.out],⟨HSN.out.len,HSN.out.fr,rfl,HSN.out.qu⟩,(HO8.out.keep (fun b hb _=>blk3_heap b (by have:=HRL.out;omega)) (by rw [blk3_size];exact Nat.le_refl _)).mono HB1.out.size,blk3_below HB8.out (by omega)⟩
end Go.Proofs.YtdngbojbpmdegaaGreatDoor

namespace Go.Proofs.YtdngbojbpmdegaaGreatDoor
open Go.RowKit
def txt (l:List UInt8):ByteArray:=⟨l.toArray⟩
theorem txt_size (l:List UInt8):(txt l).size=l.length:=by simp [txt,ByteArray.size]
theorem txt_append (a b:List UInt8):txt a ++ txt b=txt (a ++ b):=ByteArray.mk_append_mk a b
def decB (n:Nat):ByteArray:=txt (Lib.decDigits n)
theorem decB_small {n:Nat} (h:n<10):strOfNums [48+(n:Int)]=decB n:=by
 have hd:Lib.decDigits n = [UInt8.ofNat (48+n)]:=by rw [Lib.decDigits,dif_pos h]
 unfold decB txt
 rw [hd]
 unfold strOfNums
 have:(48+(n:Int)).toNat=48+n:=by omega
 simp only [List.map_cons,List.map_nil,this]
theorem decB_big {n:Nat} (h:¬ n<10):decB (n / 10) ++ decB (n % 10)=decB n:=by
 unfold decB
 rw [txt_append]
 congr 1
 conv=>rhs;rw [Lib.decDigits,dif_neg h]
 conv=>lhs;rhs;rw [Lib.decDigits,dif_pos (by omega)]
theorem decB_size (n:Nat) (h:n<18446744073709551616):(decB n).size≤20:=by
 unfold decB;rw [txt_size,Lib.decDigits_length];exact Lib.nDigits_le20 n h
theorem ret_str {a b:ByteArray} (h:a=b):Ending.returned (.string a)=.returned (.string b):=by rw [h]
set_option maxRecDepth 100000 in
set_option maxHeartbeats 1000000 in
theorem dec_any:∀ (n:Nat),n≤1000000000000000000→∀ w:World,Calls Tryz.prog 137 #[.int .i64 (n:Int)] w fun e w'=>e=.returned (.string (decB n))∧Below w.heap.size w w':=by
 intro n
 induction n using Nat.strongRecOn with
 | ind n ih =>
   intro hn w
   by_cases h10:n<10
   · have hcv:=run_convert_bytes_arg (P:=Tryz.prog) (w.alloc (.cells #[.int .u8 (48+(n:Int))] 5)) 174 5 Tryz.underlying174 Tryz.underlying5 w.heap.size 0 1 1 [48+(n:Int)] rfl
      (fun i hi=>by obtain rfl:i=0:=by omega
                    simp) 9 Tryz.underlying9
     rw [decB_small h10] at hcv
     clear ih
     go_enter Tryz.func137,Tryz.ntmps137
     go_wp2
     go_ret
     exact ⟨rfl,(Below.refl _ _).alloc (Nat.le_refl _) _⟩
   · have h1:=ih (n / 10) (by omega) (by omega)
     have h2:=ih (n % 10) (by omega) (by omega)
     have e1:((n / 10:Nat):Int)=(n:Int) / 10:=by omega
     have e2:((n % 10:Nat):Int)=(n:Int) % 10:=by omega
     rw [e1] at h1
     rw [e2] at h2
     have s1:=decB_size (n / 10) (by omega)
     have s2:=decB_size (n % 10) (by omega)
     have HB:Hid (decB (n / 10) ++ decB (n % 10)=decB n):=decB_big h10
     generalize decB (n / 10)=A at h1 s1 HB
     generalize decB (n % 10)=B at h2 s2 HB
     clear e1 e2 ih
     go_enter Tryz.func137,Tryz.ntmps137
     go_wp2_with fail
     refine (h1 _).mono ?_
     rintro e w1 ⟨rfl,hb1⟩
     clear h1
     go_wp2_with fail
     refine (h2 _).mono ?_
     rintro e w2 ⟨rfl,hb2⟩
     clear h2
     go_wp2
     go_ret
     exact ⟨ret_str HB.out,hb1.trans (hb2.mono hb1.size)⟩
end Go.Proofs.YtdngbojbpmdegaaGreatDoor

namespace Go.Proofs.YtdngbojbpmdegaaGreatDoor
open Go.RowKit
def sPage:List UInt8:=[112,97,103,101]
def putS (p r:Int):ByteArray:=txt (entryL sPage [p,r])
theorem itoa_nat (n:Nat):Lib.itoa (n:Int)=Lib.decDigits n:=Lib.itoa_nonneg n
theorem putS_eq (p r:Nat):txt [112,97,103,101,32] ++ decB p ++ txt [32] ++ decB r ++ txt [59]=putS p r:=by
 unfold putS decB
 simp only [txt_append]
 congr 1
 simp [entryL,numsL,itoa_nat,sPage]
set_option maxHeartbeats 1000000 in
theorem added_any (p r:Int) (w:World) (hp:(Lit.int .i64 p).wf=true) (hr:(Lit.int .i64 r).wf=true) (ht:Tab w) :
 Calls Tryz.prog 89 #[.int .i64 p,.int .i64 r] w fun e w' =>
  e=.returned (if (inB p 0 7 && inB r 0 7)=true then .tuple #[.string (putS p r),.int .i64 0] else .tuple #[.string ⟨#[]⟩,.int .i64 2])∧Below w.heap.size w w':=by
 have hP:=fun w=>isPlace_any p w
 have hR:=fun w=>areRights_any r w hr
 have hE:=entry_any ⟨#[112,97,103,101]⟩ (some ⟨w.heap.size,0,none⟩) [p,r] 2 (w.alloc (.cells #[.int .i64 p,.int .i64 r] 3)) (by decide) (by simp)
  (.inr ⟨_,_,rfl,fun j hj=>by
    match j,hj with
    | 0,_=>simp
    | 1,_=>simp⟩) (fun n hn=>by simp at hn;rcases hn with rfl | rfl<;>assumption) (ht.below ((Below.refl _ _).alloc (Nat.le_refl _) _))
 have hS:Hid (txt (entryL sPage [p,r])=putS p r):=rfl
 have hE' : Calls Tryz.prog 123 #[.string ⟨#[112,97,103,101]⟩,.slice (some ⟨w.heap.size,0,none⟩) 2 2] (w.alloc (.cells #[.int .i64 p,.int .i64 r] 3)) fun e w'=>e=.returned (.string (putS p r))∧Below (w.alloc (.cells #[.int .i64 p,.int .i64 r] 3)).heap.size (w.alloc (.cells #[.int .i64 p,.int .i64 r] 3)) w':=hE
 clear hE hS ht hp hr
 generalize putS p r=S at hE' ⊢
 generalize inB p 0 7=b1 at hP ⊢
 generalize inB r 0 7=b2 at hR ⊢
 cases b1<;>cases b2
 all_goals
  go_enter Tryz.func89,Tryz.ntmps89
  go_wp2_with (first | (go_at_call 124;refine (hP _).mono ?_;rintro e w' ⟨rfl,rfl⟩) | (go_at_call 125;refine (hR _).mono ?_;rintro e w' ⟨rfl,rfl⟩) | (go_at_call 123;go_must (refine hE'.mono ?_);rintro e w1 ⟨rfl,hb⟩))
  go_ret2
  first | exact ⟨rfl,Below.refl _ _⟩ | exact ⟨rfl,((Below.refl _ _).alloc (Nat.le_refl _) _).trans (hb.mono (by simp))⟩
set_option maxHeartbeats 1000000 in
theorem putText_any (p r:Int) (w:World) :
 Calls Tryz.prog 108 #[.int .i64 p,.int .i64 r] w fun e w' =>
  e=.returned (if (inB p 0 7 && inB r 0 7)=true then .tuple #[.string (putS p r),.int .i64 0] else .tuple #[.string ⟨#[]⟩,.int .i64 2])∧Below w.heap.size w w':=by
 cases h1:inB p 0 7
 · go_enter Tryz.func108,Tryz.ntmps108
   go_wp2_with (go_at_call 56;refine (in_any _ _ _ _).mono ?_;rintro e w' ⟨rfl,rfl⟩)
   go_ret2
   exact ⟨rfl,Below.refl _ _⟩
 · cases h2:inB r 0 7
   · go_enter Tryz.func108,Tryz.ntmps108
     go_wp2_with (go_at_call 56;refine (in_any _ _ _ _).mono ?_;rintro e w' ⟨rfl,rfl⟩)
     go_ret2
     exact ⟨rfl,Below.refl _ _⟩
   · have b1:=inB_iff.1 h1
     have b2:=inB_iff.1 h2
     obtain ⟨P,rfl⟩:∃ P:Nat,p=(P:Int):=⟨p.toNat,by omega⟩
     obtain ⟨R,rfl⟩:∃ R:Nat,r=(R:Int):=⟨r.toNat,by omega⟩
     have HS:Hid (txt [112,97,103,101,32] ++ decB P ++ txt [32] ++ decB R ++ txt [59]=putS P R):=putS_eq P R
     have g1:=fun w=>dec_any P (by omega) w
     have g2:=fun w=>dec_any R (by omega) w
     have s1:=decB_size P (by omega)
     have s2:=decB_size R (by omega)
     generalize putS (P:Int) (R:Int)=S at HS ⊢
     generalize decB P=A at g1 s1 HS
     generalize decB R=B at g2 s2 HS
     go_enter Tryz.func108,Tryz.ntmps108
     go_wp2_with (go_at_call 56;refine (in_any _ _ _ _).mono ?_;rintro e w' ⟨rfl,rfl⟩)
     refine (g1 _).mono ?_
     rintro e w1 ⟨rfl,hb1⟩
     clear g1
     go_wp2_with fail
     refine (g2 _).mono ?_
     rintro e w2 ⟨rfl,hb2⟩
     clear g2
     go_wp2
     go_ret2
     refine ⟨?_,hb1.trans (hb2.mono hb1.size)⟩
     rw [← HS.out]
     rfl
end Go.Proofs.YtdngbojbpmdegaaGreatDoor
