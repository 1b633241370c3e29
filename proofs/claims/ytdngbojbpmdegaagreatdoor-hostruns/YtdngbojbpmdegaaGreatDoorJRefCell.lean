import Derived.Test.YtdngbojbpmdegaaGreatDoorRunSay
import Derived.Test.YtdngbojbpmdegaaGreatDoorJRunTouch
import Derived.Deep.QuietTactic
import Derived.BigQuiet
namespace Go.Proofs.YtdngbojbpmdegaaGreatDoor
open Go.RowKit
theorem Owned.putEn {n0:Nat} {w:World} {M:Mv} (h:Owned n0 w M) {eb eo k:Nat} (he:M.ea=some ⟨eb,eo,none⟩) (hk:k<M.ens.length) {E' : En} (hq:E'.Ok) :
 Owned n0 (((((((w.setCell ⟨eb,eo+k * 7,none⟩ (.int .i64 E'.st)).setCell ⟨eb,eo+k * 7+1,none⟩ (.string E'.log)).setCell ⟨eb,eo+k * 7+2,none⟩ (.int .i64 E'.pc)).setCell ⟨eb,eo+k * 7+3,none⟩ (.int .i64 E'.g0)).setCell ⟨eb,eo+k * 7+4,none⟩ (.int .i64 E'.g1)).setCell ⟨eb,eo+k * 7+5,none⟩ (.int .i64 E'.g2)).setCell ⟨eb,eo+k * 7+6,none⟩ (.int .i64 E'.g3)) {M with ens:=M.ens.set k E'}:=by
 have q:=h.at_.enok k hk
 obtain ⟨E,hE⟩:∃ E,E=M.ens.getD k default:=⟨_,rfl⟩
 rw [← hE] at q
 have step:∀ {w:World} {N:Mv} (_:Owned n0 w N) (_:N.ea=some ⟨eb,eo,none⟩) (_:k<N.ens.length) (i0:Nat) (_:i0<7) (e0 e' : En) (v:Value) (_:N.ens.getD k default=e0) (_:e'.Ok) (_:∀ i,i<7→e'.cells[i]? = if i=i0 then some v else e0.cells[i]?),
  Owned n0 (w.setCell ⟨eb,eo+k * 7+i0,none⟩ v) {N with ens:=N.ens.set k e'}:=fun h he hk i0 hi e0 e' v h0 hok hx=>h.setEn he hk hi hok (by rw [h0];exact hx)
 have g:∀ (N:Mv) (e:En),k<N.ens.length→(N.ens.set k e).getD k default=e:=fun N e hk=>by rw [getD_set _ _ _ _ hk,if_pos rfl]
 have s1:=step h he hk 0 (by omega) E {E with st:=E'.st} (.int .i64 E'.st) hE.symm ⟨hq.wst,q.len,q.wpc,q.w0,q.w1,q.w2,q.w3⟩ (fun i hi=>by match i,hi with | 0,_=>rfl | 1,_=>rfl | 2,_=>rfl | 3,_=>rfl | 4,_=>rfl | 5,_=>rfl | 6,_=>rfl)
 have s2:=step s1 he (by simpa using hk) 1 (by omega) _ {E with st:=E'.st,log:=E'.log} (.string E'.log) (g _ _ hk) ⟨hq.wst,hq.len,q.wpc,q.w0,q.w1,q.w2,q.w3⟩ (fun i hi=>by match i,hi with | 0,_=>rfl | 1,_=>rfl | 2,_=>rfl | 3,_=>rfl | 4,_=>rfl | 5,_=>rfl | 6,_=>rfl)
 have s3:=step s2 he (by simpa using hk) 2 (by omega) _ {E with st:=E'.st,log:=E'.log,pc:=E'.pc} (.int .i64 E'.pc) (g _ _ (by simpa using hk)) ⟨hq.wst,hq.len,hq.wpc,q.w0,q.w1,q.w2,q.w3⟩ (fun i hi=>by match i,hi with | 0,_=>rfl | 1,_=>rfl | 2,_=>rfl | 3,_=>rfl | 4,_=>rfl | 5,_=>rfl | 6,_=>rfl)
 have s4:=step s3 he (by simpa using hk) 3 (by omega) _ {E with st:=E'.st,log:=E'.log,pc:=E'.pc,g0:=E'.g0} (.int .i64 E'.g0) (g _ _ (by simpa using hk)) ⟨hq.wst,hq.len,hq.wpc,hq.w0,q.w1,q.w2,q.w3⟩ (fun i hi=>by match i,hi with | 0,_=>rfl | 1,_=>rfl | 2,_=>rfl | 3,_=>rfl | 4,_=>rfl | 5,_=>rfl | 6,_=>rfl)
 have s5:=step s4 he (by simpa using hk) 4 (by omega) _ {E with st:=E'.st,log:=E'.log,pc:=E'.pc,g0:=E'.g0,g1:=E'.g1} (.int .i64 E'.g1) (g _ _ (by simpa using hk)) ⟨hq.wst,hq.len,hq.wpc,hq.w0,hq.w1,q.w2,q.w3⟩ (fun i hi=>by match i,hi with | 0,_=>rfl | 1,_=>rfl | 2,_=>rfl | 3,_=>rfl | 4,_=>rfl | 5,_=>rfl | 6,_=>rfl)
 have s6:=step s5 he (by simpa using hk) 5 (by omega) _ {E with st:=E'.st,log:=E'.log,pc:=E'.pc,g0:=E'.g0,g1:=E'.g1,g2:=E'.g2} (.int .i64 E'.g2) (g _ _ (by simpa using hk)) ⟨hq.wst,hq.len,hq.wpc,hq.w0,hq.w1,hq.w2,q.w3⟩ (fun i hi=>by match i,hi with | 0,_=>rfl | 1,_=>rfl | 2,_=>rfl | 3,_=>rfl | 4,_=>rfl | 5,_=>rfl | 6,_=>rfl)
 have s7:=step s6 he (by simpa using hk) 6 (by omega) _ E' (.int .i64 E'.g3) (g _ _ (by simpa using hk)) ⟨hq.wst,hq.len,hq.wpc,hq.w0,hq.w1,hq.w2,hq.w3⟩ (fun i hi=>by match i,hi with | 0,_=>rfl | 1,_=>rfl | 2,_=>rfl | 3,_=>rfl | 4,_=>rfl | 5,_=>rfl | 6,_=>rfl)
 simp only [List.set_set,Nat.add_zero] at s7
 exact s7
theorem quote_own {n0:Nat} {W:World} {M:Mv} (hO:Owned n0 W M) (hQ:QRow n0 W M) (hn0:n0≤W.heap.size) (hl:M.qus.length<40) (q:Qu) (hq:q.Ok) :
 ∃ g cap w8,(Builtin.append_ #[27,27] 27 #[.slice M.qa M.qus.length M.qcap,.slice (some ⟨W.heap.size,0,none⟩) 1 1]).run Tryz.prog (W.alloc (.cells #[.string q.log,.int .i64 q.data] 90))=.ok (.slice (some ⟨g,0,none⟩) (M.qus.length+1) cap) w8∧
   (∀ b,b<W.heap.size→¬ Mine M b→w8.heap[b]? = W.heap[b]?)∧W.heap.size≤w8.heap.size∧Below n0 W w8∧
   Owned n0 w8 {M with qa:=some ⟨g,0,none⟩,qus:=M.qus ++ [q],qcap:=cap}∧QRow n0 w8 {M with qa:=some ⟨g,0,none⟩,qus:=M.qus ++ [q],qcap:=cap}∧∀ b,b<W.heap.size→¬ Mine M b→¬ Mine {M with qa:=some ⟨g,0,none⟩,qus:=M.qus ++ [q],qcap:=cap} b:=by
 obtain ⟨iI,hiI,hzI⟩:=Option.map_eq_some_iff.1 info_qR
 simp only [Prod.mk.injEq] at hzI
 obtain ⟨z1,z2,z3⟩:=hzI
 have hB7:Below W.heap.size W (W.alloc (.cells #[.string q.log,.int .i64 q.data] 90)):=(Below.refl _ _).alloc (Nat.le_refl _) _
 have s7:(W.alloc (.cells #[.string q.log,.int .i64 q.data] 90)).heap.size=W.heap.size+1:=by simp
 have b7:(W.alloc (.cells #[.string q.log,.int .i64 q.data] 90)).heap[W.heap.size]? = some (.cells #[.string q.log,.int .i64 q.data] 90):=Go.Deep.blk_alloc_new _ _
 have hq7:QRow n0 (W.alloc (.cells #[.string q.log,.int .i64 q.data] 90)) M:=hQ.keep fun b o s e=>hB7.block b (hO.nq b o s e).2.1
 generalize W.alloc (.cells #[.string q.log,.int .i64 q.data] 90)=V7 at hB7 s7 b7 hq7
 obtain ⟨g,cap,w8,hr,own8,grow,lies,lt⟩:=run_append_lies (P:=Tryz.prog) V7 27 27 n0 90 iI _ 2 24 Tryz.underlying27 hiI z1 z2 z3 rfl (by omega) (.slice M.qa M.qus.length M.qcap) M.qus.length (M.qus.flatMap Qu.cells) hq7 ⟨W.heap.size,0,none⟩ 1 1 (Qu.cells q) rfl
  (fun j u hu=>World.news_of_block (cs:=#[.string q.log,.int .i64 q.data]) b7 j u hu) (fun u hu=>by simp [Qu.cells] at hu;rcases hu with rfl | rfl<;>rfl) (by omega) (by unfold maxLen;omega) (by omega) (by omega) (W.heap.size+1) s7
 have keep:∀ b,b<W.heap.size+1→(∀ o s,M.qa≠some ⟨b,o,s⟩)→w8.heap[b]? = V7.heap[b]?:=fun b hb hv=>grow.block b (by omega) (fun e=>by obtain ⟨o',s',e'⟩:=own_blockR e.symm;exact hv o' s' e')
 have keep0:∀ b,b<W.heap.size→(∀ o s,M.qa≠some ⟨b,o,s⟩)→w8.heap[b]? = W.heap[b]?:=fun b hb hv=>(keep b (by omega) hv).trans (hB7.block b hb)
 have gcase:(∃ o s,M.qa=some ⟨g,o,s⟩)∨g=W.heap.size+1:=by
  rcases lies with e | e
  · exact .inl (own_blockR e)
  · exact .inr e
 have gnoQ:¬ Mine (mvQ0 M) g:=by
  intro hm
  rcases gcase with ⟨o,s,e⟩ | e
  · rcases hm with ⟨o',s',q⟩ | ⟨o',s',q⟩ | ⟨o',s',q⟩ | ⟨j,hj,o',s',q⟩
    · exact hO.fq g o' s' o s q e
    · exact hO.eq g o' s' o s q e
    · cases q
    · exact hO.wq j hj g o' s' o s q e
  · have:=(Mine.fresh hO (Mine.noQ hm)).2
    omega
 have hsz:W.heap.size≤w8.heap.size:=by have:=grow.size;omega
 have qaN:∀ b,Mine (mvQ0 M) b→∀ o s,M.qa≠some ⟨b,o,s⟩:=fun b hm o s e=>by
  rcases hm with ⟨o',s',q⟩ | ⟨o',s',q⟩ | ⟨o',s',q⟩ | ⟨j,hj,o',s',q⟩
  · exact hO.fq b o' s' o s q e
  · exact hO.eq b o' s' o s q e
  · cases q
  · exact hO.wq j hj b o' s' o s q e
 have o8:Owned n0 w8 (mvQ0 M):=hO.noQ.keepM (fun b hm=>keep0 b (Mine.fresh hO (Mine.noQ hm)).2 (qaN b hm)) hsz
 have own8' : w8.ownsRow n0 90 2 (.slice (some ⟨g,0,none⟩) (M.qus ++ [q]).length cap) (M.qus ++ [q]).length ((M.qus ++ [q]).flatMap Qu.cells):=by simpa using own8
 have gb:n0≤g∧g<w8.heap.size∧∀ o,w8.frozen? ⟨g,o,none⟩=false:=by
  rcases own8.2 with ⟨hv,_⟩ | ⟨g',cap',cur,hv,hb,hg,_⟩
  · cases hv
  · simp only [Value.slice.injEq,Option.some.injEq,Addr.mk.injEq] at hv
    obtain ⟨⟨rfl,_⟩,_⟩:=hv
    exact ⟨hb,lt,frozen_of_block hg⟩
 have O8:Owned n0 w8 {M with qa:=some ⟨g,0,none⟩,qus:=M.qus ++ [q],qcap:=cap}:=o8.withQ (quotes_of_row own8') (by simp;unfold maxLen;omega) (fun j hj=>by
  by_cases e:j<M.qus.length
  · have:=hO.at_.quok j e
    simpa [List.getD_eq_getElem?_getD,List.getElem?_append_left e] using this
  · have:j=M.qus.length:=by simp at hj;omega
    subst this
    simpa [List.getD_eq_getElem?_getD] using hq) gb gnoQ
 have mine' : ∀ b,¬ Mine M b→b≠g→¬ Mine {M with qa:=some ⟨g,0,none⟩,qus:=M.qus ++ [q],qcap:=cap} b:=fun b hb hg hm=>by
  rcases hm with q | q | ⟨o,s,q⟩ | q
  · exact hb (.inl q)
  · exact hb (.inr (.inl q))
  · simp only [Option.some.injEq,Addr.mk.injEq] at q
    exact hg q.1.symm
  · exact hb (.inr (.inr (.inr q)))
 have far:∀ b,b<W.heap.size→¬ Mine M b→b≠g:=fun b hb hm q=>by
  rcases gcase with ⟨o,s,e⟩ | e
  · exact hm (q▸.inr (.inr (.inl ⟨o,s,e⟩)))
  · omega
 refine ⟨g,cap,w8,hr,fun b hb hm=>keep0 b hb fun o s e=>hm (.inr (.inr (.inl ⟨o,s,e⟩))),hsz,?_,O8,own8',fun b hb hm=>mine' b hm (far b hb hm)⟩
 exact ⟨grow.os.trans hB7.os,grow.tape.trans hB7.tape,grow.output.trans hB7.output,hsz,fun b hb=>keep0 b (by omega) fun o s e=>by have:=(hO.nq b o s e).1;omega⟩
structure RefSt (n0:Nat) (w:World) (bm br:Nat) (M:Mv) (rs:List Int):Prop where
 c0:w.cell? ⟨bm,0,none⟩=some (.slice M.fa M.frs.length M.fcap)
 c1:w.cell? ⟨bm,1,none⟩=some (.slice M.ea M.ens.length M.ecap)
 c2:w.cell? ⟨bm,2,none⟩=some (.slice M.qa M.qus.length M.qcap)
 cr:∀ i,i<4→w.cell? ⟨br,i,none⟩=some (.int .i64 (rs.getD i 0))
 fm:∀ o,w.frozen? ⟨bm,o,none⟩=false
 fr:∀ o,w.frozen? ⟨br,o,none⟩=false
 lm:bm<w.heap.size
 lr:br<w.heap.size
 own:Owned n0 w M
 q:QRow n0 w M
 offm:¬ Mine M bm
 offr:¬ Mine M br
 ne:bm≠br
 ge:n0≤w.heap.size
theorem RefSt.keepM {n0:Nat} {w w' : World} {bm br:Nat} {M:Mv} {rs:List Int} (h:RefSt n0 w bm br M rs) (hw:∀ b,Mine M b∨b=bm∨b=br→w'.heap[b]? = w.heap[b]?) (hs:w.heap.size≤w'.heap.size):RefSt n0 w' bm br M rs:=by
 have hm:∀ o,w'.cell? ⟨bm,o,none⟩=w.cell? ⟨bm,o,none⟩:=fun o=>World.cell?_of_block (hw bm (.inr (.inl rfl)))
 have hr:∀ o,w'.cell? ⟨br,o,none⟩=w.cell? ⟨br,o,none⟩:=fun o=>World.cell?_of_block (hw br (.inr (.inr rfl)))
 exact ⟨(hm 0).trans h.c0,(hm 1).trans h.c1,(hm 2).trans h.c2,fun i hi=>(hr i).trans (h.cr i hi),fun o=>(World.frozen?_of_block (hw bm (.inr (.inl rfl)))).trans (h.fm o),fun o=>(World.frozen?_of_block (hw br (.inr (.inr rfl)))).trans (h.fr o),Nat.lt_of_lt_of_le h.lm hs,Nat.lt_of_lt_of_le h.lr hs,
  h.own.keepM (fun b hb=>hw b (.inl hb)) hs,h.q.keep fun b o s e=>hw b (.inl (.inr (.inr (.inl ⟨o,s,e⟩)))),h.offm,h.offr,h.ne,Nat.le_trans h.ge hs⟩
theorem RefSt.keep {n0:Nat} {w w' : World} {bm br:Nat} {M:Mv} {rs:List Int} (h:RefSt n0 w bm br M rs) (hb:Below w.heap.size w w'):RefSt n0 w' bm br M rs:=
 h.keepM (fun b q=>hb.block b (by rcases q with q | rfl | rfl;exact (Mine.fresh h.own q).2;exact h.lm;exact h.lr)) hb.size
theorem RefSt.far {n0:Nat} {w:World} {bm br:Nat} {M:Mv} {rs:List Int} (h:RefSt n0 w bm br M rs) {b:Nat} (hb:¬ Mine M b) (h1:b≠bm) (h2:b≠br) (o:Nat) (v:Value):RefSt n0 (w.setCell ⟨b,o,none⟩ v) bm br M rs:=
 h.keepM (fun b' q=>Below.heap_setCell _ _ _ _ (fun e=>by dsimp only at e;subst e;rcases q with q | q | q;exact hb q;exact h1 q;exact h2 q)) (by simp [World.setCell])
theorem RefSt.regSet {n0:Nat} {w:World} {bm br:Nat} {M:Mv} {rs:List Int} (h:RefSt n0 w bm br M rs) {a:Nat} (ha:a<4) (hl:rs.length=4) (v:Int):RefSt n0 (w.setCell ⟨br,a,none⟩ (.int .i64 v)) bm br M (rs.set a v):=by
 have oth:∀ o,o≠a→(w.setCell ⟨br,a,none⟩ (.int .i64 v)).cell? ⟨br,o,none⟩=w.cell? ⟨br,o,none⟩:=fun o ho=>World.cell?_setCell_other _ _ _ _ (by intro q;simp only [Addr.mk.injEq,true_and,and_true] at q;omega)
 have hm:∀ o,(w.setCell ⟨br,a,none⟩ (.int .i64 v)).cell? ⟨bm,o,none⟩=w.cell? ⟨bm,o,none⟩:=fun o=>World.cell?_setCell_other _ _ _ _ (by intro q;simp only [Addr.mk.injEq] at q;first | exact h.ne q.1 | exact h.ne q.1.symm)
 have hw:∀ b,Mine M b→(w.setCell ⟨br,a,none⟩ (.int .i64 v)).heap[b]? = w.heap[b]?:=fun b hb=>set_heap _ _ _ _ _ (fun e=>h.offr (e▸hb))
 refine ⟨(hm 0).trans h.c0,(hm 1).trans h.c1,(hm 2).trans h.c2,fun i hi=>?_,fun o=>(World.frozen?_setCell _ _ _ _).trans (h.fm o),fun o=>(World.frozen?_setCell _ _ _ _).trans (h.fr o),by simp [World.setCell];exact h.lm,by simp [World.setCell];exact h.lr,
  h.own.keepM hw (by simp [World.setCell]),h.q.keep fun b o s e=>hw b (.inr (.inr (.inl ⟨o,s,e⟩))),h.offm,h.offr,h.ne,by simp [World.setCell];exact h.ge⟩
 by_cases e:i=a
 · subst e
   rw [World.cell?_setCell_same _ _ _ (h.cr i hi)]
   simp [List.getD_eq_getElem?_getD,hl,ha]
 · rw [oth i e,h.cr i hi]
   simp [List.getD_eq_getElem?_getD,List.getElem?_set_ne (Ne.symm e)]
theorem RefSt.word {n0:Nat} {w:World} {bm br:Nat} {M:Mv} {rs:List Int} (h:RefSt n0 w bm br M rs) {b o k i:Nat} (hk:k<M.frs.length) (ha:(M.frs.getD k default).a=some ⟨b,o,none⟩) (hi:i<(M.frs.getD k default).ws.length) {v:Int} (wv:(Lit.int .i64 v).wf=true) :
 RefSt n0 (w.setCell ⟨b,o+i,none⟩ (.int .i64 v)) bm br {M with frs:=M.frs.set k {M.frs.getD k default with ws:=(M.frs.getD k default).ws.set i v}} rs:=by
 have hbm:b≠bm:=fun q=>h.offm (q▸.inr (.inr (.inr ⟨k,hk,o,none,ha⟩)))
 have hbr:b≠br:=fun q=>h.offr (q▸.inr (.inr (.inr ⟨k,hk,o,none,ha⟩)))
 have hm:∀ o',(w.setCell ⟨b,o+i,none⟩ (.int .i64 v)).cell? ⟨bm,o',none⟩=w.cell? ⟨bm,o',none⟩:=fun o'=>World.cell?_setCell_other _ _ _ _ (by intro q;simp only [Addr.mk.injEq] at q;exact hbm q.1)
 have hr:∀ o',(w.setCell ⟨b,o+i,none⟩ (.int .i64 v)).cell? ⟨br,o',none⟩=w.cell? ⟨br,o',none⟩:=fun o'=>World.cell?_setCell_other _ _ _ _ (by intro q;simp only [Addr.mk.injEq] at q;exact hbr q.1)
 have addr:∀ j,j<M.frs.length→((M.frs.set k {M.frs.getD k default with ws:=(M.frs.getD k default).ws.set i v}).getD j default).a=(M.frs.getD j default).a:=fun j hj=>by
  rw [getD_set _ _ _ _ hk];split
  · rename_i e;subst e;rfl
  · rfl
 have off:∀ c,¬ Mine M c→¬ Mine {M with frs:=M.frs.set k {M.frs.getD k default with ws:=(M.frs.getD k default).ws.set i v}} c:=fun c hc=>by
  rintro (q | q | q | ⟨j,hj,q⟩)
  · exact hc (.inl q)
  · exact hc (.inr (.inl q))
  · exact hc (.inr (.inr (.inl q)))
  · have hj' : j<M.frs.length:=by simpa using hj
    dsimp only at q
    rw [addr j hj'] at q
    exact hc (.inr (.inr (.inr ⟨j,hj',q⟩)))
 refine ⟨?_,(hm 1).trans h.c1,(hm 2).trans h.c2,fun i hi=>(hr _).trans (h.cr i hi),fun o=>(World.frozen?_setCell _ _ _ _).trans (h.fm o),fun o=>(World.frozen?_setCell _ _ _ _).trans (h.fr o),by simp [World.setCell];exact h.lm,by simp [World.setCell];exact h.lr,h.own.setWord hk ha hi wv,?_,off bm h.offm,off br h.offr,h.ne,by simp [World.setCell];exact h.ge⟩
 · rw [hm 0,h.c0];simp
 · exact QRow.keep (M:=M) h.q fun b' o' s e'=>set_heap _ _ _ _ _ (fun q=>by subst q;exact h.own.wq k hk b' o none o' s ha e')
theorem RefSt.say {n0:Nat} {w w8:World} {bm br:Nat} {M M' : Mv} {rs:List Int} (h:RefSt n0 w bm br M rs) {g cap n:Nat} (hk:∀ b,b<w.heap.size→¬ Mine M b→w8.heap[b]? = w.heap[b]?) (hs:w.heap.size≤w8.heap.size) (hO:Owned n0 w8 M') (hQ:QRow n0 w8 M') (hm:∀ b,b<w.heap.size→¬ Mine M b→¬ Mine M' b)
 (e1:M'.fa=M.fa∧M'.frs=M.frs∧M'.fcap=M.fcap∧M'.ea=M.ea∧M'.ens=M.ens∧M'.ecap=M.ecap) (e2:M'.qa=some ⟨g,0,none⟩∧M'.qus.length=n∧M'.qcap=cap) :
 RefSt n0 (w8.setCell ⟨bm,2,none⟩ (.slice (some ⟨g,0,none⟩) n cap)) bm br M' rs:=by
 have km:=hk bm h.lm h.offm
 have kr:=hk br h.lr h.offr
 have om:=hm bm h.lm h.offm
 have or_:=hm br h.lr h.offr
 have hmc:∀ o,w8.cell? ⟨bm,o,none⟩=w.cell? ⟨bm,o,none⟩:=fun o=>World.cell?_of_block km
 have hrc:∀ o,(w8.setCell ⟨bm,2,none⟩ (.slice (some ⟨g,0,none⟩) n cap)).cell? ⟨br,o,none⟩=w.cell? ⟨br,o,none⟩:=fun o=>(World.cell?_setCell_other _ _ _ _ (by intro q;simp only [Addr.mk.injEq] at q;exact h.ne q.1)).trans (World.cell?_of_block kr)
 have oth:∀ o,o≠2→(w8.setCell ⟨bm,2,none⟩ (.slice (some ⟨g,0,none⟩) n cap)).cell? ⟨bm,o,none⟩=w.cell? ⟨bm,o,none⟩:=fun o ho=>(World.cell?_setCell_other _ _ _ _ (by intro q;simp only [Addr.mk.injEq,true_and,and_true] at q;omega)).trans (hmc o)
 have hw:∀ b,Mine M' b→(w8.setCell ⟨bm,2,none⟩ (.slice (some ⟨g,0,none⟩) n cap)).heap[b]? = w8.heap[b]?:=fun b hb=>set_heap _ _ _ _ _ (fun e=>om (e▸hb))
 refine ⟨(oth 0 (by omega)).trans (by rw [h.c0,e1.1,e1.2.1,e1.2.2.1]),(oth 1 (by omega)).trans (by rw [h.c1,e1.2.2.2.1,e1.2.2.2.2.1,e1.2.2.2.2.2]),?_,fun i hi=>(hrc i).trans (h.cr i hi),fun o=>?_,fun o=>?_,by simp [World.setCell];exact Nat.lt_of_lt_of_le h.lm hs,by simp [World.setCell];exact Nat.lt_of_lt_of_le h.lr hs,hO.keepM hw (by simp [World.setCell]),hQ.keep fun b o s e=>hw b (.inr (.inr (.inl ⟨o,s,e⟩))),om,or_,h.ne,by simp [World.setCell];exact Nat.le_trans h.ge hs⟩
 · rw [World.cell?_setCell_same _ _ _ ((hmc 2).trans h.c2),e2.1,e2.2.1,e2.2.2]
 · exact (World.frozen?_setCell _ _ _ _).trans ((World.frozen?_of_block km).trans (h.fm o))
 · exact (World.frozen?_setCell _ _ _ _).trans ((World.frozen?_of_block kr).trans (h.fr o))
end Go.Proofs.YtdngbojbpmdegaaGreatDoor

namespace Go.Proofs.YtdngbojbpmdegaaGreatDoor
open Go.RowKit
def CellSaid (z n:Int) (w:World) (x:Ending) (w' : World):Prop:=∃ G I:Int,∃ B:Bool,x=.returned (.tuple #[.int .i64 G,.int .i64 I,.bool B])∧(B=decide (0≤z))∧(0≤z→G=z∧I=n % 8)∧Below w.heap.size w w'
theorem cell_no {z n G I:Int} {B:Bool} {w w' : World} (hz:z=-1) (hB:B=false) (hb:Below w.heap.size w w'):CellSaid z n w (.returned (.tuple #[.int .i64 G,.int .i64 I,.bool B])) w':=
 ⟨G,I,B,rfl,by subst hz;subst hB;rfl,fun q=>absurd q (by omega),hb⟩
theorem cell_yes {z n I:Int} {k:Nat} {B:Bool} {w w' : World} (hz:z=(k:Int)) (hB:B=true) (hI:I=n % 8) (hb:Below w.heap.size w w'):CellSaid z n w (.returned (.tuple #[.int .i64 (k:Int),.int .i64 I,.bool B])) w':=
 ⟨k,I,B,rfl,by subst hz;subst hB;simp,fun _=>⟨hz.symm,hI⟩,hb⟩
set_option maxRecDepth 100000 in
set_option maxHeartbeats 4000000 in
theorem cellOf_run (M:Mv) (e n right:Int) (w:World) (hM:MachAt w M) (hG:Good M) (h0:0≤n) (hn:n≤1000000) (hr:right=1∨right=2∨right=4) :
 Calls Tryz.prog 138 #[M.val,.int .i64 e,.int .i64 n,.int .i64 right] w (CellSaid (frmF M.frs e n right) n w):=by
 have hS:frmF M.frs e n right=if 64≤n then shF M.frs n right else if placeOf M.frs e (n / 8)<0 then -1 else if hasR (M.frs.getD (placeOf M.frs e (n / 8)).toNat default).r right=true then placeOf M.frs e (n / 8) else -1:=rfl
 have hm8:Int.tmod n 8=n % 8:=Int.tmod_eq_emod_of_nonneg h0
 have hm82:IntKind.i64.wrap (n % 8)=n % 8:=by rw [IntKind.wrap_i64];omega
 have hl:=hG.s1
 by_cases h64:64≤n
 · rw [if_pos h64] at hS
   have hw:IntKind.i64.wrap (n - 64)=n - 64:=by rw [IntKind.wrap_i64];omega
   have hq:Int.tdiv (n - 64) 8=(n - 64) / 8:=Int.tdiv_eq_ediv_of_nonneg (by omega)
   have hq2:IntKind.i64.wrap ((n - 64) / 8)=(n - 64) / 8:=by rw [IntKind.wrap_i64];omega
   unfold shF at hS
   obtain ⟨k,hk⟩:∃ k:Nat,(n - 64) / 8=(k:Int):=⟨((n - 64) / 8).toNat,by omega⟩
   rw [hk] at hS hq hq2
   obtain ⟨z,hz⟩:∃ z,z=frmF M.frs e n right:=⟨_,rfl⟩
   rw [← hz] at hS ⊢
   clear hz
   by_cases h4:right=4
   · rw [if_pos h4] at hS
     subst h4
     have HZ:Hid (_):=hS
     clear hM hG hr hS
     unfold Mv.val
     go_enter Tryz.func138,Tryz.ntmps138
     go_upto_region 3 with fail
     go_quiet (fail)
     go_wp2
     refine bodyPost_ret (by simp [results,Tryz.results138,go_sem];try rfl) rfl ?_
     exact cell_no HZ.out (by first | rfl | (simp;done) | simp_all) (below_drewN ((Below.refl _ _).alloc (Nat.le_refl _) _) nq)
   · rw [if_neg h4] at hS
     have h4' : (right == 4)=false:=by simpa using h4
     by_cases hb:24≤(k:Int)
     · rw [if_pos hb] at hS
       have HZ:Hid (_):=hS
       clear hM hG hr hS
       unfold Mv.val
       have hb' : ¬ ((k:Int)<24):=by omega
       go_enter Tryz.func138,Tryz.ntmps138
       go_upto_region 3 with fail
       go_quiet (fail)
       go_wp2
       refine bodyPost_ret (by simp [results,Tryz.results138,go_sem];try rfl) rfl ?_
       exact cell_no HZ.out (by first | rfl | (simp;done) | simp_all) (below_drewN ((Below.refl _ _).alloc (Nat.le_refl _) _) nq)
     · rw [if_neg hb,Int.toNat_natCast] at hS
       obtain ⟨fb,fo,hfa,t0,_,_,_⟩:=hM.frame (j:=k) (by omega)
       obtain ⟨o,ho⟩:∃ o,(M.frs.getD k default).o=o:=⟨_,rfl⟩
       rw [ho] at hS t0
       have hki:(k:Int)<24:=by omega
       have lt0:=lt_of_cell t0
       unfold Mv.val
       rw [hfa,hl]
       clear hM hG hr ho
       by_cases hoz:o=0
       · rw [if_pos hoz] at hS
         have HZ:Hid (_):=hS
         clear hS
         subst hoz
         go_enter Tryz.func138,Tryz.ntmps138
         go_upto_region 3 with fail
         go_quiet (fail)
         go_wp2
         refine bodyPost_ret (by simp [results,Tryz.results138,go_sem];try rfl) rfl ?_
         exact cell_yes HZ.out (by first | rfl | (simp;done) | simp_all) rfl (below_drewN ((Below.refl _ _).alloc (Nat.le_refl _) _) nq)
       · rw [if_neg hoz] at hS
         have HZ:Hid (_):=hS
         clear hS
         have hoz' : (o == 0)=false:=by simpa using hoz
         go_enter Tryz.func138,Tryz.ntmps138
         go_upto_region 3 with fail
         go_quiet (fail)
         go_wp2
         refine bodyPost_ret (by simp [results,Tryz.results138,go_sem];try rfl) rfl ?_
         exact cell_no HZ.out (by first | rfl | (simp;done) | simp_all) (below_drewN ((Below.refl _ _).alloc (Nat.le_refl _) _) nq)
 · rw [if_neg h64] at hS
   have hq:Int.tdiv n 8=n / 8:=Int.tdiv_eq_ediv_of_nonneg h0
   have hq2:IntKind.i64.wrap (n / 8)=n / 8:=by rw [IntKind.wrap_i64];omega
   have h1:=fun w' (h:Below w.heap.size w w')=>placeOf_any M e (n / 8) w' (hM.below h)
   unfold Mv.val at h1 ⊢
   obtain ⟨z,hz⟩:∃ z,z=frmF M.frs e n right:=⟨_,rfl⟩
   rw [← hz] at hS ⊢
   clear hz
   rcases place_cases' M.frs e (n / 8) with hp | ⟨k,hp,hk⟩
   · rw [hp,if_pos (by omega)] at hS
     have HZ:Hid (_):=hS
     clear hS
     rw [hp] at h1
     clear hM hG hr hl
     go_enter Tryz.func138,Tryz.ntmps138
     go_wp2_with (go_at_call 109;refine (h1 _ ((Below.refl _ _).alloc (Nat.le_refl _) _)).mono ?_;clear h1;rintro x w1 ⟨rfl,hb⟩;have HB:Hid (Below w.heap.size w w1):=((Below.refl _ _).alloc (Nat.le_refl _) _).trans (hb.mono (by simp));skip;clear hb)
     refine bodyPost_ret (by simp [results,Tryz.results138,go_sem];try rfl) rfl ?_
     exact cell_no HZ.out (by first | rfl | (simp;done) | simp_all) HB.out
   · rw [hp,if_neg (by omega),Int.toNat_natCast] at hS
     rw [hp] at h1
     obtain ⟨fb,fo,hfa,_,_,t2,_⟩:=hM.frame (j:=k) hk
     obtain ⟨r,hrr⟩:∃ r,(M.frs.getD k default).r=r:=⟨_,rfl⟩
     have hg:=goodFr_iff.1 (hG.fr k (by omega))
     have r7:=inB_iff.1 hg.2.2.2.1
     rw [hrr] at hS t2 r7
     obtain ⟨r0,r8⟩:=r7
     have hki:(k:Int)<24:=by omega
     rw [hfa,hl] at h1 ⊢
     have hge:¬ ((k:Int)<0):=by omega
     have lt2:=lt_of_cell t2
     dsimp only at lt2
     have T2:Hid (_):=t2
     have HS:Hid (_):=hS
     clear hM hG hg hl t2 hrr hS hp hk hfa
     rcases hr with rfl | rfl | rfl
     · have HX:hasR r 1=(r % 2 == 1):=rfl
       have HXX:Hid (_):=HX
       clear HX
       go_enter Tryz.func138,Tryz.ntmps138
       go_wp2_with (go_at_call 109;refine (h1 _ ((Below.refl _ _).alloc (Nat.le_refl _) _)).mono ?_;clear h1;rintro x w1 ⟨rfl,hb⟩;have HB:Hid (Below w.heap.size w w1):=((Below.refl _ _).alloc (Nat.le_refl _) _).trans (hb.mono (by simp));have d0:w1.cell? ⟨w.heap.size,0,none⟩=some (.slice (some ⟨fb,fo,none⟩) 24 M.fcap):=(hb.cell (p:=⟨w.heap.size,0,none⟩) (by simp)).trans (by simp [go_sem]);have t2:=(HB.out.cell (p:=⟨fb,fo+k * 4+2,none⟩) lt2).trans T2.out;clear hb)
       refine bodyPost_ret (by simp [results,Tryz.results138,go_sem];try rfl) rfl ?_
       cases hh:(r % 2 == 1) with
       | true=>exact cell_yes (by rw [HS.out,HXX.out,hh];rfl) rfl rfl HB.out
       | false=>exact cell_no (by rw [HS.out,HXX.out,hh];rfl) rfl HB.out
     · have HX:hasR r 2=(r / 2 % 2 == 1):=rfl
       have HXX:Hid (_):=HX
       clear HX
       go_enter Tryz.func138,Tryz.ntmps138
       go_wp2_with (go_at_call 109;refine (h1 _ ((Below.refl _ _).alloc (Nat.le_refl _) _)).mono ?_;clear h1;rintro x w1 ⟨rfl,hb⟩;have HB:Hid (Below w.heap.size w w1):=((Below.refl _ _).alloc (Nat.le_refl _) _).trans (hb.mono (by simp));have d0:w1.cell? ⟨w.heap.size,0,none⟩=some (.slice (some ⟨fb,fo,none⟩) 24 M.fcap):=(hb.cell (p:=⟨w.heap.size,0,none⟩) (by simp)).trans (by simp [go_sem]);have t2:=(HB.out.cell (p:=⟨fb,fo+k * 4+2,none⟩) lt2).trans T2.out;clear hb)
       refine bodyPost_ret (by simp [results,Tryz.results138,go_sem];try rfl) rfl ?_
       cases hh:(r / 2 % 2 == 1) with
       | true=>exact cell_yes (by rw [HS.out,HXX.out,hh];rfl) rfl rfl HB.out
       | false=>exact cell_no (by rw [HS.out,HXX.out,hh];rfl) rfl HB.out
     · have HX:hasR r 4=(r / 4 == 1):=rfl
       have HXX:Hid (_):=HX
       clear HX
       go_enter Tryz.func138,Tryz.ntmps138
       go_wp2_with (go_at_call 109;refine (h1 _ ((Below.refl _ _).alloc (Nat.le_refl _) _)).mono ?_;clear h1;rintro x w1 ⟨rfl,hb⟩;have HB:Hid (Below w.heap.size w w1):=((Below.refl _ _).alloc (Nat.le_refl _) _).trans (hb.mono (by simp));have d0:w1.cell? ⟨w.heap.size,0,none⟩=some (.slice (some ⟨fb,fo,none⟩) 24 M.fcap):=(hb.cell (p:=⟨w.heap.size,0,none⟩) (by simp)).trans (by simp [go_sem]);have t2:=(HB.out.cell (p:=⟨fb,fo+k * 4+2,none⟩) lt2).trans T2.out;clear hb)
       refine bodyPost_ret (by simp [results,Tryz.results138,go_sem];try rfl) rfl ?_
       cases hh:(r / 4 == 1) with
       | true=>exact cell_yes (by rw [HS.out,HXX.out,hh];rfl) rfl rfl HB.out
       | false=>exact cell_no (by rw [HS.out,HXX.out,hh];rfl) rfl HB.out
end Go.Proofs.YtdngbojbpmdegaaGreatDoor
