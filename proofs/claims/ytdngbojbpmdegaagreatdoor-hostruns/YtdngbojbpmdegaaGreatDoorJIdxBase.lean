import Derived.Test.YtdngbojbpmdegaaGreatDoorJOpenCells
import Derived.DeepKeys
namespace Go.Proofs.YtdngbojbpmdegaaGreatDoor
open Go.ChangeShapes Go.WideShapes Go.ChangeAt Go.RowKit Go.Joins
def RowsAt {α:Type} [Inhabited α] (w:World) (c:Nat) (cells:α→List Value) (a:Option Addr) (xs:List α):Prop:=
 xs = []∨∃ b off,a=some ⟨b,off,none⟩∧∀ j,j<xs.length→∀ i,i<c→w.cell? ⟨b,off+j * c+i,none⟩=(cells (xs.getD j default))[i]?
theorem cells_at {w:World} {base n:Nat} {a:Addr} {cs:List Value} (h:w.cells? base a n=some cs):cs.length=n∧∀ i,i<n→w.cell? (a.add i)=cs[i]?:=by
 obtain ⟨_,h2,h3⟩:=World.cells?_some h
 refine ⟨h2,fun i hi=>?_⟩
 rw [h3 i (by omega)]
theorem open_rows {α:Type} [Inhabited α] {H:Type} {enc:TypeId × Value→H} {W:World} {base fuel:Nat} {sp:Nat→Bool} {full:Bool} {t e:TypeId} {v:Value} {x:DataW H × List MemPlace}
 (c B:Nat) (cells:α→List Value) (Ok:α→Prop) (Wt:α→Prop) (h0:0<c) (ht:Tryz.prog.underlying t=some (.slice e)) (hc:Tryz.prog.cellsOf e=c) (hB:Tryz.prog.bytesOf e=B)
 (hcl:∀ q,(cells q).length=c)
 (each:∀ n cs' d pl,DataW.trod enc Tryz.prog W base sp full n e cs' = some (d,pl)→∃ q:α,cs' = cells q∧Ok q∧((∀ n ∈ d.weights Tryz.prog e,n≤reachBytes)→Wt q))
 (h:DataW.trod enc Tryz.prog W base sp full fuel t [v]=some x) :
 ∃ a cap,∃ xs:List α,v=.slice a xs.length cap∧(xs.length≤maxLen∧xs.length≤cap)∧RowsAt W c cells a xs∧(∀ j,j<xs.length→Ok (xs.getD j default))∧
   ((∀ n ∈ x.1.weights Tryz.prog t,n≤reachBytes)→xs.length * B≤140737488351232∧∀ j,j<xs.length→Wt (xs.getD j default)):=by
 rcases Go.Deep.open_slice ht h with ⟨hcs,_⟩ | ⟨y,l,cp,m,n,D,Pl,hcs,_,hl,hm,hmm,hxd,hx⟩
 · simp at hcs
   subst hcs
   exact ⟨_,_,[],rfl,⟨Nat.zero_le _,Nat.zero_le _⟩,.inl rfl,fun j hj=>absurd hj (by simp),fun _=>⟨by simp,fun j hj=>absurd hj (by simp)⟩⟩
 · simp at hcs
   subst hcs
   have hlm:l≤m:=by rw [hmm];split<;>omega
   have each' : ∀ i,i<l→∃ q:α,(∀ k,k<c→W.cell? ((y.add (i * c)).add k)=(cells q)[k]?)∧Ok q∧((∀ n ∈ (D i).weights Tryz.prog e,n≤reachBytes)→Wt q):=by
    intro i hi
    obtain ⟨cs',h1,h2⟩:=hx i (by omega)
    rw [hc] at h1
    obtain ⟨_,h3⟩:=cells_at h1
    obtain ⟨q,rfl,hq,hw⟩:=each _ _ _ _ h2
    exact ⟨q,h3,hq,hw⟩
   obtain ⟨F,hF⟩:=Go.Deep.choose_lt each'
   refine ⟨some y,cp,(List.range l).map F,by simp,⟨by simp;omega,by simp;omega⟩,?_,fun j hj=>?_,fun hb=>⟨?_,fun j hj=>?_⟩⟩
   · by_cases hl0:l=0
     · left;simp [hl0]
     · right
       obtain ⟨b,off,spot⟩:=y
       have h:=(hF 0 (by omega)).1 0 h0
       have hspot:spot=none:=by
        have hk:(cells (F 0))[0]? = some ((cells (F 0))[0]'(by rw [hcl];exact h0)):=by simp [hcl,h0]
        rw [hk] at h
        simpa [Addr.add] using World.cell?_spot h
       subst hspot
       refine ⟨b,off,rfl,fun j hj i hi=>?_⟩
       have hj' : j<l:=by simpa using hj
       have:=(hF j hj').1 i hi
       rw [add_at,add_at] at this
       simpa [List.getD_eq_getElem?_getD,hj'] using this
   · have hj' : j<l:=by simpa using hj
     have:=(hF j hj').2.1
     simpa [List.getD_eq_getElem?_getD,hj'] using this
   · simp only [hxd] at hb
     have:=hb ((l+(m - l)) * B) (by simp only [DataW.weights,ht,hB];simp)
     unfold reachBytes at this
     have h2:l * B≤(l+(m - l)) * B:=Nat.mul_le_mul_right _ (by omega)
     simp
     omega
   · have hj' : j<l:=by simpa using hj
     have:=(hF j hj').2.2 fun n hn=>hb n (by
      simp only [hxd]
      simp only [DataW.weights,ht,List.mem_cons,List.mem_append]
      exact .inr (.inl (weightsAll_mem (d:=D j) (by simp;exact ⟨j,hj',rfl⟩) n hn)))
     simpa [List.getD_eq_getElem?_getD,hj'] using this
structure Fr where
 o:Int
 at_:Int
 r:Int
 a:Option Addr
 ws:List Int
 cap:Nat
instance:Inhabited Fr:=⟨⟨0,0,0,none,[],0⟩⟩
def Fr.cells (p:Fr):List Value:=[.int .i64 p.o,.int .i64 p.at_,.int .i64 p.r,.slice p.a p.ws.length p.cap]
structure Fr.Ok (w:World) (p:Fr):Prop where
 wo:(Lit.int .i64 p.o).wf=true
 wat:(Lit.int .i64 p.at_).wf=true
 wr:(Lit.int .i64 p.r).wf=true
 len:p.ws.length≤maxLen
 ints:Ints w p.a p.ws
 wws:∀ n ∈ p.ws,(Lit.int .i64 n).wf=true
structure En where
 st:Int
 log:ByteArray
 pc:Int
 g0:Int
 g1:Int
 g2:Int
 g3:Int
instance:Inhabited En:=⟨⟨0,ByteArray.empty,0,0,0,0,0⟩⟩
def En.cells (p:En):List Value:=[.int .i64 p.st,.string p.log,.int .i64 p.pc,.int .i64 p.g0,.int .i64 p.g1,.int .i64 p.g2,.int .i64 p.g3]
structure En.Ok (p:En):Prop where
 wst:(Lit.int .i64 p.st).wf=true
 len:p.log.size≤maxLen
 wpc:(Lit.int .i64 p.pc).wf=true
 w0:(Lit.int .i64 p.g0).wf=true
 w1:(Lit.int .i64 p.g1).wf=true
 w2:(Lit.int .i64 p.g2).wf=true
 w3:(Lit.int .i64 p.g3).wf=true
structure Qu where
 log:ByteArray
 data:Int
instance:Inhabited Qu:=⟨⟨ByteArray.empty,0⟩⟩
def Qu.cells (p:Qu):List Value:=[.string p.log,.int .i64 p.data]
structure Qu.Ok (p:Qu):Prop where
 len:p.log.size≤maxLen
 wd:(Lit.int .i64 p.data).wf=true
structure Mv where
 fa:Option Addr
 frs:List Fr
 fcap:Nat
 ea:Option Addr
 ens:List En
 ecap:Nat
 qa:Option Addr
 qus:List Qu
 qcap:Nat
def Mv.val (M:Mv):Value:=.agg #[.slice M.fa M.frs.length M.fcap,.slice M.ea M.ens.length M.ecap,.slice M.qa M.qus.length M.qcap]
structure MachAt (w:World) (M:Mv):Prop where
 fr:RowsAt w 4 Fr.cells M.fa M.frs
 frl:M.frs.length≤maxLen
 frc:M.frs.length≤M.fcap
 frok:∀ j,j<M.frs.length→(M.frs.getD j default).Ok w
 en:RowsAt w 7 En.cells M.ea M.ens
 enl:M.ens.length≤maxLen
 enok:∀ j,j<M.ens.length→(M.ens.getD j default).Ok
 qu:RowsAt w 2 Qu.cells M.qa M.qus
 qul:M.qus.length≤maxLen
 quok:∀ j,j<M.qus.length→(M.qus.getD j default).Ok
structure Mv.Fits (M:Mv):Prop where
 fr:M.frs.length * 48≤140737488351232
 ws:∀ j,j<M.frs.length→(M.frs.getD j default).ws.length * 8≤140737488351232
 en:M.ens.length * 64≤140737488351232
 qu:M.qus.length * 24≤140737488351232
theorem open_text_cell {H:Type} {enc:TypeId × Value→H} {W:World} {base fuel:Nat} {sp:Nat→Bool} {full:Bool} {v:Value} {x:DataW H × List MemPlace}
 (h:DataW.trod enc Tryz.prog W base sp full fuel 9 [v]=some x):∃ s,v=.string s∧s.size≤maxLen:=by
 obtain ⟨s,e0,_,wn⟩:=DataW.trod_string Tryz.underlying9 h
 simp at e0
 exact ⟨s,e0,wn⟩
theorem list7 {α:Type} {l:List α} (h:l.length=7):∃ a b c d e f g,l = [a,b,c,d,e,f,g]:=by
 match l,h with
 | [a,b,c,d,e,f,g],_=>exact ⟨a,b,c,d,e,f,g,rfl⟩
theorem RowsAt.below {α:Type} [Inhabited α] {w w' : World} {c:Nat} {cells:α→List Value} {a:Option Addr} {xs:List α} (hcl:∀ q,(cells q).length=c) (h:RowsAt w c cells a xs) (hb:Below w.heap.size w w'):RowsAt w' c cells a xs:=by
 rcases h with h | ⟨b,off,h1,h2⟩
 · exact .inl h
 · refine .inr ⟨b,off,h1,fun j hj i hi=>?_⟩
   have:=h2 j hj i hi
   have hk:(cells (xs.getD j default))[i]? = some ((cells (xs.getD j default))[i]'(by rw [hcl];exact hi)):=by simp [hcl,hi]
   rw [hk] at this ⊢
   exact (hb.cell (p:=⟨b,_,none⟩) (lt_of_cell this)).trans this
theorem Fr.Ok.below {w w' : World} {p:Fr} (h:p.Ok w) (hb:Below w.heap.size w w'):p.Ok w':=⟨h.wo,h.wat,h.wr,h.len,h.ints.below hb,h.wws⟩
theorem MachAt.below {w w' : World} {M:Mv} (h:MachAt w M) (hb:Below w.heap.size w w'):MachAt w' M:=
 ⟨h.fr.below (fun _=>rfl) hb,h.frl,h.frc,fun j hj=>(h.frok j hj).below hb,h.en.below (fun _=>rfl) hb,h.enl,h.enok,h.qu.below (fun _=>rfl) hb,h.qul,h.quok⟩
theorem MachAt.frame {w:World} {M:Mv} (h:MachAt w M) {j:Nat} (hj:j<M.frs.length):∃ b off,M.fa=some ⟨b,off,none⟩∧w.cell? ⟨b,off+j * 4,none⟩=some (.int .i64 (M.frs.getD j default).o)∧
 w.cell? ⟨b,off+j * 4+1,none⟩=some (.int .i64 (M.frs.getD j default).at_)∧w.cell? ⟨b,off+j * 4+2,none⟩=some (.int .i64 (M.frs.getD j default).r)∧
 w.cell? ⟨b,off+j * 4+3,none⟩=some (.slice (M.frs.getD j default).a (M.frs.getD j default).ws.length (M.frs.getD j default).cap):=by
 rcases h.fr with h | ⟨b,off,h1,h2⟩
 · rw [h] at hj;simp at hj
 · exact ⟨b,off,h1,h2 j hj 0 (by omega),h2 j hj 1 (by omega),h2 j hj 2 (by omega),h2 j hj 3 (by omega)⟩
theorem MachAt.enclave {w:World} {M:Mv} (h:MachAt w M) {j:Nat} (hj:j<M.ens.length):∃ b off,M.ea=some ⟨b,off,none⟩∧w.cell? ⟨b,off+j * 7,none⟩=some (.int .i64 (M.ens.getD j default).st)∧
 w.cell? ⟨b,off+j * 7+1,none⟩=some (.string (M.ens.getD j default).log)∧w.cell? ⟨b,off+j * 7+2,none⟩=some (.int .i64 (M.ens.getD j default).pc)∧
 w.cell? ⟨b,off+j * 7+3,none⟩=some (.int .i64 (M.ens.getD j default).g0)∧w.cell? ⟨b,off+j * 7+4,none⟩=some (.int .i64 (M.ens.getD j default).g1)∧
 w.cell? ⟨b,off+j * 7+5,none⟩=some (.int .i64 (M.ens.getD j default).g2)∧w.cell? ⟨b,off+j * 7+6,none⟩=some (.int .i64 (M.ens.getD j default).g3):=by
 rcases h.en with h | ⟨b,off,h1,h2⟩
 · rw [h] at hj;simp at hj
 · exact ⟨b,off,h1,h2 j hj 0 (by omega),h2 j hj 1 (by omega),h2 j hj 2 (by omega),h2 j hj 3 (by omega),h2 j hj 4 (by omega),h2 j hj 5 (by omega),h2 j hj 6 (by omega)⟩
theorem MachAt.quote {w:World} {M:Mv} (h:MachAt w M) {j:Nat} (hj:j<M.qus.length):∃ b off,M.qa=some ⟨b,off,none⟩∧w.cell? ⟨b,off+j * 2,none⟩=some (.string (M.qus.getD j default).log)∧
 w.cell? ⟨b,off+j * 2+1,none⟩=some (.int .i64 (M.qus.getD j default).data):=by
 rcases h.qu with h | ⟨b,off,h1,h2⟩
 · rw [h] at hj;simp at hj
 · exact ⟨b,off,h1,h2 j hj 0 (by omega),h2 j hj 1 (by omega)⟩
end Go.Proofs.YtdngbojbpmdegaaGreatDoor

namespace Go.Proofs.YtdngbojbpmdegaaGreatDoor
theorem eq_items {d:Nat} {x0 x1 x2 x3 y0 y1 y2 y3:Value} {r0 r1 r2 r3:Bool} (w:World)
 (h0:(Op.equalIn d 3 x0 y0).run Tryz.prog w=.ok r0 w) (h1:(Op.equalIn d 3 x1 y1).run Tryz.prog w=.ok r1 w) (h2:(Op.equalIn d 3 x2 y2).run Tryz.prog w=.ok r2 w) (h3:(Op.equalIn d 3 x3 y3).run Tryz.prog w=.ok r3 w) :
 (Op.eqItems d 3 1 #[x0,x1,x2,x3] #[y0,y1,y2,y3] [0,1,2,3]).run Tryz.prog w=.ok (r0 && r1 && r2 && r3) w:=by
 have p:∀ (xs:Array Value) (o:Nat) (v:Value),xs[o]? = some v→(part 3 xs o).run Tryz.prog w=.ok v w:=fun xs o v h=>run_part_plain w (by kernel_rfl) h
 have q0:∀ a b c d:Value,(part 3 #[a,b,c,d] 0).run Tryz.prog w=.ok a w:=fun a b c d=>p _ _ _ rfl
 have q1:∀ a b c d:Value,(part 3 #[a,b,c,d] 1).run Tryz.prog w=.ok b w:=fun a b c d=>p _ _ _ rfl
 have q2:∀ a b c d:Value,(part 3 #[a,b,c,d] 2).run Tryz.prog w=.ok c w:=fun a b c d=>p _ _ _ rfl
 have q3:∀ a b c d:Value,(part 3 #[a,b,c,d] 3).run Tryz.prog w=.ok d w:=fun a b c d=>p _ _ _ rfl
 clear p
 cases r0<;>cases r1<;>cases r2<;>cases r3<;>simp [Op.eqItems,q0,q1,q2,q3,h0,h1,h2,h3]
theorem eq_regs (d:Nat) (a0 a1 a2 a3 b0 b1 b2 b3:Int) (w:World) :
 (Op.equalIn (d+1+1) 56 (.agg #[.int .i64 a0,.int .i64 a1,.int .i64 a2,.int .i64 a3]) (.agg #[.int .i64 b0,.int .i64 b1,.int .i64 b2,.int .i64 b3])).run Tryz.prog w=.ok ((a0 == b0) && (a1 == b1) && (a2 == b2) && (a3 == b3)) w:=by
 obtain ⟨i,hi,_⟩:∃ i,Tryz.prog.info? 3=some i∧True:=by
  cases h:Tryz.prog.info? 3 with
  | none=>exact absurd (show (Tryz.prog.info? 3).isSome=true by kernel_rfl) (by simp [h])
  | some i=>exact ⟨i,rfl,trivial⟩
 rw [run_equalIn_array w (d+1) _ _ Tryz.underlying56 hi]
 have hc:Tryz.prog.cellsOf 3=1:=by kernel_rfl
 rw [hc]
 have e:∀ a b:Int,(Op.equalIn (d+1) 3 (.int .i64 a) (.int .i64 b)).run Tryz.prog w=.ok (a == b) w:=fun a b=>run_equalIn_int w d 3 .i64 _ a b Tryz.underlying3
 exact eq_items w (e _ _) (e _ _) (e _ _) (e _ _)
theorem part_regs (w:World) (a b c g0 g1 g2 g3:Value):(part 56 #[a,b,c,g0,g1,g2,g3] 3).run Tryz.prog w=.ok (.agg #[g0,g1,g2,g3]) w:=by
 simp [part,isAgg,run_underlying Tryz.underlying56]
theorem fields_en:(Tryz.prog.fieldsOf 58).toList.map (fun f=>(f.name,f.type,f.offset)) = [("State",3,0),("Log",9,1),("Pc",3,2),("Regs",56,3)]:=by kernel_rfl
theorem eq_fields4 {d t0 t1 t2 t3 o0 o1 o2 o3:Nat} {n0 n1 n2 n3:String} {xs ys:Array Value} {fs:List Field} (h:fs.map (fun f=>(f.name,f.type,f.offset)) = [(n0,t0,o0),(n1,t1,o1),(n2,t2,o2),(n3,t3,o3)])
 (k0:n0≠ "_") (k1:n1≠ "_") (k2:n2≠ "_") (k3:n3≠ "_") {w:World} {x0 x1 x2 x3 y0 y1 y2 y3:Value} {r0 r1 r2 r3:Bool}
 (p0:(part t0 xs o0).run Tryz.prog w=.ok x0 w) (p1:(part t1 xs o1).run Tryz.prog w=.ok x1 w) (p2:(part t2 xs o2).run Tryz.prog w=.ok x2 w) (p3:(part t3 xs o3).run Tryz.prog w=.ok x3 w)
 (q0:(part t0 ys o0).run Tryz.prog w=.ok y0 w) (q1:(part t1 ys o1).run Tryz.prog w=.ok y1 w) (q2:(part t2 ys o2).run Tryz.prog w=.ok y2 w) (q3:(part t3 ys o3).run Tryz.prog w=.ok y3 w)
 (e0:(Op.equalIn d t0 x0 y0).run Tryz.prog w=.ok r0 w) (e1:(Op.equalIn d t1 x1 y1).run Tryz.prog w=.ok r1 w) (e2:(Op.equalIn d t2 x2 y2).run Tryz.prog w=.ok r2 w) (e3:(Op.equalIn d t3 x3 y3).run Tryz.prog w=.ok r3 w) :
 (Op.eqFields d xs ys fs).run Tryz.prog w=.ok (r0 && r1 && r2 && r3) w:=by
 match fs,h with
 | [f0,f1,f2,f3],h =>
   simp only [List.map_cons,List.map_nil,List.cons.injEq,Prod.mk.injEq,and_true] at h
   obtain ⟨⟨rfl,rfl,rfl⟩,⟨rfl,rfl,rfl⟩,⟨rfl,rfl,rfl⟩,⟨rfl,rfl,rfl⟩⟩:=h
   cases r0<;>cases r1<;>cases r2<;>cases r3<;>simp [Op.eqFields,k0,k1,k2,k3,p0,p1,p2,p3,q0,q1,q2,q3,e0,e1,e2,e3]
theorem fields_qu:(Tryz.prog.fieldsOf 90).toList.map (fun f=>(f.name,f.type,f.offset)) = [("Log",9,0),("Data",3,1)]:=by kernel_rfl
theorem eq_fields2 {d t0 t1 o0 o1:Nat} {n0 n1:String} {xs ys:Array Value} {fs:List Field} (h:fs.map (fun f=>(f.name,f.type,f.offset)) = [(n0,t0,o0),(n1,t1,o1)])
 (k0:n0≠ "_") (k1:n1≠ "_") {w:World} {x0 x1 y0 y1:Value} {r0 r1:Bool}
 (p0:(part t0 xs o0).run Tryz.prog w=.ok x0 w) (p1:(part t1 xs o1).run Tryz.prog w=.ok x1 w)
 (q0:(part t0 ys o0).run Tryz.prog w=.ok y0 w) (q1:(part t1 ys o1).run Tryz.prog w=.ok y1 w)
 (e0:(Op.equalIn d t0 x0 y0).run Tryz.prog w=.ok r0 w) (e1:(Op.equalIn d t1 x1 y1).run Tryz.prog w=.ok r1 w) :
 (Op.eqFields d xs ys fs).run Tryz.prog w=.ok (r0 && r1) w:=by
 match fs,h with
 | [f0,f1],h =>
   simp only [List.map_cons,List.map_nil,List.cons.injEq,Prod.mk.injEq,and_true] at h
   obtain ⟨⟨rfl,rfl,rfl⟩,⟨rfl,rfl,rfl⟩⟩:=h
   cases r0<;>cases r1<;>simp [Op.eqFields,k0,k1,p0,p1,q0,q1,e0,e1]
theorem eq_quote (d:Nat) (l l' : ByteArray) (n n' : Int) (w:World) :
 (Op.equalIn (d+1+1) 90 (.agg #[.string l,.int .i64 n]) (.agg #[.string l',.int .i64 n'])).run Tryz.prog w=.ok ((l.toList == l'.toList) && (n == n')) w:=by
 rw [run_equalIn_struct w (d+1) 90 _ _ (by kernel_rfl) (by kernel_rfl)]
 refine eq_fields2 fields_qu (by decide) (by decide) (run_part_plain w (by kernel_rfl) rfl) (run_part_plain w (by kernel_rfl) rfl) (run_part_plain w (by kernel_rfl) rfl) (run_part_plain w (by kernel_rfl) rfl)
  (run_equalIn_string w d 9 _ _ Tryz.underlying9) (run_equalIn_int w d 3 .i64 _ _ _ Tryz.underlying3)
theorem eq_enclave (d:Nat) (st pc g0 g1 g2 g3 st' pc' g0' g1' g2' g3' : Int) (l l' : ByteArray) (w:World) :
 (Op.equalIn (d+1+1+1) 58 (.agg #[.int .i64 st,.string l,.int .i64 pc,.int .i64 g0,.int .i64 g1,.int .i64 g2,.int .i64 g3]) (.agg #[.int .i64 st',.string l',.int .i64 pc',.int .i64 g0',.int .i64 g1',.int .i64 g2',.int .i64 g3'])).run Tryz.prog w =
   .ok ((st == st') && (l.toList == l'.toList) && (pc == pc') && ((g0 == g0') && (g1 == g1') && (g2 == g2') && (g3 == g3'))) w:=by
 rw [run_equalIn_struct w (d+1+1) 58 _ _ (by kernel_rfl) (by kernel_rfl)]
 refine eq_fields4 fields_en (by decide) (by decide) (by decide) (by decide) (run_part_plain w (by kernel_rfl) rfl) (run_part_plain w (by kernel_rfl) rfl) (run_part_plain w (by kernel_rfl) rfl) (part_regs w _ _ _ _ _ _ _)
  (run_part_plain w (by kernel_rfl) rfl) (run_part_plain w (by kernel_rfl) rfl) (run_part_plain w (by kernel_rfl) rfl) (part_regs w _ _ _ _ _ _ _)
  (run_equalIn_int w (d+1) 3 .i64 _ _ _ Tryz.underlying3) (run_equalIn_string w (d+1) 9 _ _ Tryz.underlying9) (run_equalIn_int w (d+1) 3 .i64 _ _ _ Tryz.underlying3) (eq_regs d _ _ _ _ _ _ _ _ w)
theorem text_empty {l:ByteArray} (h:¬ l.size=0):l.toList.isEmpty=false:=by
 rw [ByteArray.toList_eq]
 cases e:l.data.toList with
 | nil=>exact absurd (show l.size=0 by have:=congrArg List.length e;rw [Array.length_toList] at this;exact this) h
 | cons a t=>rfl
end Go.Proofs.YtdngbojbpmdegaaGreatDoor

namespace Go.Proofs.YtdngbojbpmdegaaGreatDoor
open Go.RowKit
theorem isWord_any (n:Int) (w:World):Calls Tryz.prog 77 #[.int .i64 n] w fun e w'=>e=.returned (.bool (inB n 0 65535))∧w=w':=by
 by_cases h1:0≤n
 · by_cases h2:n≤65535
   · rw [inB_true h1 h2]
     go_enter Tryz.func77,Tryz.ntmps77
     go_wp2
     go_ret
     exact ⟨rfl,rfl⟩
   · rw [inB_high h2]
     go_enter Tryz.func77,Tryz.ntmps77
     go_wp2
     go_ret
     exact ⟨rfl,rfl⟩
 · rw [inB_low h1]
   go_enter Tryz.func77,Tryz.ntmps77
   go_wp2
   go_ret
   exact ⟨rfl,rfl⟩
theorem noWord2_any (n:Int) (w:World):Calls Tryz.prog 116 #[.int .i64 n] w fun e w'=>e=.returned (.bool (!inB n 0 65535))∧w=w':=by
 have h:=isWord_any n w
 generalize inB n 0 65535=b at h ⊢
 go_enter Tryz.func116,Tryz.ntmps116
 go_wp2_with (go_at_call 77;refine h.mono ?_;rintro e w' ⟨rfl,rfl⟩)
 go_ret
 exact ⟨rfl,rfl⟩
set_option maxHeartbeats 400000 in
theorem index2_any (a:Option Addr) (xs:List Int) (cap:Nat) (w:World) (hl:xs.length≤maxLen) (hx:Ints w a xs) :
 Calls Tryz.prog 121 #[.slice a xs.length cap,.func (.func 116) #[] #[]] w fun e w' =>
  ∃ n:Int,e=.returned (.int .i64 n)∧(decide (0≤n) = !(xs.all fun n=>inB n 0 65535))∧w=w':=by
 unfold maxLen at hl
 rcases hx with rfl | ⟨b,off,rfl,hc⟩
 · go_enter Tryz.func121,Tryz.ntmps121
   go_wp2
   refine wp_loop_rounds 1 ?_
   rw [rounds_succ]
   go_wp2
   go_ret
   exact ⟨_,rfl,rfl,rfl⟩
 · go_enter Tryz.func121,Tryz.ntmps121
   go_wp2
   go_loop [8] (fun i=>∃ k:Nat,k≤xs.length∧i=.int .i64 k∧Hid (∀ j,j<k→inB (xs.getD j 0) 0 65535=true)) (fun i=>xs.length - (intOf i).toNat)
   case atStart=>exact ⟨0,Nat.zero_le _,rfl,fun j hj=>absurd hj (by omega)⟩
   case round =>
    obtain ⟨k,hk,rfl,hid⟩:=hrel
    by_cases hlt:k<xs.length
    · have hck:=hc k hlt
      obtain ⟨z,hz⟩:∃ z,xs.getD k 0=z:=⟨_,rfl⟩
      rw [hz] at hck
      clear hc
      cases hg:inB z 0 65535 with
      | true =>
        have HG:Hid (inB (xs.getD k 0) 0 65535=true):=by rw [hz];exact hg
        clear hz
        go_wp2_with (go_at_call 116;refine (noWord2_any _ _).mono ?_;rintro e w' ⟨rfl,rfl⟩)
        go_round
        case rel=>exact ⟨k+1,by omega,by go_num,hid_snoc hid HG.out⟩
        case measure=>simp [intOf];omega
      | false =>
        have HG:Hid (inB (xs.getD k 0) 0 65535=false):=by rw [hz];exact hg
        clear hz
        go_wp2_with (go_at_call 116;refine (noWord2_any _ _).mono ?_;rintro e w' ⟨rfl,rfl⟩)
        go_ret
        exact ⟨_,rfl,any_of xs k hlt HG.out,rfl⟩
    · have hkl:k=xs.length:=by omega
      subst hkl
      go_wp2
      go_ret
      exact ⟨_,rfl,none_of xs hid.out,rfl⟩
theorem contains2_any (a:Option Addr) (xs:List Int) (cap:Nat) (w:World) (hl:xs.length≤maxLen) (hx:Ints w a xs) :
 Calls Tryz.prog 85 #[.slice a xs.length cap,.func (.func 116) #[] #[]] w fun e w' =>
  e=.returned (.bool (!(xs.all fun n=>inB n 0 65535)))∧w=w':=by
 have hI:=index2_any a xs cap w hl hx
 clear hx hl
 go_enter Tryz.func85,Tryz.ntmps85
 go_wp2_with (go_at_call 121;refine hI.mono ?_;rintro e w' ⟨n,rfl,hn,rfl⟩)
 go_ret
 exact ⟨ret_bool (by first | exact hn | (rw [← hn])),rfl⟩
def En.words (e:En):Bool:=inB e.g0 0 65535 && inB e.g1 0 65535 && inB e.g2 0 65535 && inB e.g3 0 65535
def En.zeros (e:En):Bool:=(e.g0 == 0) && (e.g1 == 0) && (e.g2 == 0) && (e.g3 == 0)
def En.good (e:En):Bool:=inB e.st 0 4 && decide (e.log.size≤1000) && ((e.st != 0) || (e.log.size == 0)) && (if e.st=3 then inB e.pc 0 65535 && e.words else (e.pc == 0) && e.zeros)
theorem words_all (g0 g1 g2 g3:Int):([g0,g1,g2,g3].all fun n=>inB n 0 65535)=(inB g0 0 65535 && inB g1 0 65535 && inB g2 0 65535 && inB g3 0 65535):=by
 simp [Bool.and_assoc]
theorem ba_empty {l:ByteArray} (h:l.size=0):l=ByteArray.empty:=by
 apply ByteArray.ext
 exact Array.eq_empty_of_size_eq_zero h
set_option maxHeartbeats 1600000 in
theorem isEnclave_any (st pc g0 g1 g2 g3:Int) (lg:ByteArray) (w:World) (hl:lg.size≤maxLen) :
 Calls Tryz.prog 75 #[.agg #[.int .i64 st,.string lg,.int .i64 pc,.int .i64 g0,.int .i64 g1,.int .i64 g2,.int .i64 g3]] w fun e w' =>
  e=.returned (.bool (En.good ⟨st,lg,pc,g0,g1,g2,g3⟩))∧Below w.heap.size w w':=by
 have hI:=fun (w' : World) (b:Nat) (h:Ints w' (some ⟨b,3,none⟩) [g0,g1,g2,g3])=>contains2_any (some ⟨b,3,none⟩) [g0,g1,g2,g3] 4 w' (by unfold maxLen;simp) h
 simp only [words_all] at hI
 have hW:=fun w'=>isWord_any pc w'
 have B1:∀ o,Hid (Below w.heap.size w (w.alloc o)):=fun o=>(Below.refl _ _).alloc (Nat.le_refl _) _
 have I1:Hid (Ints (w.alloc (.cells #[.int .i64 st,.string lg,.int .i64 pc,.int .i64 g0,.int .i64 g1,.int .i64 g2,.int .i64 g3] 58)) (some ⟨w.heap.size,3,none⟩) [g0,g1,g2,g3]):=by
  refine .inr ⟨_,_,rfl,fun j hj=>?_⟩
  rw [World.cell?_alloc_at _ _ _ _ rfl]
  match j,hj with
  | 0,_=>rfl
  | 1,_=>rfl
  | 2,_=>rfl
  | 3,_=>rfl
 have hR:=fun w'=>eq_regs 9998 g0 g1 g2 g3 0 0 0 0 w'
 unfold maxLen at hl
 unfold En.good En.words En.zeros
 dsimp only
 by_cases c1:st<0
 · rw [inB_low (show ¬ 0≤st by omega)]
   go_enter Tryz.func75,Tryz.ntmps75
   go_wp2
   go_ret
   exact ⟨rfl,(B1 _).out⟩
 by_cases c2:4<st
 · rw [inB_high (show ¬ st≤4 by omega)]
   go_enter Tryz.func75,Tryz.ntmps75
   go_wp2
   go_ret
   exact ⟨rfl,(B1 _).out⟩
 rw [inB_true (show 0≤st by omega) (show st≤4 by omega)]
 by_cases c3:lg.size≤1000
 · have c3' : ¬ ((1000:Int)<(lg.size:Int)):=by omega
   rw [decide_eq_true c3]
   by_cases c4:st=0
   · subst c4
     by_cases c5:lg.size=0
     · obtain rfl:=ba_empty c5
       by_cases c6:pc=0
       · subst c6
         go_enter Tryz.func75,Tryz.ntmps75
         go_wp2
         go_ret
         exact ⟨ret_bool (by first | rfl | simp),(B1 _).out⟩
       · have c6' : (pc == 0)=false:=by simpa using c6
         go_enter Tryz.func75,Tryz.ntmps75
         go_wp2
         go_ret
         exact ⟨ret_bool (by first | rfl | simp [c6]),(B1 _).out⟩
     · have c5' : (lg.size == 0)=false:=by simpa using c5
       have c5'':=text_empty c5
       go_enter Tryz.func75,Tryz.ntmps75
       go_wp2
       go_ret
       exact ⟨ret_bool (by first | rfl | simp [c5]),(B1 _).out⟩
   · have c4' : (st == 0)=false:=by simpa using c4
     by_cases c7:st=3
     · subst c7
       generalize inB pc 0 65535=q at hW
       generalize (inB g0 0 65535 && inB g1 0 65535 && inB g2 0 65535 && inB g3 0 65535)=qq at hI
       cases q with
       | false =>
         go_enter Tryz.func75,Tryz.ntmps75
         go_wp2_with (go_at_call 77;refine (hW _).mono ?_;rintro e w' ⟨rfl,rfl⟩)
         go_ret
         exact ⟨ret_bool (by first | rfl | simp),(B1 _).out⟩
       | true =>
         go_enter Tryz.func75,Tryz.ntmps75
         go_wp2_with (first | (go_at_call 77;refine (hW _).mono ?_;rintro e w' ⟨rfl,rfl⟩) | (go_at_call 85;refine (hI _ _ I1.out).mono ?_;rintro e w' ⟨rfl,rfl⟩) | fail)
         go_ret
         exact ⟨ret_bool (by first | rfl | simp),(B1 _).out⟩
     · have c7' : (st != 3)=true:=by simpa using c7
       rw [if_neg c7]
       by_cases c6:pc=0
       · subst c6
         go_enter Tryz.func75,Tryz.ntmps75
         go_wp2
         go_ret
         exact ⟨ret_bool (by first | rfl | simp [c4]),(B1 _).out⟩
       · have c6' : (pc == 0)=false:=by simpa using c6
         go_enter Tryz.func75,Tryz.ntmps75
         go_wp2
         go_ret
         exact ⟨ret_bool (by first | rfl | simp [c6]),(B1 _).out⟩
 · have c3' : (1000:Int)<(lg.size:Int):=by omega
   rw [decide_eq_false c3]
   go_enter Tryz.func75,Tryz.ntmps75
   go_wp2
   go_ret
   exact ⟨ret_bool (by first | rfl | simp),(B1 _).out⟩
end Go.Proofs.YtdngbojbpmdegaaGreatDoor

namespace Go.Proofs.YtdngbojbpmdegaaGreatDoor
open Go.RowKit
set_option maxHeartbeats 400000 in
theorem checkPage_any (p r:Int) (a:Option Addr) (xs:List Int) (cap:Nat) (w:World) (hr:(Lit.int .i64 r).wf=true) (hl:xs.length≤maxLen) (hx:Ints w a xs) :
 Calls Tryz.prog 115 #[.agg #[.int .i64 p,.int .i64 r,.slice a xs.length cap]] w fun e w'=>e=.returned (.int .i64 (pageF p r xs))∧Below w.heap.size w w':=by
 have hI:=fun o=>words_any a xs cap (w.alloc o) hl (hx.alloc o)
 have hP:=fun w=>isPlace_any p w
 have hR:=fun w=>areRights_any r w hr
 unfold pageF
 clear hl hx hr
 generalize inB p 0 7=b1 at hP ⊢
 generalize inB r 0 7=b2 at hR ⊢
 generalize mayW xs=b3 at hI ⊢
 cases b1<;>cases b2<;>cases b3
 all_goals
  go_enter Tryz.func115,Tryz.ntmps115
  go_wp2_with (first | (go_at_call 124;refine (hP _).mono ?_;rintro e w' ⟨rfl,rfl⟩) | (go_at_call 125;refine (hR _).mono ?_;rintro e w' ⟨rfl,rfl⟩) | (go_at_call 126;refine (hI _).mono ?_;rintro e w' ⟨rfl,rfl⟩))
  go_ret
  exact ⟨rfl,(Below.refl _ _).alloc (Nat.le_refl _) _⟩
end Go.Proofs.YtdngbojbpmdegaaGreatDoor

namespace Go.Proofs.YtdngbojbpmdegaaGreatDoor
open Go.RowKit
def idxOf {α:Type} (p:α→Bool) (xs:List α):Int:=match xs.findIdx? p with | some i=>i | none=>-1
theorem snoc_false {α:Type} [Inhabited α] {p:α→Bool} {xs:List α} {k:Nat} (h:Hid (∀ j,j<k→p (xs.getD j default)=false)) (hg:p (xs.getD k default)=false) :
 Hid (∀ j,j<k+1→p (xs.getD j default)=false):=fun j hj=>by
 by_cases e:j<k
 · exact h.out j e
 · have:j=k:=by omega
   subst this;exact hg
theorem idxOf_at {α:Type} [Inhabited α] {p:α→Bool} {xs:List α} {k:Nat} (hk:k<xs.length) (h:∀ j,j<k→p (xs.getD j default)=false) (hg:p (xs.getD k default)=true):idxOf p xs=(k:Int):=by
 have:xs.findIdx? p=some k:=by
  rw [List.findIdx?_eq_some_iff_getElem]
  refine ⟨hk,by simpa [List.getD_eq_getElem?_getD,hk] using hg,fun j hj=>?_⟩
  have:=h j hj
  simp [List.getD_eq_getElem?_getD,show j<xs.length by omega] at this
  simp [this]
 simp [idxOf,this]
theorem idxOf_none {α:Type} [Inhabited α] {p:α→Bool} {xs:List α} (h:∀ j,j<xs.length→p (xs.getD j default)=false):idxOf p xs=-1:=by
 have:xs.findIdx? p=none:=by
  rw [List.findIdx?_eq_none_iff]
  intro x hx
  obtain ⟨i,hi,rfl⟩:=List.getElem_of_mem hx
  have:=h i hi
  simpa [List.getD_eq_getElem?_getD,hi] using this
 simp [idxOf,this]
theorem idxOf_any {α:Type} (p:α→Bool) (xs:List α):decide (0≤idxOf p xs)=xs.any p:=by
 unfold idxOf
 cases h:xs.findIdx? p with
 | none =>
   rw [List.findIdx?_eq_none_iff] at h
   have:xs.any p=false:=by rw [List.any_eq_false];intro x hx;simp [h x hx]
   simp [this]
 | some i =>
   obtain ⟨hi,hp,_⟩:=List.findIdx?_eq_some_iff_getElem.1 h
   have:xs.any p=true:=List.any_eq_true.2 ⟨_,List.getElem_mem hi,hp⟩
   simp [this]
end Go.Proofs.YtdngbojbpmdegaaGreatDoor
