import Derived.Test.YtdngbojbpmdegaaGreatDoorJRefCell
import Derived.Test.YtdngbojbpmdegaaGreatDoorJRunEnter
import Derived.Test.YtdngbojbpmdegaaGreatDoorMCopy
namespace Go.Proofs.YtdngbojbpmdegaaGreatDoor
open Go.RowKit
def ranLoop:Code→Option Code
 | .loop c=>some c
 | .seq a b=>match ranLoop a with
   | some c=>some c
   | none=>ranLoop b
 | .block _ c=>ranLoop c
 | .scope c=>ranLoop c
 | .cond _ a b=>match ranLoop a with
   | some c=>some c
   | none=>ranLoop b
 | _=>none
noncomputable def ranBody:Code:=((Tryz.f111.body.bind ranLoop).getD .skip)
set_option maxRecDepth 1000000 in
def RanF (m bm br X Y:Nat) (c0 c3 c5 c6 c7 c9 c31 c32 c246 c247 c248 c249 c250 c251 c252 c253 c254 c255 c256 c257 c258 c259 c260 c261 c262:Value) (Rel:Value→Value→World→Prop) (a:Act) (w' : World):Prop:=
 ∃ u2 u4 u13 u14 u15 u16 u17 u18 u19 u20 u21 u22 u23 u24 u25 u26 u27 u28 u29 u30 u33 u34 u35 u36 u37 u38 u39 u40 u41 u42 u43 u44 u45 u46 u47 u48 u49 u50 u51 u52 u53 u54 u55 u56 u57 u58 u59 u60 u61 u62 u63 u64 u65 u66 u67 u68 u69 u70 u71 u72 u73 u74 u75 u76 u77 u78 u79 u80 u81 u82 u83 u84 u85 u86 u87 u88 u89 u90 u91 u92 u93 u94 u95 u96 u97 u98 u99 u100 u101 u102 u103 u104 u105 u106 u107 u108 u109 u110 u111 u112 u113 u114 u115 u116 u117 u118 u119 u120 u121 u122 u123 u124 u125 u126 u127 u128 u129 u130 u131 u132 u133 u134 u135 u136 u137 u138 u139 u140 u141 u142 u143 u144 u145 u146 u147 u148 u149 u150 u151 u152 u153 u154 u155 u156 u157 u158 u159 u160 u161 u162 u163 u164 u165 u166 u167 u168 u169 u170 u171 u172 u173 u174 u175 u176 u177 u178 u179 u180 u181 u182 u183 u184 u185 u186 u187 u188 u189 u190 u191 u192 u193 u194 u195 u196 u197 u198 u199 u200 u201 u202 u203 u204 u205 u206 u207 u208 u209 u210 u211 u212 u213 u214 u215 u216 u217 u218 u219 u220 u221 u222 u223 u224 u225 u226 u227 u228 u229 u230 u231 u232 u233 u234 u235 u236 u237 u238 u239 u240 u241 u242 u243 u244 u245:Value,Rel u2 u4 w'∧a=⟨#[c0,.int .i64 ((m:Int)+1),u2,c3,u4,c5,c6,c7,.pointer (some ⟨br,0,none⟩),c9,.pointer (some ⟨X,0,none⟩),.pointer (some ⟨Y,0,none⟩),.pointer (some ⟨bm,0,none⟩),u13,u14,u15,u16,u17,u18,u19,u20,u21,u22,u23,u24,u25,u26,u27,u28,u29,u30,c31,c32,u33,u34,u35,u36,u37,u38,u39,u40,u41,u42,u43,u44,u45,u46,u47,u48,u49,u50,u51,u52,u53,u54,u55,u56,u57,u58,u59,u60,u61,u62,u63,u64,u65,u66,u67,u68,u69,u70,u71,u72,u73,u74,u75,u76,u77,u78,u79,u80,u81,u82,u83,u84,u85,u86,u87,u88,u89,u90,u91,u92,u93,u94,u95,u96,u97,u98,u99,u100,u101,u102,u103,u104,u105,u106,u107,u108,u109,u110,u111,u112,u113,u114,u115,u116,u117,u118,u119,u120,u121,u122,u123,u124,u125,u126,u127,u128,u129,u130,u131,u132,u133,u134,u135,u136,u137,u138,u139,u140,u141,u142,u143,u144,u145,u146,u147,u148,u149,u150,u151,u152,u153,u154,u155,u156,u157,u158,u159,u160,u161,u162,u163,u164,u165,u166,u167,u168,u169,u170,u171,u172,u173,u174,u175,u176,u177,u178,u179,u180,u181,u182,u183,u184,u185,u186,u187,u188,u189,u190,u191,u192,u193,u194,u195,u196,u197,u198,u199,u200,u201,u202,u203,u204,u205,u206,u207,u208,u209,u210,u211,u212,u213,u214,u215,u216,u217,u218,u219,u220,u221,u222,u223,u224,u225,u226,u227,u228,u229,u230,u231,u232,u233,u234,u235,u236,u237,u238,u239,u240,u241,u242,u243,u244,u245,c246,c247,c248,c249,c250,c251,c252,c253,c254,c255,c256,c257,c258,c259,c260,c261,c262],[]⟩
def ranMu (a:Act) (_:World):Nat:=(intOf (a.tmps.getD 4 undef)).toNat
structure RanK (n0 m bm br X Y:Nat) (w:World) (R:Rn) (k:Nat) (pc:Int) (M:Mv) (rs:List Int) (wr:World):Prop where
 lk:k≤5000
 st:RefSt n0 wr bm br M rs
 ok:RunOk M m pc rs
 same:R.Same (runR k M m pc rs xorR)
 bel:Below w.heap.size w wr
 zx:wr.heap[X]? = some (.cells #[.slice none 0 0,.slice none 0 0,.slice none 0 0] 29 (0,0))
 zy:wr.heap[Y]? = some (.cells #[.int .i64 0,.int .i64 0] 47 (0,0))
 lx:X<n0
 ly:Y<n0
 ne:X≠Y
 gx:w.heap.size≤X
 gy:w.heap.size≤Y
 gr:w.heap.size≤br
 gm:n0≤bm
 rx:br≠X
 ry:br≠Y
def RanRel (n0 m bm br X Y:Nat) (w:World) (R:Rn) (u2 u4:Value) (wr:World):Prop:=∃ (k:Nat) (pc:Int) (M:Mv) (rs:List Int),u2=.int .i64 pc∧u4=.int .i64 (k:Int)∧RanK n0 m bm br X Y w R k pc M rs wr
def RanEnd (n0 m bm br X Y:Nat) (w:World) (R:Rn) (u2 _u4:Value) (wr:World):Prop:=∃ (pc:Int) (M:Mv) (rs:List Int),u2=.int .i64 pc∧RanK n0 m bm br X Y w R 0 pc M rs wr
def RanOut (m X Y:Nat) (w:World) (R:Rn) (_ _:Value) (w' : World):Prop:=∃ N:Mv,w'.cell? ⟨X,0,none⟩=some (.slice N.fa N.frs.length N.fcap)∧w'.cell? ⟨X,1,none⟩=some (.slice N.ea N.ens.length N.ecap)∧w'.cell? ⟨X,2,none⟩=some (.slice N.qa N.qus.length N.qcap)∧w'.cell? ⟨Y,0,none⟩=some (.int .i64 R.nd)∧w'.cell? ⟨Y,1,none⟩=some (.int .i64 R.v)∧N.Same (leftM R m)∧Owned w.heap.size w' N∧Below w.heap.size w w'
theorem RanK.next {n0 m bm br X Y:Nat} {w:World} {R:Rn} {k:Nat} {pc:Int} {M:Mv} {rs:List Int} {wr:World} (h:RanK n0 m bm br X Y w R (k+1) pc M rs wr) {S:Rn} (hS:stepR M m pc rs xorR=S) (hn:S.nd=0) {M' : Mv} {w' : World} (hst:RefSt n0 w' bm br M' S.rs) (hsm:M'.Same S.M) (hb:Below w.heap.size w w') (hx:w'.heap[X]? = wr.heap[X]?) (hy:w'.heap[Y]? = wr.heap[Y]?) :
 RanK n0 m bm br X Y w R k S.pc M' S.rs w':=by
 subst hS
 have h1:=h.same
 rw [runR_more hn] at h1
 exact ⟨by have:=h.lk;omega,hst,RunOk.same (step_ok h.ok (fun a b=>xor_in a b) hn) hsm,h1.trans (runR_same _ hsm.symm m _ _ xorR),hb,hx.trans h.zx,hy.trans h.zy,h.lx,h.ly,h.ne,h.gx,h.gy,h.gr,h.gm,h.rx,h.ry⟩
theorem RanK.stop {n0 m bm br X Y:Nat} {w:World} {R:Rn} {k:Nat} {pc:Int} {M:Mv} {rs:List Int} {wr:World} (h:RanK n0 m bm br X Y w R (k+1) pc M rs wr) {S:Rn} (hS:stepR M m pc rs xorR=S) (hn:¬ S.nd=0):R.Same S:=by
 subst hS
 have h1:=h.same
 rw [runR_stop hn] at h1
 exact h1
theorem seven_heap {w:World} {b:Nat} {o0 o1 o2 o3 o4 o5 o6:Nat} {v0 v1 v2 v3 v4 v5 v6:Value} (c:Nat) (h:c≠b):(((((((w.setCell ⟨b,o0,none⟩ v0).setCell ⟨b,o1,none⟩ v1).setCell ⟨b,o2,none⟩ v2).setCell ⟨b,o3,none⟩ v3).setCell ⟨b,o4,none⟩ v4).setCell ⟨b,o5,none⟩ v5).setCell ⟨b,o6,none⟩ v6).heap[c]? = w.heap[c]?:=by
 rw [set_heap _ _ _ _ _ h,set_heap _ _ _ _ _ h,set_heap _ _ _ _ _ h,set_heap _ _ _ _ _ h,set_heap _ _ _ _ _ h,set_heap _ _ _ _ _ h,set_heap _ _ _ _ _ h]
theorem seven_cell {w:World} {b:Nat} {o0 o1 o2 o3 o4 o5 o6:Nat} {v0 v1 v2 v3 v4 v5 v6:Value} {c o:Nat} {x:Option Value} (h:c≠b) (hx:w.cell? ⟨c,o,none⟩=x):(((((((w.setCell ⟨b,o0,none⟩ v0).setCell ⟨b,o1,none⟩ v1).setCell ⟨b,o2,none⟩ v2).setCell ⟨b,o3,none⟩ v3).setCell ⟨b,o4,none⟩ v4).setCell ⟨b,o5,none⟩ v5).setCell ⟨b,o6,none⟩ v6).cell? ⟨c,o,none⟩=x:=by
 have q:=seven_heap (w:=w) (b:=b) (o0:=o0) (o1:=o1) (o2:=o2) (o3:=o3) (o4:=o4) (o5:=o5) (o6:=o6) (v0:=v0) (v1:=v1) (v2:=v2) (v3:=v3) (v4:=v4) (v5:=v5) (v6:=v6) c h
 revert q
 generalize (((((((w.setCell ⟨b,o0,none⟩ v0).setCell ⟨b,o1,none⟩ v1).setCell ⟨b,o2,none⟩ v2).setCell ⟨b,o3,none⟩ v3).setCell ⟨b,o4,none⟩ v4).setCell ⟨b,o5,none⟩ v5).setCell ⟨b,o6,none⟩ v6)=V
 intro q
 have e:V.cell? ⟨c,o,none⟩=w.cell? ⟨c,o,none⟩:=World.cell?_of_block q
 exact e.trans hx
theorem seven_log {w:World} {b o:Nat} {v0 v1 v2 v3 v4 v5 v6 x:Value} (h:w.cell? ⟨b,o+1,none⟩=some x):(((((((w.setCell ⟨b,o,none⟩ v0).setCell ⟨b,o+1,none⟩ v1).setCell ⟨b,o+2,none⟩ v2).setCell ⟨b,o+3,none⟩ v3).setCell ⟨b,o+4,none⟩ v4).setCell ⟨b,o+5,none⟩ v5).setCell ⟨b,o+6,none⟩ v6).cell? ⟨b,o+1,none⟩=some v1:=by
 have q:∀ (w:World) (i j:Nat) (v:Value),i≠j→(w.setCell ⟨b,i,none⟩ v).cell? ⟨b,j,none⟩=w.cell? ⟨b,j,none⟩:=fun w i j v h=>World.cell?_setCell_other _ _ _ _ (by intro q;simp only [Addr.mk.injEq,true_and,and_true] at q;exact h q)
 rw [q _ _ _ _ (show o+6≠o+1 by omega),q _ _ _ _ (show o+5≠o+1 by omega),q _ _ _ _ (show o+4≠o+1 by omega),q _ _ _ _ (show o+3≠o+1 by omega),q _ _ _ _ (show o+2≠o+1 by omega)]
 have h2:=(q w o (o+1) v0 (by omega)).trans h
 exact World.cell?_setCell_same _ _ _ h2
theorem drew_cell (V:World) (p:Addr):V.drew.cell? p=V.cell? p:=rfl
theorem seven_both {w:World} {b o c i:Nat} {v0 v1 v2 v3 v4 v5 v6 x y:Value} (hc:c≠b) (h:w.cell? ⟨c,i,none⟩=some y) (h1:w.cell? ⟨b,o+1,none⟩=some x):(((((((w.setCell ⟨b,o,none⟩ v0).setCell ⟨b,o+1,none⟩ v1).setCell ⟨b,o+2,none⟩ v2).setCell ⟨b,o+3,none⟩ v3).setCell ⟨b,o+4,none⟩ v4).setCell ⟨b,o+5,none⟩ v5).setCell ⟨b,o+6,none⟩ v6).drew.cell? ⟨c,i,none⟩=some y∧(((((((w.setCell ⟨b,o,none⟩ v0).setCell ⟨b,o+1,none⟩ v1).setCell ⟨b,o+2,none⟩ v2).setCell ⟨b,o+3,none⟩ v3).setCell ⟨b,o+4,none⟩ v4).setCell ⟨b,o+5,none⟩ v5).setCell ⟨b,o+6,none⟩ v6).drew.cell? ⟨b,o+1,none⟩=some v1:=
 ⟨(drew_cell _ _).trans (seven_cell hc h),(drew_cell _ _).trans (seven_log h1)⟩
theorem after7 {V V8:World} {b:Nat} {o0 o1 o2 o3 o4 o5 o6:Nat} {v0 v1 v2 v3 v4 v5 v6:Value} (h8:V8=(((((((V.setCell ⟨b,o0,none⟩ v0).setCell ⟨b,o1,none⟩ v1).setCell ⟨b,o2,none⟩ v2).setCell ⟨b,o3,none⟩ v3).setCell ⟨b,o4,none⟩ v4).setCell ⟨b,o5,none⟩ v5).setCell ⟨b,o6,none⟩ v6).drew) (c:Nat) (h:c≠b):V8.heap[c]? = V.heap[c]?:=by
 have q:=seven_heap (w:=V) (b:=b) (o0:=o0) (o1:=o1) (o2:=o2) (o3:=o3) (o4:=o4) (o5:=o5) (o6:=o6) (v0:=v0) (v1:=v1) (v2:=v2) (v3:=v3) (v4:=v4) (v5:=v5) (v6:=v6) c h
 rw [h8]
 revert q
 generalize (((((((V.setCell ⟨b,o0,none⟩ v0).setCell ⟨b,o1,none⟩ v1).setCell ⟨b,o2,none⟩ v2).setCell ⟨b,o3,none⟩ v3).setCell ⟨b,o4,none⟩ v4).setCell ⟨b,o5,none⟩ v5).setCell ⟨b,o6,none⟩ v6)=V'
 exact fun q=>q
theorem ran_put {n0 m bm br X Y:Nat} {w:World} {R:Rn} {V:World} {M:Mv} {rs:List Int} (hst:RefSt n0 V bm br M rs) (hb:Below w.heap.size w V) (lx:X<n0) (ly:Y<n0) (ne:X≠Y) (gx:w.heap.size≤X) (gy:w.heap.size≤Y)
 (zx:V.heap[X]? = some (.cells #[.slice none 0 0,.slice none 0 0,.slice none 0 0] 29 (0,0))) (zy:V.heap[Y]? = some (.cells #[.int .i64 0,.int .i64 0] 47 (0,0)))
 {eb eo:Nat} (he:M.ea=some ⟨eb,eo,none⟩) (hm:m<M.ens.length) {E' : En} (hq:E'.Ok) (hN:Mv.Same {M with ens:=M.ens.set m E'} (leftM R m)) {d v:Int} (hd:d=R.nd) (hv:v=R.v) (n0w:w.heap.size≤n0) {V8 V9:World}
 (h8:V8=(((((((V.setCell ⟨eb,eo+m * 7,none⟩ (.int .i64 E'.st)).setCell ⟨eb,eo+m * 7+1,none⟩ (.string E'.log)).setCell ⟨eb,eo+m * 7+2,none⟩ (.int .i64 E'.pc)).setCell ⟨eb,eo+m * 7+3,none⟩ (.int .i64 E'.g0)).setCell ⟨eb,eo+m * 7+4,none⟩ (.int .i64 E'.g1)).setCell ⟨eb,eo+m * 7+5,none⟩ (.int .i64 E'.g2)).setCell ⟨eb,eo+m * 7+6,none⟩ (.int .i64 E'.g3)).drew) (h9:V9=(((((V8.setCell ⟨X,0,none⟩ (.slice M.fa M.frs.length M.fcap)).setCell ⟨X,1,none⟩ (.slice M.ea M.ens.length M.ecap)).setCell ⟨X,2,none⟩ (.slice M.qa M.qus.length M.qcap)).setCell ⟨Y,0,none⟩ (.int .i64 d)).setCell ⟨Y,1,none⟩ (.int .i64 v))) (u u' : Value) :
 RanOut m X Y w R u u' V9:=by
 subst hd;subst hv
 have mE:Mine M eb:=.inr (.inl ⟨eo,none,he⟩)
 have ge:=(Mine.fresh hst.own mE).1
 have hO:=hst.own.putEn he hm hq
 have kx:=seven_heap (w:=V) (b:=eb) (o0:=eo+m * 7) (o1:=eo+m * 7+1) (o2:=eo+m * 7+2) (o3:=eo+m * 7+3) (o4:=eo+m * 7+4) (o5:=eo+m * 7+5) (o6:=eo+m * 7+6) (v0:=.int .i64 E'.st) (v1:=.string E'.log) (v2:=.int .i64 E'.pc) (v3:=.int .i64 E'.g0) (v4:=.int .i64 E'.g1) (v5:=.int .i64 E'.g2) (v6:=.int .i64 E'.g3) X (by omega)
 have ky:=seven_heap (w:=V) (b:=eb) (o0:=eo+m * 7) (o1:=eo+m * 7+1) (o2:=eo+m * 7+2) (o3:=eo+m * 7+3) (o4:=eo+m * 7+4) (o5:=eo+m * 7+5) (o6:=eo+m * 7+6) (v0:=.int .i64 E'.st) (v1:=.string E'.log) (v2:=.int .i64 E'.pc) (v3:=.int .i64 E'.g0) (v4:=.int .i64 E'.g1) (v5:=.int .i64 E'.g2) (v6:=.int .i64 E'.g3) Y (by omega)
 have hb7:Below w.heap.size w (((((((V.setCell ⟨eb,eo+m * 7,none⟩ (.int .i64 E'.st)).setCell ⟨eb,eo+m * 7+1,none⟩ (.string E'.log)).setCell ⟨eb,eo+m * 7+2,none⟩ (.int .i64 E'.pc)).setCell ⟨eb,eo+m * 7+3,none⟩ (.int .i64 E'.g0)).setCell ⟨eb,eo+m * 7+4,none⟩ (.int .i64 E'.g1)).setCell ⟨eb,eo+m * 7+5,none⟩ (.int .i64 E'.g2)).setCell ⟨eb,eo+m * 7+6,none⟩ (.int .i64 E'.g3)):=by
  repeat (first | (with_reducible exact hb) | (with_reducible refine Below.setCell ?_ (Nat.le_trans n0w ge) _))
 generalize (((((((V.setCell ⟨eb,eo+m * 7,none⟩ (.int .i64 E'.st)).setCell ⟨eb,eo+m * 7+1,none⟩ (.string E'.log)).setCell ⟨eb,eo+m * 7+2,none⟩ (.int .i64 E'.pc)).setCell ⟨eb,eo+m * 7+3,none⟩ (.int .i64 E'.g0)).setCell ⟨eb,eo+m * 7+4,none⟩ (.int .i64 E'.g1)).setCell ⟨eb,eo+m * 7+5,none⟩ (.int .i64 E'.g2)).setCell ⟨eb,eo+m * 7+6,none⟩ (.int .i64 E'.g3))=V6 at h8 hO kx ky hb7
 have hO:Owned n0 V8 {M with ens:=M.ens.set m E'}:=by rw [h8];exact hO.below (Below.refl _ _).drew
 have kx:V8.heap[X]? = V.heap[X]?:=by rw [h8];exact kx
 have ky:V8.heap[Y]? = V.heap[Y]?:=by rw [h8];exact ky
 have hb7:Below w.heap.size w V8:=by rw [h8];exact hb7.drew
 clear h8
 have bx:=kx.trans zx
 have by_:=ky.trans zy
 obtain ⟨g0,g1,g2,g3,g4⟩:=xy5 (w:=V8) (X:=X) (Y:=Y) (a:=.slice M.fa M.frs.length M.fcap) (b:=.slice M.ea M.ens.length M.ecap) (c:=.slice M.qa M.qus.length M.qcap) (d:=.int .i64 R.nd) (e:=.int .i64 R.v) ne (show _=some (.slice none 0 0) by simp [World.cell?,bx]) (show _=some (.slice none 0 0) by simp [World.cell?,bx]) (show _=some (.slice none 0 0) by simp [World.cell?,bx]) (show _=some (.int .i64 0) by simp [World.cell?,by_]) (show _=some (.int .i64 0) by simp [World.cell?,by_])
 have hO9:Owned n0 V9 {M with ens:=M.ens.set m E'}:=by
  rw [h9]
  exact hO.keep (fun g hg _=>by rw [set_heap _ _ _ _ _ (show g≠Y by omega),set_heap _ _ _ _ _ (show g≠Y by omega),set_heap _ _ _ _ _ (show g≠X by omega),set_heap _ _ _ _ _ (show g≠X by omega),set_heap _ _ _ _ _ (show g≠X by omega)]) (by simp [World.setCell])
 have hb9:Below w.heap.size w V9:=by
  rw [h9]
  repeat (first | (with_reducible exact hb7) | (with_reducible refine Below.setCell ?_ gy _) | (with_reducible refine Below.setCell ?_ gx _))
 rw [← h9] at g0 g1 g2 g3 g4
 refine ⟨{M with ens:=M.ens.set m E'},g0,?_,g2,g3,g4,hN,hO9.mono n0w,hb9⟩
 rw [g1]
 simp
theorem RanK.quiet {n0 m bm br X Y:Nat} {w:World} {R:Rn} {k:Nat} {pc:Int} {M:Mv} {rs:List Int} {wr V:World} (h:RanK n0 m bm br X Y w R k pc M rs wr) (hB:Below wr.heap.size wr V):Below w.heap.size w V∧V.heap[X]? = wr.heap[X]?∧V.heap[Y]? = wr.heap[Y]?:=
 ⟨h.bel.trans (hB.mono h.bel.size),hB.block X (by have:=h.st.ge;have:=h.lx;omega),hB.block Y (by have:=h.st.ge;have:=h.ly;omega)⟩
theorem ran_last {n0 m bm br X Y:Nat} {w:World} {R:Rn} {k:Nat} {pc:Int} {M:Mv} {rs:List Int} {wr:World} (h:RanK n0 m bm br X Y w R k pc M rs wr) {V:World} (hB:Below wr.heap.size wr V) {S:Rn} (hRS:R.Same S) (hSM:S.M=M) {eb eo:Nat} (he:M.ea=some ⟨eb,eo,none⟩)
 {E' : En} (hE:E' = leftE (M.ens.getD m default) S) (hq:E'.Ok) {d v:Int} (hd:d=S.nd) (hv:v=S.v) {s0 s1 s2:Value} (e0:s0=.slice M.fa M.frs.length M.fcap) (e1:s1=.slice M.ea M.ens.length M.ecap) (e2:s2=.slice M.qa M.qus.length M.qcap) {V8 V9:World}
 (h8:V8=(((((((V.setCell ⟨eb,eo+m * 7,none⟩ (.int .i64 E'.st)).setCell ⟨eb,eo+m * 7+1,none⟩ (.string E'.log)).setCell ⟨eb,eo+m * 7+2,none⟩ (.int .i64 E'.pc)).setCell ⟨eb,eo+m * 7+3,none⟩ (.int .i64 E'.g0)).setCell ⟨eb,eo+m * 7+4,none⟩ (.int .i64 E'.g1)).setCell ⟨eb,eo+m * 7+5,none⟩ (.int .i64 E'.g2)).setCell ⟨eb,eo+m * 7+6,none⟩ (.int .i64 E'.g3)).drew) (h9:V9=(((((V8.setCell ⟨X,0,none⟩ s0).setCell ⟨X,1,none⟩ s1).setCell ⟨X,2,none⟩ s2).setCell ⟨Y,0,none⟩ (.int .i64 d)).setCell ⟨Y,1,none⟩ (.int .i64 v))) (u u' : Value) :
 RanOut m X Y w R u u' V9:=by
 subst e0;subst e1;subst e2
 obtain ⟨b1,b2,b3⟩:=h.quiet hB
 have hN:Mv.Same {M with ens:=M.ens.set m E'} (leftM R m):=by
  have q:=leftM_same hRS m
  refine Mv.Same.symm ?_
  refine q.trans ?_
  have:leftM S m = {M with ens:=M.ens.set m E'}:=by unfold leftM;rw [hSM,hE]
  rw [this]
  exact Mv.Same.refl _
 exact ran_put (h.st.keep hB) b1 h.lx h.ly h.ne h.gx h.gy (b2.trans h.zx) (b3.trans h.zy) he (by have:=h.ok.good.s2;have:=h.ok.m4;omega) hq hN (hd.trans hRS.nd.symm) (hv.trans hRS.v.symm) (by have:=h.gx;have:=h.lx;omega) h8 h9 u u'
theorem RanOut.drew {m X Y:Nat} {w:World} {R:Rn} {u u' : Value} {V:World} (h:RanOut m X Y w R u u' V):RanOut m X Y w R u u' V.drew:=by
 obtain ⟨N,a,b,c,d,e,f,g,i⟩:=h
 exact ⟨N,a,b,c,d,e,f,g.below (Below.refl _ _).drew,i.trans ((Below.refl _ _).drew)⟩
theorem left_fault {M:Mv} {m:Nat} {lg:ByteArray} {pc:Int} {rs:List Int} (h:(M.ens.getD m default).log=lg):(⟨4,lg,0,0,0,0,0⟩:En)=leftE (M.ens.getD m default) ⟨M,pc,rs,3,0⟩:=by
 subst h;unfold leftE;rw [if_neg (by simp),if_neg (by simp)]
theorem left_exit {M:Mv} {m:Nat} {lg:ByteArray} {pc v:Int} {rs:List Int} (h:(M.ens.getD m default).log=lg):(⟨2,lg,0,0,0,0,0⟩:En)=leftE (M.ens.getD m default) ⟨M,pc,rs,1,v⟩:=by
 subst h;unfold leftE;rw [if_pos rfl]
theorem left_held {M:Mv} {m:Nat} {lg:ByteArray} {pc:Int} {rs:List Int} (h:(M.ens.getD m default).log=lg):(⟨3,lg,pc,rs.getD 0 0,rs.getD 1 0,rs.getD 2 0,rs.getD 3 0⟩:En)=leftE (M.ens.getD m default) ⟨M,pc,rs,2,0⟩:=by
 subst h;unfold leftE;rw [if_neg (by simp),if_pos rfl]
theorem en_ok {st:Int} {lg:ByteArray} (hs:(Lit.int .i64 st).wf=true) (h:lg.size≤maxLen):(⟨st,lg,0,0,0,0,0⟩:En).Ok:=⟨hs,h,wf0,wf0,wf0,wf0,wf0⟩
theorem cell_got {k i:Nat} {n:Int} {w w' : World} {x:Ending} (h:CellSaid (k:Int) n w x w') (hi:n % 8=(i:Int)):x=.returned (.tuple #[.int .i64 (k:Int),.int .i64 (i:Int),.bool true])∧Below w.heap.size w w':=by
 obtain ⟨G,I,B,rfl,hB,hg,hb⟩:=h
 obtain ⟨rfl,rfl⟩:=hg (by omega)
 have:B=true:=by rw [hB];simp
 subst this
 exact ⟨by rw [hi],hb⟩
theorem cell_nott {z n:Int} {w w' : World} {x:Ending} (h:CellSaid z n w x w') (hz:z<0):∃ G I:Int,x=.returned (.tuple #[.int .i64 G,.int .i64 I,.bool false])∧Below w.heap.size w w':=by
 obtain ⟨G,I,B,rfl,hB,hg,hb⟩:=h
 have:B=false:=by rw [hB];simp;omega
 subst this
 exact ⟨G,I,rfl,hb⟩
set_option maxRecDepth 1000000 in
theorem ranF_mk {m bm br X Y:Nat} {c0 c3 c5 c6 c7 c9 c31 c32 c246 c247 c248 c249 c250 c251 c252 c253 c254 c255 c256 c257 c258 c259 c260 c261 c262 u2 u4 u13 u14 u15 u16 u17 u18 u19 u20 u21 u22 u23 u24 u25 u26 u27 u28 u29 u30 u33 u34 u35 u36 u37 u38 u39 u40 u41 u42 u43 u44 u45 u46 u47 u48 u49 u50 u51 u52 u53 u54 u55 u56 u57 u58 u59 u60 u61 u62 u63 u64 u65 u66 u67 u68 u69 u70 u71 u72 u73 u74 u75 u76 u77 u78 u79 u80 u81 u82 u83 u84 u85 u86 u87 u88 u89 u90 u91 u92 u93 u94 u95 u96 u97 u98 u99 u100 u101 u102 u103 u104 u105 u106 u107 u108 u109 u110 u111 u112 u113 u114 u115 u116 u117 u118 u119 u120 u121 u122 u123 u124 u125 u126 u127 u128 u129 u130 u131 u132 u133 u134 u135 u136 u137 u138 u139 u140 u141 u142 u143 u144 u145 u146 u147 u148 u149 u150 u151 u152 u153 u154 u155 u156 u157 u158 u159 u160 u161 u162 u163 u164 u165 u166 u167 u168 u169 u170 u171 u172 u173 u174 u175 u176 u177 u178 u179 u180 u181 u182 u183 u184 u185 u186 u187 u188 u189 u190 u191 u192 u193 u194 u195 u196 u197 u198 u199 u200 u201 u202 u203 u204 u205 u206 u207 u208 u209 u210 u211 u212 u213 u214 u215 u216 u217 u218 u219 u220 u221 u222 u223 u224 u225 u226 u227 u228 u229 u230 u231 u232 u233 u234 u235 u236 u237 u238 u239 u240 u241 u242 u243 u244 u245:Value} {Rel:Value→Value→World→Prop} {w' : World} (h:Rel u2 u4 w'):RanF m bm br X Y c0 c3 c5 c6 c7 c9 c31 c32 c246 c247 c248 c249 c250 c251 c252 c253 c254 c255 c256 c257 c258 c259 c260 c261 c262 Rel ⟨#[c0,.int .i64 ((m:Int)+1),u2,c3,u4,c5,c6,c7,.pointer (some ⟨br,0,none⟩),c9,.pointer (some ⟨X,0,none⟩),.pointer (some ⟨Y,0,none⟩),.pointer (some ⟨bm,0,none⟩),u13,u14,u15,u16,u17,u18,u19,u20,u21,u22,u23,u24,u25,u26,u27,u28,u29,u30,c31,c32,u33,u34,u35,u36,u37,u38,u39,u40,u41,u42,u43,u44,u45,u46,u47,u48,u49,u50,u51,u52,u53,u54,u55,u56,u57,u58,u59,u60,u61,u62,u63,u64,u65,u66,u67,u68,u69,u70,u71,u72,u73,u74,u75,u76,u77,u78,u79,u80,u81,u82,u83,u84,u85,u86,u87,u88,u89,u90,u91,u92,u93,u94,u95,u96,u97,u98,u99,u100,u101,u102,u103,u104,u105,u106,u107,u108,u109,u110,u111,u112,u113,u114,u115,u116,u117,u118,u119,u120,u121,u122,u123,u124,u125,u126,u127,u128,u129,u130,u131,u132,u133,u134,u135,u136,u137,u138,u139,u140,u141,u142,u143,u144,u145,u146,u147,u148,u149,u150,u151,u152,u153,u154,u155,u156,u157,u158,u159,u160,u161,u162,u163,u164,u165,u166,u167,u168,u169,u170,u171,u172,u173,u174,u175,u176,u177,u178,u179,u180,u181,u182,u183,u184,u185,u186,u187,u188,u189,u190,u191,u192,u193,u194,u195,u196,u197,u198,u199,u200,u201,u202,u203,u204,u205,u206,u207,u208,u209,u210,u211,u212,u213,u214,u215,u216,u217,u218,u219,u220,u221,u222,u223,u224,u225,u226,u227,u228,u229,u230,u231,u232,u233,u234,u235,u236,u237,u238,u239,u240,u241,u242,u243,u244,u245,c246,c247,c248,c249,c250,c251,c252,c253,c254,c255,c256,c257,c258,c259,c260,c261,c262],[]⟩ w':=by
 unfold RanF
 exact ⟨u2,u4,u13,u14,u15,u16,u17,u18,u19,u20,u21,u22,u23,u24,u25,u26,u27,u28,u29,u30,u33,u34,u35,u36,u37,u38,u39,u40,u41,u42,u43,u44,u45,u46,u47,u48,u49,u50,u51,u52,u53,u54,u55,u56,u57,u58,u59,u60,u61,u62,u63,u64,u65,u66,u67,u68,u69,u70,u71,u72,u73,u74,u75,u76,u77,u78,u79,u80,u81,u82,u83,u84,u85,u86,u87,u88,u89,u90,u91,u92,u93,u94,u95,u96,u97,u98,u99,u100,u101,u102,u103,u104,u105,u106,u107,u108,u109,u110,u111,u112,u113,u114,u115,u116,u117,u118,u119,u120,u121,u122,u123,u124,u125,u126,u127,u128,u129,u130,u131,u132,u133,u134,u135,u136,u137,u138,u139,u140,u141,u142,u143,u144,u145,u146,u147,u148,u149,u150,u151,u152,u153,u154,u155,u156,u157,u158,u159,u160,u161,u162,u163,u164,u165,u166,u167,u168,u169,u170,u171,u172,u173,u174,u175,u176,u177,u178,u179,u180,u181,u182,u183,u184,u185,u186,u187,u188,u189,u190,u191,u192,u193,u194,u195,u196,u197,u198,u199,u200,u201,u202,u203,u204,u205,u206,u207,u208,u209,u210,u211,u212,u213,u214,u215,u216,u217,u218,u219,u220,u221,u222,u223,u224,u225,u226,u227,u228,u229,u230,u231,u232,u233,u234,u235,u236,u237,u238,u239,u240,u241,u242,u243,u244,u245,h,rfl⟩
set_option maxRecDepth 1000000 in
theorem ranMu_mk {m bm br X Y:Nat} {c0 c3 c5 c6 c7 c9 c31 c32 c246 c247 c248 c249 c250 c251 c252 c253 c254 c255 c256 c257 c258 c259 c260 c261 c262 u2 u13 u14 u15 u16 u17 u18 u19 u20 u21 u22 u23 u24 u25 u26 u27 u28 u29 u30 u33 u34 u35 u36 u37 u38 u39 u40 u41 u42 u43 u44 u45 u46 u47 u48 u49 u50 u51 u52 u53 u54 u55 u56 u57 u58 u59 u60 u61 u62 u63 u64 u65 u66 u67 u68 u69 u70 u71 u72 u73 u74 u75 u76 u77 u78 u79 u80 u81 u82 u83 u84 u85 u86 u87 u88 u89 u90 u91 u92 u93 u94 u95 u96 u97 u98 u99 u100 u101 u102 u103 u104 u105 u106 u107 u108 u109 u110 u111 u112 u113 u114 u115 u116 u117 u118 u119 u120 u121 u122 u123 u124 u125 u126 u127 u128 u129 u130 u131 u132 u133 u134 u135 u136 u137 u138 u139 u140 u141 u142 u143 u144 u145 u146 u147 u148 u149 u150 u151 u152 u153 u154 u155 u156 u157 u158 u159 u160 u161 u162 u163 u164 u165 u166 u167 u168 u169 u170 u171 u172 u173 u174 u175 u176 u177 u178 u179 u180 u181 u182 u183 u184 u185 u186 u187 u188 u189 u190 u191 u192 u193 u194 u195 u196 u197 u198 u199 u200 u201 u202 u203 u204 u205 u206 u207 u208 u209 u210 u211 u212 u213 u214 u215 u216 u217 u218 u219 u220 u221 u222 u223 u224 u225 u226 u227 u228 u229 u230 u231 u232 u233 u234 u235 u236 u237 u238 u239 u240 u241 u242 u243 u244 u245:Value} {w' : World} {k:Nat} : ranMu ⟨#[c0,.int .i64 ((m:Int)+1),u2,c3,.int .i64 (k:Int),c5,c6,c7,.pointer (some ⟨br,0,none⟩),c9,.pointer (some ⟨X,0,none⟩),.pointer (some ⟨Y,0,none⟩),.pointer (some ⟨bm,0,none⟩),u13,u14,u15,u16,u17,u18,u19,u20,u21,u22,u23,u24,u25,u26,u27,u28,u29,u30,c31,c32,u33,u34,u35,u36,u37,u38,u39,u40,u41,u42,u43,u44,u45,u46,u47,u48,u49,u50,u51,u52,u53,u54,u55,u56,u57,u58,u59,u60,u61,u62,u63,u64,u65,u66,u67,u68,u69,u70,u71,u72,u73,u74,u75,u76,u77,u78,u79,u80,u81,u82,u83,u84,u85,u86,u87,u88,u89,u90,u91,u92,u93,u94,u95,u96,u97,u98,u99,u100,u101,u102,u103,u104,u105,u106,u107,u108,u109,u110,u111,u112,u113,u114,u115,u116,u117,u118,u119,u120,u121,u122,u123,u124,u125,u126,u127,u128,u129,u130,u131,u132,u133,u134,u135,u136,u137,u138,u139,u140,u141,u142,u143,u144,u145,u146,u147,u148,u149,u150,u151,u152,u153,u154,u155,u156,u157,u158,u159,u160,u161,u162,u163,u164,u165,u166,u167,u168,u169,u170,u171,u172,u173,u174,u175,u176,u177,u178,u179,u180,u181,u182,u183,u184,u185,u186,u187,u188,u189,u190,u191,u192,u193,u194,u195,u196,u197,u198,u199,u200,u201,u202,u203,u204,u205,u206,u207,u208,u209,u210,u211,u212,u213,u214,u215,u216,u217,u218,u219,u220,u221,u222,u223,u224,u225,u226,u227,u228,u229,u230,u231,u232,u233,u234,u235,u236,u237,u238,u239,u240,u241,u242,u243,u244,u245,c246,c247,c248,c249,c250,c251,c252,c253,c254,c255,c256,c257,c258,c259,c260,c261,c262],[]⟩ w' < k+1:=by
 have:ranMu ⟨#[c0,.int .i64 ((m:Int)+1),u2,c3,.int .i64 (k:Int),c5,c6,c7,.pointer (some ⟨br,0,none⟩),c9,.pointer (some ⟨X,0,none⟩),.pointer (some ⟨Y,0,none⟩),.pointer (some ⟨bm,0,none⟩),u13,u14,u15,u16,u17,u18,u19,u20,u21,u22,u23,u24,u25,u26,u27,u28,u29,u30,c31,c32,u33,u34,u35,u36,u37,u38,u39,u40,u41,u42,u43,u44,u45,u46,u47,u48,u49,u50,u51,u52,u53,u54,u55,u56,u57,u58,u59,u60,u61,u62,u63,u64,u65,u66,u67,u68,u69,u70,u71,u72,u73,u74,u75,u76,u77,u78,u79,u80,u81,u82,u83,u84,u85,u86,u87,u88,u89,u90,u91,u92,u93,u94,u95,u96,u97,u98,u99,u100,u101,u102,u103,u104,u105,u106,u107,u108,u109,u110,u111,u112,u113,u114,u115,u116,u117,u118,u119,u120,u121,u122,u123,u124,u125,u126,u127,u128,u129,u130,u131,u132,u133,u134,u135,u136,u137,u138,u139,u140,u141,u142,u143,u144,u145,u146,u147,u148,u149,u150,u151,u152,u153,u154,u155,u156,u157,u158,u159,u160,u161,u162,u163,u164,u165,u166,u167,u168,u169,u170,u171,u172,u173,u174,u175,u176,u177,u178,u179,u180,u181,u182,u183,u184,u185,u186,u187,u188,u189,u190,u191,u192,u193,u194,u195,u196,u197,u198,u199,u200,u201,u202,u203,u204,u205,u206,u207,u208,u209,u210,u211,u212,u213,u214,u215,u216,u217,u218,u219,u220,u221,u222,u223,u224,u225,u226,u227,u228,u229,u230,u231,u232,u233,u234,u235,u236,u237,u238,u239,u240,u241,u242,u243,u244,u245,c246,c247,c248,c249,c250,c251,c252,c253,c254,c255,c256,c257,c258,c259,c260,c261,c262],[]⟩ w' = (intOf (.int .i64 (k:Int))).toNat:=rfl
 rw [this]
 simp [intOf]
theorem w64k {k:Nat} (h:k≤5001):wrap64 (k:Int)=(k:Int):=by unfold wrap64;omega
theorem ran_goes {n0 m bm br X Y:Nat} {w:World} {R:Rn} {k:Nat} {pc:Int} {M:Mv} {rs:List Int} {wr:World} (h:RanK n0 m bm br X Y w R k pc M rs wr):RanRel n0 m bm br X Y w R (.int .i64 pc) (.int .i64 (k:Int)) wr:=⟨k,pc,M,rs,rfl,rfl,h⟩
theorem RanK.reg {n0 m bm br X Y:Nat} {w:World} {R:Rn} {k:Nat} {pc:Int} {M:Mv} {rs:List Int} {wr:World} (h:RanK n0 m bm br X Y w R (k+1) pc M rs wr) {V:World} (hB:Below wr.heap.size wr V) {pc' v:Int} {a:Nat} (ha:a<4) (hS:stepR M m pc rs xorR=⟨M,pc',rs.set a v,0,0⟩):RanK n0 m bm br X Y w R k pc' M (rs.set a v) (V.setCell ⟨br,a,none⟩ (.int .i64 v)):=by
 obtain ⟨b1,b2,b3⟩:=h.quiet hB
 exact h.next hS rfl ((h.st.keep hB).regSet ha h.ok.len v) (Mv.Same.refl _) (b1.setCell h.gr _) ((set_heap _ _ _ _ _ h.rx.symm).trans b2) ((set_heap _ _ _ _ _ h.ry.symm).trans b3)
theorem RanK.reg2 {n0 m bm br X Y:Nat} {w:World} {R:Rn} {k:Nat} {pc:Int} {M:Mv} {rs:List Int} {wr:World} (h:RanK n0 m bm br X Y w R (k+1) pc M rs wr) {V:World} (hB:Below wr.heap.size wr V) {pc' v v' : Int} {a:Nat} (ha:a<4) (hS:stepR M m pc rs xorR=⟨M,pc',rs.set a v,0,0⟩):RanK n0 m bm br X Y w R k pc' M (rs.set a v) ((V.setCell ⟨br,a,none⟩ (.int .i64 v')).setCell ⟨br,a,none⟩ (.int .i64 v)):=by
 obtain ⟨b1,b2,b3⟩:=h.quiet hB
 have q:=((h.st.keep hB).regSet ha h.ok.len v').regSet ha (by simpa using h.ok.len) v
 rw [List.set_set] at q
 exact h.next hS rfl q (Mv.Same.refl _) ((b1.setCell h.gr _).setCell h.gr _) (((set_heap _ _ _ _ _ h.rx.symm).trans (set_heap _ _ _ _ _ h.rx.symm)).trans b2) (((set_heap _ _ _ _ _ h.ry.symm).trans (set_heap _ _ _ _ _ h.ry.symm)).trans b3)
theorem RanK.store {n0 m bm br X Y:Nat} {w:World} {R:Rn} {k:Nat} {pc:Int} {M:Mv} {rs:List Int} {wr:World} (h:RanK n0 m bm br X Y w R (k+1) pc M rs wr) {V V5:World} (hB:Below wr.heap.size wr V) {k3 i b o:Nat} {v n pc' : Int} (hk:k3<24) (ha:(M.frs.getD k3 default).a=some ⟨b,o,none⟩) (hi:n % 8=(i:Int)) (wv:(Lit.int .i64 v).wf=true) (hS:stepR M m pc rs xorR=⟨putWord M (k3:Int) n v,pc',rs,0,0⟩) (h5:V5=(V.setCell ⟨b,o+i,none⟩ (.int .i64 v)).drew):RanK n0 m bm br X Y w R k pc' (putWord M (k3:Int) n v) rs V5:=by
 obtain ⟨b1,b2,b3⟩:=h.quiet hB
 have hl:=h.ok.good.s1
 have hg:=goodFr_iff.1 (h.ok.good.fr k3 hk)
 have hw8:(M.frs.getD k3 default).ws.length=8:=(mayW_iff.1 hg.1).1
 have gb:=((h.st.keep hB).own.nw k3 (by omega) _ _ _ ha).1
 have q:=(h.st.keep hB).word (k:=k3) (i:=i) (by omega) ha (by omega) wv
 have e:putWord M (k3:Int) n v = {M with frs:=M.frs.set k3 {M.frs.getD k3 default with ws:=(M.frs.getD k3 default).ws.set i v}}:=by unfold putWord;rw [hi,Int.toNat_natCast,Int.toNat_natCast]
 rw [e] at hS ⊢
 have lx:=h.lx
 have ly:=h.ly
 have gx:=h.gx
 refine h.next hS rfl ?_ (Mv.Same.refl _) ?_ ?_ ?_
 · rw [h5];exact q.keep (Below.refl _ _).drew
 · rw [h5];exact (b1.setCell (by show w.heap.size≤b;omega) _).drew
 · rw [h5];exact (set_heap _ _ _ _ _ (show X≠b by omega)).trans b2
 · rw [h5];exact (set_heap _ _ _ _ _ (show Y≠b by omega)).trans b3
theorem RanK.noreg {n0 m bm br X Y:Nat} {w:World} {R:Rn} {k:Nat} {pc:Int} {M:Mv} {rs:List Int} {wr:World} (h:RanK n0 m bm br X Y w R (k+1) pc M rs wr) {V:World} (hB:Below wr.heap.size wr V) {pc' : Int} (hS:stepR M m pc rs xorR=⟨M,pc',rs,0,0⟩):RanK n0 m bm br X Y w R k pc' M rs V:=by
 obtain ⟨b1,b2,b3⟩:=h.quiet hB
 exact h.next hS rfl (h.st.keep hB) (Mv.Same.refl _) b1 b2 b3
structure SaySaid (n0:Nat) (W:World) (M:Mv) (q:Qu) (g cap:Nat) (w8:World):Prop where
 kp:∀ b,b<W.heap.size→¬ Mine M b→w8.heap[b]? = W.heap[b]?
 sz:W.heap.size≤w8.heap.size
 bel:Below n0 W w8
 own:Owned n0 w8 {M with qa:=some ⟨g,0,none⟩,qus:=M.qus ++ [q],qcap:=cap}
 row:QRow n0 w8 {M with qa:=some ⟨g,0,none⟩,qus:=M.qus ++ [q],qcap:=cap}
 off:∀ b,b<W.heap.size→¬ Mine M b→¬ Mine {M with qa:=some ⟨g,0,none⟩,qus:=M.qus ++ [q],qcap:=cap} b
theorem stepq_say {n0:Nat} {W:World} {M:Mv} (hO:Owned n0 W M) (hQ:QRow n0 W M) (hn0:n0≤W.heap.size) (hl:M.qus.length<40) (q:Qu) (hq:q.Ok) {ops:Array Oper} {o:Oper} {a:Act} {w:World} {K:Act→World→Prop} {Q:Exit→Act→World→Prop} {E:Prop} (hgd:o.guard=none) (x y:Operand)
 (ho:o.op=.call {callee:=.builtin .append,args:=#[x,y],argTypes:=#[27,27]}) (ht:o.type=27) (hx:a.eval x=.slice M.qa M.qus.length M.qcap) (hy:a.eval y=.slice (some ⟨W.heap.size,0,none⟩) 1 1) (hw:w=W.alloc (.cells #[.string q.log,.int .i64 q.data] 90))
 (h:∀ g cap w8,SaySaid n0 W M q g cap w8→K (a.put o.dst (.slice (some ⟨g,0,none⟩) (M.qus.length+1) cap)) w8) :
 if Region.wanted o (yielded ops a.tmps)=true then Oper.wp Tryz.prog o a w K Q else E:=by
 have hwd:Region.wanted o (yielded ops a.tmps)=true:=by simp [Region.wanted,hgd]
 rw [if_pos hwd]
 obtain ⟨g,cap,w8,hrun,a1,a2,a3,a4,a5,a6⟩:=quote_own hO hQ hn0 hl q hq
 rw [← ht] at hrun
 have hrun':=hrun
 rw [← hw] at hrun'
 unfold Oper.wp execOp
 rw [ht] at hrun'
 simp only [ho,ht,resolve,invoke,builtin,Sem.run_bind,Sem.run_pure,Result.andThen_ok,List.map_toArray,List.map_cons,List.map_nil,hx,hy,hrun']
 exact h g cap w8 ⟨a1,a2,a3,a4,a5,a6⟩
theorem RanK.say {n0 m bm br X Y:Nat} {w:World} {R:Rn} {k:Nat} {pc:Int} {M:Mv} {rs:List Int} {wr:World} (h:RanK n0 m bm br X Y w R (k+1) pc M rs wr) {V w8 V9:World} (hB:Below wr.heap.size wr V) {g cap:Nat} {pc' v:Int} {lg:ByteArray} (hlg:(M.ens.getD m default).log=lg) (hS:stepR M m pc rs xorR=⟨sayM M m v,pc',rs,0,0⟩)
 (hk:∀ b,b<V.heap.size→¬ Mine M b→w8.heap[b]? = V.heap[b]?) (hs:V.heap.size≤w8.heap.size) (hb8:Below n0 V w8) (hO:Owned n0 w8 {M with qa:=some ⟨g,0,none⟩,qus:=M.qus ++ [⟨lg,v⟩],qcap:=cap}) (hQ:QRow n0 w8 {M with qa:=some ⟨g,0,none⟩,qus:=M.qus ++ [⟨lg,v⟩],qcap:=cap}) (hm:∀ b,b<V.heap.size→¬ Mine M b→¬ Mine {M with qa:=some ⟨g,0,none⟩,qus:=M.qus ++ [⟨lg,v⟩],qcap:=cap} b)
 (h9:V9=w8.setCell ⟨bm,2,none⟩ (.slice (some ⟨g,0,none⟩) (M.qus.length+1) cap)):RanK n0 m bm br X Y w R k pc' {M with qa:=some ⟨g,0,none⟩,qus:=M.qus ++ [⟨lg,v⟩],qcap:=cap} rs V9:=by
 obtain ⟨b1,b2,b3⟩:=h.quiet hB
 have hst:=(h.st.keep hB).say (g:=g) (cap:=cap) (n:=M.qus.length+1) hk hs hO hQ hm ⟨rfl,rfl,rfl,rfl,rfl,rfl⟩ ⟨rfl,by simp,rfl⟩
 rw [← h9] at hst
 have nX:∀ c,c<n0→¬ Mine M c:=fun c hc q=>by have:=(Mine.fresh h.st.own q).1;omega
 have n0w:w.heap.size≤n0:=by have:=h.gx;have:=h.lx;omega
 have ge:=h.st.ge
 have sV:=hB.size
 have hb9:Below n0 V V9:=by rw [h9];exact hb8.setCell (by have:=h.gm;omega) _
 have kp:∀ c,c<n0→V9.heap[c]? = V.heap[c]?:=fun c hc=>hb9.block c hc
 have K:=h.next hS rfl (M':={M with qa:=some ⟨g,0,none⟩,qus:=M.qus ++ [⟨lg,v⟩],qcap:=cap}) (w':=V9) hst ⟨rfl,fun j hj=>⟨rfl,rfl,rfl,rfl⟩,rfl,by unfold sayM;rw [hlg]⟩ (b1.trans (hb9.mono n0w)) ((kp X h.lx).trans b2) ((kp Y h.ly).trans b3)
 exact K
theorem frame_word {M:Mv} {w:World} (hM:MachAt w M) (hG:Good M) {k:Nat} (hk:k<24) (n:Int) {i:Nat} (hi:n % 8=(i:Int)):∃ b o cap,(M.frs.getD k default).a=some ⟨b,o,none⟩∧(M.frs.getD k default).cap=cap∧(∀ V,MachAt V M→∀ fb fo,M.fa=some ⟨fb,fo,none⟩→V.cell? ⟨fb,fo+k * 4+3,none⟩=some (.slice (some ⟨b,o,none⟩) 8 cap)∧V.cell? ⟨b,o+i,none⟩=some (.int .i64 (wordAt M (k:Int) n))∧b<V.heap.size∧fb<V.heap.size):=by
 have hg:=goodFr_iff.1 (hG.fr k hk)
 have hw8:(M.frs.getD k default).ws.length=8:=(mayW_iff.1 hg.1).1
 have hl:=hG.s1
 rcases (hM.frok k (by omega)).ints with q | ⟨b,o,q,hc⟩
 · rw [q] at hw8;simp at hw8
 · refine ⟨b,o,_,q,rfl,fun V hV fb fo hfa=>?_⟩
   obtain ⟨fb',fo',hfa',_,_,_,t3⟩:=hV.frame (j:=k) (by omega)
   rw [hfa] at hfa'
   simp only [Option.some.injEq,Addr.mk.injEq,and_true] at hfa'
   obtain ⟨rfl,rfl⟩:=hfa'
   rw [q,hw8] at t3
   have hcV:V.cell? ⟨b,o+i,none⟩=some (.int .i64 (wordAt M (k:Int) n)):=by
    rcases (hV.frok k (by omega)).ints with q' | ⟨b',o',q',hc'⟩
    · rw [q'] at hw8;simp at hw8
    · rw [q] at q'
      simp only [Option.some.injEq,Addr.mk.injEq,and_true] at q'
      obtain ⟨rfl,rfl⟩:=q'
      have:=hc' i (by omega)
      unfold wordAt
      rw [Int.toNat_natCast,hi,Int.toNat_natCast]
      exact this
   exact ⟨t3,hcV,lt_of_cell hcV,lt_of_cell t3⟩
set_option maxRecDepth 1000000 in
theorem ranF_all {m bm br X Y:Nat} {c0 c3 c5 c6 c7 c9 c31 c32 c246 c247 c248 c249 c250 c251 c252 c253 c254 c255 c256 c257 c258 c259 c260 c261 c262:Value} {Rel:Value→Value→World→Prop} {w' : World} (P:Act→Prop) (h:∀ u2 u4 u13 u14 u15 u16 u17 u18 u19 u20 u21 u22 u23 u24 u25 u26 u27 u28 u29 u30 u33 u34 u35 u36 u37 u38 u39 u40 u41 u42 u43 u44 u45 u46 u47 u48 u49 u50 u51 u52 u53 u54 u55 u56 u57 u58 u59 u60 u61 u62 u63 u64 u65 u66 u67 u68 u69 u70 u71 u72 u73 u74 u75 u76 u77 u78 u79 u80 u81 u82 u83 u84 u85 u86 u87 u88 u89 u90 u91 u92 u93 u94 u95 u96 u97 u98 u99 u100 u101 u102 u103 u104 u105 u106 u107 u108 u109 u110 u111 u112 u113 u114 u115 u116 u117 u118 u119 u120 u121 u122 u123 u124 u125 u126 u127 u128 u129 u130 u131 u132 u133 u134 u135 u136 u137 u138 u139 u140 u141 u142 u143 u144 u145 u146 u147 u148 u149 u150 u151 u152 u153 u154 u155 u156 u157 u158 u159 u160 u161 u162 u163 u164 u165 u166 u167 u168 u169 u170 u171 u172 u173 u174 u175 u176 u177 u178 u179 u180 u181 u182 u183 u184 u185 u186 u187 u188 u189 u190 u191 u192 u193 u194 u195 u196 u197 u198 u199 u200 u201 u202 u203 u204 u205 u206 u207 u208 u209 u210 u211 u212 u213 u214 u215 u216 u217 u218 u219 u220 u221 u222 u223 u224 u225 u226 u227 u228 u229 u230 u231 u232 u233 u234 u235 u236 u237 u238 u239 u240 u241 u242 u243 u244 u245,Rel u2 u4 w'→P ⟨#[c0,.int .i64 ((m:Int)+1),u2,c3,u4,c5,c6,c7,.pointer (some ⟨br,0,none⟩),c9,.pointer (some ⟨X,0,none⟩),.pointer (some ⟨Y,0,none⟩),.pointer (some ⟨bm,0,none⟩),u13,u14,u15,u16,u17,u18,u19,u20,u21,u22,u23,u24,u25,u26,u27,u28,u29,u30,c31,c32,u33,u34,u35,u36,u37,u38,u39,u40,u41,u42,u43,u44,u45,u46,u47,u48,u49,u50,u51,u52,u53,u54,u55,u56,u57,u58,u59,u60,u61,u62,u63,u64,u65,u66,u67,u68,u69,u70,u71,u72,u73,u74,u75,u76,u77,u78,u79,u80,u81,u82,u83,u84,u85,u86,u87,u88,u89,u90,u91,u92,u93,u94,u95,u96,u97,u98,u99,u100,u101,u102,u103,u104,u105,u106,u107,u108,u109,u110,u111,u112,u113,u114,u115,u116,u117,u118,u119,u120,u121,u122,u123,u124,u125,u126,u127,u128,u129,u130,u131,u132,u133,u134,u135,u136,u137,u138,u139,u140,u141,u142,u143,u144,u145,u146,u147,u148,u149,u150,u151,u152,u153,u154,u155,u156,u157,u158,u159,u160,u161,u162,u163,u164,u165,u166,u167,u168,u169,u170,u171,u172,u173,u174,u175,u176,u177,u178,u179,u180,u181,u182,u183,u184,u185,u186,u187,u188,u189,u190,u191,u192,u193,u194,u195,u196,u197,u198,u199,u200,u201,u202,u203,u204,u205,u206,u207,u208,u209,u210,u211,u212,u213,u214,u215,u216,u217,u218,u219,u220,u221,u222,u223,u224,u225,u226,u227,u228,u229,u230,u231,u232,u233,u234,u235,u236,u237,u238,u239,u240,u241,u242,u243,u244,u245,c246,c247,c248,c249,c250,c251,c252,c253,c254,c255,c256,c257,c258,c259,c260,c261,c262],[]⟩):∀ a,RanF m bm br X Y c0 c3 c5 c6 c7 c9 c31 c32 c246 c247 c248 c249 c250 c251 c252 c253 c254 c255 c256 c257 c258 c259 c260 c261 c262 Rel a w'→P a:=by
 intro a hA
 unfold RanF at hA
 iterate 233 (obtain ⟨_,hA⟩:=hA)
 obtain ⟨hR,rfl⟩:=hA
 exact h _ _ _ _ _ _ _ _ _ _ _ _ _ _ _ _ _ _ _ _ _ _ _ _ _ _ _ _ _ _ _ _ _ _ _ _ _ _ _ _ _ _ _ _ _ _ _ _ _ _ _ _ _ _ _ _ _ _ _ _ _ _ _ _ _ _ _ _ _ _ _ _ _ _ _ _ _ _ _ _ _ _ _ _ _ _ _ _ _ _ _ _ _ _ _ _ _ _ _ _ _ _ _ _ _ _ _ _ _ _ _ _ _ _ _ _ _ _ _ _ _ _ _ _ _ _ _ _ _ _ _ _ _ _ _ _ _ _ _ _ _ _ _ _ _ _ _ _ _ _ _ _ _ _ _ _ _ _ _ _ _ _ _ _ _ _ _ _ _ _ _ _ _ _ _ _ _ _ _ _ _ _ _ _ _ _ _ _ _ _ _ _ _ _ _ _ _ _ _ _ _ _ _ _ _ _ _ _ _ _ _ _ _ _ _ _ _ _ _ _ _ _ _ _ _ _ _ _ _ _ _ _ _ hR
set_option maxRecDepth 1000000 in
theorem ranMu_eq {m bm br X Y:Nat} {c0 c3 c5 c6 c7 c9 c31 c32 c246 c247 c248 c249 c250 c251 c252 c253 c254 c255 c256 c257 c258 c259 c260 c261 c262 u2 u13 u14 u15 u16 u17 u18 u19 u20 u21 u22 u23 u24 u25 u26 u27 u28 u29 u30 u33 u34 u35 u36 u37 u38 u39 u40 u41 u42 u43 u44 u45 u46 u47 u48 u49 u50 u51 u52 u53 u54 u55 u56 u57 u58 u59 u60 u61 u62 u63 u64 u65 u66 u67 u68 u69 u70 u71 u72 u73 u74 u75 u76 u77 u78 u79 u80 u81 u82 u83 u84 u85 u86 u87 u88 u89 u90 u91 u92 u93 u94 u95 u96 u97 u98 u99 u100 u101 u102 u103 u104 u105 u106 u107 u108 u109 u110 u111 u112 u113 u114 u115 u116 u117 u118 u119 u120 u121 u122 u123 u124 u125 u126 u127 u128 u129 u130 u131 u132 u133 u134 u135 u136 u137 u138 u139 u140 u141 u142 u143 u144 u145 u146 u147 u148 u149 u150 u151 u152 u153 u154 u155 u156 u157 u158 u159 u160 u161 u162 u163 u164 u165 u166 u167 u168 u169 u170 u171 u172 u173 u174 u175 u176 u177 u178 u179 u180 u181 u182 u183 u184 u185 u186 u187 u188 u189 u190 u191 u192 u193 u194 u195 u196 u197 u198 u199 u200 u201 u202 u203 u204 u205 u206 u207 u208 u209 u210 u211 u212 u213 u214 u215 u216 u217 u218 u219 u220 u221 u222 u223 u224 u225 u226 u227 u228 u229 u230 u231 u232 u233 u234 u235 u236 u237 u238 u239 u240 u241 u242 u243 u244 u245:Value} {w' : World} {k:Nat} : ranMu ⟨#[c0,.int .i64 ((m:Int)+1),u2,c3,.int .i64 ((k:Int)+1),c5,c6,c7,.pointer (some ⟨br,0,none⟩),c9,.pointer (some ⟨X,0,none⟩),.pointer (some ⟨Y,0,none⟩),.pointer (some ⟨bm,0,none⟩),u13,u14,u15,u16,u17,u18,u19,u20,u21,u22,u23,u24,u25,u26,u27,u28,u29,u30,c31,c32,u33,u34,u35,u36,u37,u38,u39,u40,u41,u42,u43,u44,u45,u46,u47,u48,u49,u50,u51,u52,u53,u54,u55,u56,u57,u58,u59,u60,u61,u62,u63,u64,u65,u66,u67,u68,u69,u70,u71,u72,u73,u74,u75,u76,u77,u78,u79,u80,u81,u82,u83,u84,u85,u86,u87,u88,u89,u90,u91,u92,u93,u94,u95,u96,u97,u98,u99,u100,u101,u102,u103,u104,u105,u106,u107,u108,u109,u110,u111,u112,u113,u114,u115,u116,u117,u118,u119,u120,u121,u122,u123,u124,u125,u126,u127,u128,u129,u130,u131,u132,u133,u134,u135,u136,u137,u138,u139,u140,u141,u142,u143,u144,u145,u146,u147,u148,u149,u150,u151,u152,u153,u154,u155,u156,u157,u158,u159,u160,u161,u162,u163,u164,u165,u166,u167,u168,u169,u170,u171,u172,u173,u174,u175,u176,u177,u178,u179,u180,u181,u182,u183,u184,u185,u186,u187,u188,u189,u190,u191,u192,u193,u194,u195,u196,u197,u198,u199,u200,u201,u202,u203,u204,u205,u206,u207,u208,u209,u210,u211,u212,u213,u214,u215,u216,u217,u218,u219,u220,u221,u222,u223,u224,u225,u226,u227,u228,u229,u230,u231,u232,u233,u234,u235,u236,u237,u238,u239,u240,u241,u242,u243,u244,u245,c246,c247,c248,c249,c250,c251,c252,c253,c254,c255,c256,c257,c258,c259,c260,c261,c262],[]⟩ w' = k+1:=by
 show (intOf (.int .i64 ((k:Int)+1))).toNat=_
 simp only [intOf]
 omega
def EndAt (m bm X Y zb zo fb fo:Nat) (M:Mv) (lg:ByteArray) (V:World):Prop:=(V.cell? ⟨bm,0,none⟩=some (.slice (some ⟨fb,fo,none⟩) 24 M.fcap)∧V.cell? ⟨bm,1,none⟩=some (.slice (some ⟨zb,zo,none⟩) 4 M.ecap)∧V.cell? ⟨bm,2,none⟩=some (.slice M.qa M.qus.length M.qcap))∧(V.cell? ⟨zb,zo+m * 7,none⟩=some (.int .i64 (M.ens.getD m default).st)∧V.cell? ⟨zb,zo+m * 7+1,none⟩=some (.string lg)∧V.cell? ⟨zb,zo+m * 7+2,none⟩=some (.int .i64 (M.ens.getD m default).pc)∧V.cell? ⟨zb,zo+m * 7+3,none⟩=some (.int .i64 (M.ens.getD m default).g0)∧V.cell? ⟨zb,zo+m * 7+4,none⟩=some (.int .i64 (M.ens.getD m default).g1)∧V.cell? ⟨zb,zo+m * 7+5,none⟩=some (.int .i64 (M.ens.getD m default).g2)∧V.cell? ⟨zb,zo+m * 7+6,none⟩=some (.int .i64 (M.ens.getD m default).g3))∧(V.frozen? ⟨zb,zo+m * 7,none⟩=false∧V.frozen? ⟨zb,zo+m * 7+1,none⟩=false∧V.frozen? ⟨zb,zo+m * 7+2,none⟩=false∧V.frozen? ⟨zb,zo+m * 7+3,none⟩=false∧V.frozen? ⟨zb,zo+m * 7+4,none⟩=false∧V.frozen? ⟨zb,zo+m * 7+5,none⟩=false∧V.frozen? ⟨zb,zo+m * 7+6,none⟩=false)∧(V.cell? ⟨X,0,none⟩=some (.slice none 0 0)∧V.cell? ⟨X,1,none⟩=some (.slice none 0 0)∧V.cell? ⟨X,2,none⟩=some (.slice none 0 0)∧V.cell? ⟨Y,0,none⟩=some (.int .i64 0)∧V.cell? ⟨Y,1,none⟩=some (.int .i64 0))∧(V.frozen? ⟨X,0,none⟩=false∧V.frozen? ⟨X,1,none⟩=false∧V.frozen? ⟨X,2,none⟩=false∧V.frozen? ⟨Y,0,none⟩=false∧V.frozen? ⟨Y,1,none⟩=false)∧bm<V.heap.size∧zb<V.heap.size∧X<V.heap.size∧Y<V.heap.size
theorem end_at {n0 m bm br X Y:Nat} {w:World} {R:Rn} {k:Nat} {pc:Int} {M:Mv} {rs:List Int} {wr:World} (H:RanK n0 m bm br X Y w R k pc M rs wr) {fb fo zb zo:Nat} (hfa:M.fa=some ⟨fb,fo,none⟩) (hea:M.ea=some ⟨zb,zo,none⟩) {lg:ByteArray} (hlg:(M.ens.getD m default).log=lg) (V:World) (hV:Below wr.heap.size wr V):EndAt m bm X Y zb zo fb fo M lg V:=by
 have hl2:=H.ok.good.s2
 have hm4:=H.ok.m4
 have c:=H.st.keep hV
 have k0:=c.c0
 rw [hfa,H.ok.good.s1] at k0
 have k1:=c.c1
 rw [hea,hl2] at k1
 obtain ⟨zb',zo',hz',m0,m1,m2,m3,m4,m5,m6⟩:=c.own.at_.enclave (j:=m) (by omega)
 rw [hea] at hz'
 simp only [Option.some.injEq,Addr.mk.injEq,and_true] at hz'
 obtain ⟨rfl,rfl⟩:=hz'
 rw [hlg] at m1
 obtain ⟨_,b2,b3⟩:=H.quiet hV
 have hx:=b2.trans H.zx
 have hy:=b3.trans H.zy
 have nf:=(c.own.ne _ _ _ hea).2.2
 have xf:=frozen_of_block hx
 have yf:=frozen_of_block hy
 exact ⟨⟨k0,k1,c.c2⟩,⟨m0,m1,m2,m3,m4,m5,m6⟩,⟨nf _,nf _,nf _,nf _,nf _,nf _,nf _⟩,⟨by simp [World.cell?,hx],by simp [World.cell?,hx],by simp [World.cell?,hx],by simp [World.cell?,hy],by simp [World.cell?,hy]⟩,⟨xf _,xf _,xf _,yf _,yf _⟩,c.lm,lt_of_cell m0,(Array.getElem?_eq_some_iff.1 hx).1,(Array.getElem?_eq_some_iff.1 hy).1⟩
theorem end_after {m bm X Y zb zo fb fo:Nat} {M:Mv} {lg:ByteArray} {W V:World} {o0 o1 o2 o3 o4 o5 o6:Nat} {a0 a1 a2 a3 a4 a5 a6:Value} (h8:V=(((((((W.setCell ⟨zb,o0,none⟩ a0).setCell ⟨zb,o1,none⟩ a1).setCell ⟨zb,o2,none⟩ a2).setCell ⟨zb,o3,none⟩ a3).setCell ⟨zb,o4,none⟩ a4).setCell ⟨zb,o5,none⟩ a5).setCell ⟨zb,o6,none⟩ a6).drew) (h:EndAt m bm X Y zb zo fb fo M lg W) (nb:bm≠zb) (nx:X≠zb) (ny:Y≠zb):(V.cell? ⟨bm,0,none⟩=some (.slice (some ⟨fb,fo,none⟩) 24 M.fcap)∧V.cell? ⟨bm,1,none⟩=some (.slice (some ⟨zb,zo,none⟩) 4 M.ecap)∧V.cell? ⟨bm,2,none⟩=some (.slice M.qa M.qus.length M.qcap))∧(V.cell? ⟨X,0,none⟩=some (.slice none 0 0)∧V.cell? ⟨X,1,none⟩=some (.slice none 0 0)∧V.cell? ⟨X,2,none⟩=some (.slice none 0 0)∧V.cell? ⟨Y,0,none⟩=some (.int .i64 0)∧V.cell? ⟨Y,1,none⟩=some (.int .i64 0))∧(V.frozen? ⟨X,0,none⟩=false∧V.frozen? ⟨X,1,none⟩=false∧V.frozen? ⟨X,2,none⟩=false∧V.frozen? ⟨Y,0,none⟩=false∧V.frozen? ⟨Y,1,none⟩=false)∧bm<V.heap.size∧X<V.heap.size∧Y<V.heap.size:=by
 obtain ⟨⟨y0,y1,y2⟩,_,_,⟨x0,x1,x2,v0,v1⟩,⟨f0,f1,f2,f3,f4⟩,_⟩:=h
 have kb:=after7 h8 bm nb
 have kx:=after7 h8 X nx
 have ky:=after7 h8 Y ny
 have cb:∀ i,V.cell? ⟨bm,i,none⟩=W.cell? ⟨bm,i,none⟩:=fun i=>World.cell?_of_block kb
 have cx:∀ i,V.cell? ⟨X,i,none⟩=W.cell? ⟨X,i,none⟩:=fun i=>World.cell?_of_block kx
 have cy:∀ i,V.cell? ⟨Y,i,none⟩=W.cell? ⟨Y,i,none⟩:=fun i=>World.cell?_of_block ky
 exact ⟨⟨(cb 0).trans y0,(cb 1).trans y1,(cb 2).trans y2⟩,⟨(cx 0).trans x0,(cx 1).trans x1,(cx 2).trans x2,(cy 0).trans v0,(cy 1).trans v1⟩,⟨(World.frozen?_of_block kx).trans f0,(World.frozen?_of_block kx).trans f1,(World.frozen?_of_block kx).trans f2,(World.frozen?_of_block ky).trans f3,(World.frozen?_of_block ky).trans f4⟩,lt_of_cell ((cb 0).trans y0),lt_of_cell ((cx 0).trans x0),lt_of_cell ((cy 0).trans v0)⟩
theorem ran_ne {n0 m bm br X Y:Nat} {w:World} {R:Rn} {k:Nat} {pc:Int} {M:Mv} {rs:List Int} {wr:World} (H:RanK n0 m bm br X Y w R k pc M rs wr) {zb zo:Nat} (hea:M.ea=some ⟨zb,zo,none⟩):X≠zb∧Y≠zb∧X≠Y∧bm≠X∧bm≠Y∧bm≠zb:=by
 have q:=(Mine.fresh H.st.own (.inr (.inl ⟨zo,none,hea⟩))).1
 have lx:=H.lx
 have ly:=H.ly
 have gm:=H.gm
 exact ⟨by omega,by omega,H.ne,by omega,by omega,fun q=>H.st.offm (q▸.inr (.inl ⟨zo,none,hea⟩))⟩
theorem ran_es {n0 m bm br X Y:Nat} {w:World} {R:Rn} {k:Nat} {pc:Int} {M:Mv} {rs:List Int} {wr:World} (H:RanK n0 m bm br X Y w R k pc M rs wr) {fb fo zb zo:Nat} (hfa:M.fa=some ⟨fb,fo,none⟩) (hea:M.ea=some ⟨zb,zo,none⟩) {lg:ByteArray} (hlg:(M.ens.getD m default).log=lg):(.slice (some ⟨fb,fo,none⟩) 24 M.fcap:Value)=.slice M.fa M.frs.length M.fcap∧(.slice (some ⟨zb,zo,none⟩) 4 M.ecap:Value)=.slice M.ea M.ens.length M.ecap∧lg.size≤maxLen:=by
 have hl2:=H.ok.good.s2
 have hm4:=H.ok.m4
 have q:=(H.st.own.at_.enok m (by omega)).len
 rw [hlg] at q
 exact ⟨by rw [hfa,H.ok.good.s1],by rw [hea,hl2],q⟩
theorem ran_cells {n0 m bm br X Y:Nat} {w:World} {R:Rn} {k:Nat} {pc:Int} {M:Mv} {rs:List Int} {wr:World} (H:RanK n0 m bm br X Y w R k pc M rs wr) {fb fo zb zo:Nat} (hfa:M.fa=some ⟨fb,fo,none⟩) (hea:M.ea=some ⟨zb,zo,none⟩) (V:World) (hV:Below wr.heap.size wr V) (n' right:Int) (h0:0≤n') (h1:n'≤1000000) (h2:right=1∨right=2∨right=4):Calls Tryz.prog 138 #[.agg #[.slice (some ⟨fb,fo,none⟩) 24 M.fcap,.slice (some ⟨zb,zo,none⟩) 4 M.ecap,.slice M.qa M.qus.length M.qcap],.int .i64 ((m:Int)+1),.int .i64 n',.int .i64 right] V (CellSaid (frmF M.frs ((m:Int)+1) n' right) n' V):=by
 have c:=cellOf_run M ((m:Int)+1) n' right V (H.st.keep hV).own.at_ H.ok.good h0 h1 h2
 unfold Mv.val at c
 rw [hfa,H.ok.good.s1,hea,H.ok.good.s2] at c
 exact c
theorem kept_ranF {m bm br X Y:Nat} {c0 c3 c5 c6 c7 c9 c31 c32 c246 c247 c248 c249 c250 c251 c252 c253 c254 c255 c256 c257 c258 c259 c260 c261 c262:Value} {Rel:Value→Value→World→Prop} {a:Act} {w' : World} (h:Kept (RanF m bm br X Y c0 c3 c5 c6 c7 c9 c31 c32 c246 c247 c248 c249 c250 c251 c252 c253 c254 c255 c256 c257 c258 c259 c260 c261 c262 Rel a w')):RanF m bm br X Y c0 c3 c5 c6 c7 c9 c31 c32 c246 c247 c248 c249 c250 c251 c252 c253 c254 c255 c256 c257 c258 c259 c260 c261 c262 Rel a w':=h.out
theorem wm_of {m:Nat} (h:m<4):IntKind.i64.wrap ((m:Int)+1 - 1)=(m:Int)∧IntKind.i64.wrap (m:Int)=(m:Int)∧(m:Int)<4:=⟨by rw [IntKind.wrap_i64];omega,by rw [IntKind.wrap_i64];omega,by omega⟩
end Go.Proofs.YtdngbojbpmdegaaGreatDoor
