import Derived.Test.YtdngbojbpmdegaaGreatDoorRefRanS
namespace Go.Proofs.YtdngbojbpmdegaaGreatDoor
open Go.RowKit
set_option linter.unusedVariables false
set_option maxRecDepth 1000000 in
set_option maxHeartbeats 400000000 in
theorem ran_round1 {n0 m bm br X Y:Nat} {w:World} {R:Rn} {k:Nat} {pc:Int} {M:Mv} {rs:List Int} {wr:World} {c0 c3 c5 c6 c7 c9 c31 c32 c246 c247 c248 c249 c250 c251 c252 c253 c254 c255 c256 c257 c258 c259 c260 c261 c262 u13 u14 u15 u16 u17 u18 u19 u20 u21 u22 u23 u24 u25 u26 u27 u28 u29 u30 u33 u34 u35 u36 u37 u38 u39 u40 u41 u42 u43 u44 u45 u46 u47 u48 u49 u50 u51 u52 u53 u54 u55 u56 u57 u58 u59 u60 u61 u62 u63 u64 u65 u66 u67 u68 u69 u70 u71 u72 u73 u74 u75 u76 u77 u78 u79 u80 u81 u82 u83 u84 u85 u86 u87 u88 u89 u90 u91 u92 u93 u94 u95 u96 u97 u98 u99 u100 u101 u102 u103 u104 u105 u106 u107 u108 u109 u110 u111 u112 u113 u114 u115 u116 u117 u118 u119 u120 u121 u122 u123 u124 u125 u126 u127 u128 u129 u130 u131 u132 u133 u134 u135 u136 u137 u138 u139 u140 u141 u142 u143 u144 u145 u146 u147 u148 u149 u150 u151 u152 u153 u154 u155 u156 u157 u158 u159 u160 u161 u162 u163 u164 u165 u166 u167 u168 u169 u170 u171 u172 u173 u174 u175 u176 u177 u178 u179 u180 u181 u182 u183 u184 u185 u186 u187 u188 u189 u190 u191 u192 u193 u194 u195 u196 u197 u198 u199 u200 u201 u202 u203 u204 u205 u206 u207 u208 u209 u210 u211 u212 u213 u214 u215 u216 u217 u218 u219 u220 u221 u222 u223 u224 u225 u226 u227 u228 u229 u230 u231 u232 u233 u234 u235 u236 u237 u238 u239 u240 u241 u242 u243 u244 u245:Value} (h:RanK n0 m bm br X Y w R (k+1) pc M rs wr) (Q0:Exit→Act→World→Prop) (hret:∀ a' w'',RanF m bm br X Y c0 c3 c5 c6 c7 c9 c31 c32 c246 c247 c248 c249 c250 c251 c252 c253 c254 c255 c256 c257 c258 c259 c260 c261 c262 (RanOut m X Y w R) a' w''→Q0 .ret a' w'') :
 Code.wp Tryz.prog ranBody (Exit.then (fun a' w''=>RanF m bm br X Y c0 c3 c5 c6 c7 c9 c31 c32 c246 c247 c248 c249 c250 c251 c252 c253 c254 c255 c256 c257 c258 c259 c260 c261 c262 (RanRel n0 m bm br X Y w R) a' w''∧ranMu a' w'' < k+1) Q0) ⟨#[c0,.int .i64 ((m:Int)+1),.int .i64 pc,c3,.int .i64 ((k:Int)+1),c5,c6,c7,.pointer (some ⟨br,0,none⟩),c9,.pointer (some ⟨X,0,none⟩),.pointer (some ⟨Y,0,none⟩),.pointer (some ⟨bm,0,none⟩),u13,u14,u15,u16,u17,u18,u19,u20,u21,u22,u23,u24,u25,u26,u27,u28,u29,u30,c31,c32,u33,u34,u35,u36,u37,u38,u39,u40,u41,u42,u43,u44,u45,u46,u47,u48,u49,u50,u51,u52,u53,u54,u55,u56,u57,u58,u59,u60,u61,u62,u63,u64,u65,u66,u67,u68,u69,u70,u71,u72,u73,u74,u75,u76,u77,u78,u79,u80,u81,u82,u83,u84,u85,u86,u87,u88,u89,u90,u91,u92,u93,u94,u95,u96,u97,u98,u99,u100,u101,u102,u103,u104,u105,u106,u107,u108,u109,u110,u111,u112,u113,u114,u115,u116,u117,u118,u119,u120,u121,u122,u123,u124,u125,u126,u127,u128,u129,u130,u131,u132,u133,u134,u135,u136,u137,u138,u139,u140,u141,u142,u143,u144,u145,u146,u147,u148,u149,u150,u151,u152,u153,u154,u155,u156,u157,u158,u159,u160,u161,u162,u163,u164,u165,u166,u167,u168,u169,u170,u171,u172,u173,u174,u175,u176,u177,u178,u179,u180,u181,u182,u183,u184,u185,u186,u187,u188,u189,u190,u191,u192,u193,u194,u195,u196,u197,u198,u199,u200,u201,u202,u203,u204,u205,u206,u207,u208,u209,u210,u211,u212,u213,u214,u215,u216,u217,u218,u219,u220,u221,u222,u223,u224,u225,u226,u227,u228,u229,u230,u231,u232,u233,u234,u235,u236,u237,u238,u239,u240,u241,u242,u243,u244,u245,c246,c247,c248,c249,c250,c251,c252,c253,c254,c255,c256,c257,c258,c259,c260,c261,c262],[]⟩ wr:=by
 have H:Hid (_):=h
 have hG:=h.ok.good
 have HG:Hid (Good M):=hG
 have hpc:=h.ok.pc
 have hm4:=h.ok.m4
 have hl:=hG.s1
 obtain ⟨fb,fo,hfa,_⟩:=h.st.own.at_.frame (j:=0) (by omega)
 obtain ⟨zb,zo,hea,_⟩:=h.st.own.at_.enclave (j:=m) (by have:=hG.s2;omega)
 obtain ⟨lg,HLG⟩:∃ lg,Hid ((M.ens.getD m default).log=lg):=⟨_,rfl⟩
 have HFA:Hid (_):=hfa
 have HHA:Hid (_):=hea
 have FE:Hid (_):=end_at h hfa hea HLG.out
 have CC:Hid (_):=ran_cells h hfa hea
 obtain ⟨i1,hi1⟩:∃ i:Nat,pc % 8=(i:Int):=⟨(pc % 8).toNat,by omega⟩
 have HI1:Hid (_):=hi1
 have hc1:=CC.out wr (Below.refl _ _) pc 4 (by omega) (by omega) (by omega)
 have hkp:0<(k:Int)+1:=by omega
 have hw1:IntKind.i64.wrap (pc+1)=pc+1:=by rw [IntKind.wrap_i64];omega
 rcases frmF_cases hl ((m:Int)+1) pc 4 hpc.1 with hf1 | ⟨k1,hk1,hf1⟩
 focus
  conv=>arg 2;whnf
  have HST:Hid (stepR M m pc rs xorR=⟨M,pc,rs,3,0⟩):=by
   show _=_
   unfold stepR
   rw [if_pos (.inl (by omega))]
  have HF:Hid (frmF M.frs ((m:Int)+1) pc 4<0):=by show _<_;omega
  obtain ⟨⟨y0,y1,y2⟩,-,-,-,-,lm,-⟩:=FE.out wr (Below.refl _ _)
  clear h hG hf1 hfa hl hea hi1
  go_upto_region 5 with (go_at_call 138;refine hc1.mono ?_;clear hc1;intro y W1 hs;have hs2:=cell_nott hs HF.out;clear hs;obtain ⟨G1,J1,rfl,hb⟩:=hs2;have HB1:Hid (_):=hb;clear hb)
  have hc2:=CC.out W1 HB1.out (pc+1) 4 (by omega) (by omega) (by omega)
  clear y0 y1 y2 lm
  obtain ⟨⟨y0,y1,y2⟩,-,-,-,-,lm,-⟩:=FE.out W1 HB1.out
  go_upto_region 6 with (go_at_call 138;refine hc2.mono ?_;clear hc2;intro y W2 hs;obtain ⟨G2,J2,B2,rfl,_,_,hb⟩:=hs;have HB2:Hid (Below wr.heap.size wr W2):=HB1.out.trans (hb.mono HB1.out.size);clear hb)
  clear y0 y1 y2 lm
  go_upto_region 7 with fail
  refine wp_name fun V3 hV3=>?_
  have HB3:Hid (Below wr.heap.size wr V3):=by show Below _ _ _;rw [hV3.out];exact HB2.out.alloc HB2.out.size _
  clear hV3 HB1
 rotate_left
 rcases frmF_cases hl ((m:Int)+1) (pc+1) 4 (by omega) with hf2 | ⟨k2,hk2,hf2⟩
 focus
  conv=>arg 2;whnf
  have HST:Hid (stepR M m pc rs xorR=⟨M,pc,rs,3,0⟩):=by
   show _=_
   unfold stepR
   rw [if_pos (.inr (by omega))]
  have HF:Hid (frmF M.frs ((m:Int)+1) (pc+1) 4<0):=by show _<_;omega
  rw [hf1] at hc1
  obtain ⟨⟨y0,y1,y2⟩,-,-,-,-,lm,-⟩:=FE.out wr (Below.refl _ _)
  clear h hG hf1 hf2 hfa hl hea hi1
  go_upto_region 5 with (go_at_call 138;refine hc1.mono ?_;clear hc1;intro y W1 hs;have hs2:=cell_got hs HI1.out;clear hs;obtain ⟨rfl,hb⟩:=hs2;have HB1:Hid (_):=hb;clear hb)
  have hc2:=CC.out W1 HB1.out (pc+1) 4 (by omega) (by omega) (by omega)
  clear y0 y1 y2 lm
  obtain ⟨⟨y0,y1,y2⟩,-,-,-,-,lm,-⟩:=FE.out W1 HB1.out
  go_upto_region 6 with (go_at_call 138;refine hc2.mono ?_;clear hc2;intro y W2 hs;have hs2:=cell_nott hs HF.out;clear hs;obtain ⟨G2,J2,rfl,hb⟩:=hs2;have HB2:Hid (Below wr.heap.size wr W2):=HB1.out.trans (hb.mono HB1.out.size);clear hb)
  clear y0 y1 y2 lm
  go_upto_region 7 with fail
  refine wp_name fun V3 hV3=>?_
  have HB3:Hid (Below wr.heap.size wr V3):=by show Below _ _ _;rw [hV3.out];exact HB2.out.alloc HB2.out.size _
  clear hV3 HB1
 rotate_left
 obtain ⟨x,hx⟩:∃ x,wordAt M (k1:Int) pc=x:=⟨_,rfl⟩
 obtain ⟨n,hx2⟩:∃ n,wordAt M (k2:Int) (pc+1)=n:=⟨_,rfl⟩
 by_cases hs:x % 16=9∧M.qus.length<40
 · exact ran_say h Q0 hret hk1 hk2 hf1 hf2 hx hx2 hs.1 hs.2
 have HSN:Hid (x % 16=9→40≤M.qus.length):=fun q=>by omega
 clear hs
 conv=>arg 2;whnf
 have HS:stepR M m pc rs xorR=doR M m pc rs x n xorR:=by
  unfold stepR
  rw [if_neg (by rw [hf1,hf2];omega),hf1,hf2,hx,hx2]
 have hp64:pc<64:=run_at (e:=(m:Int)+1) (by rw [hf1];omega) hpc.1
 have hcl:=h.ok.len
 have hxb:=wordAt_in hG hk1 pc
 rw [hx] at hxb
 have hnb:=wordAt_in hG hk2 (pc+1)
 rw [hx2] at hnb
 obtain ⟨ea,eb,la,lb⟩:=reg_nat hxb.1
 obtain ⟨i2,hi2⟩:∃ i:Nat,(pc+1) % 8=(i:Int):=⟨((pc+1) % 8).toNat,by omega⟩
 obtain ⟨b1,o1,q1,_,_,g1⟩:=frame_word h.st.own.at_ hG hk1 pc hi1
 obtain ⟨b2,o2,q2,_,_,g2⟩:=frame_word h.st.own.at_ hG hk2 (pc+1) hi2
 rw [hx] at g1
 rw [hx2] at g2
 have hi18:(i1:Int)<8:=by omega
 have hi28:(i2:Int)<8:=by omega
 have HI2:Hid (_):=hi2
 obtain ⟨a,HA⟩:∃ a,Hid (regA x=a):=⟨_,rfl⟩
 obtain ⟨b,HBb⟩:∃ b,Hid (regB x=b):=⟨_,rfl⟩
 rw [HA.out] at ea la
 rw [HBb.out] at eb lb
 obtain ⟨ra,hra⟩:∃ ra,Hid (rs.getD a 0=ra):=⟨_,rfl⟩
 obtain ⟨rb,hrb⟩:∃ rb,Hid (rs.getD b 0=rb):=⟨_,rfl⟩
 have hba:=h.ok.rs a
 have hbb:=h.ok.rs b
 rw [hra.out] at hba
 rw [hrb.out] at hbb
 obtain ⟨kk,HX⟩:∃ kk,Hid (x % 16=kk):=⟨_,rfl⟩
 unfold doR at HS
 rw [show kindR x=kk from HX.out,HA.out,HBb.out,hra.out,hrb.out] at HS
 have HD:Hid (_):=HS
 have FF:Hid (∀ V,Below wr.heap.size wr V→V.cell? ⟨bm,0,none⟩=some (.slice (some ⟨fb,fo,none⟩) 24 M.fcap)∧V.cell? ⟨bm,1,none⟩=some (.slice (some ⟨zb,zo,none⟩) 4 M.ecap)∧V.cell? ⟨bm,2,none⟩=some (.slice M.qa M.qus.length M.qcap)∧V.cell? ⟨fb,fo+k1 * 4+3,none⟩=some (.slice (some ⟨b1,o1,none⟩) 8 q1)∧V.cell? ⟨b1,o1+i1,none⟩=some (.int .i64 x)∧V.cell? ⟨fb,fo+k2 * 4+3,none⟩=some (.slice (some ⟨b2,o2,none⟩) 8 q2)∧V.cell? ⟨b2,o2+i2,none⟩=some (.int .i64 n)∧V.cell? ⟨br,a,none⟩=some (.int .i64 ra)∧V.cell? ⟨br,b,none⟩=some (.int .i64 rb)∧V.frozen? ⟨br,a,none⟩=false∧bm<V.heap.size∧br<V.heap.size∧fb<V.heap.size∧b1<V.heap.size∧b2<V.heap.size):=fun V hV=>by
  have c:=H.out.st.keep hV
  have ga:=c.cr a la
  have gb:=c.cr b lb
  rw [hra.out] at ga
  rw [hrb.out] at gb
  obtain ⟨f1,f2,f3,f4⟩:=g1 V c.own.at_ fb fo hfa
  obtain ⟨f5,f6,f7,_⟩:=g2 V c.own.at_ fb fo hfa
  obtain ⟨⟨c0,c1,c2⟩,-⟩:=FE.out V hV
  exact ⟨c0,c1,c2,f1,f2,f5,f6,ga,gb,c.fr a,c.lm,c.lr,f4,f3,f7⟩
 rw [hf1] at hc1
 have HF2:Hid (_):=hf2
 have t1:Int.tdiv x 16=x / 16:=Int.tdiv_eq_ediv_of_nonneg hxb.1
 have t2:Int.tdiv x 256=x / 256:=Int.tdiv_eq_ediv_of_nonneg hxb.1
 have t3:Int.tmod x 16=kk:=by rw [Int.tmod_eq_emod_of_nonneg hxb.1,HX.out]
 have t4:IntKind.i64.wrap (x / 16)=x / 16:=by rw [IntKind.wrap_i64];omega
 have t5:IntKind.i64.wrap (x / 256)=x / 256:=by rw [IntKind.wrap_i64];omega
 have t6:Int.tmod (x / 16) 4=(a:Int):=by rw [Int.tmod_eq_emod_of_nonneg (by omega),ea]
 have t7:Int.tmod (x / 256) 4=(b:Int):=by rw [Int.tmod_eq_emod_of_nonneg (by omega),eb]
 have ha4:(a:Int)<4:=by omega
 have hb4:(b:Int)<4:=by omega
 have hk1' : (k1:Int)<24:=by omega
 have hk2' : (k2:Int)<24:=by omega
 have hw2:IntKind.i64.wrap (pc+2)=pc+2:=by rw [IntKind.wrap_i64];omega
 have hw3:IntKind.i64.wrap ((k:Int)+1 - 1)=(k:Int):=by rw [IntKind.wrap_i64];have:=h.lk;omega
 have hw4:Hid (wrap64 (k:Int)=(k:Int)):=w64k (by have:=h.lk;omega)
 have HLA:Hid (a<4):=la
 obtain ⟨y0,y1,y2,e1,e2,e3,e4,ga,gb,fa,lm,lr,lf,l1,l2⟩:=FF.out wr (Below.refl _ _)
 clear h hG hf1 hf2 hx hx2 ea eb g1 g2 hfa hl hi1 hi2 la lb hea hk1 hk2 HS
 go_upto_region 5 with (go_at_call 138;refine hc1.mono ?_;clear hc1;intro y W1 hs;have hs2:=cell_got hs HI1.out;clear hs;obtain ⟨rfl,hb⟩:=hs2;have HB1:Hid (_):=hb;clear hb)
 have hc2:=CC.out W1 HB1.out (pc+1) 4 (by omega) (by omega) (by omega)
 rw [HF2.out] at hc2
 clear y0 y1 y2 e1 e2 e3 e4 ga gb fa lm lr lf l1 l2
 obtain ⟨y0,y1,y2,e1,e2,e3,e4,ga,gb,fa,lm,lr,lf,l1,l2⟩:=FF.out W1 HB1.out
 go_upto_region 6 with (go_at_call 138;refine hc2.mono ?_;clear hc2;intro y W2 hs;have hs2:=cell_got hs HI2.out;clear hs;obtain ⟨rfl,hb⟩:=hs2;have HB2:Hid (Below wr.heap.size wr W2):=HB1.out.trans (hb.mono HB1.out.size);clear hb)
 clear y0 y1 y2 e1 e2 e3 e4 ga gb fa lm lr lf l1 l2 HF2 HI1 HI2
 go_upto_region 7 with fail
 refine wp_name fun V3 hV3=>?_
 have HB3:Hid (Below wr.heap.size wr V3):=by show Below _ _ _;rw [hV3.out];exact HB2.out.alloc HB2.out.size _
 have hzo:V3.heap[W2.heap.size]? = some (.cells #[.int .i64 0,.int .i64 0] 47 (0,0)):=by rw [hV3.out];exact Go.Deep.blk_alloc_new _ _
 have z0:V3.cell? ⟨W2.heap.size,0,none⟩=some (.int .i64 0):=by simp [World.cell?,hzo]
 have z1:V3.cell? ⟨W2.heap.size,1,none⟩=some (.int .i64 0):=by simp [World.cell?,hzo]
 have zf0:=frozen_of_block hzo 0
 have zf1:=frozen_of_block hzo 1
 have zl:=lt_of_cell z0
 dsimp only at zl
 have zbr:W2.heap.size≠br:=by have:=H.out.st.lr;have:=HB2.out.size;omega
 have zbm:W2.heap.size≠bm:=by have:=H.out.st.lm;have:=HB2.out.size;omega
 obtain ⟨y0,y1,y2,e1,e2,e3,e4,ga,gb,fa,lm,lr,lf,l1,l2⟩:=FF.out V3 HB3.out
 clear hV3 HB1 hzo
 rcases kk_cases kk with rfl | rfl | rfl | rfl | rfl | rfl | rfl | rfl | rfl | ⟨n1,n2,n3,n4,n5,n6,n7,n8,n9⟩
 · as_aux_lemma =>
    have HST:Hid (stepR M m pc rs xorR=⟨M,pc+2,rs.set a n,0,0⟩):=HD.out.trans (by simp)
    go_wp2_with (with_reducible refine kept_and ?_)
    refine Kept.mk ?_
    have hK:=H.out.reg HB3.out HLA.out HST.out
    rw [hw4.out]
    exact ⟨ranF_mk (ran_goes hK),ranMu_mk⟩
 · as_aux_lemma =>
    have HST:Hid (stepR M m pc rs xorR=⟨M,pc+2,rs.set a ((ra+rb) % 65536),0,0⟩):=HD.out.trans (by simp)
    have w1:IntKind.i64.wrap (ra+rb)=ra+rb:=by rw [IntKind.wrap_i64];omega
    have w2:Int.tmod (ra+rb) 65536=(ra+rb) % 65536:=Int.tmod_eq_emod_of_nonneg (by omega)
    have w3:IntKind.i64.wrap ((ra+rb) % 65536)=(ra+rb) % 65536:=by rw [IntKind.wrap_i64];omega
    go_wp2_with (with_reducible refine kept_and ?_)
    refine Kept.mk ?_
    have hK:=H.out.reg HB3.out HLA.out HST.out
    rw [hw4.out]
    exact ⟨ranF_mk (ran_goes hK),ranMu_mk⟩
 · as_aux_lemma =>
    have HST:Hid (stepR M m pc rs xorR=⟨M,pc+2,rs.set a (bits .xor .i64 ra rb),0,0⟩):=HD.out.trans (by simp;rfl)
    go_wp2_with (with_reducible refine kept_and ?_)
    refine Kept.mk ?_
    have hK:=H.out.reg HB3.out HLA.out HST.out
    rw [hw4.out]
    exact ⟨ranF_mk (ran_goes hK),ranMu_mk⟩
 · by_cases hlt:ra<rb
   · as_aux_lemma =>
      have HST:Hid (stepR M m pc rs xorR=⟨M,pc+2,rs.set a 1,0,0⟩):=HD.out.trans (by simp [hlt])
      go_wp2_with (with_reducible refine kept_and ?_)
      refine Kept.mk ?_
      have hK:=H.out.reg2 (v':=0) HB3.out HLA.out HST.out
      rw [hw4.out]
      exact ⟨ranF_mk (ran_goes hK),ranMu_mk⟩
   · as_aux_lemma =>
      have HST:Hid (stepR M m pc rs xorR=⟨M,pc+2,rs.set a 0,0,0⟩):=HD.out.trans (by rw [if_neg hlt];simp)
      go_wp2_with (with_reducible refine kept_and ?_)
      refine Kept.mk ?_
      have hK:=H.out.reg HB3.out HLA.out HST.out
      rw [hw4.out]
      exact ⟨ranF_mk (ran_goes hK),ranMu_mk⟩
 rcases frmF_cases HG.out.s1 ((m:Int)+1) rb 1 hbb.1 with hf3 | ⟨k3,hk3,hf3⟩
 focus
  have HF3:Hid (frmF M.frs ((m:Int)+1) rb 1<0):=by show _<_;omega
  have HST:Hid (stepR M m pc rs xorR=⟨M,pc+2,rs,3,0⟩):=HD.out.trans (by simp [hf3])
  have hc3:=CC.out V3 HB3.out rb 1 (by omega) (by omega) (by omega)
  go_upto_region 28 with (go_at_call 138;refine hc3.mono ?_;clear hc3;intro y W4 hs;have hs2:=cell_nott hs HF3.out;clear hs;obtain ⟨G3,J3,rfl,hb⟩:=hs2;have HB4:Hid (Below wr.heap.size wr W4):=HB3.out.trans (hb.mono HB3.out.size);have HB4' : Hid (Below V3.heap.size V3 W4):=hb;clear hb)
  replace z0:=(HB4'.out.cell (p:=⟨W2.heap.size,0,none⟩) zl).trans z0
  replace zl:=lt_of_cell z0
  dsimp only at zl
  clear y0 y1 y2 e1 e2 e3 e4 ga gb fa lm lr lf l1 l2 z1 zf0 zf1
  obtain ⟨-,-,-,e1,e2,e3,e4,ga,gb,fa,-,lr,lf,l1,l2⟩:=FF.out W4 HB4.out
  clear HB3
  rename World=>V3
  have HB3:Hid (_):=HB4.out
 rotate_left
 · as_aux_lemma =>
    have HF3:Hid (_):=hf3
    obtain ⟨i3,hi3⟩:∃ i:Nat,rb % 8=(i:Int):=⟨(rb % 8).toNat,by omega⟩
    obtain ⟨b3,o3,q3,qa3,_,g3⟩:=frame_word H.out.st.own.at_ HG.out hk3 rb hi3
    have HA3:Hid ((M.frs.getD k3 default).a=some ⟨b3,o3,none⟩):=qa3
    obtain ⟨vv,HVV⟩:∃ vv,Hid (wordAt M (k3:Int) rb=vv):=⟨_,rfl⟩
    rw [HVV.out] at g3
    have HI3:Hid (rb % 8=(i3:Int)):=hi3
    have hi38:(i3:Int)<8:=by omega
    have hk3' : (k3:Int)<24:=by omega
    have HK3:Hid (k3<24):=hk3
    have F3:Hid (∀ V,Below wr.heap.size wr V→V.cell? ⟨fb,fo+k3 * 4+3,none⟩=some (.slice (some ⟨b3,o3,none⟩) 8 q3)∧V.cell? ⟨b3,o3+i3,none⟩=some (.int .i64 vv)∧V.frozen? ⟨b3,o3+i3,none⟩=false∧b3<V.heap.size∧fb<V.heap.size):=fun V hV=>by
     have c:=H.out.st.keep hV
     obtain ⟨f1,f2,f3,f4⟩:=g3 V c.own.at_ fb fo HFA.out
     exact ⟨f1,f2,(c.own.nw k3 (by have:=HG.out.s1;omega) _ _ _ qa3).2.2 _,f3,f4⟩
    have HST:Hid (stepR M m pc rs xorR=⟨M,pc+2,rs.set a vv,0,0⟩):=HD.out.trans (by simp [hf3,HVV.out])
    have hc3:=CC.out V3 HB3.out rb 1 (by omega) (by omega) (by omega)
    rw [HF3.out] at hc3
    go_upto_region 28 with (go_at_call 138;refine hc3.mono ?_;clear hc3;intro y W4 hs;have hs2:=cell_got hs HI3.out;clear hs;obtain ⟨rfl,hb⟩:=hs2;have HB4:Hid (Below wr.heap.size wr W4):=HB3.out.trans (hb.mono HB3.out.size);have HB4' : Hid (Below V3.heap.size V3 W4):=hb;clear hb)
    replace z0:=(HB4'.out.cell (p:=⟨W2.heap.size,0,none⟩) zl).trans z0
    replace zl:=lt_of_cell z0
    dsimp only at zl
    clear y0 y1 y2 e1 e2 e3 e4 ga gb fa lm lr lf l1 l2 z1 zf0 zf1
    obtain ⟨y0,y1,y2,e1,e2,e3,e4,ga,gb,fa,lm,lr,lf,l1,l2⟩:=FF.out W4 HB4.out
    obtain ⟨e5,e6,e7,l3,_⟩:=F3.out W4 HB4.out
    go_wp2_with (with_reducible refine kept_and ?_)
    refine Kept.mk ?_
    have hK:=H.out.reg HB4.out HLA.out HST.out
    rw [hw4.out]
    exact ⟨ranF_mk (ran_goes hK),ranMu_mk⟩
 rcases frmF_cases HG.out.s1 ((m:Int)+1) rb 2 hbb.1 with hf3 | ⟨k3,hk3,hf3⟩
 focus
  have HF3:Hid (frmF M.frs ((m:Int)+1) rb 2<0):=by show _<_;omega
  have HST:Hid (stepR M m pc rs xorR=⟨M,pc+2,rs,3,0⟩):=HD.out.trans (by simp [hf3])
  have hc3:=CC.out V3 HB3.out rb 2 (by omega) (by omega) (by omega)
  go_upto_region 33 with (go_at_call 138;refine hc3.mono ?_;clear hc3;intro y W4 hs;have hs2:=cell_nott hs HF3.out;clear hs;obtain ⟨G3,J3,rfl,hb⟩:=hs2;have HB4:Hid (Below wr.heap.size wr W4):=HB3.out.trans (hb.mono HB3.out.size);have HB4' : Hid (Below V3.heap.size V3 W4):=hb;clear hb)
  replace z0:=(HB4'.out.cell (p:=⟨W2.heap.size,0,none⟩) zl).trans z0
  replace zl:=lt_of_cell z0
  dsimp only at zl
  clear y0 y1 y2 e1 e2 e3 e4 ga gb fa lm lr lf l1 l2 z1 zf0 zf1
  obtain ⟨-,-,-,e1,e2,e3,e4,ga,gb,fa,-,lr,lf,l1,l2⟩:=FF.out W4 HB4.out
  clear HB3
  rename World=>V3
  have HB3:Hid (_):=HB4.out
 rotate_left
 · as_aux_lemma =>
    have HF3:Hid (_):=hf3
    obtain ⟨i3,hi3⟩:∃ i:Nat,rb % 8=(i:Int):=⟨(rb % 8).toNat,by omega⟩
    obtain ⟨b3,o3,q3,qa3,_,g3⟩:=frame_word H.out.st.own.at_ HG.out hk3 rb hi3
    have HA3:Hid ((M.frs.getD k3 default).a=some ⟨b3,o3,none⟩):=qa3
    obtain ⟨vv,HVV⟩:∃ vv,Hid (wordAt M (k3:Int) rb=vv):=⟨_,rfl⟩
    rw [HVV.out] at g3
    have HI3:Hid (rb % 8=(i3:Int)):=hi3
    have hi38:(i3:Int)<8:=by omega
    have hk3' : (k3:Int)<24:=by omega
    have HK3:Hid (k3<24):=hk3
    have F3:Hid (∀ V,Below wr.heap.size wr V→V.cell? ⟨fb,fo+k3 * 4+3,none⟩=some (.slice (some ⟨b3,o3,none⟩) 8 q3)∧V.cell? ⟨b3,o3+i3,none⟩=some (.int .i64 vv)∧V.frozen? ⟨b3,o3+i3,none⟩=false∧b3<V.heap.size∧fb<V.heap.size):=fun V hV=>by
     have c:=H.out.st.keep hV
     obtain ⟨f1,f2,f3,f4⟩:=g3 V c.own.at_ fb fo HFA.out
     exact ⟨f1,f2,(c.own.nw k3 (by have:=HG.out.s1;omega) _ _ _ qa3).2.2 _,f3,f4⟩
    have HST:Hid (stepR M m pc rs xorR=⟨putWord M (k3:Int) rb ra,pc+2,rs,0,0⟩):=HD.out.trans (by simp [hf3])
    have hwv:Hid ((Lit.int .i64 ra).wf=true):=WalkArith.wf_i64 (by omega)
    have hk24:k3<M.frs.length:=by have:=HG.out.s1;omega
    have hbm3:bm≠b3:=fun q=>H.out.st.offm (q▸.inr (.inr (.inr ⟨k3,hk24,o3,none,HA3.out⟩)))
    have hbr3:br≠b3:=fun q=>H.out.st.offr (q▸.inr (.inr (.inr ⟨k3,hk24,o3,none,HA3.out⟩)))
    have hfb3:fb≠b3:=fun q=>H.out.st.own.wf k3 hk24 b3 o3 none fo none HA3.out (by rw [HFA.out,q])
    have hlt3:b3<wr.heap.size:=(H.out.st.own.nw k3 hk24 _ _ _ HA3.out).2.1
    clear hk24
    have hc3:=CC.out V3 HB3.out rb 2 (by omega) (by omega) (by omega)
    rw [HF3.out] at hc3
    go_upto_region 34 with (go_at_call 138;refine hc3.mono ?_;clear hc3;intro y W4 hs;have hs2:=cell_got hs HI3.out;clear hs;obtain ⟨rfl,hb⟩:=hs2;have HB4:Hid (Below wr.heap.size wr W4):=HB3.out.trans (hb.mono HB3.out.size);have HB4' : Hid (Below V3.heap.size V3 W4):=hb;clear hb)
    replace z0:=(HB4'.out.cell (p:=⟨W2.heap.size,0,none⟩) zl).trans z0
    replace zl:=lt_of_cell z0
    dsimp only at zl
    clear y0 y1 y2 e1 e2 e3 e4 ga gb fa lm lr lf l1 l2 z1 zf0 zf1
    obtain ⟨y0,y1,y2,e1,e2,e3,e4,ga,gb,fa,lm,lr,lf,l1,l2⟩:=FF.out W4 HB4.out
    obtain ⟨e5,e6,e7,l3,_⟩:=F3.out W4 HB4.out
    go_region_held3 (fun w'=>w'.cell? ⟨bm,0,none⟩=some (.slice (some ⟨fb,fo,none⟩) 24 M.fcap)∧w'.cell? ⟨fb,fo+k3 * 4+3,none⟩=some (.slice (some ⟨b3,o3,none⟩) 8 q3)∧w'.cell? ⟨br,a,none⟩=some (.int .i64 ra)) (refine ⟨?_,?_,?_⟩<;>(repeat (first | (with_reducible assumption) | (with_reducible refine (drew_cell _ _).trans ?_) | (with_reducible refine (cell_off hbm3 _ _ _).trans ?_) | (with_reducible refine (cell_off hbr3 _ _ _).trans ?_) | (with_reducible refine (cell_off hfb3 _ _ _).trans ?_)))) (fail)
    refine q_name fun V5 hV5=>?_
    have zb3:W2.heap.size≠b3:=by have:=HB2.out.size;omega
    have z5:V5.cell? ⟨W2.heap.size,0,none⟩=some (.int .i64 0):=by rw [hV5.out];exact (drew_cell _ _).trans ((cell_off zb3 _ _ _).trans z0)
    have zl5:W2.heap.size<V5.heap.size:=lt_of_cell z5
    go_wp2_with (with_reducible refine kept_and ?_)
    refine Kept.mk ?_
    have hK:=H.out.store HB4.out HK3.out HA3.out HI3.out hwv.out HST.out hV5.out
    rw [hw4.out]
    exact ⟨ranF_mk (ran_goes hK),ranMu_mk⟩
 · by_cases hlt:ra=0
   · as_aux_lemma =>
      have HST:Hid (stepR M m pc rs xorR=⟨M,n,rs,0,0⟩):=HD.out.trans (by simp [hlt])
      subst hlt
      go_wp2_with (with_reducible refine kept_and ?_)
      refine Kept.mk ?_
      have hK:=H.out.noreg HB3.out HST.out
      rw [hw4.out]
      exact ⟨ranF_mk (ran_goes hK),ranMu_mk⟩
   · as_aux_lemma =>
      have HST:Hid (stepR M m pc rs xorR=⟨M,pc+2,rs,0,0⟩):=HD.out.trans (by simp [hlt])
      have hlt' : (ra == 0)=false:=by simpa using hlt
      go_wp2_with (with_reducible refine kept_and ?_)
      refine Kept.mk ?_
      have hK:=H.out.noreg HB3.out HST.out
      rw [hw4.out]
      exact ⟨ranF_mk (ran_goes hK),ranMu_mk⟩
 · skip
   have HST:Hid (stepR M m pc rs xorR=⟨M,pc+2,rs,1,ra⟩):=HD.out.trans (by simp)
   go_upto_region 45 with fail
   refine wp_name fun V5 hV5=>?_
   obtain ⟨j0,j1⟩:=blk2R (v0:=.int .i64 1) (v1:=.int .i64 ra) z0 z1
   rw [← hV5.out] at j0 j1
   have HB5:Hid (Below wr.heap.size wr V5):=by show Below _ _ _;rw [hV5.out];exact (HB3.out.setCell HB2.out.size _).setCell HB2.out.size _
   have jl:W2.heap.size<V5.heap.size:=lt_of_cell j0
   have hsz:W2.heap.size≠zb∧W2.heap.size≠X∧W2.heap.size≠Y:=by have:=(Mine.fresh H.out.st.own (.inr (.inl ⟨zo,none,HHA.out⟩))).2;have:=HB2.out.size;have:=H.out.st.ge;have:=H.out.lx;have:=H.out.ly;omega
   obtain ⟨zzb,zX,zY⟩:=hsz
   clear hV5 z0 z1 zf0 zf1 zl y0 y1 y2 e1 e2 e3 e4 ga gb fa lm lr lf l1 l2
   obtain ⟨hwm,hwm2,hmm⟩:=wm_of hm4
   obtain ⟨xzb,yzb,hxy,hbmX,hbmY,hbmz⟩:=ran_ne H.out HHA.out
   have HE:Hid (_):=FE.out V5 HB5.out
   obtain ⟨⟨y0,y1,y2⟩,⟨n0_,n1_,n2_,n3_,n4_,n5_,n6_⟩,⟨nf0,nf1,nf2,nf3,nf4,nf5,nf6⟩,⟨x0,x1,x2,v0,v1⟩,⟨xf0,xf1,xf2,yf0,yf1⟩,lm,lz,lX,lY⟩:=HE.out
   go_upto_region 49 with fail
   go_region_held3 (fun w'=>w'.cell? ⟨bm,1,none⟩=some (.slice (some ⟨zb,zo,none⟩) 4 M.ecap)∧w'.cell? ⟨zb,zo+m * 7+1,none⟩=some (.string lg)) (first | (with_reducible exact seven_both hbmz y1 n1_) | go_keep) (fail)
   refine q_name fun V8 hV8=>?_
   clear y0 y1 y2 n0_ n1_ n2_ n3_ n4_ n5_ n6_ nf0 nf1 nf2 nf3 nf4 nf5 nf6 x0 x1 x2 v0 v1 xf0 xf1 xf2 yf0 yf1 lm lz lX lY
   obtain ⟨⟨y0,y1,y2⟩,⟨x0,x1,x2,v0,v1⟩,⟨xf0,xf1,xf2,yf0,yf1⟩,lb8,lx8,ly8⟩:=end_after hV8.out HE.out hbmz xzb yzb
   replace j0:=(World.cell?_of_block (after7 hV8.out W2.heap.size zzb)).trans j0
   replace j1:=(World.cell?_of_block (after7 hV8.out W2.heap.size zzb)).trans j1
   have jl8:W2.heap.size<V8.heap.size:=lt_of_cell j0
   clear jl
   go_upto_region 50 with fail
   go_big_region
   go_wp2_with (with_reducible refine kept_ranF ?_)
   refine Kept.mk ?_
   exact ranF_mk (RanOut.drew (ran_last H.out HB5.out (H.out.stop HST.out (by simp)) rfl HHA.out (E':=⟨2,lg,0,0,0,0,0⟩) (left_exit HLG.out) (en_ok (by decide) (ran_es H.out HFA.out HHA.out HLG.out).2.2) rfl rfl (ran_es H.out HFA.out HHA.out HLG.out).1 (ran_es H.out HFA.out HHA.out HLG.out).2.1 rfl hV8.out rfl _ _))
 focus
  have hq4:40≤M.qus.length:=HSN.out HX.out
  have HST:Hid (stepR M m pc rs xorR=⟨M,pc+2,rs,3,0⟩):=HD.out.trans (by simp [hq4])
  have hq' : ¬ ((M.qus.length:Int)<40):=by omega
  have hq3:M.qus.length≤9223372036854775807:=by have:=H.out.st.own.at_.qul;unfold maxLen at this;omega
  clear y0 y1 y2 lm hq4
 rotate_left
 focus
  have HST:Hid (stepR M m pc rs xorR=⟨M,pc+2,rs,3,0⟩):=HD.out.trans (by simp at n1 n2 n3 n4 n5 n6 n7 n8 n9;simp [n1,n2,n3,n4,n5,n6,n7,n8,n9])
  clear y0 y1 y2 lm
 all_goals
  obtain ⟨hwm,hwm2,hmm⟩:=wm_of hm4
  obtain ⟨xzb,yzb,hxy,hbmX,hbmY,hbmz⟩:=ran_ne H.out HHA.out
  have HE:Hid (_):=FE.out V3 HB3.out
  obtain ⟨⟨y0,y1,y2⟩,⟨n0_,n1_,n2_,n3_,n4_,n5_,n6_⟩,⟨nf0,nf1,nf2,nf3,nf4,nf5,nf6⟩,⟨x0,x1,x2,v0,v1⟩,⟨xf0,xf1,xf2,yf0,yf1⟩,lm,lz,lX,lY⟩:=HE.out
  go_upto_region 46 with fail
  go_region_held3 (fun w'=>w'.cell? ⟨bm,1,none⟩=some (.slice (some ⟨zb,zo,none⟩) 4 M.ecap)∧w'.cell? ⟨zb,zo+m * 7+1,none⟩=some (.string lg)) (first | (with_reducible exact seven_both hbmz y1 n1_) | go_keep) (fail)
  refine q_name fun V8 hV8=>?_
  clear y0 y1 y2 n0_ n1_ n2_ n3_ n4_ n5_ n6_ nf0 nf1 nf2 nf3 nf4 nf5 nf6 x0 x1 x2 v0 v1 xf0 xf1 xf2 yf0 yf1 lm lz lX lY
  obtain ⟨⟨y0,y1,y2⟩,⟨x0,x1,x2,v0,v1⟩,⟨xf0,xf1,xf2,yf0,yf1⟩,lb8,lx8,ly8⟩:=end_after hV8.out HE.out hbmz xzb yzb
  go_wp2_with (with_reducible refine kept_ranF ?_)
  refine Kept.mk ?_
  exact ranF_mk (ran_last H.out HB3.out (H.out.stop HST.out (by simp)) rfl HHA.out (E':=⟨4,lg,0,0,0,0,0⟩) (left_fault HLG.out) (en_ok (by decide) (ran_es H.out HFA.out HHA.out HLG.out).2.2) rfl rfl (ran_es H.out HFA.out HHA.out HLG.out).1 (ran_es H.out HFA.out HHA.out HLG.out).2.1 rfl hV8.out rfl _ _)
set_option maxRecDepth 1000000 in
set_option maxHeartbeats 4000000 in
theorem ran_zero {n0 m bm br X Y:Nat} {w:World} {R:Rn} {pc:Int} {M:Mv} {rs:List Int} {wr:World} {c0 c3 c5 c6 c7 c9 c31 c32 c246 c247 c248 c249 c250 c251 c252 c253 c254 c255 c256 c257 c258 c259 c260 c261 c262 u13 u14 u15 u16 u17 u18 u19 u20 u21 u22 u23 u24 u25 u26 u27 u28 u29 u30 u33 u34 u35 u36 u37 u38 u39 u40 u41 u42 u43 u44 u45 u46 u47 u48 u49 u50 u51 u52 u53 u54 u55 u56 u57 u58 u59 u60 u61 u62 u63 u64 u65 u66 u67 u68 u69 u70 u71 u72 u73 u74 u75 u76 u77 u78 u79 u80 u81 u82 u83 u84 u85 u86 u87 u88 u89 u90 u91 u92 u93 u94 u95 u96 u97 u98 u99 u100 u101 u102 u103 u104 u105 u106 u107 u108 u109 u110 u111 u112 u113 u114 u115 u116 u117 u118 u119 u120 u121 u122 u123 u124 u125 u126 u127 u128 u129 u130 u131 u132 u133 u134 u135 u136 u137 u138 u139 u140 u141 u142 u143 u144 u145 u146 u147 u148 u149 u150 u151 u152 u153 u154 u155 u156 u157 u158 u159 u160 u161 u162 u163 u164 u165 u166 u167 u168 u169 u170 u171 u172 u173 u174 u175 u176 u177 u178 u179 u180 u181 u182 u183 u184 u185 u186 u187 u188 u189 u190 u191 u192 u193 u194 u195 u196 u197 u198 u199 u200 u201 u202 u203 u204 u205 u206 u207 u208 u209 u210 u211 u212 u213 u214 u215 u216 u217 u218 u219 u220 u221 u222 u223 u224 u225 u226 u227 u228 u229 u230 u231 u232 u233 u234 u235 u236 u237 u238 u239 u240 u241 u242 u243 u244 u245:Value} (h:RanK n0 m bm br X Y w R 0 pc M rs wr) (Q0:Exit→Act→World→Prop) (hexit:∀ a' w'',RanF m bm br X Y c0 c3 c5 c6 c7 c9 c31 c32 c246 c247 c248 c249 c250 c251 c252 c253 c254 c255 c256 c257 c258 c259 c260 c261 c262 (RanEnd n0 m bm br X Y w R) a' w''→Q0 (.exit 0) a' w'') (N9:Act→World→Prop) :
 Code.wp Tryz.prog ranBody (Exit.then N9 Q0) ⟨#[c0,.int .i64 ((m:Int)+1),.int .i64 pc,c3,.int .i64 0,c5,c6,c7,.pointer (some ⟨br,0,none⟩),c9,.pointer (some ⟨X,0,none⟩),.pointer (some ⟨Y,0,none⟩),.pointer (some ⟨bm,0,none⟩),u13,u14,u15,u16,u17,u18,u19,u20,u21,u22,u23,u24,u25,u26,u27,u28,u29,u30,c31,c32,u33,u34,u35,u36,u37,u38,u39,u40,u41,u42,u43,u44,u45,u46,u47,u48,u49,u50,u51,u52,u53,u54,u55,u56,u57,u58,u59,u60,u61,u62,u63,u64,u65,u66,u67,u68,u69,u70,u71,u72,u73,u74,u75,u76,u77,u78,u79,u80,u81,u82,u83,u84,u85,u86,u87,u88,u89,u90,u91,u92,u93,u94,u95,u96,u97,u98,u99,u100,u101,u102,u103,u104,u105,u106,u107,u108,u109,u110,u111,u112,u113,u114,u115,u116,u117,u118,u119,u120,u121,u122,u123,u124,u125,u126,u127,u128,u129,u130,u131,u132,u133,u134,u135,u136,u137,u138,u139,u140,u141,u142,u143,u144,u145,u146,u147,u148,u149,u150,u151,u152,u153,u154,u155,u156,u157,u158,u159,u160,u161,u162,u163,u164,u165,u166,u167,u168,u169,u170,u171,u172,u173,u174,u175,u176,u177,u178,u179,u180,u181,u182,u183,u184,u185,u186,u187,u188,u189,u190,u191,u192,u193,u194,u195,u196,u197,u198,u199,u200,u201,u202,u203,u204,u205,u206,u207,u208,u209,u210,u211,u212,u213,u214,u215,u216,u217,u218,u219,u220,u221,u222,u223,u224,u225,u226,u227,u228,u229,u230,u231,u232,u233,u234,u235,u236,u237,u238,u239,u240,u241,u242,u243,u244,u245,c246,c247,c248,c249,c250,c251,c252,c253,c254,c255,c256,c257,c258,c259,c260,c261,c262],[]⟩ wr:=by
 have H:Hid (_):=h
 clear h
 conv=>arg 2;whnf
 go_wp2
 exact ranF_mk ⟨pc,M,rs,rfl,H.out⟩
set_option maxRecDepth 1000000 in
set_option maxHeartbeats 16000000 in
theorem ran_round {n0 m bm br X Y:Nat} {w:World} {R:Rn} {c0 c3 c5 c6 c7 c9 c31 c32 c246 c247 c248 c249 c250 c251 c252 c253 c254 c255 c256 c257 c258 c259 c260 c261 c262:Value} (Q0:Exit→Act→World→Prop) (hret:∀ a' w'',RanF m bm br X Y c0 c3 c5 c6 c7 c9 c31 c32 c246 c247 c248 c249 c250 c251 c252 c253 c254 c255 c256 c257 c258 c259 c260 c261 c262 (RanOut m X Y w R) a' w''→Q0 .ret a' w'') (hexit:∀ a' w'',RanF m bm br X Y c0 c3 c5 c6 c7 c9 c31 c32 c246 c247 c248 c249 c250 c251 c252 c253 c254 c255 c256 c257 c258 c259 c260 c261 c262 (RanEnd n0 m bm br X Y w R) a' w''→Q0 (.exit 0) a' w'') (a:Act) (wr:World) (hI:RanF m bm br X Y c0 c3 c5 c6 c7 c9 c31 c32 c246 c247 c248 c249 c250 c251 c252 c253 c254 c255 c256 c257 c258 c259 c260 c261 c262 (RanRel n0 m bm br X Y w R) a wr) :
 Code.wp Tryz.prog ranBody (Exit.then (fun a' w''=>RanF m bm br X Y c0 c3 c5 c6 c7 c9 c31 c32 c246 c247 c248 c249 c250 c251 c252 c253 c254 c255 c256 c257 c258 c259 c260 c261 c262 (RanRel n0 m bm br X Y w R) a' w''∧ranMu a' w'' < ranMu a wr) Q0) a wr:=by
 revert a
 refine ranF_all _ ?_
 intros
 rename_i hR
 obtain ⟨k,pc,M,rs,rfl,rfl,h⟩:=hR
 cases k with
 | zero=>exact ran_zero h Q0 hexit _
 | succ k =>
   rw [show ((k+1:Nat):Int)=(k:Int)+1 by omega]
   rw [ranMu_eq]
   exact ran_round1 h Q0 hret
set_option maxRecDepth 1000000 in
set_option maxHeartbeats 16000000 in
theorem ran_loop {n0 m bm br X Y:Nat} {w:World} {R:Rn} {k:Nat} {pc:Int} {M:Mv} {rs:List Int} {wr:World} {c0 c3 c5 c6 c7 c9 c31 c32 c246 c247 c248 c249 c250 c251 c252 c253 c254 c255 c256 c257 c258 c259 c260 c261 c262 u13 u14 u15 u16 u17 u18 u19 u20 u21 u22 u23 u24 u25 u26 u27 u28 u29 u30 u33 u34 u35 u36 u37 u38 u39 u40 u41 u42 u43 u44 u45 u46 u47 u48 u49 u50 u51 u52 u53 u54 u55 u56 u57 u58 u59 u60 u61 u62 u63 u64 u65 u66 u67 u68 u69 u70 u71 u72 u73 u74 u75 u76 u77 u78 u79 u80 u81 u82 u83 u84 u85 u86 u87 u88 u89 u90 u91 u92 u93 u94 u95 u96 u97 u98 u99 u100 u101 u102 u103 u104 u105 u106 u107 u108 u109 u110 u111 u112 u113 u114 u115 u116 u117 u118 u119 u120 u121 u122 u123 u124 u125 u126 u127 u128 u129 u130 u131 u132 u133 u134 u135 u136 u137 u138 u139 u140 u141 u142 u143 u144 u145 u146 u147 u148 u149 u150 u151 u152 u153 u154 u155 u156 u157 u158 u159 u160 u161 u162 u163 u164 u165 u166 u167 u168 u169 u170 u171 u172 u173 u174 u175 u176 u177 u178 u179 u180 u181 u182 u183 u184 u185 u186 u187 u188 u189 u190 u191 u192 u193 u194 u195 u196 u197 u198 u199 u200 u201 u202 u203 u204 u205 u206 u207 u208 u209 u210 u211 u212 u213 u214 u215 u216 u217 u218 u219 u220 u221 u222 u223 u224 u225 u226 u227 u228 u229 u230 u231 u232 u233 u234 u235 u236 u237 u238 u239 u240 u241 u242 u243 u244 u245:Value} (h:RanK n0 m bm br X Y w R k pc M rs wr) (Q0:Exit→Act→World→Prop) (hret:∀ a' w'',RanF m bm br X Y c0 c3 c5 c6 c7 c9 c31 c32 c246 c247 c248 c249 c250 c251 c252 c253 c254 c255 c256 c257 c258 c259 c260 c261 c262 (RanOut m X Y w R) a' w''→Q0 .ret a' w'') (hexit:∀ a' w'',RanF m bm br X Y c0 c3 c5 c6 c7 c9 c31 c32 c246 c247 c248 c249 c250 c251 c252 c253 c254 c255 c256 c257 c258 c259 c260 c261 c262 (RanEnd n0 m bm br X Y w R) a' w''→Q0 (.exit 0) a' w'') :
 Code.wp Tryz.prog (Code.loop ranBody) Q0 ⟨#[c0,.int .i64 ((m:Int)+1),.int .i64 pc,c3,.int .i64 (k:Int),c5,c6,c7,.pointer (some ⟨br,0,none⟩),c9,.pointer (some ⟨X,0,none⟩),.pointer (some ⟨Y,0,none⟩),.pointer (some ⟨bm,0,none⟩),u13,u14,u15,u16,u17,u18,u19,u20,u21,u22,u23,u24,u25,u26,u27,u28,u29,u30,c31,c32,u33,u34,u35,u36,u37,u38,u39,u40,u41,u42,u43,u44,u45,u46,u47,u48,u49,u50,u51,u52,u53,u54,u55,u56,u57,u58,u59,u60,u61,u62,u63,u64,u65,u66,u67,u68,u69,u70,u71,u72,u73,u74,u75,u76,u77,u78,u79,u80,u81,u82,u83,u84,u85,u86,u87,u88,u89,u90,u91,u92,u93,u94,u95,u96,u97,u98,u99,u100,u101,u102,u103,u104,u105,u106,u107,u108,u109,u110,u111,u112,u113,u114,u115,u116,u117,u118,u119,u120,u121,u122,u123,u124,u125,u126,u127,u128,u129,u130,u131,u132,u133,u134,u135,u136,u137,u138,u139,u140,u141,u142,u143,u144,u145,u146,u147,u148,u149,u150,u151,u152,u153,u154,u155,u156,u157,u158,u159,u160,u161,u162,u163,u164,u165,u166,u167,u168,u169,u170,u171,u172,u173,u174,u175,u176,u177,u178,u179,u180,u181,u182,u183,u184,u185,u186,u187,u188,u189,u190,u191,u192,u193,u194,u195,u196,u197,u198,u199,u200,u201,u202,u203,u204,u205,u206,u207,u208,u209,u210,u211,u212,u213,u214,u215,u216,u217,u218,u219,u220,u221,u222,u223,u224,u225,u226,u227,u228,u229,u230,u231,u232,u233,u234,u235,u236,u237,u238,u239,u240,u241,u242,u243,u244,u245,c246,c247,c248,c249,c250,c251,c252,c253,c254,c255,c256,c257,c258,c259,c260,c261,c262],[]⟩ wr:=by
 refine wp_loop (RanF m bm br X Y c0 c3 c5 c6 c7 c9 c31 c32 c246 c247 c248 c249 c250 c251 c252 c253 c254 c255 c256 c257 c258 c259 c260 c261 c262 (RanRel n0 m bm br X Y w R)) ranMu ?_ (fun a w'' hI=>ran_round Q0 hret hexit a w'' hI)
 exact ranF_mk (ran_goes h)
end Go.Proofs.YtdngbojbpmdegaaGreatDoor
