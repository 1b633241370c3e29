import Derived.Test.YtdngbojbpmdegaaGreatDoorRefRanH
namespace Go.Proofs.YtdngbojbpmdegaaGreatDoor
open Go.RowKit
set_option linter.unusedVariables false
set_option maxRecDepth 1000000 in
set_option maxHeartbeats 400000000 in
theorem ran_say {n0 m bm br X Y:Nat} {w:World} {R:Rn} {k:Nat} {pc:Int} {M:Mv} {rs:List Int} {wr:World} {c0 c3 c5 c6 c7 c9 c31 c32 c246 c247 c248 c249 c250 c251 c252 c253 c254 c255 c256 c257 c258 c259 c260 c261 c262 u13 u14 u15 u16 u17 u18 u19 u20 u21 u22 u23 u24 u25 u26 u27 u28 u29 u30 u33 u34 u35 u36 u37 u38 u39 u40 u41 u42 u43 u44 u45 u46 u47 u48 u49 u50 u51 u52 u53 u54 u55 u56 u57 u58 u59 u60 u61 u62 u63 u64 u65 u66 u67 u68 u69 u70 u71 u72 u73 u74 u75 u76 u77 u78 u79 u80 u81 u82 u83 u84 u85 u86 u87 u88 u89 u90 u91 u92 u93 u94 u95 u96 u97 u98 u99 u100 u101 u102 u103 u104 u105 u106 u107 u108 u109 u110 u111 u112 u113 u114 u115 u116 u117 u118 u119 u120 u121 u122 u123 u124 u125 u126 u127 u128 u129 u130 u131 u132 u133 u134 u135 u136 u137 u138 u139 u140 u141 u142 u143 u144 u145 u146 u147 u148 u149 u150 u151 u152 u153 u154 u155 u156 u157 u158 u159 u160 u161 u162 u163 u164 u165 u166 u167 u168 u169 u170 u171 u172 u173 u174 u175 u176 u177 u178 u179 u180 u181 u182 u183 u184 u185 u186 u187 u188 u189 u190 u191 u192 u193 u194 u195 u196 u197 u198 u199 u200 u201 u202 u203 u204 u205 u206 u207 u208 u209 u210 u211 u212 u213 u214 u215 u216 u217 u218 u219 u220 u221 u222 u223 u224 u225 u226 u227 u228 u229 u230 u231 u232 u233 u234 u235 u236 u237 u238 u239 u240 u241 u242 u243 u244 u245:Value} (h:RanK n0 m bm br X Y w R (k+1) pc M rs wr) (Q0:Exit→Act→World→Prop) (hret:∀ a' w'',RanF m bm br X Y c0 c3 c5 c6 c7 c9 c31 c32 c246 c247 c248 c249 c250 c251 c252 c253 c254 c255 c256 c257 c258 c259 c260 c261 c262 (RanOut m X Y w R) a' w''→Q0 .ret a' w'') {x n:Int} {k1 k2:Nat} (hk1:k1<24) (hk2:k2<24) (hf1:frmF M.frs ((m:Int)+1) pc 4=(k1:Int)) (hf2:frmF M.frs ((m:Int)+1) (pc+1) 4=(k2:Int)) (hx:wordAt M (k1:Int) pc=x) (hx2:wordAt M (k2:Int) (pc+1)=n) (hk:x % 16=9) (hq:M.qus.length<40) :
 Code.wp Tryz.prog ranBody (Exit.then (fun a' w''=>RanF m bm br X Y c0 c3 c5 c6 c7 c9 c31 c32 c246 c247 c248 c249 c250 c251 c252 c253 c254 c255 c256 c257 c258 c259 c260 c261 c262 (RanRel n0 m bm br X Y w R) a' w''∧ranMu a' w'' < k+1) Q0) ⟨#[c0,.int .i64 ((m:Int)+1),.int .i64 pc,c3,.int .i64 ((k:Int)+1),c5,c6,c7,.pointer (some ⟨br,0,none⟩),c9,.pointer (some ⟨X,0,none⟩),.pointer (some ⟨Y,0,none⟩),.pointer (some ⟨bm,0,none⟩),u13,u14,u15,u16,u17,u18,u19,u20,u21,u22,u23,u24,u25,u26,u27,u28,u29,u30,c31,c32,u33,u34,u35,u36,u37,u38,u39,u40,u41,u42,u43,u44,u45,u46,u47,u48,u49,u50,u51,u52,u53,u54,u55,u56,u57,u58,u59,u60,u61,u62,u63,u64,u65,u66,u67,u68,u69,u70,u71,u72,u73,u74,u75,u76,u77,u78,u79,u80,u81,u82,u83,u84,u85,u86,u87,u88,u89,u90,u91,u92,u93,u94,u95,u96,u97,u98,u99,u100,u101,u102,u103,u104,u105,u106,u107,u108,u109,u110,u111,u112,u113,u114,u115,u116,u117,u118,u119,u120,u121,u122,u123,u124,u125,u126,u127,u128,u129,u130,u131,u132,u133,u134,u135,u136,u137,u138,u139,u140,u141,u142,u143,u144,u145,u146,u147,u148,u149,u150,u151,u152,u153,u154,u155,u156,u157,u158,u159,u160,u161,u162,u163,u164,u165,u166,u167,u168,u169,u170,u171,u172,u173,u174,u175,u176,u177,u178,u179,u180,u181,u182,u183,u184,u185,u186,u187,u188,u189,u190,u191,u192,u193,u194,u195,u196,u197,u198,u199,u200,u201,u202,u203,u204,u205,u206,u207,u208,u209,u210,u211,u212,u213,u214,u215,u216,u217,u218,u219,u220,u221,u222,u223,u224,u225,u226,u227,u228,u229,u230,u231,u232,u233,u234,u235,u236,u237,u238,u239,u240,u241,u242,u243,u244,u245,c246,c247,c248,c249,c250,c251,c252,c253,c254,c255,c256,c257,c258,c259,c260,c261,c262],[]⟩ wr:=by
 have HK9:Hid (_):=hk
 have HQ9:Hid (_):=hq
 clear hk hq
 have H:Hid (_):=h
 have hG:=h.ok.good
 have HG:Hid (Good M):=hG
 have hpc:=h.ok.pc
 have hm4:=h.ok.m4
 have hl:=hG.s1
 obtain ⟨fb,fo,hfa,_⟩:=h.st.own.at_.frame (j:=0) (by omega)
 obtain ⟨zb,zo,hea,_⟩:=h.st.own.at_.enclave (j:=m) (by have:=hG.s2;omega)
 obtain ⟨lg,HLG⟩:∃ lg,Hid ((M.ens.getD m default).log=lg):=⟨_,rfl⟩
 have HFA:Hid (_):=hfa
 have HHA:Hid (_):=hea
 have FE:Hid (_):=end_at h hfa hea HLG.out
 have CC:Hid (_):=ran_cells h hfa hea
 obtain ⟨i1,hi1⟩:∃ i:Nat,pc % 8=(i:Int):=⟨(pc % 8).toNat,by omega⟩
 have HI1:Hid (_):=hi1
 have hc1:=CC.out wr (Below.refl _ _) pc 4 (by omega) (by omega) (by omega)
 have hkp:0<(k:Int)+1:=by omega
 have hw1:IntKind.i64.wrap (pc+1)=pc+1:=by rw [IntKind.wrap_i64];omega
 have HS:stepR M m pc rs xorR=doR M m pc rs x n xorR:=by
  unfold stepR
  rw [if_neg (by rw [hf1,hf2];omega),hf1,hf2,hx,hx2]
 have hp64:pc<64:=run_at (e:=(m:Int)+1) (by rw [hf1];omega) hpc.1
 have hcl:=h.ok.len
 have hxb:=wordAt_in hG hk1 pc
 rw [hx] at hxb
 have hnb:=wordAt_in hG hk2 (pc+1)
 rw [hx2] at hnb
 obtain ⟨ea,eb,la,lb⟩:=reg_nat hxb.1
 obtain ⟨i2,hi2⟩:∃ i:Nat,(pc+1) % 8=(i:Int):=⟨((pc+1) % 8).toNat,by omega⟩
 obtain ⟨b1,o1,q1,_,_,g1⟩:=frame_word h.st.own.at_ hG hk1 pc hi1
 obtain ⟨b2,o2,q2,_,_,g2⟩:=frame_word h.st.own.at_ hG hk2 (pc+1) hi2
 rw [hx] at g1
 rw [hx2] at g2
 have hi18:(i1:Int)<8:=by omega
 have hi28:(i2:Int)<8:=by omega
 have HI2:Hid (_):=hi2
 obtain ⟨a,HA⟩:∃ a,Hid (regA x=a):=⟨_,rfl⟩
 obtain ⟨b,HBb⟩:∃ b,Hid (regB x=b):=⟨_,rfl⟩
 rw [HA.out] at ea la
 rw [HBb.out] at eb lb
 obtain ⟨ra,hra⟩:∃ ra,Hid (rs.getD a 0=ra):=⟨_,rfl⟩
 obtain ⟨rb,hrb⟩:∃ rb,Hid (rs.getD b 0=rb):=⟨_,rfl⟩
 have hba:=h.ok.rs a
 have hbb:=h.ok.rs b
 rw [hra.out] at hba
 rw [hrb.out] at hbb
 obtain ⟨kk,HX⟩:∃ kk,Hid (x % 16=kk):=⟨_,rfl⟩
 unfold doR at HS
 rw [show kindR x=kk from HX.out,HA.out,HBb.out,hra.out,hrb.out] at HS
 have HD:Hid (_):=HS
 have FF:Hid (∀ V,Below wr.heap.size wr V→V.cell? ⟨bm,0,none⟩=some (.slice (some ⟨fb,fo,none⟩) 24 M.fcap)∧V.cell? ⟨bm,1,none⟩=some (.slice (some ⟨zb,zo,none⟩) 4 M.ecap)∧V.cell? ⟨bm,2,none⟩=some (.slice M.qa M.qus.length M.qcap)∧V.cell? ⟨fb,fo+k1 * 4+3,none⟩=some (.slice (some ⟨b1,o1,none⟩) 8 q1)∧V.cell? ⟨b1,o1+i1,none⟩=some (.int .i64 x)∧V.cell? ⟨fb,fo+k2 * 4+3,none⟩=some (.slice (some ⟨b2,o2,none⟩) 8 q2)∧V.cell? ⟨b2,o2+i2,none⟩=some (.int .i64 n)∧V.cell? ⟨br,a,none⟩=some (.int .i64 ra)∧V.cell? ⟨br,b,none⟩=some (.int .i64 rb)∧V.frozen? ⟨br,a,none⟩=false∧bm<V.heap.size∧br<V.heap.size∧fb<V.heap.size∧b1<V.heap.size∧b2<V.heap.size):=fun V hV=>by
  have c:=H.out.st.keep hV
  have ga:=c.cr a la
  have gb:=c.cr b lb
  rw [hra.out] at ga
  rw [hrb.out] at gb
  obtain ⟨f1,f2,f3,f4⟩:=g1 V c.own.at_ fb fo hfa
  obtain ⟨f5,f6,f7,_⟩:=g2 V c.own.at_ fb fo hfa
  obtain ⟨⟨c0,c1,c2⟩,-⟩:=FE.out V hV
  exact ⟨c0,c1,c2,f1,f2,f5,f6,ga,gb,c.fr a,c.lm,c.lr,f4,f3,f7⟩
 rw [hf1] at hc1
 have HF2:Hid (_):=hf2
 have t1:Int.tdiv x 16=x / 16:=Int.tdiv_eq_ediv_of_nonneg hxb.1
 have t2:Int.tdiv x 256=x / 256:=Int.tdiv_eq_ediv_of_nonneg hxb.1
 have t3:Int.tmod x 16=kk:=by rw [Int.tmod_eq_emod_of_nonneg hxb.1,HX.out]
 have t4:IntKind.i64.wrap (x / 16)=x / 16:=by rw [IntKind.wrap_i64];omega
 have t5:IntKind.i64.wrap (x / 256)=x / 256:=by rw [IntKind.wrap_i64];omega
 have t6:Int.tmod (x / 16) 4=(a:Int):=by rw [Int.tmod_eq_emod_of_nonneg (by omega),ea]
 have t7:Int.tmod (x / 256) 4=(b:Int):=by rw [Int.tmod_eq_emod_of_nonneg (by omega),eb]
 have ha4:(a:Int)<4:=by omega
 have hb4:(b:Int)<4:=by omega
 have hk1' : (k1:Int)<24:=by omega
 have hk2' : (k2:Int)<24:=by omega
 have hw2:IntKind.i64.wrap (pc+2)=pc+2:=by rw [IntKind.wrap_i64];omega
 have hw3:IntKind.i64.wrap ((k:Int)+1 - 1)=(k:Int):=by rw [IntKind.wrap_i64];have:=h.lk;omega
 have hw4:Hid (wrap64 (k:Int)=(k:Int)):=w64k (by have:=h.lk;omega)
 have HLA:Hid (a<4):=la
 obtain ⟨y0,y1,y2,e1,e2,e3,e4,ga,gb,fa,lm,lr,lf,l1,l2⟩:=FF.out wr (Below.refl _ _)
 conv=>arg 2;whnf
 clear h hG hf1 hf2 hx hx2 ea eb g1 g2 hfa hl hi1 hi2 la lb hea hk1 hk2 HS
 go_upto_region 5 with (go_at_call 138;refine hc1.mono ?_;clear hc1;intro y W1 hs;have hs2:=cell_got hs HI1.out;clear hs;obtain ⟨rfl,hb⟩:=hs2;have HB1:Hid (_):=hb;clear hb)
 have hc2:=CC.out W1 HB1.out (pc+1) 4 (by omega) (by omega) (by omega)
 rw [HF2.out] at hc2
 clear y0 y1 y2 e1 e2 e3 e4 ga gb fa lm lr lf l1 l2
 obtain ⟨y0,y1,y2,e1,e2,e3,e4,ga,gb,fa,lm,lr,lf,l1,l2⟩:=FF.out W1 HB1.out
 go_upto_region 6 with (go_at_call 138;refine hc2.mono ?_;clear hc2;intro y W2 hs;have hs2:=cell_got hs HI2.out;clear hs;obtain ⟨rfl,hb⟩:=hs2;have HB2:Hid (Below wr.heap.size wr W2):=HB1.out.trans (hb.mono HB1.out.size);clear hb)
 clear y0 y1 y2 e1 e2 e3 e4 ga gb fa lm lr lf l1 l2 HF2 HI1 HI2
 go_upto_region 7 with fail
 refine wp_name fun V3 hV3=>?_
 have HB3:Hid (Below wr.heap.size wr V3):=by show Below _ _ _;rw [hV3.out];exact HB2.out.alloc HB2.out.size _
 have hzo:V3.heap[W2.heap.size]? = some (.cells #[.int .i64 0,.int .i64 0] 47 (0,0)):=by rw [hV3.out];exact Go.Deep.blk_alloc_new _ _
 have z0:V3.cell? ⟨W2.heap.size,0,none⟩=some (.int .i64 0):=by simp [World.cell?,hzo]
 have z1:V3.cell? ⟨W2.heap.size,1,none⟩=some (.int .i64 0):=by simp [World.cell?,hzo]
 have zf0:=frozen_of_block hzo 0
 have zf1:=frozen_of_block hzo 1
 have zl:=lt_of_cell z0
 dsimp only at zl
 have zbr:W2.heap.size≠br:=by have:=H.out.st.lr;have:=HB2.out.size;omega
 have zbm:W2.heap.size≠bm:=by have:=H.out.st.lm;have:=HB2.out.size;omega
 obtain ⟨y0,y1,y2,e1,e2,e3,e4,ga,gb,fa,lm,lr,lf,l1,l2⟩:=FF.out V3 HB3.out
 clear hV3 HB1 hzo
 obtain rfl:kk=9:=by have:=HX.out;have:=HK9.out;omega
 have hq:=HQ9.out
 have HST:Hid (stepR M m pc rs xorR=⟨sayM M m ra,pc+2,rs,0,0⟩):=HD.out.trans (by simp;omega)
 obtain ⟨hwm,hwm2,hmm⟩:=wm_of hm4
 have hq' : (M.qus.length:Int)<40:=by omega
 have HQ4:Hid (M.qus.length<40):=hq
 have hq3:M.qus.length≤9223372036854775807:=by have:=H.out.st.own.at_.qul;unfold maxLen at this;omega
 have hwv:Hid ((Lit.int .i64 ra).wf=true):=WalkArith.wf_i64 (by omega)
 obtain ⟨-,⟨-,n1_,-⟩,-,-,-,-,lz,-⟩:=FE.out V3 HB3.out
 have hbmz:bm≠zb:=fun q=>H.out.st.offm (q▸.inr (.inl ⟨zo,none,HHA.out⟩))
 have mf:V3.frozen? ⟨bm,2,none⟩=false:=(H.out.st.keep HB3.out).fm 2
 have HOW:Hid (Owned n0 V3.drew M∧QRow n0 V3.drew M∧n0≤V3.drew.heap.size):=⟨((H.out.st.keep HB3.out).keep (Below.refl _ _).drew).own,((H.out.st.keep HB3.out).keep (Below.refl _ _).drew).q,((H.out.st.keep HB3.out).keep (Below.refl _ _).drew).ge⟩
 have HQO:Hid ((⟨lg,ra⟩:Qu).Ok):=⟨(ran_es H.out HFA.out HHA.out HLG.out).2.2,hwv.out⟩
 have HG8:Hid (∀ g cap w8,SaySaid n0 V3.drew M ⟨lg,ra⟩ g cap w8→w8.cell? ⟨bm,2,none⟩=some (.slice M.qa M.qus.length M.qcap)∧w8.frozen? ⟨bm,2,none⟩=false∧bm<w8.heap.size):=fun g cap w8 hs=>by
  have st:=(H.out.st.keep HB3.out).keep (Below.refl _ _).drew
  have kb:=hs.kp bm st.lm st.offm
  exact ⟨(World.cell?_of_block kb).trans st.c2,(World.frozen?_of_block kb).trans (st.fm 2),Nat.lt_of_lt_of_le st.lm hs.sz⟩
 have HZ8:Hid (∀ g cap w8,SaySaid n0 V3.drew M ⟨lg,ra⟩ g cap w8→(w8.setCell ⟨bm,2,none⟩ (.slice (some ⟨g,0,none⟩) (M.qus.length+1) cap)).cell? ⟨W2.heap.size,0,none⟩=some (.int .i64 0)):=fun g cap w8 hs=>by
  have hm:¬ Mine M W2.heap.size:=fun q=>by have:=(Mine.fresh H.out.st.own q).2;have:=HB2.out.size;omega
  exact (cell_off zbm 2 0 _).trans ((World.cell?_of_block (hs.kp W2.heap.size zl hm)).trans z0)
 go_upto_region 44 with fail
 refine wp_region_noPanic ?_
 go_region_law ((refine stepq_say (W:=V3.drew) HOW.out.1 HOW.out.2.1 HOW.out.2.2 HQ4.out ⟨lg,ra⟩ HQO.out (by rfl) (.tmp 192) (.tmp 204) (by rfl) (by rfl) (by rfl) (by rfl) (by rfl) ?_;intro g cap w8 hs;have HSS:Hid (_):=hs;clear hs;obtain ⟨g2,gf,gl⟩:=HG8.out g cap w8 HSS.out))
 all_goals
  obtain ⟨V9,hV9⟩:∃ V9,Hid (V9=w8.setCell ⟨bm,2,none⟩ (.slice (some ⟨g,0,none⟩) (M.qus.length+1) cap)):=⟨_,rfl⟩
  rw [← hV9.out]
  have z9:V9.cell? ⟨W2.heap.size,0,none⟩=some (.int .i64 0):=by rw [hV9.out];exact HZ8.out g cap w8 HSS.out
  have zl9:W2.heap.size<V9.heap.size:=lt_of_cell z9
  clear HG8 HZ8 g2 gf gl y0 y1 y2 e1 e2 e3 e4 ga gb fa lm lr lf l1 l2 z0 z1 zf0 zf1 zl n1_ mf lz
  refine NoPanic.normal ?_
  go_wp2_with (with_reducible refine kept_and ?_)
  refine Kept.mk ?_
  have hK:=H.out.say (HB3.out.trans ((Below.refl _ _).drew)) HLG.out HST.out HSS.out.kp HSS.out.sz HSS.out.bel HSS.out.own HSS.out.row HSS.out.off hV9.out
  rw [hw4.out]
  exact ⟨ranF_mk (ran_goes hK),ranMu_mk⟩
end Go.Proofs.YtdngbojbpmdegaaGreatDoor
