import Derived.WalkKit
import Derived.Laws.BitsAllLaws
import Derived.Test.YtdngbojbpmdegaaGreatDoorRows
import Derived.ProofKit
import Derived.OpenShut
import Derived.ShutString
import Derived.ChangeOld
import Derived.Below
import Derived.WalkLawsBesides
import Derived.WalkSpells
import Derived.LoopTactic
import Derived.Lib.SmallJoins
import Derived.Deep.Slices
import Derived.Deep.Strs
import Derived.SizedLaws
namespace Go.Proofs.YtdngbojbpmdegaaGreatDoor
def inB (n lo hi:Int):Bool:=decide (lo≤n) && decide (n≤hi)
theorem inB_true {n lo hi:Int} (a:lo≤n) (b:n≤hi):inB n lo hi=true:=by simp [inB,a,b]
theorem inB_low {n lo hi:Int} (a:¬ lo≤n):inB n lo hi=false:=by simp [inB,a]
theorem inB_high {n lo hi:Int} (b:¬ n≤hi):inB n lo hi=false:=by simp [inB,b]
theorem inB_iff {n lo hi:Int} : inB n lo hi=true↔lo≤n∧n≤hi:=by simp [inB]
def mayW (l:List Int):Bool:=(l.length == 8) && l.all fun n=>inB n 0 65535
theorem mayW_len {l:List Int} (h:¬ l.length=8):mayW l=false:=by simp [mayW,h]
theorem all_upto (l:List Int) (h:∀ j,j<l.length→inB (l.getD j 0) 0 65535=true):(l.all fun n=>inB n 0 65535)=true:=by
 rw [List.all_eq_true]
 intro x hx
 obtain ⟨i,hi,rfl⟩:=List.getElem_of_mem hx
 have:=h i hi
 simpa [List.getD_eq_getElem?_getD,hi] using this
theorem not_all (l:List Int) (k:Nat) (hk:k<l.length) (h:inB (l.getD k 0) 0 65535=false):(l.all fun n=>inB n 0 65535)=false:=by
 rw [List.all_eq_false]
 refine ⟨l[k],List.getElem_mem hk,?_⟩
 have:inB l[k] 0 65535=false:=by simpa [List.getD_eq_getElem?_getD,hk] using h
 simp [this]
theorem mayW_bad (l:List Int) (k:Nat) (hk:k<l.length) (h:inB (l.getD k 0) 0 65535=false):mayW l=false:=by
 simp only [mayW,not_all l k hk h,Bool.and_false]
theorem mayW_good (l:List Int) (h:∀ j,j<l.length→inB (l.getD j 0) 0 65535=true):mayW l=(l.length == 8):=by
 simp only [mayW,all_upto l h,Bool.and_true]
theorem mayW_iff {ws:List Int} : mayW ws=true↔ws.length=8∧∀ n ∈ ws,0≤n∧n≤65535:=by
 simp [mayW,inB]
def pf (a b c:Bool):Int:=if a && b then (if c then 0 else 4) else 2
def pageF (at_ r:Int) (ws:List Int):Int:=pf (inB at_ 0 7) (inB r 0 7) (mayW ws)
end Go.Proofs.YtdngbojbpmdegaaGreatDoor

namespace Go.Proofs.YtdngbojbpmdegaaGreatDoor
theorem and_high (x:Nat) (hx:x<18446744073709551616):x &&& 18446744073709551608=8 * (x / 8):=by
 apply Nat.eq_of_testBit_eq
 intro i
 rw [Nat.testBit_and,show (18446744073709551608:Nat)=2 ^ 3 * (2 ^ 61 - 1) by decide,show (8:Nat)=2 ^ 3 by decide,Nat.testBit_two_pow_mul,Nat.testBit_two_pow_mul,Nat.testBit_two_pow_sub_one,Nat.testBit_div_two_pow]
 by_cases h3:3≤i
 · have e' : i - 3+3=i:=by omega
   simp only [ge_iff_le,h3,decide_true,Bool.true_and,e']
   by_cases hi:i - 3<61
   · simp [hi]
   · have:x.testBit i=false:=Nat.testBit_lt_two_pow (Nat.lt_of_lt_of_le hx (by
      have:2 ^ 64≤2 ^ i:=Nat.pow_le_pow_right (by omega) (by omega)
      simpa using this))
     simp [this]
 · simp [h3]
theorem i64_wf {r:Int} (h:(Lit.int .i64 r).wf=true) : -9223372036854775808≤r∧r≤9223372036854775807:=by
 simp [Lit.wf,IntKind.min,IntKind.max,IntKind.bits,IntKind.signed] at h
 omega
theorem rights_eq (r:Int) (h:(Lit.int .i64 r).wf=true):(bits .andNot .i64 r 7 == 0)=inB r 0 7:=by
 obtain ⟨h1,h2⟩:=i64_wf h
 have e:bits .andNot .i64 r 7=IntKind.i64.wrap ((BitVec.ofInt 64 r &&& ~~~BitVec.ofInt 64 7).toNat:Int):=rfl
 have h7:(BitVec.ofInt 64 7).toNat=7:=by decide
 have hX:(BitVec.ofInt 64 r).toNat=(r % 18446744073709551616).toNat:=by rw [BitVec.toNat_ofInt];rfl
 rw [e,BitVec.toNat_and,BitVec.toNat_not,h7,show 2 ^ 64 - 1 - 7=18446744073709551608 by decide,and_high _ (by rw [hX];omega),hX]
 rw [Bool.eq_iff_iff,inB_iff,beq_iff_eq]
 simp only [IntKind.wrap,IntKind.bits,IntKind.signed]
 constructor
 · intro q
   simp at q
   omega
 · rintro ⟨a,b⟩
   simp
   omega
end Go.Proofs.YtdngbojbpmdegaaGreatDoor

namespace Go.Proofs.YtdngbojbpmdegaaGreatDoor
open Go.ChangeShapes Go.WideShapes Go.ChangeAt Go.RowKit
theorem own:ownKnob Tryz.prog.godebug=none:=by kernel_rfl
theorem laidOut:laidOutB Tryz.prog=true:=by kernel_rfl
def Ints (w:World) (a:Option Addr) (xs:List Int):Prop:=
 xs = []∨∃ b off,a=some ⟨b,off,none⟩∧∀ j,j<xs.length→w.cell? ⟨b,off+j,none⟩=some (.int .i64 (xs.getD j 0))
theorem add_at (b off j:Nat):Addr.add ⟨b,off,none⟩ j=⟨b,off+j,none⟩:=by
 by_cases h:j=0
 · subst h;simp [Addr.add]
 · simp [Addr.add,h]
end Go.Proofs.YtdngbojbpmdegaaGreatDoor

namespace Go.Proofs.YtdngbojbpmdegaaGreatDoor
open Go.RowKit
theorem ret_bool {a b:Bool} (h:a=b):Ending.returned (.bool a)=.returned (.bool b):=by rw [h]
theorem ret_int {k:IntKind} {a b:Int} (h:a=b):Ending.returned (.int k a)=.returned (.int k b):=by rw [h]
theorem in_any (n lo hi:Int) (w:World):Calls Tryz.prog 56 #[.int .i64 n,.int .i64 lo,.int .i64 hi] w fun e w'=>e=.returned (.bool (inB n lo hi))∧w=w':=by
 by_cases h1:lo≤n
 · by_cases h2:n≤hi
   · rw [inB_true h1 h2]
     go_enter Tryz.func56,Tryz.ntmps56
     go_wp2
     go_ret
     exact ⟨rfl,rfl⟩
   · rw [inB_high h2]
     go_enter Tryz.func56,Tryz.ntmps56
     go_wp2
     go_ret
     exact ⟨rfl,rfl⟩
 · rw [inB_low h1]
   go_enter Tryz.func56,Tryz.ntmps56
   go_wp2
   go_ret
   exact ⟨rfl,rfl⟩
theorem lt_of_cell {w:World} {a:Addr} {v:Value} (h:w.cell? a=some v):a.block<w.heap.size:=by
 by_cases hlt:a.block<w.heap.size
 · exact hlt
 · have:w.heap[a.block]? = none:=by simp;omega
   simp [World.cell?,this] at h
theorem bcell {W w1:World} (hb:Below W.heap.size W w1):(∀ b o,b<W.heap.size→w1.cell? ⟨b,o,none⟩=W.cell? ⟨b,o,none⟩)∧(∀ b o,b<W.heap.size→w1.frozen? ⟨b,o,none⟩=W.frozen? ⟨b,o,none⟩):=
 ⟨fun b o h=>hb.cell (p:=⟨b,o,none⟩) h,fun b o h=>hb.frozen (p:=⟨b,o,none⟩) h⟩
theorem Ints.below {w w' : World} {a:Option Addr} {xs:List Int} (h:Ints w a xs) (hb:Below w.heap.size w w'):Ints w' a xs:=by
 rcases h with h | ⟨b,off,h1,h2⟩
 · exact .inl h
 · exact .inr ⟨b,off,h1,fun j hj=>(hb.cell (p:=⟨b,off+j,none⟩) (lt_of_cell (h2 j hj))).trans (h2 j hj)⟩
theorem Ints.alloc {w:World} {a:Option Addr} {xs:List Int} (h:Ints w a xs) (o:Obj):Ints (w.alloc o) a xs:=
 h.below ((Below.refl _ _).alloc (Nat.le_refl _) o)
theorem isPlace_any (n:Int) (w:World):Calls Tryz.prog 124 #[.int .i64 n] w fun e w'=>e=.returned (.bool (inB n 0 7))∧w=w':=by
 by_cases h1:0≤n
 · by_cases h2:n<8
   · rw [inB_true h1 (by omega)]
     go_enter Tryz.func124,Tryz.ntmps124
     go_wp2
     go_ret
     exact ⟨rfl,rfl⟩
   · rw [inB_high (by omega)]
     go_enter Tryz.func124,Tryz.ntmps124
     go_wp2
     go_ret
     exact ⟨rfl,rfl⟩
 · rw [inB_low h1]
   go_enter Tryz.func124,Tryz.ntmps124
   go_wp2
   go_ret
   exact ⟨rfl,rfl⟩
theorem areRights_any (n:Int) (w:World) (h:(Lit.int .i64 n).wf=true):Calls Tryz.prog 125 #[.int .i64 n] w fun e w'=>e=.returned (.bool (inB n 0 7))∧w=w':=by
 have E:=rights_eq n h
 clear h
 go_enter Tryz.func125,Tryz.ntmps125
 go_wp2
 go_ret
 exact ⟨ret_bool (by first | rfl | exact E),rfl⟩
end Go.Proofs.YtdngbojbpmdegaaGreatDoor

namespace Go.Proofs.YtdngbojbpmdegaaGreatDoor
open Go.RowKit
theorem noWord_any (n:Int) (w:World):Calls Tryz.prog 144 #[.int .i64 n] w fun e w'=>e=.returned (.bool (!inB n 0 65535))∧w=w':=by
 by_cases h1:n<0
 · rw [inB_low (by omega)]
   go_enter Tryz.func144,Tryz.ntmps144
   go_wp2
   go_ret
   exact ⟨rfl,rfl⟩
 · by_cases h2:65535<n
   · rw [inB_high (by omega)]
     go_enter Tryz.func144,Tryz.ntmps144
     go_wp2
     go_ret
     exact ⟨rfl,rfl⟩
   · rw [inB_true (by omega) (by omega)]
     go_enter Tryz.func144,Tryz.ntmps144
     go_wp2
     go_ret
     exact ⟨rfl,rfl⟩
theorem len8 (n:Nat):((n:Int) == 8)=(n == 8):=by rw [Bool.eq_iff_iff];simp;omega
theorem hid_snoc {xs:List Int} {k:Nat} (h:Hid (∀ j,j<k→inB (xs.getD j 0) 0 65535=true)) (hg:inB (xs.getD k 0) 0 65535=true) :
 Hid (∀ j,j<k+1→inB (xs.getD j 0) 0 65535=true):=fun j hj=>by
 by_cases e:j<k
 · exact h.out j e
 · have:j=k:=by omega
   subst this;exact hg
set_option maxHeartbeats 400000 in
theorem wordsMay_any (a:Option Addr) (xs:List Int) (cap:Nat) (w:World) (hl:xs.length≤maxLen) (hx:Ints w a xs) :
 Calls Tryz.prog 136 #[.slice a xs.length cap] w fun e w'=>e=.returned (.bool (mayW xs))∧w=w':=by
 unfold maxLen at hl
 rcases hx with rfl | ⟨b,off,rfl,hc⟩
 · go_enter Tryz.func136,Tryz.ntmps136
   go_wp2
   refine wp_loop_rounds 1 ?_
   rw [rounds_succ]
   go_wp2
   go_ret
   exact ⟨rfl,rfl⟩
 · go_enter Tryz.func136,Tryz.ntmps136
   go_wp2
   go_loop [3] (fun i=>∃ k:Nat,k≤xs.length∧i=.int .i64 k∧Hid (∀ j,j<k→inB (xs.getD j 0) 0 65535=true)) (fun i=>xs.length - (intOf i).toNat)
   case atStart=>exact ⟨0,Nat.zero_le _,rfl,fun j hj=>absurd hj (by omega)⟩
   case round =>
    obtain ⟨k,hk,rfl,hid⟩:=hrel
    by_cases hlt:k<xs.length
    · have hck:=hc k hlt
      obtain ⟨z,hz⟩:∃ z,xs.getD k 0=z:=⟨_,rfl⟩
      rw [hz] at hck
      clear hc
      cases hg:inB z 0 65535 with
      | true =>
        have HG:Hid (inB (xs.getD k 0) 0 65535=true):=by rw [hz];exact hg
        clear hz
        go_wp2_with (go_at_call 56;refine (in_any _ _ _ _).mono ?_;rintro e w' ⟨rfl,rfl⟩)
        go_round
        case rel=>exact ⟨k+1,by omega,by go_num,hid_snoc hid HG.out⟩
        case measure=>simp [intOf];omega
      | false =>
        have HG:Hid (inB (xs.getD k 0) 0 65535=false):=by rw [hz];exact hg
        clear hz
        go_wp2_with (go_at_call 56;refine (in_any _ _ _ _).mono ?_;rintro e w' ⟨rfl,rfl⟩)
        go_ret
        exact ⟨ret_bool (mayW_bad xs k hlt HG.out).symm,rfl⟩
    · have hkl:k=xs.length:=by omega
      subst hkl
      go_wp2
      go_ret
      exact ⟨ret_bool (by rw [mayW_good xs hid.out];exact len8 _),rfl⟩
theorem any_of (xs:List Int) (k:Nat) (hk:k<xs.length) (hg:inB (xs.getD k 0) 0 65535=false) :
 decide ((0:Int)≤(k:Int)) = !(xs.all fun n=>inB n 0 65535):=by rw [not_all xs k hk hg];simp
theorem none_of (xs:List Int) (h:∀ j,j<xs.length→inB (xs.getD j 0) 0 65535=true) :
 decide ((0:Int)≤-1) = !(xs.all fun n=>inB n 0 65535):=by rw [all_upto xs h];rfl
set_option maxHeartbeats 400000 in
theorem index_any (a:Option Addr) (xs:List Int) (cap:Nat) (w:World) (hl:xs.length≤maxLen) (hx:Ints w a xs) :
 Calls Tryz.prog 121 #[.slice a xs.length cap,.func (.func 144) #[] #[]] w fun e w' =>
  ∃ n:Int,e=.returned (.int .i64 n)∧(decide (0≤n) = !(xs.all fun n=>inB n 0 65535))∧w=w':=by
 unfold maxLen at hl
 rcases hx with rfl | ⟨b,off,rfl,hc⟩
 · go_enter Tryz.func121,Tryz.ntmps121
   go_wp2
   refine wp_loop_rounds 1 ?_
   rw [rounds_succ]
   go_wp2
   go_ret
   exact ⟨_,rfl,rfl,rfl⟩
 · go_enter Tryz.func121,Tryz.ntmps121
   go_wp2
   go_loop [8] (fun i=>∃ k:Nat,k≤xs.length∧i=.int .i64 k∧Hid (∀ j,j<k→inB (xs.getD j 0) 0 65535=true)) (fun i=>xs.length - (intOf i).toNat)
   case atStart=>exact ⟨0,Nat.zero_le _,rfl,fun j hj=>absurd hj (by omega)⟩
   case round =>
    obtain ⟨k,hk,rfl,hid⟩:=hrel
    by_cases hlt:k<xs.length
    · have hck:=hc k hlt
      obtain ⟨z,hz⟩:∃ z,xs.getD k 0=z:=⟨_,rfl⟩
      rw [hz] at hck
      clear hc
      cases hg:inB z 0 65535 with
      | true =>
        have HG:Hid (inB (xs.getD k 0) 0 65535=true):=by rw [hz];exact hg
        clear hz
        go_wp2_with (go_at_call 144;refine (noWord_any _ _).mono ?_;rintro e w' ⟨rfl,rfl⟩)
        go_round
        case rel=>exact ⟨k+1,by omega,by go_num,hid_snoc hid HG.out⟩
        case measure=>simp [intOf];omega
      | false =>
        have HG:Hid (inB (xs.getD k 0) 0 65535=false):=by rw [hz];exact hg
        clear hz
        go_wp2_with (go_at_call 144;refine (noWord_any _ _).mono ?_;rintro e w' ⟨rfl,rfl⟩)
        go_ret
        exact ⟨_,rfl,any_of xs k hlt HG.out,rfl⟩
    · have hkl:k=xs.length:=by omega
      subst hkl
      go_wp2
      go_ret
      exact ⟨_,rfl,none_of xs hid.out,rfl⟩
theorem contains_any (a:Option Addr) (xs:List Int) (cap:Nat) (w:World) (hl:xs.length≤maxLen) (hx:Ints w a xs) :
 Calls Tryz.prog 85 #[.slice a xs.length cap,.func (.func 144) #[] #[]] w fun e w' =>
  e=.returned (.bool (!(xs.all fun n=>inB n 0 65535)))∧w=w':=by
 have hI:=index_any a xs cap w hl hx
 clear hx hl
 go_enter Tryz.func85,Tryz.ntmps85
 go_wp2_with (go_at_call 121;refine hI.mono ?_;rintro e w' ⟨n,rfl,hn,rfl⟩)
 go_ret
 exact ⟨ret_bool (by first | exact hn | (rw [← hn])),rfl⟩
theorem words_any (a:Option Addr) (xs:List Int) (cap:Nat) (w:World) (hl:xs.length≤maxLen) (hx:Ints w a xs) :
 Calls Tryz.prog 126 #[.slice a xs.length cap] w fun e w'=>e=.returned (.bool (mayW xs))∧w=w':=by
 have hI:=contains_any a xs cap w hl hx
 clear hx hl
 by_cases h8:xs.length=8
 · have ha:mayW xs=xs.all fun n=>inB n 0 65535:=by simp [mayW,h8]
   rw [ha]
   generalize (xs.all fun n=>inB n 0 65535)=r at hI
   rw [h8] at hI ⊢
   clear ha h8
   cases r
   all_goals
    go_enter Tryz.func126,Tryz.ntmps126
    go_wp2_with (go_at_call 85;refine hI.mono ?_;rintro e w' ⟨rfl,rfl⟩)
    go_ret
    exact ⟨rfl,rfl⟩
 · rw [mayW_len h8]
   have h9:((xs.length:Int) == 8)=false:=by simp;omega
   clear h8 hI
   go_enter Tryz.func126,Tryz.ntmps126
   go_wp2
   go_ret
   exact ⟨rfl,rfl⟩
end Go.Proofs.YtdngbojbpmdegaaGreatDoor

namespace Go.Proofs.YtdngbojbpmdegaaGreatDoor
open Go.ChangeShapes Go.WideShapes Go.ChangeAt Go.RowKit Go.Joins
theorem open_int_cell {H:Type} {enc:TypeId × Value→H} {W:World} {base fuel:Nat} {sp:Nat→Bool} {full:Bool} {v:Value} {x:DataW H × List MemPlace}
 (h:DataW.trod enc Tryz.prog W base sp full fuel 3 [v]=some x):∃ n,v=.int .i64 n∧(Lit.int .i64 n).wf=true:=by
 obtain ⟨n,e0,_,wn⟩:=DataW.trod_int Tryz.underlying3 h
 simp at e0
 exact ⟨n,e0,wn⟩
theorem weightsAll_mem {H:Type} {P:Program} {e:TypeId} : ∀ {l:List (DataW H)} {d:DataW H},d ∈ l→∀ n ∈ d.weights P e,n ∈ DataW.weightsAll P e l
 | [],d,h,n,hn=>by simp at h
 | x :: l,d,h,n,hn=>by
   simp only [DataW.weightsAll,List.mem_append]
   rcases List.mem_cons.1 h with rfl | h
   · exact .inl hn
   · exact .inr (weightsAll_mem h n hn)
end Go.Proofs.YtdngbojbpmdegaaGreatDoor
