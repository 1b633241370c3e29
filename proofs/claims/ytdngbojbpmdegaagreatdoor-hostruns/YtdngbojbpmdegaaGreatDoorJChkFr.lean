import Derived.Test.YtdngbojbpmdegaaGreatDoorJIdxBase
import Derived.Deep.QuietTactic
import Derived.BigQuiet
namespace Go.Proofs.YtdngbojbpmdegaaGreatDoor
open Go.RowKit
set_option maxHeartbeats 800000 in
theorem bad1_index (a:Option Addr) (xs:List Fr) (cap:Nat) (c0:Value) (p:Fr→Bool) (w:World) (hl:xs.length≤maxLen) (hx:RowsAt w 4 Fr.cells a xs)
 (hp:∀ j,j<xs.length→∀ w',Below w.heap.size w w'→Calls Tryz.prog 72 #[.agg #[.int .i64 (xs.getD j default).o,.int .i64 (xs.getD j default).at_,.int .i64 (xs.getD j default).r,.slice (xs.getD j default).a (xs.getD j default).ws.length (xs.getD j default).cap],c0] w' fun e w''=>e=.returned (.bool (p (xs.getD j default)))∧Below w'.heap.size w' w'') :
 Calls Tryz.prog 67 #[.slice a xs.length cap,.func (.func 72) #[] #[c0]] w fun e w'=>e=.returned (.int .i64 (idxOf p xs))∧Below w.heap.size w w':=by
 unfold maxLen at hl
 rcases hx with rfl | ⟨b,off,rfl,hc⟩
 · clear hp
   go_enter Tryz.func67,Tryz.ntmps67
   go_wp2
   refine wp_loop_rounds 1 ?_
   rw [rounds_succ]
   go_wp2
   go_ret
   exact ⟨rfl,Below.refl _ _⟩
 · go_enter Tryz.func67,Tryz.ntmps67
   go_wp2
   go_loopw [8] (fun i wr=>∃ k:Nat,k≤xs.length∧i=.int .i64 k∧Below w.heap.size w wr∧Hid (∀ j,j<k→p (xs.getD j default)=false)) (fun i _=>xs.length - (intOf i).toNat)
   case atStart=>exact ⟨0,Nat.zero_le _,rfl,Below.refl _ _,fun j hj=>absurd hj (by omega)⟩
   case round =>
    obtain ⟨k,hk,rfl,hbel,hid⟩:=hrel
    by_cases hlt:k<xs.length
    · have k0:=hc k hlt 0 (by omega);have k1:=hc k hlt 1 (by omega);have k2:=hc k hlt 2 (by omega);have k3:=hc k hlt 3 (by omega)
      have hcall:=hp k hlt
      have HP:Hid (xs.getD k default=xs.getD k default):=rfl
      obtain ⟨P,hP⟩:∃ P,xs.getD k default=P:=⟨_,rfl⟩
      rw [hP] at k0 k1 k2 k3 hcall
      have HP:Hid (xs.getD k default=P):=hP
      clear hP hc hp
      have HQ:Hid (p P=p P):=rfl
      obtain ⟨o,at_,r,fa,ws,fcap⟩:=P
      simp only [Fr.cells] at k0 k1 k2 k3
      have bl:b<w.heap.size:=lt_of_cell k0
      have l0:wr.cell? ⟨b,off+k * 4,none⟩=some (.int .i64 o):=(hbel.cell (p:=⟨b,_,none⟩) bl).trans k0;have l1:wr.cell? ⟨b,off+k * 4+1,none⟩=some (.int .i64 at_):=(hbel.cell (p:=⟨b,_,none⟩) bl).trans k1;have l2:wr.cell? ⟨b,off+k * 4+2,none⟩=some (.int .i64 r):=(hbel.cell (p:=⟨b,_,none⟩) bl).trans k2;have l3:wr.cell? ⟨b,off+k * 4+3,none⟩=some (.slice fa ws.length fcap):=(hbel.cell (p:=⟨b,_,none⟩) bl).trans k3
      clear k0 k1 k2 k3 bl
      obtain ⟨z,hz⟩:∃ z,p ⟨o,at_,r,fa,ws,fcap⟩=z:=⟨_,rfl⟩
      rw [hz] at hcall
      have HZ:Hid (p (xs.getD k default)=z):=by rw [HP.out];exact hz
      clear hz HQ
      cases z with
      | false =>
        go_wp2_with (go_at_call 72;refine (hcall _ hbel).mono ?_;rintro e w1 ⟨rfl,hb1⟩)
        go_roundw
        case rel=>exact ⟨k+1,by omega,by go_num,hbel.trans (hb1.mono hbel.size),snoc_false hid HZ.out⟩
        case measure=>simp [intOf];omega
      | true =>
        go_wp2_with (go_at_call 72;refine (hcall _ hbel).mono ?_;rintro e w1 ⟨rfl,hb1⟩)
        go_ret
        exact ⟨ret_int (idxOf_at hlt hid.out HZ.out).symm,hbel.trans (hb1.mono hbel.size)⟩
    · have hkl:k=xs.length:=by omega
      subst hkl
      clear hp hc
      go_wp2
      go_ret
      exact ⟨ret_int (idxOf_none hid.out).symm,hbel⟩
theorem bad1_contains (a:Option Addr) (xs:List Fr) (cap:Nat) (c0:Value) (p:Fr→Bool) (w:World) (hl:xs.length≤maxLen) (hx:RowsAt w 4 Fr.cells a xs)
 (hp:∀ j,j<xs.length→∀ w',Below w.heap.size w w'→Calls Tryz.prog 72 #[.agg #[.int .i64 (xs.getD j default).o,.int .i64 (xs.getD j default).at_,.int .i64 (xs.getD j default).r,.slice (xs.getD j default).a (xs.getD j default).ws.length (xs.getD j default).cap],c0] w' fun e w''=>e=.returned (.bool (p (xs.getD j default)))∧Below w'.heap.size w' w'') :
 Calls Tryz.prog 79 #[.slice a xs.length cap,.func (.func 72) #[] #[c0]] w fun e w'=>e=.returned (.bool (xs.any p))∧Below w.heap.size w w':=by
 have hI:=bad1_index a xs cap c0 p w hl hx hp
 have E:=idxOf_any p xs
 generalize idxOf p xs=z at hI E
 rw [← E]
 clear hx hl hp E
 go_enter Tryz.func79,Tryz.ntmps79
 go_wp2_with (go_at_call 67;refine hI.mono ?_;rintro e w' ⟨rfl,hb⟩)
 go_ret
 exact ⟨rfl,hb⟩
set_option maxHeartbeats 800000 in
theorem bad2_index (a:Option Addr) (xs:List En) (cap:Nat) (p:En→Bool) (w:World) (hl:xs.length≤maxLen) (hx:RowsAt w 7 En.cells a xs)
 (hp:∀ j,j<xs.length→∀ w',Below w.heap.size w w'→Calls Tryz.prog 74 #[.agg #[.int .i64 (xs.getD j default).st,.string (xs.getD j default).log,.int .i64 (xs.getD j default).pc,.int .i64 (xs.getD j default).g0,.int .i64 (xs.getD j default).g1,.int .i64 (xs.getD j default).g2,.int .i64 (xs.getD j default).g3]] w' fun e w''=>e=.returned (.bool (p (xs.getD j default)))∧Below w'.heap.size w' w'') :
 Calls Tryz.prog 117 #[.slice a xs.length cap,.func (.func 74) #[] #[]] w fun e w'=>e=.returned (.int .i64 (idxOf p xs))∧Below w.heap.size w w':=by
 unfold maxLen at hl
 rcases hx with rfl | ⟨b,off,rfl,hc⟩
 · clear hp
   go_enter Tryz.func117,Tryz.ntmps117
   go_wp2
   refine wp_loop_rounds 1 ?_
   rw [rounds_succ]
   go_wp2
   go_ret
   exact ⟨rfl,Below.refl _ _⟩
 · go_enter Tryz.func117,Tryz.ntmps117
   go_wp2
   go_loopw [8] (fun i wr=>∃ k:Nat,k≤xs.length∧i=.int .i64 k∧Below w.heap.size w wr∧Hid (∀ j,j<k→p (xs.getD j default)=false)) (fun i _=>xs.length - (intOf i).toNat)
   case atStart=>exact ⟨0,Nat.zero_le _,rfl,Below.refl _ _,fun j hj=>absurd hj (by omega)⟩
   case round =>
    obtain ⟨k,hk,rfl,hbel,hid⟩:=hrel
    by_cases hlt:k<xs.length
    · have k0:=hc k hlt 0 (by omega);have k1:=hc k hlt 1 (by omega);have k2:=hc k hlt 2 (by omega);have k3:=hc k hlt 3 (by omega);have k4:=hc k hlt 4 (by omega);have k5:=hc k hlt 5 (by omega);have k6:=hc k hlt 6 (by omega)
      have hcall:=hp k hlt
      have HP:Hid (xs.getD k default=xs.getD k default):=rfl
      obtain ⟨P,hP⟩:∃ P,xs.getD k default=P:=⟨_,rfl⟩
      rw [hP] at k0 k1 k2 k3 k4 k5 k6 hcall
      have HP:Hid (xs.getD k default=P):=hP
      clear hP hc hp
      have HQ:Hid (p P=p P):=rfl
      obtain ⟨st,lg,pc,g0,g1,g2,g3⟩:=P
      simp only [En.cells] at k0 k1 k2 k3 k4 k5 k6
      have bl:b<w.heap.size:=lt_of_cell k0
      have l0:wr.cell? ⟨b,off+k * 7,none⟩=some (.int .i64 st):=(hbel.cell (p:=⟨b,_,none⟩) bl).trans k0;have l1:wr.cell? ⟨b,off+k * 7+1,none⟩=some (.string lg):=(hbel.cell (p:=⟨b,_,none⟩) bl).trans k1;have l2:wr.cell? ⟨b,off+k * 7+2,none⟩=some (.int .i64 pc):=(hbel.cell (p:=⟨b,_,none⟩) bl).trans k2;have l3:wr.cell? ⟨b,off+k * 7+3,none⟩=some (.int .i64 g0):=(hbel.cell (p:=⟨b,_,none⟩) bl).trans k3;have l4:wr.cell? ⟨b,off+k * 7+4,none⟩=some (.int .i64 g1):=(hbel.cell (p:=⟨b,_,none⟩) bl).trans k4;have l5:wr.cell? ⟨b,off+k * 7+5,none⟩=some (.int .i64 g2):=(hbel.cell (p:=⟨b,_,none⟩) bl).trans k5;have l6:wr.cell? ⟨b,off+k * 7+6,none⟩=some (.int .i64 g3):=(hbel.cell (p:=⟨b,_,none⟩) bl).trans k6
      clear k0 k1 k2 k3 k4 k5 k6 bl
      obtain ⟨z,hz⟩:∃ z,p ⟨st,lg,pc,g0,g1,g2,g3⟩=z:=⟨_,rfl⟩
      rw [hz] at hcall
      have HZ:Hid (p (xs.getD k default)=z):=by rw [HP.out];exact hz
      clear hz HQ
      cases z with
      | false =>
        go_wp2_with (go_at_call 74;refine (hcall _ hbel).mono ?_;rintro e w1 ⟨rfl,hb1⟩)
        go_roundw
        case rel=>exact ⟨k+1,by omega,by go_num,hbel.trans (hb1.mono hbel.size),snoc_false hid HZ.out⟩
        case measure=>simp [intOf];omega
      | true =>
        go_wp2_with (go_at_call 74;refine (hcall _ hbel).mono ?_;rintro e w1 ⟨rfl,hb1⟩)
        go_ret
        exact ⟨ret_int (idxOf_at hlt hid.out HZ.out).symm,hbel.trans (hb1.mono hbel.size)⟩
    · have hkl:k=xs.length:=by omega
      subst hkl
      clear hp hc
      go_wp2
      go_ret
      exact ⟨ret_int (idxOf_none hid.out).symm,hbel⟩
theorem bad2_contains (a:Option Addr) (xs:List En) (cap:Nat) (p:En→Bool) (w:World) (hl:xs.length≤maxLen) (hx:RowsAt w 7 En.cells a xs)
 (hp:∀ j,j<xs.length→∀ w',Below w.heap.size w w'→Calls Tryz.prog 74 #[.agg #[.int .i64 (xs.getD j default).st,.string (xs.getD j default).log,.int .i64 (xs.getD j default).pc,.int .i64 (xs.getD j default).g0,.int .i64 (xs.getD j default).g1,.int .i64 (xs.getD j default).g2,.int .i64 (xs.getD j default).g3]] w' fun e w''=>e=.returned (.bool (p (xs.getD j default)))∧Below w'.heap.size w' w'') :
 Calls Tryz.prog 78 #[.slice a xs.length cap,.func (.func 74) #[] #[]] w fun e w'=>e=.returned (.bool (xs.any p))∧Below w.heap.size w w':=by
 have hI:=bad2_index a xs cap p w hl hx hp
 have E:=idxOf_any p xs
 generalize idxOf p xs=z at hI E
 rw [← E]
 clear hx hl hp E
 go_enter Tryz.func78,Tryz.ntmps78
 go_wp2_with (go_at_call 117;refine hI.mono ?_;rintro e w' ⟨rfl,hb⟩)
 go_ret
 exact ⟨rfl,hb⟩
set_option maxHeartbeats 800000 in
theorem bad3_index (a:Option Addr) (xs:List Qu) (cap:Nat) (p:Qu→Bool) (w:World) (hl:xs.length≤maxLen) (hx:RowsAt w 2 Qu.cells a xs)
 (hp:∀ j,j<xs.length→∀ w',Below w.heap.size w w'→Calls Tryz.prog 76 #[.agg #[.string (xs.getD j default).log,.int .i64 (xs.getD j default).data]] w' fun e w''=>e=.returned (.bool (p (xs.getD j default)))∧Below w'.heap.size w' w'') :
 Calls Tryz.prog 118 #[.slice a xs.length cap,.func (.func 76) #[] #[]] w fun e w'=>e=.returned (.int .i64 (idxOf p xs))∧Below w.heap.size w w':=by
 unfold maxLen at hl
 rcases hx with rfl | ⟨b,off,rfl,hc⟩
 · clear hp
   go_enter Tryz.func118,Tryz.ntmps118
   go_wp2
   refine wp_loop_rounds 1 ?_
   rw [rounds_succ]
   go_wp2
   go_ret
   exact ⟨rfl,Below.refl _ _⟩
 · go_enter Tryz.func118,Tryz.ntmps118
   go_wp2
   go_loopw [8] (fun i wr=>∃ k:Nat,k≤xs.length∧i=.int .i64 k∧Below w.heap.size w wr∧Hid (∀ j,j<k→p (xs.getD j default)=false)) (fun i _=>xs.length - (intOf i).toNat)
   case atStart=>exact ⟨0,Nat.zero_le _,rfl,Below.refl _ _,fun j hj=>absurd hj (by omega)⟩
   case round =>
    obtain ⟨k,hk,rfl,hbel,hid⟩:=hrel
    by_cases hlt:k<xs.length
    · have k0:=hc k hlt 0 (by omega);have k1:=hc k hlt 1 (by omega)
      have hcall:=hp k hlt
      have HP:Hid (xs.getD k default=xs.getD k default):=rfl
      obtain ⟨P,hP⟩:∃ P,xs.getD k default=P:=⟨_,rfl⟩
      rw [hP] at k0 k1 hcall
      have HP:Hid (xs.getD k default=P):=hP
      clear hP hc hp
      have HQ:Hid (p P=p P):=rfl
      obtain ⟨lg,da⟩:=P
      simp only [Qu.cells] at k0 k1
      have bl:b<w.heap.size:=lt_of_cell k0
      have l0:wr.cell? ⟨b,off+k * 2,none⟩=some (.string lg):=(hbel.cell (p:=⟨b,_,none⟩) bl).trans k0;have l1:wr.cell? ⟨b,off+k * 2+1,none⟩=some (.int .i64 da):=(hbel.cell (p:=⟨b,_,none⟩) bl).trans k1
      clear k0 k1 bl
      obtain ⟨z,hz⟩:∃ z,p ⟨lg,da⟩=z:=⟨_,rfl⟩
      rw [hz] at hcall
      have HZ:Hid (p (xs.getD k default)=z):=by rw [HP.out];exact hz
      clear hz HQ
      cases z with
      | false =>
        go_wp2_with (go_at_call 76;refine (hcall _ hbel).mono ?_;rintro e w1 ⟨rfl,hb1⟩)
        go_roundw
        case rel=>exact ⟨k+1,by omega,by go_num,hbel.trans (hb1.mono hbel.size),snoc_false hid HZ.out⟩
        case measure=>simp [intOf];omega
      | true =>
        go_wp2_with (go_at_call 76;refine (hcall _ hbel).mono ?_;rintro e w1 ⟨rfl,hb1⟩)
        go_ret
        exact ⟨ret_int (idxOf_at hlt hid.out HZ.out).symm,hbel.trans (hb1.mono hbel.size)⟩
    · have hkl:k=xs.length:=by omega
      subst hkl
      clear hp hc
      go_wp2
      go_ret
      exact ⟨ret_int (idxOf_none hid.out).symm,hbel⟩
theorem bad3_contains (a:Option Addr) (xs:List Qu) (cap:Nat) (p:Qu→Bool) (w:World) (hl:xs.length≤maxLen) (hx:RowsAt w 2 Qu.cells a xs)
 (hp:∀ j,j<xs.length→∀ w',Below w.heap.size w w'→Calls Tryz.prog 76 #[.agg #[.string (xs.getD j default).log,.int .i64 (xs.getD j default).data]] w' fun e w''=>e=.returned (.bool (p (xs.getD j default)))∧Below w'.heap.size w' w'') :
 Calls Tryz.prog 80 #[.slice a xs.length cap,.func (.func 76) #[] #[]] w fun e w'=>e=.returned (.bool (xs.any p))∧Below w.heap.size w w':=by
 have hI:=bad3_index a xs cap p w hl hx hp
 have E:=idxOf_any p xs
 generalize idxOf p xs=z at hI E
 rw [← E]
 clear hx hl hp E
 go_enter Tryz.func80,Tryz.ntmps80
 go_wp2_with (go_at_call 118;refine hI.mono ?_;rintro e w' ⟨rfl,hb⟩)
 go_ret
 exact ⟨rfl,hb⟩
set_option maxHeartbeats 800000 in
theorem twin_index (a:Option Addr) (xs:List Fr) (cap:Nat) (c0:Value) (p:Fr→Bool) (w:World) (hl:xs.length≤maxLen) (hx:RowsAt w 4 Fr.cells a xs)
 (hp:∀ j,j<xs.length→∀ w',Below w.heap.size w w'→Calls Tryz.prog 119 #[.agg #[.int .i64 (xs.getD j default).o,.int .i64 (xs.getD j default).at_,.int .i64 (xs.getD j default).r,.slice (xs.getD j default).a (xs.getD j default).ws.length (xs.getD j default).cap],c0] w' fun e w''=>e=.returned (.bool (p (xs.getD j default)))∧Below w'.heap.size w' w'') :
 Calls Tryz.prog 67 #[.slice a xs.length cap,.func (.func 119) #[] #[c0]] w fun e w'=>e=.returned (.int .i64 (idxOf p xs))∧Below w.heap.size w w':=by
 unfold maxLen at hl
 rcases hx with rfl | ⟨b,off,rfl,hc⟩
 · clear hp
   go_enter Tryz.func67,Tryz.ntmps67
   go_wp2
   refine wp_loop_rounds 1 ?_
   rw [rounds_succ]
   go_wp2
   go_ret
   exact ⟨rfl,Below.refl _ _⟩
 · go_enter Tryz.func67,Tryz.ntmps67
   go_wp2
   go_loopw [8] (fun i wr=>∃ k:Nat,k≤xs.length∧i=.int .i64 k∧Below w.heap.size w wr∧Hid (∀ j,j<k→p (xs.getD j default)=false)) (fun i _=>xs.length - (intOf i).toNat)
   case atStart=>exact ⟨0,Nat.zero_le _,rfl,Below.refl _ _,fun j hj=>absurd hj (by omega)⟩
   case round =>
    obtain ⟨k,hk,rfl,hbel,hid⟩:=hrel
    by_cases hlt:k<xs.length
    · have k0:=hc k hlt 0 (by omega);have k1:=hc k hlt 1 (by omega);have k2:=hc k hlt 2 (by omega);have k3:=hc k hlt 3 (by omega)
      have hcall:=hp k hlt
      have HP:Hid (xs.getD k default=xs.getD k default):=rfl
      obtain ⟨P,hP⟩:∃ P,xs.getD k default=P:=⟨_,rfl⟩
      rw [hP] at k0 k1 k2 k3 hcall
      have HP:Hid (xs.getD k default=P):=hP
      clear hP hc hp
      have HQ:Hid (p P=p P):=rfl
      obtain ⟨o,at_,r,fa,ws,fcap⟩:=P
      simp only [Fr.cells] at k0 k1 k2 k3
      have bl:b<w.heap.size:=lt_of_cell k0
      have l0:wr.cell? ⟨b,off+k * 4,none⟩=some (.int .i64 o):=(hbel.cell (p:=⟨b,_,none⟩) bl).trans k0;have l1:wr.cell? ⟨b,off+k * 4+1,none⟩=some (.int .i64 at_):=(hbel.cell (p:=⟨b,_,none⟩) bl).trans k1;have l2:wr.cell? ⟨b,off+k * 4+2,none⟩=some (.int .i64 r):=(hbel.cell (p:=⟨b,_,none⟩) bl).trans k2;have l3:wr.cell? ⟨b,off+k * 4+3,none⟩=some (.slice fa ws.length fcap):=(hbel.cell (p:=⟨b,_,none⟩) bl).trans k3
      clear k0 k1 k2 k3 bl
      obtain ⟨z,hz⟩:∃ z,p ⟨o,at_,r,fa,ws,fcap⟩=z:=⟨_,rfl⟩
      rw [hz] at hcall
      have HZ:Hid (p (xs.getD k default)=z):=by rw [HP.out];exact hz
      clear hz HQ
      cases z with
      | false =>
        go_wp2_with (go_at_call 119;refine (hcall _ hbel).mono ?_;rintro e w1 ⟨rfl,hb1⟩)
        go_roundw
        case rel=>exact ⟨k+1,by omega,by go_num,hbel.trans (hb1.mono hbel.size),snoc_false hid HZ.out⟩
        case measure=>simp [intOf];omega
      | true =>
        go_wp2_with (go_at_call 119;refine (hcall _ hbel).mono ?_;rintro e w1 ⟨rfl,hb1⟩)
        go_ret
        exact ⟨ret_int (idxOf_at hlt hid.out HZ.out).symm,hbel.trans (hb1.mono hbel.size)⟩
    · have hkl:k=xs.length:=by omega
      subst hkl
      clear hp hc
      go_wp2
      go_ret
      exact ⟨ret_int (idxOf_none hid.out).symm,hbel⟩
theorem twin_contains (a:Option Addr) (xs:List Fr) (cap:Nat) (c0:Value) (p:Fr→Bool) (w:World) (hl:xs.length≤maxLen) (hx:RowsAt w 4 Fr.cells a xs)
 (hp:∀ j,j<xs.length→∀ w',Below w.heap.size w w'→Calls Tryz.prog 119 #[.agg #[.int .i64 (xs.getD j default).o,.int .i64 (xs.getD j default).at_,.int .i64 (xs.getD j default).r,.slice (xs.getD j default).a (xs.getD j default).ws.length (xs.getD j default).cap],c0] w' fun e w''=>e=.returned (.bool (p (xs.getD j default)))∧Below w'.heap.size w' w'') :
 Calls Tryz.prog 79 #[.slice a xs.length cap,.func (.func 119) #[] #[c0]] w fun e w'=>e=.returned (.bool (xs.any p))∧Below w.heap.size w w':=by
 have hI:=twin_index a xs cap c0 p w hl hx hp
 have E:=idxOf_any p xs
 generalize idxOf p xs=z at hI E
 rw [← E]
 clear hx hl hp E
 go_enter Tryz.func79,Tryz.ntmps79
 go_wp2_with (go_at_call 67;refine hI.mono ?_;rintro e w' ⟨rfl,hb⟩)
 go_ret
 exact ⟨rfl,hb⟩
end Go.Proofs.YtdngbojbpmdegaaGreatDoor

namespace Go.Proofs.YtdngbojbpmdegaaGreatDoor
open Go.RowKit
def Fr.good (ens:List En) (f:Fr):Bool:=(pageF f.at_ f.r f.ws == 0) && inB f.o 0 4 && (if f.o=0 then (f.at_ == 0) && (f.r == 0) else (ens.getD (f.o - 1).toNat default).st != 0)
def Qu.good (q:Qu):Bool:=decide (q.log.size≤1000) && inB q.data 0 65535
theorem RowsAt.en0 {w:World} {a:Option Addr} {ens:List En} (h:RowsAt w 7 En.cells a ens) {j:Nat} (hj:j<ens.length):∃ b off,a=some ⟨b,off,none⟩∧w.cell? ⟨b,off+j * 7,none⟩=some (.int .i64 (ens.getD j default).st):=by
 rcases h with rfl | ⟨b,off,h1,h2⟩
 · simp at hj
 · exact ⟨b,off,h1,h2 j hj 0 (by omega)⟩
set_option maxHeartbeats 1600000 in
theorem isFrame_any (o fat r:Int) (fa:Option Addr) (ws:List Int) (fcap:Nat) (ea:Option Addr) (ens:List En) (ecap:Nat) (w:World) (hr:(Lit.int .i64 r).wf=true) (hl:ws.length≤maxLen) (hi:Ints w fa ws) (he:RowsAt w 7 En.cells ea ens) (h4:ens.length=4) :
 Calls Tryz.prog 73 #[.agg #[.int .i64 o,.int .i64 fat,.int .i64 r,.slice fa ws.length fcap],.slice ea 4 ecap] w fun e w' =>
  e=.returned (.bool (Fr.good ens ⟨o,fat,r,fa,ws,fcap⟩))∧Below w.heap.size w w':=by
 have hcall:=fun w' (h:Below w.heap.size w w')=>checkPage_any fat r fa ws fcap w' hr hl (hi.below h)
 have B2:∀ o1 o2,Hid (Below w.heap.size w ((w.alloc o1).alloc o2)):=fun o1 o2=>((Below.refl _ _).alloc (Nat.le_refl _) _).alloc (by simp) _
 have E0:Hid (Fr.good ens ⟨o,fat,r,fa,ws,fcap⟩=((pageF fat r ws == 0) && inB o 0 4 && (if o=0 then (fat == 0) && (r == 0) else (ens.getD (o - 1).toNat default).st != 0))):=rfl
 generalize Fr.good ens ⟨o,fat,r,fa,ws,fcap⟩=G at E0 ⊢
 generalize pageF fat r ws=z at hcall E0
 obtain ⟨nl,hnl⟩:∃ nl,ws.length=nl:=⟨_,rfl⟩
 rw [hnl] at hcall ⊢
 clear hnl hl hi hr
 by_cases hz:z=0
 · subst hz
   by_cases c1:o<0
   · have EG:G=false:=by rw [E0.out,inB_low (show ¬ 0≤o by omega)];simp
     subst EG
     clear E0 he
     go_enter Tryz.func73,Tryz.ntmps73
     go_wp2_with (go_at_call 115;refine (hcall _ (B2 _ _).out).mono ?_;rintro e w1 ⟨rfl,hb⟩;obtain ⟨hc,hf⟩:=bcell hb)
     go_ret
     exact ⟨rfl,(B2 _ _).out.trans (hb.mono (by simp;omega))⟩
   by_cases c2:4<o
   · have EG:G=false:=by rw [E0.out,inB_high (show ¬ o≤4 by omega)];simp
     subst EG
     clear E0 he
     go_enter Tryz.func73,Tryz.ntmps73
     go_wp2_with (go_at_call 115;refine (hcall _ (B2 _ _).out).mono ?_;rintro e w1 ⟨rfl,hb⟩;obtain ⟨hc,hf⟩:=bcell hb)
     go_ret
     exact ⟨rfl,(B2 _ _).out.trans (hb.mono (by simp;omega))⟩
   rw [inB_true (show 0≤o by omega) (show o≤4 by omega)] at E0
   by_cases c3:o=0
   · subst c3
     have E1:Hid (G=((fat == 0) && (r == 0))):=by show G=_;rw [E0.out];simp
     clear E0 he
     by_cases c4:fat=0
     · subst c4
       have EG:G=(r == 0):=by rw [E1.out];simp
       subst EG
       clear E1
       go_enter Tryz.func73,Tryz.ntmps73
       go_wp2_with (go_at_call 115;refine (hcall _ (B2 _ _).out).mono ?_;rintro e w1 ⟨rfl,hb⟩;obtain ⟨hc,hf⟩:=bcell hb)
       go_ret
       exact ⟨rfl,(B2 _ _).out.trans (hb.mono (by simp;omega))⟩
     · have c4' : (fat == 0)=false:=by simpa using c4
       have EG:G=false:=by rw [E1.out];simp [c4]
       subst EG
       clear E1
       go_enter Tryz.func73,Tryz.ntmps73
       go_wp2_with (go_at_call 115;refine (hcall _ (B2 _ _).out).mono ?_;rintro e w1 ⟨rfl,hb⟩;obtain ⟨hc,hf⟩:=bcell hb)
       go_ret
       exact ⟨rfl,(B2 _ _).out.trans (hb.mono (by simp;omega))⟩
   · obtain rfl | rfl | rfl | rfl:o=1∨o=2∨o=3∨o=4:=by omega
     · obtain ⟨b,off,rfl,hs⟩:=he.en0 (j:=0) (by omega)
       have EG:Hid (G=((ens.getD 0 default).st != 0)):=by show G=_;rw [E0.out];simp
       generalize (ens.getD 0 default).st=s at hs EG
       simp at hs
       clear E0 he
       go_enter Tryz.func73,Tryz.ntmps73
       go_wp2_with (go_at_call 115;refine (hcall _ (B2 _ _).out).mono ?_;rintro e w1 ⟨rfl,hb⟩;obtain ⟨hc,hf⟩:=bcell hb;have q1:w1.cell? ⟨b,off,none⟩=some (.int .i64 s):=(((B2 _ _).out.trans (hb.mono (by simp;omega))).cell (p:=⟨b,off,none⟩) (lt_of_cell hs)).trans hs)
       go_ret
       exact ⟨ret_bool EG.out.symm,(B2 _ _).out.trans (hb.mono (by simp;omega))⟩
     · obtain ⟨b,off,rfl,hs⟩:=he.en0 (j:=1) (by omega)
       have EG:Hid (G=((ens.getD 1 default).st != 0)):=by show G=_;rw [E0.out];simp
       generalize (ens.getD 1 default).st=s at hs EG
       simp at hs
       clear E0 he
       go_enter Tryz.func73,Tryz.ntmps73
       go_wp2_with (go_at_call 115;refine (hcall _ (B2 _ _).out).mono ?_;rintro e w1 ⟨rfl,hb⟩;obtain ⟨hc,hf⟩:=bcell hb;have q1:w1.cell? ⟨b,off+7,none⟩=some (.int .i64 s):=(((B2 _ _).out.trans (hb.mono (by simp;omega))).cell (p:=⟨b,_,none⟩) (lt_of_cell hs)).trans hs)
       go_ret
       exact ⟨ret_bool EG.out.symm,(B2 _ _).out.trans (hb.mono (by simp;omega))⟩
     · obtain ⟨b,off,rfl,hs⟩:=he.en0 (j:=2) (by omega)
       have EG:Hid (G=((ens.getD 2 default).st != 0)):=by show G=_;rw [E0.out];simp
       generalize (ens.getD 2 default).st=s at hs EG
       simp at hs
       clear E0 he
       go_enter Tryz.func73,Tryz.ntmps73
       go_wp2_with (go_at_call 115;refine (hcall _ (B2 _ _).out).mono ?_;rintro e w1 ⟨rfl,hb⟩;obtain ⟨hc,hf⟩:=bcell hb;have q1:w1.cell? ⟨b,off+14,none⟩=some (.int .i64 s):=(((B2 _ _).out.trans (hb.mono (by simp;omega))).cell (p:=⟨b,_,none⟩) (lt_of_cell hs)).trans hs)
       go_ret
       exact ⟨ret_bool EG.out.symm,(B2 _ _).out.trans (hb.mono (by simp;omega))⟩
     · obtain ⟨b,off,rfl,hs⟩:=he.en0 (j:=3) (by omega)
       have EG:Hid (G=((ens.getD 3 default).st != 0)):=by show G=_;rw [E0.out];simp
       generalize (ens.getD 3 default).st=s at hs EG
       simp at hs
       clear E0 he
       go_enter Tryz.func73,Tryz.ntmps73
       go_wp2_with (go_at_call 115;refine (hcall _ (B2 _ _).out).mono ?_;rintro e w1 ⟨rfl,hb⟩;obtain ⟨hc,hf⟩:=bcell hb;have q1:w1.cell? ⟨b,off+21,none⟩=some (.int .i64 s):=(((B2 _ _).out.trans (hb.mono (by simp;omega))).cell (p:=⟨b,_,none⟩) (lt_of_cell hs)).trans hs)
       go_ret
       exact ⟨ret_bool EG.out.symm,(B2 _ _).out.trans (hb.mono (by simp;omega))⟩
 · have hz1:(z != 0)=true:=by simpa using hz
   have EG:G=false:=by rw [E0.out];simp [hz]
   subst EG
   clear E0 he
   go_enter Tryz.func73,Tryz.ntmps73
   go_wp2_with (go_at_call 115;refine (hcall _ (B2 _ _).out).mono ?_;rintro e w1 ⟨rfl,hb⟩;obtain ⟨hc,hf⟩:=bcell hb)
   go_ret
   exact ⟨rfl,(B2 _ _).out.trans (hb.mono (by simp;omega))⟩
theorem badFrame_any (o fat r:Int) (fa:Option Addr) (ws:List Int) (fcap:Nat) (ea:Option Addr) (ens:List En) (ecap B:Nat) (w:World) (hr:(Lit.int .i64 r).wf=true) (hl:ws.length≤maxLen) (hi:Ints w fa ws) (he:RowsAt w 7 En.cells ea ens) (h4:ens.length=4)
 (hm:w.cell? ⟨B,1,none⟩=some (.slice ea 4 ecap)) :
 Calls Tryz.prog 72 #[.agg #[.int .i64 o,.int .i64 fat,.int .i64 r,.slice fa ws.length fcap],.pointer (some ⟨B,0,none⟩)] w fun e w' =>
  e=.returned (.bool (!Fr.good ens ⟨o,fat,r,fa,ws,fcap⟩))∧Below w.heap.size w w':=by
 have hcall:=fun w' (h:Below w.heap.size w w')=>isFrame_any o fat r fa ws fcap ea ens ecap w' hr hl (hi.below h) (he.below (fun _=>rfl) h) h4
 have B1:∀ o,Hid (Below w.heap.size w (w.alloc o)):=fun o=>(Below.refl _ _).alloc (Nat.le_refl _) _
 have lb:B<w.heap.size:=lt_of_cell hm
 generalize Fr.good ens ⟨o,fat,r,fa,ws,fcap⟩=G at hcall ⊢
 clear hr hl hi he h4
 go_enter Tryz.func72,Tryz.ntmps72
 go_wp2_with (go_at_call 73;refine (hcall _ (B1 _).out).mono ?_;rintro e w1 ⟨rfl,hb⟩)
 go_ret
 exact ⟨rfl,(B1 _).out.trans (hb.mono (by simp))⟩
theorem badEnclave_any (st pc g0 g1 g2 g3:Int) (lg:ByteArray) (w:World) (hl:lg.size≤maxLen) :
 Calls Tryz.prog 74 #[.agg #[.int .i64 st,.string lg,.int .i64 pc,.int .i64 g0,.int .i64 g1,.int .i64 g2,.int .i64 g3]] w fun e w' =>
  e=.returned (.bool (!En.good ⟨st,lg,pc,g0,g1,g2,g3⟩))∧Below w.heap.size w w':=by
 have hcall:=fun w'=>isEnclave_any st pc g0 g1 g2 g3 lg w' hl
 have B1:∀ o,Hid (Below w.heap.size w (w.alloc o)):=fun o=>(Below.refl _ _).alloc (Nat.le_refl _) _
 generalize En.good ⟨st,lg,pc,g0,g1,g2,g3⟩=G at hcall ⊢
 clear hl
 go_enter Tryz.func74,Tryz.ntmps74
 go_wp2_with (go_at_call 75;refine (hcall _).mono ?_;rintro e w1 ⟨rfl,hb⟩)
 go_ret
 exact ⟨rfl,(B1 _).out.trans (hb.mono (by simp))⟩
theorem badQuote_any (lg:ByteArray) (da:Int) (w:World) (hl:lg.size≤maxLen) :
 Calls Tryz.prog 76 #[.agg #[.string lg,.int .i64 da]] w fun e w'=>e=.returned (.bool (!Qu.good ⟨lg,da⟩))∧Below w.heap.size w w':=by
 have hcall:=fun w'=>isWord_any da w'
 have B1:∀ o,Hid (Below w.heap.size w (w.alloc o)):=fun o=>(Below.refl _ _).alloc (Nat.le_refl _) _
 unfold Qu.good
 dsimp only
 generalize inB da 0 65535=G at hcall ⊢
 unfold maxLen at hl
 by_cases c:lg.size≤1000
 · have c' : ¬ ((1000:Int)<(lg.size:Int)):=by omega
   rw [decide_eq_true c]
   go_enter Tryz.func76,Tryz.ntmps76
   go_wp2_with (go_at_call 77;refine (hcall _).mono ?_;rintro e w1 ⟨rfl,rfl⟩)
   go_ret
   exact ⟨rfl,(B1 _).out⟩
 · have c' : (1000:Int)<(lg.size:Int):=by omega
   rw [decide_eq_false c]
   go_enter Tryz.func76,Tryz.ntmps76
   go_wp2
   go_ret
   exact ⟨rfl,(B1 _).out⟩
def twB (o at_:Int) (g:Fr):Bool:=(g.o == o) && (g.at_ == at_)
theorem twin_any (o fat r:Int) (fa:Option Addr) (n fcap:Nat) (o1 at1:Int) (B:Nat) (w:World) (h0:w.cell? ⟨B,0,none⟩=some (.int .i64 o1)) (h1:w.cell? ⟨B,1,none⟩=some (.int .i64 at1)) :
 Calls Tryz.prog 119 #[.agg #[.int .i64 o,.int .i64 fat,.int .i64 r,.slice fa n fcap],.pointer (some ⟨B,0,none⟩)] w fun e w' =>
  e=.returned (.bool ((o == o1) && (fat == at1)))∧Below w.heap.size w w':=by
 have lb:B<w.heap.size:=lt_of_cell h0
 have B1:∀ o,Hid (Below w.heap.size w (w.alloc o)):=fun o=>(Below.refl _ _).alloc (Nat.le_refl _) _
 by_cases c1:o=o1
 · subst c1
   go_enter Tryz.func119,Tryz.ntmps119
   go_wp2
   go_ret
   exact ⟨ret_bool (by simp),(B1 _).out⟩
 · have c1' : (o == o1)=false:=by simpa using c1
   go_enter Tryz.func119,Tryz.ntmps119
   go_wp2
   go_ret
   exact ⟨ret_bool (by simp [c1]),(B1 _).out⟩
end Go.Proofs.YtdngbojbpmdegaaGreatDoor
