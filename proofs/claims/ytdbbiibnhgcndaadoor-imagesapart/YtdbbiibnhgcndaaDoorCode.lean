/-
  What Code (riddlekeep) answers for every list of raw things and sixteen words: a new list of sixteen words that may be a page's; nothing that was in memory turns.
-/
import Derived.Test.YtdbbiibnhgcndaaDoorRaw
import Derived.Test.YtdbbiibnhgcndaaDoorHeld
import Derived.Test.YtdbbiibnhgcndaaDoorImageMath
import Derived.Deep.RegionHeld3
import Derived.Deep.AppendLies
import Derived.Deep.LoopGhost
namespace Go.Proofs.YtdbbiibnhgcndaaDoor
open Go.RowKit
set_option maxRecDepth 100000

/-- the value owns these words -/
def OwnsI (w : World) (B : Nat) (v : Value) (xs : List Int) : Prop := w.ownsRow B 3 1 v xs.length (icells xs)
theorem icells_append (a b : List Int) : icells (a ++ b) = icells a ++ icells b := by simp [icells]
theorem icells_len (a : List Int) : (icells a).length = a.length := by simp [icells]
theorem ownsI_alloc {w : World} {B : Nat} {v : Value} {l : List Int} (h : OwnsI w B v l) (o : Obj) : OwnsI (w.alloc o) B v l := World.ownsRow.alloc h o
theorem ownsI_form {w : World} {B : Nat} {v : Value} {l : List Int} (h : OwnsI w B v l) : ∃ ao cap, v = .slice ao l.length cap := own_form h
theorem ownsI_next {w0 w1 w2 : World} {B : Nat} {v v' : Value} {l new : List Int} {o : Obj} (hown : OwnsI w1 B v l) (hown' : w2.ownsRow B 3 1 v' (l.length + new.length) (icells l ++ icells new)) (hgrow : (w1.alloc o).grownBy w2 v.ownBlock) (hb : Below B w0 w1) (hB : B ≤ w1.heap.size) :
    OwnsI w2 B v' (l ++ new) ∧ Below B w0 w2 ∧ B ≤ w2.heap.size := by
  have hs := hgrow.size
  refine ⟨by unfold OwnsI; rw [List.length_append, icells_append]; exact hown', (hb.alloc hB o).grown hgrow (by simp; omega) (fun k hk => (hown.lt k hk).1), by simp at hs; omega⟩
theorem two_cells (w : World) (x y : Int) : ∀ j u, (icells [x, y])[j]? = some u → (w.alloc (.cells #[.int .i64 x, .int .i64 y] 3)).cell? ((⟨w.heap.size, 0, none⟩ : Addr).add j) = some u := by
  intro j u hj
  rw [add_at, World.cell?_alloc_at _ _ _ _ rfl]
  simpa [icells] using hj
theorem grown_drew {w w' : World} {r : Option Nat} (h : w.drew.grownBy w' r) : w.grownBy w' r := ⟨h.os, h.tape, h.output, h.size, h.block⟩

theorem instr_any (o a b c : Int) (w : World) (ho : 0 ≤ o ∧ o ≤ 9) (ha : 0 ≤ a ∧ a ≤ 3) (hb : 0 ≤ b ∧ b ≤ 3) :
    Calls Tryd.prog 64 #[.int .i64 o, .int .i64 a, .int .i64 b, .int .i64 c] w fun e w' => e = .returned (.slice (some ⟨w.heap.size, 0, none⟩) 2 2) ∧ w.alloc (.cells #[.int .i64 (o + 16 * a + 256 * b), .int .i64 c] 3) = w' := by
  obtain ⟨o1, o2⟩ := ho
  obtain ⟨a1, a2⟩ := ha
  obtain ⟨b1, b2⟩ := hb
  go_enter Tryd.func64, Tryd.ntmps64
  go_wp2
  go_ret
  exact ⟨rfl, rfl⟩

/-- words that may be a page's -/
def Small16 (xs : List Int) : Prop := ∀ n ∈ xs, 0 ≤ n ∧ n ≤ 65535
theorem small_append {a b : List Int} (h : Small16 a) (k : Small16 b) : Small16 (a ++ b) := fun n hn => by
  rcases List.mem_append.1 hn with hn | hn
  · exact h n hn
  · exact k n hn

set_option maxHeartbeats 8000000 in
set_option maxRecDepth 100000 in
theorem code_any (a : Option Addr) (rs : List Rw) (cap : Nat) (w : World) (hl : rs.length ≤ maxLen) (hx : RawsAt w a rs) :
    Calls Tryd.prog 40 #[.slice a rs.length cap, .int .i64 16] w fun e w' => ∃ v xs, e = .returned v ∧ OwnsI w' w.heap.size v xs ∧ xs.length = 16 ∧ Small16 xs ∧ Below w.heap.size w w' := by
  unfold maxLen at hl
  obtain ⟨i0, hi, hz0, hz1, hz2⟩ := info_parts held_info
  have HX : Hid (RawsAt w a rs) := hx
  clear hx
  go_enter Tryd.func40, Tryd.ntmps40
  go_wp2
  go_loopw [5, 6] (fun v i wr => ∃ (k : Nat) (ao : Option Addr) (cp : Nat) (xs : List Int), k ≤ rs.length ∧ i = .int .i64 k ∧ v = .slice ao xs.length cp ∧ xs.length ≤ 16 ∧ Hid (xs.length % 2 = 0) ∧ Hid (OwnsI wr w.heap.size (.slice ao xs.length cp) xs) ∧ Hid (Small16 xs) ∧ Below w.heap.size w wr ∧ w.heap.size ≤ wr.heap.size) (fun _ i _ => rs.length - (intOf i).toNat)
  case atStart => exact ⟨0, none, 0, [], Nat.zero_le _, rfl, rfl, by simp, rfl, World.ownsRow_nil _ _ _ _, fun n hn => absurd hn (by simp), Below.refl _ _, Nat.le_refl _⟩
  case round =>
    obtain ⟨k, ao, cp, xs, hk, rfl, rfl, hxl, hev, hown, hsm, hbel, hsz⟩ := hrel
    by_cases hgo : k < rs.length ∧ xs.length + 4 ≤ 16
    · obtain ⟨hlt, hroom⟩ := hgo
      rcases HX.out.at_ with rfl | ⟨b, off, rfl, hc⟩
      · simp at hlt
      · obtain ⟨c0, c1, c2, c3⟩ := hc k hlt
        have hok := HX.out.ok k hlt
        generalize rs.getD k default = R at c0 c1 c2 c3 hok
        obtain ⟨rk, ra, rb, rc⟩ := R
        obtain ⟨w0, w1, w2, w3⟩ := hok
        dsimp only at c0 c1 c2 c3 w0 w1 w2 w3
        have d0 := keep_cell hbel c0
        have d1 := keep_cell hbel c1
        have d2 := keep_cell hbel c2
        have d3 := keep_cell hbel c3
        obtain ⟨p9a, p9b⟩ := pick_lt rk (many := 9) (by omega)
        obtain ⟨p70a, p70b⟩ := pick_lt rc (many := 70) (by omega)
        obtain ⟨p8a, p8b⟩ := pick_lt rc (many := 8) (by omega)
        obtain ⟨p40a, p40b⟩ := pick_lt rc (many := 40) (by omega)
        obtain ⟨p16a, p16b⟩ := pick_lt rc (many := 16) (by omega)
        obtain ⟨pa4a, pa4b⟩ := pick_lt ra (many := 4) (by omega)
        obtain ⟨pb4a, pb4b⟩ := pick_lt rb (many := 4) (by omega)
        have hkx : (k : Int) < (rs.length : Int) := by omega
        have hx4 : (xs.length : Int) + 4 ≤ 16 := by omega
        clear c0 c1 c2 c3 hc
        by_cases h7 : 1 + pick rk 9 = 7
        · have t7 : (1 + pick rk 9 == 7) = true := by simpa using h7
          clear h7
          go_wp2_with (go_at_call 23; refine (picked_any _ _ _ (by assumption) (by omega) (by omega)).mono ?_; rintro e w' ⟨rfl, rfl⟩)
          generalize hC : pick rc 8 * 2 = C
          have hC1 : 0 ≤ C := by omega
          have hC2 : C ≤ 104 := by omega
          clear hC
          have HA : Hid (∀ v' w2, w2.ownsRow w.heap.size 3 1 v' (xs.length + 2) (icells xs ++ icells [1 + pick rk 9 + 16 * pick ra 4 + 256 * pick rb 4, C]) → ((wr.alloc (.cells #[.int .i64 rk, .int .i64 ra, .int .i64 rb, .int .i64 rc] 36)).alloc (.cells #[.int .i64 (1 + pick rk 9 + 16 * pick ra 4 + 256 * pick rb 4), .int .i64 C] 3)).grownBy w2 (Value.slice ao xs.length cp).ownBlock →
              OwnsI w2 w.heap.size v' (xs ++ [1 + pick rk 9 + 16 * pick ra 4 + 256 * pick rb 4, C]) ∧ Below w.heap.size w w2 ∧ w.heap.size ≤ w2.heap.size) := fun v' w2 g1 g2 =>
            ownsI_next (new := [1 + pick rk 9 + 16 * pick ra 4 + 256 * pick rb 4, C]) (ownsI_alloc hown.out _) g1 g2 (hbel.alloc hsz _) (by simp; omega)
          have hownA := ownsI_alloc (ownsI_alloc hown.out (.cells #[.int .i64 rk, .int .i64 ra, .int .i64 rb, .int .i64 rc] 36)) (.cells #[.int .i64 (1 + pick rk 9 + 16 * pick ra 4 + 256 * pick rb 4), .int .i64 C] 3)
          have hcells := two_cells (wr.alloc (.cells #[.int .i64 rk, .int .i64 ra, .int .i64 rb, .int .i64 rc] 36)) (1 + pick rk 9 + 16 * pick ra 4 + 256 * pick rb 4) C
          have hcells' : Hid (∀ j u, (icells [1 + pick rk 9 + 16 * pick ra 4 + 256 * pick rb 4, C])[j]? = some u → ((wr.alloc (.cells #[.int .i64 rk, .int .i64 ra, .int .i64 rb, .int .i64 rc] 36)).alloc (.cells #[.int .i64 (1 + pick rk 9 + 16 * pick ra 4 + 256 * pick rb 4), .int .i64 C] 3)).cell? ((⟨wr.heap.size + 1, 0, none⟩ : Addr).add j) = some u) := show ∀ j u, (icells [1 + pick rk 9 + 16 * pick ra 4 + 256 * pick rb 4, C])[j]? = some u → ((wr.alloc (.cells #[.int .i64 rk, .int .i64 ra, .int .i64 rb, .int .i64 rc] 36)).alloc (.cells #[.int .i64 (1 + pick rk 9 + 16 * pick ra 4 + 256 * pick rb 4), .int .i64 C] 3)).cell? ((⟨wr.heap.size + 1, 0, none⟩ : Addr).add j) = some u by simpa using hcells
          have hownH : Hid _ := hownA
          have hfar : Hid (some wr.heap.size ≠ (Value.slice ao xs.length cp).ownBlock) := fun e => by have := (hown.out.lt _ e.symm).2; omega
          have SH : Hid (w.heap.size ≤ ((wr.alloc (.cells #[.int .i64 rk, .int .i64 ra, .int .i64 rb, .int .i64 rc] 36)).alloc (.cells #[.int .i64 (1 + pick rk 9 + 16 * pick ra 4 + 256 * pick rb 4), .int .i64 C] 3)).heap.size) := show w.heap.size ≤ ((wr.alloc (.cells #[.int .i64 rk, .int .i64 ra, .int .i64 rb, .int .i64 rc] 36)).alloc (.cells #[.int .i64 (1 + pick rk 9 + 16 * pick ra 4 + 256 * pick rb 4), .int .i64 C] 3)).heap.size by simp; omega
          have SM : Hid (xs.length + 2 ≤ maxLen) := show xs.length + 2 ≤ maxLen by unfold maxLen; omega
          have SB : Hid ((xs.length + 2) * 8 ≤ 140737488355328) := show (xs.length + 2) * 8 ≤ 140737488355328 by omega
          have S1 : Hid (0 < 1) := Nat.zero_lt_one
          have S2 : Hid (0 < 2) := Nat.zero_lt_two
          have HNS : Hid (Small16 (xs ++ [1 + pick rk 9 + 16 * pick ra 4 + 256 * pick rb 4, C])) := small_append hsm.out (fun n hn => by
            simp at hn
            rcases hn with rfl | rfl <;> omega)
          have KC1 : Hid (((wr.alloc (.cells #[.int .i64 rk, .int .i64 ra, .int .i64 rb, .int .i64 rc] 36)).alloc (.cells #[.int .i64 (1 + pick rk 9 + 16 * pick ra 4 + 256 * pick rb 4), .int .i64 C] 3)).cell? ⟨wr.heap.size, 1, none⟩ = some (.int .i64 ra)) := show _ = _ by rw [World.cell?_alloc_past _ _ _ (by simp), World.cell?_alloc_at _ _ _ _ rfl]; rfl
          have KC2 : Hid (((wr.alloc (.cells #[.int .i64 rk, .int .i64 ra, .int .i64 rb, .int .i64 rc] 36)).alloc (.cells #[.int .i64 (1 + pick rk 9 + 16 * pick ra 4 + 256 * pick rb 4), .int .i64 C] 3)).cell? ⟨wr.heap.size, 2, none⟩ = some (.int .i64 rb)) := show _ = _ by rw [World.cell?_alloc_past _ _ _ (by simp), World.cell?_alloc_at _ _ _ _ rfl]; rfl
          have HLT : Hid (wr.heap.size < ((wr.alloc (.cells #[.int .i64 rk, .int .i64 ra, .int .i64 rb, .int .i64 rc] 36)).alloc (.cells #[.int .i64 (1 + pick rk 9 + 16 * pick ra 4 + 256 * pick rb 4), .int .i64 C] 3)).heap.size) := show wr.heap.size < ((wr.alloc (.cells #[.int .i64 rk, .int .i64 ra, .int .i64 rb, .int .i64 rc] 36)).alloc (.cells #[.int .i64 (1 + pick rk 9 + 16 * pick ra 4 + 256 * pick rb 4), .int .i64 C] 3)).heap.size by rw [World.size_alloc, World.size_alloc]; omega
          have HE : Hid ((xs ++ [1 + pick rk 9 + 16 * pick ra 4 + 256 * pick rb 4, C]).length = xs.length + 2) := show _ = _ by simp
          clear hownA hcells d0 d1 d2 d3
          go_region_held3 (fun w' => w'.cell? ⟨wr.heap.size, 1, none⟩ = some (.int .i64 ra) ∧ w'.cell? ⟨wr.heap.size, 2, none⟩ = some (.int .i64 rb)) (first | exact ⟨k1, k2⟩ | go_keep)
            (first
              | (go_at_call 23; refine (picked_any _ _ _ (by assumption) (by omega) (by omega)).mono ?_; rintro e w' ⟨rfl, rfl⟩)
              | (go_at_call 64; refine (instr_any _ _ _ _ _ ⟨by omega, by omega⟩ ⟨by omega, by omega⟩ ⟨by omega, by omega⟩).mono ?_; rintro e w' ⟨rfl, rfl⟩)
              | (refine step_append_lies _ (by rfl) (.tmp 69) (.tmp 78) 28 (by rfl) w.heap.size 3 i0 _ 1 8 Tryd.underlying28 hi hz0 hz1 hz2 rfl S1.out (.slice ao xs.length cp) xs.length (icells xs) (by first | rfl | simp [Act.eval] | simp [Act.eval, Act.put]) hownH.out ⟨wr.heap.size + 1, 0, none⟩ 2 2 (icells [1 + pick rk 9 + 16 * pick ra 4 + 256 * pick rb 4, C]) (by first | rfl | simp [Act.eval] | simp [Act.eval, Act.put]) rfl hcells'.out (icells_one _) S2.out SM.out SB.out SH.out _ rfl ?_; intro g cp2 w5 g1 g2 q1 q2; have R5 := HA.out _ _ g1 (grown_drew g2); have k1 : w5.cell? ⟨wr.heap.size, 1, none⟩ = some (.int .i64 ra) := (g2.cell_far ⟨wr.heap.size, 1, none⟩ HLT.out hfar.out).trans KC1.out; have k2 : w5.cell? ⟨wr.heap.size, 2, none⟩ = some (.int .i64 rb) := (g2.cell_far ⟨wr.heap.size, 2, none⟩ HLT.out hfar.out).trans KC2.out)
              | fail)
          all_goals
            clear HA hownH hcells' hfar SH SM SB S1 S2 KC1 KC2 HLT k1 k2 g1 g2 q1 q2 w0 w1 w2 w3 hC1 hC2 p9a p9b p70a p70b p8a p8b p40a p40b p16a p16b pa4a pa4b pb4a pb4b t7
            go_wp2
            go_roundw
            case rel => exact ⟨k + 1, some ⟨g, 0, none⟩, cp2, xs ++ [1 + pick rk 9 + 16 * pick ra 4 + 256 * pick rb 4, C], by omega, by go_num, by rw [HE.out], by rw [HE.out]; omega, (show _ % 2 = 0 by rw [HE.out]; have := hev.out; omega), (show OwnsI _ _ _ _ by rw [HE.out]; exact R5.1), HNS, R5.2.1, R5.2.2⟩
            case measure => simp [intOf]; omega
        · have t7 : (1 + pick rk 9 == 7) = false := by simpa using h7
          clear h7
          by_cases h1 : 1 + pick rk 9 = 1
          · have t1 : (1 + pick rk 9 == 1) = true := by simpa using h1
            clear h1
            by_cases h0 : pick rb 3 = 0
            · have t0 : (pick rb 3 == 0) = true := by simpa using h0
              clear h0
              go_wp2_with (go_at_call 23; refine (picked_any _ _ _ (by assumption) (by omega) (by omega)).mono ?_; rintro e w' ⟨rfl, rfl⟩)
              generalize hC : 64 + pick rc 40 = C
              have hC1 : 0 ≤ C := by omega
              have hC2 : C ≤ 104 := by omega
              clear hC
              have HA : Hid (∀ v' w2, w2.ownsRow w.heap.size 3 1 v' (xs.length + 2) (icells xs ++ icells [1 + pick rk 9 + 16 * pick ra 4 + 256 * pick rb 4, C]) → ((wr.alloc (.cells #[.int .i64 rk, .int .i64 ra, .int .i64 rb, .int .i64 rc] 36)).alloc (.cells #[.int .i64 (1 + pick rk 9 + 16 * pick ra 4 + 256 * pick rb 4), .int .i64 C] 3)).grownBy w2 (Value.slice ao xs.length cp).ownBlock →
                  OwnsI w2 w.heap.size v' (xs ++ [1 + pick rk 9 + 16 * pick ra 4 + 256 * pick rb 4, C]) ∧ Below w.heap.size w w2 ∧ w.heap.size ≤ w2.heap.size) := fun v' w2 g1 g2 =>
                ownsI_next (new := [1 + pick rk 9 + 16 * pick ra 4 + 256 * pick rb 4, C]) (ownsI_alloc hown.out _) g1 g2 (hbel.alloc hsz _) (by simp; omega)
              have hownA := ownsI_alloc (ownsI_alloc hown.out (.cells #[.int .i64 rk, .int .i64 ra, .int .i64 rb, .int .i64 rc] 36)) (.cells #[.int .i64 (1 + pick rk 9 + 16 * pick ra 4 + 256 * pick rb 4), .int .i64 C] 3)
              have hcells := two_cells (wr.alloc (.cells #[.int .i64 rk, .int .i64 ra, .int .i64 rb, .int .i64 rc] 36)) (1 + pick rk 9 + 16 * pick ra 4 + 256 * pick rb 4) C
              have hcells' : Hid (∀ j u, (icells [1 + pick rk 9 + 16 * pick ra 4 + 256 * pick rb 4, C])[j]? = some u → ((wr.alloc (.cells #[.int .i64 rk, .int .i64 ra, .int .i64 rb, .int .i64 rc] 36)).alloc (.cells #[.int .i64 (1 + pick rk 9 + 16 * pick ra 4 + 256 * pick rb 4), .int .i64 C] 3)).cell? ((⟨wr.heap.size + 1, 0, none⟩ : Addr).add j) = some u) := show ∀ j u, (icells [1 + pick rk 9 + 16 * pick ra 4 + 256 * pick rb 4, C])[j]? = some u → ((wr.alloc (.cells #[.int .i64 rk, .int .i64 ra, .int .i64 rb, .int .i64 rc] 36)).alloc (.cells #[.int .i64 (1 + pick rk 9 + 16 * pick ra 4 + 256 * pick rb 4), .int .i64 C] 3)).cell? ((⟨wr.heap.size + 1, 0, none⟩ : Addr).add j) = some u by simpa using hcells
              have hownH : Hid _ := hownA
              have hfar : Hid (some wr.heap.size ≠ (Value.slice ao xs.length cp).ownBlock) := fun e => by have := (hown.out.lt _ e.symm).2; omega
              have SH : Hid (w.heap.size ≤ ((wr.alloc (.cells #[.int .i64 rk, .int .i64 ra, .int .i64 rb, .int .i64 rc] 36)).alloc (.cells #[.int .i64 (1 + pick rk 9 + 16 * pick ra 4 + 256 * pick rb 4), .int .i64 C] 3)).heap.size) := show w.heap.size ≤ ((wr.alloc (.cells #[.int .i64 rk, .int .i64 ra, .int .i64 rb, .int .i64 rc] 36)).alloc (.cells #[.int .i64 (1 + pick rk 9 + 16 * pick ra 4 + 256 * pick rb 4), .int .i64 C] 3)).heap.size by simp; omega
              have SM : Hid (xs.length + 2 ≤ maxLen) := show xs.length + 2 ≤ maxLen by unfold maxLen; omega
              have SB : Hid ((xs.length + 2) * 8 ≤ 140737488355328) := show (xs.length + 2) * 8 ≤ 140737488355328 by omega
              have S1 : Hid (0 < 1) := Nat.zero_lt_one
              have S2 : Hid (0 < 2) := Nat.zero_lt_two
              have HNS : Hid (Small16 (xs ++ [1 + pick rk 9 + 16 * pick ra 4 + 256 * pick rb 4, C])) := small_append hsm.out (fun n hn => by
                simp at hn
                rcases hn with rfl | rfl <;> omega)
              have KC1 : Hid (((wr.alloc (.cells #[.int .i64 rk, .int .i64 ra, .int .i64 rb, .int .i64 rc] 36)).alloc (.cells #[.int .i64 (1 + pick rk 9 + 16 * pick ra 4 + 256 * pick rb 4), .int .i64 C] 3)).cell? ⟨wr.heap.size, 1, none⟩ = some (.int .i64 ra)) := show _ = _ by rw [World.cell?_alloc_past _ _ _ (by simp), World.cell?_alloc_at _ _ _ _ rfl]; rfl
              have KC2 : Hid (((wr.alloc (.cells #[.int .i64 rk, .int .i64 ra, .int .i64 rb, .int .i64 rc] 36)).alloc (.cells #[.int .i64 (1 + pick rk 9 + 16 * pick ra 4 + 256 * pick rb 4), .int .i64 C] 3)).cell? ⟨wr.heap.size, 2, none⟩ = some (.int .i64 rb)) := show _ = _ by rw [World.cell?_alloc_past _ _ _ (by simp), World.cell?_alloc_at _ _ _ _ rfl]; rfl
              have HLT : Hid (wr.heap.size < ((wr.alloc (.cells #[.int .i64 rk, .int .i64 ra, .int .i64 rb, .int .i64 rc] 36)).alloc (.cells #[.int .i64 (1 + pick rk 9 + 16 * pick ra 4 + 256 * pick rb 4), .int .i64 C] 3)).heap.size) := show wr.heap.size < ((wr.alloc (.cells #[.int .i64 rk, .int .i64 ra, .int .i64 rb, .int .i64 rc] 36)).alloc (.cells #[.int .i64 (1 + pick rk 9 + 16 * pick ra 4 + 256 * pick rb 4), .int .i64 C] 3)).heap.size by rw [World.size_alloc, World.size_alloc]; omega
              have HE : Hid ((xs ++ [1 + pick rk 9 + 16 * pick ra 4 + 256 * pick rb 4, C]).length = xs.length + 2) := show _ = _ by simp
              clear hownA hcells d0 d1 d2 d3
              go_region_held3 (fun w' => w'.cell? ⟨wr.heap.size, 1, none⟩ = some (.int .i64 ra) ∧ w'.cell? ⟨wr.heap.size, 2, none⟩ = some (.int .i64 rb)) (first | exact ⟨k1, k2⟩ | go_keep)
                (first
                  | (go_at_call 23; refine (picked_any _ _ _ (by assumption) (by omega) (by omega)).mono ?_; rintro e w' ⟨rfl, rfl⟩)
                  | (go_at_call 64; refine (instr_any _ _ _ _ _ ⟨by omega, by omega⟩ ⟨by omega, by omega⟩ ⟨by omega, by omega⟩).mono ?_; rintro e w' ⟨rfl, rfl⟩)
                  | (refine step_append_lies _ (by rfl) (.tmp 69) (.tmp 78) 28 (by rfl) w.heap.size 3 i0 _ 1 8 Tryd.underlying28 hi hz0 hz1 hz2 rfl S1.out (.slice ao xs.length cp) xs.length (icells xs) (by first | rfl | simp [Act.eval] | simp [Act.eval, Act.put]) hownH.out ⟨wr.heap.size + 1, 0, none⟩ 2 2 (icells [1 + pick rk 9 + 16 * pick ra 4 + 256 * pick rb 4, C]) (by first | rfl | simp [Act.eval] | simp [Act.eval, Act.put]) rfl hcells'.out (icells_one _) S2.out SM.out SB.out SH.out _ rfl ?_; intro g cp2 w5 g1 g2 q1 q2; have R5 := HA.out _ _ g1 (grown_drew g2); have k1 : w5.cell? ⟨wr.heap.size, 1, none⟩ = some (.int .i64 ra) := (g2.cell_far ⟨wr.heap.size, 1, none⟩ HLT.out hfar.out).trans KC1.out; have k2 : w5.cell? ⟨wr.heap.size, 2, none⟩ = some (.int .i64 rb) := (g2.cell_far ⟨wr.heap.size, 2, none⟩ HLT.out hfar.out).trans KC2.out)
                  | fail)
              all_goals
                clear HA hownH hcells' hfar SH SM SB S1 S2 KC1 KC2 HLT k1 k2 g1 g2 q1 q2 w0 w1 w2 w3 hC1 hC2 p9a p9b p70a p70b p8a p8b p40a p40b p16a p16b pa4a pa4b pb4a pb4b t7
                go_wp2
                go_roundw
                case rel => exact ⟨k + 1, some ⟨g, 0, none⟩, cp2, xs ++ [1 + pick rk 9 + 16 * pick ra 4 + 256 * pick rb 4, C], by omega, by go_num, by rw [HE.out], by rw [HE.out]; omega, (show _ % 2 = 0 by rw [HE.out]; have := hev.out; omega), (show OwnsI _ _ _ _ by rw [HE.out]; exact R5.1), HNS, R5.2.1, R5.2.2⟩
                case measure => simp [intOf]; omega
            · have t0 : (pick rb 3 == 0) = false := by simpa using h0
              clear h0
              by_cases h2 : pick rb 3 = 1
              · have t2 : (pick rb 3 == 1) = true := by simpa using h2
                clear h2
                go_wp2_with (go_at_call 23; refine (picked_any _ _ _ (by assumption) (by omega) (by omega)).mono ?_; rintro e w' ⟨rfl, rfl⟩)
                generalize hC : 16 + pick rc 16 = C
                have hC1 : 0 ≤ C := by omega
                have hC2 : C ≤ 104 := by omega
                clear hC
                have HA : Hid (∀ v' w2, w2.ownsRow w.heap.size 3 1 v' (xs.length + 2) (icells xs ++ icells [1 + pick rk 9 + 16 * pick ra 4 + 256 * pick rb 4, C]) → ((wr.alloc (.cells #[.int .i64 rk, .int .i64 ra, .int .i64 rb, .int .i64 rc] 36)).alloc (.cells #[.int .i64 (1 + pick rk 9 + 16 * pick ra 4 + 256 * pick rb 4), .int .i64 C] 3)).grownBy w2 (Value.slice ao xs.length cp).ownBlock →
                    OwnsI w2 w.heap.size v' (xs ++ [1 + pick rk 9 + 16 * pick ra 4 + 256 * pick rb 4, C]) ∧ Below w.heap.size w w2 ∧ w.heap.size ≤ w2.heap.size) := fun v' w2 g1 g2 =>
                  ownsI_next (new := [1 + pick rk 9 + 16 * pick ra 4 + 256 * pick rb 4, C]) (ownsI_alloc hown.out _) g1 g2 (hbel.alloc hsz _) (by simp; omega)
                have hownA := ownsI_alloc (ownsI_alloc hown.out (.cells #[.int .i64 rk, .int .i64 ra, .int .i64 rb, .int .i64 rc] 36)) (.cells #[.int .i64 (1 + pick rk 9 + 16 * pick ra 4 + 256 * pick rb 4), .int .i64 C] 3)
                have hcells := two_cells (wr.alloc (.cells #[.int .i64 rk, .int .i64 ra, .int .i64 rb, .int .i64 rc] 36)) (1 + pick rk 9 + 16 * pick ra 4 + 256 * pick rb 4) C
                have hcells' : Hid (∀ j u, (icells [1 + pick rk 9 + 16 * pick ra 4 + 256 * pick rb 4, C])[j]? = some u → ((wr.alloc (.cells #[.int .i64 rk, .int .i64 ra, .int .i64 rb, .int .i64 rc] 36)).alloc (.cells #[.int .i64 (1 + pick rk 9 + 16 * pick ra 4 + 256 * pick rb 4), .int .i64 C] 3)).cell? ((⟨wr.heap.size + 1, 0, none⟩ : Addr).add j) = some u) := show ∀ j u, (icells [1 + pick rk 9 + 16 * pick ra 4 + 256 * pick rb 4, C])[j]? = some u → ((wr.alloc (.cells #[.int .i64 rk, .int .i64 ra, .int .i64 rb, .int .i64 rc] 36)).alloc (.cells #[.int .i64 (1 + pick rk 9 + 16 * pick ra 4 + 256 * pick rb 4), .int .i64 C] 3)).cell? ((⟨wr.heap.size + 1, 0, none⟩ : Addr).add j) = some u by simpa using hcells
                have hownH : Hid _ := hownA
                have hfar : Hid (some wr.heap.size ≠ (Value.slice ao xs.length cp).ownBlock) := fun e => by have := (hown.out.lt _ e.symm).2; omega
                have SH : Hid (w.heap.size ≤ ((wr.alloc (.cells #[.int .i64 rk, .int .i64 ra, .int .i64 rb, .int .i64 rc] 36)).alloc (.cells #[.int .i64 (1 + pick rk 9 + 16 * pick ra 4 + 256 * pick rb 4), .int .i64 C] 3)).heap.size) := show w.heap.size ≤ ((wr.alloc (.cells #[.int .i64 rk, .int .i64 ra, .int .i64 rb, .int .i64 rc] 36)).alloc (.cells #[.int .i64 (1 + pick rk 9 + 16 * pick ra 4 + 256 * pick rb 4), .int .i64 C] 3)).heap.size by simp; omega
                have SM : Hid (xs.length + 2 ≤ maxLen) := show xs.length + 2 ≤ maxLen by unfold maxLen; omega
                have SB : Hid ((xs.length + 2) * 8 ≤ 140737488355328) := show (xs.length + 2) * 8 ≤ 140737488355328 by omega
                have S1 : Hid (0 < 1) := Nat.zero_lt_one
                have S2 : Hid (0 < 2) := Nat.zero_lt_two
                have HNS : Hid (Small16 (xs ++ [1 + pick rk 9 + 16 * pick ra 4 + 256 * pick rb 4, C])) := small_append hsm.out (fun n hn => by
                  simp at hn
                  rcases hn with rfl | rfl <;> omega)
                have KC1 : Hid (((wr.alloc (.cells #[.int .i64 rk, .int .i64 ra, .int .i64 rb, .int .i64 rc] 36)).alloc (.cells #[.int .i64 (1 + pick rk 9 + 16 * pick ra 4 + 256 * pick rb 4), .int .i64 C] 3)).cell? ⟨wr.heap.size, 1, none⟩ = some (.int .i64 ra)) := show _ = _ by rw [World.cell?_alloc_past _ _ _ (by simp), World.cell?_alloc_at _ _ _ _ rfl]; rfl
                have KC2 : Hid (((wr.alloc (.cells #[.int .i64 rk, .int .i64 ra, .int .i64 rb, .int .i64 rc] 36)).alloc (.cells #[.int .i64 (1 + pick rk 9 + 16 * pick ra 4 + 256 * pick rb 4), .int .i64 C] 3)).cell? ⟨wr.heap.size, 2, none⟩ = some (.int .i64 rb)) := show _ = _ by rw [World.cell?_alloc_past _ _ _ (by simp), World.cell?_alloc_at _ _ _ _ rfl]; rfl
                have HLT : Hid (wr.heap.size < ((wr.alloc (.cells #[.int .i64 rk, .int .i64 ra, .int .i64 rb, .int .i64 rc] 36)).alloc (.cells #[.int .i64 (1 + pick rk 9 + 16 * pick ra 4 + 256 * pick rb 4), .int .i64 C] 3)).heap.size) := show wr.heap.size < ((wr.alloc (.cells #[.int .i64 rk, .int .i64 ra, .int .i64 rb, .int .i64 rc] 36)).alloc (.cells #[.int .i64 (1 + pick rk 9 + 16 * pick ra 4 + 256 * pick rb 4), .int .i64 C] 3)).heap.size by rw [World.size_alloc, World.size_alloc]; omega
                have HE : Hid ((xs ++ [1 + pick rk 9 + 16 * pick ra 4 + 256 * pick rb 4, C]).length = xs.length + 2) := show _ = _ by simp
                clear hownA hcells d0 d1 d2 d3
                go_region_held3 (fun w' => w'.cell? ⟨wr.heap.size, 1, none⟩ = some (.int .i64 ra) ∧ w'.cell? ⟨wr.heap.size, 2, none⟩ = some (.int .i64 rb)) (first | exact ⟨k1, k2⟩ | go_keep)
                  (first
                    | (go_at_call 23; refine (picked_any _ _ _ (by assumption) (by omega) (by omega)).mono ?_; rintro e w' ⟨rfl, rfl⟩)
                    | (go_at_call 64; refine (instr_any _ _ _ _ _ ⟨by omega, by omega⟩ ⟨by omega, by omega⟩ ⟨by omega, by omega⟩).mono ?_; rintro e w' ⟨rfl, rfl⟩)
                    | (refine step_append_lies _ (by rfl) (.tmp 69) (.tmp 78) 28 (by rfl) w.heap.size 3 i0 _ 1 8 Tryd.underlying28 hi hz0 hz1 hz2 rfl S1.out (.slice ao xs.length cp) xs.length (icells xs) (by first | rfl | simp [Act.eval] | simp [Act.eval, Act.put]) hownH.out ⟨wr.heap.size + 1, 0, none⟩ 2 2 (icells [1 + pick rk 9 + 16 * pick ra 4 + 256 * pick rb 4, C]) (by first | rfl | simp [Act.eval] | simp [Act.eval, Act.put]) rfl hcells'.out (icells_one _) S2.out SM.out SB.out SH.out _ rfl ?_; intro g cp2 w5 g1 g2 q1 q2; have R5 := HA.out _ _ g1 (grown_drew g2); have k1 : w5.cell? ⟨wr.heap.size, 1, none⟩ = some (.int .i64 ra) := (g2.cell_far ⟨wr.heap.size, 1, none⟩ HLT.out hfar.out).trans KC1.out; have k2 : w5.cell? ⟨wr.heap.size, 2, none⟩ = some (.int .i64 rb) := (g2.cell_far ⟨wr.heap.size, 2, none⟩ HLT.out hfar.out).trans KC2.out)
                    | fail)
                all_goals
                  clear HA hownH hcells' hfar SH SM SB S1 S2 KC1 KC2 HLT k1 k2 g1 g2 q1 q2 w0 w1 w2 w3 hC1 hC2 p9a p9b p70a p70b p8a p8b p40a p40b p16a p16b pa4a pa4b pb4a pb4b t7
                  go_wp2
                  go_roundw
                  case rel => exact ⟨k + 1, some ⟨g, 0, none⟩, cp2, xs ++ [1 + pick rk 9 + 16 * pick ra 4 + 256 * pick rb 4, C], by omega, by go_num, by rw [HE.out], by rw [HE.out]; omega, (show _ % 2 = 0 by rw [HE.out]; have := hev.out; omega), (show OwnsI _ _ _ _ by rw [HE.out]; exact R5.1), HNS, R5.2.1, R5.2.2⟩
                  case measure => simp [intOf]; omega
              · have t2 : (pick rb 3 == 1) = false := by simpa using h2
                clear h2
                go_wp2_with (go_at_call 23; refine (picked_any _ _ _ (by assumption) (by omega) (by omega)).mono ?_; rintro e w' ⟨rfl, rfl⟩)
                generalize hC : pick rc 70 = C
                have hC1 : 0 ≤ C := by omega
                have hC2 : C ≤ 104 := by omega
                clear hC
                have HA : Hid (∀ v' w2, w2.ownsRow w.heap.size 3 1 v' (xs.length + 2) (icells xs ++ icells [1 + pick rk 9 + 16 * pick ra 4 + 256 * pick rb 4, C]) → ((wr.alloc (.cells #[.int .i64 rk, .int .i64 ra, .int .i64 rb, .int .i64 rc] 36)).alloc (.cells #[.int .i64 (1 + pick rk 9 + 16 * pick ra 4 + 256 * pick rb 4), .int .i64 C] 3)).grownBy w2 (Value.slice ao xs.length cp).ownBlock →
                    OwnsI w2 w.heap.size v' (xs ++ [1 + pick rk 9 + 16 * pick ra 4 + 256 * pick rb 4, C]) ∧ Below w.heap.size w w2 ∧ w.heap.size ≤ w2.heap.size) := fun v' w2 g1 g2 =>
                  ownsI_next (new := [1 + pick rk 9 + 16 * pick ra 4 + 256 * pick rb 4, C]) (ownsI_alloc hown.out _) g1 g2 (hbel.alloc hsz _) (by simp; omega)
                have hownA := ownsI_alloc (ownsI_alloc hown.out (.cells #[.int .i64 rk, .int .i64 ra, .int .i64 rb, .int .i64 rc] 36)) (.cells #[.int .i64 (1 + pick rk 9 + 16 * pick ra 4 + 256 * pick rb 4), .int .i64 C] 3)
                have hcells := two_cells (wr.alloc (.cells #[.int .i64 rk, .int .i64 ra, .int .i64 rb, .int .i64 rc] 36)) (1 + pick rk 9 + 16 * pick ra 4 + 256 * pick rb 4) C
                have hcells' : Hid (∀ j u, (icells [1 + pick rk 9 + 16 * pick ra 4 + 256 * pick rb 4, C])[j]? = some u → ((wr.alloc (.cells #[.int .i64 rk, .int .i64 ra, .int .i64 rb, .int .i64 rc] 36)).alloc (.cells #[.int .i64 (1 + pick rk 9 + 16 * pick ra 4 + 256 * pick rb 4), .int .i64 C] 3)).cell? ((⟨wr.heap.size + 1, 0, none⟩ : Addr).add j) = some u) := show ∀ j u, (icells [1 + pick rk 9 + 16 * pick ra 4 + 256 * pick rb 4, C])[j]? = some u → ((wr.alloc (.cells #[.int .i64 rk, .int .i64 ra, .int .i64 rb, .int .i64 rc] 36)).alloc (.cells #[.int .i64 (1 + pick rk 9 + 16 * pick ra 4 + 256 * pick rb 4), .int .i64 C] 3)).cell? ((⟨wr.heap.size + 1, 0, none⟩ : Addr).add j) = some u by simpa using hcells
                have hownH : Hid _ := hownA
                have hfar : Hid (some wr.heap.size ≠ (Value.slice ao xs.length cp).ownBlock) := fun e => by have := (hown.out.lt _ e.symm).2; omega
                have SH : Hid (w.heap.size ≤ ((wr.alloc (.cells #[.int .i64 rk, .int .i64 ra, .int .i64 rb, .int .i64 rc] 36)).alloc (.cells #[.int .i64 (1 + pick rk 9 + 16 * pick ra 4 + 256 * pick rb 4), .int .i64 C] 3)).heap.size) := show w.heap.size ≤ ((wr.alloc (.cells #[.int .i64 rk, .int .i64 ra, .int .i64 rb, .int .i64 rc] 36)).alloc (.cells #[.int .i64 (1 + pick rk 9 + 16 * pick ra 4 + 256 * pick rb 4), .int .i64 C] 3)).heap.size by simp; omega
                have SM : Hid (xs.length + 2 ≤ maxLen) := show xs.length + 2 ≤ maxLen by unfold maxLen; omega
                have SB : Hid ((xs.length + 2) * 8 ≤ 140737488355328) := show (xs.length + 2) * 8 ≤ 140737488355328 by omega
                have S1 : Hid (0 < 1) := Nat.zero_lt_one
                have S2 : Hid (0 < 2) := Nat.zero_lt_two
                have HNS : Hid (Small16 (xs ++ [1 + pick rk 9 + 16 * pick ra 4 + 256 * pick rb 4, C])) := small_append hsm.out (fun n hn => by
                  simp at hn
                  rcases hn with rfl | rfl <;> omega)
                have KC1 : Hid (((wr.alloc (.cells #[.int .i64 rk, .int .i64 ra, .int .i64 rb, .int .i64 rc] 36)).alloc (.cells #[.int .i64 (1 + pick rk 9 + 16 * pick ra 4 + 256 * pick rb 4), .int .i64 C] 3)).cell? ⟨wr.heap.size, 1, none⟩ = some (.int .i64 ra)) := show _ = _ by rw [World.cell?_alloc_past _ _ _ (by simp), World.cell?_alloc_at _ _ _ _ rfl]; rfl
                have KC2 : Hid (((wr.alloc (.cells #[.int .i64 rk, .int .i64 ra, .int .i64 rb, .int .i64 rc] 36)).alloc (.cells #[.int .i64 (1 + pick rk 9 + 16 * pick ra 4 + 256 * pick rb 4), .int .i64 C] 3)).cell? ⟨wr.heap.size, 2, none⟩ = some (.int .i64 rb)) := show _ = _ by rw [World.cell?_alloc_past _ _ _ (by simp), World.cell?_alloc_at _ _ _ _ rfl]; rfl
                have HLT : Hid (wr.heap.size < ((wr.alloc (.cells #[.int .i64 rk, .int .i64 ra, .int .i64 rb, .int .i64 rc] 36)).alloc (.cells #[.int .i64 (1 + pick rk 9 + 16 * pick ra 4 + 256 * pick rb 4), .int .i64 C] 3)).heap.size) := show wr.heap.size < ((wr.alloc (.cells #[.int .i64 rk, .int .i64 ra, .int .i64 rb, .int .i64 rc] 36)).alloc (.cells #[.int .i64 (1 + pick rk 9 + 16 * pick ra 4 + 256 * pick rb 4), .int .i64 C] 3)).heap.size by rw [World.size_alloc, World.size_alloc]; omega
                have HE : Hid ((xs ++ [1 + pick rk 9 + 16 * pick ra 4 + 256 * pick rb 4, C]).length = xs.length + 2) := show _ = _ by simp
                clear hownA hcells d0 d1 d2 d3
                go_region_held3 (fun w' => w'.cell? ⟨wr.heap.size, 1, none⟩ = some (.int .i64 ra) ∧ w'.cell? ⟨wr.heap.size, 2, none⟩ = some (.int .i64 rb)) (first | exact ⟨k1, k2⟩ | go_keep)
                  (first
                    | (go_at_call 23; refine (picked_any _ _ _ (by assumption) (by omega) (by omega)).mono ?_; rintro e w' ⟨rfl, rfl⟩)
                    | (go_at_call 64; refine (instr_any _ _ _ _ _ ⟨by omega, by omega⟩ ⟨by omega, by omega⟩ ⟨by omega, by omega⟩).mono ?_; rintro e w' ⟨rfl, rfl⟩)
                    | (refine step_append_lies _ (by rfl) (.tmp 69) (.tmp 78) 28 (by rfl) w.heap.size 3 i0 _ 1 8 Tryd.underlying28 hi hz0 hz1 hz2 rfl S1.out (.slice ao xs.length cp) xs.length (icells xs) (by first | rfl | simp [Act.eval] | simp [Act.eval, Act.put]) hownH.out ⟨wr.heap.size + 1, 0, none⟩ 2 2 (icells [1 + pick rk 9 + 16 * pick ra 4 + 256 * pick rb 4, C]) (by first | rfl | simp [Act.eval] | simp [Act.eval, Act.put]) rfl hcells'.out (icells_one _) S2.out SM.out SB.out SH.out _ rfl ?_; intro g cp2 w5 g1 g2 q1 q2; have R5 := HA.out _ _ g1 (grown_drew g2); have k1 : w5.cell? ⟨wr.heap.size, 1, none⟩ = some (.int .i64 ra) := (g2.cell_far ⟨wr.heap.size, 1, none⟩ HLT.out hfar.out).trans KC1.out; have k2 : w5.cell? ⟨wr.heap.size, 2, none⟩ = some (.int .i64 rb) := (g2.cell_far ⟨wr.heap.size, 2, none⟩ HLT.out hfar.out).trans KC2.out)
                    | fail)
                all_goals
                  clear HA hownH hcells' hfar SH SM SB S1 S2 KC1 KC2 HLT k1 k2 g1 g2 q1 q2 w0 w1 w2 w3 hC1 hC2 p9a p9b p70a p70b p8a p8b p40a p40b p16a p16b pa4a pa4b pb4a pb4b t7
                  go_wp2
                  go_roundw
                  case rel => exact ⟨k + 1, some ⟨g, 0, none⟩, cp2, xs ++ [1 + pick rk 9 + 16 * pick ra 4 + 256 * pick rb 4, C], by omega, by go_num, by rw [HE.out], by rw [HE.out]; omega, (show _ % 2 = 0 by rw [HE.out]; have := hev.out; omega), (show OwnsI _ _ _ _ by rw [HE.out]; exact R5.1), HNS, R5.2.1, R5.2.2⟩
                  case measure => simp [intOf]; omega
          · have t1 : (1 + pick rk 9 == 1) = false := by simpa using h1
            clear h1
            go_wp2_with (go_at_call 23; refine (picked_any _ _ _ (by assumption) (by omega) (by omega)).mono ?_; rintro e w' ⟨rfl, rfl⟩)
            generalize hC : pick rc 70 = C
            have hC1 : 0 ≤ C := by omega
            have hC2 : C ≤ 104 := by omega
            clear hC
            have HA : Hid (∀ v' w2, w2.ownsRow w.heap.size 3 1 v' (xs.length + 2) (icells xs ++ icells [1 + pick rk 9 + 16 * pick ra 4 + 256 * pick rb 4, C]) → ((wr.alloc (.cells #[.int .i64 rk, .int .i64 ra, .int .i64 rb, .int .i64 rc] 36)).alloc (.cells #[.int .i64 (1 + pick rk 9 + 16 * pick ra 4 + 256 * pick rb 4), .int .i64 C] 3)).grownBy w2 (Value.slice ao xs.length cp).ownBlock →
                OwnsI w2 w.heap.size v' (xs ++ [1 + pick rk 9 + 16 * pick ra 4 + 256 * pick rb 4, C]) ∧ Below w.heap.size w w2 ∧ w.heap.size ≤ w2.heap.size) := fun v' w2 g1 g2 =>
              ownsI_next (new := [1 + pick rk 9 + 16 * pick ra 4 + 256 * pick rb 4, C]) (ownsI_alloc hown.out _) g1 g2 (hbel.alloc hsz _) (by simp; omega)
            have hownA := ownsI_alloc (ownsI_alloc hown.out (.cells #[.int .i64 rk, .int .i64 ra, .int .i64 rb, .int .i64 rc] 36)) (.cells #[.int .i64 (1 + pick rk 9 + 16 * pick ra 4 + 256 * pick rb 4), .int .i64 C] 3)
            have hcells := two_cells (wr.alloc (.cells #[.int .i64 rk, .int .i64 ra, .int .i64 rb, .int .i64 rc] 36)) (1 + pick rk 9 + 16 * pick ra 4 + 256 * pick rb 4) C
            have hcells' : Hid (∀ j u, (icells [1 + pick rk 9 + 16 * pick ra 4 + 256 * pick rb 4, C])[j]? = some u → ((wr.alloc (.cells #[.int .i64 rk, .int .i64 ra, .int .i64 rb, .int .i64 rc] 36)).alloc (.cells #[.int .i64 (1 + pick rk 9 + 16 * pick ra 4 + 256 * pick rb 4), .int .i64 C] 3)).cell? ((⟨wr.heap.size + 1, 0, none⟩ : Addr).add j) = some u) := show ∀ j u, (icells [1 + pick rk 9 + 16 * pick ra 4 + 256 * pick rb 4, C])[j]? = some u → ((wr.alloc (.cells #[.int .i64 rk, .int .i64 ra, .int .i64 rb, .int .i64 rc] 36)).alloc (.cells #[.int .i64 (1 + pick rk 9 + 16 * pick ra 4 + 256 * pick rb 4), .int .i64 C] 3)).cell? ((⟨wr.heap.size + 1, 0, none⟩ : Addr).add j) = some u by simpa using hcells
            have hownH : Hid _ := hownA
            have hfar : Hid (some wr.heap.size ≠ (Value.slice ao xs.length cp).ownBlock) := fun e => by have := (hown.out.lt _ e.symm).2; omega
            have SH : Hid (w.heap.size ≤ ((wr.alloc (.cells #[.int .i64 rk, .int .i64 ra, .int .i64 rb, .int .i64 rc] 36)).alloc (.cells #[.int .i64 (1 + pick rk 9 + 16 * pick ra 4 + 256 * pick rb 4), .int .i64 C] 3)).heap.size) := show w.heap.size ≤ ((wr.alloc (.cells #[.int .i64 rk, .int .i64 ra, .int .i64 rb, .int .i64 rc] 36)).alloc (.cells #[.int .i64 (1 + pick rk 9 + 16 * pick ra 4 + 256 * pick rb 4), .int .i64 C] 3)).heap.size by simp; omega
            have SM : Hid (xs.length + 2 ≤ maxLen) := show xs.length + 2 ≤ maxLen by unfold maxLen; omega
            have SB : Hid ((xs.length + 2) * 8 ≤ 140737488355328) := show (xs.length + 2) * 8 ≤ 140737488355328 by omega
            have S1 : Hid (0 < 1) := Nat.zero_lt_one
            have S2 : Hid (0 < 2) := Nat.zero_lt_two
            have HNS : Hid (Small16 (xs ++ [1 + pick rk 9 + 16 * pick ra 4 + 256 * pick rb 4, C])) := small_append hsm.out (fun n hn => by
              simp at hn
              rcases hn with rfl | rfl <;> omega)
            have KC1 : Hid (((wr.alloc (.cells #[.int .i64 rk, .int .i64 ra, .int .i64 rb, .int .i64 rc] 36)).alloc (.cells #[.int .i64 (1 + pick rk 9 + 16 * pick ra 4 + 256 * pick rb 4), .int .i64 C] 3)).cell? ⟨wr.heap.size, 1, none⟩ = some (.int .i64 ra)) := show _ = _ by rw [World.cell?_alloc_past _ _ _ (by simp), World.cell?_alloc_at _ _ _ _ rfl]; rfl
            have KC2 : Hid (((wr.alloc (.cells #[.int .i64 rk, .int .i64 ra, .int .i64 rb, .int .i64 rc] 36)).alloc (.cells #[.int .i64 (1 + pick rk 9 + 16 * pick ra 4 + 256 * pick rb 4), .int .i64 C] 3)).cell? ⟨wr.heap.size, 2, none⟩ = some (.int .i64 rb)) := show _ = _ by rw [World.cell?_alloc_past _ _ _ (by simp), World.cell?_alloc_at _ _ _ _ rfl]; rfl
            have HLT : Hid (wr.heap.size < ((wr.alloc (.cells #[.int .i64 rk, .int .i64 ra, .int .i64 rb, .int .i64 rc] 36)).alloc (.cells #[.int .i64 (1 + pick rk 9 + 16 * pick ra 4 + 256 * pick rb 4), .int .i64 C] 3)).heap.size) := show wr.heap.size < ((wr.alloc (.cells #[.int .i64 rk, .int .i64 ra, .int .i64 rb, .int .i64 rc] 36)).alloc (.cells #[.int .i64 (1 + pick rk 9 + 16 * pick ra 4 + 256 * pick rb 4), .int .i64 C] 3)).heap.size by rw [World.size_alloc, World.size_alloc]; omega
            have HE : Hid ((xs ++ [1 + pick rk 9 + 16 * pick ra 4 + 256 * pick rb 4, C]).length = xs.length + 2) := show _ = _ by simp
            clear hownA hcells d0 d1 d2 d3
            go_region_held3 (fun w' => w'.cell? ⟨wr.heap.size, 1, none⟩ = some (.int .i64 ra) ∧ w'.cell? ⟨wr.heap.size, 2, none⟩ = some (.int .i64 rb)) (first | exact ⟨k1, k2⟩ | go_keep)
              (first
                | (go_at_call 23; refine (picked_any _ _ _ (by assumption) (by omega) (by omega)).mono ?_; rintro e w' ⟨rfl, rfl⟩)
                | (go_at_call 64; refine (instr_any _ _ _ _ _ ⟨by omega, by omega⟩ ⟨by omega, by omega⟩ ⟨by omega, by omega⟩).mono ?_; rintro e w' ⟨rfl, rfl⟩)
                | (refine step_append_lies _ (by rfl) (.tmp 69) (.tmp 78) 28 (by rfl) w.heap.size 3 i0 _ 1 8 Tryd.underlying28 hi hz0 hz1 hz2 rfl S1.out (.slice ao xs.length cp) xs.length (icells xs) (by first | rfl | simp [Act.eval] | simp [Act.eval, Act.put]) hownH.out ⟨wr.heap.size + 1, 0, none⟩ 2 2 (icells [1 + pick rk 9 + 16 * pick ra 4 + 256 * pick rb 4, C]) (by first | rfl | simp [Act.eval] | simp [Act.eval, Act.put]) rfl hcells'.out (icells_one _) S2.out SM.out SB.out SH.out _ rfl ?_; intro g cp2 w5 g1 g2 q1 q2; have R5 := HA.out _ _ g1 (grown_drew g2); have k1 : w5.cell? ⟨wr.heap.size, 1, none⟩ = some (.int .i64 ra) := (g2.cell_far ⟨wr.heap.size, 1, none⟩ HLT.out hfar.out).trans KC1.out; have k2 : w5.cell? ⟨wr.heap.size, 2, none⟩ = some (.int .i64 rb) := (g2.cell_far ⟨wr.heap.size, 2, none⟩ HLT.out hfar.out).trans KC2.out)
                | fail)
            all_goals
              clear HA hownH hcells' hfar SH SM SB S1 S2 KC1 KC2 HLT k1 k2 g1 g2 q1 q2 w0 w1 w2 w3 hC1 hC2 p9a p9b p70a p70b p8a p8b p40a p40b p16a p16b pa4a pa4b pb4a pb4b t7
              go_wp2
              go_roundw
              case rel => exact ⟨k + 1, some ⟨g, 0, none⟩, cp2, xs ++ [1 + pick rk 9 + 16 * pick ra 4 + 256 * pick rb 4, C], by omega, by go_num, by rw [HE.out], by rw [HE.out]; omega, (show _ % 2 = 0 by rw [HE.out]; have := hev.out; omega), (show OwnsI _ _ _ _ by rw [HE.out]; exact R5.1), HNS, R5.2.1, R5.2.2⟩
              case measure => simp [intOf]; omega
    · clear HX
      by_cases hlt : k < rs.length
      · have hkx : (k : Int) < (rs.length : Int) := by omega
        have hx4 : ¬ (xs.length : Int) + 4 ≤ 16 := by omega
        clear hgo
        go_wp2
        go_loopg [5] (16 - xs.length) (fun m v wr => ∃ (ao : Option Addr) (cp : Nat) (ys : List Int), v = .slice ao ys.length cp ∧ ys.length ≤ 16 ∧ m = 16 - ys.length ∧ Hid (ys.length % 2 = 0) ∧ Hid (OwnsI wr w.heap.size (.slice ao ys.length cp) ys) ∧ Hid (Small16 ys) ∧ Below w.heap.size w wr ∧ w.heap.size ≤ wr.heap.size)
        case atStart => exact ⟨ao, cp, xs, rfl, hxl, rfl, hev, hown, hsm, hbel, hsz⟩
        case round =>
          clear hxl hev hown hsm hbel hsz hx4 hkx hlt hk
          obtain ⟨ao, cp, ys, rfl, hyl, hm, hev, hown, hsm, hbel, hsz⟩ := hrel
          have HM : Hid (gk = 16 - ys.length) := hm
          clear hm
          by_cases hly : ys.length < 16
          · have hlyI : (ys.length : Int) < 16 := by omega
            have g := fun w => instr_any 8 0 0 0 w ⟨by omega, by omega⟩ ⟨by omega, by omega⟩ ⟨by omega, by omega⟩
            have HA : Hid (∀ v' w2, w2.ownsRow w.heap.size 3 1 v' (ys.length + 2) (icells ys ++ icells [8, 0]) → (wr.alloc (.cells #[.int .i64 8, .int .i64 0] 3)).grownBy w2 (Value.slice ao ys.length cp).ownBlock →
                OwnsI w2 w.heap.size v' (ys ++ [8, 0]) ∧ Below w.heap.size w w2 ∧ w.heap.size ≤ w2.heap.size) := fun v' w2 g1 g2 => ownsI_next (new := [8, 0]) hown.out g1 g2 hbel hsz
            have hownA := ownsI_alloc hown.out (.cells #[.int .i64 8, .int .i64 0] 3)
            have hcells := two_cells wr 8 0
            have HE : Hid ((ys ++ [(8 : Int), 0]).length = ys.length + 2) := show _ = _ by simp
            have HNS : Hid (Small16 (ys ++ [8, 0])) := small_append hsm.out (fun n hn => by
              simp at hn
              rcases hn with rfl | rfl <;> omega)
            go_wp2_with (first | (go_at_call 64; go_must (refine (g _).mono ?_); rintro e w' ⟨rfl, rfl⟩) | (at_builtin; refine wpList_append_own _ rfl _ _ 28 rfl w.heap.size 3 i0 (.int .i64 0) 1 8 Tryd.underlying28 hi hz0 hz1 hz2 rfl (by decide) _ _ _ rfl hownA ⟨wr.heap.size, 0, none⟩ 2 2 (icells [8, 0]) rfl rfl hcells (icells_one _) (by unfold maxLen; omega) (by omega) (by simp; omega) ?_))
            intro v5 w5 g1 g2 _
            have R5 := HA.out _ _ g1 g2
            obtain ⟨ao5, cp5, hv5⟩ := ownsI_form R5.1
            rw [hv5] at R5 ⊢
            clear HA hownA hcells g1 g2 g hv5
            go_wp2
            go_roundg (16 - (ys ++ [(8 : Int), 0]).length)
            case measure => rw [HE.out, HM.out]; omega
            case rel => exact ⟨ao5, cp5, ys ++ [8, 0], rfl, by rw [HE.out]; have := hev.out; omega, rfl, (show _ % 2 = 0 by rw [HE.out]; have := hev.out; omega), R5.1, HNS, R5.2.1, R5.2.2⟩
          · have hlyI : ¬ (ys.length : Int) < 16 := by omega
            go_wp2
            go_ret
            exact ⟨_, rfl, ys, hown.out, by omega, hsm.out, hbel⟩
      · have hkx : ¬ (k : Int) < (rs.length : Int) := by omega
        clear hgo
        go_wp2
        go_loopg [5] (16 - xs.length) (fun m v wr => ∃ (ao : Option Addr) (cp : Nat) (ys : List Int), v = .slice ao ys.length cp ∧ ys.length ≤ 16 ∧ m = 16 - ys.length ∧ Hid (ys.length % 2 = 0) ∧ Hid (OwnsI wr w.heap.size (.slice ao ys.length cp) ys) ∧ Hid (Small16 ys) ∧ Below w.heap.size w wr ∧ w.heap.size ≤ wr.heap.size)
        case atStart => exact ⟨ao, cp, xs, rfl, hxl, rfl, hev, hown, hsm, hbel, hsz⟩
        case round =>
          clear hxl hev hown hsm hbel hsz hkx hlt hk
          obtain ⟨ao, cp, ys, rfl, hyl, hm, hev, hown, hsm, hbel, hsz⟩ := hrel
          have HM : Hid (gk = 16 - ys.length) := hm
          clear hm
          by_cases hly : ys.length < 16
          · have hlyI : (ys.length : Int) < 16 := by omega
            have g := fun w => instr_any 8 0 0 0 w ⟨by omega, by omega⟩ ⟨by omega, by omega⟩ ⟨by omega, by omega⟩
            have HA : Hid (∀ v' w2, w2.ownsRow w.heap.size 3 1 v' (ys.length + 2) (icells ys ++ icells [8, 0]) → (wr.alloc (.cells #[.int .i64 8, .int .i64 0] 3)).grownBy w2 (Value.slice ao ys.length cp).ownBlock →
                OwnsI w2 w.heap.size v' (ys ++ [8, 0]) ∧ Below w.heap.size w w2 ∧ w.heap.size ≤ w2.heap.size) := fun v' w2 g1 g2 => ownsI_next (new := [8, 0]) hown.out g1 g2 hbel hsz
            have hownA := ownsI_alloc hown.out (.cells #[.int .i64 8, .int .i64 0] 3)
            have hcells := two_cells wr 8 0
            have HE : Hid ((ys ++ [(8 : Int), 0]).length = ys.length + 2) := show _ = _ by simp
            have HNS : Hid (Small16 (ys ++ [8, 0])) := small_append hsm.out (fun n hn => by
              simp at hn
              rcases hn with rfl | rfl <;> omega)
            go_wp2_with (first | (go_at_call 64; go_must (refine (g _).mono ?_); rintro e w' ⟨rfl, rfl⟩) | (at_builtin; refine wpList_append_own _ rfl _ _ 28 rfl w.heap.size 3 i0 (.int .i64 0) 1 8 Tryd.underlying28 hi hz0 hz1 hz2 rfl (by decide) _ _ _ rfl hownA ⟨wr.heap.size, 0, none⟩ 2 2 (icells [8, 0]) rfl rfl hcells (icells_one _) (by unfold maxLen; omega) (by omega) (by simp; omega) ?_))
            intro v5 w5 g1 g2 _
            have R5 := HA.out _ _ g1 g2
            obtain ⟨ao5, cp5, hv5⟩ := ownsI_form R5.1
            rw [hv5] at R5 ⊢
            clear HA hownA hcells g1 g2 g hv5
            go_wp2
            go_roundg (16 - (ys ++ [(8 : Int), 0]).length)
            case measure => rw [HE.out, HM.out]; omega
            case rel => exact ⟨ao5, cp5, ys ++ [8, 0], rfl, by rw [HE.out]; have := hev.out; omega, rfl, (show _ % 2 = 0 by rw [HE.out]; have := hev.out; omega), R5.1, HNS, R5.2.1, R5.2.2⟩
          · have hlyI : ¬ (ys.length : Int) < 16 := by omega
            go_wp2
            go_ret
            exact ⟨_, rfl, ys, hown.out, by omega, hsm.out, hbel⟩

end Go.Proofs.YtdbbiibnhgcndaaDoor
