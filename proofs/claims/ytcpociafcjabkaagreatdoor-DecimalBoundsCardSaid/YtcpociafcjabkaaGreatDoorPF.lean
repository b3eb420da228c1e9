/- The program's products. -/
import Derived.BigQuiet
import Derived.Test.YtcpociafcjabkaaGreatDoorPG
set_option linter.unusedSimpArgs false
set_option linter.unusedVariables false
namespace Go.Proofs.YtcpociafcjabkaaGreatDoor
open Go.RowKit
def tMul (n m : Nat) : Nat → Int := fun i => cv (ptsOf n) (ptsOf m) i (i + 1)

/-- What the rounds have left. -/
structure MulAt (w W : World) (n m i : Nat) : Prop where
  x : Blk W w.heap.size (ptsOf n)
  y : Blk W (w.heap.size + 1) (ptsOf m)
  r : Blk W (w.heap.size + 1 + 1) (fun _ => 0)
  c : Cel W (w.heap.size + 1 + 1 + 1) (car (tMul n m) 0 i)
  z : Blk W (w.heap.size + 1 + 1 + 1 + 1) (fun p => if p < i then rpt (tMul n m) 0 p else 0)
  below : Below w.heap.size w W
  size : w.heap.size + 5 ≤ W.heap.size
theorem MulAt.drew {w W : World} {n m i : Nat} (h : MulAt w W n m i) (d : Nat) : MulAt w (W.drewN d) n m i := ⟨h.x, h.y, h.r, h.c, h.z, below_drewN h.below d, h.size⟩
theorem MulAt.drew1 {w W : World} {n m i : Nat} (h : MulAt w W n m i) : MulAt w W.drew n m i := h.drew 1
theorem MulAt.next {w W W2 : World} {n m i : Nat} (h : MulAt w W n m i) (hT : Turn (w.heap.size + 1 + 1 + 1) W W2) (hC : Cel W2 (w.heap.size + 1 + 1 + 1) (car (tMul n m) 0 (i + 1))) : MulAt w (W2.setCell ⟨w.heap.size + 1 + 1 + 1 + 1, i, none⟩ (.int .i64 (rpt (tMul n m) 0 i))) n m (i + 1) := by
  refine ⟨(hT.blk h.x (by omega)).far _ _ (by omega), (hT.blk h.y (by omega)).far _ _ (by omega), (hT.blk h.r (by omega)).far _ _ (by omega), (Below.heap_setCell W2 ⟨w.heap.size + 1 + 1 + 1 + 1, i, none⟩ _ _ (by show w.heap.size + 1 + 1 + 1 ≠ w.heap.size + 1 + 1 + 1 + 1; omega)).trans hC, ?_, (h.below.trans (hT.bel.mono (by omega))).setCell (p := ⟨w.heap.size + 1 + 1 + 1 + 1, i, none⟩) (by show w.heap.size ≤ w.heap.size + 1 + 1 + 1 + 1; omega) _, by rw [World.size_setCell, hT.size]; exact h.size⟩
  have h2 := (hT.blk h.z (by omega)).set i (rpt (tMul n m) 0 i)
  unfold Blk at h2 ⊢
  rw [h2]
  refine congrArg (fun l => some (Obj.cells (List.toArray l) 62 (0, 0))) (natL_congr fun p hp => ?_)
  unfold upd
  by_cases hpi : p = i
  · subst hpi
    simp
  · by_cases hlt : p < i
    · simp [hpi, hlt, show p < i + 1 by omega]
    · simp [hpi, hlt, show ¬ p < i + 1 by omega]

theorem cv_pts (n m i : Nat) (hn : n < 10 ^ 63) (k : Nat) : 0 ≤ cv (ptsOf n) (ptsOf m) i k ∧ cv (ptsOf n) (ptsOf m) i k ≤ 7000000000000000000 := by
  have h := cv_bound n m i hn k
  have h7 : min k 7 ≤ 7 := Nat.min_le_right _ _
  refine ⟨h.1, Int.le_trans h.2 ?_⟩
  omega

set_option maxRecDepth 100000 in
set_option maxHeartbeats 4000000 in
theorem Mul_call (n m : Nat) (hn : n < 10 ^ 63) (hm : m < 10 ^ 63) (w : World) :
    Calls Tryz.prog 56 #[natV n, natV m] w fun e w' => e = .returned (natV (n * m)) ∧ Below w.heap.size w w' := by
  have hR : csum (tMul n m) 0 14 = ((n * m : Nat) : Int) := mul_parts n m hn hm
  have hfin : ∀ p, p < 14 → rpt (tMul n m) 0 p = ptsOf (n * m) p := fun p hp => rpt_part _ _ _ hR p hp
  have hcar := car_bound (tMul n m) 0 0 (fun i => (cv_pts n m i hn (i + 1)).1) (fun i => (cv_pts n m i hn (i + 1)).2) (by omega) (by omega)
  have hcv := fun i k => cv_pts n m i hn k
  have HF := Lib.hid (And.intro hfin (And.intro hcar hcv))
  clear hR hfin hcar hcv hn hm
  show Calls Tryz.prog 56 #[.agg (natL (ptsOf n)).toArray, .agg (natL (ptsOf m)).toArray] w _
  obtain ⟨X, hX⟩ : ∃ X, (natL (ptsOf n)).toArray = X := ⟨_, rfl⟩
  obtain ⟨Y, hY⟩ : ∃ Y, (natL (ptsOf m)).toArray = Y := ⟨_, rfl⟩
  obtain ⟨Q, hQ⟩ : ∃ Q, natV (n * m) = Q := ⟨_, rfl⟩
  rw [hX, hY, hQ]
  have HXY := Lib.hid (And.intro hX (And.intro hY hQ))
  clear hX hY hQ
  go_enter Tryz.func56, Tryz.ntmps56
  go_wp2_with fail
  refine (carrier_call _ _).mono ?_
  rintro e w1 ⟨rfl, hw1⟩
  have hsz1 : w1.heap.size = w.heap.size + 1 + 1 + 1 + 1 := by rw [hw1]; simp
  have hA : MulAt w (w1.alloc (.cells (natL fun _ => 0).toArray 62)) n m 0 := by
    obtain ⟨rfl, rfl, _⟩ := HXY.out
    have b4 := Blk.new w1 (fun _ => 0)
    rw [hsz1] at b4
    rw [hw1] at b4 ⊢
    have b0 := Blk.new w (ptsOf n)
    have b1 := Blk.new (w.alloc (.cells (natL (ptsOf n)).toArray 62)) (ptsOf m)
    have b2 := Blk.new ((w.alloc (.cells (natL (ptsOf n)).toArray 62)).alloc (.cells (natL (ptsOf m)).toArray 62)) (fun _ => 0)
    rw [World.size_alloc] at b1
    rw [World.size_alloc, World.size_alloc] at b2
    refine ⟨((b0.alloc (.cells (natL (ptsOf m)).toArray 62)).alloc (.cells (natL fun _ => 0).toArray 62)).alloc (.cells #[.int .i64 0] 2) |>.alloc _, ((b1.alloc _).alloc _).alloc _, (b2.alloc _).alloc _, ?_, ?_, ?_, by simp⟩
    · rw [car_zero]
      have h3 := heap_alloc_last (((w.alloc (.cells (natL (ptsOf n)).toArray 62)).alloc (.cells (natL (ptsOf m)).toArray 62)).alloc (.cells (natL fun _ => 0).toArray 62)) (.cells #[.int .i64 0] 2)
      rw [World.size_alloc, World.size_alloc, World.size_alloc] at h3
      have h4 : w.heap.size + 1 + 1 + 1 < ((((w.alloc (.cells (natL (ptsOf n)).toArray 62)).alloc (.cells (natL (ptsOf m)).toArray 62)).alloc (.cells (natL fun _ => 0).toArray 62)).alloc (.cells #[.int .i64 0] 2)).heap.size := by simp
      exact (((Below.refl _ _).alloc (Nat.le_refl _) (.cells (natL fun _ => 0).toArray 62)).block _ h4).trans h3
    · simp only [Nat.not_lt_zero, if_false]
      exact b4
    · exact (((((Below.refl w.heap.size w).alloc (Nat.le_refl _) _).alloc (by simp) _).alloc (by simp; omega) _).alloc (by simp; omega) _).alloc (by simp; omega) _
  simp only [World.size_alloc]
  clear hw1
  go_wp2
  go_loopg [11] 15 (fun gk v11 wr => ∃ i : Nat, v11 = .int .i64 (i : Int) ∧ i ≤ 14 ∧ gk + i = 15 ∧ Hid (MulAt w wr n m i))
  case atStart => exact ⟨0, rfl, by omega, rfl, hA⟩
  case round =>
    obtain ⟨i, rfl, hi, hgk, HA0⟩ := hrel
    by_cases hlt : i < 14
    · go_wp2_with fail
      go_loopg [8, 16] (i + 2) (fun g2 v8 v16 wr2 => ∃ k : Nat, v16 = .int .i64 (k : Int) ∧ v8 = .int .i64 (cv (ptsOf n) (ptsOf m) i k) ∧ k ≤ i + 1 ∧ g2 + k = i + 2 ∧ Hid (MulAt w wr2 n m i))
      case atStart => exact ⟨0, rfl, rfl, by omega, rfl, HA0⟩
      case round =>
        obtain ⟨k, rfl, rfl, hk, hg2, HA⟩ := hrel
        clear HA0
        have hs := HF.out.2.2 i k
        by_cases hki : k < i + 1
        · have hx := HA.out.x.cell (p := k) (by omega)
          have hy := HA.out.y.cell (p := i - k) (by omega)
          have n1 := part_lt n k
          have m1 := part_lt m (i - k)
          have hs2 := HF.out.2.2 i (k + 1)
          have e1 : cv (ptsOf n) (ptsOf m) i (k + 1) = cv (ptsOf n) (ptsOf m) i k + ptsOf n k * ptsOf m (i - k) := rfl
          obtain ⟨a, ha, ha9⟩ : ∃ a : Nat, ptsOf n k = (a : Int) ∧ a < 1000000000 := ⟨_, rfl, n1⟩
          obtain ⟨b, hb, hb9⟩ : ∃ b : Nat, ptsOf m (i - k) = (b : Int) ∧ b < 1000000000 := ⟨_, rfl, m1⟩
          rw [ha, hb] at e1
          rw [ha] at hx
          rw [hb] at hy
          have hp : a * b ≤ 1000000000 * 1000000000 := Nat.mul_le_mul (by omega) (by omega)
          have hpe : (a : Int) * (b : Int) = ((a * b : Nat) : Int) := (Int.natCast_mul a b).symm
          generalize a * b = pr at hp hpe
          rw [hpe] at e1
          obtain ⟨s, hss⟩ : ∃ s, cv (ptsOf n) (ptsOf m) i k = s := ⟨_, rfl⟩
          obtain ⟨s2, hss2⟩ : ∃ s2, cv (ptsOf n) (ptsOf m) i (k + 1) = s2 := ⟨_, rfl⟩
          rw [hss] at hs e1 ⊢
          rw [hss2] at hs2 e1
          have wr1 : IntKind.i64.wrap ((a : Int) * (b : Int)) = (pr : Int) := by rw [hpe]; exact IntWalk.i64_in _ (by omega)
          have wr2 : IntKind.i64.wrap (s + (pr : Int)) = s2 := by rw [← e1]; exact IntWalk.i64_in _ (by omega)
          have hik : (i : Int) - (k : Int) = ((i - k : Nat) : Int) := by omega
          have hik2 : ((i - k : Nat) : Int) < 14 := by omega
          have HS := Lib.hid hss2
          clear hss hss2 ha hb n1 m1 hp hpe e1 hs hs2
          go_wp2_with fail
          go_quiet (fail)
          go_wp2
          go_roundg (i + 1 - k)
          case measure => omega
          case rel => exact ⟨k + 1, by go_num, by rw [HS.out], by omega, by omega, HA.out.drew _⟩
        · obtain rfl : k = i + 1 := by omega
          have hcb := HF.out.2.1 i
          have e2 : rpt (tMul n m) 0 i = (cv (ptsOf n) (ptsOf m) i (i + 1) + car (tMul n m) 0 i) % 1000000000 := rpt_eq _ _ _
          have e3 : car (tMul n m) 0 (i + 1) = (cv (ptsOf n) (ptsOf m) i (i + 1) + car (tMul n m) 0 i) / 1000000000 := car_succ _ _ _
          obtain ⟨s, hss⟩ : ∃ s, cv (ptsOf n) (ptsOf m) i (i + 1) = s := ⟨_, rfl⟩
          rw [hss] at e2 e3 hs ⊢
          obtain ⟨R, hRR⟩ : ∃ R, (s + car (tMul n m) 0 i) % 1000000000 = R := ⟨_, rfl⟩
          rw [hRR] at e2
          have HE := Lib.hid (And.intro e2 (And.intro e3 (And.intro hcb (And.intro hRR hs))))
          clear e2 e3 hcb hss hRR hs hki
          go_wp2_with fail
          refine (carry_call _ _ _ _ HA.out.c (by have := HE.out.2.2; omega) (by have := HE.out.2.2; omega)).mono ?_
          rw [HE.out.2.2.2.1]
          rintro e w2 ⟨rfl, hc2, ht2⟩
          have hA2 : Hid (MulAt w (w2.setCell ⟨w.heap.size + 1 + 1 + 1 + 1, i, none⟩ (.int .i64 R)) n m (i + 1)) := (by show MulAt _ _ _ _ _; rw [← HE.out.1]; exact HA.out.next ht2 (by rw [HE.out.2.1]; exact hc2))
          have hx2 := (ht2.blk HA.out.z (by omega)).cell hlt
          rw [if_neg (Nat.lt_irrefl i)] at hx2
          have hf2 := (ht2.blk HA.out.z (by omega)).free i
          clear hc2 ht2
          go_wp2
          go_roundg (14 - i)
          case measure => omega
          case rel => exact ⟨i + 1, by go_num, by omega, by omega, hA2⟩
    · obtain rfl : i = 14 := by omega
      clear hlt
      have hxB : Blk wr (w.heap.size + 1 + 1 + 1 + 1) (ptsOf (n * m)) := by
        have h := HA0.out.z
        unfold Blk at h ⊢
        rw [h]
        refine congrArg (fun l => some (Obj.cells (List.toArray l) 62 (0, 0))) (natL_congr fun p hp => ?_)
        rw [if_pos hp, HF.out.1 p hp]
      have hrB := HA0.out.r
      go_wp2_with (first
        | (refine wpList_load_row rfl 62 _ rfl (w.heap.size + 1 + 1 + 1 + 1) rfl 62 _ (0, 0) _ hxB Tryz.underlying62 rfl (nat_size _) ?_)
        | (refine wpList_store_row rfl 62 _ _ rfl (w.heap.size + 1 + 1) _ rfl rfl 62 _ hrB (nat_size _) (by simp [natL_len]) (nat_one _) ?_))
      exact bodyPost_ret (results_cell_row (fn := Tryz.f56) rfl _ _ (w.heap.size + 1 + 1) 62 _ (0, 0) _ rfl (setRow_heap _ _ _ _ _ _ hrB) Tryz.underlying62 rfl (nat_size _)) rfl ⟨HXY.out.2.2 ▸ rfl, below_row HA0.out.below (by omega) _⟩
end Go.Proofs.YtcpociafcjabkaaGreatDoor
