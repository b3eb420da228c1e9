/- The program's sums. -/
import Derived.Deep.RegionWith
import Derived.Test.YtcpociafcjabkaaGreatDoorO
import Derived.Test.YtcpociafcjabkaaGreatDoorPB
set_option linter.unusedSimpArgs false
set_option linter.unusedVariables false
namespace Go.Proofs.YtcpociafcjabkaaGreatDoor
open Go.RowKit
theorem Turn.trans {b : Nat} {u v w : World} (h : Turn b u v) (k : Turn b v w) : Turn b u w := ⟨h.bel.trans k.bel, k.size.trans h.size, fun j hj => (k.oth j hj).trans (h.oth j hj)⟩
theorem nat_size (f : Nat → Int) : (Tryz.prog.info? 62).map (·.size) = some (natL f).toArray.size := by
  rw [List.size_toArray, natL_len]
  kernel_rfl
theorem nat_one (f : Nat → Int) : (natL f).toArray.all (·.oneCell') = true := all_oneCell_toArray (natL_one f)
theorem below_row {B : Nat} {w w' : World} (h : Below B w w') {g : Nat} (hg : B ≤ g) (cs : Array Value) : Below B w (w'.setRow g cs) :=
  h.trans ⟨rfl, rfl, rfl, by simp [World.setRow], fun k hk => setRow_other _ _ _ _ (by omega)⟩
def tAdd (n m : Nat) : Nat → Int := fun p => (part n p : Int) + (part m p : Int)
def tSub (n m : Nat) : Nat → Int := fun p => (part n p : Int) - (part m p : Int)

/-- What the rounds have left. -/
structure SumAt (w W : World) (n m i : Nat) : Prop where
  x : Blk W w.heap.size (fun p => if p < i then rpt (tAdd n m) 0 p else ptsOf n p)
  y : Blk W (w.heap.size + 1) (ptsOf m)
  r : Blk W (w.heap.size + 1 + 1) (fun _ => 0)
  c : Cel W (w.heap.size + 1 + 1 + 1) (car (tAdd n m) 0 i)
  below : Below w.heap.size w W
  size : w.heap.size + 4 ≤ W.heap.size
theorem SumAt.next {w W W2 : World} {n m i : Nat} (h : SumAt w W n m i) (hT : Turn (w.heap.size + 1 + 1 + 1) W W2) (hC : Cel W2 (w.heap.size + 1 + 1 + 1) (car (tAdd n m) 0 (i + 1))) : SumAt w (W2.setCell ⟨w.heap.size, i, none⟩ (.int .i64 (rpt (tAdd n m) 0 i))) n m (i + 1) := by
  refine ⟨?_, (hT.blk h.y (by omega)).far _ _ (by omega), (hT.blk h.r (by omega)).far _ _ (by omega), (Below.heap_setCell W2 ⟨w.heap.size, i, none⟩ _ _ (by show w.heap.size + 1 + 1 + 1 ≠ w.heap.size; omega)).trans hC, (h.below.trans (hT.bel.mono (by omega))).setCell (p := ⟨w.heap.size, i, none⟩) (Nat.le_refl _) _, by rw [World.size_setCell, hT.size]; exact h.size⟩
  have h2 := (hT.blk h.x (by omega)).set i (rpt (tAdd n m) 0 i)
  unfold Blk at h2 ⊢
  rw [h2]
  refine congrArg (fun l => some (Obj.cells (List.toArray l) 62 (0, 0))) (natL_congr fun p hp => ?_)
  unfold upd
  by_cases hpi : p = i
  · subst hpi
    simp
  · by_cases hlt : p < i
    · simp [hpi, hlt, show p < i + 1 by omega]
    · simp [hpi, hlt, show ¬ p < i + 1 by omega]

set_option maxRecDepth 100000 in
set_option maxHeartbeats 4000000 in
theorem Sum_call (n m : Nat) (hn : n < 10 ^ 126) (hm : m < 10 ^ 126) (w : World) :
    Calls Tryz.prog 49 #[natV n, natV m] w fun e w' => e = .returned (natV (n + m)) ∧ Below w.heap.size w w' := by
  have hR : csum (tAdd n m) 0 14 = ((n + m : Nat) : Int) := sum_parts n m hn hm
  have hfin : ∀ p, p < 14 → rpt (tAdd n m) 0 p = ptsOf (n + m) p := fun p hp => rpt_part _ _ _ hR p hp
  have hcar := car_small (tAdd n m) 0 (fun i => by have := part_lt n i; have := part_lt m i; show _ ≤ (part n i : Int) + (part m i : Int); omega) (fun i => by have := part_lt n i; have := part_lt m i; show (part n i : Int) + (part m i : Int) ≤ _; omega) (by omega) (by omega)
  have HF := Lib.hid (And.intro hfin hcar)
  clear hR hfin hcar
  show Calls Tryz.prog 49 #[.agg (natL (ptsOf n)).toArray, .agg (natL (ptsOf m)).toArray] w _
  obtain ⟨X, hX⟩ : ∃ X, (natL (ptsOf n)).toArray = X := ⟨_, rfl⟩
  obtain ⟨Y, hY⟩ : ∃ Y, (natL (ptsOf m)).toArray = Y := ⟨_, rfl⟩
  obtain ⟨Q, hQ⟩ : ∃ Q, natV (n + m) = Q := ⟨_, rfl⟩
  rw [hX, hY, hQ]
  have HXY := Lib.hid (And.intro hX (And.intro hY hQ))
  clear hX hY hQ
  go_enter Tryz.func49, Tryz.ntmps49
  go_wp2_with fail
  refine (carrier_call _ _).mono ?_
  rintro e w1 ⟨rfl, hw1⟩
  have hA : SumAt w w1 n m 0 := by
    obtain ⟨rfl, rfl, _⟩ := HXY.out
    rw [hw1]
    have b0 := Blk.new w (ptsOf n)
    have b1 := Blk.new (w.alloc (.cells (natL (ptsOf n)).toArray 62)) (ptsOf m)
    have b2 := Blk.new ((w.alloc (.cells (natL (ptsOf n)).toArray 62)).alloc (.cells (natL (ptsOf m)).toArray 62)) (fun _ => 0)
    rw [World.size_alloc] at b1
    rw [World.size_alloc, World.size_alloc] at b2
    refine ⟨?_, (b1.alloc _).alloc _, b2.alloc _, ?_, ?_, by simp⟩
    · have := ((b0.alloc (.cells (natL (ptsOf m)).toArray 62)).alloc (.cells (natL fun _ => 0).toArray 62)).alloc (.cells #[.int .i64 0] 2)
      unfold Blk at this ⊢
      simp only [Nat.not_lt_zero, if_false]
      exact this
    · rw [car_zero]
      have h3 := heap_alloc_last (((w.alloc (.cells (natL (ptsOf n)).toArray 62)).alloc (.cells (natL (ptsOf m)).toArray 62)).alloc (.cells (natL fun _ => 0).toArray 62)) (.cells #[.int .i64 0] 2)
      rw [World.size_alloc, World.size_alloc, World.size_alloc] at h3
      exact h3
    · exact ((((Below.refl w.heap.size w).alloc (Nat.le_refl _) _).alloc (by simp) _).alloc (by simp; omega) _).alloc (by simp; omega) _
  simp only [World.size_alloc]
  clear hw1
  go_wp2
  go_loopg [8] 15 (fun gk v8 wr => ∃ i : Nat, v8 = .int .i64 (i : Int) ∧ i ≤ 14 ∧ gk + i = 15 ∧ Hid (SumAt w wr n m i))
  case atStart => exact ⟨0, rfl, by omega, rfl, hA⟩
  case round =>
    obtain ⟨i, rfl, hi, hgk, HA⟩ := hrel
    by_cases hlt : i < 14
    · have hx := HA.out.x.cell hlt
      rw [if_neg (by omega)] at hx
      have hy := HA.out.y.cell hlt
      have n1 := part_lt n i
      have m1 := part_lt m i
      have hx0 : ∃ a : Nat, ptsOf n i = (a : Int) ∧ a < 1000000000 := ⟨_, rfl, n1⟩
      have hy0 : ∃ a : Nat, ptsOf m i = (a : Int) ∧ a < 1000000000 := ⟨_, rfl, m1⟩
      obtain ⟨a, ha, ha9⟩ := hx0
      obtain ⟨b, hb, hb9⟩ := hy0
      clear n1 m1
      rw [ha] at hx
      rw [hb] at hy
      have hcb := HF.out.2 i
      have e1 : (tAdd n m) i = (a : Int) + (b : Int) := by show ptsOf n i + ptsOf m i = _; rw [ha, hb]
      have e2 : rpt (tAdd n m) 0 i = ((a : Int) + (b : Int) + car (tAdd n m) 0 i) % 1000000000 := by rw [rpt_eq, e1]
      have e3 : car (tAdd n m) 0 (i + 1) = ((a : Int) + (b : Int) + car (tAdd n m) 0 i) / 1000000000 := by rw [car_succ, e1]
      have hfz := HA.out.x.free i
      obtain ⟨R, hRR⟩ : ∃ R, ((a : Int) + (b : Int) + car (tAdd n m) 0 i) % 1000000000 = R := ⟨_, rfl⟩
      rw [hRR] at e2
      have wr1 : IntKind.i64.wrap ((a : Int) + (b : Int)) = (a : Int) + (b : Int) := IntWalk.i64_in _ (by omega)
      have HE := Lib.hid (And.intro e2 (And.intro e3 (And.intro hcb hRR)))
      clear e1 e2 e3 ha hb hcb hRR
      go_wp2_with fail
      go_region_with (go_at_call 98; refine (carry_call _ _ _ _ (Cel.drew1 HA.out.c) (by have := HE.out.2.2.1; omega) (by have := HE.out.2.2.1; omega)).mono ?_; rw [HE.out.2.2.2]; rintro e w2 ⟨rfl, hc2, ht2⟩; have hA2 : Hid (SumAt w (w2.setCell ⟨w.heap.size, i, none⟩ (.int .i64 R)) n m (i + 1)) := (by show SumAt _ _ _ _ _; rw [← HE.out.1]; exact HA.out.next ((Turn.refl _ wr).drew1.trans ht2) (by rw [HE.out.2.1]; exact hc2)); have hx2 := (ht2.blk (show Blk _ w.heap.size _ from HA.out.x) (by omega)).cell hlt; have hf2 := (ht2.blk (show Blk _ w.heap.size _ from HA.out.x) (by omega)).free i; clear hc2 ht2)
      all_goals go_wp2
      all_goals (
        go_roundg (14 - i)
        case measure => omega
        case rel => exact ⟨i + 1, by go_num, by omega, by omega, hA2⟩)
    · obtain rfl : i = 14 := by omega
      clear hlt
      have hxB : Blk wr w.heap.size (ptsOf (n + m)) := by
        have h := HA.out.x
        unfold Blk at h ⊢
        rw [h]
        refine congrArg (fun l => some (Obj.cells (List.toArray l) 62 (0, 0))) (natL_congr fun p hp => ?_)
        rw [if_pos hp, HF.out.1 p hp]
      have hrB := HA.out.r
      have hl1 := hxB.lt
      go_wp2_with (first
        | (refine wpList_load_row rfl 62 _ rfl w.heap.size rfl 62 _ (0, 0) _ hxB Tryz.underlying62 rfl (nat_size _) ?_)
        | (refine wpList_store_row rfl 62 _ _ rfl (w.heap.size + 1 + 1) _ rfl rfl 62 _ hrB (nat_size _) (by simp [natL_len]) (nat_one _) ?_))
      exact bodyPost_ret (results_cell_row (fn := Tryz.f49) rfl _ _ (w.heap.size + 1 + 1) 62 _ (0, 0) _ rfl (setRow_heap _ _ _ _ _ _ hrB) Tryz.underlying62 rfl (nat_size _)) rfl ⟨HXY.out.2.2 ▸ rfl, below_row HA.out.below (by omega) _⟩

end Go.Proofs.YtcpociafcjabkaaGreatDoor

/- The program's differences. -/
namespace Go.Proofs.YtcpociafcjabkaaGreatDoor
open Go.RowKit
/-- What the rounds have left. -/
structure DifAt (w W : World) (n m i : Nat) : Prop where
  x : Blk W w.heap.size (fun p => if p < i then rpt (tSub n m) 0 p else ptsOf n p)
  y : Blk W (w.heap.size + 1) (ptsOf m)
  r : Blk W (w.heap.size + 1 + 1) (fun _ => 0)
  c : Cel W (w.heap.size + 1 + 1 + 1) (car (tSub n m) 0 i)
  below : Below w.heap.size w W
  size : w.heap.size + 4 ≤ W.heap.size
theorem DifAt.next {w W W2 : World} {n m i : Nat} (h : DifAt w W n m i) (hT : Turn (w.heap.size + 1 + 1 + 1) W W2) (hC : Cel W2 (w.heap.size + 1 + 1 + 1) (car (tSub n m) 0 (i + 1))) : DifAt w (W2.setCell ⟨w.heap.size, i, none⟩ (.int .i64 (rpt (tSub n m) 0 i))) n m (i + 1) := by
  refine ⟨?_, (hT.blk h.y (by omega)).far _ _ (by omega), (hT.blk h.r (by omega)).far _ _ (by omega), (Below.heap_setCell W2 ⟨w.heap.size, i, none⟩ _ _ (by show w.heap.size + 1 + 1 + 1 ≠ w.heap.size; omega)).trans hC, (h.below.trans (hT.bel.mono (by omega))).setCell (p := ⟨w.heap.size, i, none⟩) (Nat.le_refl _) _, by rw [World.size_setCell, hT.size]; exact h.size⟩
  have h2 := (hT.blk h.x (by omega)).set i (rpt (tSub n m) 0 i)
  unfold Blk at h2 ⊢
  rw [h2]
  refine congrArg (fun l => some (Obj.cells (List.toArray l) 62 (0, 0))) (natL_congr fun p hp => ?_)
  unfold upd
  by_cases hpi : p = i
  · subst hpi
    simp
  · by_cases hlt : p < i
    · simp [hpi, hlt, show p < i + 1 by omega]
    · simp [hpi, hlt, show ¬ p < i + 1 by omega]

set_option maxRecDepth 100000 in
set_option maxHeartbeats 4000000 in
theorem Dif_call (n m : Nat) (hn : n < 10 ^ 126) (hm : m ≤ n) (w : World) :
    Calls Tryz.prog 52 #[natV n, natV m] w fun e w' => e = .returned (natV (n - m)) ∧ Below w.heap.size w w' := by
  have hR : csum (tSub n m) 0 14 = ((n - m : Nat) : Int) := diff_parts n m hn hm
  have hfin : ∀ p, p < 14 → rpt (tSub n m) 0 p = ptsOf (n - m) p := fun p hp => rpt_part _ _ _ hR p hp
  have hcar := car_small (tSub n m) 0 (fun i => by have := part_lt n i; have := part_lt m i; show _ ≤ (part n i : Int) - (part m i : Int); omega) (fun i => by have := part_lt n i; have := part_lt m i; show (part n i : Int) - (part m i : Int) ≤ _; omega) (by omega) (by omega)
  have HF := Lib.hid (And.intro hfin hcar)
  clear hR hfin hcar
  show Calls Tryz.prog 52 #[.agg (natL (ptsOf n)).toArray, .agg (natL (ptsOf m)).toArray] w _
  obtain ⟨X, hX⟩ : ∃ X, (natL (ptsOf n)).toArray = X := ⟨_, rfl⟩
  obtain ⟨Y, hY⟩ : ∃ Y, (natL (ptsOf m)).toArray = Y := ⟨_, rfl⟩
  obtain ⟨Q, hQ⟩ : ∃ Q, natV (n - m) = Q := ⟨_, rfl⟩
  rw [hX, hY, hQ]
  have HXY := Lib.hid (And.intro hX (And.intro hY hQ))
  clear hX hY hQ
  go_enter Tryz.func52, Tryz.ntmps52
  go_wp2_with fail
  refine (carrier_call _ _).mono ?_
  rintro e w1 ⟨rfl, hw1⟩
  have hA : DifAt w w1 n m 0 := by
    obtain ⟨rfl, rfl, _⟩ := HXY.out
    rw [hw1]
    have b0 := Blk.new w (ptsOf n)
    have b1 := Blk.new (w.alloc (.cells (natL (ptsOf n)).toArray 62)) (ptsOf m)
    have b2 := Blk.new ((w.alloc (.cells (natL (ptsOf n)).toArray 62)).alloc (.cells (natL (ptsOf m)).toArray 62)) (fun _ => 0)
    rw [World.size_alloc] at b1
    rw [World.size_alloc, World.size_alloc] at b2
    refine ⟨?_, (b1.alloc _).alloc _, b2.alloc _, ?_, ?_, by simp⟩
    · have := ((b0.alloc (.cells (natL (ptsOf m)).toArray 62)).alloc (.cells (natL fun _ => 0).toArray 62)).alloc (.cells #[.int .i64 0] 2)
      unfold Blk at this ⊢
      simp only [Nat.not_lt_zero, if_false]
      exact this
    · rw [car_zero]
      have h3 := heap_alloc_last (((w.alloc (.cells (natL (ptsOf n)).toArray 62)).alloc (.cells (natL (ptsOf m)).toArray 62)).alloc (.cells (natL fun _ => 0).toArray 62)) (.cells #[.int .i64 0] 2)
      rw [World.size_alloc, World.size_alloc, World.size_alloc] at h3
      exact h3
    · exact ((((Below.refl w.heap.size w).alloc (Nat.le_refl _) _).alloc (by simp) _).alloc (by simp; omega) _).alloc (by simp; omega) _
  simp only [World.size_alloc]
  clear hw1
  go_wp2
  go_loopg [8] 15 (fun gk v8 wr => ∃ i : Nat, v8 = .int .i64 (i : Int) ∧ i ≤ 14 ∧ gk + i = 15 ∧ Hid (DifAt w wr n m i))
  case atStart => exact ⟨0, rfl, by omega, rfl, hA⟩
  case round =>
    obtain ⟨i, rfl, hi, hgk, HA⟩ := hrel
    by_cases hlt : i < 14
    · have hx := HA.out.x.cell hlt
      rw [if_neg (by omega)] at hx
      have hy := HA.out.y.cell hlt
      have n1 := part_lt n i
      have m1 := part_lt m i
      have hx0 : ∃ a : Nat, ptsOf n i = (a : Int) ∧ a < 1000000000 := ⟨_, rfl, n1⟩
      have hy0 : ∃ a : Nat, ptsOf m i = (a : Int) ∧ a < 1000000000 := ⟨_, rfl, m1⟩
      obtain ⟨a, ha, ha9⟩ := hx0
      obtain ⟨b, hb, hb9⟩ := hy0
      clear n1 m1
      rw [ha] at hx
      rw [hb] at hy
      have hcb := HF.out.2 i
      have e1 : (tSub n m) i = (a : Int) - (b : Int) := by show ptsOf n i - ptsOf m i = _; rw [ha, hb]
      have e2 : rpt (tSub n m) 0 i = ((a : Int) - (b : Int) + car (tSub n m) 0 i) % 1000000000 := by rw [rpt_eq, e1]
      have e3 : car (tSub n m) 0 (i + 1) = ((a : Int) - (b : Int) + car (tSub n m) 0 i) / 1000000000 := by rw [car_succ, e1]
      have hfz := HA.out.x.free i
      obtain ⟨R, hRR⟩ : ∃ R, ((a : Int) - (b : Int) + car (tSub n m) 0 i) % 1000000000 = R := ⟨_, rfl⟩
      rw [hRR] at e2
      have wr1 : IntKind.i64.wrap ((a : Int) - (b : Int)) = (a : Int) - (b : Int) := IntWalk.i64_in _ (by omega)
      have HE := Lib.hid (And.intro e2 (And.intro e3 (And.intro hcb hRR)))
      clear e1 e2 e3 ha hb hcb hRR
      go_wp2_with fail
      go_region_with (go_at_call 98; refine (carry_call _ _ _ _ (Cel.drew1 HA.out.c) (by have := HE.out.2.2.1; omega) (by have := HE.out.2.2.1; omega)).mono ?_; rw [HE.out.2.2.2]; rintro e w2 ⟨rfl, hc2, ht2⟩; have hA2 : Hid (DifAt w (w2.setCell ⟨w.heap.size, i, none⟩ (.int .i64 R)) n m (i + 1)) := (by show DifAt _ _ _ _ _; rw [← HE.out.1]; exact HA.out.next ((Turn.refl _ wr).drew1.trans ht2) (by rw [HE.out.2.1]; exact hc2)); have hx2 := (ht2.blk (show Blk _ w.heap.size _ from HA.out.x) (by omega)).cell hlt; have hf2 := (ht2.blk (show Blk _ w.heap.size _ from HA.out.x) (by omega)).free i; clear hc2 ht2)
      all_goals go_wp2
      all_goals (
        go_roundg (14 - i)
        case measure => omega
        case rel => exact ⟨i + 1, by go_num, by omega, by omega, hA2⟩)
    · obtain rfl : i = 14 := by omega
      clear hlt
      have hxB : Blk wr w.heap.size (ptsOf (n - m)) := by
        have h := HA.out.x
        unfold Blk at h ⊢
        rw [h]
        refine congrArg (fun l => some (Obj.cells (List.toArray l) 62 (0, 0))) (natL_congr fun p hp => ?_)
        rw [if_pos hp, HF.out.1 p hp]
      have hrB := HA.out.r
      have hl1 := hxB.lt
      go_wp2_with (first
        | (refine wpList_load_row rfl 62 _ rfl w.heap.size rfl 62 _ (0, 0) _ hxB Tryz.underlying62 rfl (nat_size _) ?_)
        | (refine wpList_store_row rfl 62 _ _ rfl (w.heap.size + 1 + 1) _ rfl rfl 62 _ hrB (nat_size _) (by simp [natL_len]) (nat_one _) ?_))
      exact bodyPost_ret (results_cell_row (fn := Tryz.f52) rfl _ _ (w.heap.size + 1 + 1) 62 _ (0, 0) _ rfl (setRow_heap _ _ _ _ _ _ hrB) Tryz.underlying62 rfl (nat_size _)) rfl ⟨HXY.out.2.2 ▸ rfl, below_row HA.out.below (by omega) _⟩
end Go.Proofs.YtcpociafcjabkaaGreatDoor

/- The program's tenfold. -/
namespace Go.Proofs.YtcpociafcjabkaaGreatDoor
open Go.RowKit
def tTen (n : Nat) : Nat → Int := fun p => 10 * (part n p : Int)
/-- What the rounds have left. -/
structure TenAt (w W : World) (n m i : Nat) : Prop where
  x : Blk W w.heap.size (fun p => if p < i then rpt (tTen n) (m : Int) p else ptsOf n p)
  r : Blk W (w.heap.size + 1) (fun _ => 0)
  c : Cel W (w.heap.size + 1 + 1) (car (tTen n) (m : Int) i)
  below : Below w.heap.size w W
  size : w.heap.size + 3 ≤ W.heap.size
theorem TenAt.next {w W W2 : World} {n m i : Nat} (h : TenAt w W n m i) (hT : Turn (w.heap.size + 1 + 1) W W2) (hC : Cel W2 (w.heap.size + 1 + 1) (car (tTen n) (m : Int) (i + 1))) : TenAt w (W2.setCell ⟨w.heap.size, i, none⟩ (.int .i64 (rpt (tTen n) (m : Int) i))) n m (i + 1) := by
  refine ⟨?_, (hT.blk h.r (by omega)).far _ _ (by omega), (Below.heap_setCell W2 ⟨w.heap.size, i, none⟩ _ _ (by show w.heap.size + 1 + 1 ≠ w.heap.size; omega)).trans hC, (h.below.trans (hT.bel.mono (by omega))).setCell (p := ⟨w.heap.size, i, none⟩) (Nat.le_refl _) _, by rw [World.size_setCell, hT.size]; exact h.size⟩
  have h2 := (hT.blk h.x (by omega)).set i (rpt (tTen n) (m : Int) i)
  unfold Blk at h2 ⊢
  rw [h2]
  refine congrArg (fun l => some (Obj.cells (List.toArray l) 62 (0, 0))) (natL_congr fun p hp => ?_)
  unfold upd
  by_cases hpi : p = i
  · subst hpi
    simp
  · by_cases hlt : p < i
    · simp [hpi, hlt, show p < i + 1 by omega]
    · simp [hpi, hlt, show ¬ p < i + 1 by omega]

set_option maxRecDepth 100000 in
set_option maxHeartbeats 4000000 in
theorem Ten_call (n m : Nat) (hn : 10 * n + 9 < 10 ^ 126) (c : UInt8) (hc0 : 48 ≤ c.toNat) (hc9 : c.toNat ≤ 57) (hm : dg c = m) (w : World) :
    Calls Tryz.prog 83 #[natV n, .int .u8 (c.toNat : Int)] w fun e w' => e = .returned (natV (10 * n + m)) ∧ Below w.heap.size w w' := by
  have hR : csum (tTen n) (m : Int) 14 = ((10 * n + m : Nat) : Int) := ten_parts n m (by omega)
  have hfin : ∀ p, p < 14 → rpt (tTen n) (m : Int) p = ptsOf (10 * n + m) p := fun p hp => rpt_part _ _ _ hR p hp
  have hcar := car_small (tTen n) (m : Int) (fun i => by have := part_lt n i; show _ ≤ 10 * (part n i : Int); omega) (fun i => by have := part_lt n i; show 10 * (part n i : Int) ≤ _; omega) (by omega) (by have := dg_eq c hc0; omega)
  have HF := Lib.hid (And.intro hfin hcar)
  clear hR hfin hcar
  show Calls Tryz.prog 83 #[.agg (natL (ptsOf n)).toArray, .int .u8 (c.toNat : Int)] w _
  obtain ⟨X, hX⟩ : ∃ X, (natL (ptsOf n)).toArray = X := ⟨_, rfl⟩
  obtain ⟨Q, hQ⟩ : ∃ Q, natV (10 * n + m) = Q := ⟨_, rfl⟩
  rw [hX, hQ]
  have HXY := Lib.hid (And.intro hX hQ)
  clear hX hQ
  have hcm : (c.toNat : Int) - 48 = (m : Int) := by have := dg_eq c hc0; omega
  have hm9 : m ≤ 9 := by have := dg_eq c hc0; omega
  clear hm hn
  go_enter Tryz.func83, Tryz.ntmps83
  go_wp2_with fail
  refine (carrier_call _ _).mono ?_
  rintro e w1 ⟨rfl, hw1⟩
  have hA : TenAt w w1 n m 0 := by
    obtain ⟨rfl, _⟩ := HXY.out
    rw [hw1]
    have b0 := Blk.new w (ptsOf n)
    have b1 := Blk.new (w.alloc (.cells (natL (ptsOf n)).toArray 62)) (fun _ => 0)
    rw [World.size_alloc] at b1
    refine ⟨?_, b1.alloc _, ?_, ?_, by simp⟩
    · have := (b0.alloc (.cells (natL fun _ => 0).toArray 62)).alloc (.cells #[.int .i64 (m : Int)] 2)
      unfold Blk at this ⊢
      simp only [Nat.not_lt_zero, if_false]
      exact this
    · rw [car_zero]
      have h3 := heap_alloc_last ((w.alloc (.cells (natL (ptsOf n)).toArray 62)).alloc (.cells (natL fun _ => 0).toArray 62)) (.cells #[.int .i64 (m : Int)] 2)
      rw [World.size_alloc, World.size_alloc] at h3
      exact h3
    · exact (((Below.refl w.heap.size w).alloc (Nat.le_refl _) _).alloc (by simp) _).alloc (by simp; omega) _
  simp only [World.size_alloc]
  clear hw1
  go_wp2
  go_loopg [11] 15 (fun gk v11 wr => ∃ i : Nat, v11 = .int .i64 (i : Int) ∧ i ≤ 14 ∧ gk + i = 15 ∧ Hid (TenAt w wr n m i))
  case atStart => exact ⟨0, rfl, by omega, rfl, hA⟩
  case round =>
    obtain ⟨i, rfl, hi, hgk, HA⟩ := hrel
    by_cases hlt : i < 14
    · have hx := HA.out.x.cell hlt
      rw [if_neg (by omega)] at hx
      have n1 := part_lt n i
      have hx0 : ∃ a : Nat, ptsOf n i = (a : Int) ∧ a < 1000000000 := ⟨_, rfl, n1⟩
      obtain ⟨a, ha, ha9⟩ := hx0
      clear n1
      rw [ha] at hx
      have hcb := HF.out.2 i
      have e1 : (tTen n) i = 10 * (a : Int) := by show 10 * ptsOf n i = _; rw [ha]
      have e2 : rpt (tTen n) (m : Int) i = (10 * (a : Int) + car (tTen n) (m : Int) i) % 1000000000 := by rw [rpt_eq, e1]
      have e3 : car (tTen n) (m : Int) (i + 1) = (10 * (a : Int) + car (tTen n) (m : Int) i) / 1000000000 := by rw [car_succ, e1]
      have hfz := HA.out.x.free i
      obtain ⟨R, hRR⟩ : ∃ R, (10 * (a : Int) + car (tTen n) (m : Int) i) % 1000000000 = R := ⟨_, rfl⟩
      rw [hRR] at e2
      have wr1 : IntKind.i64.wrap (10 * (a : Int)) = 10 * (a : Int) := IntWalk.i64_in _ (by omega)
      have HE := Lib.hid (And.intro e2 (And.intro e3 (And.intro hcb hRR)))
      clear e1 e2 e3 ha hcb hRR
      go_wp2_with fail
      refine (carry_call _ _ _ _ HA.out.c (by have := HE.out.2.2.1; omega) (by have := HE.out.2.2.1; omega)).mono ?_
      rw [HE.out.2.2.2]
      rintro e w2 ⟨rfl, hc2, ht2⟩
      have hA2 : Hid (TenAt w (w2.setCell ⟨w.heap.size, i, none⟩ (.int .i64 R)) n m (i + 1)) := (by show TenAt _ _ _ _ _; rw [← HE.out.1]; exact HA.out.next ht2 (by rw [HE.out.2.1]; exact hc2))
      have hx2 := (ht2.blk (show Blk _ w.heap.size _ from HA.out.x) (by omega)).cell hlt
      have hf2 := (ht2.blk (show Blk _ w.heap.size _ from HA.out.x) (by omega)).free i
      clear hc2 ht2
      all_goals go_wp2
      all_goals (
        go_roundg (14 - i)
        case measure => omega
        case rel => exact ⟨i + 1, by go_num, by omega, by omega, hA2⟩)
    · obtain rfl : i = 14 := by omega
      clear hlt
      have hxB : Blk wr w.heap.size (ptsOf (10 * n + m)) := by
        have h := HA.out.x
        unfold Blk at h ⊢
        rw [h]
        refine congrArg (fun l => some (Obj.cells (List.toArray l) 62 (0, 0))) (natL_congr fun p hp => ?_)
        rw [if_pos hp, HF.out.1 p hp]
      have hrB := HA.out.r
      have hl1 := hxB.lt
      go_wp2_with (first
        | (refine wpList_load_row rfl 62 _ rfl w.heap.size rfl 62 _ (0, 0) _ hxB Tryz.underlying62 rfl (nat_size _) ?_)
        | (refine wpList_store_row rfl 62 _ _ rfl (w.heap.size + 1) _ rfl rfl 62 _ hrB (nat_size _) (by simp [natL_len]) (nat_one _) ?_))
      exact bodyPost_ret (results_cell_row (fn := Tryz.f83) rfl _ _ (w.heap.size + 1) 62 _ (0, 0) _ rfl (setRow_heap _ _ _ _ _ _ hrB) Tryz.underlying62 rfl (nat_size _)) rfl ⟨HXY.out.2 ▸ rfl, below_row HA.out.below (by omega) _⟩

end Go.Proofs.YtcpociafcjabkaaGreatDoor

/- The number that a program's string of digits writes. -/
namespace Go.Proofs.YtcpociafcjabkaaGreatDoor
open Go.RowKit

/-- What the rounds have left: so many digits have not been read. -/
structure NofAt (w W : World) (V m : Nat) : Prop where
  r : Blk W w.heap.size (fun _ => 0)
  x : Blk W (w.heap.size + 1) (fun p => (pread V p m : Int))
  below : Below w.heap.size w W
  size : w.heap.size + 2 ≤ W.heap.size
theorem NofAt.drew1 {w W : World} {V m : Nat} (h : NofAt w W V m) : NofAt w W.drew V m := ⟨h.r, h.x, below_drewN h.below 1, h.size⟩
theorem NofAt.next {w W : World} {V m : Nat} (h : NofAt w W V (m + 1)) (d : Nat) (hd : V / 10 ^ m % 10 = d) (q : Nat) (hq : m / 9 = q) : NofAt w (W.setCell ⟨w.heap.size + 1, q, none⟩ (.int .i64 ((pread V q (m + 1) : Int) * 10 + (d : Int)))) V m := by
  subst hq hd
  refine ⟨h.r.far _ _ (by omega), ?_, h.below.setCell (p := ⟨w.heap.size + 1, m / 9, none⟩) (by show w.heap.size ≤ w.heap.size + 1; omega) _, by rw [World.size_setCell]; exact h.size⟩
  have h2 := h.x.set (m / 9) ((pread V (m / 9) (m + 1) : Int) * 10 + ((V / 10 ^ m % 10 : Nat) : Int))
  unfold Blk at h2 ⊢
  rw [h2]
  refine congrArg (fun l => some (Obj.cells (List.toArray l) 62 (0, 0))) (natL_congr fun p hp => ?_)
  unfold upd
  by_cases hpi : p = m / 9
  · subst hpi
    rw [if_pos rfl, pread_this V m]
    omega
  · rw [if_neg hpi]
    show (pread V p (m + 1) : Int) = _
    rw [pread_other V p m hpi]

set_option maxRecDepth 100000 in
set_option maxHeartbeats 4000000 in
theorem of_call (s : ByteArray) (hall : AllD s.data.toList) (hz : s.size ≤ 126) (w : World) :
    Calls Tryz.prog 57 #[.string s] w fun e w' => e = .returned (natV (val s.data.toList)) ∧ Below w.heap.size w w' := by
  obtain ⟨V, hV⟩ : ∃ V, val s.data.toList = V := ⟨_, rfl⟩
  rw [hV]
  have hVl : V < 10 ^ (9 * 14) := by
    have := val_lt hall
    rw [hV, bytes_len] at this
    exact Nat.lt_of_lt_of_le this (Nat.pow_le_pow_right (by omega) (by omega))
  obtain ⟨Q, hQ⟩ : ∃ Q, natV V = Q := ⟨_, rfl⟩
  rw [hQ]
  have HV := Lib.hid (And.intro hV (And.intro hQ hall))
  have hdig : ∀ m i (h : i < s.size), m + i + 1 = s.size → 48 ≤ s[i].toNat ∧ s[i].toNat ≤ 57 ∧ V / 10 ^ m % 10 = dg s[i] := fun m i h hm => by
    have hil : i < s.data.toList.length := by rw [bytes_len]; exact h
    have ea : s[i] = s.data.toList[i] := byte_at rfl h hil
    have hd := hall s.data.toList[i] (List.getElem_mem hil)
    rw [ea]
    refine ⟨hd.1, hd.2, ?_⟩
    have hsp : s.data.toList = s.data.toList.take i ++ s.data.toList[i] :: s.data.toList.drop (i + 1) := by
      rw [← List.drop_eq_getElem_cons hil, List.take_append_drop]
    have h1 := val_dig (A := s.data.toList.take i) (T := s.data.toList.drop (i + 1)) (hall.drop _) hd
    rw [← hsp, hV, List.length_drop, bytes_len, show s.size - (i + 1) = m by omega] at h1
    exact h1
  have hbig : ∀ p, pread V p s.size = 0 := fun p => by
    unfold pread part
    rw [Nat.div_eq_of_lt]
    have h0 := val_lt hall
    rw [hV, bytes_len] at h0
    by_cases hp : 9 * p ≤ s.size
    · refine Nat.lt_of_le_of_lt (Nat.mod_le _ _) (Nat.div_lt_of_lt_mul ?_)
      rw [← Nat.pow_add, show 9 * p + (s.size - 9 * p) = s.size by omega]
      exact h0
    · rw [Nat.div_eq_of_lt (Nat.lt_of_lt_of_le h0 (Nat.pow_le_pow_right (by omega) (by omega))), Nat.zero_mod]
      exact Nat.pow_pos (by omega)
  have HD := Lib.hid (And.intro hdig hbig)
  clear hV hQ hall hVl hdig hbig
  go_enter Tryz.func57, Tryz.ntmps57
  go_wp2
  have hA : NofAt w ((w.alloc (.cells (natL fun _ => 0).toArray 62)).alloc (.cells (natL fun _ => 0).toArray 62)) V s.size := by
    have b0 := Blk.new w (fun _ => 0)
    have b1 := Blk.new (w.alloc (.cells (natL fun _ => 0).toArray 62)) (fun _ => 0)
    rw [World.size_alloc] at b1
    refine ⟨b0.alloc _, ?_, ((Below.refl w.heap.size w).alloc (Nat.le_refl _) _).alloc (by simp) _, by simp⟩
    unfold Blk at b1 ⊢
    rw [b1]
    exact congrArg (fun l => some (Obj.cells (List.toArray l) 62 (0, 0))) (natL_congr fun p hp => by rw [HD.out.2 p]; rfl)
  go_loopg [8] (s.size + 1) (fun gk v8 wr => ∃ i m : Nat, v8 = .int .i64 (i : Int) ∧ i + m = s.size ∧ gk + i = s.size + 1 ∧ Hid (NofAt w wr V m))
  case atStart => exact ⟨0, s.size, rfl, by omega, rfl, hA⟩
  case round =>
    obtain ⟨i, m, rfl, hi, hgk, HA⟩ := hrel
    by_cases hlt : i < s.size
    · obtain ⟨m, rfl⟩ : ∃ m', m = m' + 1 := ⟨m - 1, by omega⟩
      obtain ⟨d0, d9, hd⟩ := HD.out.1 m i hlt (by omega)
      obtain ⟨q, hq⟩ : ∃ q, m / 9 = q := ⟨_, rfl⟩
      have hq14 : q < 14 := by omega
      have hx := HA.out.x.cell hq14
      have hf := HA.out.x.free q
      have ha9 : pread V q (m + 1) < 1000000000 := Nat.lt_of_le_of_lt (Nat.div_le_self _ _) (part_lt V q)
      obtain ⟨d, hdd⟩ : ∃ d, dg s[i] = d := ⟨_, rfl⟩
      have hdc : (s[i].toNat : Int) - 48 = (d : Int) := by have := dg_eq s[i] d0; omega
      have hd9 : d ≤ 9 := by have := dg_eq s[i] d0; omega
      rw [hdd] at hd
      have hm : (s.size : Int) - 1 - (i : Int) = (m : Int) := by omega
      have hqi : Int.tdiv (m : Int) 9 = (q : Int) := by rw [Int.tdiv_eq_ediv_of_nonneg (by omega)]; omega
      have HN : Hid (NofAt w (wr.setCell ⟨w.heap.size + 1, q, none⟩ (.int .i64 ((pread V q (m + 1) : Int) * 10 + (d : Int)))) V m) := HA.out.next d hd q hq
      generalize pread V q (m + 1) = a at hx ha9 HN
      clear hd hq hdd
      go_wp2_with fail
      go_region
      all_goals go_wp2
      all_goals (
        go_roundg (s.size - i)
        case measure => omega
        case rel => exact ⟨i + 1, m, by go_num, by omega, by omega, NofAt.drew1 HN.out⟩)
    · obtain rfl : m = 0 := by omega
      clear hlt
      have hxB : Blk wr (w.heap.size + 1) (ptsOf V) := by
        have h := HA.out.x
        unfold Blk at h ⊢
        rw [h]
        exact congrArg (fun l => some (Obj.cells (List.toArray l) 62 (0, 0))) (natL_congr fun p hp => by rw [pread_done]; rfl)
      have hrB := HA.out.r
      go_wp2_with (first
        | (refine wpList_load_row rfl 62 _ rfl (w.heap.size + 1) rfl 62 _ (0, 0) _ hxB Tryz.underlying62 rfl (nat_size _) ?_)
        | (refine wpList_store_row rfl 62 _ _ rfl w.heap.size _ rfl rfl 62 _ hrB (nat_size _) (by simp [natL_len]) (nat_one _) ?_))
      exact bodyPost_ret (results_cell_row (fn := Tryz.f57) rfl _ _ w.heap.size 62 _ (0, 0) _ rfl (setRow_heap _ _ _ _ _ _ hrB) Tryz.underlying62 rfl (nat_size _)) rfl ⟨HV.out.2.1 ▸ rfl, below_row HA.out.below (Nat.le_refl _) _⟩
end Go.Proofs.YtcpociafcjabkaaGreatDoor
