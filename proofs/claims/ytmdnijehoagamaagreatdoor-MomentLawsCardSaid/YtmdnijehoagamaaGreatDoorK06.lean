/- PD PE PH PI -/
import Derived.LoopIn
import Derived.LoopNIn
import Derived.OwnWalkIn
import Derived.RangeFuncBound
import Derived.RangeFuncBox
import Derived.RangeFuncCalls
import Derived.RangeFuncLeaves
import Derived.RangeFuncNested
import Derived.Shelf.Abstract
import Derived.Shelf.RegionOpen
import Derived.TacticsInMore
import Derived.Test.YtmdnijehoagamaaGreatDoorK05
set_option linter.unusedVariables false
set_option linter.unusedSimpArgs false
namespace Go.Proofs.YtmdnijehoagamaaGreatDoor
set_option maxRecDepth 100000
set_option maxHeartbeats 4000000
open Go.RowKit
structure DifAt (w W : World) (n m i : Nat) : Prop where
 x : Blk W w.heap.size (fun p => if p < i then rpt (tSub n m) 0 p else ptsOf n p)
 y : Blk W (w.heap.size + 1) (ptsOf m)
 r : Blk W (w.heap.size + 1 + 1) (fun _ => 0)
 c : Cel W (w.heap.size + 1 + 1 + 1) (car (tSub n m) 0 i)
 below : Below w.heap.size w W
 size : w.heap.size + 4 ≤ W.heap.size
theorem DifAt.next {w W W2 : World} {n m i : Nat} (h : DifAt w W n m i) (hT : Turn (w.heap.size + 1 + 1 + 1) W W2) (hC : Cel W2 (w.heap.size + 1 + 1 + 1) (car (tSub n m) 0 (i + 1))) : DifAt w (W2.setCell ⟨w.heap.size, i, none⟩ (.int .i64 (rpt (tSub n m) 0 i))) n m (i + 1) := by
 refine ⟨?_, (hT.blk h.y (by omega)).far _ _ (by omega), (hT.blk h.r (by omega)).far _ _ (by omega), (Below.heap_setCell W2 ⟨w.heap.size, i, none⟩ _ _ (by show w.heap.size + 1 + 1 + 1 ≠ w.heap.size; omega)).trans hC, (h.below.trans (hT.bel.mono (by omega))).setCell (p := ⟨w.heap.size, i, none⟩) (Nat.le_refl _) _, by rw [World.size_setCell, hT.size]; exact h.size⟩
 have h2 := (hT.blk h.x (by omega)).set i (rpt (tSub n m) 0 i)
 unfold Blk at h2 ⊢
 rw [h2]
 refine congrArg (fun l => some (Obj.cells (List.toArray l) 125 (0, 0))) (natL_congr fun p hp => ?_)
 unfold upd
 by_cases hpi : p = i
 ·subst hpi
  simp
 ·by_cases hlt : p < i
  ·simp [hpi, hlt, show p < i + 1 by omega]
  ·simp [hpi, hlt, show ¬ p < i + 1 by omega]
theorem Dif_call (n m : Nat) (hn : n < 10 ^ 126) (hm : m ≤ n) (w : World) :
  Calls Tryz.prog 126 #[natV n, natV m] w fun e w' => e = .returned (natV (n - m)) ∧ Below w.heap.size w w' := by
 have hR : csum (tSub n m) 0 14 = ((n - m : Nat) : Int) := diff_parts n m hn hm
 have hfin : ∀ p, p < 14 → rpt (tSub n m) 0 p = ptsOf (n - m) p := fun p hp => rpt_part _ _ _ hR p hp
 have hcar := car_small (tSub n m) 0 (fun i => by have := part_lt n i; have := part_lt m i; show _ ≤ (part n i : Int) - (part m i : Int); omega) (fun i => by have := part_lt n i; have := part_lt m i; show (part n i : Int) - (part m i : Int) ≤ _; omega) (by omega) (by omega)
 have HF := Lib.hid (And.intro hfin hcar)
 clear hR hfin hcar
 show Calls Tryz.prog 126 #[.agg (natL (ptsOf n)).toArray, .agg (natL (ptsOf m)).toArray] w _
 obtain ⟨X, hX⟩ : ∃ X, (natL (ptsOf n)).toArray = X := ⟨_, rfl⟩
 obtain ⟨Y, hY⟩ : ∃ Y, (natL (ptsOf m)).toArray = Y := ⟨_, rfl⟩
 obtain ⟨Q, hQ⟩ : ∃ Q, natV (n - m) = Q := ⟨_, rfl⟩
 rw [hX, hY, hQ]
 have HXY := Lib.hid (And.intro hX (And.intro hY hQ))
 clear hX hY hQ
 go_enter Tryz.func126, Tryz.ntmps126
 go_wp2_with fail
 refine (carrier_call _ _).mono ?_
 rintro e w1 ⟨rfl, hw1⟩
 have hA : DifAt w w1 n m 0 := by
  obtain ⟨rfl, rfl, _⟩ := HXY.out
  rw [hw1]
  have b0 := Blk.new w (ptsOf n)
  have b1 := Blk.new (w.alloc (.cells (natL (ptsOf n)).toArray 125)) (ptsOf m)
  have b2 := Blk.new ((w.alloc (.cells (natL (ptsOf n)).toArray 125)).alloc (.cells (natL (ptsOf m)).toArray 125)) (fun _ => 0)
  rw [World.size_alloc] at b1
  rw [World.size_alloc, World.size_alloc] at b2
  refine ⟨?_, (b1.alloc _).alloc _, b2.alloc _, ?_, ?_, by simp⟩
  ·have := ((b0.alloc (.cells (natL (ptsOf m)).toArray 125)).alloc (.cells (natL fun _ => 0).toArray 125)).alloc (.cells #[.int .i64 0] 2)
   unfold Blk at this ⊢
   simp only [Nat.not_lt_zero, if_false]
   exact this
  ·rw [car_zero]
   have h3 := heap_alloc_last (((w.alloc (.cells (natL (ptsOf n)).toArray 125)).alloc (.cells (natL (ptsOf m)).toArray 125)).alloc (.cells (natL fun _ => 0).toArray 125)) (.cells #[.int .i64 0] 2)
   rw [World.size_alloc, World.size_alloc, World.size_alloc] at h3
   exact h3
  ·exact ((((Below.refl w.heap.size w).alloc (Nat.le_refl _) _).alloc (by simp) _).alloc (by simp; omega) _).alloc (by simp; omega) _
 simp only [World.size_alloc]
 clear hw1
 go_wp2
 go_loopg [8] 15 (fun gk v8 wr => ∃ i : Nat, v8 = .int .i64 (i : Int) ∧ i ≤ 14 ∧ gk + i = 15 ∧ Hid (DifAt w wr n m i))
 case atStart => exact ⟨0, rfl, by omega, rfl, hA⟩
 case round =>
  obtain ⟨i, rfl, hi, hgk, HA⟩ := hrel
  by_cases hlt : i < 14
  ·have hx := HA.out.x.cell hlt
   rw [if_neg (by omega)] at hx
   have hy := HA.out.y.cell hlt
   have n1 := part_lt n i
   have m1 := part_lt m i
   have hx0 : ∃ a : Nat, ptsOf n i = (a : Int) ∧ a < 1000000000 := ⟨_, rfl, n1⟩
   have hy0 : ∃ a : Nat, ptsOf m i = (a : Int) ∧ a < 1000000000 := ⟨_, rfl, m1⟩
   obtain ⟨a, ha, ha9⟩ := hx0
   obtain ⟨b, hb, hb9⟩ := hy0
   clear n1 m1
   rw [ha] at hx
   rw [hb] at hy
   have hcb := HF.out.2 i
   have e1 : (tSub n m) i = (a : Int) - (b : Int) := by show ptsOf n i - ptsOf m i = _; rw [ha, hb]
   have e2 : rpt (tSub n m) 0 i = ((a : Int) - (b : Int) + car (tSub n m) 0 i) % 1000000000 := by rw [rpt_eq, e1]
   have e3 : car (tSub n m) 0 (i + 1) = ((a : Int) - (b : Int) + car (tSub n m) 0 i) / 1000000000 := by rw [car_succ, e1]
   have hfz := HA.out.x.free i
   obtain ⟨R, hRR⟩ : ∃ R, ((a : Int) - (b : Int) + car (tSub n m) 0 i) % 1000000000 = R := ⟨_, rfl⟩
   rw [hRR] at e2
   have wr1 : IntKind.i64.wrap ((a : Int) - (b : Int)) = (a : Int) - (b : Int) := IntWalk.i64_in _ (by omega)
   have HE := Lib.hid (And.intro e2 (And.intro e3 (And.intro hcb hRR)))
   clear e1 e2 e3 ha hb hcb hRR
   go_wp2_with fail
   go_region_with (go_at_call 188; refine (carry_call _ _ _ _ (Cel.drew1 HA.out.c) (by have := HE.out.2.2.1; omega) (by have := HE.out.2.2.1; omega)).mono ?_; rw [HE.out.2.2.2]; rintro e w2 ⟨rfl, hc2, ht2⟩; have hA2 : Hid (DifAt w (w2.setCell ⟨w.heap.size, i, none⟩ (.int .i64 R)) n m (i + 1)) := (by show DifAt _ _ _ _ _; rw [← HE.out.1]; exact HA.out.next ((Turn.refl _ wr).drew1.trans ht2) (by rw [HE.out.2.1]; exact hc2)); have hx2 := (ht2.blk (show Blk _ w.heap.size _ from HA.out.x) (by omega)).cell hlt; have hf2 := (ht2.blk (show Blk _ w.heap.size _ from HA.out.x) (by omega)).free i; clear hc2 ht2)
   all_goals go_wp2
   all_goals (
    go_roundg (14 - i)
    case measure => omega
    case rel => exact ⟨i + 1, by go_num, by omega, by omega, hA2⟩)
  ·obtain rfl : i = 14 := by omega
   clear hlt
   have hxB : Blk wr w.heap.size (ptsOf (n - m)) := by
    have h := HA.out.x
    unfold Blk at h ⊢
    rw [h]
    refine congrArg (fun l => some (Obj.cells (List.toArray l) 125 (0, 0))) (natL_congr fun p hp => ?_)
    rw [if_pos hp, HF.out.1 p hp]
   have hrB := HA.out.r
   have hl1 := hxB.lt
   go_wp2_with (first
    | (refine wpList_load_row rfl 125 _ rfl w.heap.size rfl 125 _ (0, 0) _ hxB Tryz.underlying125 rfl (nat_size _) ?_)
    | (refine wpList_store_row rfl 125 _ _ rfl (w.heap.size + 1 + 1) _ rfl rfl 125 _ hrB (nat_size _) (by simp [natL_len]) (nat_one _) ?_))
   exact bodyPost_ret (results_cell_row (fn := Tryz.f126) rfl _ _ (w.heap.size + 1 + 1) 125 _ (0, 0) _ rfl (setRow_heap _ _ _ _ _ _ hrB) Tryz.underlying125 rfl (nat_size _)) rfl ⟨HXY.out.2.2 ▸ rfl, below_row HA.out.below (by omega) _⟩
def tTen (n : Nat) : Nat → Int := fun p => 10 * (part n p : Int)
structure TenAt (w W : World) (n m i : Nat) : Prop where
 x : Blk W w.heap.size (fun p => if p < i then rpt (tTen n) (m : Int) p else ptsOf n p)
 r : Blk W (w.heap.size + 1) (fun _ => 0)
 c : Cel W (w.heap.size + 1 + 1) (car (tTen n) (m : Int) i)
 below : Below w.heap.size w W
 size : w.heap.size + 3 ≤ W.heap.size
theorem TenAt.next {w W W2 : World} {n m i : Nat} (h : TenAt w W n m i) (hT : Turn (w.heap.size + 1 + 1) W W2) (hC : Cel W2 (w.heap.size + 1 + 1) (car (tTen n) (m : Int) (i + 1))) : TenAt w (W2.setCell ⟨w.heap.size, i, none⟩ (.int .i64 (rpt (tTen n) (m : Int) i))) n m (i + 1) := by
 refine ⟨?_, (hT.blk h.r (by omega)).far _ _ (by omega), (Below.heap_setCell W2 ⟨w.heap.size, i, none⟩ _ _ (by show w.heap.size + 1 + 1 ≠ w.heap.size; omega)).trans hC, (h.below.trans (hT.bel.mono (by omega))).setCell (p := ⟨w.heap.size, i, none⟩) (Nat.le_refl _) _, by rw [World.size_setCell, hT.size]; exact h.size⟩
 have h2 := (hT.blk h.x (by omega)).set i (rpt (tTen n) (m : Int) i)
 unfold Blk at h2 ⊢
 rw [h2]
 refine congrArg (fun l => some (Obj.cells (List.toArray l) 125 (0, 0))) (natL_congr fun p hp => ?_)
 unfold upd
 by_cases hpi : p = i
 ·subst hpi
  simp
 ·by_cases hlt : p < i
  ·simp [hpi, hlt, show p < i + 1 by omega]
  ·simp [hpi, hlt, show ¬ p < i + 1 by omega]
theorem Ten_call (n m : Nat) (hn : 10 * n + 9 < 10 ^ 126) (c : UInt8) (hc0 : 48 ≤ c.toNat) (hc9 : c.toNat ≤ 57) (hm : dg c = m) (w : World) :
  Calls Tryz.prog 167 #[natV n, .int .u8 (c.toNat : Int)] w fun e w' => e = .returned (natV (10 * n + m)) ∧ Below w.heap.size w w' := by
 have hR : csum (tTen n) (m : Int) 14 = ((10 * n + m : Nat) : Int) := ten_parts n m (by omega)
 have hfin : ∀ p, p < 14 → rpt (tTen n) (m : Int) p = ptsOf (10 * n + m) p := fun p hp => rpt_part _ _ _ hR p hp
 have hcar := car_small (tTen n) (m : Int) (fun i => by have := part_lt n i; show _ ≤ 10 * (part n i : Int); omega) (fun i => by have := part_lt n i; show 10 * (part n i : Int) ≤ _; omega) (by omega) (by have := dg_eq c hc0; omega)
 have HF := Lib.hid (And.intro hfin hcar)
 clear hR hfin hcar
 show Calls Tryz.prog 167 #[.agg (natL (ptsOf n)).toArray, .int .u8 (c.toNat : Int)] w _
 obtain ⟨X, hX⟩ : ∃ X, (natL (ptsOf n)).toArray = X := ⟨_, rfl⟩
 obtain ⟨Q, hQ⟩ : ∃ Q, natV (10 * n + m) = Q := ⟨_, rfl⟩
 rw [hX, hQ]
 have HXY := Lib.hid (And.intro hX hQ)
 clear hX hQ
 have hcm : (c.toNat : Int) - 48 = (m : Int) := by have := dg_eq c hc0; omega
 have hm9 : m ≤ 9 := by have := dg_eq c hc0; omega
 clear hm hn
 go_enter Tryz.func167, Tryz.ntmps167
 go_wp2_with fail
 refine (carrier_call _ _).mono ?_
 rintro e w1 ⟨rfl, hw1⟩
 have hA : TenAt w w1 n m 0 := by
  obtain ⟨rfl, _⟩ := HXY.out
  rw [hw1]
  have b0 := Blk.new w (ptsOf n)
  have b1 := Blk.new (w.alloc (.cells (natL (ptsOf n)).toArray 125)) (fun _ => 0)
  rw [World.size_alloc] at b1
  refine ⟨?_, b1.alloc _, ?_, ?_, by simp⟩
  ·have := (b0.alloc (.cells (natL fun _ => 0).toArray 125)).alloc (.cells #[.int .i64 (m : Int)] 2)
   unfold Blk at this ⊢
   simp only [Nat.not_lt_zero, if_false]
   exact this
  ·rw [car_zero]
   have h3 := heap_alloc_last ((w.alloc (.cells (natL (ptsOf n)).toArray 125)).alloc (.cells (natL fun _ => 0).toArray 125)) (.cells #[.int .i64 (m : Int)] 2)
   rw [World.size_alloc, World.size_alloc] at h3
   exact h3
  ·exact (((Below.refl w.heap.size w).alloc (Nat.le_refl _) _).alloc (by simp) _).alloc (by simp; omega) _
 simp only [World.size_alloc]
 clear hw1
 go_wp2
 go_loopg [11] 15 (fun gk v11 wr => ∃ i : Nat, v11 = .int .i64 (i : Int) ∧ i ≤ 14 ∧ gk + i = 15 ∧ Hid (TenAt w wr n m i))
 case atStart => exact ⟨0, rfl, by omega, rfl, hA⟩
 case round =>
  obtain ⟨i, rfl, hi, hgk, HA⟩ := hrel
  by_cases hlt : i < 14
  ·have hx := HA.out.x.cell hlt
   rw [if_neg (by omega)] at hx
   have n1 := part_lt n i
   have hx0 : ∃ a : Nat, ptsOf n i = (a : Int) ∧ a < 1000000000 := ⟨_, rfl, n1⟩
   obtain ⟨a, ha, ha9⟩ := hx0
   clear n1
   rw [ha] at hx
   have hcb := HF.out.2 i
   have e1 : (tTen n) i = 10 * (a : Int) := by show 10 * ptsOf n i = _; rw [ha]
   have e2 : rpt (tTen n) (m : Int) i = (10 * (a : Int) + car (tTen n) (m : Int) i) % 1000000000 := by rw [rpt_eq, e1]
   have e3 : car (tTen n) (m : Int) (i + 1) = (10 * (a : Int) + car (tTen n) (m : Int) i) / 1000000000 := by rw [car_succ, e1]
   have hfz := HA.out.x.free i
   obtain ⟨R, hRR⟩ : ∃ R, (10 * (a : Int) + car (tTen n) (m : Int) i) % 1000000000 = R := ⟨_, rfl⟩
   rw [hRR] at e2
   have wr1 : IntKind.i64.wrap (10 * (a : Int)) = 10 * (a : Int) := IntWalk.i64_in _ (by omega)
   have HE := Lib.hid (And.intro e2 (And.intro e3 (And.intro hcb hRR)))
   clear e1 e2 e3 ha hcb hRR
   go_wp2_with fail
   refine (carry_call _ _ _ _ HA.out.c (by have := HE.out.2.2.1; omega) (by have := HE.out.2.2.1; omega)).mono ?_
   rw [HE.out.2.2.2]
   rintro e w2 ⟨rfl, hc2, ht2⟩
   have hA2 : Hid (TenAt w (w2.setCell ⟨w.heap.size, i, none⟩ (.int .i64 R)) n m (i + 1)) := (by show TenAt _ _ _ _ _; rw [← HE.out.1]; exact HA.out.next ht2 (by rw [HE.out.2.1]; exact hc2))
   have hx2 := (ht2.blk (show Blk _ w.heap.size _ from HA.out.x) (by omega)).cell hlt
   have hf2 := (ht2.blk (show Blk _ w.heap.size _ from HA.out.x) (by omega)).free i
   clear hc2 ht2
   all_goals go_wp2
   all_goals (
    go_roundg (14 - i)
    case measure => omega
    case rel => exact ⟨i + 1, by go_num, by omega, by omega, hA2⟩)
  ·obtain rfl : i = 14 := by omega
   clear hlt
   have hxB : Blk wr w.heap.size (ptsOf (10 * n + m)) := by
    have h := HA.out.x
    unfold Blk at h ⊢
    rw [h]
    refine congrArg (fun l => some (Obj.cells (List.toArray l) 125 (0, 0))) (natL_congr fun p hp => ?_)
    rw [if_pos hp, HF.out.1 p hp]
   have hrB := HA.out.r
   have hl1 := hxB.lt
   go_wp2_with (first
    | (refine wpList_load_row rfl 125 _ rfl w.heap.size rfl 125 _ (0, 0) _ hxB Tryz.underlying125 rfl (nat_size _) ?_)
    | (refine wpList_store_row rfl 125 _ _ rfl (w.heap.size + 1) _ rfl rfl 125 _ hrB (nat_size _) (by simp [natL_len]) (nat_one _) ?_))
   exact bodyPost_ret (results_cell_row (fn := Tryz.f167) rfl _ _ (w.heap.size + 1) 125 _ (0, 0) _ rfl (setRow_heap _ _ _ _ _ _ hrB) Tryz.underlying125 rfl (nat_size _)) rfl ⟨HXY.out.2 ▸ rfl, below_row HA.out.below (by omega) _⟩
end Go.Proofs.YtmdnijehoagamaaGreatDoor
namespace Go.Proofs.YtmdnijehoagamaaGreatDoor
set_option maxRecDepth 100000
set_option maxHeartbeats 2000000
open Go.RowKit Go.Shelf
attribute [local go_sem] Oper.semAt_some
def backF : List (Fin 14) := [13, 12, 11, 10, 9, 8, 7, 6, 5, 4, 3, 2, 1, 0]
abbrev encP (f : Nat → Int) (x : Fin 14) : Array Value := #[.int .i64 (x.1 : Int), .int .i64 (f x.1)]
theorem backF_at : ∀ k : Fin 14, backF[k.1]? = some ⟨13 - k.1, by omega⟩ := by decide
theorem backF_take (k : Nat) (hk : k < 14) : backF.take (14 - (k + 1)) ++ [⟨k, hk⟩] = backF.take (14 - k) := by
 have h := backF_at ⟨13 - k, by omega⟩
 have e : 14 - k = 14 - (k + 1) + 1 := by omega
 rw [e, List.take_add_one]
 have e2 : 14 - (k + 1) = 13 - k := by omega
 rw [e2, h]
 congr 2
 simp
 omega
theorem backF_above : ∀ (k : Fin 14) (j : Fin 14), 13 - k.1 < j.1 → j ∈ backF.take k.1 := by decide
theorem backF_pre {ini : List (Fin 14)} {x : Fin 14} (h : (ini ++ [x]) <+: backF) : ∀ j : Fin 14, x.1 < j.1 → j ∈ ini := fun j hj => by
 have hl : ini.length < 14 := by
  have := h.length_le
  simp [backF] at this
  omega
 have h1 : ini = backF.take ini.length := by
  have := (List.prefix_append ini [x]).trans h
  exact List.prefix_iff_eq_take.1 this
 have h2 : backF[ini.length]? = some x := by
  obtain ⟨t, ht⟩ := h
  rw [← ht]
  simp
 have h3 := backF_at ⟨ini.length, hl⟩
 rw [h2] at h3
 have hx : x.1 = 13 - ini.length := by
  injection h3 with h3
  rw [h3]
 rw [h1]
 exact backF_above ⟨ini.length, hl⟩ j (by show 13 - ini.length < j.1; omega)
def KpN (b Bs : Nat) (W W' : World) : Prop := W'.heap[b]? = W.heap[b]? ∧ W'.heap[Bs]? = W.heap[Bs]?
theorem KpN.trans {b Bs : Nat} {A B C : World} (h : KpN b Bs A B) (k : KpN b Bs B C) : KpN b Bs A C := ⟨k.1.trans h.1, k.2.trans h.2⟩
theorem KpN.of_below {b Bs n : Nat} {A B : World} (h : Below n A B) (hb : b < n) (hBs : Bs < n) : KpN b Bs A B := ⟨h.block b hb, h.block Bs hBs⟩
theorem KpN.put {b Bs B : Nat} (hb : b < B) (hBs : Bs < B) : ∀ (W : World) (l : Nat) (o o' : Obj), B ≤ l → W.heap[l]? = some o → o.isCells = false → o.isWalk = false → KpN b Bs W (W.putObj l o') :=
 fun W l o o' hl h _ _ => KpN.of_below ((Below.refl B W).grown (grownBy_putObj' W l o') (by have := (Array.getElem?_eq_some_iff.1 h).1; omega) (fun k e => by cases e; omega)) hb hBs
theorem back_call (b : Nat) (w : World) :
  Calls Tryz.prog 158 #[.slice (some ⟨b, 0, none⟩) 14 14] w fun e w' => e = .returned (.func (.func 189) #[] #[.pointer (some ⟨w.heap.size, 0, none⟩)]) ∧ w' = w.alloc (.cells #[.slice (some ⟨b, 0, none⟩) 14 14] 157) := by
 go_enter Tryz.func158, Tryz.ntmps158
 go_wp2
 go_ret
 exact ⟨rfl, rfl⟩
theorem back_in (n : Nat) (hn : 1 ≤ n) (l b Bs : Nat) (f : Nat → Int) (J Jx : List (Fin 14) → World → Prop)
  (hY : ∀ pre x W, J pre W → pre.length < 14 → YieldAt Fence.wide (n - 1) Tryz.prog l (encP f x) W fun e W' =>
   (e = .returned (.bool true) ∧ J (pre ++ [x]) W' ∧ KpN b Bs W W') ∨ (e = .returned (.bool false) ∧ Jx (pre ++ [x]) W'))
  (W : World) (hb : Blk W b f) (hc : W.cell? ⟨Bs, 0, none⟩ = some (.slice (some ⟨b, 0, none⟩) 14 14)) (h0 : J [] W) :
  CallsIn Fence.wide n Tryz.prog 189 #[.func (.yield l) #[] #[], .pointer (some ⟨Bs, 0, none⟩)] W fun e W' => (∃ v, e = .returned v) ∧
   ((∃ ys, ys = backF ∧ J ys W') ∨ (∃ pre, pre <+: backF ∧ Jx pre W')) := by
 refine callsIn_of_wp Tryz.func189 rfl trivial ?_ rfl
 simp only [Tryz.ntmps189, List.size_toArray, List.length_cons, List.length_nil, Nat.reduceAdd, Nat.reduceSub, Array.replicate_succ, Array.replicate_zero, List.push_toArray, List.append_toArray, List.nil_append, List.cons_append]
 have HB := Lib.hid hb
 clear hb
 gi_wp2
 gi_loopw [3] (fun i wr => ∃ k : Nat, k ≤ 14 ∧ i = .int .i64 ((k : Int) - 1) ∧ J (backF.take (14 - k)) wr ∧ KpN b Bs W wr)
  (fun i _ => (intOf i + 1).toNat)
 case atStart => exact ⟨14, Nat.le_refl _, rfl, h0, rfl, rfl⟩
 case round =>
  obtain ⟨k, hk, rfl, hJs, hkp⟩ := hrel
  have hbr : Blk wr b f := hkp.1.trans HB.out
  have hcr : wr.cell? ⟨Bs, 0, none⟩ = some (.slice (some ⟨b, 0, none⟩) 14 14) := (World.cell?_of_block (w := W) hkp.2).trans hc
  cases k with
  | zero =>
   gi_wp2
   go_end0
   exact ⟨⟨_, rfl⟩, .inl ⟨_, by rfl, hJs⟩⟩
  | succ k =>
   have hk14 : k < 14 := hk
   have hx := hbr.cell hk14
   have hki : ((k + 1 : Nat) : Int) - 1 = (k : Int) := by omega
   have hk14i : (k : Int) < 14 := by omega
   rw [hki]
   obtain ⟨fn, tmps, assign, body, hy, hR⟩ := hY _ ⟨k, hk14⟩ wr hJs (by rw [List.length_take]; show min _ 14 < 14; omega)
   rw [backF_take] at hR
   dsimp only [encP] at hy
   clear hbr
   gi_wp2
   refine hR.mono ?_
   rintro e w3 (⟨rfl, hJ3, hk3⟩ | ⟨rfl, hJx3⟩)
   ·gi_wp2
    exact ⟨⟨k, by omega, rfl, hJ3, hkp.trans hk3⟩, by simp only [intOf]; omega⟩
   ·gi_wp2
    refine bodyPost_ret (results_none rfl _ _ _) rfl ?_
    exact ⟨⟨_, rfl⟩, .inr ⟨_, List.take_prefix _ _, hJx3⟩⟩
theorem back_stops (n : Nat) (hn : 1 ≤ n) (b Bs : Nat) (f : Nat → Int) (w : World) (hb : Blk w b f) (hc : w.cell? ⟨Bs, 0, none⟩ = some (.slice (some ⟨b, 0, none⟩) 14 14)) :
  SeqStopsK Fence.wide n Tryz.prog 189 #[.pointer (some ⟨Bs, 0, none⟩)] (encP f) (KpN b Bs) (fun ys => ys = backF) (fun pre => pre <+: backF) 14 w := fun l J Jx W hW hJ _ hY h0 => by
 have hB : Bs < w.heap.size := by
  rcases Nat.lt_or_ge Bs w.heap.size with h | h
  ·exact h
  ·simp [World.cell?, Array.getElem?_eq_none h] at hc
 exact back_in n hn l b Bs f J Jx hY W ((hW.block b hb.lt).trans hb) ((hW.cell (p := ⟨Bs, 0, none⟩) hB).trans hc) h0
theorem nan_call (a : Int) (w : World) : Calls Tryz.prog 128 #[.int .i64 a] w fun e w' => e = .returned (.bool false) ∧ w' = w := by
 go_enter Tryz.func128, Tryz.ntmps128
 go_wp2
 go_ret
 exact ⟨by simp, rfl⟩
def cmpI (a b : Int) : Int := if a < b then -1 else if b < a then 1 else 0
theorem ccmp_call (a b : Int) (w : World) : Calls Tryz.prog 98 #[.int .i64 a, .int .i64 b] w fun e w' => e = .returned (.int .i64 (cmpI a b)) ∧ w' = w := by
 have c := nan_call
 unfold cmpI
 by_cases h1 : a < b
 ·rw [if_pos h1]
  go_enter Tryz.func98, Tryz.ntmps98
  go_wp2_with (go_at_call 128; refine (c _ _).mono ?_; rintro e w' ⟨rfl, rfl⟩)
  go_ret
  exact ⟨rfl, rfl⟩
 ·rw [if_neg h1]
  by_cases h2 : b < a
  ·rw [if_pos h2]
   go_enter Tryz.func98, Tryz.ntmps98
   go_wp2_with (go_at_call 128; refine (c _ _).mono ?_; rintro e w' ⟨rfl, rfl⟩)
   go_ret
   exact ⟨rfl, rfl⟩
  ·rw [if_neg h2]
   go_enter Tryz.func98, Tryz.ntmps98
   go_wp2_with (go_at_call 128; refine (c _ _).mono ?_; rintro e w' ⟨rfl, rfl⟩)
   go_ret
   exact ⟨rfl, rfl⟩
def CelI (W : World) (b : Nat) (c : Int) : Prop := W.heap[b]? = some (.cells #[.int .i64 c] 3 (0, 0))
theorem CelI.cell {W : World} {b : Nat} {c : Int} (h : CelI W b c) : W.cell? ⟨b, 0, none⟩ = some (.int .i64 c) := by rw [cell_of_row W b 0 _ _ _ h]; rfl
theorem CelI.free {W : World} {b : Nat} {c : Int} (h : CelI W b c) : W.frozen? ⟨b, 0, none⟩ = false := by simp [World.frozen?, show W.heap[b]? = _ from h]
theorem CelI.set {W : World} {b : Nat} {c : Int} (h : CelI W b c) (v : Int) : CelI (W.setCell ⟨b, 0, none⟩ (.int .i64 v)) b v := heap_setCell_same W b 0 _ 3 (.int .i64 v) h
theorem CelI.kept {W W' : World} {b : Nat} {c : Int} {row : Option Nat} (h : CelI W b c) (hg : W.grownBy W' row) (hrow : ∀ r, row = some r → ∃ o : Obj, W.heap[r]? = some o ∧ o.isCells = false) : CelI W' b c := (grownBy_keeps_cells hg hrow h rfl).trans h
theorem Blk.kept {W W' : World} {b : Nat} {f : Nat → Int} {row : Option Nat} (h : Blk W b f) (hg : W.grownBy W' row) (hrow : ∀ r, row = some r → ∃ o : Obj, W.heap[r]? = some o ∧ o.isCells = false) : Blk W' b f := (grownBy_keeps_cells hg hrow h rfl).trans h
theorem cmp_same {n m : Nat} (hn : n < 10 ^ 126) (hm : m < 10 ^ 126) (h : ∀ x ∈ backF, ptsOf n x.1 = ptsOf m x.1) : cmpN n m = 0 := by
 have e : n = m := parts_same n m hn hm fun j hj => by
  have h1 := h ⟨j, hj⟩ (by
   have : ∀ x : Fin 14, x ∈ backF := by decide
   exact this _)
  exact Int.natCast_inj.1 h1
 unfold cmpN
 rw [if_neg (by omega), if_pos e]
theorem cmp_differ {n m : Nat} (hn : n < 10 ^ 126) (hm : m < 10 ^ 126) {ini : List (Fin 14)} {x : Fin 14} (hp : (ini ++ [x]) <+: backF) (h : ∀ y ∈ ini, ptsOf n y.1 = ptsOf m y.1) (hx : ptsOf n x.1 ≠ ptsOf m x.1) : cmpN n m = cmpI (ptsOf n x.1) (ptsOf m x.1) := by
 have ha : ∀ j, x.1 < j → j < 14 → part n j = part m j := fun j hj h14 => Int.natCast_inj.1 (h ⟨j, h14⟩ (backF_pre hp ⟨j, h14⟩ hj))
 have hne : part n x.1 ≠ part m x.1 := fun e => hx (by unfold ptsOf; rw [e])
 unfold cmpN cmpI ptsOf
 rcases Nat.lt_or_ge (part n x.1) (part m x.1) with hl | hl
 ·have := parts_lt n m hn hm x.1 x.2 ha hl
  rw [if_pos this, if_pos (by omega)]
 ·have := parts_lt m n hm hn x.1 x.2 (fun j h1 h2 => (ha j h1 h2).symm) (by omega)
  rw [if_neg (by omega), if_neg (by omega), if_neg (by omega), if_pos (by omega)]
theorem cmp_call (n m : Nat) (hn : n < 10 ^ 126) (hm : m < 10 ^ 126) (w : World) :
  Calls Tryz.prog 125 #[natV n, natV m] w fun e w' => e = .returned (.int .i64 (cmpN n m)) ∧ Below w.heap.size w w' := by
 have hsame := cmp_same hn hm
 have hdiff := @cmp_differ n m hn hm
 have HS := Lib.hid (And.intro hsame @hdiff)
 clear hsame hdiff hn hm
 refine (callsIn_wide (n := 4)).1 ?_
 have h1 : 1 ≤ 4 := by omega
 show CallsIn _ _ Tryz.prog 125 #[.agg (natL (ptsOf n)).toArray, .agg (natL (ptsOf m)).toArray] w _
 obtain ⟨X, hX⟩ : ∃ X, (natL (ptsOf n)).toArray = X := ⟨_, rfl⟩
 obtain ⟨Y, hY⟩ : ∃ Y, (natL (ptsOf m)).toArray = Y := ⟨_, rfl⟩
 rw [hX, hY]
 have HXY := Lib.hid (And.intro hX hY)
 clear hX hY
 refine callsIn_of_wp_marks Tryz.func125 rfl trivial ?_ rfl
 simp only [Tryz.ntmps125, List.size_toArray, List.length_cons, List.length_nil, Nat.reduceAdd, Nat.reduceSub, Array.replicate_succ, Array.replicate_zero, List.push_toArray, List.append_toArray, List.nil_append, List.cons_append]
 gi_wp2_with (refine ⟨trivial, ?_⟩; gi_at_call 158; refine (callsIn_wide.2 (back_call _ _)).mono ?_; rintro e w' ⟨rfl, rfl⟩)
 have hz0 : ((((w.alloc (.cells X 125)).alloc (.cells Y 125)).alloc (.cells #[.int .i64 0] 3)).alloc (.cells #[.slice (some ⟨w.heap.size, 0, none⟩) 14 14] 157)).heap.size = w.heap.size + 4 := by simp
 have hW : Blk ((((w.alloc (.cells X 125)).alloc (.cells Y 125)).alloc (.cells #[.int .i64 0] 3)).alloc (.cells #[.slice (some ⟨w.heap.size, 0, none⟩) 14 14] 157)) w.heap.size (ptsOf n) ∧
   Blk ((((w.alloc (.cells X 125)).alloc (.cells Y 125)).alloc (.cells #[.int .i64 0] 3)).alloc (.cells #[.slice (some ⟨w.heap.size, 0, none⟩) 14 14] 157)) (w.heap.size + 1) (ptsOf m) ∧
   CelI ((((w.alloc (.cells X 125)).alloc (.cells Y 125)).alloc (.cells #[.int .i64 0] 3)).alloc (.cells #[.slice (some ⟨w.heap.size, 0, none⟩) 14 14] 157)) (w.heap.size + 1 + 1) 0 ∧
   Below w.heap.size w ((((w.alloc (.cells X 125)).alloc (.cells Y 125)).alloc (.cells #[.int .i64 0] 3)).alloc (.cells #[.slice (some ⟨w.heap.size, 0, none⟩) 14 14] 157)) ∧
   World.cell? ((((w.alloc (.cells X 125)).alloc (.cells Y 125)).alloc (.cells #[.int .i64 0] 3)).alloc (.cells #[.slice (some ⟨w.heap.size, 0, none⟩) 14 14] 157)) ⟨w.heap.size + 1 + 1 + 1, 0, none⟩ = some (.slice (some ⟨w.heap.size, 0, none⟩) 14 14) := by
  obtain ⟨rfl, rfl⟩ := HXY.out
  have b0 := Blk.new w (ptsOf n)
  have b1 := Blk.new (w.alloc (.cells (natL (ptsOf n)).toArray 125)) (ptsOf m)
  rw [World.size_alloc] at b1
  refine ⟨((b0.alloc _).alloc _).alloc _, (b1.alloc _).alloc _, ?_, ?_, ?_⟩
  ·have h3 := heap_alloc_last ((w.alloc (.cells (natL (ptsOf n)).toArray 125)).alloc (.cells (natL (ptsOf m)).toArray 125)) (.cells #[.int .i64 0] 3)
   rw [World.size_alloc, World.size_alloc] at h3
   exact (((Below.refl _ _).alloc (Nat.le_refl _) (.cells #[.slice (some ⟨w.heap.size, 0, none⟩) 14 14] 157)).block _ (by simp)).trans h3
  ·exact ((((Below.refl w.heap.size w).alloc (Nat.le_refl _) _).alloc (by simp) _).alloc (by simp; omega) _).alloc (by simp; omega) _
  ·rw [World.cell?_alloc_at _ _ _ _ (by simp)]
   rfl
 obtain ⟨W0, hW0⟩ : ∃ W0, ((((w.alloc (.cells X 125)).alloc (.cells Y 125)).alloc (.cells #[.int .i64 0] 3)).alloc (.cells #[.slice (some ⟨w.heap.size, 0, none⟩) 14 14] 157)) = W0 := ⟨_, rfl⟩
 rw [hW0] at hW hz0 ⊢
 clear hW0
 obtain ⟨hbX, hbY, hbR, hB0, hcS⟩ := hW
 refine wpIn_rangeFunc_ownG rfl h1 (gf := 189) (lb := #[.pointer (some ⟨w.heap.size + 1 + 1 + 1, 0, none⟩)]) rfl trivial (enters_of Tryz.func189 (by kernel_rfl) rfl)
  (back_stops 3 (by omega) w.heap.size (w.heap.size + 1 + 1 + 1) (ptsOf n) W0 hbX hcS) KpN.trans (KpN.put (by omega) (by omega)) (Below.refl _ _) (fun _ => rfl)
  (fun pre W => ((∀ y ∈ pre, ptsOf n y.1 = ptsOf m y.1) ∧ Blk W (w.heap.size + 1) (ptsOf m) ∧ CelI W (w.heap.size + 1 + 1) 0) ∧ Below w.heap.size W0 W)
  (fun c pre W => (c = .ret ∧ ∃ ini x, pre = ini ++ [x] ∧ (∀ y ∈ ini, ptsOf n y.1 = ptsOf m y.1) ∧ ptsOf n x.1 ≠ ptsOf m x.1 ∧ CelI W (w.heap.size + 1 + 1) (cmpI (ptsOf n x.1) (ptsOf m x.1))) ∧ Below w.heap.size W0 W)
  (OwnFrom.and (Own.from (fun s A B row hs hg hr => ⟨hs.1, hs.2.1.kept hg hr, hs.2.2.kept hg hr⟩) _) (ownFrom_below (by omega) (by omega)))
  (fun c => OwnFrom.and (Own.from (fun s A B row hs hg hr => by obtain ⟨hc, ini, x, e1, e2, e3, e4⟩ := hs; exact ⟨hc, ini, x, e1, e2, e3, e4.kept hg hr⟩) _) (ownFrom_below (by omega) (by omega)))
  ⟨⟨fun x hx => by simp at hx, hbY, hbR⟩, Below.refl _ _⟩
  (fun x => { tmps := #[.agg X, .agg Y, .pointer (some ⟨w.heap.size, 0, none⟩), .pointer (some ⟨w.heap.size + 1, 0, none⟩), .pointer (some ⟨w.heap.size + 1 + 1, 0, none⟩), .int .i64 (x.1 : Int), .int .i64 (ptsOf n x.1), .slice (some ⟨w.heap.size, 0, none⟩) 14 14, .func (.func 189) #[] #[.pointer (some ⟨w.heap.size + 1 + 1 + 1, 0, none⟩)], .int .i64 (x.1 : Int), .int .i64 (ptsOf n x.1), undef, undef, undef, undef, undef, undef, undef, undef, undef, undef], defers := [] }) ?assign ?body ?done ?stop
 case assign =>
  intro l x W K hK
  gi_wp2
  exact hK
 case body =>
  rintro l pre ⟨x, hx14⟩ W ⟨⟨hp, hbM, hbC⟩, hB⟩ _
  have hszW := hB.size
  have hy := hbM.cell hx14
  have hr := hbC.cell
  have hf := hbC.free
  have hx14i : (x : Int) < 14 := by omega
  have HI := Lib.hid (And.intro hp (And.intro hbM hbC))
  clear hp hbM hbC
  simp only
  by_cases hx : ptsOf n x = ptsOf m x
  ·have HX := Lib.hid hx
   obtain ⟨a, ha⟩ : ∃ a, ptsOf n x = a := ⟨_, rfl⟩
   rw [← hx] at hy
   rw [ha] at hy ⊢
   have hne : (a != a) = false := by simp
   clear hx
   gi_wp2
   refine ⟨KeepsFrom.refl _ _, ⟨rfl, rfl⟩, ⟨fun y hy => ?_, HI.out.2.1, HI.out.2.2⟩, hB⟩
   rcases List.mem_append.1 hy with h | h
   ·exact HI.out.1 y h
   ·simp only [List.mem_singleton] at h
    rw [h]
    exact HX.out
  ·have HX := Lib.hid hx
   have hne : (ptsOf n x != ptsOf m x) = true := by simp [hx]
   obtain ⟨R, hR⟩ : ∃ R, cmpI (ptsOf n x) (ptsOf m x) = R := ⟨_, rfl⟩
   have HR := Lib.hid hR
   have hc := fun W => ccmp_call (ptsOf n x) (ptsOf m x) W
   rw [hR] at hc
   obtain ⟨a, ha⟩ : ∃ a, ptsOf n x = a := ⟨_, rfl⟩
   obtain ⟨b, hb⟩ : ∃ b, ptsOf m x = b := ⟨_, rfl⟩
   rw [ha, hb] at hne hc
   rw [hb] at hy
   rw [ha]
   clear hx hR ha hb
   gi_wp2_with (refine ⟨trivial, ?_⟩; gi_at_call 98; refine (CallsIn.inRound l (callsIn_wide.2 (hc _))).mono ?_; rintro e w2 ⟨rfl, rfl⟩)
   exact ⟨(KeepsOthers.setCell _ _ _).from _, ⟨rfl, pre, ⟨x, hx14⟩, rfl, HI.out.1, HX.out, by rw [HR.out]; exact HI.out.2.2.set R⟩, hB.setCell (p := ⟨w.heap.size + 1 + 1, 0, none⟩) (by show w.heap.size ≤ w.heap.size + 1 + 1; omega) _⟩
 case done =>
  rintro D ys W hD rfl ⟨⟨hp, hbM, hbC⟩, hB⟩ hK
  have hr := hbC.cell
  have hf := hbC.free
  gi_wp2
  have hK' := (KeepsOthers.setCell W ⟨w.heap.size + 1 + 1, 0, none⟩ (.int .i64 0)).same D _ hK rfl
  have hB2 := hB.setCell (p := ⟨w.heap.size + 1 + 1, 0, none⟩) (by show w.heap.size ≤ w.heap.size + 1 + 1; omega) (.int .i64 0)
  have hcc := (hbC.set 0).cell
  obtain ⟨W2, hW2⟩ : ∃ W2, W.setCell ⟨w.heap.size + 1 + 1, 0, none⟩ (.int .i64 0) = W2 := ⟨_, rfl⟩
  rw [hW2] at hK' hB2 hcc ⊢
  refine ⟨by simp, .inl ⟨_, _, rfl, run_takeDeferred hK', ?_⟩⟩
  have hc5 := cell_kept hcc (grownBy_putObj' _ D (.deferred none)) (fun r e => by cases e; exact ⟨_, hK', rfl⟩)
  refine ⟨.int .i64 0, ?_, by rw [HS.out.1 hp], hB0.trans (hB2.trans (belowK_b (w := w) (Nat.le_refl _) _ D _ _ (by omega) hK' rfl rfl))⟩
  simp [results, Tryz.f125, go_sem, hc5]
 case stop =>
  rintro D c pre W hD hpre ⟨⟨rfl, ini, x, rfl, e2, e3, e4⟩, hB⟩ hK
  gi_wp2
  refine ⟨by simp, .inl ⟨_, _, rfl, run_takeDeferred hK, ?_⟩⟩
  have hc5 := cell_kept e4.cell (grownBy_putObj' _ D (.deferred none)) (fun r e => by cases e; exact ⟨_, hK, rfl⟩)
  refine ⟨.int .i64 (cmpI (ptsOf n x.1) (ptsOf m x.1)), ?_, by rw [HS.out.2 hpre e2 e3], hB0.trans (hB.trans (belowK_b (w := w) (Nat.le_refl _) W D _ _ (by omega) hK rfl rfl))⟩
  simp [results, Tryz.f125, go_sem, hc5]
end Go.Proofs.YtmdnijehoagamaaGreatDoor
