/- MI MC -/
import Derived.RegionTactic
import Derived.Test.YtmdnijehoagamaaGreatDoorK15
set_option linter.unusedVariables false
set_option linter.unusedSimpArgs false
namespace Go.Proofs.YtmdnijehoagamaaGreatDoor
set_option maxRecDepth 100000
set_option maxHeartbeats 4000000
open Go.RowKit
def wrtY (y : Int) : Int := if y ≤ 0 then y - 1 else y
theorem p_counted (y : Int) (hy : y ≤ 1000000) (hy0 : -1000000 ≤ y) (w : World) : Calls Tryz.prog 89 #[.int .i64 y] w fun e w' => e = .returned (.int .i64 (cntd y)) ∧ w = w' := by
 unfold cntd
 by_cases h : y < 0
 ·rw [if_pos h]
  go_enter Tryz.func89, Tryz.ntmps89
  go_wp2
  go_ret
  exact ⟨rfl, rfl⟩
 ·rw [if_neg h]
  go_enter Tryz.func89, Tryz.ntmps89
  go_wp2
  go_ret
  exact ⟨rfl, rfl⟩
theorem p_written (y : Int) (hy : y ≤ 1000000) (hy0 : -1000000 ≤ y) (w : World) : Calls Tryz.prog 103 #[.int .i64 y] w fun e w' => e = .returned (.int .i64 (wrtY y)) ∧ w = w' := by
 unfold wrtY
 by_cases h : y ≤ 0
 ·rw [if_pos h]
  go_enter Tryz.func103, Tryz.ntmps103
  go_wp2
  go_ret
  exact ⟨rfl, rfl⟩
 ·rw [if_neg h]
  go_enter Tryz.func103, Tryz.ntmps103
  go_wp2
  go_ret
  exact ⟨rfl, rfl⟩
theorem p_hasDate (k : Int) (w : World) : Calls Tryz.prog 39 #[.int .i64 k] w fun e w' => e = .returned (.bool (datedB k)) ∧ w = w' := by
 unfold datedB
 obtain ⟨b1, h1⟩ : ∃ b, (k == 1) = b := ⟨_, rfl⟩
 obtain ⟨b3, h3⟩ : ∃ b, (k == 3) = b := ⟨_, rfl⟩
 rw [h1, h3]
 cases b1 <;> cases b3
 all_goals (
  go_enter Tryz.func39, Tryz.ntmps39
  go_wp2
  go_ret
  exact ⟨rfl, rfl⟩)
theorem p_hasTime (k : Int) (w : World) : Calls Tryz.prog 41 #[.int .i64 k] w fun e w' => e = .returned (.bool (timedB k)) ∧ w = w' := by
 unfold timedB
 obtain ⟨b1, h1⟩ : ∃ b, (k == 2) = b := ⟨_, rfl⟩
 obtain ⟨b3, h3⟩ : ∃ b, (k == 3) = b := ⟨_, rfl⟩
 rw [h1, h3]
 cases b1 <;> cases b3
 all_goals (
  go_enter Tryz.func41, Tryz.ntmps41
  go_wp2
  go_ret
  exact ⟨rfl, rfl⟩)
theorem p_isKind (k : Int) (w : World) : Calls Tryz.prog 29 #[.int .i64 k] w fun e w' => e = .returned (.bool (datedB k || timedB k)) ∧ w = w' := by
 have cd := fun W => p_hasDate k W
 have ct := fun W => p_hasTime k W
 generalize datedB k = bd at *
 generalize timedB k = bt at *
 cases bd
 all_goals (
  go_enter Tryz.func29, Tryz.ntmps29
  go_wp2_with (first
   | (go_at_call 39; refine (cd _).mono ?_; rintro e w1 ⟨rfl, rfl⟩)
   | (go_at_call 41; refine (ct _).mono ?_; rintro e w1 ⟨rfl, rfl⟩))
  go_ret
  exact ⟨rfl, rfl⟩)
theorem p_isLong (y : Int) (w : World) : Calls Tryz.prog 118 #[.int .i64 y] w fun e w' => e = .returned (.bool (longY y)) ∧ w = w' := by
 unfold longY
 obtain ⟨b4, h4⟩ : ∃ b, (y.tmod 4 == 0) = b := ⟨_, rfl⟩
 obtain ⟨b100, h100⟩ : ∃ b, (y.tmod 100 == 0) = b := ⟨_, rfl⟩
 obtain ⟨b400, h400⟩ : ∃ b, (y.tmod 400 == 0) = b := ⟨_, rfl⟩
 have n100 : (y.tmod 100 != 0) = !b100 := by rw [← h100]; rfl
 rw [h4, h100, h400]
 cases b4 <;> cases b100 <;> cases b400
 all_goals (
  go_enter Tryz.func118, Tryz.ntmps118
  go_wp2
  go_ret
  exact ⟨rfl, rfl⟩)
def withinB (n lo hi : Int) : Bool := decide (lo ≤ n) && decide (n ≤ hi)
theorem p_within (n lo hi : Int) (w : World) : Calls Tryz.prog 60 #[.int .i64 n, .int .i64 lo, .int .i64 hi] w fun e w' => e = .returned (.bool (withinB n lo hi)) ∧ w = w' := by
 unfold withinB
 obtain ⟨b1, h1⟩ : ∃ b, decide (lo ≤ n) = b := ⟨_, rfl⟩
 obtain ⟨b2, h2⟩ : ∃ b, decide (n ≤ hi) = b := ⟨_, rfl⟩
 rw [h1, h2]
 cases b1 <;> cases b2
 all_goals (
  go_enter Tryz.func60, Tryz.ntmps60
  go_wp2
  go_ret
  exact ⟨rfl, rfl⟩)
theorem p_daysOf (y m : Int) (h1 : 1 ≤ m) (h2 : m ≤ 12) (w : World) (hT : Tabs w) : Calls Tryz.prog 91 #[.int .i64 y, .int .i64 m] w fun e w' => e = .returned (.int .i64 (lenM y m)) ∧ w = w' := by
 have cL := fun W => p_isLong y W
 have HM := Lib.hid hT.mds
 clear hT
 generalize hb : longY y = b at cL
 have HB := Lib.hid hb
 clear hb
 have hm : m = 1 ∨ m = 2 ∨ m = 3 ∨ m = 4 ∨ m = 5 ∨ m = 6 ∨ m = 7 ∨ m = 8 ∨ m = 9 ∨ m = 10 ∨ m = 11 ∨ m = 12 := by omega
 clear h1 h2
 rcases hm with rfl | rfl | rfl | rfl | rfl | rfl | rfl | rfl | rfl | rfl | rfl | rfl
 ·have hc : w.cell? ⟨0, 0, none⟩ = some (.int .i64 31) := HM.out 0 (by omega)
  go_enter Tryz.func91, Tryz.ntmps91
  go_wp2
  go_ret
  exact ⟨rfl, rfl⟩
 ·have hc : w.cell? ⟨0, 1, none⟩ = some (.int .i64 28) := HM.out 1 (by omega)
  unfold lenM
  simp only [HB.out]
  cases b
  all_goals
   go_enter Tryz.func91, Tryz.ntmps91
   go_wp2_with (go_at_call 118; refine (cL _).mono ?_; rintro e w1 ⟨rfl, rfl⟩)
   go_ret
   exact ⟨rfl, rfl⟩
 ·have hc : w.cell? ⟨0, 2, none⟩ = some (.int .i64 31) := HM.out 2 (by omega)
  go_enter Tryz.func91, Tryz.ntmps91
  go_wp2
  go_ret
  exact ⟨rfl, rfl⟩
 ·have hc : w.cell? ⟨0, 3, none⟩ = some (.int .i64 30) := HM.out 3 (by omega)
  go_enter Tryz.func91, Tryz.ntmps91
  go_wp2
  go_ret
  exact ⟨rfl, rfl⟩
 ·have hc : w.cell? ⟨0, 4, none⟩ = some (.int .i64 31) := HM.out 4 (by omega)
  go_enter Tryz.func91, Tryz.ntmps91
  go_wp2
  go_ret
  exact ⟨rfl, rfl⟩
 ·have hc : w.cell? ⟨0, 5, none⟩ = some (.int .i64 30) := HM.out 5 (by omega)
  go_enter Tryz.func91, Tryz.ntmps91
  go_wp2
  go_ret
  exact ⟨rfl, rfl⟩
 ·have hc : w.cell? ⟨0, 6, none⟩ = some (.int .i64 31) := HM.out 6 (by omega)
  go_enter Tryz.func91, Tryz.ntmps91
  go_wp2
  go_ret
  exact ⟨rfl, rfl⟩
 ·have hc : w.cell? ⟨0, 7, none⟩ = some (.int .i64 31) := HM.out 7 (by omega)
  go_enter Tryz.func91, Tryz.ntmps91
  go_wp2
  go_ret
  exact ⟨rfl, rfl⟩
 ·have hc : w.cell? ⟨0, 8, none⟩ = some (.int .i64 30) := HM.out 8 (by omega)
  go_enter Tryz.func91, Tryz.ntmps91
  go_wp2
  go_ret
  exact ⟨rfl, rfl⟩
 ·have hc : w.cell? ⟨0, 9, none⟩ = some (.int .i64 31) := HM.out 9 (by omega)
  go_enter Tryz.func91, Tryz.ntmps91
  go_wp2
  go_ret
  exact ⟨rfl, rfl⟩
 ·have hc : w.cell? ⟨0, 10, none⟩ = some (.int .i64 30) := HM.out 10 (by omega)
  go_enter Tryz.func91, Tryz.ntmps91
  go_wp2
  go_ret
  exact ⟨rfl, rfl⟩
 ·have hc : w.cell? ⟨0, 11, none⟩ = some (.int .i64 31) := HM.out 11 (by omega)
  go_enter Tryz.func91, Tryz.ntmps91
  go_wp2
  go_ret
  exact ⟨rfl, rfl⟩
theorem tmod_floor (n b : Int) (hb : 0 < b) : (n.tmod b < 0 → n / b = n.tdiv b - 1 ∧ n % b = n.tmod b + b) ∧ (¬ n.tmod b < 0 → n / b = n.tdiv b ∧ n % b = n.tmod b) := by
 have e1 := Int.tmod_add_mul_tdiv n b
 have e2 := Int.emod_add_mul_ediv n b
 have l1 := Int.emod_nonneg n (Int.ne_of_gt hb)
 have l2 := Int.emod_lt_of_pos n hb
 have l3 := Int.lt_tmod_of_pos n hb
 have l4 := Int.tmod_lt_of_pos n hb
 constructor
 ·intro h
  have hq : n / b = n.tdiv b - 1 := by
   have h1 : b * (n / b) = b * (n.tdiv b) + (n.tmod b - n % b) := by omega
   have h2 : b * (n / b - n.tdiv b) = n.tmod b - n % b := by rw [Int.mul_sub]; omega
   have h3 : n / b - n.tdiv b < 0 := by
    rcases Int.lt_or_le (n / b - n.tdiv b) 0 with h4 | h4
    ·exact h4
    ·have := Int.mul_nonneg (Int.le_of_lt hb) h4; omega
   have h4 : -2 < n / b - n.tdiv b := by
    rcases Int.lt_or_le (-2) (n / b - n.tdiv b) with h5 | h5
    ·exact h5
    ·have := Int.mul_le_mul_of_nonneg_left h5 (Int.le_of_lt hb); omega
   omega
  refine ⟨hq, ?_⟩
  rw [hq, Int.mul_sub] at e2
  omega
 ·intro h
  have hq : n / b = n.tdiv b := by
   have h2 : b * (n / b - n.tdiv b) = n.tmod b - n % b := by rw [Int.mul_sub]; omega
   have h3 : n / b - n.tdiv b < 1 := by
    rcases Int.lt_or_le (n / b - n.tdiv b) 1 with h4 | h4
    ·exact h4
    ·have := Int.mul_le_mul_of_nonneg_left h4 (Int.le_of_lt hb); omega
   have h4 : -1 < n / b - n.tdiv b := by
    rcases Int.lt_or_le (-1) (n / b - n.tdiv b) with h5 | h5
    ·exact h5
    ·have h5' : n / b - n.tdiv b ≤ -1 := h5
     have := Int.mul_le_mul_of_nonneg_left h5' (Int.le_of_lt hb); omega
   omega
  refine ⟨hq, ?_⟩
  rw [hq] at e2
  omega
theorem tdiv_bd (n b : Int) (hb : 0 < b) (h0 : -1000000000000000 ≤ n) (h1 : n ≤ 1000000000000000) : -1000000000000000 ≤ n.tdiv b ∧ n.tdiv b ≤ 1000000000000000 := by
 have := Int.natAbs_tdiv_le_natAbs n b
 omega
theorem p_divide (n b : Int) (hb : 0 < b) (hb1 : b ≤ 1000000) (h0 : -1000000000000000 ≤ n) (h1 : n ≤ 1000000000000000) (w : World) : Calls Tryz.prog 92 #[.int .i64 n, .int .i64 b] w fun e w' => e = .returned (.tuple #[.int .i64 (n / b), .int .i64 (n % b)]) ∧ ∃ k, w' = w.drewN k := by
 obtain ⟨f1, f2⟩ := tmod_floor n b hb
 have bq := tdiv_bd n b hb h0 h1
 have l3 := Int.lt_tmod_of_pos n hb
 have l4 := Int.tmod_lt_of_pos n hb
 have hnz : ¬ b = 0 := by omega
 have wq : IntKind.i64.wrap (n.tdiv b) = n.tdiv b := IntWalk.i64_in _ (by omega)
 obtain ⟨q, hq⟩ : ∃ q, n.tdiv b = q := ⟨_, rfl⟩
 obtain ⟨r, hr0⟩ : ∃ r, n.tmod b = r := ⟨_, rfl⟩
 rw [hq] at f1 f2 wq bq
 rw [hr0] at f1 f2 l3 l4
 obtain ⟨b0, b1⟩ := bq
 by_cases hr : r < 0
 ·obtain ⟨e1, e2⟩ := f1 hr
  rw [e1, e2]
  clear f1 f2 e1 e2
  go_enter Tryz.func92, Tryz.ntmps92
  go_wp2
  go_quiet (fail)
  go_wp2
  go_ret2
  exact ⟨rfl, ⟨_, rfl⟩⟩
 ·obtain ⟨e1, e2⟩ := f2 hr
  rw [e1, e2]
  clear f1 f2 e1 e2
  go_enter Tryz.func92, Tryz.ntmps92
  go_wp2
  go_quiet (fail)
  go_wp2
  go_ret2
  exact ⟨rfl, ⟨_, rfl⟩⟩
end Go.Proofs.YtmdnijehoagamaaGreatDoor
namespace Go.Proofs.YtmdnijehoagamaaGreatDoor
open Go.RowKit
structure Mom where
 k : Int
 y : Int
 mo : Int
 d : Int
 h : Int
 mi : Int
 sec : Dec
 zd : Bool
 z : Int
def Mom.v (m : Mom) : Value := .agg #[.int .i64 m.k, .int .i64 m.y, .int .i64 m.mo, .int .i64 m.d, .int .i64 m.h, .int .i64 m.mi, .bool m.sec.neg, .string m.sec.ds, .int .i64 m.sec.sc, .bool m.zd, .int .i64 m.z]
def momNil : Mom := ⟨0, 0, 0, 0, 0, 0, decNil, false, 0⟩
def sixtyD : Dec := ⟨false, ⟨#[54, 48]⟩, 0⟩
theorem sixty_eq : ofSpec 60 = sixtyD := by kernel_rfl
theorem sixty_is : IsDec sixtyD 60 0 := ⟨by kernel_rfl, rfl, by decide, by decide, by decide, by decide⟩
noncomputable def belowB (a b : Dec) : Bool := (cmpS a b).2 == 0 && decide ((cmpS a b).1 < 0)
def dateIB (y mo d : Int) : Bool := withinB y (-9999) 9999 && y != 0 && withinB mo 1 12 && withinB d 1 (lenM (cntd y) mo)
noncomputable def timeIB (h mi : Int) (s : Dec) : Bool := withinB h 0 23 && withinB mi 0 59 && !s.neg && belowB s sixtyD
def noDate (y mo d : Int) : Bool := y == 0 && mo == 0 && d == 0
def noTime (h mi : Int) (s : Dec) : Bool := h == 0 && mi == 0 && (s.neg == false && s.ds.toList == [] && s.sc == 0)
def dateB (k y mo d : Int) : Bool := if datedB k then dateIB y mo d else noDate y mo d
noncomputable def timeB (k h mi : Int) (s : Dec) : Bool := if timedB k then timeIB h mi s else noTime h mi s
def zoneB (zd : Bool) (z : Int) : Bool := withinB z (-840) 840 && (zd || z == 0)
noncomputable def okB (m : Mom) : Bool := (datedB m.k || timedB m.k) && dateB m.k m.y m.mo m.d && timeB m.k m.h m.mi m.sec && zoneB m.zd m.z
end Go.Proofs.YtmdnijehoagamaaGreatDoor
