/- SB -/
import Derived.Test.YtmdnijehoagamaaGreatDoorK42
import Derived.Test.YtmdnijehoagamaaGreatDoorK48
set_option linter.unusedVariables false
set_option linter.unusedSimpArgs false
namespace Go.Proofs.YtmdnijehoagamaaGreatDoor
open Go.RowKit
theorem ord_cases {a b : Pt} (ha : Part 130 a.f) (hb : Part 130 b.f) (n : Int) : ordP a ⟨b.w + n, b.f⟩ = if tot 130 a < tot 130 b + n * ((10 ^ 130 : Nat) : Int) then -1 else if tot 130 a = tot 130 b + n * ((10 ^ 130 : Nat) : Int) then 0 else 1 := by
  rw [ordP_ok (M := 130) (Nat.le_refl _) ha (b := ⟨b.w + n, b.f⟩) hb]
  have : tot 130 ⟨b.w + n, b.f⟩ = tot 130 b + n * ((10 ^ 130 : Nat) : Int) := by unfold tot; dsimp only; rw [Int.add_mul]; omega
  rw [this]
theorem cmp_tot {a b : Mom} (ha : okB a = true) (hb : okB b = true) (hk : a.k = b.k) : ∃ A B G : Int, 0 < G ∧ A = tot 130 (atS a) ∧ B = tot 130 (atS b) ∧ G = 50400 * ((10 ^ 130 : Nat) : Int) ∧
    cmpS6 a b = if a.zd == b.zd then (if A < B then (-1, true, 0) else if A = B then (0, true, 0) else (1, true, 0)) else if A < B - G then (-1, true, 0) else if B + G < A then (1, true, 0) else (0, false, 0) := by
  have pa := at_part (okF ha)
  have pb := at_part (okF hb)
  have hp := p_pos 130
  refine ⟨_, _, _, by omega, rfl, rfl, rfl, ?_⟩
  have e1 := ord_cases pa pb (-50400)
  have e2 := ord_cases pa pb 50400
  unfold cmpS6 bothB
  rw [ha, hb, hk, ordP_ok (M := 130) (Nat.le_refl _) pa pb, show (atS b).w - 50400 = (atS b).w + -50400 by omega, e1, e2]
  generalize tot 130 (atS a) = A
  generalize tot 130 (atS b) = B
  generalize ((10 ^ 130 : Nat) : Int) = U at *
  simp only [Bool.and_self, beq_self_eq_true, if_true]
  by_cases hz : (a.zd == b.zd) = true
  · rw [if_pos hz, if_pos hz]
    by_cases g1 : A < B
    · rw [if_pos g1, if_pos g1]
    · rw [if_neg g1, if_neg g1]
      by_cases g2 : A = B
      · rw [if_pos g2, if_pos g2]
      · rw [if_neg g2, if_neg g2]
  · rw [if_neg hz, if_neg hz]
    by_cases g1 : A < B - 50400 * U
    · rw [if_pos g1, if_pos (show A < B + -50400 * U by omega), if_pos (by decide)]
    · rw [if_neg g1, if_neg (show ¬ A < B + -50400 * U by omega)]
      have n1 : ¬ (if A = B + -50400 * U then (0 : Int) else 1) < 0 := by split <;> decide
      rw [if_neg n1]
      by_cases g2 : B + 50400 * U < A
      · rw [if_pos g2, if_neg (show ¬ A < B + 50400 * U by omega), if_neg (show ¬ A = B + 50400 * U by omega), if_pos (by decide)]
      · rw [if_neg g2]
        have n2 : ¬ 0 < (if A < B + 50400 * U then (-1 : Int) else if A = B + 50400 * U then 0 else 1) := by
          split
          · decide
          · rw [if_pos (by omega)]; decide
        rw [if_neg n2]
noncomputable def lessB (a b : Mom) : Bool := (cmpS6 a b).2.2 == 0 && (cmpS6 a b).2.1 && decide ((cmpS6 a b).1 < 0)
end Go.Proofs.YtmdnijehoagamaaGreatDoor
