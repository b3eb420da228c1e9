/- NX -/
import Derived.Test.YtmdnijehoagamaaGreatDoorK43
set_option linter.unusedVariables false
set_option linter.unusedSimpArgs false
namespace Go.Proofs.YtmdnijehoagamaaGreatDoor
set_option maxRecDepth 100000
set_option maxHeartbeats 8000000
open Go.RowKit
theorem valid_at {m : Mom} (h : OkF m) : Valid (atS m).f := (at_part h).val
theorem cmp_cases (a b : Mom) : (okB a = false ∧ cmpS6 a b = (0, false, 2)) ∨ (okB a = true ∧ okB b = false ∧ cmpS6 a b = (0, false, 2)) ∨ (okB a = true ∧ okB b = true ∧ (a.k != b.k) = true ∧ cmpS6 a b = (0, false, 2)) ∨
  (okB a = true ∧ okB b = true ∧ (a.k != b.k) = false ∧ cmpS6 a b = ((resQ (a.zd == b.zd) (ordP (atS a) (atS b)) (decide (ordP (atS a) ⟨(atS b).w - 50400, (atS b).f⟩ < 0)) (decide (0 < ordP (atS a) ⟨(atS b).w + 50400, (atS b).f⟩))).1, (resQ (a.zd == b.zd) (ordP (atS a) (atS b)) (decide (ordP (atS a) ⟨(atS b).w - 50400, (atS b).f⟩ < 0)) (decide (0 < ordP (atS a) ⟨(atS b).w + 50400, (atS b).f⟩))).2, 0)) := by
 unfold cmpS6 bothB
 cases ha : okB a
 ·left; exact ⟨rfl, by simp⟩
 ·cases hb : okB b
  ·right; left; exact ⟨rfl, rfl, by simp⟩
  ·right; right
   by_cases hk : a.k = b.k
   ·right
    refine ⟨rfl, rfl, by simp [hk], ?_⟩
    rw [if_pos (by simp [hk])]
    cases hz : (a.zd == b.zd)
    ·rw [if_neg (by simp)]
     by_cases h1 : ordP (atS a) ⟨(atS b).w - 50400, (atS b).f⟩ < 0
     ·rw [if_pos h1, decide_eq_true h1]; rfl
     ·rw [if_neg h1, decide_eq_false h1]
      by_cases h2 : 0 < ordP (atS a) ⟨(atS b).w + 50400, (atS b).f⟩
      ·rw [if_pos h2, decide_eq_true h2]; rfl
      ·rw [if_neg h2, decide_eq_false h2]; rfl
    ·rw [if_pos rfl]; rfl
   ·left
    refine ⟨rfl, rfl, by simp [hk], ?_⟩
    rw [if_neg (by simp [hk])]
theorem p_cmp6 (a b : Mom) (za : a.sec.ds.size ≤ 400) (zb : b.sec.ds.size ≤ 400) (w : World) (hT : Tabs w) : Calls Tryz.prog 19 #[a.v, b.v] w fun e w' => e = .returned (.tuple #[.int .i64 (cmpS6 a b).1, .bool (cmpS6 a b).2.1, .int .i64 (cmpS6 a b).2.2]) ∧ Below w.heap.size w w' := by
 have cA := fun W hW => p_valid a za W hW
 have cB := fun W hW => p_valid b zb W hW
 rcases cmp_cases a b with ⟨h1, e⟩ | ⟨h1, h2, e⟩ | ⟨h1, h2, h3, e⟩ | ⟨h1, h2, h3, e⟩
 ·rw [e]
  rw [h1] at cA
  exact pcmp_bad1 a b cA w hT
 ·rw [e]
  rw [h1] at cA
  rw [h2] at cB
  exact pcmp_bad2 a b cA cB w hT
 ·rw [e]
  rw [h1] at cA
  rw [h2] at cB
  exact pcmp_bad3 a b h3 cA cB w hT
 ·rw [e]
  rw [h1] at cA
  rw [h2] at cB
  have fa := okF h1
  have fb := okF h2
  have ba := at_bd fa
  have bb := at_bd fb
  have va := valid_at fa
  have vb := valid_at fb
  have e1 := ordP_same (atS a) (atS b) 50400
  exact pcmp_ok a b (atS a) (atS b) _ _ _ _ _ _ h3 rfl rfl rfl cA cB (fun W hW => p_point a fa W hW) (fun W hW => p_point b fb W hW) (fun W hW => p_compare (atS a) (atS b) va vb W hW) (fun W => p_laterP _ 50400 _ _ _ (by omega) (by omega) (by omega) (by omega) W) (fun W hW => by rw [← e1]; exact p_compare ⟨(atS a).w + 50400, (atS a).f⟩ (atS b) va vb W hW) (fun W => p_laterP _ 50400 _ _ _ (by omega) (by omega) (by omega) (by omega) W) (fun W hW => p_compare (atS a) ⟨(atS b).w + 50400, (atS b).f⟩ va vb W hW) w hT
end Go.Proofs.YtmdnijehoagamaaGreatDoor
