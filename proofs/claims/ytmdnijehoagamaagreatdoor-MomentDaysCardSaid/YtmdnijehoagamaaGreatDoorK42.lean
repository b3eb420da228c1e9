/- OG -/
import Derived.Test.YtmdnijehoagamaaGreatDoorK26
import Derived.Test.YtmdnijehoagamaaGreatDoorK41
set_option linter.unusedVariables false
set_option linter.unusedSimpArgs false
namespace Go.Proofs.YtmdnijehoagamaaGreatDoor
open Go.RowKit
theorem ofS_err (k : Int) (p : Pt) (h : (ofS k p).e ≠ 0) : (ofS k p).m = momNil := by
 unfold ofS at h ⊢
 by_cases h1 : (datedB k && !dayIn (p.w / 86400)) = true
 ·rw [if_pos h1]
 ·rw [if_neg h1] at h ⊢
  dsimp only at h ⊢
  by_cases h2 : timedB k = true
  ·rw [if_pos h2] at h ⊢
   by_cases h3 : (addS (ofSpec (p.w % 86400 % 60)) p.f).e = 0
   ·rw [if_pos h3] at h
    exact absurd rfl h
   ·rw [if_neg h3]
  ·rw [if_neg h2] at h
   exact absurd rfl h
def baseS (m : Mom) (n : Int) : Mom := if datedB m.k then laterS m n else m
theorem base_k (m : Mom) (n : Int) : (baseS m n).k = m.k := by unfold baseS; split <;> rfl
theorem base_z (m : Mom) (n : Int) : (baseS m n).zd = m.zd ∧ (baseS m n).z = m.z := by unfold baseS; split <;> exact ⟨rfl, rfl⟩
theorem base_sec (m : Mom) (n : Int) : (baseS m n).sec = m.sec := by unfold baseS; split <;> rfl
theorem base_ok {m : Mom} (h : okB m = true) (n : Int) : okB (baseS m n) = !(datedB m.k && !withinB (laterS m n).y (-9999) 9999) := by
 unfold baseS
 cases hd : datedB m.k with
 | false => rw [if_neg (by simp), h]; rfl
 | true => rw [if_pos rfl, later_ok h hd]; simp
theorem add_on {m : Mom} {n : Int} {s : Dec} (hB : belowB (⟨false, s.ds, s.sc⟩ : Dec) bigD = true) (ha : argB (okB m && chkR s == 0) n (datedB m.k) = true) (ho : okB m = true) :
  (okB (baseS m n) = false → addS6 m n s = ⟨momNil, 7⟩) ∧ (okB (baseS m n) = true → addS6 m n s = zonedS m (ofS (baseS m n).k (plusS (localS (baseS m n)) (splitS s)))) := by
 have e := base_ok ho n
 unfold addS6
 rw [if_pos ha, if_pos hB, base_k]
 constructor
 ·intro h
  rw [h] at e
  rw [if_pos (by simpa using e.symm)]
 ·intro h
  rw [h] at e
  rw [if_neg (by intro g; rw [g] at e; cases e)]
  rfl
theorem p_add6 (m : Mom) (n : Int) (s : Dec) (zm : m.sec.ds.size ≤ 400) (zs : s.ds.size ≤ 400) (w : World) (hT : Tabs w) : Calls Tryz.prog 23 #[m.v, .int .i64 n, s.v] w fun e w' => e = .returned (addS6 m n s).v ∧ Below w.heap.size w w' := by
 have cV := fun W hW => p_valid m zm W hW
 have cK := fun W hW => progOk.check s W (by unfold maxLen; omega) hW
 have cW := fun W => p_within n (-300000) 300000 W
 have cH := fun W => p_hasDate m.k W
 cases ho : okB m with
 | false =>
  rw [ho] at cV
  have e : addS6 m n s = ⟨momNil, 2⟩ := by unfold addS6 argB; rw [ho, if_neg (by simp)]
  rw [e]
  exact padd_bad1 m n s cV w hT
 | true =>
 rw [ho] at cV
 cases hc : (chkR s == 0) with
 | false =>
  have hc2 : (chkR s != 0) = true := by unfold bne; rw [hc]; rfl
  have e : addS6 m n s = ⟨momNil, 2⟩ := by unfold addS6 argB; rw [ho, hc, if_neg (by simp)]
  rw [e]
  exact padd_bad2 m n s _ hc2 cV cK w hT
 | true =>
 have hc2 : (chkR s != 0) = false := by unfold bne; rw [hc]; rfl
 cases hw : withinB n (-300000) 300000 with
 | false =>
  rw [hw] at cW
  have e : addS6 m n s = ⟨momNil, 2⟩ := by unfold addS6 argB; rw [hw, if_neg (by simp)]
  rw [e]
  exact padd_bad3 m n s _ hc2 cV cK cW w hT
 | true =>
 rw [hw] at cW
 by_cases hdn : datedB m.k = false ∧ n ≠ 0
 ·rw [hdn.1] at cH
  have e : addS6 m n s = ⟨momNil, 2⟩ := by unfold addS6 argB; rw [hdn.1, if_neg (by simp [hdn.2])]
  rw [e]
  exact padd_bad4 m n s _ hc2 (by simpa using hdn.2) cV cK cW cH w hT
 have hn : datedB m.k = false → n = 0 := fun h => Classical.byContradiction fun g => hdn ⟨h, g⟩
 have ha : argB (okB m && chkR s == 0) n (datedB m.k) = true := by
  unfold argB
  rw [ho, hc, hw]
  cases hd : datedB m.k
  ·rw [hn hd]; rfl
  ·rfl
 have vs := chk_valid hc
 have zv := vs.size
 have ht := big_tests vs
 have cO1 := fun W hW => progOk.of (-1000000000000) W (by omega) (by omega) hW
 have cO2 := fun W hW => progOk.of 1000000000000 W (by omega) (by omega) hW
 rw [negBig_eq] at cO1
 rw [big_eq] at cO2
 have cI1 := fun W hW => p_isBelow negBig s (by decide) (by omega) W hW
 have cI2 := fun W hW => p_isBelow s bigD (by omega) (by decide) W hW
 cases h1 : belowB negBig s with
 | false =>
  rw [h1] at cI1
  rw [h1, Bool.false_and] at ht
  have e : addS6 m n s = ⟨momNil, 7⟩ := by unfold addS6; rw [if_pos ha, ← ht, if_neg (by simp)]
  rw [e]
  exact padd_far1 m n s _ _ hc2 hn cV cK cW cH cO1 cI1 w hT
 | true =>
 rw [h1] at cI1
 cases h2 : belowB s bigD with
 | false =>
  rw [h2] at cI2
  rw [h2, Bool.and_false] at ht
  have e : addS6 m n s = ⟨momNil, 7⟩ := by unfold addS6; rw [if_pos ha, ← ht, if_neg (by simp)]
  rw [e]
  exact padd_far2 m n s _ _ hc2 hn cV cK cW cH cO1 cI1 cO2 cI2 w hT
 | true =>
 rw [h2] at cI2
 rw [h1, h2] at ht
 have hsm := small_of vs ht.symm
 obtain ⟨hr1, hr2⟩ := add_on ht.symm ha ho
 have hk := base_k m n
 have hz := base_z m n
 have hwn := (within_iff _ _ _).1 hw
 have hX : datedB m.k = false → baseS m n = m := fun h => by unfold baseS; rw [h, if_neg (by simp)]
 have cN : datedB m.k = true → ∀ W, Tabs W → Calls Tryz.prog 63 #[m.v, .int .i64 n] W fun e w' => e = .returned (baseS m n).v ∧ Below W.heap.size W w' := fun h W hW => by
  have := (okF ho).date h
  unfold baseS
  rw [h, if_pos rfl]
  exact p_monthsLater m n (by omega) (by omega) (by omega) (by omega) (by omega) (by omega) W hW
 have cY := fun W hW => p_valid (baseS m n) (by rw [base_sec]; exact zm) W hW
 have hzon : ∀ Z : MRes, zonedS m Z = if Z.e = 0 then ⟨{ Z.m with zd := (baseS m n).zd, z := (baseS m n).z }, 0⟩ else ⟨momNil, Z.e⟩ := fun Z => by unfold zonedS; rw [hz.1, hz.2]
 generalize baseS m n = X at *
 have hQ := ofS_err X.k (plusS (localS X) (splitS s))
 refine padd_on m n s (chkR s) (datedB m.k) (okB X) X (ofS X.k (plusS (localS X) (splitS s))).m (localS X) (splitS s) (plusS (localS X) (splitS s)) (ofS X.k (plusS (localS X) (splitS s))).e _ (addS6 m n s) hc2 hn hX hr1 rfl (fun h g => ?_) (fun h g => ?_) cV cK cW cH cO1 cI1 cO2 cI2 cN cY (fun h W hW => p_clock X (okF h) W hW) (fun _ W hW => p_split s hsm W hW) (fun h W hW => ?_) (fun h W hW => ?_) w hT
 ·rw [hr2 h, hzon, if_pos (by simpa using g)]
  rw [show (ofS X.k (plusS (localS X) (splitS s))).e = 0 by simpa using g]
 ·have g0 : (ofS X.k (plusS (localS X) (splitS s))).e ≠ 0 := by simpa using g
  rw [hr2 h, hzon, if_neg g0, hQ g0]
 ·obtain ⟨p1, p2, p3, p4, p5, p6⟩ := sum_point (okF h) hsm
  have hl := local_bd (okF h)
  exact p_plus (localS X) (splitS s) (local_part (okF h)) p1 (by omega) (by omega) (by omega) (by omega) W hW
 ·obtain ⟨p1, p2, p3, p4, p5, p6⟩ := sum_point (okF h) hsm
  exact p_momentAt X.k _ p4.val (by omega) (by omega) W hW
end Go.Proofs.YtmdnijehoagamaaGreatDoor
