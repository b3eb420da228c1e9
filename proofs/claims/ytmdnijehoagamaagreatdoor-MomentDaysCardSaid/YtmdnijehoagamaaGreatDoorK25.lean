/- NM -/
import Derived.Test.YtmdnijehoagamaaGreatDoorK22
set_option linter.unusedVariables false
set_option linter.unusedSimpArgs false
namespace Go.Proofs.YtmdnijehoagamaaGreatDoor
set_option maxRecDepth 100000
set_option maxHeartbeats 8000000
open Go.RowKit
theorem rcheck_any (k y mo d hr mi : Int) (sn : Bool) (sd : ByteArray) (sk : Int) (zd : Bool) (z : Int) (bd bt b2 b3 b4 : Bool) (R : Int)
  (cd : ∀ W, Calls Tryz.prog 32 #[.int .i64 k] W fun e w' => e = .returned (.bool bd) ∧ W = w')
  (ct : ∀ W, Calls Tryz.prog 33 #[.int .i64 k] W fun e w' => e = .returned (.bool bt) ∧ W = w')
  (hk : (bd || bt) = false → R = 2) (h2 : b2 = false → R = 2) (h3 : b3 = false → R = 2) (h4 : b4 = false → R = 2) (hok : (bd || bt) = true → b2 = true → b3 = true → b4 = true → R = 0)
  (hb2 : b2 = if bd then dateIB y mo d else noDate y mo d) (hb4 : b4 = zoneB zd z) (c : Int) (lb cb : Bool) (hc : (c != 0) = !cb) (hb3 : b3 = if bt then withinB hr 0 23 && withinB mi 0 59 && cb && !sn && lb else noTime hr mi ⟨sn, sd, sk⟩)
  (cK : ∀ W, Calls Tryz.prog 47 #[.agg #[.bool sn, .string sd, .int .i64 sk]] W fun e w' => e = .returned (.int .i64 c) ∧ Below W.heap.size W w')
  (cS : ∀ W, Calls Tryz.prog 49 #[.int .i64 60] W fun e w' => e = .returned (.agg #[.bool false, .string ⟨#[54, 48]⟩, .int .i64 0]) ∧ Below W.heap.size W w')
  (cL : ∀ W, Calls Tryz.prog 48 #[.agg #[.bool sn, .string sd, .int .i64 sk], .agg #[.bool false, .string ⟨#[54, 48]⟩, .int .i64 0]] W fun e w' => e = .returned (.bool lb) ∧ Below W.heap.size W w')
  (w : World) : Calls Tryz.prog 14 #[.agg #[.int .i64 k, .int .i64 y, .int .i64 mo, .int .i64 d, .int .i64 hr, .int .i64 mi, .bool sn, .string sd, .int .i64 sk, .bool zd, .int .i64 z]] w fun e w' => e = .returned (.int .i64 R) ∧ Below w.heap.size w w' := by
 have HK := Lib.hid hk
 have H2 := Lib.hid h2
 have H3 := Lib.hid h3
 have H4 := Lib.hid h4
 have HOK := Lib.hid hok
 have HB2 := Lib.hid hb2
 have HB4 := Lib.hid hb4
 have HB3 := Lib.hid hb3
 have HC := Lib.hid hc
 clear hk h2 h3 h4 hok hb2 hb4 hb3 hc
 go_enter Tryz.func14, Tryz.ntmps14
 have HA : Hid (HasL (w.alloc (.cells #[.int .i64 k, .int .i64 y, .int .i64 mo, .int .i64 d, .int .i64 hr, .int .i64 mi, .bool sn, .string sd, .int .i64 sk, .bool zd, .int .i64 z] 25)) w.heap.size [.int .i64 k, .int .i64 y, .int .i64 mo, .int .i64 d, .int .i64 hr, .int .i64 mi, .bool sn, .string sd, .int .i64 sk, .bool zd, .int .i64 z]) := Lib.hid (HasL.new w [.int .i64 k, .int .i64 y, .int .i64 mo, .int .i64 d, .int .i64 hr, .int .i64 mi, .bool sn, .string sd, .int .i64 sk, .bool zd, .int .i64 z] 25)
 have HW := Lib.hid (stepA (Below.refl w.heap.size w) (.cells #[.int .i64 k, .int .i64 y, .int .i64 mo, .int .i64 d, .int .i64 hr, .int .i64 mi, .bool sn, .string sd, .int .i64 sk, .bool zd, .int .i64 z] 25))
 obtain ⟨W1, hW1⟩ : ∃ W, (w.alloc (.cells #[.int .i64 k, .int .i64 y, .int .i64 mo, .int .i64 d, .int .i64 hr, .int .i64 mi, .bool sn, .string sd, .int .i64 sk, .bool zd, .int .i64 z] 25)) = W := ⟨_, rfl⟩
 go_upto_region 1 with fail
 rw [hW1] at HA HW
 clear hW1
 go_cut [12] (fun s12 wx => s12 = .bool (!bd && !bt) ∧ HasL wx w.heap.size [.int .i64 k, .int .i64 y, .int .i64 mo, .int .i64 d, .int .i64 hr, .int .i64 mi, .bool sn, .string sd, .int .i64 sk, .bool zd, .int .i64 z] ∧ Below w.heap.size w wx)
 case first =>
  obtain ⟨dA0, dA1, dA2, dA3, dA4, dA5, dA6, dA7, dA8, dA9, dA10⟩ := HA.out.all11
  cases bd <;> cases bt
  all_goals (
   go_wp2_with (first | (go_at_call 32; refine (cd _).mono ?_; rintro e w_ ⟨rfl, rfl⟩) | (go_at_call 33; refine (ct _).mono ?_; rintro e w_ ⟨rfl, rfl⟩))
   go_meet
   exact ⟨rfl, HA.out, HW.out⟩)
 case rest =>
  clear HA HW
  obtain ⟨hb, hA, hW⟩ := hcut
  have HA := Lib.hid hA
  have HW := Lib.hid hW
  clear hA hW
  subst hb
  by_cases hkb : (bd || bt) = true
  rotate_left
  ·have hR := HK.out (by simpa using hkb)
   have HRR := Lib.hid hR
   clear hR
   cases bd <;> cases bt <;> simp at hkb
   go_wp2
   go_ret
   exact ⟨by rw [HRR.out]; rfl, HW.out⟩
  have e12 : (!bd && !bt) = false := by cases bd <;> cases bt <;> simp_all
  rw [e12]
  have HKB1 := Lib.hid hkb
  clear e12 hkb
  have dk := HA.out.cell 0 rfl
  go_wp2_with fail
  refine (cd _).mono ?_
  rintro e w_ ⟨rfl, rfl⟩
  clear dk
  go_upto_if 15 with fail
  go_cut [] (fun wx => b2 = true ∧ HasL wx w.heap.size [.int .i64 k, .int .i64 y, .int .i64 mo, .int .i64 d, .int .i64 hr, .int .i64 mi, .bool sn, .string sd, .int .i64 sk, .bool zd, .int .i64 z] ∧ Below w.heap.size w wx)
  case first =>
   cases bd
   ·skip
    have hB := HB2.out
    simp only [Bool.false_eq_true, if_false] at hB
    by_cases e1 : y = 0
    ·by_cases e2 : mo = 0
     ·by_cases e3 : d = 0
      ·subst e1 e2 e3
       obtain ⟨dA0, dA1, dA2, dA3, dA4, dA5, dA6, dA7, dA8, dA9, dA10⟩ := HA.out.all11
       go_wp2_with fail
       go_meet
       exact ⟨by rw [hB]; rfl, HA.out, HW.out⟩
      ·have hR := H2.out (by rw [hB]; unfold noDate; simp [e3])
       have f1 : (y != 0) = false := by simp [e1]
       have f2 : (mo != 0) = false := by simp [e2]
       have f3 : (d != 0) = true := by simp [e3]
       clear hB e1 e2 e3
       have HRR := Lib.hid hR
       clear hR
       obtain ⟨dA0, dA1, dA2, dA3, dA4, dA5, dA6, dA7, dA8, dA9, dA10⟩ := HA.out.all11
       go_wp2
       go_ret
       exact ⟨by rw [HRR.out]; rfl, HW.out⟩
     ·have hR := H2.out (by rw [hB]; unfold noDate; simp [e2])
      have f1 : (y != 0) = false := by simp [e1]
      have f2 : (mo != 0) = true := by simp [e2]
      clear hB e1 e2
      have HRR := Lib.hid hR
      clear hR
      obtain ⟨dA0, dA1, dA2, dA3, dA4, dA5, dA6, dA7, dA8, dA9, dA10⟩ := HA.out.all11
      go_wp2
      go_ret
      exact ⟨by rw [HRR.out]; rfl, HW.out⟩
    ·have hR := H2.out (by rw [hB]; unfold noDate; simp [e1])
     have f1 : (y != 0) = true := by simp [e1]
     clear hB e1
     have HRR := Lib.hid hR
     clear hR
     obtain ⟨dA0, dA1, dA2, dA3, dA4, dA5, dA6, dA7, dA8, dA9, dA10⟩ := HA.out.all11
     go_wp2
     go_ret
     exact ⟨by rw [HRR.out]; rfl, HW.out⟩
   ·skip
    have hB := HB2.out
    simp only [if_true] at hB
    have HBB := Lib.hid hB
    clear hB
    by_cases e0 : y < -9999
    ·have hR := H2.out (by rw [HBB.out]; unfold dateIB withinB; rw [decide_eq_false (show ¬ -9999 ≤ y by omega)]; rfl)
     have g0 : decide (y < -9999) = true := decide_eq_true e0
     clear e0
     have HRR := Lib.hid hR
     clear hR
     obtain ⟨dA0, dA1, dA2, dA3, dA4, dA5, dA6, dA7, dA8, dA9, dA10⟩ := HA.out.all11
     go_wp2_with fail
     go_quiet (fail)
     go_wp2
     go_ret
     exact ⟨by rw [HRR.out]; rfl, below_drewN HW.out _⟩
    by_cases e1 : 9999 < y
    ·have hR := H2.out (by rw [HBB.out]; unfold dateIB withinB; rw [decide_eq_false (show ¬ y ≤ 9999 by omega)]; simp)
     have g0 : decide (y < -9999) = false := decide_eq_false e0
     have g1 : decide (9999 < y) = true := decide_eq_true e1
     clear e0 e1
     have HRR := Lib.hid hR
     clear hR
     obtain ⟨dA0, dA1, dA2, dA3, dA4, dA5, dA6, dA7, dA8, dA9, dA10⟩ := HA.out.all11
     go_wp2_with fail
     go_quiet (fail)
     go_wp2
     go_ret
     exact ⟨by rw [HRR.out]; rfl, below_drewN HW.out _⟩
    by_cases e2 : y = 0
    ·have hR := H2.out (by rw [HBB.out]; unfold dateIB; rw [show (y != 0) = false by simp [e2]]; simp)
     have g0 : decide (y < -9999) = false := decide_eq_false e0
     have g1 : decide (9999 < y) = false := decide_eq_false e1
     have g2 : (y == 0) = true := by simp [e2]
     clear e0 e1 e2
     have HRR := Lib.hid hR
     clear hR
     obtain ⟨dA0, dA1, dA2, dA3, dA4, dA5, dA6, dA7, dA8, dA9, dA10⟩ := HA.out.all11
     go_wp2_with fail
     go_quiet (fail)
     go_wp2
     go_ret
     exact ⟨by rw [HRR.out]; rfl, below_drewN HW.out _⟩
    by_cases e3 : mo < 1
    ·have hR := H2.out (by rw [HBB.out]; unfold dateIB; rw [show withinB mo 1 12 = false by unfold withinB; rw [decide_eq_false (show ¬ 1 ≤ mo by omega)]; rfl]; simp)
     have g0 : decide (y < -9999) = false := decide_eq_false e0
     have g1 : decide (9999 < y) = false := decide_eq_false e1
     have g2 : (y == 0) = false := by simp [e2]
     have g3 : decide (mo < 1) = true := decide_eq_true e3
     clear e0 e1 e2 e3
     have HRR := Lib.hid hR
     clear hR
     obtain ⟨dA0, dA1, dA2, dA3, dA4, dA5, dA6, dA7, dA8, dA9, dA10⟩ := HA.out.all11
     go_wp2_with fail
     go_quiet (fail)
     go_wp2
     go_ret
     exact ⟨by rw [HRR.out]; rfl, below_drewN HW.out _⟩
    by_cases e4 : 12 < mo
    ·have hR := H2.out (by rw [HBB.out]; unfold dateIB; rw [show withinB mo 1 12 = false by unfold withinB; rw [decide_eq_false (show ¬ mo ≤ 12 by omega)]; simp]; simp)
     have g0 : decide (y < -9999) = false := decide_eq_false e0
     have g1 : decide (9999 < y) = false := decide_eq_false e1
     have g2 : (y == 0) = false := by simp [e2]
     have g3 : decide (mo < 1) = false := decide_eq_false e3
     have g4 : decide (12 < mo) = true := decide_eq_true e4
     clear e0 e1 e2 e3 e4
     have HRR := Lib.hid hR
     clear hR
     obtain ⟨dA0, dA1, dA2, dA3, dA4, dA5, dA6, dA7, dA8, dA9, dA10⟩ := HA.out.all11
     go_wp2_with fail
     go_quiet (fail)
     go_wp2
     go_ret
     exact ⟨by rw [HRR.out]; rfl, below_drewN HW.out _⟩
    by_cases e5 : d < 1
    ·have hR := H2.out (by rw [HBB.out]; unfold dateIB; rw [show withinB d 1 (lenM (cntd y) mo) = false by unfold withinB; rw [decide_eq_false (show ¬ 1 ≤ d by omega)]; rfl]; simp)
     have g0 : decide (y < -9999) = false := decide_eq_false e0
     have g1 : decide (9999 < y) = false := decide_eq_false e1
     have g2 : (y == 0) = false := by simp [e2]
     have g3 : decide (mo < 1) = false := decide_eq_false e3
     have g4 : decide (12 < mo) = false := decide_eq_false e4
     have g5 : decide (d < 1) = true := decide_eq_true e5
     clear e0 e1 e2 e3 e4 e5
     have HRR := Lib.hid hR
     clear hR
     obtain ⟨dA0, dA1, dA2, dA3, dA4, dA5, dA6, dA7, dA8, dA9, dA10⟩ := HA.out.all11
     go_wp2_with fail
     go_quiet (fail)
     go_wp2
     go_ret
     exact ⟨by rw [HRR.out]; rfl, below_drewN HW.out _⟩
    have cc := fun W => counted_any y (by omega) (by omega) W
    have cl := fun W => length_any (cntd y) mo (by omega) (by omega) W
    have hb6 : b2 = decide (d ≤ lenM (cntd y) mo) := by
     rw [HBB.out]
     unfold dateIB withinB
     rw [decide_eq_true (show -9999 ≤ y by omega), decide_eq_true (show y ≤ 9999 by omega), decide_eq_true (show 1 ≤ mo by omega), decide_eq_true (show mo ≤ 12 by omega), decide_eq_true (show 1 ≤ d by omega), show (y != 0) = true by simp [e2]]
     rfl
    have g0 : decide (y < -9999) = false := decide_eq_false e0
    have g1 : decide (9999 < y) = false := decide_eq_false e1
    have g2 : (y == 0) = false := by simp [e2]
    have g3 : decide (mo < 1) = false := decide_eq_false e3
    have g4 : decide (12 < mo) = false := decide_eq_false e4
    have g5 : decide (d < 1) = false := decide_eq_false e5
    have HB6 := Lib.hid hb6
    clear hb6 e0 e1 e2 e3 e4 e5
    generalize cntd y = cy at *
    generalize lenM cy mo = lm at *
    have HKB : Hid (KB w [(w.heap.size, [.int .i64 k, .int .i64 y, .int .i64 mo, .int .i64 d, .int .i64 hr, .int .i64 mi, .bool sn, .string sd, .int .i64 sk, .bool zd, .int .i64 z])] wc) := Lib.hid ⟨fun p hp => by
     simp only [List.mem_cons, List.mem_nil_iff, or_false] at hp
     subst hp
     exact HA.out, HW.out⟩
    have SK : ∀ W, KB w [(w.heap.size, [.int .i64 k, .int .i64 y, .int .i64 mo, .int .i64 d, .int .i64 hr, .int .i64 mi, .bool sn, .string sd, .int .i64 sk, .bool zd, .int .i64 z])] W → (W.cell? ⟨w.heap.size, 1, none⟩ = some (.int .i64 y) ∧ W.cell? ⟨w.heap.size, 2, none⟩ = some (.int .i64 mo) ∧ W.cell? ⟨w.heap.size, 3, none⟩ = some (.int .i64 d) ∧ KB w [(w.heap.size, [.int .i64 k, .int .i64 y, .int .i64 mo, .int .i64 d, .int .i64 hr, .int .i64 mi, .bool sn, .string sd, .int .i64 sk, .bool zd, .int .i64 z])] W) := fun W kq => ⟨(kq.one 0 rfl).cell 1 rfl, (kq.one 0 rfl).cell 2 rfl, (kq.one 0 rfl).cell 3 rfl, kq⟩
    have HSK := Lib.hid SK
    clear SK
    by_cases e6 : lm < d
    ·have hR := H2.out (by rw [HB6.out]; exact decide_eq_false (by omega))
     have g6 : decide (lm < d) = true := decide_eq_true e6
     have HRR := Lib.hid hR
     clear e6 hR
     go_wp2_with fail
     go_region_held3 (fun W => W.cell? ⟨w.heap.size, 1, none⟩ = some (.int .i64 y) ∧ W.cell? ⟨w.heap.size, 2, none⟩ = some (.int .i64 mo) ∧ W.cell? ⟨w.heap.size, 3, none⟩ = some (.int .i64 d) ∧ KB w [(w.heap.size, [.int .i64 k, .int .i64 y, .int .i64 mo, .int .i64 d, .int .i64 hr, .int .i64 mi, .bool sn, .string sd, .int .i64 sk, .bool zd, .int .i64 z])] W)
      (first | assumption | exact HSK.out _ HKB.out.drew1 | exact HSK.out _ k1.out)
      (first
       | (go_at_call 46; refine (cc _).mono ?_; rintro e v_ ⟨rfl, rfl⟩)
       | (go_at_call 45; refine (cl _).mono ?_; rintro e v1 ⟨rfl, u1⟩; have k1 := Lib.hid (KB.call (And.right (And.right (And.right (by assumption)))) u1)))
     rename_i hh
     have hk := Lib.hid hh.2.2.2
     clear hh
     go_wp2
     go_ret
     exact ⟨by rw [HRR.out]; rfl, hk.out.2⟩
    ·have hT2 : b2 = true := by rw [HB6.out]; exact decide_eq_true (by omega)
     have HT2 := Lib.hid hT2
     have g6 : decide (lm < d) = false := decide_eq_false e6
     clear e6 hT2
     go_wp2_with fail
     go_region_held3 (fun W => W.cell? ⟨w.heap.size, 1, none⟩ = some (.int .i64 y) ∧ W.cell? ⟨w.heap.size, 2, none⟩ = some (.int .i64 mo) ∧ W.cell? ⟨w.heap.size, 3, none⟩ = some (.int .i64 d) ∧ KB w [(w.heap.size, [.int .i64 k, .int .i64 y, .int .i64 mo, .int .i64 d, .int .i64 hr, .int .i64 mi, .bool sn, .string sd, .int .i64 sk, .bool zd, .int .i64 z])] W)
      (first | assumption | exact HSK.out _ HKB.out.drew1 | exact HSK.out _ k1.out)
      (first
       | (go_at_call 46; refine (cc _).mono ?_; rintro e v_ ⟨rfl, rfl⟩)
       | (go_at_call 45; refine (cl _).mono ?_; rintro e v1 ⟨rfl, u1⟩; have k1 := Lib.hid (KB.call (And.right (And.right (And.right (by assumption)))) u1)))
     rename_i hh
     have hk := Lib.hid hh.2.2.2
     clear hh
     go_wp2_with fail
     go_meet
     exact ⟨HT2.out, hk.out.one 0 rfl, hk.out.2⟩
  case rest =>
   clear HA HW
   obtain ⟨hb, hA, hW⟩ := hcut
   have HA := Lib.hid hA
   have HW := Lib.hid hW
   clear hA hW
   have HT2 := Lib.hid hb
   clear hb
   have dk := HA.out.cell 0 rfl
   go_wp2_with fail
   refine (ct _).mono ?_
   rintro e w_ ⟨rfl, rfl⟩
   clear dk
   go_upto_if 70 with fail
   go_cut [] (fun wx => b3 = true ∧ HasL wx w.heap.size [.int .i64 k, .int .i64 y, .int .i64 mo, .int .i64 d, .int .i64 hr, .int .i64 mi, .bool sn, .string sd, .int .i64 sk, .bool zd, .int .i64 z] ∧ Below w.heap.size w wx)
   case first =>
    cases bt
    ·skip
     have hB := HB3.out
     simp only [Bool.false_eq_true, if_false] at hB
     obtain ⟨q1, p1⟩ : ∃ b, (hr == 0) = b := ⟨_, rfl⟩
     obtain ⟨q2, p2⟩ : ∃ b, (mi == 0) = b := ⟨_, rfl⟩
     obtain ⟨q3, p3⟩ : ∃ b, (sn == false) = b := ⟨_, rfl⟩
     obtain ⟨q4, p4⟩ : ∃ b, (sd.toList == []) = b := ⟨_, rfl⟩
     obtain ⟨q5, p5⟩ : ∃ b, (sk == 0) = b := ⟨_, rfl⟩
     have n1 : (hr != 0) = !q1 := by rw [← p1]; rfl
     have n2 : (mi != 0) = !q2 := by rw [← p2]; rfl
     have hB9 : b3 = (q1 && q2 && (q3 && q4 && q5)) := by rw [hB]; unfold noTime; simp only [p1, p2, p3, p4, p5]
     have HB9 := Lib.hid hB9
     clear hB hB9 p1 p2
     obtain ⟨dA0, dA1, dA2, dA3, dA4, dA5, dA6, dA7, dA8, dA9, dA10⟩ := HA.out.all11
     cases q1
     ·have HRR := Lib.hid (H3.out (by rw [HB9.out]; rfl))
      go_wp2
      go_ret
      exact ⟨by rw [HRR.out]; rfl, HW.out⟩
     cases q2
     ·have HRR := Lib.hid (H3.out (by rw [HB9.out]; rfl))
      go_wp2
      go_ret
      exact ⟨by rw [HRR.out]; rfl, HW.out⟩
     cases q3 <;> cases q4 <;> cases q5
     all_goals (first
      | (have HT3 : Hid (b3 = true) := Lib.hid (by rw [HB9.out]; rfl); go_wp2_with fail; go_meet; exact ⟨HT3.out, HA.out, HW.out⟩)
      | (have HRR := Lib.hid (H3.out (by rw [HB9.out]; rfl)); go_wp2; go_ret; exact ⟨by rw [HRR.out]; rfl, HW.out⟩))
    ·skip
     have hB := HB3.out
     simp only [if_true] at hB
     have HBB := Lib.hid hB
     clear hB
     by_cases e0 : hr < 0
     ·have hR := H3.out (by rw [HBB.out]; unfold withinB; rw [decide_eq_false (show ¬ 0 ≤ hr by omega)]; simp)
      have t0 : decide (hr < 0) = true := decide_eq_true e0
      clear e0
      have HRR := Lib.hid hR
      clear hR
      obtain ⟨dA0, dA1, dA2, dA3, dA4, dA5, dA6, dA7, dA8, dA9, dA10⟩ := HA.out.all11
      go_wp2_with fail
      go_quiet (fail)
      go_wp2
      go_ret
      exact ⟨by rw [HRR.out]; rfl, below_drewN HW.out _⟩
     by_cases e1 : 23 < hr
     ·have hR := H3.out (by rw [HBB.out]; unfold withinB; rw [decide_eq_false (show ¬ hr ≤ 23 by omega)]; simp)
      have t0 : decide (hr < 0) = false := decide_eq_false e0
      have t1 : decide (23 < hr) = true := decide_eq_true e1
      clear e0 e1
      have HRR := Lib.hid hR
      clear hR
      obtain ⟨dA0, dA1, dA2, dA3, dA4, dA5, dA6, dA7, dA8, dA9, dA10⟩ := HA.out.all11
      go_wp2_with fail
      go_quiet (fail)
      go_wp2
      go_ret
      exact ⟨by rw [HRR.out]; rfl, below_drewN HW.out _⟩
     by_cases e2 : mi < 0
     ·have hR := H3.out (by rw [HBB.out]; unfold withinB; rw [decide_eq_false (show ¬ 0 ≤ mi by omega)]; simp)
      have t0 : decide (hr < 0) = false := decide_eq_false e0
      have t1 : decide (23 < hr) = false := decide_eq_false e1
      have t2 : decide (mi < 0) = true := decide_eq_true e2
      clear e0 e1 e2
      have HRR := Lib.hid hR
      clear hR
      obtain ⟨dA0, dA1, dA2, dA3, dA4, dA5, dA6, dA7, dA8, dA9, dA10⟩ := HA.out.all11
      go_wp2_with fail
      go_quiet (fail)
      go_wp2
      go_ret
      exact ⟨by rw [HRR.out]; rfl, below_drewN HW.out _⟩
     by_cases e3 : 59 < mi
     ·have hR := H3.out (by rw [HBB.out]; unfold withinB; rw [decide_eq_false (show ¬ mi ≤ 59 by omega)]; simp)
      have t0 : decide (hr < 0) = false := decide_eq_false e0
      have t1 : decide (23 < hr) = false := decide_eq_false e1
      have t2 : decide (mi < 0) = false := decide_eq_false e2
      have t3 : decide (59 < mi) = true := decide_eq_true e3
      clear e0 e1 e2 e3
      have HRR := Lib.hid hR
      clear hR
      obtain ⟨dA0, dA1, dA2, dA3, dA4, dA5, dA6, dA7, dA8, dA9, dA10⟩ := HA.out.all11
      go_wp2_with fail
      go_quiet (fail)
      go_wp2
      go_ret
      exact ⟨by rw [HRR.out]; rfl, below_drewN HW.out _⟩
     have hb9 : b3 = (cb && !sn && lb) := by
      rw [HBB.out]
      unfold withinB
      rw [decide_eq_true (show 0 ≤ hr by omega), decide_eq_true (show hr ≤ 23 by omega), decide_eq_true (show 0 ≤ mi by omega), decide_eq_true (show mi ≤ 59 by omega)]
      rfl
     have HB9 := Lib.hid hb9
     clear hb9
     have t0 : decide (hr < 0) = false := decide_eq_false e0
     have t1 : decide (23 < hr) = false := decide_eq_false e1
     have t2 : decide (mi < 0) = false := decide_eq_false e2
     have t3 : decide (59 < mi) = false := decide_eq_false e3
     clear e0 e1 e2 e3
     have c0 : (c != 0) = !cb := HC.out
     cases cb
     ·have HRR := Lib.hid (H3.out (by rw [HB9.out]; rfl))
      have HKB : Hid (KB w [(w.heap.size, [.int .i64 k, .int .i64 y, .int .i64 mo, .int .i64 d, .int .i64 hr, .int .i64 mi, .bool sn, .string sd, .int .i64 sk, .bool zd, .int .i64 z])] wc) := Lib.hid ⟨fun p hp => by
       simp only [List.mem_cons, List.mem_nil_iff, or_false] at hp
       subst hp
       exact HA.out, HW.out⟩
      have SK : ∀ W, KB w [(w.heap.size, [.int .i64 k, .int .i64 y, .int .i64 mo, .int .i64 d, .int .i64 hr, .int .i64 mi, .bool sn, .string sd, .int .i64 sk, .bool zd, .int .i64 z])] W → (fun W => W.cell? ⟨w.heap.size, 4, none⟩ = some (.int .i64 hr) ∧ W.cell? ⟨w.heap.size, 5, none⟩ = some (.int .i64 mi) ∧ W.cell? ⟨w.heap.size, 6, none⟩ = some (.bool sn) ∧ W.cell? ⟨w.heap.size, 7, none⟩ = some (.string sd) ∧ W.cell? ⟨w.heap.size, 8, none⟩ = some (.int .i64 sk) ∧ KB w [(w.heap.size, [.int .i64 k, .int .i64 y, .int .i64 mo, .int .i64 d, .int .i64 hr, .int .i64 mi, .bool sn, .string sd, .int .i64 sk, .bool zd, .int .i64 z])] W) W := fun W kq => ⟨(kq.one 0 rfl).cell 4 rfl, (kq.one 0 rfl).cell 5 rfl, (kq.one 0 rfl).cell 6 rfl, (kq.one 0 rfl).cell 7 rfl, (kq.one 0 rfl).cell 8 rfl, kq⟩
      have HSK := Lib.hid SK
      clear SK
      go_wp2_with fail
      refine wp_region_held_drew (S := (fun W => W.cell? ⟨w.heap.size, 4, none⟩ = some (.int .i64 hr) ∧ W.cell? ⟨w.heap.size, 5, none⟩ = some (.int .i64 mi) ∧ W.cell? ⟨w.heap.size, 6, none⟩ = some (.bool sn) ∧ W.cell? ⟨w.heap.size, 7, none⟩ = some (.string sd) ∧ W.cell? ⟨w.heap.size, 8, none⟩ = some (.int .i64 sk) ∧ KB w [(w.heap.size, [.int .i64 k, .int .i64 y, .int .i64 mo, .int .i64 d, .int .i64 hr, .int .i64 mi, .bool sn, .string sd, .int .i64 sk, .bool zd, .int .i64 z])] W)) (by kernel_rfl) (HSK.out _ HKB.out.drew1) (fun hHeld => ?_)
      refine tk (v := ?_) 0 (by assumption) ?_ ?_
      rotate_left
      ·intro w hSw
       (try dsimp only at hSw)
       go_simp
       (try with_reducible rfl)
      try simp only [fl]
      refine tk (v := ?_) 1 (by assumption) ?_ ?_
      rotate_left
      ·intro w hSw
       (try dsimp only at hSw)
       go_simp
       (try with_reducible rfl)
      try simp only [fl]
      refine tk (v := ?_) 2 (by assumption) ?_ ?_
      rotate_left
      ·intro w hSw
       (try dsimp only at hSw)
       go_simp
       (try with_reducible rfl)
      try simp only [fl]
      refine tk (v := ?_) 3 (by assumption) ?_ ?_
      rotate_left
      ·intro w hSw
       (try dsimp only at hSw)
       go_simp
       (try with_reducible rfl)
      try simp only [fl]
      refine tk (v := ?_) 4 (by assumption) ?_ ?_
      rotate_left
      ·intro w hSw
       (try dsimp only at hSw)
       go_simp
       (try with_reducible rfl)
      try simp only [fl]
      refine tk (v := ?_) 5 (by assumption) ?_ ?_
      rotate_left
      ·intro w hSw
       (try dsimp only at hSw)
       go_simp
       (try with_reducible rfl)
      try simp only [fl]
      refine tk (v := ?_) 6 (by assumption) ?_ ?_
      rotate_left
      ·intro w hSw
       (try dsimp only at hSw)
       go_simp
       (try with_reducible rfl)
      try simp only [fl]
      refine tk (v := ?_) 7 (by assumption) ?_ ?_
      rotate_left
      ·intro w hSw
       (try dsimp only at hSw)
       go_simp
       (try with_reducible rfl)
      try simp only [fl]
      refine tk (v := ?_) 8 (by assumption) ?_ ?_
      rotate_left
      ·intro w hSw
       (try dsimp only at hSw)
       go_simp
       (try with_reducible rfl)
      try simp only [fl]
      refine tk (v := ?_) 9 (by assumption) ?_ ?_
      rotate_left
      ·intro w hSw
       (try dsimp only at hSw)
       go_simp
       (try with_reducible rfl)
      try simp only [fl]
      refine tk (v := ?_) 10 (by assumption) ?_ ?_
      rotate_left
      ·intro w hSw
       (try dsimp only at hSw)
       go_simp
       (try with_reducible rfl)
      try simp only [fl]
      refine tk (v := ?_) 11 (by assumption) ?_ ?_
      rotate_left
      ·intro w hSw
       (try dsimp only at hSw)
       go_simp
       (try with_reducible rfl)
      try simp only [fl]
      refine tk (v := ?_) 12 (by assumption) ?_ ?_
      rotate_left
      ·intro w hSw
       (try dsimp only at hSw)
       go_simp
       (try with_reducible rfl)
      try simp only [fl]
      refine tk (v := ?_) 13 (by assumption) ?_ ?_
      rotate_left
      ·intro w hSw
       (try dsimp only at hSw)
       go_simp
       (try with_reducible rfl)
      try simp only [fl]
      refine tk (v := ?_) 14 (by assumption) ?_ ?_
      rotate_left
      ·intro w hSw
       (try dsimp only at hSw)
       go_simp
       (try with_reducible rfl)
      try simp only [fl]
      refine tk (v := ?_) 15 (by assumption) ?_ ?_
      rotate_left
      ·intro w hSw
       (try dsimp only at hSw)
       go_simp
       (try with_reducible rfl)
      try simp only [fl]
      refine tk (v := ?_) 16 (by assumption) ?_ ?_
      rotate_left
      ·intro w hSw
       (try dsimp only at hSw)
       go_simp
       (try with_reducible rfl)
      try simp only [fl]
      refine tk (v := ?_) 17 (by assumption) ?_ ?_
      rotate_left
      ·intro w hSw
       (try dsimp only at hSw)
       go_simp
       (try with_reducible rfl)
      try simp only [fl]
      refine tk (v := ?_) 18 (by assumption) ?_ ?_
      rotate_left
      ·intro w hSw
       (try dsimp only at hSw)
       go_simp
       (try with_reducible rfl)
      try simp only [fl]
      refine tk (v := ?_) 19 (by assumption) ?_ ?_
      rotate_left
      ·intro w hSw
       (try dsimp only at hSw)
       go_simp
       (try with_reducible rfl)
      try simp only [fl]
      refine tk (v := ?_) 20 (by assumption) ?_ ?_
      rotate_left
      ·intro w hSw
       (try dsimp only at hSw)
       go_simp
       (try with_reducible rfl)
      try simp only [fl]
      refine wpAnyH_ready (rs := [21]) (by kernel_rfl) (by simp) ?_
      refine AllReadyH.cons rfl (fun K hK => ?_) AllReadyH.nil
      go_simp
      refine (cK _).mono ?_
      rintro e v1 ⟨rfl, u1⟩
      have k1 := Lib.hid (KB.call hHeld.2.2.2.2.2 u1)
      clear u1
      refine hK.out _ _ (HSK.out _ k1.out) (fun hHeld => ?_)
      clear hK K
      try simp only [fl]
      refine tk (v := ?_) 22 (by assumption) ?_ ?_
      rotate_left
      ·intro w hSw
       (try dsimp only at hSw)
       go_simp
       (try with_reducible rfl)
      try simp only [fl]
      refine tk (v := ?_) 23 (by assumption) ?_ ?_
      rotate_left
      ·intro w hSw
       (try dsimp only at hSw)
       go_simp
       (try with_reducible rfl)
      try simp only [fl]
      refine tk (v := ?_) 24 (by assumption) ?_ ?_
      rotate_left
      ·intro w hSw
       (try dsimp only at hSw)
       go_simp
       (try with_reducible rfl)
      try simp only [fl]
      refine wpAnyH_take (i := 25) (v := undef) rfl (by kernel_rfl) (by kernel_rfl) (by kernel_rfl) (fun _ _ _ h => h) (Or.inr ⟨by rfl, rfl⟩) (by assumption) ?_
      try simp only [fl]
      refine wpAnyH_take (i := 26) (v := undef) rfl (by kernel_rfl) (by kernel_rfl) (by kernel_rfl) (fun _ _ _ h => h) (Or.inr ⟨by rfl, rfl⟩) (by assumption) ?_
      try simp only [fl]
      refine wpAnyH_take (i := 27) (v := undef) rfl (by kernel_rfl) (by kernel_rfl) (by kernel_rfl) (fun _ _ _ h => h) (Or.inr ⟨by rfl, rfl⟩) (by assumption) ?_
      try simp only [fl]
      refine tk (v := ?_) 28 (by assumption) ?_ ?_
      rotate_left
      ·intro w hSw
       (try dsimp only at hSw)
       go_simp
       (try with_reducible rfl)
      try simp only [fl]
      refine tk (v := ?_) 29 (by assumption) ?_ ?_
      rotate_left
      ·intro w hSw
       (try dsimp only at hSw)
       go_simp
       (try with_reducible rfl)
      try simp only [fl]
      refine wpAnyH_take (i := 30) (v := undef) rfl (by kernel_rfl) (by kernel_rfl) (by kernel_rfl) (fun _ _ _ h => h) (Or.inr ⟨by rfl, rfl⟩) (by assumption) ?_
      try simp only [fl]
      refine wpAnyH_take (i := 31) (v := undef) rfl (by kernel_rfl) (by kernel_rfl) (by kernel_rfl) (fun _ _ _ h => h) (Or.inr ⟨by rfl, rfl⟩) (by assumption) ?_
      try simp only [fl]
      refine wpAnyH_take (i := 32) (v := undef) rfl (by kernel_rfl) (by kernel_rfl) (by kernel_rfl) (fun _ _ _ h => h) (Or.inr ⟨by rfl, rfl⟩) (by assumption) ?_
      try simp only [fl]
      refine wpAnyH_take (i := 33) (v := undef) rfl (by kernel_rfl) (by kernel_rfl) (by kernel_rfl) (fun _ _ _ h => h) (Or.inr ⟨by rfl, rfl⟩) (by assumption) ?_
      try simp only [fl]
      refine wpAnyH_take (i := 34) (v := undef) rfl (by kernel_rfl) (by kernel_rfl) (by kernel_rfl) (fun _ _ _ h => h) (Or.inr ⟨by rfl, rfl⟩) (by assumption) ?_
      try simp only [fl]
      refine tk (v := ?_) 35 (by assumption) ?_ ?_
      rotate_left
      ·intro w hSw
       (try dsimp only at hSw)
       go_simp
       (try with_reducible rfl)
      try simp only [fl]
      refine wpAnyH_done (by kernel_rfl) ?_ _
      have hk := Lib.hid hHeld.2.2.2.2.2
      clear hHeld
      go_wp2
      go_ret
      exact ⟨by rw [HRR.out]; rfl, hk.out.2⟩
     cases sn
     rotate_left
     ·have HRR := Lib.hid (H3.out (by rw [HB9.out]; rfl))
      have HKB : Hid (KB w [(w.heap.size, [.int .i64 k, .int .i64 y, .int .i64 mo, .int .i64 d, .int .i64 hr, .int .i64 mi, .bool true, .string sd, .int .i64 sk, .bool zd, .int .i64 z])] wc) := Lib.hid ⟨fun p hp => by
       simp only [List.mem_cons, List.mem_nil_iff, or_false] at hp
       subst hp
       exact HA.out, HW.out⟩
      have SK : ∀ W, KB w [(w.heap.size, [.int .i64 k, .int .i64 y, .int .i64 mo, .int .i64 d, .int .i64 hr, .int .i64 mi, .bool true, .string sd, .int .i64 sk, .bool zd, .int .i64 z])] W → (fun W => W.cell? ⟨w.heap.size, 4, none⟩ = some (.int .i64 hr) ∧ W.cell? ⟨w.heap.size, 5, none⟩ = some (.int .i64 mi) ∧ W.cell? ⟨w.heap.size, 6, none⟩ = some (.bool true) ∧ W.cell? ⟨w.heap.size, 7, none⟩ = some (.string sd) ∧ W.cell? ⟨w.heap.size, 8, none⟩ = some (.int .i64 sk) ∧ KB w [(w.heap.size, [.int .i64 k, .int .i64 y, .int .i64 mo, .int .i64 d, .int .i64 hr, .int .i64 mi, .bool true, .string sd, .int .i64 sk, .bool zd, .int .i64 z])] W) W := fun W kq => ⟨(kq.one 0 rfl).cell 4 rfl, (kq.one 0 rfl).cell 5 rfl, (kq.one 0 rfl).cell 6 rfl, (kq.one 0 rfl).cell 7 rfl, (kq.one 0 rfl).cell 8 rfl, kq⟩
      have HSK := Lib.hid SK
      clear SK
      go_wp2_with fail
      refine wp_region_held_drew (S := (fun W => W.cell? ⟨w.heap.size, 4, none⟩ = some (.int .i64 hr) ∧ W.cell? ⟨w.heap.size, 5, none⟩ = some (.int .i64 mi) ∧ W.cell? ⟨w.heap.size, 6, none⟩ = some (.bool true) ∧ W.cell? ⟨w.heap.size, 7, none⟩ = some (.string sd) ∧ W.cell? ⟨w.heap.size, 8, none⟩ = some (.int .i64 sk) ∧ KB w [(w.heap.size, [.int .i64 k, .int .i64 y, .int .i64 mo, .int .i64 d, .int .i64 hr, .int .i64 mi, .bool true, .string sd, .int .i64 sk, .bool zd, .int .i64 z])] W)) (by kernel_rfl) (HSK.out _ HKB.out.drew1) (fun hHeld => ?_)
      refine tk (v := ?_) 0 (by assumption) ?_ ?_
      rotate_left
      ·intro w hSw
       (try dsimp only at hSw)
       go_simp
       (try with_reducible rfl)
      try simp only [fl]
      refine tk (v := ?_) 1 (by assumption) ?_ ?_
      rotate_left
      ·intro w hSw
       (try dsimp only at hSw)
       go_simp
       (try with_reducible rfl)
      try simp only [fl]
      refine tk (v := ?_) 2 (by assumption) ?_ ?_
      rotate_left
      ·intro w hSw
       (try dsimp only at hSw)
       go_simp
       (try with_reducible rfl)
      try simp only [fl]
      refine tk (v := ?_) 3 (by assumption) ?_ ?_
      rotate_left
      ·intro w hSw
       (try dsimp only at hSw)
       go_simp
       (try with_reducible rfl)
      try simp only [fl]
      refine tk (v := ?_) 4 (by assumption) ?_ ?_
      rotate_left
      ·intro w hSw
       (try dsimp only at hSw)
       go_simp
       (try with_reducible rfl)
      try simp only [fl]
      refine tk (v := ?_) 5 (by assumption) ?_ ?_
      rotate_left
      ·intro w hSw
       (try dsimp only at hSw)
       go_simp
       (try with_reducible rfl)
      try simp only [fl]
      refine tk (v := ?_) 6 (by assumption) ?_ ?_
      rotate_left
      ·intro w hSw
       (try dsimp only at hSw)
       go_simp
       (try with_reducible rfl)
      try simp only [fl]
      refine tk (v := ?_) 7 (by assumption) ?_ ?_
      rotate_left
      ·intro w hSw
       (try dsimp only at hSw)
       go_simp
       (try with_reducible rfl)
      try simp only [fl]
      refine tk (v := ?_) 8 (by assumption) ?_ ?_
      rotate_left
      ·intro w hSw
       (try dsimp only at hSw)
       go_simp
       (try with_reducible rfl)
      try simp only [fl]
      refine tk (v := ?_) 9 (by assumption) ?_ ?_
      rotate_left
      ·intro w hSw
       (try dsimp only at hSw)
       go_simp
       (try with_reducible rfl)
      try simp only [fl]
      refine tk (v := ?_) 10 (by assumption) ?_ ?_
      rotate_left
      ·intro w hSw
       (try dsimp only at hSw)
       go_simp
       (try with_reducible rfl)
      try simp only [fl]
      refine tk (v := ?_) 11 (by assumption) ?_ ?_
      rotate_left
      ·intro w hSw
       (try dsimp only at hSw)
       go_simp
       (try with_reducible rfl)
      try simp only [fl]
      refine tk (v := ?_) 12 (by assumption) ?_ ?_
      rotate_left
      ·intro w hSw
       (try dsimp only at hSw)
       go_simp
       (try with_reducible rfl)
      try simp only [fl]
      refine tk (v := ?_) 13 (by assumption) ?_ ?_
      rotate_left
      ·intro w hSw
       (try dsimp only at hSw)
       go_simp
       (try with_reducible rfl)
      try simp only [fl]
      refine tk (v := ?_) 14 (by assumption) ?_ ?_
      rotate_left
      ·intro w hSw
       (try dsimp only at hSw)
       go_simp
       (try with_reducible rfl)
      try simp only [fl]
      refine tk (v := ?_) 15 (by assumption) ?_ ?_
      rotate_left
      ·intro w hSw
       (try dsimp only at hSw)
       go_simp
       (try with_reducible rfl)
      try simp only [fl]
      refine tk (v := ?_) 16 (by assumption) ?_ ?_
      rotate_left
      ·intro w hSw
       (try dsimp only at hSw)
       go_simp
       (try with_reducible rfl)
      try simp only [fl]
      refine tk (v := ?_) 17 (by assumption) ?_ ?_
      rotate_left
      ·intro w hSw
       (try dsimp only at hSw)
       go_simp
       (try with_reducible rfl)
      try simp only [fl]
      refine tk (v := ?_) 18 (by assumption) ?_ ?_
      rotate_left
      ·intro w hSw
       (try dsimp only at hSw)
       go_simp
       (try with_reducible rfl)
      try simp only [fl]
      refine tk (v := ?_) 19 (by assumption) ?_ ?_
      rotate_left
      ·intro w hSw
       (try dsimp only at hSw)
       go_simp
       (try with_reducible rfl)
      try simp only [fl]
      refine tk (v := ?_) 20 (by assumption) ?_ ?_
      rotate_left
      ·intro w hSw
       (try dsimp only at hSw)
       go_simp
       (try with_reducible rfl)
      try simp only [fl]
      refine wpAnyH_ready (rs := [21]) (by kernel_rfl) (by simp) ?_
      refine AllReadyH.cons rfl (fun K hK => ?_) AllReadyH.nil
      go_simp
      refine (cK _).mono ?_
      rintro e v1 ⟨rfl, u1⟩
      have k1 := Lib.hid (KB.call hHeld.2.2.2.2.2 u1)
      clear u1
      refine hK.out _ _ (HSK.out _ k1.out) (fun hHeld => ?_)
      clear hK K
      try simp only [fl]
      refine tk (v := ?_) 22 (by assumption) ?_ ?_
      rotate_left
      ·intro w hSw
       (try dsimp only at hSw)
       go_simp
       (try with_reducible rfl)
      try simp only [fl]
      refine tk (v := ?_) 23 (by assumption) ?_ ?_
      rotate_left
      ·intro w hSw
       (try dsimp only at hSw)
       go_simp
       (try with_reducible rfl)
      try simp only [fl]
      refine tk (v := ?_) 24 (by assumption) ?_ ?_
      rotate_left
      ·intro w hSw
       (try dsimp only at hSw)
       go_simp
       (try with_reducible rfl)
      try simp only [fl]
      refine tk (v := ?_) 25 (by assumption) ?_ ?_
      rotate_left
      ·intro w hSw
       (try dsimp only at hSw)
       go_simp
       (try with_reducible rfl)
      try simp only [fl]
      refine tk (v := ?_) 26 (by assumption) ?_ ?_
      rotate_left
      ·intro w hSw
       (try dsimp only at hSw)
       go_simp
       (try with_reducible rfl)
      try simp only [fl]
      refine tk (v := ?_) 27 (by assumption) ?_ ?_
      rotate_left
      ·intro w hSw
       (try dsimp only at hSw)
       go_simp
       (try with_reducible rfl)
      try simp only [fl]
      refine tk (v := ?_) 28 (by assumption) ?_ ?_
      rotate_left
      ·intro w hSw
       (try dsimp only at hSw)
       go_simp
       (try with_reducible rfl)
      try simp only [fl]
      refine tk (v := ?_) 29 (by assumption) ?_ ?_
      rotate_left
      ·intro w hSw
       (try dsimp only at hSw)
       go_simp
       (try with_reducible rfl)
      try simp only [fl]
      refine wpAnyH_take (i := 30) (v := undef) rfl (by kernel_rfl) (by kernel_rfl) (by kernel_rfl) (fun _ _ _ h => h) (Or.inr ⟨by rfl, rfl⟩) (by assumption) ?_
      try simp only [fl]
      refine wpAnyH_take (i := 31) (v := undef) rfl (by kernel_rfl) (by kernel_rfl) (by kernel_rfl) (fun _ _ _ h => h) (Or.inr ⟨by rfl, rfl⟩) (by assumption) ?_
      try simp only [fl]
      refine wpAnyH_take (i := 32) (v := undef) rfl (by kernel_rfl) (by kernel_rfl) (by kernel_rfl) (fun _ _ _ h => h) (Or.inr ⟨by rfl, rfl⟩) (by assumption) ?_
      try simp only [fl]
      refine wpAnyH_take (i := 33) (v := undef) rfl (by kernel_rfl) (by kernel_rfl) (by kernel_rfl) (fun _ _ _ h => h) (Or.inr ⟨by rfl, rfl⟩) (by assumption) ?_
      try simp only [fl]
      refine wpAnyH_take (i := 34) (v := undef) rfl (by kernel_rfl) (by kernel_rfl) (by kernel_rfl) (fun _ _ _ h => h) (Or.inr ⟨by rfl, rfl⟩) (by assumption) ?_
      try simp only [fl]
      refine tk (v := ?_) 35 (by assumption) ?_ ?_
      rotate_left
      ·intro w hSw
       (try dsimp only at hSw)
       go_simp
       (try with_reducible rfl)
      try simp only [fl]
      refine wpAnyH_done (by kernel_rfl) ?_ _
      have hk := Lib.hid hHeld.2.2.2.2.2
      clear hHeld
      go_wp2
      go_ret
      exact ⟨by rw [HRR.out]; rfl, hk.out.2⟩
     cases lb
     ·have HRR := Lib.hid (H3.out (by rw [HB9.out]; rfl))
      have HKB : Hid (KB w [(w.heap.size, [.int .i64 k, .int .i64 y, .int .i64 mo, .int .i64 d, .int .i64 hr, .int .i64 mi, .bool false, .string sd, .int .i64 sk, .bool zd, .int .i64 z])] wc) := Lib.hid ⟨fun p hp => by
       simp only [List.mem_cons, List.mem_nil_iff, or_false] at hp
       subst hp
       exact HA.out, HW.out⟩
      have SK : ∀ W, KB w [(w.heap.size, [.int .i64 k, .int .i64 y, .int .i64 mo, .int .i64 d, .int .i64 hr, .int .i64 mi, .bool false, .string sd, .int .i64 sk, .bool zd, .int .i64 z])] W → (fun W => W.cell? ⟨w.heap.size, 4, none⟩ = some (.int .i64 hr) ∧ W.cell? ⟨w.heap.size, 5, none⟩ = some (.int .i64 mi) ∧ W.cell? ⟨w.heap.size, 6, none⟩ = some (.bool false) ∧ W.cell? ⟨w.heap.size, 7, none⟩ = some (.string sd) ∧ W.cell? ⟨w.heap.size, 8, none⟩ = some (.int .i64 sk) ∧ KB w [(w.heap.size, [.int .i64 k, .int .i64 y, .int .i64 mo, .int .i64 d, .int .i64 hr, .int .i64 mi, .bool false, .string sd, .int .i64 sk, .bool zd, .int .i64 z])] W) W := fun W kq => ⟨(kq.one 0 rfl).cell 4 rfl, (kq.one 0 rfl).cell 5 rfl, (kq.one 0 rfl).cell 6 rfl, (kq.one 0 rfl).cell 7 rfl, (kq.one 0 rfl).cell 8 rfl, kq⟩
      have HSK := Lib.hid SK
      clear SK
      go_wp2_with fail
      refine wp_region_held_drew (S := (fun W => W.cell? ⟨w.heap.size, 4, none⟩ = some (.int .i64 hr) ∧ W.cell? ⟨w.heap.size, 5, none⟩ = some (.int .i64 mi) ∧ W.cell? ⟨w.heap.size, 6, none⟩ = some (.bool false) ∧ W.cell? ⟨w.heap.size, 7, none⟩ = some (.string sd) ∧ W.cell? ⟨w.heap.size, 8, none⟩ = some (.int .i64 sk) ∧ KB w [(w.heap.size, [.int .i64 k, .int .i64 y, .int .i64 mo, .int .i64 d, .int .i64 hr, .int .i64 mi, .bool false, .string sd, .int .i64 sk, .bool zd, .int .i64 z])] W)) (by kernel_rfl) (HSK.out _ HKB.out.drew1) (fun hHeld => ?_)
      refine tk (v := ?_) 0 (by assumption) ?_ ?_
      rotate_left
      ·intro w hSw
       (try dsimp only at hSw)
       go_simp
       (try with_reducible rfl)
      try simp only [fl]
      refine tk (v := ?_) 1 (by assumption) ?_ ?_
      rotate_left
      ·intro w hSw
       (try dsimp only at hSw)
       go_simp
       (try with_reducible rfl)
      try simp only [fl]
      refine tk (v := ?_) 2 (by assumption) ?_ ?_
      rotate_left
      ·intro w hSw
       (try dsimp only at hSw)
       go_simp
       (try with_reducible rfl)
      try simp only [fl]
      refine tk (v := ?_) 3 (by assumption) ?_ ?_
      rotate_left
      ·intro w hSw
       (try dsimp only at hSw)
       go_simp
       (try with_reducible rfl)
      try simp only [fl]
      refine tk (v := ?_) 4 (by assumption) ?_ ?_
      rotate_left
      ·intro w hSw
       (try dsimp only at hSw)
       go_simp
       (try with_reducible rfl)
      try simp only [fl]
      refine tk (v := ?_) 5 (by assumption) ?_ ?_
      rotate_left
      ·intro w hSw
       (try dsimp only at hSw)
       go_simp
       (try with_reducible rfl)
      try simp only [fl]
      refine tk (v := ?_) 6 (by assumption) ?_ ?_
      rotate_left
      ·intro w hSw
       (try dsimp only at hSw)
       go_simp
       (try with_reducible rfl)
      try simp only [fl]
      refine tk (v := ?_) 7 (by assumption) ?_ ?_
      rotate_left
      ·intro w hSw
       (try dsimp only at hSw)
       go_simp
       (try with_reducible rfl)
      try simp only [fl]
      refine tk (v := ?_) 8 (by assumption) ?_ ?_
      rotate_left
      ·intro w hSw
       (try dsimp only at hSw)
       go_simp
       (try with_reducible rfl)
      try simp only [fl]
      refine tk (v := ?_) 9 (by assumption) ?_ ?_
      rotate_left
      ·intro w hSw
       (try dsimp only at hSw)
       go_simp
       (try with_reducible rfl)
      try simp only [fl]
      refine tk (v := ?_) 10 (by assumption) ?_ ?_
      rotate_left
      ·intro w hSw
       (try dsimp only at hSw)
       go_simp
       (try with_reducible rfl)
      try simp only [fl]
      refine tk (v := ?_) 11 (by assumption) ?_ ?_
      rotate_left
      ·intro w hSw
       (try dsimp only at hSw)
       go_simp
       (try with_reducible rfl)
      try simp only [fl]
      refine tk (v := ?_) 12 (by assumption) ?_ ?_
      rotate_left
      ·intro w hSw
       (try dsimp only at hSw)
       go_simp
       (try with_reducible rfl)
      try simp only [fl]
      refine tk (v := ?_) 13 (by assumption) ?_ ?_
      rotate_left
      ·intro w hSw
       (try dsimp only at hSw)
       go_simp
       (try with_reducible rfl)
      try simp only [fl]
      refine tk (v := ?_) 14 (by assumption) ?_ ?_
      rotate_left
      ·intro w hSw
       (try dsimp only at hSw)
       go_simp
       (try with_reducible rfl)
      try simp only [fl]
      refine tk (v := ?_) 15 (by assumption) ?_ ?_
      rotate_left
      ·intro w hSw
       (try dsimp only at hSw)
       go_simp
       (try with_reducible rfl)
      try simp only [fl]
      refine tk (v := ?_) 16 (by assumption) ?_ ?_
      rotate_left
      ·intro w hSw
       (try dsimp only at hSw)
       go_simp
       (try with_reducible rfl)
      try simp only [fl]
      refine tk (v := ?_) 17 (by assumption) ?_ ?_
      rotate_left
      ·intro w hSw
       (try dsimp only at hSw)
       go_simp
       (try with_reducible rfl)
      try simp only [fl]
      refine tk (v := ?_) 18 (by assumption) ?_ ?_
      rotate_left
      ·intro w hSw
       (try dsimp only at hSw)
       go_simp
       (try with_reducible rfl)
      try simp only [fl]
      refine tk (v := ?_) 19 (by assumption) ?_ ?_
      rotate_left
      ·intro w hSw
       (try dsimp only at hSw)
       go_simp
       (try with_reducible rfl)
      try simp only [fl]
      refine tk (v := ?_) 20 (by assumption) ?_ ?_
      rotate_left
      ·intro w hSw
       (try dsimp only at hSw)
       go_simp
       (try with_reducible rfl)
      try simp only [fl]
      refine wpAnyH_ready (rs := [21]) (by kernel_rfl) (by simp) ?_
      refine AllReadyH.cons rfl (fun K hK => ?_) AllReadyH.nil
      go_simp
      refine (cK _).mono ?_
      rintro e v1 ⟨rfl, u1⟩
      have k1 := Lib.hid (KB.call hHeld.2.2.2.2.2 u1)
      clear u1
      refine hK.out _ _ (HSK.out _ k1.out) (fun hHeld => ?_)
      clear hK K
      try simp only [fl]
      refine tk (v := ?_) 22 (by assumption) ?_ ?_
      rotate_left
      ·intro w hSw
       (try dsimp only at hSw)
       go_simp
       (try with_reducible rfl)
      try simp only [fl]
      refine tk (v := ?_) 23 (by assumption) ?_ ?_
      rotate_left
      ·intro w hSw
       (try dsimp only at hSw)
       go_simp
       (try with_reducible rfl)
      try simp only [fl]
      refine tk (v := ?_) 24 (by assumption) ?_ ?_
      rotate_left
      ·intro w hSw
       (try dsimp only at hSw)
       go_simp
       (try with_reducible rfl)
      try simp only [fl]
      refine tk (v := ?_) 25 (by assumption) ?_ ?_
      rotate_left
      ·intro w hSw
       (try dsimp only at hSw)
       go_simp
       (try with_reducible rfl)
      try simp only [fl]
      refine tk (v := ?_) 26 (by assumption) ?_ ?_
      rotate_left
      ·intro w hSw
       (try dsimp only at hSw)
       go_simp
       (try with_reducible rfl)
      try simp only [fl]
      refine tk (v := ?_) 27 (by assumption) ?_ ?_
      rotate_left
      ·intro w hSw
       (try dsimp only at hSw)
       go_simp
       (try with_reducible rfl)
      try simp only [fl]
      refine tk (v := ?_) 28 (by assumption) ?_ ?_
      rotate_left
      ·intro w hSw
       (try dsimp only at hSw)
       go_simp
       (try with_reducible rfl)
      try simp only [fl]
      refine tk (v := ?_) 29 (by assumption) ?_ ?_
      rotate_left
      ·intro w hSw
       (try dsimp only at hSw)
       go_simp
       (try with_reducible rfl)
      try simp only [fl]
      refine tk (v := ?_) 30 (by assumption) ?_ ?_
      rotate_left
      ·intro w hSw
       (try dsimp only at hSw)
       go_simp
       (try with_reducible rfl)
      try simp only [fl]
      refine tk (v := ?_) 31 (by assumption) ?_ ?_
      rotate_left
      ·intro w hSw
       (try dsimp only at hSw)
       go_simp
       (try with_reducible rfl)
      try simp only [fl]
      refine wpAnyH_ready (rs := [32]) (by kernel_rfl) (by simp) ?_
      refine AllReadyH.cons rfl (fun K hK => ?_) AllReadyH.nil
      go_simp
      refine (cS _).mono ?_
      rintro e v2 ⟨rfl, u2⟩
      have k2 := Lib.hid (KB.call hHeld.2.2.2.2.2 u2)
      clear u2
      refine hK.out _ _ (HSK.out _ k2.out) (fun hHeld => ?_)
      clear hK K
      try simp only [fl]
      refine wpAnyH_ready (rs := [33]) (by kernel_rfl) (by simp) ?_
      refine AllReadyH.cons rfl (fun K hK => ?_) AllReadyH.nil
      go_simp
      refine (cL _).mono ?_
      rintro e v3 ⟨rfl, u3⟩
      have k3 := Lib.hid (KB.call hHeld.2.2.2.2.2 u3)
      clear u3
      refine hK.out _ _ (HSK.out _ k3.out) (fun hHeld => ?_)
      clear hK K
      try simp only [fl]
      refine tk (v := ?_) 34 (by assumption) ?_ ?_
      rotate_left
      ·intro w hSw
       (try dsimp only at hSw)
       go_simp
       (try with_reducible rfl)
      try simp only [fl]
      refine tk (v := ?_) 35 (by assumption) ?_ ?_
      rotate_left
      ·intro w hSw
       (try dsimp only at hSw)
       go_simp
       (try with_reducible rfl)
      try simp only [fl]
      refine wpAnyH_done (by kernel_rfl) ?_ _
      have hk := Lib.hid hHeld.2.2.2.2.2
      clear hHeld
      go_wp2
      go_ret
      exact ⟨by rw [HRR.out]; rfl, hk.out.2⟩
     ·have HT3 : Hid (b3 = true) := Lib.hid (by rw [HB9.out]; rfl)
      have HKB : Hid (KB w [(w.heap.size, [.int .i64 k, .int .i64 y, .int .i64 mo, .int .i64 d, .int .i64 hr, .int .i64 mi, .bool false, .string sd, .int .i64 sk, .bool zd, .int .i64 z])] wc) := Lib.hid ⟨fun p hp => by
       simp only [List.mem_cons, List.mem_nil_iff, or_false] at hp
       subst hp
       exact HA.out, HW.out⟩
      have SK : ∀ W, KB w [(w.heap.size, [.int .i64 k, .int .i64 y, .int .i64 mo, .int .i64 d, .int .i64 hr, .int .i64 mi, .bool false, .string sd, .int .i64 sk, .bool zd, .int .i64 z])] W → (fun W => W.cell? ⟨w.heap.size, 4, none⟩ = some (.int .i64 hr) ∧ W.cell? ⟨w.heap.size, 5, none⟩ = some (.int .i64 mi) ∧ W.cell? ⟨w.heap.size, 6, none⟩ = some (.bool false) ∧ W.cell? ⟨w.heap.size, 7, none⟩ = some (.string sd) ∧ W.cell? ⟨w.heap.size, 8, none⟩ = some (.int .i64 sk) ∧ KB w [(w.heap.size, [.int .i64 k, .int .i64 y, .int .i64 mo, .int .i64 d, .int .i64 hr, .int .i64 mi, .bool false, .string sd, .int .i64 sk, .bool zd, .int .i64 z])] W) W := fun W kq => ⟨(kq.one 0 rfl).cell 4 rfl, (kq.one 0 rfl).cell 5 rfl, (kq.one 0 rfl).cell 6 rfl, (kq.one 0 rfl).cell 7 rfl, (kq.one 0 rfl).cell 8 rfl, kq⟩
      have HSK := Lib.hid SK
      clear SK
      go_wp2_with fail
      refine wp_region_held_drew (S := (fun W => W.cell? ⟨w.heap.size, 4, none⟩ = some (.int .i64 hr) ∧ W.cell? ⟨w.heap.size, 5, none⟩ = some (.int .i64 mi) ∧ W.cell? ⟨w.heap.size, 6, none⟩ = some (.bool false) ∧ W.cell? ⟨w.heap.size, 7, none⟩ = some (.string sd) ∧ W.cell? ⟨w.heap.size, 8, none⟩ = some (.int .i64 sk) ∧ KB w [(w.heap.size, [.int .i64 k, .int .i64 y, .int .i64 mo, .int .i64 d, .int .i64 hr, .int .i64 mi, .bool false, .string sd, .int .i64 sk, .bool zd, .int .i64 z])] W)) (by kernel_rfl) (HSK.out _ HKB.out.drew1) (fun hHeld => ?_)
      refine tk (v := ?_) 0 (by assumption) ?_ ?_
      rotate_left
      ·intro w hSw
       (try dsimp only at hSw)
       go_simp
       (try with_reducible rfl)
      try simp only [fl]
      refine tk (v := ?_) 1 (by assumption) ?_ ?_
      rotate_left
      ·intro w hSw
       (try dsimp only at hSw)
       go_simp
       (try with_reducible rfl)
      try simp only [fl]
      refine tk (v := ?_) 2 (by assumption) ?_ ?_
      rotate_left
      ·intro w hSw
       (try dsimp only at hSw)
       go_simp
       (try with_reducible rfl)
      try simp only [fl]
      refine tk (v := ?_) 3 (by assumption) ?_ ?_
      rotate_left
      ·intro w hSw
       (try dsimp only at hSw)
       go_simp
       (try with_reducible rfl)
      try simp only [fl]
      refine tk (v := ?_) 4 (by assumption) ?_ ?_
      rotate_left
      ·intro w hSw
       (try dsimp only at hSw)
       go_simp
       (try with_reducible rfl)
      try simp only [fl]
      refine tk (v := ?_) 5 (by assumption) ?_ ?_
      rotate_left
      ·intro w hSw
       (try dsimp only at hSw)
       go_simp
       (try with_reducible rfl)
      try simp only [fl]
      refine tk (v := ?_) 6 (by assumption) ?_ ?_
      rotate_left
      ·intro w hSw
       (try dsimp only at hSw)
       go_simp
       (try with_reducible rfl)
      try simp only [fl]
      refine tk (v := ?_) 7 (by assumption) ?_ ?_
      rotate_left
      ·intro w hSw
       (try dsimp only at hSw)
       go_simp
       (try with_reducible rfl)
      try simp only [fl]
      refine tk (v := ?_) 8 (by assumption) ?_ ?_
      rotate_left
      ·intro w hSw
       (try dsimp only at hSw)
       go_simp
       (try with_reducible rfl)
      try simp only [fl]
      refine tk (v := ?_) 9 (by assumption) ?_ ?_
      rotate_left
      ·intro w hSw
       (try dsimp only at hSw)
       go_simp
       (try with_reducible rfl)
      try simp only [fl]
      refine tk (v := ?_) 10 (by assumption) ?_ ?_
      rotate_left
      ·intro w hSw
       (try dsimp only at hSw)
       go_simp
       (try with_reducible rfl)
      try simp only [fl]
      refine tk (v := ?_) 11 (by assumption) ?_ ?_
      rotate_left
      ·intro w hSw
       (try dsimp only at hSw)
       go_simp
       (try with_reducible rfl)
      try simp only [fl]
      refine tk (v := ?_) 12 (by assumption) ?_ ?_
      rotate_left
      ·intro w hSw
       (try dsimp only at hSw)
       go_simp
       (try with_reducible rfl)
      try simp only [fl]
      refine tk (v := ?_) 13 (by assumption) ?_ ?_
      rotate_left
      ·intro w hSw
       (try dsimp only at hSw)
       go_simp
       (try with_reducible rfl)
      try simp only [fl]
      refine tk (v := ?_) 14 (by assumption) ?_ ?_
      rotate_left
      ·intro w hSw
       (try dsimp only at hSw)
       go_simp
       (try with_reducible rfl)
      try simp only [fl]
      refine tk (v := ?_) 15 (by assumption) ?_ ?_
      rotate_left
      ·intro w hSw
       (try dsimp only at hSw)
       go_simp
       (try with_reducible rfl)
      try simp only [fl]
      refine tk (v := ?_) 16 (by assumption) ?_ ?_
      rotate_left
      ·intro w hSw
       (try dsimp only at hSw)
       go_simp
       (try with_reducible rfl)
      try simp only [fl]
      refine tk (v := ?_) 17 (by assumption) ?_ ?_
      rotate_left
      ·intro w hSw
       (try dsimp only at hSw)
       go_simp
       (try with_reducible rfl)
      try simp only [fl]
      refine tk (v := ?_) 18 (by assumption) ?_ ?_
      rotate_left
      ·intro w hSw
       (try dsimp only at hSw)
       go_simp
       (try with_reducible rfl)
      try simp only [fl]
      refine tk (v := ?_) 19 (by assumption) ?_ ?_
      rotate_left
      ·intro w hSw
       (try dsimp only at hSw)
       go_simp
       (try with_reducible rfl)
      try simp only [fl]
      refine tk (v := ?_) 20 (by assumption) ?_ ?_
      rotate_left
      ·intro w hSw
       (try dsimp only at hSw)
       go_simp
       (try with_reducible rfl)
      try simp only [fl]
      refine wpAnyH_ready (rs := [21]) (by kernel_rfl) (by simp) ?_
      refine AllReadyH.cons rfl (fun K hK => ?_) AllReadyH.nil
      go_simp
      refine (cK _).mono ?_
      rintro e v1 ⟨rfl, u1⟩
      have k1 := Lib.hid (KB.call hHeld.2.2.2.2.2 u1)
      clear u1
      refine hK.out _ _ (HSK.out _ k1.out) (fun hHeld => ?_)
      clear hK K
      try simp only [fl]
      refine tk (v := ?_) 22 (by assumption) ?_ ?_
      rotate_left
      ·intro w hSw
       (try dsimp only at hSw)
       go_simp
       (try with_reducible rfl)
      try simp only [fl]
      refine tk (v := ?_) 23 (by assumption) ?_ ?_
      rotate_left
      ·intro w hSw
       (try dsimp only at hSw)
       go_simp
       (try with_reducible rfl)
      try simp only [fl]
      refine tk (v := ?_) 24 (by assumption) ?_ ?_
      rotate_left
      ·intro w hSw
       (try dsimp only at hSw)
       go_simp
       (try with_reducible rfl)
      try simp only [fl]
      refine tk (v := ?_) 25 (by assumption) ?_ ?_
      rotate_left
      ·intro w hSw
       (try dsimp only at hSw)
       go_simp
       (try with_reducible rfl)
      try simp only [fl]
      refine tk (v := ?_) 26 (by assumption) ?_ ?_
      rotate_left
      ·intro w hSw
       (try dsimp only at hSw)
       go_simp
       (try with_reducible rfl)
      try simp only [fl]
      refine tk (v := ?_) 27 (by assumption) ?_ ?_
      rotate_left
      ·intro w hSw
       (try dsimp only at hSw)
       go_simp
       (try with_reducible rfl)
      try simp only [fl]
      refine tk (v := ?_) 28 (by assumption) ?_ ?_
      rotate_left
      ·intro w hSw
       (try dsimp only at hSw)
       go_simp
       (try with_reducible rfl)
      try simp only [fl]
      refine tk (v := ?_) 29 (by assumption) ?_ ?_
      rotate_left
      ·intro w hSw
       (try dsimp only at hSw)
       go_simp
       (try with_reducible rfl)
      try simp only [fl]
      refine tk (v := ?_) 30 (by assumption) ?_ ?_
      rotate_left
      ·intro w hSw
       (try dsimp only at hSw)
       go_simp
       (try with_reducible rfl)
      try simp only [fl]
      refine tk (v := ?_) 31 (by assumption) ?_ ?_
      rotate_left
      ·intro w hSw
       (try dsimp only at hSw)
       go_simp
       (try with_reducible rfl)
      try simp only [fl]
      refine wpAnyH_ready (rs := [32]) (by kernel_rfl) (by simp) ?_
      refine AllReadyH.cons rfl (fun K hK => ?_) AllReadyH.nil
      go_simp
      refine (cS _).mono ?_
      rintro e v2 ⟨rfl, u2⟩
      have k2 := Lib.hid (KB.call hHeld.2.2.2.2.2 u2)
      clear u2
      refine hK.out _ _ (HSK.out _ k2.out) (fun hHeld => ?_)
      clear hK K
      try simp only [fl]
      refine wpAnyH_ready (rs := [33]) (by kernel_rfl) (by simp) ?_
      refine AllReadyH.cons rfl (fun K hK => ?_) AllReadyH.nil
      go_simp
      refine (cL _).mono ?_
      rintro e v3 ⟨rfl, u3⟩
      have k3 := Lib.hid (KB.call hHeld.2.2.2.2.2 u3)
      clear u3
      refine hK.out _ _ (HSK.out _ k3.out) (fun hHeld => ?_)
      clear hK K
      try simp only [fl]
      refine tk (v := ?_) 34 (by assumption) ?_ ?_
      rotate_left
      ·intro w hSw
       (try dsimp only at hSw)
       go_simp
       (try with_reducible rfl)
      try simp only [fl]
      refine tk (v := ?_) 35 (by assumption) ?_ ?_
      rotate_left
      ·intro w hSw
       (try dsimp only at hSw)
       go_simp
       (try with_reducible rfl)
      try simp only [fl]
      refine wpAnyH_done (by kernel_rfl) ?_ _
      have hk := Lib.hid hHeld.2.2.2.2.2
      clear hHeld
      go_wp2_with fail
      go_meet
      exact ⟨HT3.out, hk.out.one 0 rfl, hk.out.2⟩
   case rest =>
    clear HA HW
    obtain ⟨hb, hA, hW⟩ := hcut
    have HA := Lib.hid hA
    have HW := Lib.hid hW
    clear hA hW
    have HT3 := Lib.hid hb
    clear hb
    have HZ := HB4
    obtain ⟨dA0, dA1, dA2, dA3, dA4, dA5, dA6, dA7, dA8, dA9, dA10⟩ := HA.out.all11
    by_cases e0 : z < -840
    ·have HRR := Lib.hid (H4.out (by rw [HZ.out]; unfold zoneB withinB; rw [decide_eq_false (show ¬ -840 ≤ z by omega)]; rfl))
     have t0 : decide (z < -840) = true := decide_eq_true e0
     clear e0
     go_wp2
     go_ret
     exact ⟨by rw [HRR.out]; rfl, HW.out⟩
    by_cases e1 : 840 < z
    ·have HRR := Lib.hid (H4.out (by rw [HZ.out]; unfold zoneB withinB; rw [decide_eq_false (show ¬ z ≤ 840 by omega)]; simp))
     have t0 : decide (z < -840) = false := decide_eq_false e0
     have t1 : decide (840 < z) = true := decide_eq_true e1
     clear e0 e1
     go_wp2
     go_ret
     exact ⟨by rw [HRR.out]; rfl, HW.out⟩
    have hz4 : b4 = (zd || z == 0) := by
     rw [HZ.out]
     unfold zoneB withinB
     rw [decide_eq_true (show -840 ≤ z by omega), decide_eq_true (show z ≤ 840 by omega)]
     rfl
    have HZ4 := Lib.hid hz4
    have t0 : decide (z < -840) = false := decide_eq_false e0
    have t1 : decide (840 < z) = false := decide_eq_false e1
    obtain ⟨q, p⟩ : ∃ b, (z == 0) = b := ⟨_, rfl⟩
    have n1 : (z != 0) = !q := by rw [← p]; rfl
    have HZ5 : Hid (b4 = (zd || q)) := Lib.hid (by rw [HZ4.out, p])
    clear hz4 e0 e1 p
    cases zd <;> cases q
    all_goals (first
     | (have HRR := Lib.hid (HOK.out HKB1.out HT2.out HT3.out (by rw [HZ5.out]; rfl)); go_wp2; go_ret; exact ⟨by rw [HRR.out]; rfl, HW.out⟩)
     | (have HRR := Lib.hid (H4.out (by rw [HZ5.out]; rfl)); go_wp2; go_ret; exact ⟨by rw [HRR.out]; rfl, HW.out⟩))
end Go.Proofs.YtmdnijehoagamaaGreatDoor
