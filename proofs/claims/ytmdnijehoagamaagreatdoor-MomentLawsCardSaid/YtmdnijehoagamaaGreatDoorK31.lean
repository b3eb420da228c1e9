/- NL -/
import Derived.Test.YtmdnijehoagamaaGreatDoorK22
set_option linter.unusedVariables false
set_option linter.unusedSimpArgs false
namespace Go.Proofs.YtmdnijehoagamaaGreatDoor
set_option maxRecDepth 100000
set_option maxHeartbeats 8000000
open Go.RowKit
theorem pbelow_any (an : Bool) (ad : ByteArray) (ak : Int) (bn : Bool) (bd : ByteArray) (bk q qe : Int) (be bq : Bool) (he : (qe == 0) = be) (hq : decide (q < 0) = bq)
  (cC : ∀ W, Tabs W → Calls Tryz.prog 99 #[.agg #[.bool an, .string ad, .int .i64 ak], .agg #[.bool bn, .string bd, .int .i64 bk]] W fun e w' => e = .returned (.tuple #[.int .i64 q, .int .i64 qe]) ∧ Below W.heap.size W w')
  (w : World) (hT : Tabs w) :
  Calls Tryz.prog 61 #[.agg #[.bool an, .string ad, .int .i64 ak], .agg #[.bool bn, .string bd, .int .i64 bk]] w fun e w' => e = .returned (.bool (be && bq)) ∧ Below w.heap.size w w' := by
 cases be <;> cases bq
 all_goals (
  go_enter Tryz.func61, Tryz.ntmps61
  have HA : Hid (HasL ((w.alloc (.cells #[.bool an, .string ad, .int .i64 ak] 23)).alloc (.cells #[.bool bn, .string bd, .int .i64 bk] 23)) w.heap.size [.bool an, .string ad, .int .i64 ak]) := Lib.hid ((HasL.new w [.bool an, .string ad, .int .i64 ak] 23).alloc (.cells #[.bool bn, .string bd, .int .i64 bk] 23))
  have HB : Hid (HasL ((w.alloc (.cells #[.bool an, .string ad, .int .i64 ak] 23)).alloc (.cells #[.bool bn, .string bd, .int .i64 bk] 23)) (w.heap.size + 1) [.bool bn, .string bd, .int .i64 bk]) := Lib.hid (by have hZz := (HasL.new (w.alloc (.cells #[.bool an, .string ad, .int .i64 ak] 23)) [.bool bn, .string bd, .int .i64 bk] 23); rw [show (w.alloc (.cells #[.bool an, .string ad, .int .i64 ak] 23)).heap.size = w.heap.size + 1 by simp] at hZz; exact hZz)
  have HW := Lib.hid (stepA (stepA (Below.refl w.heap.size w) (.cells #[.bool an, .string ad, .int .i64 ak] 23)) (.cells #[.bool bn, .string bd, .int .i64 bk] 23))
  have HT0 := Lib.hid hT
  have HT := Lib.hid (hT.next HW.out)
  clear hT
  have NE_B_A : Hid ((w.heap.size + 1) ≠ w.heap.size ∧ w.heap.size ≠ (w.heap.size + 1)) := Lib.hid (by omega)
  obtain ⟨dA_0, dA_1, dA_2⟩ := HA.out.all3
  obtain ⟨dB_0, dB_1, dB_2⟩ := HB.out.all3
  go_wp2_with fail
  refine (cC _ HT.out).mono ?_
  rintro e w1 ⟨rfl, b1⟩
  replace HA := Lib.hid (HA.out.call b1)
  replace HB := Lib.hid (HB.out.call b1)
  replace HW := Lib.hid (step HW.out b1)
  replace HT := Lib.hid (HT.out.next b1)
  clear b1 dA_0 dA_1 dA_2 dB_0 dB_1 dB_2
  go_wp2
  go_ret
  exact ⟨rfl, HW.out⟩)
theorem p_isBelow (a b : Dec) (za : a.ds.size ≤ 400) (zb : b.ds.size ≤ 400) (w : World) (hT : Tabs w) : Calls Tryz.prog 61 #[a.v, b.v] w fun e w' => e = .returned (.bool (belowB a b)) ∧ Below w.heap.size w w' := by
 have cC := fun W hW => progOk.cmp a b W za zb hW
 unfold belowB
 exact pbelow_any a.neg a.ds a.sc b.neg b.ds b.sc _ _ _ _ rfl rfl cC w hT
theorem pdate_no (k y mo d hr mi : Int) (sn : Bool) (sd : ByteArray) (sk : Int) (zd : Bool) (z : Int) (hd : datedB k = false) (w : World) : Calls Tryz.prog 78 #[.agg #[.int .i64 k, .int .i64 y, .int .i64 mo, .int .i64 d, .int .i64 hr, .int .i64 mi, .bool sn, .string sd, .int .i64 sk, .bool zd, .int .i64 z]] w fun e w' => e = .returned (.bool (noDate y mo d)) ∧ Below w.heap.size w w' := by
 have ch := fun W => p_hasDate k W
 rw [hd] at ch
 clear hd
 unfold noDate
 obtain ⟨b1, h1⟩ : ∃ b, (y == 0) = b := ⟨_, rfl⟩
 obtain ⟨b2, h2⟩ : ∃ b, (mo == 0) = b := ⟨_, rfl⟩
 obtain ⟨b3, h3⟩ : ∃ b, (d == 0) = b := ⟨_, rfl⟩
 rw [h1, h2, h3]
 cases b1 <;> cases b2 <;> cases b3
 all_goals (
  go_enter Tryz.func78, Tryz.ntmps78
  go_wp2_with (go_at_call 39; refine (ch _).mono ?_; rintro e w_ ⟨rfl, rfl⟩)
  go_ret
  exact ⟨rfl, stepA (Below.refl _ _) _⟩)
theorem pdate_yes (k y mo d hr mi : Int) (sn : Bool) (sd : ByteArray) (sk : Int) (zd : Bool) (z : Int) (hd : datedB k = true) (w : World) (hT : Tabs w) : Calls Tryz.prog 78 #[.agg #[.int .i64 k, .int .i64 y, .int .i64 mo, .int .i64 d, .int .i64 hr, .int .i64 mi, .bool sn, .string sd, .int .i64 sk, .bool zd, .int .i64 z]] w fun e w' => e = .returned (.bool (dateIB y mo d)) ∧ Below w.heap.size w w' := by
 have ch := fun W => p_hasDate k W
 rw [hd] at ch
 clear hd
 have HT := Lib.hid (hT.next ((Below.refl _ _).alloc (Nat.le_refl _) (.cells #[.int .i64 k, .int .i64 y, .int .i64 mo, .int .i64 d, .int .i64 hr, .int .i64 mi, .bool sn, .string sd, .int .i64 sk, .bool zd, .int .i64 z] 25)))
 clear hT
 unfold dateIB
 have c1 := fun W => p_within y (-9999) 9999 W
 have c3 := fun W => p_within mo 1 12 W
 by_cases h1 : withinB y (-9999) 9999 = true
 ·have hy : -9999 ≤ y ∧ y ≤ 9999 := by unfold withinB at h1; simpa using h1
  by_cases h3 : withinB mo 1 12 = true
  ·have hm : 1 ≤ mo ∧ mo ≤ 12 := by unfold withinB at h3; simpa using h3
   have cc := fun W => p_counted y (by omega) (by omega) W
   have cl := fun W hW => p_daysOf (cntd y) mo (by omega) (by omega) W hW
   generalize cntd y = cy at *
   generalize lenM cy mo = L at *
   obtain ⟨b4, h4⟩ : ∃ b, withinB d 1 L = b := ⟨_, rfl⟩
   obtain ⟨b2, h2⟩ : ∃ b, (y != 0) = b := ⟨_, rfl⟩
   have c4 := fun W => p_within d 1 L W
   rw [h4] at c4
   rw [h1] at c1
   rw [h3] at c3
   rw [h1, h2, h3, h4]
   clear hy hm h1 h3 h4
   cases b2
   ·go_enter Tryz.func78, Tryz.ntmps78
    go_wp2_with (go_at_call 39; refine (ch _).mono ?_; rintro e w_ ⟨rfl, rfl⟩)
    go_quiet ((first | (go_at_call 60; first | with_reducible exact quiet_eq (c1 _) | with_reducible exact quiet_eq (c3 _) | with_reducible exact quiet_eq (c4 _)) | (go_at_call 89; exact quiet_eq (cc _)) | (go_at_call 91; exact quiet_eq (cl _ (HT.out.drewN _)))))
    go_wp2
    go_ret
    exact ⟨rfl, below_drewN (stepA (Below.refl _ _) _) _⟩
   ·cases b4
    ·go_enter Tryz.func78, Tryz.ntmps78
     go_wp2_with (go_at_call 39; refine (ch _).mono ?_; rintro e w_ ⟨rfl, rfl⟩)
     go_quiet ((first | (go_at_call 60; first | with_reducible exact quiet_eq (c1 _) | with_reducible exact quiet_eq (c3 _) | with_reducible exact quiet_eq (c4 _)) | (go_at_call 89; exact quiet_eq (cc _)) | (go_at_call 91; exact quiet_eq (cl _ (HT.out.drewN _)))))
     go_wp2
     go_ret
     exact ⟨rfl, below_drewN (stepA (Below.refl _ _) _) _⟩
    ·go_enter Tryz.func78, Tryz.ntmps78
     go_wp2_with (go_at_call 39; refine (ch _).mono ?_; rintro e w_ ⟨rfl, rfl⟩)
     go_quiet ((first | (go_at_call 60; first | with_reducible exact quiet_eq (c1 _) | with_reducible exact quiet_eq (c3 _) | with_reducible exact quiet_eq (c4 _)) | (go_at_call 89; exact quiet_eq (cc _)) | (go_at_call 91; exact quiet_eq (cl _ (HT.out.drewN _)))))
     go_wp2
     go_ret
     exact ⟨rfl, below_drewN (stepA (Below.refl _ _) _) _⟩
  ·have h3' : withinB mo 1 12 = false := by simpa using h3
   obtain ⟨b2, h2⟩ : ∃ b, (y != 0) = b := ⟨_, rfl⟩
   rw [h1] at c1
   rw [h3'] at c3
   rw [h1, h2, h3']
   clear hy h3 h1 h3'
   cases b2
   all_goals (
    go_enter Tryz.func78, Tryz.ntmps78
    go_wp2_with (go_at_call 39; refine (ch _).mono ?_; rintro e w_ ⟨rfl, rfl⟩)
    go_quiet ((go_at_call 60; first | with_reducible exact quiet_eq (c1 _) | with_reducible exact quiet_eq (c3 _)))
    go_wp2
    go_ret
    exact ⟨rfl, below_drewN (stepA (Below.refl _ _) _) _⟩)
 ·have h1' : withinB y (-9999) 9999 = false := by simpa using h1
  rw [h1'] at c1
  rw [h1']
  clear h1 h1' c3
  go_enter Tryz.func78, Tryz.ntmps78
  go_wp2_with (go_at_call 39; refine (ch _).mono ?_; rintro e w_ ⟨rfl, rfl⟩)
  go_quiet ((go_at_call 60; exact quiet_eq (c1 _)))
  go_wp2
  go_ret
  exact ⟨rfl, below_drewN (stepA (Below.refl _ _) _) _⟩
theorem ptime_no (k y mo d hr mi : Int) (sn : Bool) (sd : ByteArray) (sk : Int) (zd : Bool) (z : Int) (hd : timedB k = false) (w : World) : Calls Tryz.prog 79 #[.agg #[.int .i64 k, .int .i64 y, .int .i64 mo, .int .i64 d, .int .i64 hr, .int .i64 mi, .bool sn, .string sd, .int .i64 sk, .bool zd, .int .i64 z]] w fun e w' => e = .returned (.bool (noTime hr mi ⟨sn, sd, sk⟩)) ∧ Below w.heap.size w w' := by
 have ch := fun W => p_hasTime k W
 rw [hd] at ch
 clear hd
 unfold noTime
 obtain ⟨b1, h1⟩ : ∃ b, (hr == 0) = b := ⟨_, rfl⟩
 obtain ⟨b2, h2⟩ : ∃ b, (mi == 0) = b := ⟨_, rfl⟩
 obtain ⟨b3, h3⟩ : ∃ b, (sn == false) = b := ⟨_, rfl⟩
 obtain ⟨b4, h4⟩ : ∃ b, (sd.toList == []) = b := ⟨_, rfl⟩
 obtain ⟨b5, h5⟩ : ∃ b, (sk == 0) = b := ⟨_, rfl⟩
 simp only [h1, h2, h3, h4, h5]
 cases b1
 ·go_enter Tryz.func79, Tryz.ntmps79
  go_wp2_with (go_at_call 41; refine (ch _).mono ?_; rintro e w_ ⟨rfl, rfl⟩)
  go_ret
  exact ⟨rfl, stepA (Below.refl _ _) _⟩
 cases b2
 ·go_enter Tryz.func79, Tryz.ntmps79
  go_wp2_with (go_at_call 41; refine (ch _).mono ?_; rintro e w_ ⟨rfl, rfl⟩)
  go_ret
  exact ⟨rfl, stepA (Below.refl _ _) _⟩
 cases b3 <;> cases b4 <;> cases b5
 all_goals (
  go_enter Tryz.func79, Tryz.ntmps79
  go_wp2_with (go_at_call 41; refine (ch _).mono ?_; rintro e w_ ⟨rfl, rfl⟩)
  go_ret
  exact ⟨rfl, stepA (Below.refl _ _) _⟩)
theorem ptime_yes (k y mo d hr mi : Int) (sn : Bool) (sd : ByteArray) (sk : Int) (zd : Bool) (z : Int) (b1 b2 b4 : Bool) (hd : timedB k = true)
  (c1 : ∀ W, Calls Tryz.prog 60 #[.int .i64 hr, .int .i64 0, .int .i64 23] W fun e w' => e = .returned (.bool b1) ∧ W = w')
  (c2 : ∀ W, Calls Tryz.prog 60 #[.int .i64 mi, .int .i64 0, .int .i64 59] W fun e w' => e = .returned (.bool b2) ∧ W = w')
  (cO : ∀ W, Tabs W → Calls Tryz.prog 62 #[.int .i64 60] W fun e w' => e = .returned (.agg #[.bool false, .string ⟨#[54, 48]⟩, .int .i64 0]) ∧ Below W.heap.size W w')
  (cB : ∀ W, Tabs W → Calls Tryz.prog 61 #[.agg #[.bool sn, .string sd, .int .i64 sk], .agg #[.bool false, .string ⟨#[54, 48]⟩, .int .i64 0]] W fun e w' => e = .returned (.bool b4) ∧ Below W.heap.size W w')
  (w : World) (hT : Tabs w) : Calls Tryz.prog 79 #[.agg #[.int .i64 k, .int .i64 y, .int .i64 mo, .int .i64 d, .int .i64 hr, .int .i64 mi, .bool sn, .string sd, .int .i64 sk, .bool zd, .int .i64 z]] w fun e w' => e = .returned (.bool (b1 && b2 && !sn && b4)) ∧ Below w.heap.size w w' := by
 have ch := fun W => p_hasTime k W
 rw [hd] at ch
 clear hd
 have HT0 := Lib.hid hT
 clear hT
 cases b1
 ·go_enter Tryz.func79, Tryz.ntmps79
  go_wp2_with (go_at_call 41; refine (ch _).mono ?_; rintro e w_ ⟨rfl, rfl⟩)
  go_quiet ((go_at_call 60; first | with_reducible exact quiet_eq (c1 _) | with_reducible exact quiet_eq (c2 _)))
  go_wp2
  go_ret
  exact ⟨rfl, below_drewN (stepA (Below.refl _ _) _) _⟩
 cases b2
 ·go_enter Tryz.func79, Tryz.ntmps79
  go_wp2_with (go_at_call 41; refine (ch _).mono ?_; rintro e w_ ⟨rfl, rfl⟩)
  go_quiet ((go_at_call 60; first | with_reducible exact quiet_eq (c1 _) | with_reducible exact quiet_eq (c2 _)))
  go_wp2
  go_ret
  exact ⟨rfl, below_drewN (stepA (Below.refl _ _) _) _⟩
 cases sn
 rotate_left
 ·go_enter Tryz.func79, Tryz.ntmps79
  go_wp2_with (go_at_call 41; refine (ch _).mono ?_; rintro e w_ ⟨rfl, rfl⟩)
  go_quiet ((go_at_call 60; first | with_reducible exact quiet_eq (c1 _) | with_reducible exact quiet_eq (c2 _)))
  go_wp2
  go_ret
  exact ⟨rfl, below_drewN (stepA (Below.refl _ _) _) _⟩
 ·go_enter Tryz.func79, Tryz.ntmps79
  have HKB : Hid (KB w [(w.heap.size, [.int .i64 k, .int .i64 y, .int .i64 mo, .int .i64 d, .int .i64 hr, .int .i64 mi, .bool false, .string sd, .int .i64 sk, .bool zd, .int .i64 z])] (w.alloc (.cells #[.int .i64 k, .int .i64 y, .int .i64 mo, .int .i64 d, .int .i64 hr, .int .i64 mi, .bool false, .string sd, .int .i64 sk, .bool zd, .int .i64 z] 25))) := Lib.hid ⟨fun p hp => by
   simp only [List.mem_cons, List.mem_nil_iff, or_false] at hp
   subst hp
   exact HasL.new w [.int .i64 k, .int .i64 y, .int .i64 mo, .int .i64 d, .int .i64 hr, .int .i64 mi, .bool false, .string sd, .int .i64 sk, .bool zd, .int .i64 z] 25, stepA (Below.refl _ _) _⟩
  have SK : ∀ W, KB w [(w.heap.size, [.int .i64 k, .int .i64 y, .int .i64 mo, .int .i64 d, .int .i64 hr, .int .i64 mi, .bool false, .string sd, .int .i64 sk, .bool zd, .int .i64 z])] W → (W.cell? ⟨w.heap.size, 4, none⟩ = some (.int .i64 hr) ∧ W.cell? ⟨w.heap.size, 5, none⟩ = some (.int .i64 mi) ∧ W.cell? ⟨w.heap.size, 6, none⟩ = some (.bool false) ∧ W.cell? ⟨w.heap.size, 7, none⟩ = some (.string sd) ∧ W.cell? ⟨w.heap.size, 8, none⟩ = some (.int .i64 sk) ∧ KB w [(w.heap.size, [.int .i64 k, .int .i64 y, .int .i64 mo, .int .i64 d, .int .i64 hr, .int .i64 mi, .bool false, .string sd, .int .i64 sk, .bool zd, .int .i64 z])] W) := fun W kq => ⟨(kq.one 0 rfl).cell 4 rfl, (kq.one 0 rfl).cell 5 rfl, (kq.one 0 rfl).cell 6 rfl, (kq.one 0 rfl).cell 7 rfl, (kq.one 0 rfl).cell 8 rfl, kq⟩
  have HSK := Lib.hid SK
  have SO : ∀ W, (W.cell? ⟨w.heap.size, 4, none⟩ = some (.int .i64 hr) ∧ W.cell? ⟨w.heap.size, 5, none⟩ = some (.int .i64 mi) ∧ W.cell? ⟨w.heap.size, 6, none⟩ = some (.bool false) ∧ W.cell? ⟨w.heap.size, 7, none⟩ = some (.string sd) ∧ W.cell? ⟨w.heap.size, 8, none⟩ = some (.int .i64 sk) ∧ KB w [(w.heap.size, [.int .i64 k, .int .i64 y, .int .i64 mo, .int .i64 d, .int .i64 hr, .int .i64 mi, .bool false, .string sd, .int .i64 sk, .bool zd, .int .i64 z])] W) → Below w.heap.size w W := fun W kq => (kq.2.2.2.2.2 : KB w [(w.heap.size, [.int .i64 k, .int .i64 y, .int .i64 mo, .int .i64 d, .int .i64 hr, .int .i64 mi, .bool false, .string sd, .int .i64 sk, .bool zd, .int .i64 z])] W).2
  have HSO := Lib.hid SO
  clear SK SO
  go_wp2_with (go_at_call 41; refine (ch _).mono ?_; rintro e w_ ⟨rfl, rfl⟩)
  go_region_held3 (fun W => W.cell? ⟨w.heap.size, 4, none⟩ = some (.int .i64 hr) ∧ W.cell? ⟨w.heap.size, 5, none⟩ = some (.int .i64 mi) ∧ W.cell? ⟨w.heap.size, 6, none⟩ = some (.bool false) ∧ W.cell? ⟨w.heap.size, 7, none⟩ = some (.string sd) ∧ W.cell? ⟨w.heap.size, 8, none⟩ = some (.int .i64 sk) ∧ KB w [(w.heap.size, [.int .i64 k, .int .i64 y, .int .i64 mo, .int .i64 d, .int .i64 hr, .int .i64 mi, .bool false, .string sd, .int .i64 sk, .bool zd, .int .i64 z])] W)
   (first | assumption | exact HSK.out _ HKB.out.drew1 | exact HSK.out _ k2.out | exact HSK.out _ k1.out)
   (first
    | (go_at_call 60; (first | with_reducible refine (c1 _).mono ?_ | with_reducible refine (c2 _).mono ?_); rintro e v_ ⟨rfl, rfl⟩)
    | (go_at_call 62; refine (cO _ (HT0.out.next (HSO.out _ (by assumption)))).mono ?_; rintro e v1 ⟨rfl, u1⟩; have k1 := Lib.hid (KB.call (And.right (And.right (And.right (And.right (And.right (by assumption)))))) u1))
    | (go_at_call 61; refine (cB _ (HT0.out.next (HSO.out _ (by assumption)))).mono ?_; rintro e v2 ⟨rfl, u2⟩; have k2 := Lib.hid (KB.call (And.right (And.right (And.right (And.right (And.right (by assumption)))))) u2)))
  rename_i hh
  have hk := Lib.hid hh.2.2.2.2.2
  clear hh
  go_wp2
  go_ret
  exact ⟨rfl, hk.out.2⟩
theorem p_zone (k y mo d hr mi : Int) (sn : Bool) (sd : ByteArray) (sk : Int) (zd : Bool) (z : Int) (w : World) : Calls Tryz.prog 80 #[.agg #[.int .i64 k, .int .i64 y, .int .i64 mo, .int .i64 d, .int .i64 hr, .int .i64 mi, .bool sn, .string sd, .int .i64 sk, .bool zd, .int .i64 z]] w fun e w' => e = .returned (.bool (zoneB zd z)) ∧ Below w.heap.size w w' := by
 have c1 := fun W => p_within z (-840) 840 W
 unfold zoneB
 obtain ⟨b1, h1⟩ : ∃ b, withinB z (-840) 840 = b := ⟨_, rfl⟩
 obtain ⟨b2, h2⟩ : ∃ b, (z == 0) = b := ⟨_, rfl⟩
 rw [h1] at c1
 rw [h1, h2]
 clear h1
 cases b1 <;> cases zd <;> cases b2
 all_goals (
  go_enter Tryz.func80, Tryz.ntmps80
  go_wp2_with (go_at_call 60; refine (c1 _).mono ?_; rintro e w_ ⟨rfl, rfl⟩)
  go_ret
  exact ⟨rfl, stepA (Below.refl _ _) _⟩)
theorem pvalid_any (k y mo d hr mi : Int) (sn : Bool) (sd : ByteArray) (sk : Int) (zd : Bool) (z : Int) (b1 b2 b3 b4 : Bool)
  (cK : ∀ W, Calls Tryz.prog 29 #[.int .i64 k] W fun e w' => e = .returned (.bool b1) ∧ W = w')
  (cD : ∀ W, Tabs W → Calls Tryz.prog 78 #[.agg #[.int .i64 k, .int .i64 y, .int .i64 mo, .int .i64 d, .int .i64 hr, .int .i64 mi, .bool sn, .string sd, .int .i64 sk, .bool zd, .int .i64 z]] W fun e w' => e = .returned (.bool b2) ∧ Below W.heap.size W w')
  (cT : ∀ W, Tabs W → Calls Tryz.prog 79 #[.agg #[.int .i64 k, .int .i64 y, .int .i64 mo, .int .i64 d, .int .i64 hr, .int .i64 mi, .bool sn, .string sd, .int .i64 sk, .bool zd, .int .i64 z]] W fun e w' => e = .returned (.bool b3) ∧ Below W.heap.size W w')
  (cZ : ∀ W, Calls Tryz.prog 80 #[.agg #[.int .i64 k, .int .i64 y, .int .i64 mo, .int .i64 d, .int .i64 hr, .int .i64 mi, .bool sn, .string sd, .int .i64 sk, .bool zd, .int .i64 z]] W fun e w' => e = .returned (.bool b4) ∧ Below W.heap.size W w')
  (w : World) (hT : Tabs w) : Calls Tryz.prog 38 #[.agg #[.int .i64 k, .int .i64 y, .int .i64 mo, .int .i64 d, .int .i64 hr, .int .i64 mi, .bool sn, .string sd, .int .i64 sk, .bool zd, .int .i64 z]] w fun e w' => e = .returned (.bool (b1 && b2 && b3 && b4)) ∧ Below w.heap.size w w' := by
 have HT0 := Lib.hid hT
 clear hT
 cases b1
 ·go_enter Tryz.func38, Tryz.ntmps38
  have HA : Hid (HasL (w.alloc (.cells #[.int .i64 k, .int .i64 y, .int .i64 mo, .int .i64 d, .int .i64 hr, .int .i64 mi, .bool sn, .string sd, .int .i64 sk, .bool zd, .int .i64 z] 25)) w.heap.size [.int .i64 k, .int .i64 y, .int .i64 mo, .int .i64 d, .int .i64 hr, .int .i64 mi, .bool sn, .string sd, .int .i64 sk, .bool zd, .int .i64 z]) := Lib.hid (HasL.new w [.int .i64 k, .int .i64 y, .int .i64 mo, .int .i64 d, .int .i64 hr, .int .i64 mi, .bool sn, .string sd, .int .i64 sk, .bool zd, .int .i64 z] 25)
  have HW := Lib.hid (stepA (Below.refl w.heap.size w) (.cells #[.int .i64 k, .int .i64 y, .int .i64 mo, .int .i64 d, .int .i64 hr, .int .i64 mi, .bool sn, .string sd, .int .i64 sk, .bool zd, .int .i64 z] 25))
  obtain ⟨dA_0, dA_1, dA_2, dA_3, dA_4, dA_5, dA_6, dA_7, dA_8, dA_9, dA_10⟩ := HA.out.all11
  go_wp2_with fail
  refine (cK _).mono ?_
  rintro e w_ ⟨rfl, rfl⟩
  clear dA_0 dA_1 dA_2 dA_3 dA_4 dA_5 dA_6 dA_7 dA_8 dA_9 dA_10
  go_wp2
  go_ret
  exact ⟨rfl, HW.out⟩
 cases b2
 ·go_enter Tryz.func38, Tryz.ntmps38
  have HA : Hid (HasL (w.alloc (.cells #[.int .i64 k, .int .i64 y, .int .i64 mo, .int .i64 d, .int .i64 hr, .int .i64 mi, .bool sn, .string sd, .int .i64 sk, .bool zd, .int .i64 z] 25)) w.heap.size [.int .i64 k, .int .i64 y, .int .i64 mo, .int .i64 d, .int .i64 hr, .int .i64 mi, .bool sn, .string sd, .int .i64 sk, .bool zd, .int .i64 z]) := Lib.hid (HasL.new w [.int .i64 k, .int .i64 y, .int .i64 mo, .int .i64 d, .int .i64 hr, .int .i64 mi, .bool sn, .string sd, .int .i64 sk, .bool zd, .int .i64 z] 25)
  have HW := Lib.hid (stepA (Below.refl w.heap.size w) (.cells #[.int .i64 k, .int .i64 y, .int .i64 mo, .int .i64 d, .int .i64 hr, .int .i64 mi, .bool sn, .string sd, .int .i64 sk, .bool zd, .int .i64 z] 25))
  obtain ⟨dA_0, dA_1, dA_2, dA_3, dA_4, dA_5, dA_6, dA_7, dA_8, dA_9, dA_10⟩ := HA.out.all11
  go_wp2_with fail
  refine (cK _).mono ?_
  rintro e w_ ⟨rfl, rfl⟩
  clear dA_0 dA_1 dA_2 dA_3 dA_4 dA_5 dA_6 dA_7 dA_8 dA_9 dA_10
  obtain ⟨dA_0, dA_1, dA_2, dA_3, dA_4, dA_5, dA_6, dA_7, dA_8, dA_9, dA_10⟩ := HA.out.all11
  go_wp2_with fail
  refine (cD _ (HT0.out.next HW.out)).mono ?_
  rintro e w1 ⟨rfl, b1⟩
  replace HA := Lib.hid (HA.out.call b1)
  replace HW := Lib.hid (step HW.out b1)
  clear b1 dA_0 dA_1 dA_2 dA_3 dA_4 dA_5 dA_6 dA_7 dA_8 dA_9 dA_10
  go_wp2
  go_ret
  exact ⟨rfl, HW.out⟩
 cases b3
 ·go_enter Tryz.func38, Tryz.ntmps38
  have HA : Hid (HasL (w.alloc (.cells #[.int .i64 k, .int .i64 y, .int .i64 mo, .int .i64 d, .int .i64 hr, .int .i64 mi, .bool sn, .string sd, .int .i64 sk, .bool zd, .int .i64 z] 25)) w.heap.size [.int .i64 k, .int .i64 y, .int .i64 mo, .int .i64 d, .int .i64 hr, .int .i64 mi, .bool sn, .string sd, .int .i64 sk, .bool zd, .int .i64 z]) := Lib.hid (HasL.new w [.int .i64 k, .int .i64 y, .int .i64 mo, .int .i64 d, .int .i64 hr, .int .i64 mi, .bool sn, .string sd, .int .i64 sk, .bool zd, .int .i64 z] 25)
  have HW := Lib.hid (stepA (Below.refl w.heap.size w) (.cells #[.int .i64 k, .int .i64 y, .int .i64 mo, .int .i64 d, .int .i64 hr, .int .i64 mi, .bool sn, .string sd, .int .i64 sk, .bool zd, .int .i64 z] 25))
  obtain ⟨dA_0, dA_1, dA_2, dA_3, dA_4, dA_5, dA_6, dA_7, dA_8, dA_9, dA_10⟩ := HA.out.all11
  go_wp2_with fail
  refine (cK _).mono ?_
  rintro e w_ ⟨rfl, rfl⟩
  clear dA_0 dA_1 dA_2 dA_3 dA_4 dA_5 dA_6 dA_7 dA_8 dA_9 dA_10
  obtain ⟨dA_0, dA_1, dA_2, dA_3, dA_4, dA_5, dA_6, dA_7, dA_8, dA_9, dA_10⟩ := HA.out.all11
  go_wp2_with fail
  refine (cD _ (HT0.out.next HW.out)).mono ?_
  rintro e w1 ⟨rfl, b1⟩
  replace HA := Lib.hid (HA.out.call b1)
  replace HW := Lib.hid (step HW.out b1)
  clear b1 dA_0 dA_1 dA_2 dA_3 dA_4 dA_5 dA_6 dA_7 dA_8 dA_9 dA_10
  obtain ⟨dA_0, dA_1, dA_2, dA_3, dA_4, dA_5, dA_6, dA_7, dA_8, dA_9, dA_10⟩ := HA.out.all11
  go_wp2_with fail
  refine (cT _ (HT0.out.next HW.out)).mono ?_
  rintro e w2 ⟨rfl, b2⟩
  replace HA := Lib.hid (HA.out.call b2)
  replace HW := Lib.hid (step HW.out b2)
  clear b2 dA_0 dA_1 dA_2 dA_3 dA_4 dA_5 dA_6 dA_7 dA_8 dA_9 dA_10
  go_wp2
  go_ret
  exact ⟨rfl, HW.out⟩
 ·go_enter Tryz.func38, Tryz.ntmps38
  have HA : Hid (HasL (w.alloc (.cells #[.int .i64 k, .int .i64 y, .int .i64 mo, .int .i64 d, .int .i64 hr, .int .i64 mi, .bool sn, .string sd, .int .i64 sk, .bool zd, .int .i64 z] 25)) w.heap.size [.int .i64 k, .int .i64 y, .int .i64 mo, .int .i64 d, .int .i64 hr, .int .i64 mi, .bool sn, .string sd, .int .i64 sk, .bool zd, .int .i64 z]) := Lib.hid (HasL.new w [.int .i64 k, .int .i64 y, .int .i64 mo, .int .i64 d, .int .i64 hr, .int .i64 mi, .bool sn, .string sd, .int .i64 sk, .bool zd, .int .i64 z] 25)
  have HW := Lib.hid (stepA (Below.refl w.heap.size w) (.cells #[.int .i64 k, .int .i64 y, .int .i64 mo, .int .i64 d, .int .i64 hr, .int .i64 mi, .bool sn, .string sd, .int .i64 sk, .bool zd, .int .i64 z] 25))
  obtain ⟨dA_0, dA_1, dA_2, dA_3, dA_4, dA_5, dA_6, dA_7, dA_8, dA_9, dA_10⟩ := HA.out.all11
  go_wp2_with fail
  refine (cK _).mono ?_
  rintro e w_ ⟨rfl, rfl⟩
  clear dA_0 dA_1 dA_2 dA_3 dA_4 dA_5 dA_6 dA_7 dA_8 dA_9 dA_10
  obtain ⟨dA_0, dA_1, dA_2, dA_3, dA_4, dA_5, dA_6, dA_7, dA_8, dA_9, dA_10⟩ := HA.out.all11
  go_wp2_with fail
  refine (cD _ (HT0.out.next HW.out)).mono ?_
  rintro e w1 ⟨rfl, b1⟩
  replace HA := Lib.hid (HA.out.call b1)
  replace HW := Lib.hid (step HW.out b1)
  clear b1 dA_0 dA_1 dA_2 dA_3 dA_4 dA_5 dA_6 dA_7 dA_8 dA_9 dA_10
  obtain ⟨dA_0, dA_1, dA_2, dA_3, dA_4, dA_5, dA_6, dA_7, dA_8, dA_9, dA_10⟩ := HA.out.all11
  go_wp2_with fail
  refine (cT _ (HT0.out.next HW.out)).mono ?_
  rintro e w2 ⟨rfl, b2⟩
  replace HA := Lib.hid (HA.out.call b2)
  replace HW := Lib.hid (step HW.out b2)
  clear b2 dA_0 dA_1 dA_2 dA_3 dA_4 dA_5 dA_6 dA_7 dA_8 dA_9 dA_10
  obtain ⟨dA_0, dA_1, dA_2, dA_3, dA_4, dA_5, dA_6, dA_7, dA_8, dA_9, dA_10⟩ := HA.out.all11
  go_wp2_with fail
  refine (cZ _).mono ?_
  rintro e w3 ⟨rfl, b3⟩
  replace HA := Lib.hid (HA.out.call b3)
  replace HW := Lib.hid (step HW.out b3)
  clear b3 dA_0 dA_1 dA_2 dA_3 dA_4 dA_5 dA_6 dA_7 dA_8 dA_9 dA_10
  go_wp2
  go_ret
  exact ⟨rfl, HW.out⟩
theorem p_valid (m : Mom) (zs : m.sec.ds.size ≤ 400) (w : World) (hT : Tabs w) : Calls Tryz.prog 38 #[m.v] w fun e w' => e = .returned (.bool (okB m)) ∧ Below w.heap.size w w' := by
 obtain ⟨k, y, mo, d, hr, mi, ⟨sn, sd, sk⟩, zd, z⟩ := m
 simp only at zs
 unfold okB Mom.v
 simp only
 refine pvalid_any k y mo d hr mi sn sd sk zd z _ _ _ _ (fun W => p_isKind k W) (fun W hW => ?_) (fun W hW => ?_) (fun W => p_zone k y mo d hr mi sn sd sk zd z W) w hT
 ·unfold dateB
  by_cases h : datedB k = true
  ·rw [if_pos h]
   exact pdate_yes k y mo d hr mi sn sd sk zd z h W hW
  ·rw [if_neg h]
   exact pdate_no k y mo d hr mi sn sd sk zd z (by simpa using h) W
 ·unfold timeB
  by_cases h : timedB k = true
  ·rw [if_pos h]
   have cO := fun W hW => progOk.of 60 W (by omega) (by omega) hW
   rw [sixty_eq] at cO
   exact ptime_yes k y mo d hr mi sn sd sk zd z _ _ _ h (fun W => p_within hr 0 23 W) (fun W => p_within mi 0 59 W) cO (fun W hW => p_isBelow ⟨sn, sd, sk⟩ sixtyD zs (by decide) W hW) W hW
  ·rw [if_neg h]
   exact ptime_no k y mo d hr mi sn sd sk zd z (by simpa using h) W
theorem p_check6 (m : Mom) (zs : m.sec.ds.size ≤ 400) (w : World) (hT : Tabs w) : Calls Tryz.prog 13 #[m.v] w fun e w' => e = .returned (.int .i64 (checkS m)) ∧ Below w.heap.size w w' := by
 have cV := fun W hW => p_valid m zs W hW
 unfold checkS
 obtain ⟨b, hb⟩ : ∃ b, okB m = b := ⟨_, rfl⟩
 rw [hb] at cV ⊢
 clear hb zs
 obtain ⟨k, y, mo, d, hr, mi, ⟨sn, sd, sk⟩, zd, z⟩ := m
 unfold Mom.v at cV ⊢
 simp only at cV ⊢
 cases b
 all_goals (
  go_enter Tryz.func13, Tryz.ntmps13
  go_wp2_with fail
  refine (cV _ (hT.next (stepA (Below.refl _ _) _))).mono ?_
  rintro e w1 ⟨rfl, b1⟩
  have HB := Lib.hid (step (stepA (Below.refl w.heap.size w) _) b1)
  clear b1
  go_wp2
  go_ret
  exact ⟨rfl, HB.out⟩)
end Go.Proofs.YtmdnijehoagamaaGreatDoor
