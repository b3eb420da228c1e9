/- MX MY NO -/
import Derived.Deep.DeepCutAuto
import Derived.Test.YtmdnijehoagamaaGreatDoorK20
set_option linter.unusedVariables false
set_option linter.unusedSimpArgs false
namespace Go.Proofs.YtmdnijehoagamaaGreatDoor
set_option maxRecDepth 100000
set_option maxHeartbeats 8000000
open Go.RowKit
theorem split_neg (an : Bool) (ad : ByteArray) (ak : Int) (vn : Bool) (vd : ByteArray) (vk : Int) (fd : ByteArray) (fk : Int) (gn : Bool) (gd : ByteArray) (gk : Int) (T : ByteArray) (N qd qs qt qa : Int) (n0 : -1000000000000000000 ≤ N) (n1 : N ≤ 1000000000000000000)
  (cO : ∀ W, Tabs W → Calls Tryz.prog 62 #[.int .i64 1] W fun e w' => e = .returned (.agg #[.bool false, .string ⟨#[49]⟩, .int .i64 0]) ∧ Below W.heap.size W w')
  (cD : ∀ W, Tabs W → Calls Tryz.prog 105 #[.agg #[.bool an, .string ad, .int .i64 ak], .agg #[.bool false, .string ⟨#[49]⟩, .int .i64 0], .int .i64 0] W fun e w' => e = .returned (.tuple #[.agg #[.bool vn, .string vd, .int .i64 vk], .int .i64 qd]) ∧ Below W.heap.size W w')
  (cS : ∀ W, Tabs W → Calls Tryz.prog 104 #[.agg #[.bool an, .string ad, .int .i64 ak], .agg #[.bool vn, .string vd, .int .i64 vk]] W fun e w' => e = .returned (.tuple #[.agg #[.bool true, .string fd, .int .i64 fk], .int .i64 qs]) ∧ Below W.heap.size W w')
  (cT : ∀ W, Tabs W → Calls Tryz.prog 82 #[.agg #[.bool vn, .string vd, .int .i64 vk]] W fun e w' => e = .returned (.tuple #[.string T, .int .i64 qt]) ∧ Below W.heap.size W w')
  (cP : ∀ W, Calls Tryz.prog 106 #[.string T, .int .i64 10, .int .i64 64] W fun e w' => e = .returned (.tuple #[.int .i64 N, .nilIface]) ∧ Below W.heap.size W w') (cA : ∀ W, Tabs W → Calls Tryz.prog 94 #[.agg #[.bool true, .string fd, .int .i64 fk], .agg #[.bool false, .string ⟨#[49]⟩, .int .i64 0]] W fun e w' => e = .returned (.tuple #[.agg #[.bool gn, .string gd, .int .i64 gk], .int .i64 qa]) ∧ Below W.heap.size W w') (w : World) (hT : Tabs w) :
  Calls Tryz.prog 66 #[.agg #[.bool an, .string ad, .int .i64 ak]] w fun e w' => e = .returned (.agg #[.int .i64 (N - 1), .bool gn, .string gd, .int .i64 gk]) ∧ Below w.heap.size w w' := by
 go_enter Tryz.func66, Tryz.ntmps66
 have HA : Hid (HasL ((w.alloc (.cells #[.bool an, .string ad, .int .i64 ak] 23)).alloc (.cells #[.int .i64 0, .bool false, .string ⟨#[]⟩, .int .i64 0] 69)) w.heap.size [.bool an, .string ad, .int .i64 ak]) := Lib.hid ((HasL.new w [.bool an, .string ad, .int .i64 ak] 23).alloc (.cells #[.int .i64 0, .bool false, .string ⟨#[]⟩, .int .i64 0] 69))
 have HR : Hid (HasL ((w.alloc (.cells #[.bool an, .string ad, .int .i64 ak] 23)).alloc (.cells #[.int .i64 0, .bool false, .string ⟨#[]⟩, .int .i64 0] 69)) (w.heap.size + 1) [.int .i64 0, .bool false, .string ⟨#[]⟩, .int .i64 0]) := Lib.hid (by have h := (HasL.new (w.alloc (.cells #[.bool an, .string ad, .int .i64 ak] 23)) [.int .i64 0, .bool false, .string ⟨#[]⟩, .int .i64 0] 69); rw [show (w.alloc (.cells #[.bool an, .string ad, .int .i64 ak] 23)).heap.size = w.heap.size + 1 by simp] at h; exact h)
 have HW := Lib.hid (stepA (stepA (Below.refl w.heap.size w) (.cells #[.bool an, .string ad, .int .i64 ak] 23)) (.cells #[.int .i64 0, .bool false, .string ⟨#[]⟩, .int .i64 0] 69))
 have HT0 := Lib.hid hT
 have HT := Lib.hid (hT.next HW.out)
 clear hT
 have NE_R_A : Hid ((w.heap.size + 1) ≠ w.heap.size ∧ w.heap.size ≠ (w.heap.size + 1)) := Lib.hid (by omega)
 go_wp2_with fail
 refine (cO _ HT.out).mono ?_
 rintro e w1 ⟨rfl, b1⟩
 replace HA := Lib.hid (HA.out.call b1)
 replace HR := Lib.hid (HR.out.call b1)
 replace HW := Lib.hid (step HW.out b1)
 replace HT := Lib.hid (HT.out.next b1)
 clear b1 
 have ne_U_A : w1.heap.size ≠ w.heap.size := by have := HA.out.lt; omega
 have nf_U_A : w.heap.size ≠ w1.heap.size := by have := HA.out.lt; omega
 have NE_U_A := Lib.hid (And.intro ne_U_A nf_U_A)
 have ne_U_R : w1.heap.size ≠ (w.heap.size + 1) := by have := HR.out.lt; omega
 have nf_U_R : (w.heap.size + 1) ≠ w1.heap.size := by have := HR.out.lt; omega
 have NE_U_R := Lib.hid (And.intro ne_U_R nf_U_R)
 replace HA := Lib.hid (HA.out.alloc (.cells #[.bool false, .string ⟨#[49]⟩, .int .i64 0] 23))
 replace HR := Lib.hid (HR.out.alloc (.cells #[.bool false, .string ⟨#[49]⟩, .int .i64 0] 23))
 have HU := Lib.hid (HasL.new w1 [.bool false, .string ⟨#[49]⟩, .int .i64 0] 23)
 have le_U : w.heap.size ≤ w1.heap.size := HW.out.size
 replace HW := Lib.hid (stepA HW.out (.cells #[.bool false, .string ⟨#[49]⟩, .int .i64 0] 23))
 replace HT := Lib.hid (HT.out.next (stepA (Below.refl _ _) (.cells #[.bool false, .string ⟨#[49]⟩, .int .i64 0] 23)))
 obtain ⟨dA_0, dA_1, dA_2⟩ := HA.out.all3
 go_wp2_with fail
 refine (cD _ HT.out).mono ?_
 rintro e w2 ⟨rfl, b2⟩
 replace HA := Lib.hid (HA.out.call b2)
 replace HR := Lib.hid (HR.out.call b2)
 replace HU := Lib.hid (HU.out.call b2)
 replace HW := Lib.hid (step HW.out b2)
 replace HT := Lib.hid (HT.out.next b2)
 clear b2 ne_U_A nf_U_A ne_U_R nf_U_R dA_0 dA_1 dA_2
 have ne_V_A : w2.heap.size ≠ w.heap.size := by have := HA.out.lt; omega
 have nf_V_A : w.heap.size ≠ w2.heap.size := by have := HA.out.lt; omega
 have NE_V_A := Lib.hid (And.intro ne_V_A nf_V_A)
 have ne_V_R : w2.heap.size ≠ (w.heap.size + 1) := by have := HR.out.lt; omega
 have nf_V_R : (w.heap.size + 1) ≠ w2.heap.size := by have := HR.out.lt; omega
 have NE_V_R := Lib.hid (And.intro ne_V_R nf_V_R)
 have ne_V_U : w2.heap.size ≠ w1.heap.size := by have := HU.out.lt; omega
 have nf_V_U : w1.heap.size ≠ w2.heap.size := by have := HU.out.lt; omega
 have NE_V_U := Lib.hid (And.intro ne_V_U nf_V_U)
 replace HA := Lib.hid (HA.out.alloc (.cells #[.bool vn, .string vd, .int .i64 vk] 23))
 replace HR := Lib.hid (HR.out.alloc (.cells #[.bool vn, .string vd, .int .i64 vk] 23))
 replace HU := Lib.hid (HU.out.alloc (.cells #[.bool vn, .string vd, .int .i64 vk] 23))
 have HV := Lib.hid (HasL.new w2 [.bool vn, .string vd, .int .i64 vk] 23)
 have le_V : w.heap.size ≤ w2.heap.size := HW.out.size
 replace HW := Lib.hid (stepA HW.out (.cells #[.bool vn, .string vd, .int .i64 vk] 23))
 replace HT := Lib.hid (HT.out.next (stepA (Below.refl _ _) (.cells #[.bool vn, .string vd, .int .i64 vk] 23)))
 obtain ⟨dA_0, dA_1, dA_2⟩ := HA.out.all3
 go_wp2_with fail
 refine (cS _ HT.out).mono ?_
 rintro e w3 ⟨rfl, b3⟩
 replace HA := Lib.hid (HA.out.call b3)
 replace HR := Lib.hid (HR.out.call b3)
 replace HU := Lib.hid (HU.out.call b3)
 replace HV := Lib.hid (HV.out.call b3)
 replace HW := Lib.hid (step HW.out b3)
 replace HT := Lib.hid (HT.out.next b3)
 clear b3 ne_V_A nf_V_A ne_V_R nf_V_R ne_V_U nf_V_U dA_0 dA_1 dA_2
 have ne_F_A : w3.heap.size ≠ w.heap.size := by have := HA.out.lt; omega
 have nf_F_A : w.heap.size ≠ w3.heap.size := by have := HA.out.lt; omega
 have NE_F_A := Lib.hid (And.intro ne_F_A nf_F_A)
 have ne_F_R : w3.heap.size ≠ (w.heap.size + 1) := by have := HR.out.lt; omega
 have nf_F_R : (w.heap.size + 1) ≠ w3.heap.size := by have := HR.out.lt; omega
 have NE_F_R := Lib.hid (And.intro ne_F_R nf_F_R)
 have ne_F_U : w3.heap.size ≠ w1.heap.size := by have := HU.out.lt; omega
 have nf_F_U : w1.heap.size ≠ w3.heap.size := by have := HU.out.lt; omega
 have NE_F_U := Lib.hid (And.intro ne_F_U nf_F_U)
 have ne_F_V : w3.heap.size ≠ w2.heap.size := by have := HV.out.lt; omega
 have nf_F_V : w2.heap.size ≠ w3.heap.size := by have := HV.out.lt; omega
 have NE_F_V := Lib.hid (And.intro ne_F_V nf_F_V)
 replace HA := Lib.hid (HA.out.alloc (.cells #[.bool true, .string fd, .int .i64 fk] 23))
 replace HR := Lib.hid (HR.out.alloc (.cells #[.bool true, .string fd, .int .i64 fk] 23))
 replace HU := Lib.hid (HU.out.alloc (.cells #[.bool true, .string fd, .int .i64 fk] 23))
 replace HV := Lib.hid (HV.out.alloc (.cells #[.bool true, .string fd, .int .i64 fk] 23))
 have HF := Lib.hid (HasL.new w3 [.bool true, .string fd, .int .i64 fk] 23)
 have le_F : w.heap.size ≤ w3.heap.size := HW.out.size
 replace HW := Lib.hid (stepA HW.out (.cells #[.bool true, .string fd, .int .i64 fk] 23))
 replace HT := Lib.hid (HT.out.next (stepA (Below.refl _ _) (.cells #[.bool true, .string fd, .int .i64 fk] 23)))
 obtain ⟨dV_0, dV_1, dV_2⟩ := HV.out.all3
 go_wp2_with fail
 refine (cT _ HT.out).mono ?_
 rintro e w4 ⟨rfl, b4⟩
 replace HA := Lib.hid (HA.out.call b4)
 replace HR := Lib.hid (HR.out.call b4)
 replace HU := Lib.hid (HU.out.call b4)
 replace HV := Lib.hid (HV.out.call b4)
 replace HF := Lib.hid (HF.out.call b4)
 replace HW := Lib.hid (step HW.out b4)
 replace HT := Lib.hid (HT.out.next b4)
 clear b4 ne_F_A nf_F_A ne_F_R nf_F_R ne_F_U nf_F_U ne_F_V nf_F_V dV_0 dV_1 dV_2
 go_wp2_with fail
 refine (cP _).mono ?_
 rintro e w5 ⟨rfl, b5⟩
 replace HA := Lib.hid (HA.out.call b5)
 replace HR := Lib.hid (HR.out.call b5)
 replace HU := Lib.hid (HU.out.call b5)
 replace HV := Lib.hid (HV.out.call b5)
 replace HF := Lib.hid (HF.out.call b5)
 replace HW := Lib.hid (step HW.out b5)
 replace HT := Lib.hid (HT.out.next b5)
 clear b5 
 obtain ⟨dF_0, dF_1, dF_2⟩ := HF.out.all3
 obtain ⟨dU_0, dU_1, dU_2⟩ := HU.out.all3
 go_wp2_with fail
 refine (cA _ HT.out).mono ?_
 rintro e w6 ⟨rfl, b6⟩
 replace HA := Lib.hid (HA.out.call b6)
 replace HR := Lib.hid (HR.out.call b6)
 replace HU := Lib.hid (HU.out.call b6)
 replace HV := Lib.hid (HV.out.call b6)
 replace HF := Lib.hid (HF.out.call b6)
 replace HW := Lib.hid (step HW.out b6)
 replace HT := Lib.hid (HT.out.next b6)
 clear b6 dF_0 dF_1 dF_2 dU_0 dU_1 dU_2
 obtain ⟨dF_0, dF_1, dF_2⟩ := HF.out.all3
 obtain ⟨dR_0, dR_1, dR_2, dR_3⟩ := HR.out.all4
 obtain ⟨zF_0, zF_1, zF_2⟩ := HF.out.free3
 obtain ⟨zR_0, zR_1, zR_2, zR_3⟩ := HR.out.free4
 obtain ⟨ne_F_R, nf_F_R⟩ := NE_F_R.out
 go_wp2
 replace HA := Lib.hid (HA.out.far NE_F_A.out.1 0 (.bool gn))
 replace HR := Lib.hid (HR.out.far NE_F_R.out.1 0 (.bool gn))
 replace HU := Lib.hid (HU.out.far NE_F_U.out.1 0 (.bool gn))
 replace HV := Lib.hid (HV.out.far NE_F_V.out.1 0 (.bool gn))
 replace HF := Lib.hid (HF.out.set 0 (.bool gn) (by simp))
 replace HW := Lib.hid (setStep HW.out le_F 0 (.bool gn))
 replace HA := Lib.hid (HA.out.far NE_F_A.out.1 1 (.string gd))
 replace HR := Lib.hid (HR.out.far NE_F_R.out.1 1 (.string gd))
 replace HU := Lib.hid (HU.out.far NE_F_U.out.1 1 (.string gd))
 replace HV := Lib.hid (HV.out.far NE_F_V.out.1 1 (.string gd))
 replace HF := Lib.hid (HF.out.set 1 (.string gd) (by simp))
 replace HW := Lib.hid (setStep HW.out le_F 1 (.string gd))
 replace HA := Lib.hid (HA.out.far NE_F_A.out.1 2 (.int .i64 gk))
 replace HR := Lib.hid (HR.out.far NE_F_R.out.1 2 (.int .i64 gk))
 replace HU := Lib.hid (HU.out.far NE_F_U.out.1 2 (.int .i64 gk))
 replace HV := Lib.hid (HV.out.far NE_F_V.out.1 2 (.int .i64 gk))
 replace HF := Lib.hid (HF.out.set 2 (.int .i64 gk) (by simp))
 replace HW := Lib.hid (setStep HW.out le_F 2 (.int .i64 gk))
 replace HA := Lib.hid (HA.out.far NE_R_A.out.1 0 (.int .i64 (N - 1)))
 replace HR := Lib.hid (HR.out.set 0 (.int .i64 (N - 1)) (by simp))
 replace HU := Lib.hid (HU.out.far NE_U_R.out.2 0 (.int .i64 (N - 1)))
 replace HV := Lib.hid (HV.out.far NE_V_R.out.2 0 (.int .i64 (N - 1)))
 replace HF := Lib.hid (HF.out.far NE_F_R.out.2 0 (.int .i64 (N - 1)))
 replace HW := Lib.hid (setStep HW.out (Nat.le_succ _) 0 (.int .i64 (N - 1)))
 replace HA := Lib.hid (HA.out.far NE_R_A.out.1 1 (.bool gn))
 replace HR := Lib.hid (HR.out.set 1 (.bool gn) (by simp))
 replace HU := Lib.hid (HU.out.far NE_U_R.out.2 1 (.bool gn))
 replace HV := Lib.hid (HV.out.far NE_V_R.out.2 1 (.bool gn))
 replace HF := Lib.hid (HF.out.far NE_F_R.out.2 1 (.bool gn))
 replace HW := Lib.hid (setStep HW.out (Nat.le_succ _) 1 (.bool gn))
 replace HA := Lib.hid (HA.out.far NE_R_A.out.1 2 (.string gd))
 replace HR := Lib.hid (HR.out.set 2 (.string gd) (by simp))
 replace HU := Lib.hid (HU.out.far NE_U_R.out.2 2 (.string gd))
 replace HV := Lib.hid (HV.out.far NE_V_R.out.2 2 (.string gd))
 replace HF := Lib.hid (HF.out.far NE_F_R.out.2 2 (.string gd))
 replace HW := Lib.hid (setStep HW.out (Nat.le_succ _) 2 (.string gd))
 replace HA := Lib.hid (HA.out.far NE_R_A.out.1 3 (.int .i64 gk))
 replace HR := Lib.hid (HR.out.set 3 (.int .i64 gk) (by simp))
 replace HU := Lib.hid (HU.out.far NE_U_R.out.2 3 (.int .i64 gk))
 replace HV := Lib.hid (HV.out.far NE_V_R.out.2 3 (.int .i64 gk))
 replace HF := Lib.hid (HF.out.far NE_F_R.out.2 3 (.int .i64 gk))
 replace HW := Lib.hid (setStep HW.out (Nat.le_succ _) 3 (.int .i64 gk))
 obtain ⟨r0, r1, r2, r3⟩ := HR.out.all4
 exact bodyPost_ret (v := .agg #[.int .i64 (N - 1), .bool gn, .string gd, .int .i64 gk]) (by simp [results, Tryz.results66, go_sem, r0, r1, r2, r3]) rfl ⟨rfl, HW.out⟩
theorem split_pos (an : Bool) (ad : ByteArray) (ak : Int) (vn : Bool) (vd : ByteArray) (vk : Int) (fd : ByteArray) (fk : Int) (T : ByteArray) (N qd qs qt : Int) (n0 : -1000000000000000000 ≤ N) (n1 : N ≤ 1000000000000000000)
  (cO : ∀ W, Tabs W → Calls Tryz.prog 62 #[.int .i64 1] W fun e w' => e = .returned (.agg #[.bool false, .string ⟨#[49]⟩, .int .i64 0]) ∧ Below W.heap.size W w')
  (cD : ∀ W, Tabs W → Calls Tryz.prog 105 #[.agg #[.bool an, .string ad, .int .i64 ak], .agg #[.bool false, .string ⟨#[49]⟩, .int .i64 0], .int .i64 0] W fun e w' => e = .returned (.tuple #[.agg #[.bool vn, .string vd, .int .i64 vk], .int .i64 qd]) ∧ Below W.heap.size W w')
  (cS : ∀ W, Tabs W → Calls Tryz.prog 104 #[.agg #[.bool an, .string ad, .int .i64 ak], .agg #[.bool vn, .string vd, .int .i64 vk]] W fun e w' => e = .returned (.tuple #[.agg #[.bool false, .string fd, .int .i64 fk], .int .i64 qs]) ∧ Below W.heap.size W w')
  (cT : ∀ W, Tabs W → Calls Tryz.prog 82 #[.agg #[.bool vn, .string vd, .int .i64 vk]] W fun e w' => e = .returned (.tuple #[.string T, .int .i64 qt]) ∧ Below W.heap.size W w')
  (cP : ∀ W, Calls Tryz.prog 106 #[.string T, .int .i64 10, .int .i64 64] W fun e w' => e = .returned (.tuple #[.int .i64 N, .nilIface]) ∧ Below W.heap.size W w') (w : World) (hT : Tabs w) :
  Calls Tryz.prog 66 #[.agg #[.bool an, .string ad, .int .i64 ak]] w fun e w' => e = .returned (.agg #[.int .i64 (N), .bool false, .string fd, .int .i64 fk]) ∧ Below w.heap.size w w' := by
 go_enter Tryz.func66, Tryz.ntmps66
 have HA : Hid (HasL ((w.alloc (.cells #[.bool an, .string ad, .int .i64 ak] 23)).alloc (.cells #[.int .i64 0, .bool false, .string ⟨#[]⟩, .int .i64 0] 69)) w.heap.size [.bool an, .string ad, .int .i64 ak]) := Lib.hid ((HasL.new w [.bool an, .string ad, .int .i64 ak] 23).alloc (.cells #[.int .i64 0, .bool false, .string ⟨#[]⟩, .int .i64 0] 69))
 have HR : Hid (HasL ((w.alloc (.cells #[.bool an, .string ad, .int .i64 ak] 23)).alloc (.cells #[.int .i64 0, .bool false, .string ⟨#[]⟩, .int .i64 0] 69)) (w.heap.size + 1) [.int .i64 0, .bool false, .string ⟨#[]⟩, .int .i64 0]) := Lib.hid (by have h := (HasL.new (w.alloc (.cells #[.bool an, .string ad, .int .i64 ak] 23)) [.int .i64 0, .bool false, .string ⟨#[]⟩, .int .i64 0] 69); rw [show (w.alloc (.cells #[.bool an, .string ad, .int .i64 ak] 23)).heap.size = w.heap.size + 1 by simp] at h; exact h)
 have HW := Lib.hid (stepA (stepA (Below.refl w.heap.size w) (.cells #[.bool an, .string ad, .int .i64 ak] 23)) (.cells #[.int .i64 0, .bool false, .string ⟨#[]⟩, .int .i64 0] 69))
 have HT0 := Lib.hid hT
 have HT := Lib.hid (hT.next HW.out)
 clear hT
 have NE_R_A : Hid ((w.heap.size + 1) ≠ w.heap.size ∧ w.heap.size ≠ (w.heap.size + 1)) := Lib.hid (by omega)
 go_wp2_with fail
 refine (cO _ HT.out).mono ?_
 rintro e w1 ⟨rfl, b1⟩
 replace HA := Lib.hid (HA.out.call b1)
 replace HR := Lib.hid (HR.out.call b1)
 replace HW := Lib.hid (step HW.out b1)
 replace HT := Lib.hid (HT.out.next b1)
 clear b1 
 have ne_U_A : w1.heap.size ≠ w.heap.size := by have := HA.out.lt; omega
 have nf_U_A : w.heap.size ≠ w1.heap.size := by have := HA.out.lt; omega
 have NE_U_A := Lib.hid (And.intro ne_U_A nf_U_A)
 have ne_U_R : w1.heap.size ≠ (w.heap.size + 1) := by have := HR.out.lt; omega
 have nf_U_R : (w.heap.size + 1) ≠ w1.heap.size := by have := HR.out.lt; omega
 have NE_U_R := Lib.hid (And.intro ne_U_R nf_U_R)
 replace HA := Lib.hid (HA.out.alloc (.cells #[.bool false, .string ⟨#[49]⟩, .int .i64 0] 23))
 replace HR := Lib.hid (HR.out.alloc (.cells #[.bool false, .string ⟨#[49]⟩, .int .i64 0] 23))
 have HU := Lib.hid (HasL.new w1 [.bool false, .string ⟨#[49]⟩, .int .i64 0] 23)
 have le_U : w.heap.size ≤ w1.heap.size := HW.out.size
 replace HW := Lib.hid (stepA HW.out (.cells #[.bool false, .string ⟨#[49]⟩, .int .i64 0] 23))
 replace HT := Lib.hid (HT.out.next (stepA (Below.refl _ _) (.cells #[.bool false, .string ⟨#[49]⟩, .int .i64 0] 23)))
 obtain ⟨dA_0, dA_1, dA_2⟩ := HA.out.all3
 go_wp2_with fail
 refine (cD _ HT.out).mono ?_
 rintro e w2 ⟨rfl, b2⟩
 replace HA := Lib.hid (HA.out.call b2)
 replace HR := Lib.hid (HR.out.call b2)
 replace HU := Lib.hid (HU.out.call b2)
 replace HW := Lib.hid (step HW.out b2)
 replace HT := Lib.hid (HT.out.next b2)
 clear b2 ne_U_A nf_U_A ne_U_R nf_U_R dA_0 dA_1 dA_2
 have ne_V_A : w2.heap.size ≠ w.heap.size := by have := HA.out.lt; omega
 have nf_V_A : w.heap.size ≠ w2.heap.size := by have := HA.out.lt; omega
 have NE_V_A := Lib.hid (And.intro ne_V_A nf_V_A)
 have ne_V_R : w2.heap.size ≠ (w.heap.size + 1) := by have := HR.out.lt; omega
 have nf_V_R : (w.heap.size + 1) ≠ w2.heap.size := by have := HR.out.lt; omega
 have NE_V_R := Lib.hid (And.intro ne_V_R nf_V_R)
 have ne_V_U : w2.heap.size ≠ w1.heap.size := by have := HU.out.lt; omega
 have nf_V_U : w1.heap.size ≠ w2.heap.size := by have := HU.out.lt; omega
 have NE_V_U := Lib.hid (And.intro ne_V_U nf_V_U)
 replace HA := Lib.hid (HA.out.alloc (.cells #[.bool vn, .string vd, .int .i64 vk] 23))
 replace HR := Lib.hid (HR.out.alloc (.cells #[.bool vn, .string vd, .int .i64 vk] 23))
 replace HU := Lib.hid (HU.out.alloc (.cells #[.bool vn, .string vd, .int .i64 vk] 23))
 have HV := Lib.hid (HasL.new w2 [.bool vn, .string vd, .int .i64 vk] 23)
 have le_V : w.heap.size ≤ w2.heap.size := HW.out.size
 replace HW := Lib.hid (stepA HW.out (.cells #[.bool vn, .string vd, .int .i64 vk] 23))
 replace HT := Lib.hid (HT.out.next (stepA (Below.refl _ _) (.cells #[.bool vn, .string vd, .int .i64 vk] 23)))
 obtain ⟨dA_0, dA_1, dA_2⟩ := HA.out.all3
 go_wp2_with fail
 refine (cS _ HT.out).mono ?_
 rintro e w3 ⟨rfl, b3⟩
 replace HA := Lib.hid (HA.out.call b3)
 replace HR := Lib.hid (HR.out.call b3)
 replace HU := Lib.hid (HU.out.call b3)
 replace HV := Lib.hid (HV.out.call b3)
 replace HW := Lib.hid (step HW.out b3)
 replace HT := Lib.hid (HT.out.next b3)
 clear b3 ne_V_A nf_V_A ne_V_R nf_V_R ne_V_U nf_V_U dA_0 dA_1 dA_2
 have ne_F_A : w3.heap.size ≠ w.heap.size := by have := HA.out.lt; omega
 have nf_F_A : w.heap.size ≠ w3.heap.size := by have := HA.out.lt; omega
 have NE_F_A := Lib.hid (And.intro ne_F_A nf_F_A)
 have ne_F_R : w3.heap.size ≠ (w.heap.size + 1) := by have := HR.out.lt; omega
 have nf_F_R : (w.heap.size + 1) ≠ w3.heap.size := by have := HR.out.lt; omega
 have NE_F_R := Lib.hid (And.intro ne_F_R nf_F_R)
 have ne_F_U : w3.heap.size ≠ w1.heap.size := by have := HU.out.lt; omega
 have nf_F_U : w1.heap.size ≠ w3.heap.size := by have := HU.out.lt; omega
 have NE_F_U := Lib.hid (And.intro ne_F_U nf_F_U)
 have ne_F_V : w3.heap.size ≠ w2.heap.size := by have := HV.out.lt; omega
 have nf_F_V : w2.heap.size ≠ w3.heap.size := by have := HV.out.lt; omega
 have NE_F_V := Lib.hid (And.intro ne_F_V nf_F_V)
 replace HA := Lib.hid (HA.out.alloc (.cells #[.bool false, .string fd, .int .i64 fk] 23))
 replace HR := Lib.hid (HR.out.alloc (.cells #[.bool false, .string fd, .int .i64 fk] 23))
 replace HU := Lib.hid (HU.out.alloc (.cells #[.bool false, .string fd, .int .i64 fk] 23))
 replace HV := Lib.hid (HV.out.alloc (.cells #[.bool false, .string fd, .int .i64 fk] 23))
 have HF := Lib.hid (HasL.new w3 [.bool false, .string fd, .int .i64 fk] 23)
 have le_F : w.heap.size ≤ w3.heap.size := HW.out.size
 replace HW := Lib.hid (stepA HW.out (.cells #[.bool false, .string fd, .int .i64 fk] 23))
 replace HT := Lib.hid (HT.out.next (stepA (Below.refl _ _) (.cells #[.bool false, .string fd, .int .i64 fk] 23)))
 obtain ⟨dV_0, dV_1, dV_2⟩ := HV.out.all3
 go_wp2_with fail
 refine (cT _ HT.out).mono ?_
 rintro e w4 ⟨rfl, b4⟩
 replace HA := Lib.hid (HA.out.call b4)
 replace HR := Lib.hid (HR.out.call b4)
 replace HU := Lib.hid (HU.out.call b4)
 replace HV := Lib.hid (HV.out.call b4)
 replace HF := Lib.hid (HF.out.call b4)
 replace HW := Lib.hid (step HW.out b4)
 replace HT := Lib.hid (HT.out.next b4)
 clear b4 ne_F_A nf_F_A ne_F_R nf_F_R ne_F_U nf_F_U ne_F_V nf_F_V dV_0 dV_1 dV_2
 go_wp2_with fail
 refine (cP _).mono ?_
 rintro e w5 ⟨rfl, b5⟩
 replace HA := Lib.hid (HA.out.call b5)
 replace HR := Lib.hid (HR.out.call b5)
 replace HU := Lib.hid (HU.out.call b5)
 replace HV := Lib.hid (HV.out.call b5)
 replace HF := Lib.hid (HF.out.call b5)
 replace HW := Lib.hid (step HW.out b5)
 replace HT := Lib.hid (HT.out.next b5)
 clear b5 
 obtain ⟨dF_0, dF_1, dF_2⟩ := HF.out.all3
 obtain ⟨dR_0, dR_1, dR_2, dR_3⟩ := HR.out.all4
 obtain ⟨zF_0, zF_1, zF_2⟩ := HF.out.free3
 obtain ⟨zR_0, zR_1, zR_2, zR_3⟩ := HR.out.free4
 go_wp2
 replace HA := Lib.hid (HA.out.far NE_R_A.out.1 0 (.int .i64 N))
 replace HR := Lib.hid (HR.out.set 0 (.int .i64 N) (by simp))
 replace HU := Lib.hid (HU.out.far NE_U_R.out.2 0 (.int .i64 N))
 replace HV := Lib.hid (HV.out.far NE_V_R.out.2 0 (.int .i64 N))
 replace HF := Lib.hid (HF.out.far NE_F_R.out.2 0 (.int .i64 N))
 replace HW := Lib.hid (setStep HW.out (Nat.le_succ _) 0 (.int .i64 N))
 replace HA := Lib.hid (HA.out.far NE_R_A.out.1 1 (.bool false))
 replace HR := Lib.hid (HR.out.set 1 (.bool false) (by simp))
 replace HU := Lib.hid (HU.out.far NE_U_R.out.2 1 (.bool false))
 replace HV := Lib.hid (HV.out.far NE_V_R.out.2 1 (.bool false))
 replace HF := Lib.hid (HF.out.far NE_F_R.out.2 1 (.bool false))
 replace HW := Lib.hid (setStep HW.out (Nat.le_succ _) 1 (.bool false))
 replace HA := Lib.hid (HA.out.far NE_R_A.out.1 2 (.string fd))
 replace HR := Lib.hid (HR.out.set 2 (.string fd) (by simp))
 replace HU := Lib.hid (HU.out.far NE_U_R.out.2 2 (.string fd))
 replace HV := Lib.hid (HV.out.far NE_V_R.out.2 2 (.string fd))
 replace HF := Lib.hid (HF.out.far NE_F_R.out.2 2 (.string fd))
 replace HW := Lib.hid (setStep HW.out (Nat.le_succ _) 2 (.string fd))
 replace HA := Lib.hid (HA.out.far NE_R_A.out.1 3 (.int .i64 fk))
 replace HR := Lib.hid (HR.out.set 3 (.int .i64 fk) (by simp))
 replace HU := Lib.hid (HU.out.far NE_U_R.out.2 3 (.int .i64 fk))
 replace HV := Lib.hid (HV.out.far NE_V_R.out.2 3 (.int .i64 fk))
 replace HF := Lib.hid (HF.out.far NE_F_R.out.2 3 (.int .i64 fk))
 replace HW := Lib.hid (setStep HW.out (Nat.le_succ _) 3 (.int .i64 fk))
 obtain ⟨r0, r1, r2, r3⟩ := HR.out.all4
 exact bodyPost_ret (v := .agg #[.int .i64 N, .bool false, .string fd, .int .i64 fk]) (by simp [results, Tryz.results66, go_sem, r0, r1, r2, r3]) rfl ⟨rfl, HW.out⟩
end Go.Proofs.YtmdnijehoagamaaGreatDoor
namespace Go.Proofs.YtmdnijehoagamaaGreatDoor
open Go.RowKit
def SmallD (d : Dec) : Prop := Valid d ∧ num d < 10 ^ 12 * 10 ^ scl d
theorem SmallD.vM {d : Dec} (h : SmallD d) : (vM 130 d).natAbs < 10 ^ 20 * 10 ^ 130 := by
 have h60 := h.1.is.le
 unfold Go.Proofs.YtmdnijehoagamaaGreatDoor.vM
 rw [Int.natAbs_mul, sv_natAbs, Int.natAbs_natCast]
 have h1 := Nat.mul_lt_mul_of_pos_right h.2 (show 0 < 10 ^ (130 - scl d) from Nat.pow_pos (by omega))
 rw [Nat.mul_assoc, ← Nat.pow_add, show scl d + (130 - scl d) = 130 by omega] at h1
 exact Nat.lt_trans h1 (Nat.mul_lt_mul_of_pos_right (by decide) (Nat.pow_pos (by omega)))
theorem SmallD.whole {d : Dec} (h : SmallD d) : Valid (wholeD d) ∧ scl (wholeD d) = 0 ∧ num (wholeD d) < 10 ^ 12 ∧ -1000000000000 ≤ sv (wholeD d) ∧ sv (wholeD d) ≤ 1000000000000 := by
 obtain ⟨_, h2, h3, _, h5⟩ := whole_ok (M := 130) (by omega) h.1 h.vM
 have hq : num d / 10 ^ scl d < 10 ^ 12 := Nat.div_lt_of_lt_mul (by rw [Nat.mul_comm]; exact h.2)
 have e : num (wholeD d) = num d / 10 ^ scl d := by
  rw [← sv_natAbs]
  show (intD (wholeD d)).natAbs = _
  rw [h5, sgn_abs]
 have h6 := sv_natAbs (wholeD d)
 refine ⟨h2, h3, by rw [e]; exact hq, by omega, by omega⟩
theorem p_split (d : Dec) (hd : SmallD d) (w : World) (hT : Tabs w) : Calls Tryz.prog 66 #[d.v] w fun e w' => e = .returned (splitS d).v ∧ Below w.heap.size w w' := by
 obtain ⟨wv, ws, wn, w0, w1⟩ := hd.whole
 have fv := (frac_ok (M := 130) (by omega) hd.1 hd.vM).2.1
 have zd := hd.1.size
 have zw := wv.size
 have zf := fv.size
 have cO := fun W hW => progOk.of 1 W (by omega) (by omega) hW
 rw [one_eq] at cO
 have cD := fun W hW => progOk.div d oneD 0 W (by omega) (by decide) hW
 have cS := fun W hW => progOk.sub d (wholeD d) W (by omega) (by omega) hW
 have cT := fun W hW => progOk.text (wholeD d) W (by omega) hW
 have cP := fun W => parse_call (textS (wholeD d)).1 (by rw [textS_ok wv]; have := textOf_size wv; simp only; omega) (sv (wholeD d)) (by rw [textS_ok wv]; exact int_text wv ws (by omega)) W
 unfold splitS
 cases hn : (fracD d).neg with
 | true =>
  rw [if_pos rfl]
  have cA := fun W hW => progOk.add (fracD d) oneD W (by omega) (by decide) hW
  have h1 := split_neg d.neg d.ds d.sc (wholeD d).neg (wholeD d).ds (wholeD d).sc (fracD d).ds (fracD d).sc (addS (fracD d) oneD).d.neg (addS (fracD d) oneD).d.ds (addS (fracD d) oneD).d.sc
  unfold Dec.v at cS cA
  rw [hn] at cA
  rw [show (subS d (wholeD d)).v = .tuple #[(fracD d).v, .int .i64 (subS d (wholeD d)).e] from rfl] at cS
  unfold Dec.v at cS
  rw [hn] at cS
  exact h1 _ _ _ _ _ _ (by omega) (by omega) cO cD cS cT cP cA w hT
 | false =>
  rw [if_neg (by simp)]
  have h1 := split_pos d.neg d.ds d.sc (wholeD d).neg (wholeD d).ds (wholeD d).sc (fracD d).ds (fracD d).sc
  rw [show (subS d (wholeD d)).v = .tuple #[(fracD d).v, .int .i64 (subS d (wholeD d)).e] from rfl] at cS
  unfold Pt.v
  rw [hn]
  unfold Dec.v at cS
  rw [hn] at cS
  exact h1 _ _ _ _ _ (by omega) (by omega) cO cD cS cT cP w hT
structure OkF (m : Mom) : Prop where
 kind : (datedB m.k || timedB m.k) = true
 date : datedB m.k = true → -9999 ≤ m.y ∧ m.y ≤ 9999 ∧ m.y ≠ 0 ∧ 1 ≤ m.mo ∧ m.mo ≤ 12 ∧ 1 ≤ m.d ∧ m.d ≤ lenM (cntd m.y) m.mo
 nodate : datedB m.k = false → m.y = 0 ∧ m.mo = 0 ∧ m.d = 0
 time : timedB m.k = true → 0 ≤ m.h ∧ m.h ≤ 23 ∧ 0 ≤ m.mi ∧ m.mi ≤ 59 ∧ Valid m.sec ∧ m.sec.neg = false ∧ ordS m.sec sixtyD < 0
 notime : timedB m.k = false → m.h = 0 ∧ m.mi = 0 ∧ m.sec = decNil
 zone : -840 ≤ m.z ∧ m.z ≤ 840 ∧ (m.zd = true ∨ m.z = 0)
theorem within_iff (n lo hi : Int) : withinB n lo hi = true ↔ lo ≤ n ∧ n ≤ hi := by unfold withinB; simp
theorem below_valid {s : Dec} (h : belowB s sixtyD = true) : Valid s ∧ ordS s sixtyD < 0 := by
 unfold belowB at h
 by_cases hv : Valid s
 ·rw [cmpS_ok hv sixty_is.valid] at h
  simp at h
  exact ⟨hv, h⟩
 ·have : (cmpS s sixtyD).2 = 2 := by unfold cmpS; rw [if_neg (fun g => hv g.1)]
  rw [this] at h
  cases h
theorem okF {m : Mom} (h : okB m = true) : OkF m := by
 unfold okB at h
 simp only [Bool.and_eq_true] at h
 obtain ⟨⟨⟨h1, h2⟩, h3⟩, h4⟩ := h
 refine ⟨h1, fun hd => ?_, fun hd => ?_, fun ht => ?_, fun ht => ?_, ?_⟩
 ·unfold dateB at h2
  rw [if_pos hd] at h2
  unfold dateIB at h2
  simp only [Bool.and_eq_true, within_iff, bne_iff_ne] at h2
  omega
 ·unfold dateB at h2
  rw [hd] at h2
  unfold noDate at h2
  simpa [and_assoc] using h2
 ·unfold timeB at h3
  rw [if_pos ht] at h3
  unfold timeIB at h3
  simp only [Bool.and_eq_true, within_iff] at h3
  obtain ⟨⟨⟨a, b⟩, c⟩, e⟩ := h3
  obtain ⟨v, o⟩ := below_valid e
  exact ⟨a.1, a.2, b.1, b.2, v, by simpa using c, o⟩
 ·unfold timeB at h3
  rw [ht] at h3
  unfold noTime at h3
  simp only [Bool.false_eq_true, if_false, Bool.and_eq_true, beq_iff_eq] at h3
  obtain ⟨⟨a, b⟩, ⟨c, e⟩, f⟩ := h3
  refine ⟨a, b, ?_⟩
  obtain ⟨k, y, mo, d, hr, mi, ⟨sn, sd, sk⟩, zd, z⟩ := m
  simp only at c e f
  subst c f
  have : sd = ⟨#[]⟩ := bytes_ext (by rw [← Lib.toList_data, e])
  rw [this]
  rfl
 ·unfold zoneB at h4
  simp only [Bool.and_eq_true, within_iff, Bool.or_eq_true, beq_iff_eq] at h4
  exact ⟨h4.1.1, h4.1.2, h4.2⟩
end Go.Proofs.YtmdnijehoagamaaGreatDoor
