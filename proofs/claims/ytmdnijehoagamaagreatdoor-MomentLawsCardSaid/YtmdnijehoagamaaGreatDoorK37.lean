/- NF -/
import Derived.StillTailTactics
import Derived.Test.YtmdnijehoagamaaGreatDoorK21
set_option linter.unusedVariables false
set_option linter.unusedSimpArgs false
namespace Go.Proofs.YtmdnijehoagamaaGreatDoor
set_option maxRecDepth 100000
set_option maxHeartbeats 8000000
open Go.RowKit
theorem pmonths_any (k y mo d hr mi : Int) (sn : Bool) (sd : ByteArray) (sk : Int) (zd : Bool) (z n : Int) (y0 : -9999 ≤ y) (y1 : y ≤ 9999) (m0 : 1 ≤ mo) (m1 : mo ≤ 12) (n0 : -300000 ≤ n) (n1 : n ≤ 300000) (w : World) (hT : Tabs w) :
  Calls Tryz.prog 63 #[.agg #[.int .i64 k, .int .i64 y, .int .i64 mo, .int .i64 d, .int .i64 hr, .int .i64 mi, .bool sn, .string sd, .int .i64 sk, .bool zd, .int .i64 z], .int .i64 n] w fun e w' => e = .returned (.agg #[.int .i64 k, .int .i64 (wrtY ((12 * cntd y + mo - 1 + n) / 12)), .int .i64 ((12 * cntd y + mo - 1 + n) % 12 + 1), .int .i64 (min d (lenM ((12 * cntd y + mo - 1 + n) / 12) ((12 * cntd y + mo - 1 + n) % 12 + 1))), .int .i64 hr, .int .i64 mi, .bool sn, .string sd, .int .i64 sk, .bool zd, .int .i64 z]) ∧ Below w.heap.size w w' := by
 have cc := fun W => p_counted y (by omega) (by omega) W
 have bc : -10000 ≤ cntd y ∧ cntd y ≤ 10000 := by unfold cntd; split <;> omega
 obtain ⟨cy, hcy⟩ : ∃ c, cntd y = c := ⟨_, rfl⟩
 rw [hcy] at cc bc ⊢
 clear hcy
 obtain ⟨bc0, bc1⟩ := bc
 have cd := fun W => p_divide (12 * cy + mo - 1 + n) 12 (by omega) (by omega) (by omega) (by omega) W
 have g1 : IntKind.i64.wrap (12 * cy) = 12 * cy := IntWalk.i64_in _ (by omega)
 have g2 : IntKind.i64.wrap (12 * cy + mo) = 12 * cy + mo := IntWalk.i64_in _ (by omega)
 have g3 : IntKind.i64.wrap (12 * cy + mo - 1) = 12 * cy + mo - 1 := IntWalk.i64_in _ (by omega)
 have g4 : IntKind.i64.wrap (12 * cy + mo - 1 + n) = 12 * cy + mo - 1 + n := IntWalk.i64_in _ (by omega)
 have bq : -50000 ≤ (12 * cy + mo - 1 + n) / 12 ∧ (12 * cy + mo - 1 + n) / 12 ≤ 50000 := by omega
 have br : 0 ≤ (12 * cy + mo - 1 + n) % 12 ∧ (12 * cy + mo - 1 + n) % 12 ≤ 11 := by omega
 obtain ⟨Q, hQ⟩ : ∃ q, (12 * cy + mo - 1 + n) / 12 = q := ⟨_, rfl⟩
 obtain ⟨R, hR⟩ : ∃ q, (12 * cy + mo - 1 + n) % 12 = q := ⟨_, rfl⟩
 rw [hQ] at cd bq ⊢
 rw [hR] at cd br ⊢
 clear hQ hR
 obtain ⟨bq0, bq1⟩ := bq
 obtain ⟨br0, br1⟩ := br
 have cw := fun W => p_written Q (by omega) (by omega) W
 have cL := fun W hW => p_daysOf Q (R + 1) (by omega) (by omega) W hW
 generalize wrtY Q = wy at *
 generalize lenM Q (R + 1) = L at *
 have hT0 := Lib.hid hT
 clear hT
 go_enter Tryz.func63, Tryz.ntmps63
 go_wp2_with fail
 go_quiet ((first | (go_at_call 89; exact quiet_eq (cc _)) | (go_at_call 92; exact Calls.quiet_of (cd _))))
 rename_i nq
 have HA : Hid (HasL ((((w.alloc (.cells #[.int .i64 k, .int .i64 y, .int .i64 mo, .int .i64 d, .int .i64 hr, .int .i64 mi, .bool sn, .string sd, .int .i64 sk, .bool zd, .int .i64 z] 25)).alloc (.cells #[.int .i64 0, .int .i64 0, .int .i64 0, .int .i64 0, .int .i64 0, .int .i64 0, .bool false, .string ⟨#[]⟩, .int .i64 0, .bool false, .int .i64 0] 25)).drewN nq)) w.heap.size [.int .i64 k, .int .i64 y, .int .i64 mo, .int .i64 d, .int .i64 hr, .int .i64 mi, .bool sn, .string sd, .int .i64 sk, .bool zd, .int .i64 z]) := Lib.hid (((HasL.new w [.int .i64 k, .int .i64 y, .int .i64 mo, .int .i64 d, .int .i64 hr, .int .i64 mi, .bool sn, .string sd, .int .i64 sk, .bool zd, .int .i64 z] 25).alloc _).drew nq)
 have HR : Hid (HasL ((((w.alloc (.cells #[.int .i64 k, .int .i64 y, .int .i64 mo, .int .i64 d, .int .i64 hr, .int .i64 mi, .bool sn, .string sd, .int .i64 sk, .bool zd, .int .i64 z] 25)).alloc (.cells #[.int .i64 0, .int .i64 0, .int .i64 0, .int .i64 0, .int .i64 0, .int .i64 0, .bool false, .string ⟨#[]⟩, .int .i64 0, .bool false, .int .i64 0] 25)).drewN nq)) (w.heap.size + 1) [.int .i64 0, .int .i64 0, .int .i64 0, .int .i64 0, .int .i64 0, .int .i64 0, .bool false, .string ⟨#[]⟩, .int .i64 0, .bool false, .int .i64 0]) := Lib.hid (by
  have hZz := (HasL.new (w.alloc (.cells #[.int .i64 k, .int .i64 y, .int .i64 mo, .int .i64 d, .int .i64 hr, .int .i64 mi, .bool sn, .string sd, .int .i64 sk, .bool zd, .int .i64 z] 25)) [.int .i64 0, .int .i64 0, .int .i64 0, .int .i64 0, .int .i64 0, .int .i64 0, .bool false, .string ⟨#[]⟩, .int .i64 0, .bool false, .int .i64 0] 25).drew nq
  rw [show (w.alloc (.cells #[.int .i64 k, .int .i64 y, .int .i64 mo, .int .i64 d, .int .i64 hr, .int .i64 mi, .bool sn, .string sd, .int .i64 sk, .bool zd, .int .i64 z] 25)).heap.size = w.heap.size + 1 by simp] at hZz
  exact hZz)
 have HW : Hid (Below w.heap.size w (((w.alloc (.cells #[.int .i64 k, .int .i64 y, .int .i64 mo, .int .i64 d, .int .i64 hr, .int .i64 mi, .bool sn, .string sd, .int .i64 sk, .bool zd, .int .i64 z] 25)).alloc (.cells #[.int .i64 0, .int .i64 0, .int .i64 0, .int .i64 0, .int .i64 0, .int .i64 0, .bool false, .string ⟨#[]⟩, .int .i64 0, .bool false, .int .i64 0] 25)).drewN nq)) := Lib.hid (below_drewN (stepA (stepA (Below.refl _ _) _) _) nq)
 obtain ⟨W1, hW1⟩ : ∃ W, ((w.alloc (.cells #[.int .i64 k, .int .i64 y, .int .i64 mo, .int .i64 d, .int .i64 hr, .int .i64 mi, .bool sn, .string sd, .int .i64 sk, .bool zd, .int .i64 z] 25)).alloc (.cells #[.int .i64 0, .int .i64 0, .int .i64 0, .int .i64 0, .int .i64 0, .int .i64 0, .bool false, .string ⟨#[]⟩, .int .i64 0, .bool false, .int .i64 0] 25)).drewN nq = W := ⟨_, rfl⟩
 rw [hW1] at HA HR HW ⊢
 clear hW1
 have d0 := HA.out.cell 1 rfl
 have d1 := HA.out.cell 2 rfl
 have z0 := HA.out.frozen 1 rfl
 have z1 := HA.out.frozen 2 rfl
 go_wp2_with fail
 refine (cw _).mono ?_
 rintro e w_ ⟨rfl, rfl⟩
 go_wp2_with fail
 have NE : Hid (w.heap.size ≠ w.heap.size + 1) := Lib.hid (by omega)
 replace HA := Lib.hid ((HA.out.set 1 (.int .i64 wy) (by simp)).set 2 (.int .i64 (R + 1)) (by simp))
 replace HR := Lib.hid ((HR.out.far NE.out 1 (.int .i64 wy)).far NE.out 2 (.int .i64 (R + 1)))
 replace HW := Lib.hid (setStep (setStep HW.out (Nat.le_refl _) 1 (.int .i64 wy)) (Nat.le_refl _) 2 (.int .i64 (R + 1)))
 clear d0 d1 z0 z1
 obtain ⟨W2, hW2⟩ : ∃ W, (W1.setCell ⟨w.heap.size, 1, none⟩ (.int .i64 wy)).setCell ⟨w.heap.size, 2, none⟩ (.int .i64 (R + 1)) = W := ⟨_, rfl⟩
 rw [hW2] at HA HR HW ⊢
 clear hW2
 have HT2 := Lib.hid (hT0.out.next HW.out)
 have d2 := HA.out.cell 2 rfl
 have d3 := HA.out.cell 3 rfl
 refine wp_region_still_tail 8 (by kernel_rfl) (by kernel_rfl) ?_
 simp only [List.take_succ_cons, List.take_zero, List.drop_succ_cons, List.drop_zero]
 change wpStill _ _ W2.drew _ _ _
 still_step
 still_step
 still_step
 still_step
 still_step
 refine wpStill_step (fun K hK => ?_)
 go_simp
 refine ⟨_, (cL _ (HT2.out.next (below_drew1 _))).mono (fun _ _ h => ⟨h.1, h.2.symm⟩), hK _ ?_⟩
 clear hK K
 refine wpStill_step (fun K hK => ?_)
 go_simp
 refine hK _ ?_
 clear hK K
 still_step
 refine wpStill_nil ?_
 change wpList _ _ _ _ _ W2.drew
 replace HA := Lib.hid HA.out.drew1
 replace HR := Lib.hid HR.out.drew1
 replace HW := Lib.hid (step HW.out (below_drew1 _))
 obtain ⟨W3, hW3⟩ : ∃ W, W2.drew = W := ⟨_, rfl⟩
 rw [hW3] at HA HR HW ⊢
 clear hW3 d2 d3
 have a0 := HA.out.cell 0 rfl
 have r0 := HR.out.cell 0 rfl
 have x0 := HR.out.frozen 0 rfl
 have a1 := HA.out.cell 1 rfl
 have r1 := HR.out.cell 1 rfl
 have x1 := HR.out.frozen 1 rfl
 have a2 := HA.out.cell 2 rfl
 have r2 := HR.out.cell 2 rfl
 have x2 := HR.out.frozen 2 rfl
 have a3 := HA.out.cell 3 rfl
 have r3 := HR.out.cell 3 rfl
 have x3 := HR.out.frozen 3 rfl
 have a4 := HA.out.cell 4 rfl
 have r4 := HR.out.cell 4 rfl
 have x4 := HR.out.frozen 4 rfl
 have a5 := HA.out.cell 5 rfl
 have r5 := HR.out.cell 5 rfl
 have x5 := HR.out.frozen 5 rfl
 have a6 := HA.out.cell 6 rfl
 have r6 := HR.out.cell 6 rfl
 have x6 := HR.out.frozen 6 rfl
 have a7 := HA.out.cell 7 rfl
 have r7 := HR.out.cell 7 rfl
 have x7 := HR.out.frozen 7 rfl
 have a8 := HA.out.cell 8 rfl
 have r8 := HR.out.cell 8 rfl
 have x8 := HR.out.frozen 8 rfl
 have a9 := HA.out.cell 9 rfl
 have r9 := HR.out.cell 9 rfl
 have x9 := HR.out.frozen 9 rfl
 have a10 := HA.out.cell 10 rfl
 have r10 := HR.out.cell 10 rfl
 have x10 := HR.out.frozen 10 rfl
 have z3 := HA.out.frozen 3 rfl
 have NEa := NE.out
 have NEb := NE.out.symm
 go_wp2
 replace HR := Lib.hid (HR.out.far NE.out 3 (.int .i64 (min d L)))
 replace HW := Lib.hid (setStep HW.out (Nat.le_refl _) 3 (.int .i64 (min d L)))
 replace HR := Lib.hid (HR.out.set 0 (.int .i64 k) (by simp))
 replace HW := Lib.hid (setStep HW.out (Nat.le_succ _) 0 (.int .i64 k))
 replace HR := Lib.hid (HR.out.set 1 (.int .i64 wy) (by simp))
 replace HW := Lib.hid (setStep HW.out (Nat.le_succ _) 1 (.int .i64 wy))
 replace HR := Lib.hid (HR.out.set 2 (.int .i64 (R + 1)) (by simp))
 replace HW := Lib.hid (setStep HW.out (Nat.le_succ _) 2 (.int .i64 (R + 1)))
 replace HR := Lib.hid (HR.out.set 3 (.int .i64 (min d L)) (by simp))
 replace HW := Lib.hid (setStep HW.out (Nat.le_succ _) 3 (.int .i64 (min d L)))
 replace HR := Lib.hid (HR.out.set 4 (.int .i64 hr) (by simp))
 replace HW := Lib.hid (setStep HW.out (Nat.le_succ _) 4 (.int .i64 hr))
 replace HR := Lib.hid (HR.out.set 5 (.int .i64 mi) (by simp))
 replace HW := Lib.hid (setStep HW.out (Nat.le_succ _) 5 (.int .i64 mi))
 replace HR := Lib.hid (HR.out.set 6 (.bool sn) (by simp))
 replace HW := Lib.hid (setStep HW.out (Nat.le_succ _) 6 (.bool sn))
 replace HR := Lib.hid (HR.out.set 7 (.string sd) (by simp))
 replace HW := Lib.hid (setStep HW.out (Nat.le_succ _) 7 (.string sd))
 replace HR := Lib.hid (HR.out.set 8 (.int .i64 sk) (by simp))
 replace HW := Lib.hid (setStep HW.out (Nat.le_succ _) 8 (.int .i64 sk))
 replace HR := Lib.hid (HR.out.set 9 (.bool zd) (by simp))
 replace HW := Lib.hid (setStep HW.out (Nat.le_succ _) 9 (.bool zd))
 replace HR := Lib.hid (HR.out.set 10 (.int .i64 z) (by simp))
 replace HW := Lib.hid (setStep HW.out (Nat.le_succ _) 10 (.int .i64 z))
 clear r0 x0 a0 r1 x1 a1 r2 x2 a2 r3 x3 a3 r4 x4 a4 r5 x5 a5 r6 x6 a6 r7 x7 a7 r8 x8 a8 r9 x9 a9 r10 x10 a10
 obtain ⟨r0, r1, r2, r3, r4, r5, r6, r7, r8, r9, r10⟩ := HR.out.all11
 exact bodyPost_ret (v := .agg #[.int .i64 k, .int .i64 wy, .int .i64 (R + 1), .int .i64 (min d L), .int .i64 hr, .int .i64 mi, .bool sn, .string sd, .int .i64 sk, .bool zd, .int .i64 z]) (by simp [results, Tryz.results63, go_sem, r0, r1, r2, r3, r4, r5, r6, r7, r8, r9, r10]) rfl ⟨rfl, HW.out⟩
end Go.Proofs.YtmdnijehoagamaaGreatDoor
