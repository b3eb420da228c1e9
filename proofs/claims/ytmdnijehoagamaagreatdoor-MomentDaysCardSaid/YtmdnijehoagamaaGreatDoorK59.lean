/- SH -/
import Derived.Test.YtmdnijehoagamaaGreatDoorK49
import Derived.Test.YtmdnijehoagamaaGreatDoorK58
set_option linter.unusedVariables false
set_option linter.unusedSimpArgs false
namespace Go.Proofs.YtmdnijehoagamaaGreatDoor
open Go.RowKit
set_option maxRecDepth 100000
set_option maxHeartbeats 8000000
theorem ofS_size (k : Int) (p : Pt) (hp : Part 130 p.f) : (ofS k p).m.sec.ds.size ≤ 400 := by
  unfold ofS
  dsimp only
  split
  · show momNil.sec.ds.size ≤ 400; decide
  · split
    · split
      · next h => exact Nat.le_trans (add_out (M := 130) (Nat.le_refl _) (int_V (by omega) (by omega)).1 hp.val h).1.size (by decide)
      · show momNil.sec.ds.size ≤ 400; decide
    · show decNil.ds.size ≤ 400; decide
theorem norm_size {m : Mom} (ho : okB m = true) : (normS m).m.sec.ds.size ≤ 400 := by
  unfold normS
  split
  · exact ofS_size _ _ (at_part (okF ho))
  · show momNil.sec.ds.size ≤ 400; decide
theorem days6_a (m : Mom) (h : (300 : Int) < (m.sec.ds.size : Int)) (w : World) (hT : Tabs w) : Calls Tryz.prog 7 #[.agg #[.int .i64 m.k, .int .i64 m.y, .int .i64 m.mo, .int .i64 m.d, .int .i64 m.h, .int .i64 m.mi, .bool m.sec.neg, .string m.sec.ds, .int .i64 m.sec.sc, .bool m.zd, .int .i64 m.z]] w fun e w' => e = .returned (.bool true) ∧ Below w.heap.size w w' := by
  have HS := Lib.hid ((KD.nil w).push [.int .i64 m.k, .int .i64 m.y, .int .i64 m.mo, .int .i64 m.d, .int .i64 m.h, .int .i64 m.mi, .bool m.sec.neg, .string m.sec.ds, .int .i64 m.sec.sc, .bool m.zd, .int .i64 m.z] 25 (n := w.heap.size) (by simp))
  have HT := Lib.hid hT
  clear hT
  have d0_7 := (HS.out.at 0 rfl).cell 7 rfl
  go_enter Tryz.func7, Tryz.ntmps7
  go_wp2_with fail
  refine (shown6 _ (HS.out.tabs HT.out)).mono ?_
  rintro e w1 ⟨rfl, b1⟩
  replace HS := Lib.hid (HS.out.call b1)
  clear d0_7 b1
  go_wp2
  go_ret
  exact ⟨rfl, HS.out.old⟩
theorem days6_b (m : Mom) (g1 : ¬ (300 : Int) < (m.sec.ds.size : Int))
    (cC : ∀ W, Tabs W → Calls Tryz.prog 13 #[.agg #[.int .i64 m.k, .int .i64 m.y, .int .i64 m.mo, .int .i64 m.d, .int .i64 m.h, .int .i64 m.mi, .bool m.sec.neg, .string m.sec.ds, .int .i64 m.sec.sc, .bool m.zd, .int .i64 m.z]] W fun e w' => e = .returned (.int .i64 2) ∧ Below W.heap.size W w')
    (w : World) (hT : Tabs w) : Calls Tryz.prog 7 #[.agg #[.int .i64 m.k, .int .i64 m.y, .int .i64 m.mo, .int .i64 m.d, .int .i64 m.h, .int .i64 m.mi, .bool m.sec.neg, .string m.sec.ds, .int .i64 m.sec.sc, .bool m.zd, .int .i64 m.z]] w fun e w' => e = .returned (.bool true) ∧ Below w.heap.size w w' := by
  have HS := Lib.hid ((KD.nil w).push [.int .i64 m.k, .int .i64 m.y, .int .i64 m.mo, .int .i64 m.d, .int .i64 m.h, .int .i64 m.mi, .bool m.sec.neg, .string m.sec.ds, .int .i64 m.sec.sc, .bool m.zd, .int .i64 m.z] 25 (n := w.heap.size) (by simp))
  have HT := Lib.hid hT
  clear hT
  go_enter Tryz.func7, Tryz.ntmps7
  obtain ⟨d0_0, d0_1, d0_2, d0_3, d0_4, d0_5, d0_6, d0_7, d0_8, d0_9, d0_10⟩ := (HS.out.at 0 rfl).all11
  go_wp2_with fail
  refine (cC _ (HS.out.tabs HT.out)).mono ?_
  rintro e w1 ⟨rfl, b1⟩
  replace HS := Lib.hid (HS.out.call b1)
  clear d0_0 d0_1 d0_2 d0_3 d0_4 d0_5 d0_6 d0_7 d0_8 d0_9 d0_10 b1
  go_wp2_with fail
  refine (shown6 _ (HS.out.tabs HT.out)).mono ?_
  rintro e w2 ⟨rfl, b1⟩
  replace HS := Lib.hid (HS.out.call b1)
  clear b1
  go_wp2
  go_ret
  exact ⟨rfl, HS.out.old⟩
theorem days6_c (m : Mom) (hk : m.k = 2) (g1 : ¬ (300 : Int) < (m.sec.ds.size : Int))
    (cC : ∀ W, Tabs W → Calls Tryz.prog 13 #[.agg #[.int .i64 m.k, .int .i64 m.y, .int .i64 m.mo, .int .i64 m.d, .int .i64 m.h, .int .i64 m.mi, .bool m.sec.neg, .string m.sec.ds, .int .i64 m.sec.sc, .bool m.zd, .int .i64 m.z]] W fun e w' => e = .returned (.int .i64 0) ∧ Below W.heap.size W w')
    (cZ : ∀ W, Tabs W → Calls Tryz.prog 23 #[.agg #[.int .i64 m.k, .int .i64 m.y, .int .i64 m.mo, .int .i64 m.d, .int .i64 m.h, .int .i64 m.mi, .bool m.sec.neg, .string m.sec.ds, .int .i64 m.sec.sc, .bool m.zd, .int .i64 m.z], .int .i64 0, .agg #[.bool false, .string ⟨#[48]⟩, .int .i64 0]] W fun e w' => e = .returned (.tuple #[.agg #[.int .i64 m.k, .int .i64 m.y, .int .i64 m.mo, .int .i64 m.d, .int .i64 m.h, .int .i64 m.mi, .bool m.sec.neg, .string m.sec.ds, .int .i64 m.sec.sc, .bool m.zd, .int .i64 m.z], .int .i64 0]) ∧ Below W.heap.size W w')
    (cA : ∀ W, Tabs W → Calls Tryz.prog 23 #[.agg #[.int .i64 m.k, .int .i64 m.y, .int .i64 m.mo, .int .i64 m.d, .int .i64 m.h, .int .i64 m.mi, .bool m.sec.neg, .string m.sec.ds, .int .i64 m.sec.sc, .bool m.zd, .int .i64 m.z], .int .i64 0, .agg #[.bool false, .string ⟨#[56, 54, 52, 48, 48]⟩, .int .i64 0]] W fun e w' => e = .returned (.tuple #[.agg #[.int .i64 m.k, .int .i64 m.y, .int .i64 m.mo, .int .i64 m.d, .int .i64 m.h, .int .i64 m.mi, .bool m.sec.neg, .string m.sec.ds, .int .i64 m.sec.sc, .bool m.zd, .int .i64 m.z], .int .i64 0]) ∧ Below W.heap.size W w')
    (w : World) (hT : Tabs w) : Calls Tryz.prog 7 #[.agg #[.int .i64 m.k, .int .i64 m.y, .int .i64 m.mo, .int .i64 m.d, .int .i64 m.h, .int .i64 m.mi, .bool m.sec.neg, .string m.sec.ds, .int .i64 m.sec.sc, .bool m.zd, .int .i64 m.z]] w fun e w' => e = .returned (.bool true) ∧ Below w.heap.size w w' := by
  have hk2 : (m.k == 2) = true := by simpa using hk
  clear hk
  have HS := Lib.hid ((KD.nil w).push [.int .i64 m.k, .int .i64 m.y, .int .i64 m.mo, .int .i64 m.d, .int .i64 m.h, .int .i64 m.mi, .bool m.sec.neg, .string m.sec.ds, .int .i64 m.sec.sc, .bool m.zd, .int .i64 m.z] 25 (n := w.heap.size) (by simp))
  have HT := Lib.hid hT
  clear hT
  go_enter Tryz.func7, Tryz.ntmps7
  obtain ⟨d0_0, d0_1, d0_2, d0_3, d0_4, d0_5, d0_6, d0_7, d0_8, d0_9, d0_10⟩ := (HS.out.at 0 rfl).all11
  go_wp2_with fail
  refine (cC _ (HS.out.tabs HT.out)).mono ?_
  rintro e w1 ⟨rfl, b1⟩
  replace HS := Lib.hid (HS.out.call b1)
  clear d0_0 d0_1 d0_2 d0_3 d0_4 d0_5 d0_6 d0_7 d0_8 d0_9 d0_10 b1
  replace HS := Lib.hid ((HS.out.push [.bool false, .string ⟨#[48]⟩, .int .i64 0] 23 rfl).push [.bool false, .string ⟨#[56, 54, 52, 48, 48]⟩, .int .i64 0] 23 (n := w1.heap.size + 1) (by simp))
  obtain ⟨d0_0, d0_1, d0_2, d0_3, d0_4, d0_5, d0_6, d0_7, d0_8, d0_9, d0_10⟩ := (HS.out.at 0 rfl).all11
  obtain ⟨d1_0, d1_1, d1_2⟩ := (HS.out.at 1 rfl).all3
  go_wp2_with fail
  refine (cZ _ (HS.out.tabs HT.out)).mono ?_
  rintro e w2 ⟨rfl, b1⟩
  replace HS := Lib.hid (HS.out.call b1)
  clear d0_0 d0_1 d0_2 d0_3 d0_4 d0_5 d0_6 d0_7 d0_8 d0_9 d0_10 d1_0 d1_1 d1_2 b1
  replace HS := Lib.hid (HS.out.push [.int .i64 m.k, .int .i64 m.y, .int .i64 m.mo, .int .i64 m.d, .int .i64 m.h, .int .i64 m.mi, .bool m.sec.neg, .string m.sec.ds, .int .i64 m.sec.sc, .bool m.zd, .int .i64 m.z] 25 rfl)
  obtain ⟨d0_0, d0_1, d0_2, d0_3, d0_4, d0_5, d0_6, d0_7, d0_8, d0_9, d0_10⟩ := (HS.out.at 0 rfl).all11
  obtain ⟨d3_0, d3_1, d3_2, d3_3, d3_4, d3_5, d3_6, d3_7, d3_8, d3_9, d3_10⟩ := (HS.out.at 3 rfl).all11
  obtain ⟨d2_0, d2_1, d2_2⟩ := (HS.out.at 2 rfl).all3
  go_wp2_with fail
  refine (cA _ (HS.out.tabs HT.out)).mono ?_
  rintro e w3 ⟨rfl, b1⟩
  replace HS := Lib.hid (HS.out.call b1)
  clear d0_0 d0_1 d0_2 d0_3 d0_4 d0_5 d0_6 d0_7 d0_8 d0_9 d0_10 d3_0 d3_1 d3_2 d3_3 d3_4 d3_5 d3_6 d3_7 d3_8 d3_9 d3_10 d2_0 d2_1 d2_2 b1
  replace HS := Lib.hid (HS.out.push [.int .i64 m.k, .int .i64 m.y, .int .i64 m.mo, .int .i64 m.d, .int .i64 m.h, .int .i64 m.mi, .bool m.sec.neg, .string m.sec.ds, .int .i64 m.sec.sc, .bool m.zd, .int .i64 m.z] 25 rfl)
  obtain ⟨d0_0, d0_1, d0_2, d0_3, d0_4, d0_5, d0_6, d0_7, d0_8, d0_9, d0_10⟩ := (HS.out.at 0 rfl).all11
  obtain ⟨d4_0, d4_1, d4_2, d4_3, d4_4, d4_5, d4_6, d4_7, d4_8, d4_9, d4_10⟩ := (HS.out.at 4 rfl).all11
  go_wp2_with fail
  refine (shown6 _ (HS.out.tabs HT.out)).mono ?_
  rintro e w4 ⟨rfl, b1⟩
  replace HS := Lib.hid (HS.out.call b1)
  clear d0_0 d0_1 d0_2 d0_3 d0_4 d0_5 d0_6 d0_7 d0_8 d0_9 d0_10 d4_0 d4_1 d4_2 d4_3 d4_4 d4_5 d4_6 d4_7 d4_8 d4_9 d4_10 b1
  go_wp2
  go_ret
  exact ⟨rfl, HS.out.old⟩
theorem days6_d (m q : Mom) (hk : m.k ≠ 2) (hy : m.y = 9999) (hmo : m.mo = 12) (hd : m.d = 31) (g1 : ¬ (300 : Int) < (m.sec.ds.size : Int))
    (cC : ∀ W, Tabs W → Calls Tryz.prog 13 #[.agg #[.int .i64 m.k, .int .i64 m.y, .int .i64 m.mo, .int .i64 m.d, .int .i64 m.h, .int .i64 m.mi, .bool m.sec.neg, .string m.sec.ds, .int .i64 m.sec.sc, .bool m.zd, .int .i64 m.z]] W fun e w' => e = .returned (.int .i64 0) ∧ Below W.heap.size W w')
    (cZ : ∀ W, Tabs W → Calls Tryz.prog 23 #[.agg #[.int .i64 m.k, .int .i64 m.y, .int .i64 m.mo, .int .i64 m.d, .int .i64 m.h, .int .i64 m.mi, .bool m.sec.neg, .string m.sec.ds, .int .i64 m.sec.sc, .bool m.zd, .int .i64 m.z], .int .i64 0, .agg #[.bool false, .string ⟨#[48]⟩, .int .i64 0]] W fun e w' => e = .returned (.tuple #[.agg #[.int .i64 m.k, .int .i64 m.y, .int .i64 m.mo, .int .i64 m.d, .int .i64 m.h, .int .i64 m.mi, .bool m.sec.neg, .string m.sec.ds, .int .i64 m.sec.sc, .bool m.zd, .int .i64 m.z], .int .i64 0]) ∧ Below W.heap.size W w')
    (cA : ∀ W, Tabs W → Calls Tryz.prog 23 #[.agg #[.int .i64 m.k, .int .i64 m.y, .int .i64 m.mo, .int .i64 m.d, .int .i64 m.h, .int .i64 m.mi, .bool m.sec.neg, .string m.sec.ds, .int .i64 m.sec.sc, .bool m.zd, .int .i64 m.z], .int .i64 0, .agg #[.bool false, .string ⟨#[56, 54, 52, 48, 48]⟩, .int .i64 0]] W fun e w' => e = .returned (.tuple #[.agg #[.int .i64 q.k, .int .i64 q.y, .int .i64 q.mo, .int .i64 q.d, .int .i64 q.h, .int .i64 q.mi, .bool q.sec.neg, .string q.sec.ds, .int .i64 q.sec.sc, .bool q.zd, .int .i64 q.z], .int .i64 7]) ∧ Below W.heap.size W w')
    (w : World) (hT : Tabs w) : Calls Tryz.prog 7 #[.agg #[.int .i64 m.k, .int .i64 m.y, .int .i64 m.mo, .int .i64 m.d, .int .i64 m.h, .int .i64 m.mi, .bool m.sec.neg, .string m.sec.ds, .int .i64 m.sec.sc, .bool m.zd, .int .i64 m.z]] w fun e w' => e = .returned (.bool true) ∧ Below w.heap.size w w' := by
  have hk2 : (m.k == 2) = false := by simpa using hk
  have hy2 : (m.y == 9999) = true := by simpa using hy
  have hm2 : (m.mo == 12) = true := by simpa using hmo
  have hd2 : (m.d == 31) = true := by simpa using hd
  clear hk hy hmo hd
  have HS := Lib.hid ((KD.nil w).push [.int .i64 m.k, .int .i64 m.y, .int .i64 m.mo, .int .i64 m.d, .int .i64 m.h, .int .i64 m.mi, .bool m.sec.neg, .string m.sec.ds, .int .i64 m.sec.sc, .bool m.zd, .int .i64 m.z] 25 (n := w.heap.size) (by simp))
  have HT := Lib.hid hT
  clear hT
  go_enter Tryz.func7, Tryz.ntmps7
  obtain ⟨d0_0, d0_1, d0_2, d0_3, d0_4, d0_5, d0_6, d0_7, d0_8, d0_9, d0_10⟩ := (HS.out.at 0 rfl).all11
  go_wp2_with fail
  refine (cC _ (HS.out.tabs HT.out)).mono ?_
  rintro e w1 ⟨rfl, b1⟩
  replace HS := Lib.hid (HS.out.call b1)
  clear d0_0 d0_1 d0_2 d0_3 d0_4 d0_5 d0_6 d0_7 d0_8 d0_9 d0_10 b1
  replace HS := Lib.hid ((HS.out.push [.bool false, .string ⟨#[48]⟩, .int .i64 0] 23 rfl).push [.bool false, .string ⟨#[56, 54, 52, 48, 48]⟩, .int .i64 0] 23 (n := w1.heap.size + 1) (by simp))
  obtain ⟨d0_0, d0_1, d0_2, d0_3, d0_4, d0_5, d0_6, d0_7, d0_8, d0_9, d0_10⟩ := (HS.out.at 0 rfl).all11
  obtain ⟨d1_0, d1_1, d1_2⟩ := (HS.out.at 1 rfl).all3
  go_wp2_with fail
  refine (cZ _ (HS.out.tabs HT.out)).mono ?_
  rintro e w2 ⟨rfl, b1⟩
  replace HS := Lib.hid (HS.out.call b1)
  clear d0_0 d0_1 d0_2 d0_3 d0_4 d0_5 d0_6 d0_7 d0_8 d0_9 d0_10 d1_0 d1_1 d1_2 b1
  replace HS := Lib.hid (HS.out.push [.int .i64 m.k, .int .i64 m.y, .int .i64 m.mo, .int .i64 m.d, .int .i64 m.h, .int .i64 m.mi, .bool m.sec.neg, .string m.sec.ds, .int .i64 m.sec.sc, .bool m.zd, .int .i64 m.z] 25 rfl)
  obtain ⟨d0_0, d0_1, d0_2, d0_3, d0_4, d0_5, d0_6, d0_7, d0_8, d0_9, d0_10⟩ := (HS.out.at 0 rfl).all11
  obtain ⟨d3_0, d3_1, d3_2, d3_3, d3_4, d3_5, d3_6, d3_7, d3_8, d3_9, d3_10⟩ := (HS.out.at 3 rfl).all11
  obtain ⟨d2_0, d2_1, d2_2⟩ := (HS.out.at 2 rfl).all3
  go_wp2_with fail
  refine (cA _ (HS.out.tabs HT.out)).mono ?_
  rintro e w3 ⟨rfl, b1⟩
  replace HS := Lib.hid (HS.out.call b1)
  clear d0_0 d0_1 d0_2 d0_3 d0_4 d0_5 d0_6 d0_7 d0_8 d0_9 d0_10 d3_0 d3_1 d3_2 d3_3 d3_4 d3_5 d3_6 d3_7 d3_8 d3_9 d3_10 d2_0 d2_1 d2_2 b1
  replace HS := Lib.hid (HS.out.push [.int .i64 q.k, .int .i64 q.y, .int .i64 q.mo, .int .i64 q.d, .int .i64 q.h, .int .i64 q.mi, .bool q.sec.neg, .string q.sec.ds, .int .i64 q.sec.sc, .bool q.zd, .int .i64 q.z] 25 rfl)
  obtain ⟨d0_0, d0_1, d0_2, d0_3, d0_4, d0_5, d0_6, d0_7, d0_8, d0_9, d0_10⟩ := (HS.out.at 0 rfl).all11
  go_wp2_with fail
  refine (shown6 _ (HS.out.tabs HT.out)).mono ?_
  rintro e w4 ⟨rfl, b1⟩
  replace HS := Lib.hid (HS.out.call b1)
  clear d0_0 d0_1 d0_2 d0_3 d0_4 d0_5 d0_6 d0_7 d0_8 d0_9 d0_10 b1
  go_wp2
  go_ret
  exact ⟨rfl, HS.out.old⟩
theorem days6_e (m q x : Mom) (n i : Int) (k3 et : Bool) (eq : Int) (hk : m.k ≠ 2) (hk3 : (m.k == 3) = k3) (n0 : -4000000 ≤ n) (n1 : n ≤ 4000000) (hI : k3 = true → m.zd = true → i = 0 → et = true ∧ eq = 0 ∧ x.z = 0 ∧ x.zd = true) (g1 : ¬ (300 : Int) < (m.sec.ds.size : Int))
    (cC : ∀ W, Tabs W → Calls Tryz.prog 13 #[.agg #[.int .i64 m.k, .int .i64 m.y, .int .i64 m.mo, .int .i64 m.d, .int .i64 m.h, .int .i64 m.mi, .bool m.sec.neg, .string m.sec.ds, .int .i64 m.sec.sc, .bool m.zd, .int .i64 m.z]] W fun e w' => e = .returned (.int .i64 0) ∧ Below W.heap.size W w')
    (cZ : ∀ W, Tabs W → Calls Tryz.prog 23 #[.agg #[.int .i64 m.k, .int .i64 m.y, .int .i64 m.mo, .int .i64 m.d, .int .i64 m.h, .int .i64 m.mi, .bool m.sec.neg, .string m.sec.ds, .int .i64 m.sec.sc, .bool m.zd, .int .i64 m.z], .int .i64 0, .agg #[.bool false, .string ⟨#[48]⟩, .int .i64 0]] W fun e w' => e = .returned (.tuple #[.agg #[.int .i64 m.k, .int .i64 m.y, .int .i64 m.mo, .int .i64 m.d, .int .i64 m.h, .int .i64 m.mi, .bool m.sec.neg, .string m.sec.ds, .int .i64 m.sec.sc, .bool m.zd, .int .i64 m.z], .int .i64 0]) ∧ Below W.heap.size W w')
    (cA : ∀ W, Tabs W → Calls Tryz.prog 23 #[.agg #[.int .i64 m.k, .int .i64 m.y, .int .i64 m.mo, .int .i64 m.d, .int .i64 m.h, .int .i64 m.mi, .bool m.sec.neg, .string m.sec.ds, .int .i64 m.sec.sc, .bool m.zd, .int .i64 m.z], .int .i64 0, .agg #[.bool false, .string ⟨#[56, 54, 52, 48, 48]⟩, .int .i64 0]] W fun e w' => e = .returned (.tuple #[.agg #[.int .i64 q.k, .int .i64 q.y, .int .i64 q.mo, .int .i64 q.d, .int .i64 q.h, .int .i64 q.mi, .bool q.sec.neg, .string q.sec.ds, .int .i64 q.sec.sc, .bool q.zd, .int .i64 q.z], .int .i64 0]) ∧ Below W.heap.size W w')
    (cD : ∀ W, Tabs W → Calls Tryz.prog 15 #[.agg #[.int .i64 m.k, .int .i64 m.y, .int .i64 m.mo, .int .i64 m.d, .int .i64 m.h, .int .i64 m.mi, .bool m.sec.neg, .string m.sec.ds, .int .i64 m.sec.sc, .bool m.zd, .int .i64 m.z]] W fun e w' => e = .returned (.tuple #[.int .i64 n, .int .i64 0]) ∧ Below W.heap.size W w')
    (cN : ∀ W, Tabs W → Calls Tryz.prog 15 #[.agg #[.int .i64 q.k, .int .i64 q.y, .int .i64 q.mo, .int .i64 q.d, .int .i64 q.h, .int .i64 q.mi, .bool q.sec.neg, .string q.sec.ds, .int .i64 q.sec.sc, .bool q.zd, .int .i64 q.z]] W fun e w' => e = .returned (.tuple #[.int .i64 (n + 1), .int .i64 0]) ∧ Below W.heap.size W w')
    (cB : ∀ W, Tabs W → Calls Tryz.prog 25 #[.agg #[.int .i64 m.k, .int .i64 m.y, .int .i64 m.mo, .int .i64 m.d, .int .i64 m.h, .int .i64 m.mi, .bool m.sec.neg, .string m.sec.ds, .int .i64 m.sec.sc, .bool m.zd, .int .i64 m.z], .agg #[.int .i64 q.k, .int .i64 q.y, .int .i64 q.mo, .int .i64 q.d, .int .i64 q.h, .int .i64 q.mi, .bool q.sec.neg, .string q.sec.ds, .int .i64 q.sec.sc, .bool q.zd, .int .i64 q.z]] W fun e w' => e = .returned (.bool true) ∧ Below W.heap.size W w')
    (cR : k3 = true → m.zd = true → ∀ W, Tabs W → Calls Tryz.prog 17 #[.agg #[.int .i64 m.k, .int .i64 m.y, .int .i64 m.mo, .int .i64 m.d, .int .i64 m.h, .int .i64 m.mi, .bool m.sec.neg, .string m.sec.ds, .int .i64 m.sec.sc, .bool m.zd, .int .i64 m.z]] W fun e w' => e = .returned (.tuple #[.agg #[.int .i64 x.k, .int .i64 x.y, .int .i64 x.mo, .int .i64 x.d, .int .i64 x.h, .int .i64 x.mi, .bool x.sec.neg, .string x.sec.ds, .int .i64 x.sec.sc, .bool x.zd, .int .i64 x.z], .int .i64 i]) ∧ Below W.heap.size W w')
    (cE : k3 = true → m.zd = true → ∀ W, Tabs W → Calls Tryz.prog 21 #[.agg #[.int .i64 x.k, .int .i64 x.y, .int .i64 x.mo, .int .i64 x.d, .int .i64 x.h, .int .i64 x.mi, .bool x.sec.neg, .string x.sec.ds, .int .i64 x.sec.sc, .bool x.zd, .int .i64 x.z], .agg #[.int .i64 m.k, .int .i64 m.y, .int .i64 m.mo, .int .i64 m.d, .int .i64 m.h, .int .i64 m.mi, .bool m.sec.neg, .string m.sec.ds, .int .i64 m.sec.sc, .bool m.zd, .int .i64 m.z]] W fun e w' => e = .returned (.tuple #[.bool et, .int .i64 eq]) ∧ Below W.heap.size W w')
    (w : World) (hT : Tabs w) : Calls Tryz.prog 7 #[.agg #[.int .i64 m.k, .int .i64 m.y, .int .i64 m.mo, .int .i64 m.d, .int .i64 m.h, .int .i64 m.mi, .bool m.sec.neg, .string m.sec.ds, .int .i64 m.sec.sc, .bool m.zd, .int .i64 m.z]] w fun e w' => e = .returned (.bool true) ∧ Below w.heap.size w w' := by
  have hk2 : (m.k == 2) = false := by simpa using hk
  have hw : IntKind.i64.wrap (n + 1) = n + 1 := IntWalk.i64_in _ (by omega)
  have HR := Lib.hid cR
  have HE := Lib.hid cE
  have HI := Lib.hid hI
  have HK3 := Lib.hid hk3
  clear cR cE hI hk hk3
  have HS := Lib.hid ((KD.nil w).push [.int .i64 m.k, .int .i64 m.y, .int .i64 m.mo, .int .i64 m.d, .int .i64 m.h, .int .i64 m.mi, .bool m.sec.neg, .string m.sec.ds, .int .i64 m.sec.sc, .bool m.zd, .int .i64 m.z] 25 (n := w.heap.size) (by simp))
  have HT := Lib.hid hT
  clear hT
  go_enter Tryz.func7, Tryz.ntmps7
  obtain ⟨d0_0, d0_1, d0_2, d0_3, d0_4, d0_5, d0_6, d0_7, d0_8, d0_9, d0_10⟩ := (HS.out.at 0 rfl).all11
  go_wp2_with fail
  refine (cC _ (HS.out.tabs HT.out)).mono ?_
  rintro e w1 ⟨rfl, b1⟩
  replace HS := Lib.hid (HS.out.call b1)
  clear d0_0 d0_1 d0_2 d0_3 d0_4 d0_5 d0_6 d0_7 d0_8 d0_9 d0_10 b1
  replace HS := Lib.hid ((HS.out.push [.bool false, .string ⟨#[48]⟩, .int .i64 0] 23 rfl).push [.bool false, .string ⟨#[56, 54, 52, 48, 48]⟩, .int .i64 0] 23 (n := w1.heap.size + 1) (by simp))
  obtain ⟨d0_0, d0_1, d0_2, d0_3, d0_4, d0_5, d0_6, d0_7, d0_8, d0_9, d0_10⟩ := (HS.out.at 0 rfl).all11
  obtain ⟨d1_0, d1_1, d1_2⟩ := (HS.out.at 1 rfl).all3
  go_wp2_with fail
  refine (cZ _ (HS.out.tabs HT.out)).mono ?_
  rintro e w2 ⟨rfl, b1⟩
  replace HS := Lib.hid (HS.out.call b1)
  clear d0_0 d0_1 d0_2 d0_3 d0_4 d0_5 d0_6 d0_7 d0_8 d0_9 d0_10 d1_0 d1_1 d1_2 b1
  replace HS := Lib.hid (HS.out.push [.int .i64 m.k, .int .i64 m.y, .int .i64 m.mo, .int .i64 m.d, .int .i64 m.h, .int .i64 m.mi, .bool m.sec.neg, .string m.sec.ds, .int .i64 m.sec.sc, .bool m.zd, .int .i64 m.z] 25 rfl)
  obtain ⟨d0_0, d0_1, d0_2, d0_3, d0_4, d0_5, d0_6, d0_7, d0_8, d0_9, d0_10⟩ := (HS.out.at 0 rfl).all11
  obtain ⟨d3_0, d3_1, d3_2, d3_3, d3_4, d3_5, d3_6, d3_7, d3_8, d3_9, d3_10⟩ := (HS.out.at 3 rfl).all11
  obtain ⟨d2_0, d2_1, d2_2⟩ := (HS.out.at 2 rfl).all3
  go_wp2_with fail
  refine (cA _ (HS.out.tabs HT.out)).mono ?_
  rintro e w3 ⟨rfl, b1⟩
  replace HS := Lib.hid (HS.out.call b1)
  clear d0_0 d0_1 d0_2 d0_3 d0_4 d0_5 d0_6 d0_7 d0_8 d0_9 d0_10 d3_0 d3_1 d3_2 d3_3 d3_4 d3_5 d3_6 d3_7 d3_8 d3_9 d3_10 d2_0 d2_1 d2_2 b1
  replace HS := Lib.hid (HS.out.push [.int .i64 q.k, .int .i64 q.y, .int .i64 q.mo, .int .i64 q.d, .int .i64 q.h, .int .i64 q.mi, .bool q.sec.neg, .string q.sec.ds, .int .i64 q.sec.sc, .bool q.zd, .int .i64 q.z] 25 rfl)
  obtain ⟨d0_0, d0_1, d0_2, d0_3, d0_4, d0_5, d0_6, d0_7, d0_8, d0_9, d0_10⟩ := (HS.out.at 0 rfl).all11
  go_wp2_with fail
  refine (cD _ (HS.out.tabs HT.out)).mono ?_
  rintro e w4 ⟨rfl, b1⟩
  replace HS := Lib.hid (HS.out.call b1)
  clear d0_0 d0_1 d0_2 d0_3 d0_4 d0_5 d0_6 d0_7 d0_8 d0_9 d0_10 b1
  obtain ⟨d4_0, d4_1, d4_2, d4_3, d4_4, d4_5, d4_6, d4_7, d4_8, d4_9, d4_10⟩ := (HS.out.at 4 rfl).all11
  go_wp2_with fail
  refine (cN _ (HS.out.tabs HT.out)).mono ?_
  rintro e w5 ⟨rfl, b1⟩
  replace HS := Lib.hid (HS.out.call b1)
  clear d4_0 d4_1 d4_2 d4_3 d4_4 d4_5 d4_6 d4_7 d4_8 d4_9 d4_10 b1
  obtain ⟨d0_0, d0_1, d0_2, d0_3, d0_4, d0_5, d0_6, d0_7, d0_8, d0_9, d0_10⟩ := (HS.out.at 0 rfl).all11
  obtain ⟨d4_0, d4_1, d4_2, d4_3, d4_4, d4_5, d4_6, d4_7, d4_8, d4_9, d4_10⟩ := (HS.out.at 4 rfl).all11
  go_wp2_with fail
  refine (cB _ (HS.out.tabs HT.out)).mono ?_
  rintro e w6 ⟨rfl, b1⟩
  replace HS := Lib.hid (HS.out.call b1)
  clear d0_0 d0_1 d0_2 d0_3 d0_4 d0_5 d0_6 d0_7 d0_8 d0_9 d0_10 d4_0 d4_1 d4_2 d4_3 d4_4 d4_5 d4_6 d4_7 d4_8 d4_9 d4_10 b1
  have HM : Hid (KD w [(w.heap.size, [.int .i64 m.k, .int .i64 m.y, .int .i64 m.mo, .int .i64 m.d, .int .i64 m.h, .int .i64 m.mi, .bool m.sec.neg, .string m.sec.ds, .int .i64 m.sec.sc, .bool m.zd, .int .i64 m.z])] w6) := Lib.hid ⟨fun p hp => by rw [List.mem_singleton] at hp; subst hp; exact HS.out.at 0 rfl, HS.out.old, fun p hp => by rw [List.mem_singleton] at hp; subst hp; exact HS.out.ge 0 rfl, List.pairwise_singleton _ _⟩
  clear HS
  have HS := HM
  clear HM
  go_upto_region 17 with fail
  go_cut [126] (fun s wx => s = .bool (k3 && m.zd) ∧ KD w [(w.heap.size, [.int .i64 m.k, .int .i64 m.y, .int .i64 m.mo, .int .i64 m.d, .int .i64 m.h, .int .i64 m.mi, .bool m.sec.neg, .string m.sec.ds, .int .i64 m.sec.sc, .bool m.zd, .int .i64 m.z])] wx)
  case first =>
    have hk3 := HK3.out
    cases k3
    · have d0_0 := (HS.out.at 0 rfl).cell 0 rfl
      have d0_9 := (HS.out.at 0 rfl).cell 9 rfl
      go_wp2_with fail
      go_meet
      exact ⟨rfl, HS.out⟩
    · have d0_0 := (HS.out.at 0 rfl).cell 0 rfl
      have d0_9 := (HS.out.at 0 rfl).cell 9 rfl
      go_wp2_with fail
      go_meet
      exact ⟨rfl, HS.out⟩
  case rest =>
    clear HS
    obtain ⟨rfl, hS⟩ := hcut
    have HS := Lib.hid hS
    clear hS
    go_upto_if 126 with fail
    go_cut [] (fun wx => Below w.heap.size w wx)
    case first =>
      cases hkz : (k3 && m.zd)
      · clear hkz
        go_wp2_with fail
        go_meet
        exact HS.out.old
      · have hb : k3 = true ∧ m.zd = true := by simpa using hkz
        have cR := HR.out hb.1 hb.2
        have cE := HE.out hb.1 hb.2
        replace HI := Lib.hid (HI.out hb.1 hb.2)
        clear hb hkz
        obtain ⟨d0_0, d0_1, d0_2, d0_3, d0_4, d0_5, d0_6, d0_7, d0_8, d0_9, d0_10⟩ := (HS.out.at 0 rfl).all11
        go_wp2_with fail
        refine (cR _ (HS.out.tabs HT.out)).mono ?_
        rintro e w7 ⟨rfl, b1⟩
        replace HS := Lib.hid (HS.out.call b1)
        clear d0_0 d0_1 d0_2 d0_3 d0_4 d0_5 d0_6 d0_7 d0_8 d0_9 d0_10 b1
        replace HS := Lib.hid (HS.out.push [.int .i64 x.k, .int .i64 x.y, .int .i64 x.mo, .int .i64 x.d, .int .i64 x.h, .int .i64 x.mi, .bool x.sec.neg, .string x.sec.ds, .int .i64 x.sec.sc, .bool x.zd, .int .i64 x.z] 25 rfl)
        obtain ⟨d0_0, d0_1, d0_2, d0_3, d0_4, d0_5, d0_6, d0_7, d0_8, d0_9, d0_10⟩ := (HS.out.at 0 rfl).all11
        obtain ⟨d1_0, d1_1, d1_2, d1_3, d1_4, d1_5, d1_6, d1_7, d1_8, d1_9, d1_10⟩ := (HS.out.at 1 rfl).all11
        go_wp2_with fail
        refine (cE _ (HS.out.tabs HT.out)).mono ?_
        rintro e w8 ⟨rfl, b1⟩
        replace HS := Lib.hid (HS.out.call b1)
        clear d0_0 d0_1 d0_2 d0_3 d0_4 d0_5 d0_6 d0_7 d0_8 d0_9 d0_10 d1_0 d1_1 d1_2 d1_3 d1_4 d1_5 d1_6 d1_7 d1_8 d1_9 d1_10 b1
        clear cR cE
        have d1_9 := (HS.out.at 1 rfl).cell 9 rfl
        have d1_10 := (HS.out.at 1 rfl).cell 10 rfl
        by_cases hi : i = 0
        rotate_left
        · have hib : (i == 0) = false := by simpa using hi
          go_wp2_with fail
          go_meet
          exact HS.out.old
        · subst hi
          obtain ⟨e1, e2, e3, e4⟩ := HI.out rfl
          have e3b : (x.z != 0) = false := by simpa using e3
          subst e1 e2
          go_wp2_with fail
          go_meet
          exact HS.out.old
    case rest =>
      clear HS
      have HW := Lib.hid hcut
      clear hcut
      go_wp2_with fail
      refine (shown6 _ (HT.out.next HW.out)).mono ?_
      rintro e wz ⟨rfl, b1⟩
      replace HW := Lib.hid (step HW.out b1)
      clear b1
      go_wp2
      go_ret
      exact ⟨rfl, HW.out⟩
theorem lawDays6 (m : Mom) (w : World) (hT : Tabs w) : Calls Tryz.prog 7 #[m.v] w fun e w' => e = .returned (.bool true) ∧ Below w.heap.size w w' := by
  by_cases g1 : (300 : Int) < (m.sec.ds.size : Int)
  · exact days6_a m g1 w hT
  have zm : m.sec.ds.size ≤ 400 := by omega
  have cC := fun W hW => p_check6 m zm W hW
  unfold checkS at cC
  cases ho : okB m with
  | false =>
    rw [ho] at cC
    exact days6_b m g1 cC w hT
  | true =>
    rw [ho] at cC
    have h := okF ho
    have cZ := fun W hW => p_add6 m 0 zeroD zm (by decide) W hW
    rw [add_none ho] at cZ
    have cA := fun W hW => p_add6 m 0 dayD zm (by decide) W hW
    rw [add_day ho] at cA
    cases hd : datedB m.k with
    | false =>
      have hk : m.k = 2 := by
        have := h.kind
        rw [hd] at this
        unfold datedB at hd
        unfold timedB at this
        simp at this hd
        omega
      have e : onDay m (dayOf m + 1) = m := by unfold onDay; rw [hd]; rfl
      rw [hd, e] at cA
      exact days6_c m hk g1 cC cZ cA w hT
    | true =>
      have hk : m.k ≠ 2 := by
        intro g
        rw [g] at hd
        cases hd
      rw [hd] at cA
      cases hi : dayIn (dayOf m + 1) with
      | false =>
        obtain ⟨y1, y2, y3⟩ := last_day ho hd hi
        rw [hi] at cA
        exact days6_d m momNil hk y1 y2 y3 g1 cC cZ cA w hT
      | true =>
        obtain ⟨o2, d2, _, _⟩ := next_ok ho hd hi
        have hl := next_less ho hd hi
        have e : onDay m (dayOf m + 1) = dayS m (dayOf m + 1) := by unfold onDay; rw [hd]; rfl
        rw [hi, e] at cA
        have hdm : daysS m = ((daysS m).1, 0) := by unfold daysS; rw [ho, hd]; rfl
        have cD := fun W hW => p_days m zm W hW
        rw [hdm] at cD
        have hb := h.days hd
        have hn : (daysS m).1 = dayNo (cntd m.y) m.mo m.d := by unfold daysS; rw [ho, hd]; rfl
        have zq : (dayS m (dayOf m + 1)).sec.ds.size ≤ 400 := zm
        have cN := fun W hW => p_days (dayS m (dayOf m + 1)) zq W hW
        rw [d2] at cN
        have cB := fun W hW => l_before m (dayS m (dayOf m + 1)) zm zq W hW
        rw [show lessR (cmpS6 m (dayS m (dayOf m + 1))) = true from hl] at cB
        have zx : (normS m).m.sec.ds.size ≤ 400 := norm_size ho
        refine days6_e m (dayS m (dayOf m + 1)) (normS m).m (daysS m).1 (normS m).e _ (eqS6 (normS m).m m).1 (eqS6 (normS m).m m).2 hk rfl (by omega) (by omega) ?_ g1 cC cZ cA cD cN cB ?_ ?_ w hT
        · intro h3 hz hi0
          obtain ⟨q1, q2, q3⟩ := norm_equal ho (by simpa using h3) hz hi0
          rw [q1]
          exact ⟨rfl, rfl, q2, q3⟩
        · intro h3 hz W hW
          exact p_norm m zm W hW
        · intro h3 hz W hW
          exact p_equal (normS m).m m zx zm W hW
end Go.Proofs.YtmdnijehoagamaaGreatDoor
