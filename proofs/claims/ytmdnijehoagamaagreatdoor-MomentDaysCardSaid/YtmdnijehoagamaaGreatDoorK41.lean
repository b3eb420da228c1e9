/- OE -/
import Derived.Test.YtmdnijehoagamaaGreatDoorK24
import Derived.Test.YtmdnijehoagamaaGreatDoorK31
import Derived.Test.YtmdnijehoagamaaGreatDoorK40
set_option linter.unusedVariables false
set_option linter.unusedSimpArgs false
namespace Go.Proofs.YtmdnijehoagamaaGreatDoor
set_option maxRecDepth 100000
set_option maxHeartbeats 8000000
open Go.RowKit
def lmd (w : World) (X : Mom) (s : Dec) : List (Nat × List Value) := [(w.heap.size, [.int .i64 X.k, .int .i64 X.y, .int .i64 X.mo, .int .i64 X.d, .int .i64 X.h, .int .i64 X.mi, .bool X.sec.neg, .string X.sec.ds, .int .i64 X.sec.sc, .bool X.zd, .int .i64 X.z]), (w.heap.size + 1, [.bool s.neg, .string s.ds, .int .i64 s.sc]), (w.heap.size + 1 + 1, [.int .i64 0, .int .i64 0, .int .i64 0, .int .i64 0, .int .i64 0, .int .i64 0, .bool false, .string ⟨#[]⟩, .int .i64 0, .bool false, .int .i64 0])]
theorem padd_bad1 (m : Mom) (n : Int) (s : Dec)
  (cV : ∀ W, Tabs W → Calls Tryz.prog 38 #[.agg #[.int .i64 m.k, .int .i64 m.y, .int .i64 m.mo, .int .i64 m.d, .int .i64 m.h, .int .i64 m.mi, .bool m.sec.neg, .string m.sec.ds, .int .i64 m.sec.sc, .bool m.zd, .int .i64 m.z]] W fun e w' => e = .returned (.bool false) ∧ Below W.heap.size W w')
  (w : World) (hT : Tabs w) : Calls Tryz.prog 23 #[.agg #[.int .i64 m.k, .int .i64 m.y, .int .i64 m.mo, .int .i64 m.d, .int .i64 m.h, .int .i64 m.mi, .bool m.sec.neg, .string m.sec.ds, .int .i64 m.sec.sc, .bool m.zd, .int .i64 m.z], .int .i64 n, .agg #[.bool s.neg, .string s.ds, .int .i64 s.sc]] w fun e w' => e = .returned (.tuple #[.agg #[.int .i64 0, .int .i64 0, .int .i64 0, .int .i64 0, .int .i64 0, .int .i64 0, .bool false, .string ⟨#[]⟩, .int .i64 0, .bool false, .int .i64 0], .int .i64 2]) ∧ Below w.heap.size w w' := by
 go_enter Tryz.func23, Tryz.ntmps23
 have HS := Lib.hid ((((KD.nil w).push [.int .i64 m.k, .int .i64 m.y, .int .i64 m.mo, .int .i64 m.d, .int .i64 m.h, .int .i64 m.mi, .bool m.sec.neg, .string m.sec.ds, .int .i64 m.sec.sc, .bool m.zd, .int .i64 m.z] 25 (n := w.heap.size) (by simp)).push [.bool s.neg, .string s.ds, .int .i64 s.sc] 23 (n := w.heap.size + 1) (by simp)).push [.int .i64 0, .int .i64 0, .int .i64 0, .int .i64 0, .int .i64 0, .int .i64 0, .bool false, .string ⟨#[]⟩, .int .i64 0, .bool false, .int .i64 0] 25 (n := w.heap.size + 1 + 1) (by simp))
 have HT := Lib.hid hT
 clear hT
 obtain ⟨d0_0, d0_1, d0_2, d0_3, d0_4, d0_5, d0_6, d0_7, d0_8, d0_9, d0_10⟩ := (HS.out.at 0 rfl).all11
 go_wp2_with fail
 refine (cV _ (HS.out.tabs HT.out)).mono ?_
 rintro e w1 ⟨rfl, b1⟩
 replace HS := Lib.hid (HS.out.call b1)
 clear d0_0 d0_1 d0_2 d0_3 d0_4 d0_5 d0_6 d0_7 d0_8 d0_9 d0_10 b1
 obtain ⟨d2_0, d2_1, d2_2, d2_3, d2_4, d2_5, d2_6, d2_7, d2_8, d2_9, d2_10⟩ := (HS.out.at 2 rfl).all11
 obtain ⟨z2_0, z2_1, z2_2, z2_3, z2_4, z2_5, z2_6, z2_7, z2_8, z2_9, z2_10⟩ := (HS.out.at 2 rfl).free11
 go_wp2
 replace HS := Lib.hid (HS.out.store 2 rfl [.int .i64 0, .int .i64 0, .int .i64 0, .int .i64 0, .int .i64 0, .int .i64 0, .bool false, .string ⟨#[]⟩, .int .i64 0, .bool false, .int .i64 0] rfl)
 obtain ⟨r0, r1, r2, r3, r4, r5, r6, r7, r8, r9, r10⟩ := (HS.out.at 2 rfl).all11
 simp only [setL, Nat.reduceAdd] at r0 r1 r2 r3 r4 r5 r6 r7 r8 r9 r10
 refine bodyPost_ret (v := _) ?_ rfl ⟨rfl, HS.out.old⟩
 simp [results, Tryz.results23, go_sem, r0, r1, r2, r3, r4, r5, r6, r7, r8, r9, r10]
theorem padd_bad2 (m : Mom) (n : Int) (s : Dec) (c : Int) (hc : (c != 0) = true)
  (cV : ∀ W, Tabs W → Calls Tryz.prog 38 #[.agg #[.int .i64 m.k, .int .i64 m.y, .int .i64 m.mo, .int .i64 m.d, .int .i64 m.h, .int .i64 m.mi, .bool m.sec.neg, .string m.sec.ds, .int .i64 m.sec.sc, .bool m.zd, .int .i64 m.z]] W fun e w' => e = .returned (.bool true) ∧ Below W.heap.size W w')
  (cK : ∀ W, Tabs W → Calls Tryz.prog 59 #[.agg #[.bool s.neg, .string s.ds, .int .i64 s.sc]] W fun e w' => e = .returned (.int .i64 c) ∧ Below W.heap.size W w')
  (w : World) (hT : Tabs w) : Calls Tryz.prog 23 #[.agg #[.int .i64 m.k, .int .i64 m.y, .int .i64 m.mo, .int .i64 m.d, .int .i64 m.h, .int .i64 m.mi, .bool m.sec.neg, .string m.sec.ds, .int .i64 m.sec.sc, .bool m.zd, .int .i64 m.z], .int .i64 n, .agg #[.bool s.neg, .string s.ds, .int .i64 s.sc]] w fun e w' => e = .returned (.tuple #[.agg #[.int .i64 0, .int .i64 0, .int .i64 0, .int .i64 0, .int .i64 0, .int .i64 0, .bool false, .string ⟨#[]⟩, .int .i64 0, .bool false, .int .i64 0], .int .i64 2]) ∧ Below w.heap.size w w' := by
 go_enter Tryz.func23, Tryz.ntmps23
 have HS := Lib.hid ((((KD.nil w).push [.int .i64 m.k, .int .i64 m.y, .int .i64 m.mo, .int .i64 m.d, .int .i64 m.h, .int .i64 m.mi, .bool m.sec.neg, .string m.sec.ds, .int .i64 m.sec.sc, .bool m.zd, .int .i64 m.z] 25 (n := w.heap.size) (by simp)).push [.bool s.neg, .string s.ds, .int .i64 s.sc] 23 (n := w.heap.size + 1) (by simp)).push [.int .i64 0, .int .i64 0, .int .i64 0, .int .i64 0, .int .i64 0, .int .i64 0, .bool false, .string ⟨#[]⟩, .int .i64 0, .bool false, .int .i64 0] 25 (n := w.heap.size + 1 + 1) (by simp))
 have HT := Lib.hid hT
 clear hT
 obtain ⟨d0_0, d0_1, d0_2, d0_3, d0_4, d0_5, d0_6, d0_7, d0_8, d0_9, d0_10⟩ := (HS.out.at 0 rfl).all11
 go_wp2_with fail
 refine (cV _ (HS.out.tabs HT.out)).mono ?_
 rintro e w1 ⟨rfl, b1⟩
 replace HS := Lib.hid (HS.out.call b1)
 clear d0_0 d0_1 d0_2 d0_3 d0_4 d0_5 d0_6 d0_7 d0_8 d0_9 d0_10 b1
 obtain ⟨d1_0, d1_1, d1_2⟩ := (HS.out.at 1 rfl).all3
 go_wp2_with fail
 refine (cK _ (HS.out.tabs HT.out)).mono ?_
 rintro e w2 ⟨rfl, b1⟩
 replace HS := Lib.hid (HS.out.call b1)
 clear d1_0 d1_1 d1_2 b1
 obtain ⟨d2_0, d2_1, d2_2, d2_3, d2_4, d2_5, d2_6, d2_7, d2_8, d2_9, d2_10⟩ := (HS.out.at 2 rfl).all11
 obtain ⟨z2_0, z2_1, z2_2, z2_3, z2_4, z2_5, z2_6, z2_7, z2_8, z2_9, z2_10⟩ := (HS.out.at 2 rfl).free11
 go_wp2
 replace HS := Lib.hid (HS.out.store 2 rfl [.int .i64 0, .int .i64 0, .int .i64 0, .int .i64 0, .int .i64 0, .int .i64 0, .bool false, .string ⟨#[]⟩, .int .i64 0, .bool false, .int .i64 0] rfl)
 obtain ⟨r0, r1, r2, r3, r4, r5, r6, r7, r8, r9, r10⟩ := (HS.out.at 2 rfl).all11
 simp only [setL, Nat.reduceAdd] at r0 r1 r2 r3 r4 r5 r6 r7 r8 r9 r10
 refine bodyPost_ret (v := _) ?_ rfl ⟨rfl, HS.out.old⟩
 simp [results, Tryz.results23, go_sem, r0, r1, r2, r3, r4, r5, r6, r7, r8, r9, r10]
theorem padd_bad3 (m : Mom) (n : Int) (s : Dec) (c : Int) (hc : (c != 0) = false)
  (cV : ∀ W, Tabs W → Calls Tryz.prog 38 #[.agg #[.int .i64 m.k, .int .i64 m.y, .int .i64 m.mo, .int .i64 m.d, .int .i64 m.h, .int .i64 m.mi, .bool m.sec.neg, .string m.sec.ds, .int .i64 m.sec.sc, .bool m.zd, .int .i64 m.z]] W fun e w' => e = .returned (.bool true) ∧ Below W.heap.size W w')
  (cK : ∀ W, Tabs W → Calls Tryz.prog 59 #[.agg #[.bool s.neg, .string s.ds, .int .i64 s.sc]] W fun e w' => e = .returned (.int .i64 c) ∧ Below W.heap.size W w')
  (cW : ∀ W, Calls Tryz.prog 60 #[.int .i64 n, .int .i64 (-300000), .int .i64 300000] W fun e w' => e = .returned (.bool false) ∧ W = w')
  (w : World) (hT : Tabs w) : Calls Tryz.prog 23 #[.agg #[.int .i64 m.k, .int .i64 m.y, .int .i64 m.mo, .int .i64 m.d, .int .i64 m.h, .int .i64 m.mi, .bool m.sec.neg, .string m.sec.ds, .int .i64 m.sec.sc, .bool m.zd, .int .i64 m.z], .int .i64 n, .agg #[.bool s.neg, .string s.ds, .int .i64 s.sc]] w fun e w' => e = .returned (.tuple #[.agg #[.int .i64 0, .int .i64 0, .int .i64 0, .int .i64 0, .int .i64 0, .int .i64 0, .bool false, .string ⟨#[]⟩, .int .i64 0, .bool false, .int .i64 0], .int .i64 2]) ∧ Below w.heap.size w w' := by
 go_enter Tryz.func23, Tryz.ntmps23
 have HS := Lib.hid ((((KD.nil w).push [.int .i64 m.k, .int .i64 m.y, .int .i64 m.mo, .int .i64 m.d, .int .i64 m.h, .int .i64 m.mi, .bool m.sec.neg, .string m.sec.ds, .int .i64 m.sec.sc, .bool m.zd, .int .i64 m.z] 25 (n := w.heap.size) (by simp)).push [.bool s.neg, .string s.ds, .int .i64 s.sc] 23 (n := w.heap.size + 1) (by simp)).push [.int .i64 0, .int .i64 0, .int .i64 0, .int .i64 0, .int .i64 0, .int .i64 0, .bool false, .string ⟨#[]⟩, .int .i64 0, .bool false, .int .i64 0] 25 (n := w.heap.size + 1 + 1) (by simp))
 have HT := Lib.hid hT
 clear hT
 obtain ⟨d0_0, d0_1, d0_2, d0_3, d0_4, d0_5, d0_6, d0_7, d0_8, d0_9, d0_10⟩ := (HS.out.at 0 rfl).all11
 go_wp2_with fail
 refine (cV _ (HS.out.tabs HT.out)).mono ?_
 rintro e w1 ⟨rfl, b1⟩
 replace HS := Lib.hid (HS.out.call b1)
 clear d0_0 d0_1 d0_2 d0_3 d0_4 d0_5 d0_6 d0_7 d0_8 d0_9 d0_10 b1
 obtain ⟨d1_0, d1_1, d1_2⟩ := (HS.out.at 1 rfl).all3
 go_wp2_with fail
 refine (cK _ (HS.out.tabs HT.out)).mono ?_
 rintro e w2 ⟨rfl, b1⟩
 replace HS := Lib.hid (HS.out.call b1)
 clear d1_0 d1_1 d1_2 b1
 go_wp2_with fail
 refine (cW _).mono ?_
 rintro e w_ ⟨rfl, rfl⟩
 obtain ⟨d2_0, d2_1, d2_2, d2_3, d2_4, d2_5, d2_6, d2_7, d2_8, d2_9, d2_10⟩ := (HS.out.at 2 rfl).all11
 obtain ⟨z2_0, z2_1, z2_2, z2_3, z2_4, z2_5, z2_6, z2_7, z2_8, z2_9, z2_10⟩ := (HS.out.at 2 rfl).free11
 go_wp2
 replace HS := Lib.hid (HS.out.store 2 rfl [.int .i64 0, .int .i64 0, .int .i64 0, .int .i64 0, .int .i64 0, .int .i64 0, .bool false, .string ⟨#[]⟩, .int .i64 0, .bool false, .int .i64 0] rfl)
 obtain ⟨r0, r1, r2, r3, r4, r5, r6, r7, r8, r9, r10⟩ := (HS.out.at 2 rfl).all11
 simp only [setL, Nat.reduceAdd] at r0 r1 r2 r3 r4 r5 r6 r7 r8 r9 r10
 refine bodyPost_ret (v := _) ?_ rfl ⟨rfl, HS.out.old⟩
 simp [results, Tryz.results23, go_sem, r0, r1, r2, r3, r4, r5, r6, r7, r8, r9, r10]
theorem padd_bad4 (m : Mom) (n : Int) (s : Dec) (c : Int) (hc : (c != 0) = false) (hn : (n != 0) = true)
  (cV : ∀ W, Tabs W → Calls Tryz.prog 38 #[.agg #[.int .i64 m.k, .int .i64 m.y, .int .i64 m.mo, .int .i64 m.d, .int .i64 m.h, .int .i64 m.mi, .bool m.sec.neg, .string m.sec.ds, .int .i64 m.sec.sc, .bool m.zd, .int .i64 m.z]] W fun e w' => e = .returned (.bool true) ∧ Below W.heap.size W w')
  (cK : ∀ W, Tabs W → Calls Tryz.prog 59 #[.agg #[.bool s.neg, .string s.ds, .int .i64 s.sc]] W fun e w' => e = .returned (.int .i64 c) ∧ Below W.heap.size W w')
  (cW : ∀ W, Calls Tryz.prog 60 #[.int .i64 n, .int .i64 (-300000), .int .i64 300000] W fun e w' => e = .returned (.bool true) ∧ W = w')
  (cH : ∀ W, Calls Tryz.prog 39 #[.int .i64 m.k] W fun e w' => e = .returned (.bool false) ∧ W = w')
  (w : World) (hT : Tabs w) : Calls Tryz.prog 23 #[.agg #[.int .i64 m.k, .int .i64 m.y, .int .i64 m.mo, .int .i64 m.d, .int .i64 m.h, .int .i64 m.mi, .bool m.sec.neg, .string m.sec.ds, .int .i64 m.sec.sc, .bool m.zd, .int .i64 m.z], .int .i64 n, .agg #[.bool s.neg, .string s.ds, .int .i64 s.sc]] w fun e w' => e = .returned (.tuple #[.agg #[.int .i64 0, .int .i64 0, .int .i64 0, .int .i64 0, .int .i64 0, .int .i64 0, .bool false, .string ⟨#[]⟩, .int .i64 0, .bool false, .int .i64 0], .int .i64 2]) ∧ Below w.heap.size w w' := by
 go_enter Tryz.func23, Tryz.ntmps23
 have HS := Lib.hid ((((KD.nil w).push [.int .i64 m.k, .int .i64 m.y, .int .i64 m.mo, .int .i64 m.d, .int .i64 m.h, .int .i64 m.mi, .bool m.sec.neg, .string m.sec.ds, .int .i64 m.sec.sc, .bool m.zd, .int .i64 m.z] 25 (n := w.heap.size) (by simp)).push [.bool s.neg, .string s.ds, .int .i64 s.sc] 23 (n := w.heap.size + 1) (by simp)).push [.int .i64 0, .int .i64 0, .int .i64 0, .int .i64 0, .int .i64 0, .int .i64 0, .bool false, .string ⟨#[]⟩, .int .i64 0, .bool false, .int .i64 0] 25 (n := w.heap.size + 1 + 1) (by simp))
 have HT := Lib.hid hT
 clear hT
 obtain ⟨d0_0, d0_1, d0_2, d0_3, d0_4, d0_5, d0_6, d0_7, d0_8, d0_9, d0_10⟩ := (HS.out.at 0 rfl).all11
 go_wp2_with fail
 refine (cV _ (HS.out.tabs HT.out)).mono ?_
 rintro e w1 ⟨rfl, b1⟩
 replace HS := Lib.hid (HS.out.call b1)
 clear d0_0 d0_1 d0_2 d0_3 d0_4 d0_5 d0_6 d0_7 d0_8 d0_9 d0_10 b1
 obtain ⟨d1_0, d1_1, d1_2⟩ := (HS.out.at 1 rfl).all3
 go_wp2_with fail
 refine (cK _ (HS.out.tabs HT.out)).mono ?_
 rintro e w2 ⟨rfl, b1⟩
 replace HS := Lib.hid (HS.out.call b1)
 clear d1_0 d1_1 d1_2 b1
 go_wp2_with fail
 refine (cW _).mono ?_
 rintro e w_ ⟨rfl, rfl⟩
 have d0_0 := (HS.out.at 0 rfl).cell 0 rfl
 go_wp2_with fail
 refine (cH _).mono ?_
 rintro e w_ ⟨rfl, rfl⟩
 clear d0_0
 obtain ⟨d2_0, d2_1, d2_2, d2_3, d2_4, d2_5, d2_6, d2_7, d2_8, d2_9, d2_10⟩ := (HS.out.at 2 rfl).all11
 obtain ⟨z2_0, z2_1, z2_2, z2_3, z2_4, z2_5, z2_6, z2_7, z2_8, z2_9, z2_10⟩ := (HS.out.at 2 rfl).free11
 go_wp2
 replace HS := Lib.hid (HS.out.store 2 rfl [.int .i64 0, .int .i64 0, .int .i64 0, .int .i64 0, .int .i64 0, .int .i64 0, .bool false, .string ⟨#[]⟩, .int .i64 0, .bool false, .int .i64 0] rfl)
 obtain ⟨r0, r1, r2, r3, r4, r5, r6, r7, r8, r9, r10⟩ := (HS.out.at 2 rfl).all11
 simp only [setL, Nat.reduceAdd] at r0 r1 r2 r3 r4 r5 r6 r7 r8 r9 r10
 refine bodyPost_ret (v := _) ?_ rfl ⟨rfl, HS.out.old⟩
 simp [results, Tryz.results23, go_sem, r0, r1, r2, r3, r4, r5, r6, r7, r8, r9, r10]
theorem padd_far1 (m : Mom) (n : Int) (s : Dec) (c : Int) (bd : Bool) (hc : (c != 0) = false) (hn : bd = false → n = 0)
  (cV : ∀ W, Tabs W → Calls Tryz.prog 38 #[.agg #[.int .i64 m.k, .int .i64 m.y, .int .i64 m.mo, .int .i64 m.d, .int .i64 m.h, .int .i64 m.mi, .bool m.sec.neg, .string m.sec.ds, .int .i64 m.sec.sc, .bool m.zd, .int .i64 m.z]] W fun e w' => e = .returned (.bool true) ∧ Below W.heap.size W w')
  (cK : ∀ W, Tabs W → Calls Tryz.prog 59 #[.agg #[.bool s.neg, .string s.ds, .int .i64 s.sc]] W fun e w' => e = .returned (.int .i64 c) ∧ Below W.heap.size W w')
  (cW : ∀ W, Calls Tryz.prog 60 #[.int .i64 n, .int .i64 (-300000), .int .i64 300000] W fun e w' => e = .returned (.bool true) ∧ W = w')
  (cH : ∀ W, Calls Tryz.prog 39 #[.int .i64 m.k] W fun e w' => e = .returned (.bool bd) ∧ W = w')
  (cO1 : ∀ W, Tabs W → Calls Tryz.prog 62 #[.int .i64 (-1000000000000)] W fun e w' => e = .returned (.agg #[.bool true, .string ⟨#[49, 48, 48, 48, 48, 48, 48, 48, 48, 48, 48, 48, 48]⟩, .int .i64 0]) ∧ Below W.heap.size W w')
  (cI1 : ∀ W, Tabs W → Calls Tryz.prog 61 #[.agg #[.bool true, .string ⟨#[49, 48, 48, 48, 48, 48, 48, 48, 48, 48, 48, 48, 48]⟩, .int .i64 0], .agg #[.bool s.neg, .string s.ds, .int .i64 s.sc]] W fun e w' => e = .returned (.bool false) ∧ Below W.heap.size W w')
  (w : World) (hT : Tabs w) : Calls Tryz.prog 23 #[.agg #[.int .i64 m.k, .int .i64 m.y, .int .i64 m.mo, .int .i64 m.d, .int .i64 m.h, .int .i64 m.mi, .bool m.sec.neg, .string m.sec.ds, .int .i64 m.sec.sc, .bool m.zd, .int .i64 m.z], .int .i64 n, .agg #[.bool s.neg, .string s.ds, .int .i64 s.sc]] w fun e w' => e = .returned (.tuple #[.agg #[.int .i64 0, .int .i64 0, .int .i64 0, .int .i64 0, .int .i64 0, .int .i64 0, .bool false, .string ⟨#[]⟩, .int .i64 0, .bool false, .int .i64 0], .int .i64 7]) ∧ Below w.heap.size w w' := by
 go_enter Tryz.func23, Tryz.ntmps23
 have HS := Lib.hid ((((KD.nil w).push [.int .i64 m.k, .int .i64 m.y, .int .i64 m.mo, .int .i64 m.d, .int .i64 m.h, .int .i64 m.mi, .bool m.sec.neg, .string m.sec.ds, .int .i64 m.sec.sc, .bool m.zd, .int .i64 m.z] 25 (n := w.heap.size) (by simp)).push [.bool s.neg, .string s.ds, .int .i64 s.sc] 23 (n := w.heap.size + 1) (by simp)).push [.int .i64 0, .int .i64 0, .int .i64 0, .int .i64 0, .int .i64 0, .int .i64 0, .bool false, .string ⟨#[]⟩, .int .i64 0, .bool false, .int .i64 0] 25 (n := w.heap.size + 1 + 1) (by simp))
 have HT := Lib.hid hT
 clear hT
 obtain ⟨w0, hw0⟩ : ∃ W, (((w.alloc (.cells #[.int .i64 m.k, .int .i64 m.y, .int .i64 m.mo, .int .i64 m.d, .int .i64 m.h, .int .i64 m.mi, .bool m.sec.neg, .string m.sec.ds, .int .i64 m.sec.sc, .bool m.zd, .int .i64 m.z] 25)).alloc (.cells #[.bool s.neg, .string s.ds, .int .i64 s.sc] 23)).alloc (.cells #[.int .i64 0, .int .i64 0, .int .i64 0, .int .i64 0, .int .i64 0, .int .i64 0, .bool false, .string ⟨#[]⟩, .int .i64 0, .bool false, .int .i64 0] 25)) = W := ⟨_, rfl⟩
 go_upto_region 1 with fail
 rw [hw0] at HS
 clear hw0
 replace HS : Hid (KD w (lmd w m s) w0) := HS
 have HNN := Lib.hid hn
 clear hn
 go_cut [32] (fun s32 wx => s32 = .bool false ∧ KD w (lmd w m s) wx)
 case first =>
  cases bd
  rotate_left
  ·obtain ⟨d0_0, d0_1, d0_2, d0_3, d0_4, d0_5, d0_6, d0_7, d0_8, d0_9, d0_10⟩ := (HS.out.at 0 rfl).all11
   go_wp2_with fail
   refine (cV _ (HS.out.tabs HT.out)).mono ?_
   rintro e w1 ⟨rfl, b1⟩
   replace HS := Lib.hid (HS.out.call b1)
   clear d0_0 d0_1 d0_2 d0_3 d0_4 d0_5 d0_6 d0_7 d0_8 d0_9 d0_10 b1
   obtain ⟨d1_0, d1_1, d1_2⟩ := (HS.out.at 1 rfl).all3
   go_wp2_with fail
   refine (cK _ (HS.out.tabs HT.out)).mono ?_
   rintro e w2 ⟨rfl, b1⟩
   replace HS := Lib.hid (HS.out.call b1)
   clear d1_0 d1_1 d1_2 b1
   go_wp2_with fail
   refine (cW _).mono ?_
   rintro e w_ ⟨rfl, rfl⟩
   have d0_0 := (HS.out.at 0 rfl).cell 0 rfl
   go_wp2_with fail
   refine (cH _).mono ?_
   rintro e w_ ⟨rfl, rfl⟩
   clear d0_0
   go_wp2_with fail
   go_meet
   exact ⟨rfl, HS.out⟩
  ·have hn0 := HNN.out rfl
   have hn : (n != 0) = false := by rw [hn0]; rfl
   clear hn0
   obtain ⟨d0_0, d0_1, d0_2, d0_3, d0_4, d0_5, d0_6, d0_7, d0_8, d0_9, d0_10⟩ := (HS.out.at 0 rfl).all11
   go_wp2_with fail
   refine (cV _ (HS.out.tabs HT.out)).mono ?_
   rintro e w1 ⟨rfl, b1⟩
   replace HS := Lib.hid (HS.out.call b1)
   clear d0_0 d0_1 d0_2 d0_3 d0_4 d0_5 d0_6 d0_7 d0_8 d0_9 d0_10 b1
   obtain ⟨d1_0, d1_1, d1_2⟩ := (HS.out.at 1 rfl).all3
   go_wp2_with fail
   refine (cK _ (HS.out.tabs HT.out)).mono ?_
   rintro e w2 ⟨rfl, b1⟩
   replace HS := Lib.hid (HS.out.call b1)
   clear d1_0 d1_1 d1_2 b1
   go_wp2_with fail
   refine (cW _).mono ?_
   rintro e w_ ⟨rfl, rfl⟩
   have d0_0 := (HS.out.at 0 rfl).cell 0 rfl
   go_wp2_with fail
   refine (cH _).mono ?_
   rintro e w_ ⟨rfl, rfl⟩
   clear d0_0
   go_wp2_with fail
   go_meet
   exact ⟨rfl, HS.out⟩
 case rest =>
  clear HS
  obtain ⟨rfl, hS⟩ := hcut
  have HS := Lib.hid hS
  clear hS
  go_upto_region 3 with fail
  refine wp_region_held_drew (S := KD w _) (by kernel_rfl) HS.out.drew1 (fun hHeld => ?_)
  clear HS
  generalize World.drew wc = x at *
  refine tk (v := ?_) 1 hHeld ?_ ?_
  rotate_left
  focus (intro w hSw; obtain ⟨c0, c1, c2⟩ := (hSw.at 1 rfl).all3; clear hSw; go_simp; (try with_reducible rfl))
  (try simp only [fl])
  refine wpAnyH_ready (rs := [0]) (by kernel_rfl) (by simp) ?_
  refine AllReadyH.cons rfl (fun K hK => ?_) AllReadyH.nil
  go_simp
  refine (cO1 _ (hHeld.tabs HT.out)).mono ?_
  rintro e y ⟨rfl, un⟩
  replace hHeld := hHeld.call un
  clear un
  refine hK.out _ _ hHeld (fun hX => ?_)
  clear hK K hX
  (try simp only [fl])
  (try clear x)
  rename World => x
  refine wpAnyH_ready (rs := [2]) (by kernel_rfl) (by simp) ?_
  refine AllReadyH.cons rfl (fun K hK => ?_) AllReadyH.nil
  go_simp
  refine (cI1 _ (hHeld.tabs HT.out)).mono ?_
  rintro e y ⟨rfl, un⟩
  replace hHeld := hHeld.call un
  clear un
  refine hK.out _ _ hHeld (fun hX => ?_)
  clear hK K hX
  (try simp only [fl])
  (try clear x)
  rename World => x
  refine tk (v := ?_) 3 hHeld ?_ ?_
  rotate_left
  focus (intro w hSw; clear hSw; go_simp; (try with_reducible rfl))
  (try simp only [fl])
  refine tk (v := ?_) 4 hHeld ?_ ?_
  rotate_left
  focus (intro w hSw; clear hSw; go_simp; (try with_reducible rfl))
  (try simp only [fl])
  refine wpAnyH_take (i := 5) (v := undef) rfl (by kernel_rfl) (by kernel_rfl) (by kernel_rfl) (fun _ _ _ h => h) (Or.inr ⟨by rfl, rfl⟩) hHeld ?_
  (try simp only [fl])
  refine wpAnyH_take (i := 6) (v := undef) rfl (by kernel_rfl) (by kernel_rfl) (by kernel_rfl) (fun _ _ _ h => h) (Or.inr ⟨by rfl, rfl⟩) hHeld ?_
  (try simp only [fl])
  refine wpAnyH_take (i := 7) (v := undef) rfl (by kernel_rfl) (by kernel_rfl) (by kernel_rfl) (fun _ _ _ h => h) (Or.inr ⟨by rfl, rfl⟩) hHeld ?_
  (try simp only [fl])
  refine wpAnyH_take (i := 8) (v := undef) rfl (by kernel_rfl) (by kernel_rfl) (by kernel_rfl) (fun _ _ _ h => h) (Or.inr ⟨by rfl, rfl⟩) hHeld ?_
  (try simp only [fl])
  refine tk (v := ?_) 9 hHeld ?_ ?_
  rotate_left
  focus (intro w hSw; clear hSw; go_simp; (try with_reducible rfl))
  (try simp only [fl])
  refine wpAnyH_done (by kernel_rfl) ?_ _
  have HS := Lib.hid hHeld
  clear hHeld
  obtain ⟨d2_0, d2_1, d2_2, d2_3, d2_4, d2_5, d2_6, d2_7, d2_8, d2_9, d2_10⟩ := (HS.out.at 2 rfl).all11
  obtain ⟨z2_0, z2_1, z2_2, z2_3, z2_4, z2_5, z2_6, z2_7, z2_8, z2_9, z2_10⟩ := (HS.out.at 2 rfl).free11
  go_wp2
  replace HS := Lib.hid (HS.out.store 2 rfl [.int .i64 0, .int .i64 0, .int .i64 0, .int .i64 0, .int .i64 0, .int .i64 0, .bool false, .string ⟨#[]⟩, .int .i64 0, .bool false, .int .i64 0] rfl)
  obtain ⟨r0, r1, r2, r3, r4, r5, r6, r7, r8, r9, r10⟩ := (HS.out.at 2 rfl).all11
  simp only [setL, Nat.reduceAdd] at r0 r1 r2 r3 r4 r5 r6 r7 r8 r9 r10
  refine bodyPost_ret (v := _) ?_ rfl ⟨rfl, HS.out.old⟩
  simp [results, Tryz.results23, go_sem, r0, r1, r2, r3, r4, r5, r6, r7, r8, r9, r10]
theorem padd_far2 (m : Mom) (n : Int) (s : Dec) (c : Int) (bd : Bool) (hc : (c != 0) = false) (hn : bd = false → n = 0)
  (cV : ∀ W, Tabs W → Calls Tryz.prog 38 #[.agg #[.int .i64 m.k, .int .i64 m.y, .int .i64 m.mo, .int .i64 m.d, .int .i64 m.h, .int .i64 m.mi, .bool m.sec.neg, .string m.sec.ds, .int .i64 m.sec.sc, .bool m.zd, .int .i64 m.z]] W fun e w' => e = .returned (.bool true) ∧ Below W.heap.size W w')
  (cK : ∀ W, Tabs W → Calls Tryz.prog 59 #[.agg #[.bool s.neg, .string s.ds, .int .i64 s.sc]] W fun e w' => e = .returned (.int .i64 c) ∧ Below W.heap.size W w')
  (cW : ∀ W, Calls Tryz.prog 60 #[.int .i64 n, .int .i64 (-300000), .int .i64 300000] W fun e w' => e = .returned (.bool true) ∧ W = w')
  (cH : ∀ W, Calls Tryz.prog 39 #[.int .i64 m.k] W fun e w' => e = .returned (.bool bd) ∧ W = w')
  (cO1 : ∀ W, Tabs W → Calls Tryz.prog 62 #[.int .i64 (-1000000000000)] W fun e w' => e = .returned (.agg #[.bool true, .string ⟨#[49, 48, 48, 48, 48, 48, 48, 48, 48, 48, 48, 48, 48]⟩, .int .i64 0]) ∧ Below W.heap.size W w')
  (cI1 : ∀ W, Tabs W → Calls Tryz.prog 61 #[.agg #[.bool true, .string ⟨#[49, 48, 48, 48, 48, 48, 48, 48, 48, 48, 48, 48, 48]⟩, .int .i64 0], .agg #[.bool s.neg, .string s.ds, .int .i64 s.sc]] W fun e w' => e = .returned (.bool true) ∧ Below W.heap.size W w')
  (cO2 : ∀ W, Tabs W → Calls Tryz.prog 62 #[.int .i64 1000000000000] W fun e w' => e = .returned (.agg #[.bool false, .string ⟨#[49, 48, 48, 48, 48, 48, 48, 48, 48, 48, 48, 48, 48]⟩, .int .i64 0]) ∧ Below W.heap.size W w')
  (cI2 : ∀ W, Tabs W → Calls Tryz.prog 61 #[.agg #[.bool s.neg, .string s.ds, .int .i64 s.sc], .agg #[.bool false, .string ⟨#[49, 48, 48, 48, 48, 48, 48, 48, 48, 48, 48, 48, 48]⟩, .int .i64 0]] W fun e w' => e = .returned (.bool false) ∧ Below W.heap.size W w')
  (w : World) (hT : Tabs w) : Calls Tryz.prog 23 #[.agg #[.int .i64 m.k, .int .i64 m.y, .int .i64 m.mo, .int .i64 m.d, .int .i64 m.h, .int .i64 m.mi, .bool m.sec.neg, .string m.sec.ds, .int .i64 m.sec.sc, .bool m.zd, .int .i64 m.z], .int .i64 n, .agg #[.bool s.neg, .string s.ds, .int .i64 s.sc]] w fun e w' => e = .returned (.tuple #[.agg #[.int .i64 0, .int .i64 0, .int .i64 0, .int .i64 0, .int .i64 0, .int .i64 0, .bool false, .string ⟨#[]⟩, .int .i64 0, .bool false, .int .i64 0], .int .i64 7]) ∧ Below w.heap.size w w' := by
 go_enter Tryz.func23, Tryz.ntmps23
 have HS := Lib.hid ((((KD.nil w).push [.int .i64 m.k, .int .i64 m.y, .int .i64 m.mo, .int .i64 m.d, .int .i64 m.h, .int .i64 m.mi, .bool m.sec.neg, .string m.sec.ds, .int .i64 m.sec.sc, .bool m.zd, .int .i64 m.z] 25 (n := w.heap.size) (by simp)).push [.bool s.neg, .string s.ds, .int .i64 s.sc] 23 (n := w.heap.size + 1) (by simp)).push [.int .i64 0, .int .i64 0, .int .i64 0, .int .i64 0, .int .i64 0, .int .i64 0, .bool false, .string ⟨#[]⟩, .int .i64 0, .bool false, .int .i64 0] 25 (n := w.heap.size + 1 + 1) (by simp))
 have HT := Lib.hid hT
 clear hT
 obtain ⟨w0, hw0⟩ : ∃ W, (((w.alloc (.cells #[.int .i64 m.k, .int .i64 m.y, .int .i64 m.mo, .int .i64 m.d, .int .i64 m.h, .int .i64 m.mi, .bool m.sec.neg, .string m.sec.ds, .int .i64 m.sec.sc, .bool m.zd, .int .i64 m.z] 25)).alloc (.cells #[.bool s.neg, .string s.ds, .int .i64 s.sc] 23)).alloc (.cells #[.int .i64 0, .int .i64 0, .int .i64 0, .int .i64 0, .int .i64 0, .int .i64 0, .bool false, .string ⟨#[]⟩, .int .i64 0, .bool false, .int .i64 0] 25)) = W := ⟨_, rfl⟩
 go_upto_region 1 with fail
 rw [hw0] at HS
 clear hw0
 replace HS : Hid (KD w (lmd w m s) w0) := HS
 have HNN := Lib.hid hn
 clear hn
 go_cut [32] (fun s32 wx => s32 = .bool false ∧ KD w (lmd w m s) wx)
 case first =>
  cases bd
  rotate_left
  ·obtain ⟨d0_0, d0_1, d0_2, d0_3, d0_4, d0_5, d0_6, d0_7, d0_8, d0_9, d0_10⟩ := (HS.out.at 0 rfl).all11
   go_wp2_with fail
   refine (cV _ (HS.out.tabs HT.out)).mono ?_
   rintro e w1 ⟨rfl, b1⟩
   replace HS := Lib.hid (HS.out.call b1)
   clear d0_0 d0_1 d0_2 d0_3 d0_4 d0_5 d0_6 d0_7 d0_8 d0_9 d0_10 b1
   obtain ⟨d1_0, d1_1, d1_2⟩ := (HS.out.at 1 rfl).all3
   go_wp2_with fail
   refine (cK _ (HS.out.tabs HT.out)).mono ?_
   rintro e w2 ⟨rfl, b1⟩
   replace HS := Lib.hid (HS.out.call b1)
   clear d1_0 d1_1 d1_2 b1
   go_wp2_with fail
   refine (cW _).mono ?_
   rintro e w_ ⟨rfl, rfl⟩
   have d0_0 := (HS.out.at 0 rfl).cell 0 rfl
   go_wp2_with fail
   refine (cH _).mono ?_
   rintro e w_ ⟨rfl, rfl⟩
   clear d0_0
   go_wp2_with fail
   go_meet
   exact ⟨rfl, HS.out⟩
  ·have hn0 := HNN.out rfl
   have hn : (n != 0) = false := by rw [hn0]; rfl
   clear hn0
   obtain ⟨d0_0, d0_1, d0_2, d0_3, d0_4, d0_5, d0_6, d0_7, d0_8, d0_9, d0_10⟩ := (HS.out.at 0 rfl).all11
   go_wp2_with fail
   refine (cV _ (HS.out.tabs HT.out)).mono ?_
   rintro e w1 ⟨rfl, b1⟩
   replace HS := Lib.hid (HS.out.call b1)
   clear d0_0 d0_1 d0_2 d0_3 d0_4 d0_5 d0_6 d0_7 d0_8 d0_9 d0_10 b1
   obtain ⟨d1_0, d1_1, d1_2⟩ := (HS.out.at 1 rfl).all3
   go_wp2_with fail
   refine (cK _ (HS.out.tabs HT.out)).mono ?_
   rintro e w2 ⟨rfl, b1⟩
   replace HS := Lib.hid (HS.out.call b1)
   clear d1_0 d1_1 d1_2 b1
   go_wp2_with fail
   refine (cW _).mono ?_
   rintro e w_ ⟨rfl, rfl⟩
   have d0_0 := (HS.out.at 0 rfl).cell 0 rfl
   go_wp2_with fail
   refine (cH _).mono ?_
   rintro e w_ ⟨rfl, rfl⟩
   clear d0_0
   go_wp2_with fail
   go_meet
   exact ⟨rfl, HS.out⟩
 case rest =>
  clear HS
  obtain ⟨rfl, hS⟩ := hcut
  have HS := Lib.hid hS
  clear hS
  go_upto_region 3 with fail
  refine wp_region_held_drew (S := KD w _) (by kernel_rfl) HS.out.drew1 (fun hHeld => ?_)
  clear HS
  generalize World.drew wc = x at *
  refine tk (v := ?_) 1 hHeld ?_ ?_
  rotate_left
  focus (intro w hSw; obtain ⟨c0, c1, c2⟩ := (hSw.at 1 rfl).all3; clear hSw; go_simp; (try with_reducible rfl))
  (try simp only [fl])
  refine wpAnyH_ready (rs := [0]) (by kernel_rfl) (by simp) ?_
  refine AllReadyH.cons rfl (fun K hK => ?_) AllReadyH.nil
  go_simp
  refine (cO1 _ (hHeld.tabs HT.out)).mono ?_
  rintro e y ⟨rfl, un⟩
  replace hHeld := hHeld.call un
  clear un
  refine hK.out _ _ hHeld (fun hX => ?_)
  clear hK K hX
  (try simp only [fl])
  (try clear x)
  rename World => x
  refine wpAnyH_ready (rs := [2]) (by kernel_rfl) (by simp) ?_
  refine AllReadyH.cons rfl (fun K hK => ?_) AllReadyH.nil
  go_simp
  refine (cI1 _ (hHeld.tabs HT.out)).mono ?_
  rintro e y ⟨rfl, un⟩
  replace hHeld := hHeld.call un
  clear un
  refine hK.out _ _ hHeld (fun hX => ?_)
  clear hK K hX
  (try simp only [fl])
  (try clear x)
  rename World => x
  refine tk (v := ?_) 3 hHeld ?_ ?_
  rotate_left
  focus (intro w hSw; clear hSw; go_simp; (try with_reducible rfl))
  (try simp only [fl])
  refine tk (v := ?_) 4 hHeld ?_ ?_
  rotate_left
  focus (intro w hSw; clear hSw; go_simp; (try with_reducible rfl))
  (try simp only [fl])
  refine tk (v := ?_) 5 hHeld ?_ ?_
  rotate_left
  focus (intro w hSw; obtain ⟨c0, c1, c2⟩ := (hSw.at 1 rfl).all3; clear hSw; go_simp; (try with_reducible rfl))
  (try simp only [fl])
  refine wpAnyH_ready (rs := [6]) (by kernel_rfl) (by simp) ?_
  refine AllReadyH.cons rfl (fun K hK => ?_) AllReadyH.nil
  go_simp
  refine (cO2 _ (hHeld.tabs HT.out)).mono ?_
  rintro e y ⟨rfl, un⟩
  replace hHeld := hHeld.call un
  clear un
  refine hK.out _ _ hHeld (fun hX => ?_)
  clear hK K hX
  (try simp only [fl])
  (try clear x)
  rename World => x
  refine wpAnyH_ready (rs := [7]) (by kernel_rfl) (by simp) ?_
  refine AllReadyH.cons rfl (fun K hK => ?_) AllReadyH.nil
  go_simp
  refine (cI2 _ (hHeld.tabs HT.out)).mono ?_
  rintro e y ⟨rfl, un⟩
  replace hHeld := hHeld.call un
  clear un
  refine hK.out _ _ hHeld (fun hX => ?_)
  clear hK K hX
  (try simp only [fl])
  (try clear x)
  rename World => x
  refine tk (v := ?_) 8 hHeld ?_ ?_
  rotate_left
  focus (intro w hSw; clear hSw; go_simp; (try with_reducible rfl))
  (try simp only [fl])
  refine tk (v := ?_) 9 hHeld ?_ ?_
  rotate_left
  focus (intro w hSw; clear hSw; go_simp; (try with_reducible rfl))
  (try simp only [fl])
  refine wpAnyH_done (by kernel_rfl) ?_ _
  have HS := Lib.hid hHeld
  clear hHeld
  obtain ⟨d2_0, d2_1, d2_2, d2_3, d2_4, d2_5, d2_6, d2_7, d2_8, d2_9, d2_10⟩ := (HS.out.at 2 rfl).all11
  obtain ⟨z2_0, z2_1, z2_2, z2_3, z2_4, z2_5, z2_6, z2_7, z2_8, z2_9, z2_10⟩ := (HS.out.at 2 rfl).free11
  go_wp2
  replace HS := Lib.hid (HS.out.store 2 rfl [.int .i64 0, .int .i64 0, .int .i64 0, .int .i64 0, .int .i64 0, .int .i64 0, .bool false, .string ⟨#[]⟩, .int .i64 0, .bool false, .int .i64 0] rfl)
  obtain ⟨r0, r1, r2, r3, r4, r5, r6, r7, r8, r9, r10⟩ := (HS.out.at 2 rfl).all11
  simp only [setL, Nat.reduceAdd] at r0 r1 r2 r3 r4 r5 r6 r7 r8 r9 r10
  refine bodyPost_ret (v := _) ?_ rfl ⟨rfl, HS.out.old⟩
  simp [results, Tryz.results23, go_sem, r0, r1, r2, r3, r4, r5, r6, r7, r8, r9, r10]
theorem padd_on (m : Mom) (n : Int) (s : Dec) (c : Int) (bd ok : Bool) (X Q : Mom) (L P T : Pt) (er : Int) (q : Bool) (r : MRes) (hc : (c != 0) = false) (hn : bd = false → n = 0) (hX : bd = false → X = m) (hr1 : ok = false → r = ⟨momNil, 7⟩) (hq : (er == 0) = q) (hr2 : ok = true → q = true → r = ⟨{ Q with zd := X.zd, z := X.z }, er⟩) (hr3 : ok = true → q = false → r = ⟨Q, er⟩)
  (cV : ∀ W, Tabs W → Calls Tryz.prog 38 #[.agg #[.int .i64 m.k, .int .i64 m.y, .int .i64 m.mo, .int .i64 m.d, .int .i64 m.h, .int .i64 m.mi, .bool m.sec.neg, .string m.sec.ds, .int .i64 m.sec.sc, .bool m.zd, .int .i64 m.z]] W fun e w' => e = .returned (.bool true) ∧ Below W.heap.size W w')
  (cK : ∀ W, Tabs W → Calls Tryz.prog 59 #[.agg #[.bool s.neg, .string s.ds, .int .i64 s.sc]] W fun e w' => e = .returned (.int .i64 c) ∧ Below W.heap.size W w')
  (cW : ∀ W, Calls Tryz.prog 60 #[.int .i64 n, .int .i64 (-300000), .int .i64 300000] W fun e w' => e = .returned (.bool true) ∧ W = w')
  (cH : ∀ W, Calls Tryz.prog 39 #[.int .i64 m.k] W fun e w' => e = .returned (.bool bd) ∧ W = w')
  (cO1 : ∀ W, Tabs W → Calls Tryz.prog 62 #[.int .i64 (-1000000000000)] W fun e w' => e = .returned (.agg #[.bool true, .string ⟨#[49, 48, 48, 48, 48, 48, 48, 48, 48, 48, 48, 48, 48]⟩, .int .i64 0]) ∧ Below W.heap.size W w')
  (cI1 : ∀ W, Tabs W → Calls Tryz.prog 61 #[.agg #[.bool true, .string ⟨#[49, 48, 48, 48, 48, 48, 48, 48, 48, 48, 48, 48, 48]⟩, .int .i64 0], .agg #[.bool s.neg, .string s.ds, .int .i64 s.sc]] W fun e w' => e = .returned (.bool true) ∧ Below W.heap.size W w')
  (cO2 : ∀ W, Tabs W → Calls Tryz.prog 62 #[.int .i64 1000000000000] W fun e w' => e = .returned (.agg #[.bool false, .string ⟨#[49, 48, 48, 48, 48, 48, 48, 48, 48, 48, 48, 48, 48]⟩, .int .i64 0]) ∧ Below W.heap.size W w')
  (cI2 : ∀ W, Tabs W → Calls Tryz.prog 61 #[.agg #[.bool s.neg, .string s.ds, .int .i64 s.sc], .agg #[.bool false, .string ⟨#[49, 48, 48, 48, 48, 48, 48, 48, 48, 48, 48, 48, 48]⟩, .int .i64 0]] W fun e w' => e = .returned (.bool true) ∧ Below W.heap.size W w')
  (cN : bd = true → ∀ W, Tabs W → Calls Tryz.prog 63 #[.agg #[.int .i64 m.k, .int .i64 m.y, .int .i64 m.mo, .int .i64 m.d, .int .i64 m.h, .int .i64 m.mi, .bool m.sec.neg, .string m.sec.ds, .int .i64 m.sec.sc, .bool m.zd, .int .i64 m.z], .int .i64 n] W fun e w' => e = .returned (.agg #[.int .i64 X.k, .int .i64 X.y, .int .i64 X.mo, .int .i64 X.d, .int .i64 X.h, .int .i64 X.mi, .bool X.sec.neg, .string X.sec.ds, .int .i64 X.sec.sc, .bool X.zd, .int .i64 X.z]) ∧ Below W.heap.size W w')
  (cY : ∀ W, Tabs W → Calls Tryz.prog 38 #[.agg #[.int .i64 X.k, .int .i64 X.y, .int .i64 X.mo, .int .i64 X.d, .int .i64 X.h, .int .i64 X.mi, .bool X.sec.neg, .string X.sec.ds, .int .i64 X.sec.sc, .bool X.zd, .int .i64 X.z]] W fun e w' => e = .returned (.bool ok) ∧ Below W.heap.size W w')
  (cL : ok = true → ∀ W, Tabs W → Calls Tryz.prog 65 #[.agg #[.int .i64 X.k, .int .i64 X.y, .int .i64 X.mo, .int .i64 X.d, .int .i64 X.h, .int .i64 X.mi, .bool X.sec.neg, .string X.sec.ds, .int .i64 X.sec.sc, .bool X.zd, .int .i64 X.z]] W fun e w' => e = .returned (.agg #[.int .i64 L.w, .bool L.f.neg, .string L.f.ds, .int .i64 L.f.sc]) ∧ Below W.heap.size W w')
  (cP : ok = true → ∀ W, Tabs W → Calls Tryz.prog 66 #[.agg #[.bool s.neg, .string s.ds, .int .i64 s.sc]] W fun e w' => e = .returned (.agg #[.int .i64 P.w, .bool P.f.neg, .string P.f.ds, .int .i64 P.f.sc]) ∧ Below W.heap.size W w')
  (cT : ok = true → ∀ W, Tabs W → Calls Tryz.prog 64 #[.agg #[.int .i64 L.w, .bool L.f.neg, .string L.f.ds, .int .i64 L.f.sc], .agg #[.int .i64 P.w, .bool P.f.neg, .string P.f.ds, .int .i64 P.f.sc]] W fun e w' => e = .returned (.agg #[.int .i64 T.w, .bool T.f.neg, .string T.f.ds, .int .i64 T.f.sc]) ∧ Below W.heap.size W w')
  (cM : ok = true → ∀ W, Tabs W → Calls Tryz.prog 52 #[.int .i64 X.k, .agg #[.int .i64 T.w, .bool T.f.neg, .string T.f.ds, .int .i64 T.f.sc]] W fun e w' => e = .returned (.tuple #[.agg #[.int .i64 Q.k, .int .i64 Q.y, .int .i64 Q.mo, .int .i64 Q.d, .int .i64 Q.h, .int .i64 Q.mi, .bool Q.sec.neg, .string Q.sec.ds, .int .i64 Q.sec.sc, .bool Q.zd, .int .i64 Q.z], .int .i64 er]) ∧ Below W.heap.size W w')
  (w : World) (hT : Tabs w) : Calls Tryz.prog 23 #[.agg #[.int .i64 m.k, .int .i64 m.y, .int .i64 m.mo, .int .i64 m.d, .int .i64 m.h, .int .i64 m.mi, .bool m.sec.neg, .string m.sec.ds, .int .i64 m.sec.sc, .bool m.zd, .int .i64 m.z], .int .i64 n, .agg #[.bool s.neg, .string s.ds, .int .i64 s.sc]] w fun e w' => e = .returned (.tuple #[.agg #[.int .i64 r.m.k, .int .i64 r.m.y, .int .i64 r.m.mo, .int .i64 r.m.d, .int .i64 r.m.h, .int .i64 r.m.mi, .bool r.m.sec.neg, .string r.m.sec.ds, .int .i64 r.m.sec.sc, .bool r.m.zd, .int .i64 r.m.z], .int .i64 r.e]) ∧ Below w.heap.size w w' := by
 go_enter Tryz.func23, Tryz.ntmps23
 have HS := Lib.hid ((((KD.nil w).push [.int .i64 m.k, .int .i64 m.y, .int .i64 m.mo, .int .i64 m.d, .int .i64 m.h, .int .i64 m.mi, .bool m.sec.neg, .string m.sec.ds, .int .i64 m.sec.sc, .bool m.zd, .int .i64 m.z] 25 (n := w.heap.size) (by simp)).push [.bool s.neg, .string s.ds, .int .i64 s.sc] 23 (n := w.heap.size + 1) (by simp)).push [.int .i64 0, .int .i64 0, .int .i64 0, .int .i64 0, .int .i64 0, .int .i64 0, .bool false, .string ⟨#[]⟩, .int .i64 0, .bool false, .int .i64 0] 25 (n := w.heap.size + 1 + 1) (by simp))
 have HT := Lib.hid hT
 clear hT
 obtain ⟨w0, hw0⟩ : ∃ W, (((w.alloc (.cells #[.int .i64 m.k, .int .i64 m.y, .int .i64 m.mo, .int .i64 m.d, .int .i64 m.h, .int .i64 m.mi, .bool m.sec.neg, .string m.sec.ds, .int .i64 m.sec.sc, .bool m.zd, .int .i64 m.z] 25)).alloc (.cells #[.bool s.neg, .string s.ds, .int .i64 s.sc] 23)).alloc (.cells #[.int .i64 0, .int .i64 0, .int .i64 0, .int .i64 0, .int .i64 0, .int .i64 0, .bool false, .string ⟨#[]⟩, .int .i64 0, .bool false, .int .i64 0] 25)) = W := ⟨_, rfl⟩
 go_upto_region 1 with fail
 rw [hw0] at HS
 clear hw0
 replace HS : Hid (KD w (lmd w m s) w0) := HS
 have HNN := Lib.hid hn
 clear hn
 go_cut [32] (fun s32 wx => s32 = .bool false ∧ KD w (lmd w m s) wx)
 case first =>
  cases bd
  rotate_left
  ·obtain ⟨d0_0, d0_1, d0_2, d0_3, d0_4, d0_5, d0_6, d0_7, d0_8, d0_9, d0_10⟩ := (HS.out.at 0 rfl).all11
   go_wp2_with fail
   refine (cV _ (HS.out.tabs HT.out)).mono ?_
   rintro e w1 ⟨rfl, b1⟩
   replace HS := Lib.hid (HS.out.call b1)
   clear d0_0 d0_1 d0_2 d0_3 d0_4 d0_5 d0_6 d0_7 d0_8 d0_9 d0_10 b1
   obtain ⟨d1_0, d1_1, d1_2⟩ := (HS.out.at 1 rfl).all3
   go_wp2_with fail
   refine (cK _ (HS.out.tabs HT.out)).mono ?_
   rintro e w2 ⟨rfl, b1⟩
   replace HS := Lib.hid (HS.out.call b1)
   clear d1_0 d1_1 d1_2 b1
   go_wp2_with fail
   refine (cW _).mono ?_
   rintro e w_ ⟨rfl, rfl⟩
   have d0_0 := (HS.out.at 0 rfl).cell 0 rfl
   go_wp2_with fail
   refine (cH _).mono ?_
   rintro e w_ ⟨rfl, rfl⟩
   clear d0_0
   go_wp2_with fail
   go_meet
   exact ⟨rfl, HS.out⟩
  ·have hn0 := HNN.out rfl
   have hn : (n != 0) = false := by rw [hn0]; rfl
   clear hn0
   obtain ⟨d0_0, d0_1, d0_2, d0_3, d0_4, d0_5, d0_6, d0_7, d0_8, d0_9, d0_10⟩ := (HS.out.at 0 rfl).all11
   go_wp2_with fail
   refine (cV _ (HS.out.tabs HT.out)).mono ?_
   rintro e w1 ⟨rfl, b1⟩
   replace HS := Lib.hid (HS.out.call b1)
   clear d0_0 d0_1 d0_2 d0_3 d0_4 d0_5 d0_6 d0_7 d0_8 d0_9 d0_10 b1
   obtain ⟨d1_0, d1_1, d1_2⟩ := (HS.out.at 1 rfl).all3
   go_wp2_with fail
   refine (cK _ (HS.out.tabs HT.out)).mono ?_
   rintro e w2 ⟨rfl, b1⟩
   replace HS := Lib.hid (HS.out.call b1)
   clear d1_0 d1_1 d1_2 b1
   go_wp2_with fail
   refine (cW _).mono ?_
   rintro e w_ ⟨rfl, rfl⟩
   have d0_0 := (HS.out.at 0 rfl).cell 0 rfl
   go_wp2_with fail
   refine (cH _).mono ?_
   rintro e w_ ⟨rfl, rfl⟩
   clear d0_0
   go_wp2_with fail
   go_meet
   exact ⟨rfl, HS.out⟩
 case rest =>
  clear HS
  obtain ⟨rfl, hS⟩ := hcut
  have HS := Lib.hid hS
  clear hS
  go_upto_region 3 with fail
  refine wp_region_held_drew (S := KD w _) (by kernel_rfl) HS.out.drew1 (fun hHeld => ?_)
  clear HS
  generalize World.drew wc = x at *
  refine tk (v := ?_) 1 hHeld ?_ ?_
  rotate_left
  focus (intro w hSw; obtain ⟨c0, c1, c2⟩ := (hSw.at 1 rfl).all3; clear hSw; go_simp; (try with_reducible rfl))
  (try simp only [fl])
  refine wpAnyH_ready (rs := [0]) (by kernel_rfl) (by simp) ?_
  refine AllReadyH.cons rfl (fun K hK => ?_) AllReadyH.nil
  go_simp
  refine (cO1 _ (hHeld.tabs HT.out)).mono ?_
  rintro e y ⟨rfl, un⟩
  replace hHeld := hHeld.call un
  clear un
  refine hK.out _ _ hHeld (fun hX => ?_)
  clear hK K hX
  (try simp only [fl])
  (try clear x)
  rename World => x
  refine wpAnyH_ready (rs := [2]) (by kernel_rfl) (by simp) ?_
  refine AllReadyH.cons rfl (fun K hK => ?_) AllReadyH.nil
  go_simp
  refine (cI1 _ (hHeld.tabs HT.out)).mono ?_
  rintro e y ⟨rfl, un⟩
  replace hHeld := hHeld.call un
  clear un
  refine hK.out _ _ hHeld (fun hX => ?_)
  clear hK K hX
  (try simp only [fl])
  (try clear x)
  rename World => x
  refine tk (v := ?_) 3 hHeld ?_ ?_
  rotate_left
  focus (intro w hSw; clear hSw; go_simp; (try with_reducible rfl))
  (try simp only [fl])
  refine tk (v := ?_) 4 hHeld ?_ ?_
  rotate_left
  focus (intro w hSw; clear hSw; go_simp; (try with_reducible rfl))
  (try simp only [fl])
  refine tk (v := ?_) 5 hHeld ?_ ?_
  rotate_left
  focus (intro w hSw; obtain ⟨c0, c1, c2⟩ := (hSw.at 1 rfl).all3; clear hSw; go_simp; (try with_reducible rfl))
  (try simp only [fl])
  refine wpAnyH_ready (rs := [6]) (by kernel_rfl) (by simp) ?_
  refine AllReadyH.cons rfl (fun K hK => ?_) AllReadyH.nil
  go_simp
  refine (cO2 _ (hHeld.tabs HT.out)).mono ?_
  rintro e y ⟨rfl, un⟩
  replace hHeld := hHeld.call un
  clear un
  refine hK.out _ _ hHeld (fun hX => ?_)
  clear hK K hX
  (try simp only [fl])
  (try clear x)
  rename World => x
  refine wpAnyH_ready (rs := [7]) (by kernel_rfl) (by simp) ?_
  refine AllReadyH.cons rfl (fun K hK => ?_) AllReadyH.nil
  go_simp
  refine (cI2 _ (hHeld.tabs HT.out)).mono ?_
  rintro e y ⟨rfl, un⟩
  replace hHeld := hHeld.call un
  clear un
  refine hK.out _ _ hHeld (fun hX => ?_)
  clear hK K hX
  (try simp only [fl])
  (try clear x)
  rename World => x
  refine tk (v := ?_) 8 hHeld ?_ ?_
  rotate_left
  focus (intro w hSw; clear hSw; go_simp; (try with_reducible rfl))
  (try simp only [fl])
  refine tk (v := ?_) 9 hHeld ?_ ?_
  rotate_left
  focus (intro w hSw; clear hSw; go_simp; (try with_reducible rfl))
  (try simp only [fl])
  refine wpAnyH_done (by kernel_rfl) ?_ _
  have HS := Lib.hid hHeld
  clear hHeld
  have HX := Lib.hid hX
  clear hX
  have d0_0 := (HS.out.at 0 rfl).cell 0 rfl
  go_wp2_with fail
  refine (cH _).mono ?_
  rintro e w_ ⟨rfl, rfl⟩
  clear d0_0
  go_upto_if 47 with fail
  go_cut [] (fun wx => KD w (lmd w X s) wx)
  case first =>
   cases bd
   ·obtain rfl := HX.out rfl
    go_wp2_with fail
    go_meet
    exact HS.out
   have cN2 := cN rfl
   clear cN
   obtain ⟨d0_0, d0_1, d0_2, d0_3, d0_4, d0_5, d0_6, d0_7, d0_8, d0_9, d0_10⟩ := (HS.out.at 0 rfl).all11
   go_wp2_with fail
   refine (cN2 _ (HS.out.tabs HT.out)).mono ?_
   rintro e w1 ⟨rfl, b1⟩
   replace HS := Lib.hid (HS.out.call b1)
   clear d0_0 d0_1 d0_2 d0_3 d0_4 d0_5 d0_6 d0_7 d0_8 d0_9 d0_10 b1
   obtain ⟨d0_0, d0_1, d0_2, d0_3, d0_4, d0_5, d0_6, d0_7, d0_8, d0_9, d0_10⟩ := (HS.out.at 0 rfl).all11
   obtain ⟨z0_0, z0_1, z0_2, z0_3, z0_4, z0_5, z0_6, z0_7, z0_8, z0_9, z0_10⟩ := (HS.out.at 0 rfl).free11
   go_wp2_with fail
   go_meet
   exact HS.out.store 0 rfl [.int .i64 X.k, .int .i64 X.y, .int .i64 X.mo, .int .i64 X.d, .int .i64 X.h, .int .i64 X.mi, .bool X.sec.neg, .string X.sec.ds, .int .i64 X.sec.sc, .bool X.zd, .int .i64 X.z] rfl
  case rest =>
   clear HS
   have HS := Lib.hid hcut
   clear hcut
   obtain ⟨d0_0, d0_1, d0_2, d0_3, d0_4, d0_5, d0_6, d0_7, d0_8, d0_9, d0_10⟩ := (HS.out.at 0 rfl).all11
   go_wp2_with fail
   refine (cY _ (HS.out.tabs HT.out)).mono ?_
   rintro e w1 ⟨rfl, b1⟩
   replace HS := Lib.hid (HS.out.call b1)
   clear d0_0 d0_1 d0_2 d0_3 d0_4 d0_5 d0_6 d0_7 d0_8 d0_9 d0_10 b1
   have HR1 := Lib.hid hr1
   have HR2 := Lib.hid hr2
   have HR3 := Lib.hid hr3
   have HQ := Lib.hid hq
   clear hr1 hr2 hr3 hq
   cases ok
   ·obtain rfl := HR1.out rfl
    obtain ⟨d2_0, d2_1, d2_2, d2_3, d2_4, d2_5, d2_6, d2_7, d2_8, d2_9, d2_10⟩ := (HS.out.at 2 rfl).all11
    obtain ⟨z2_0, z2_1, z2_2, z2_3, z2_4, z2_5, z2_6, z2_7, z2_8, z2_9, z2_10⟩ := (HS.out.at 2 rfl).free11
    go_wp2
    replace HS := Lib.hid (HS.out.store 2 rfl [.int .i64 0, .int .i64 0, .int .i64 0, .int .i64 0, .int .i64 0, .int .i64 0, .bool false, .string ⟨#[]⟩, .int .i64 0, .bool false, .int .i64 0] rfl)
    obtain ⟨r0, r1, r2, r3, r4, r5, r6, r7, r8, r9, r10⟩ := (HS.out.at 2 rfl).all11
    simp only [setL, Nat.reduceAdd] at r0 r1 r2 r3 r4 r5 r6 r7 r8 r9 r10
    refine bodyPost_ret (v := _) ?_ rfl ⟨rfl, HS.out.old⟩
    simp [results, Tryz.results23, go_sem, r0, r1, r2, r3, r4, r5, r6, r7, r8, r9, r10, momNil, decNil]
   have cL2 := cL rfl
   have cP2 := cP rfl
   have cT2 := cT rfl
   have cM2 := cM rfl
   clear cL cP cT cM
   have HR2b := Lib.hid (HR2.out rfl)
   have HR3b := Lib.hid (HR3.out rfl)
   clear HR1 HR2 HR3
   go_upto_region 9 with fail
   go_cut [8, 9] (fun s8 s9 wx => ∃ g, s8 = .pointer (some ⟨g, 0, none⟩) ∧ s9 = .int .i64 er ∧ KD w (lmd w X s) wx ∧ HasL wx g [.int .i64 Q.k, .int .i64 Q.y, .int .i64 Q.mo, .int .i64 Q.d, .int .i64 Q.h, .int .i64 Q.mi, .bool Q.sec.neg, .string Q.sec.ds, .int .i64 Q.sec.sc, .bool Q.zd, .int .i64 Q.z] ∧ Own w (lmd w X s) g)
   case first =>
    refine wp_region_held_drew (S := KD w (lmd w X s)) (by kernel_rfl) HS.out.drew1 (fun hHeld => ?_)
    clear HS
    generalize World.drew w1 = x at *
    show wpAnyH _ _ _ _ _ _ #[false, false, false, false, false, false, false, false, false, false, false, false, false, false] _ _
    refine tk (v := ?_) 0 hHeld ?_ ?_
    rotate_left
    focus (intro w hSw; clear hSw; go_simp; (try with_reducible rfl))
    (try simp only [fl])
    refine tk (v := ?_) 1 hHeld ?_ ?_
    rotate_left
    focus (intro w hSw; have c0 := (hSw.at 0 rfl).cell 0 rfl; clear hSw; go_simp; (try with_reducible rfl))
    (try simp only [fl])
    refine tk (v := ?_) 2 hHeld ?_ ?_
    rotate_left
    focus (intro w hSw; obtain ⟨c0, c1, c2, c3, c4, c5, c6, c7, c8, c9, c10⟩ := (hSw.at 0 rfl).all11; clear hSw; go_simp; (try with_reducible rfl))
    (try simp only [fl])
    refine tk (v := ?_) 4 hHeld ?_ ?_
    rotate_left
    focus (intro w hSw; obtain ⟨c0, c1, c2⟩ := (hSw.at 1 rfl).all3; clear hSw; go_simp; (try with_reducible rfl))
    (try simp only [fl])
    refine' tail1 (fun x gG => KD w (lmd w X s) x ∧ HasL x gG [.int .i64 Q.k, .int .i64 Q.y, .int .i64 Q.mo, .int .i64 Q.d, .int .i64 Q.h, .int .i64 Q.mi, .bool Q.sec.neg, .string Q.sec.ds, .int .i64 Q.sec.sc, .bool Q.zd, .int .i64 Q.z] ∧ Own w (lmd w X s) gG) _ (fun t0 => _) _
    rotate_left
    refine' tail1 (fun x gG => KD w (lmd w X s) x ∧ HasL x gG [.int .i64 0, .int .i64 0, .int .i64 0, .int .i64 0, .int .i64 0, .int .i64 0, .bool false, .string ⟨#[]⟩, .int .i64 0, .bool false, .int .i64 0] ∧ Own w (lmd w X s) gG) _ (fun t1 => _) _
    rotate_left
    refine' tail0 (fun x  => KD w (lmd w X s) x) _ (fun t2 => _) _
    rotate_left
    refine' tail1 (fun x gG => KD w (lmd w X s) x ∧ HasL x gG [.int .i64 0, .int .i64 0, .int .i64 0, .int .i64 0, .int .i64 0, .int .i64 0, .bool false, .string ⟨#[]⟩, .int .i64 0, .bool false, .int .i64 0] ∧ Own w (lmd w X s) gG) _ (fun t3 => _) _
    rotate_left
    refine' tail0 (fun x  => KD w (lmd w X s) x) _ (fun t4 => _) _
    rotate_left
    refine' tail1 (fun x gG => KD w (lmd w X s) x ∧ HasL x gG [.int .i64 0, .int .i64 0, .int .i64 0, .int .i64 0, .int .i64 0, .int .i64 0, .bool false, .string ⟨#[]⟩, .int .i64 0, .bool false, .int .i64 0] ∧ Own w (lmd w X s) gG) _ (fun t5 => _) _
    rotate_left
    refine' tail0 (fun x  => KD w (lmd w X s) x) _ (fun t6 => _) _
    rotate_left
    refine' tail1 (fun x gG => KD w (lmd w X s) x ∧ HasL x gG [.int .i64 0, .int .i64 0, .int .i64 0, .int .i64 0, .int .i64 0, .int .i64 0, .bool false, .string ⟨#[]⟩, .int .i64 0, .bool false, .int .i64 0] ∧ Own w (lmd w X s) gG) _ (fun t7 => _) _
    rotate_left
    refine' tail0 (fun x  => KD w (lmd w X s) x) _ (fun t8 => _) _
    rotate_left
    refine' tail1 (fun x gG => KD w (lmd w X s) x ∧ HasL x gG [.int .i64 0, .int .i64 0, .int .i64 0, .int .i64 0, .int .i64 0, .int .i64 0, .bool false, .string ⟨#[]⟩, .int .i64 0, .bool false, .int .i64 0] ∧ Own w (lmd w X s) gG) _ (fun t9 => _) _
    rotate_left
    ·refine wpAnyH_ready (rs := [3, 11]) (by kernel_rfl) (by simp) ?_
     refine AllReadyH.cons rfl (fun K hK => ?_) ?_
     ·go_simp
      refine (cL2 _ (hHeld.tabs HT.out)).mono ?_
      rintro e y ⟨rfl, un⟩
      replace hHeld := hHeld.call un
      (try replace HG := Lib.hid (HG.out.call un))
      clear un
      refine hK.out _ _ hHeld (fun hX => ?_)
      clear hK K hX
      (try simp only [fl])
      (try clear x)
      rename World => x
      exact t8 x hHeld
     refine AllReadyH.cons rfl (fun K hK => ?_) AllReadyH.nil
     go_simp
     refine hK.out _ (x.alloc (.cells #[.int .i64 0, .int .i64 0, .int .i64 0, .int .i64 0, .int .i64 0, .int .i64 0, .bool false, .string ⟨#[]⟩, .int .i64 0, .bool false, .int .i64 0] 25)) (hHeld.alloc _) (fun hX => ?_)
     clear hK K hX
     (try simp only [fl])
     have gm_G := Lib.hid hHeld.fresh
     replace hHeld := hHeld.alloc (.cells #[.int .i64 0, .int .i64 0, .int .i64 0, .int .i64 0, .int .i64 0, .int .i64 0, .bool false, .string ⟨#[]⟩, .int .i64 0, .bool false, .int .i64 0] 25)
     have HG := Lib.hid (HasL.new x [.int .i64 0, .int .i64 0, .int .i64 0, .int .i64 0, .int .i64 0, .int .i64 0, .bool false, .string ⟨#[]⟩, .int .i64 0, .bool false, .int .i64 0] 25)
     generalize hyy : x.alloc (.cells #[.int .i64 0, .int .i64 0, .int .i64 0, .int .i64 0, .int .i64 0, .int .i64 0, .bool false, .string ⟨#[]⟩, .int .i64 0, .bool false, .int .i64 0] 25) = y at *
     clear hyy
     generalize hgg : x.heap.size = gG at *
     clear hgg
     (try clear x)
     rename World => x
     exact t9 x gG ⟨hHeld, HG.out, gm_G.out⟩
    ·rintro x gG ⟨hHeld, hG, oG⟩
     have HG := Lib.hid hG
     have gm_G := Lib.hid oG
     clear hG oG
     refine wpAnyH_ready (rs := [3]) (by kernel_rfl) (by simp) ?_
     refine AllReadyH.cons rfl (fun K hK => ?_) AllReadyH.nil
     go_simp
     refine (cL2 _ (hHeld.tabs HT.out)).mono ?_
     rintro e y ⟨rfl, un⟩
     replace hHeld := hHeld.call un
     (try replace HG := Lib.hid (HG.out.call un))
     clear un
     refine hK.out _ _ hHeld (fun hX => ?_)
     clear hK K hX
     (try simp only [fl])
     (try clear x)
     rename World => x
     exact t7 x gG ⟨hHeld, HG.out, gm_G.out⟩
    ·rintro x hHeld
     refine wpAnyH_ready (rs := [5, 11]) (by kernel_rfl) (by simp) ?_
     refine AllReadyH.cons rfl (fun K hK => ?_) ?_
     ·go_simp
      refine (cP2 _ (hHeld.tabs HT.out)).mono ?_
      rintro e y ⟨rfl, un⟩
      replace hHeld := hHeld.call un
      (try replace HG := Lib.hid (HG.out.call un))
      clear un
      refine hK.out _ _ hHeld (fun hX => ?_)
      clear hK K hX
      (try simp only [fl])
      (try clear x)
      rename World => x
      exact t6 x hHeld
     refine AllReadyH.cons rfl (fun K hK => ?_) AllReadyH.nil
     go_simp
     refine hK.out _ (x.alloc (.cells #[.int .i64 0, .int .i64 0, .int .i64 0, .int .i64 0, .int .i64 0, .int .i64 0, .bool false, .string ⟨#[]⟩, .int .i64 0, .bool false, .int .i64 0] 25)) (hHeld.alloc _) (fun hX => ?_)
     clear hK K hX
     (try simp only [fl])
     have gm_G := Lib.hid hHeld.fresh
     replace hHeld := hHeld.alloc (.cells #[.int .i64 0, .int .i64 0, .int .i64 0, .int .i64 0, .int .i64 0, .int .i64 0, .bool false, .string ⟨#[]⟩, .int .i64 0, .bool false, .int .i64 0] 25)
     have HG := Lib.hid (HasL.new x [.int .i64 0, .int .i64 0, .int .i64 0, .int .i64 0, .int .i64 0, .int .i64 0, .bool false, .string ⟨#[]⟩, .int .i64 0, .bool false, .int .i64 0] 25)
     generalize hyy : x.alloc (.cells #[.int .i64 0, .int .i64 0, .int .i64 0, .int .i64 0, .int .i64 0, .int .i64 0, .bool false, .string ⟨#[]⟩, .int .i64 0, .bool false, .int .i64 0] 25) = y at *
     clear hyy
     generalize hgg : x.heap.size = gG at *
     clear hgg
     (try clear x)
     rename World => x
     exact t7 x gG ⟨hHeld, HG.out, gm_G.out⟩
    ·rintro x gG ⟨hHeld, hG, oG⟩
     have HG := Lib.hid hG
     have gm_G := Lib.hid oG
     clear hG oG
     refine wpAnyH_ready (rs := [5]) (by kernel_rfl) (by simp) ?_
     refine AllReadyH.cons rfl (fun K hK => ?_) AllReadyH.nil
     go_simp
     refine (cP2 _ (hHeld.tabs HT.out)).mono ?_
     rintro e y ⟨rfl, un⟩
     replace hHeld := hHeld.call un
     (try replace HG := Lib.hid (HG.out.call un))
     clear un
     refine hK.out _ _ hHeld (fun hX => ?_)
     clear hK K hX
     (try simp only [fl])
     (try clear x)
     rename World => x
     exact t5 x gG ⟨hHeld, HG.out, gm_G.out⟩
    ·rintro x hHeld
     refine wpAnyH_ready (rs := [6, 11]) (by kernel_rfl) (by simp) ?_
     refine AllReadyH.cons rfl (fun K hK => ?_) ?_
     ·go_simp
      refine (cT2 _ (hHeld.tabs HT.out)).mono ?_
      rintro e y ⟨rfl, un⟩
      replace hHeld := hHeld.call un
      (try replace HG := Lib.hid (HG.out.call un))
      clear un
      refine hK.out _ _ hHeld (fun hX => ?_)
      clear hK K hX
      (try simp only [fl])
      (try clear x)
      rename World => x
      exact t4 x hHeld
     refine AllReadyH.cons rfl (fun K hK => ?_) AllReadyH.nil
     go_simp
     refine hK.out _ (x.alloc (.cells #[.int .i64 0, .int .i64 0, .int .i64 0, .int .i64 0, .int .i64 0, .int .i64 0, .bool false, .string ⟨#[]⟩, .int .i64 0, .bool false, .int .i64 0] 25)) (hHeld.alloc _) (fun hX => ?_)
     clear hK K hX
     (try simp only [fl])
     have gm_G := Lib.hid hHeld.fresh
     replace hHeld := hHeld.alloc (.cells #[.int .i64 0, .int .i64 0, .int .i64 0, .int .i64 0, .int .i64 0, .int .i64 0, .bool false, .string ⟨#[]⟩, .int .i64 0, .bool false, .int .i64 0] 25)
     have HG := Lib.hid (HasL.new x [.int .i64 0, .int .i64 0, .int .i64 0, .int .i64 0, .int .i64 0, .int .i64 0, .bool false, .string ⟨#[]⟩, .int .i64 0, .bool false, .int .i64 0] 25)
     generalize hyy : x.alloc (.cells #[.int .i64 0, .int .i64 0, .int .i64 0, .int .i64 0, .int .i64 0, .int .i64 0, .bool false, .string ⟨#[]⟩, .int .i64 0, .bool false, .int .i64 0] 25) = y at *
     clear hyy
     generalize hgg : x.heap.size = gG at *
     clear hgg
     (try clear x)
     rename World => x
     exact t5 x gG ⟨hHeld, HG.out, gm_G.out⟩
    ·rintro x gG ⟨hHeld, hG, oG⟩
     have HG := Lib.hid hG
     have gm_G := Lib.hid oG
     clear hG oG
     refine wpAnyH_ready (rs := [6]) (by kernel_rfl) (by simp) ?_
     refine AllReadyH.cons rfl (fun K hK => ?_) AllReadyH.nil
     go_simp
     refine (cT2 _ (hHeld.tabs HT.out)).mono ?_
     rintro e y ⟨rfl, un⟩
     replace hHeld := hHeld.call un
     (try replace HG := Lib.hid (HG.out.call un))
     clear un
     refine hK.out _ _ hHeld (fun hX => ?_)
     clear hK K hX
     (try simp only [fl])
     (try clear x)
     rename World => x
     exact t3 x gG ⟨hHeld, HG.out, gm_G.out⟩
    ·rintro x hHeld
     refine wpAnyH_ready (rs := [7, 11]) (by kernel_rfl) (by simp) ?_
     refine AllReadyH.cons rfl (fun K hK => ?_) ?_
     ·go_simp
      refine (cM2 _ (hHeld.tabs HT.out)).mono ?_
      rintro e y ⟨rfl, un⟩
      replace hHeld := hHeld.call un
      (try replace HG := Lib.hid (HG.out.call un))
      clear un
      refine hK.out _ _ hHeld (fun hX => ?_)
      clear hK K hX
      (try simp only [fl])
      (try clear x)
      rename World => x
      refine tk (v := ?_) 8 hHeld ?_ ?_
      rotate_left
      focus (intro w hSw; clear hSw; go_simp; (try with_reducible rfl))
      (try simp only [fl])
      refine tk (v := ?_) 9 hHeld ?_ ?_
      rotate_left
      focus (intro w hSw; clear hSw; go_simp; (try with_reducible rfl))
      (try simp only [fl])
      refine tk (v := ?_) 10 hHeld ?_ ?_
      rotate_left
      focus (intro w hSw; clear hSw; go_simp; (try with_reducible rfl))
      (try simp only [fl])
      exact t2 x hHeld
     refine AllReadyH.cons rfl (fun K hK => ?_) AllReadyH.nil
     go_simp
     refine hK.out _ (x.alloc (.cells #[.int .i64 0, .int .i64 0, .int .i64 0, .int .i64 0, .int .i64 0, .int .i64 0, .bool false, .string ⟨#[]⟩, .int .i64 0, .bool false, .int .i64 0] 25)) (hHeld.alloc _) (fun hX => ?_)
     clear hK K hX
     (try simp only [fl])
     have gm_G := Lib.hid hHeld.fresh
     replace hHeld := hHeld.alloc (.cells #[.int .i64 0, .int .i64 0, .int .i64 0, .int .i64 0, .int .i64 0, .int .i64 0, .bool false, .string ⟨#[]⟩, .int .i64 0, .bool false, .int .i64 0] 25)
     have HG := Lib.hid (HasL.new x [.int .i64 0, .int .i64 0, .int .i64 0, .int .i64 0, .int .i64 0, .int .i64 0, .bool false, .string ⟨#[]⟩, .int .i64 0, .bool false, .int .i64 0] 25)
     generalize hyy : x.alloc (.cells #[.int .i64 0, .int .i64 0, .int .i64 0, .int .i64 0, .int .i64 0, .int .i64 0, .bool false, .string ⟨#[]⟩, .int .i64 0, .bool false, .int .i64 0] 25) = y at *
     clear hyy
     generalize hgg : x.heap.size = gG at *
     clear hgg
     (try clear x)
     rename World => x
     exact t3 x gG ⟨hHeld, HG.out, gm_G.out⟩
    ·rintro x gG ⟨hHeld, hG, oG⟩
     have HG := Lib.hid hG
     have gm_G := Lib.hid oG
     clear hG oG
     refine wpAnyH_ready (rs := [7]) (by kernel_rfl) (by simp) ?_
     refine AllReadyH.cons rfl (fun K hK => ?_) AllReadyH.nil
     go_simp
     refine (cM2 _ (hHeld.tabs HT.out)).mono ?_
     rintro e y ⟨rfl, un⟩
     replace hHeld := hHeld.call un
     (try replace HG := Lib.hid (HG.out.call un))
     clear un
     refine hK.out _ _ hHeld (fun hX => ?_)
     clear hK K hX
     (try simp only [fl])
     (try clear x)
     rename World => x
     refine tk (v := ?_) 8 hHeld ?_ ?_
     rotate_left
     focus (intro w hSw; clear hSw; go_simp; (try with_reducible rfl))
     (try simp only [fl])
     refine tk (v := ?_) 9 hHeld ?_ ?_
     rotate_left
     focus (intro w hSw; clear hSw; go_simp; (try with_reducible rfl))
     (try simp only [fl])
     refine tk (v := ?_) 10 hHeld ?_ ?_
     rotate_left
     focus (intro w hSw; clear hSw; go_simp; (try with_reducible rfl))
     (try simp only [fl])
     exact t1 x gG ⟨hHeld, HG.out, gm_G.out⟩
    ·rintro x hHeld
     refine wpAnyH_ready (rs := [11]) (by kernel_rfl) (by simp) ?_
     refine AllReadyH.cons rfl (fun K hK => ?_) AllReadyH.nil
     go_simp
     refine hK.out _ (x.alloc (.cells #[.int .i64 0, .int .i64 0, .int .i64 0, .int .i64 0, .int .i64 0, .int .i64 0, .bool false, .string ⟨#[]⟩, .int .i64 0, .bool false, .int .i64 0] 25)) (hHeld.alloc _) (fun hX => ?_)
     clear hK K hX
     (try simp only [fl])
     have gm_G := Lib.hid hHeld.fresh
     replace hHeld := hHeld.alloc (.cells #[.int .i64 0, .int .i64 0, .int .i64 0, .int .i64 0, .int .i64 0, .int .i64 0, .bool false, .string ⟨#[]⟩, .int .i64 0, .bool false, .int .i64 0] 25)
     have HG := Lib.hid (HasL.new x [.int .i64 0, .int .i64 0, .int .i64 0, .int .i64 0, .int .i64 0, .int .i64 0, .bool false, .string ⟨#[]⟩, .int .i64 0, .bool false, .int .i64 0] 25)
     generalize hyy : x.alloc (.cells #[.int .i64 0, .int .i64 0, .int .i64 0, .int .i64 0, .int .i64 0, .int .i64 0, .bool false, .string ⟨#[]⟩, .int .i64 0, .bool false, .int .i64 0] 25) = y at *
     clear hyy
     generalize hgg : x.heap.size = gG at *
     clear hgg
     (try clear x)
     rename World => x
     exact t1 x gG ⟨hHeld, HG.out, gm_G.out⟩
    ·rintro x gG ⟨hHeld, hG, oG⟩
     have HG := Lib.hid hG
     have gm_G := Lib.hid oG
     clear hG oG
     refine wpAnyH_ready (rs := [12]) (by kernel_rfl) (by simp) ?_
     refine AllReadyH.cons rfl (fun K hK => ?_) AllReadyH.nil
     obtain ⟨y0, y1, y2, y3, y4, y5, y6, y7, y8, y9, y10⟩ := HG.out.all11
     obtain ⟨z0, z1, z2, z3, z4, z5, z6, z7, z8, z9, z10⟩ := HG.out.free11
     go_simp
     refine hK.out _ (setL x gG 0 [.int .i64 Q.k, .int .i64 Q.y, .int .i64 Q.mo, .int .i64 Q.d, .int .i64 Q.h, .int .i64 Q.mi, .bool Q.sec.neg, .string Q.sec.ds, .int .i64 Q.sec.sc, .bool Q.zd, .int .i64 Q.z]) (hHeld.far gm_G.out _ _) (fun hX => ?_)
     clear hK K hX
     (try simp only [fl])
     clear y0 z0 y1 z1 y2 z2 y3 z3 y4 z4 y5 z5 y6 z6 y7 z7 y8 z8 y9 z9 y10 z10
     replace HG := Lib.hid (HG.out.setL [.int .i64 Q.k, .int .i64 Q.y, .int .i64 Q.mo, .int .i64 Q.d, .int .i64 Q.h, .int .i64 Q.mi, .bool Q.sec.neg, .string Q.sec.ds, .int .i64 Q.sec.sc, .bool Q.zd, .int .i64 Q.z] rfl)
     replace hHeld := hHeld.far gm_G.out 0 [.int .i64 Q.k, .int .i64 Q.y, .int .i64 Q.mo, .int .i64 Q.d, .int .i64 Q.h, .int .i64 Q.mi, .bool Q.sec.neg, .string Q.sec.ds, .int .i64 Q.sec.sc, .bool Q.zd, .int .i64 Q.z]
     generalize hyy : setL x gG 0 [.int .i64 Q.k, .int .i64 Q.y, .int .i64 Q.mo, .int .i64 Q.d, .int .i64 Q.h, .int .i64 Q.mi, .bool Q.sec.neg, .string Q.sec.ds, .int .i64 Q.sec.sc, .bool Q.zd, .int .i64 Q.z] = y at *
     clear hyy
     (try clear x)
     rename World => x
     refine tk (v := ?_) 13 hHeld ?_ ?_
     rotate_left
     focus (intro w hSw; clear hSw; go_simp; (try with_reducible rfl))
     (try simp only [fl])
     exact t0 x gG ⟨hHeld, HG.out, gm_G.out⟩
    ·rintro x gG ⟨hHeld, hG, oG⟩
     have HG := Lib.hid hG
     have gm_G := Lib.hid oG
     clear hG oG
     refine wpAnyH_done (by kernel_rfl) ?_ _
     have HS := Lib.hid hHeld
     clear hHeld
     go_wp2_with fail
     go_meet
     exact ⟨gG, rfl, rfl, HS.out, HG.out, gm_G.out⟩
   case rest =>
    clear HS
    obtain ⟨gG, rfl, rfl, hS, hG, oG⟩ := hcut
    have HS := Lib.hid hS
    have HG := Lib.hid hG
    have gm_G := Lib.hid oG
    clear hS hG oG
    have hq := HQ.out
    cases q
    ·obtain rfl := HR3b.out rfl
     replace HS := Lib.hid (HS.out.end1 HG.out gm_G.out)
     clear HR2b HR3b HQ
     obtain ⟨d3_0, d3_1, d3_2, d3_3, d3_4, d3_5, d3_6, d3_7, d3_8, d3_9, d3_10⟩ := (HS.out.at 3 rfl).all11
     obtain ⟨d2_0, d2_1, d2_2, d2_3, d2_4, d2_5, d2_6, d2_7, d2_8, d2_9, d2_10⟩ := (HS.out.at 2 rfl).all11
     obtain ⟨z2_0, z2_1, z2_2, z2_3, z2_4, z2_5, z2_6, z2_7, z2_8, z2_9, z2_10⟩ := (HS.out.at 2 rfl).free11
     go_wp2
     replace HS := Lib.hid (HS.out.store 2 rfl [.int .i64 Q.k, .int .i64 Q.y, .int .i64 Q.mo, .int .i64 Q.d, .int .i64 Q.h, .int .i64 Q.mi, .bool Q.sec.neg, .string Q.sec.ds, .int .i64 Q.sec.sc, .bool Q.zd, .int .i64 Q.z] rfl)
     obtain ⟨r0, r1, r2, r3, r4, r5, r6, r7, r8, r9, r10⟩ := (HS.out.at 2 rfl).all11
     simp only [setL, Nat.reduceAdd] at r0 r1 r2 r3 r4 r5 r6 r7 r8 r9 r10
     refine bodyPost_ret (v := _) ?_ rfl ⟨rfl, HS.out.old⟩
     simp [results, Tryz.results23, go_sem, r0, r1, r2, r3, r4, r5, r6, r7, r8, r9, r10]
    ·obtain rfl := HR2b.out rfl
     clear HR2b HR3b HQ
     go_upto_region 11 with fail
     refine wp_region_held_drew (S := KD w _) (by kernel_rfl) HS.out.drew1 (fun hHeld => ?_)
     clear HS
     replace HG := Lib.hid HG.out.drew1
     generalize World.drew wc = x at *
     refine tk (v := ?_) 0 hHeld ?_ ?_
     rotate_left
     focus (intro w hSw; clear hSw; go_simp; (try with_reducible rfl))
     (try simp only [fl])
     refine tk (v := ?_) 1 hHeld ?_ ?_
     rotate_left
     focus (intro w hSw; have c9 := (hSw.at 0 rfl).cell 9 rfl; clear hSw; go_simp; (try with_reducible rfl))
     (try simp only [fl])
     refine tk (v := ?_) 2 hHeld ?_ ?_
     rotate_left
     focus (intro w hSw; clear hSw; go_simp; (try with_reducible rfl))
     (try simp only [fl])
     refine tk (v := ?_) 3 hHeld ?_ ?_
     rotate_left
     focus (intro w hSw; have c10 := (hSw.at 0 rfl).cell 10 rfl; clear hSw; go_simp; (try with_reducible rfl))
     (try simp only [fl])
     refine tk (v := ?_) 4 hHeld ?_ ?_
     rotate_left
     focus (intro w hSw; clear hSw; go_simp; (try with_reducible rfl))
     (try simp only [fl])
     refine wpAnyH_ready (rs := [5]) (by kernel_rfl) (by simp) ?_
     refine AllReadyH.cons rfl (fun K hK => ?_) AllReadyH.nil
     have y9 := HG.out.cell 9 rfl
     have z9 := HG.out.frozen 9 rfl
     go_simp
     refine hK.out _ (setL x gG 9 [.bool X.zd]) (hHeld.far gm_G.out _ _) (fun hX => ?_)
     clear hK K hX
     (try simp only [fl])
     clear y9 z9
     replace HG := Lib.hid (HG.out.setOne 9 (.bool X.zd) (by simp))
     replace hHeld := hHeld.far gm_G.out 9 [.bool X.zd]
     generalize hyy : setL x gG 9 [.bool X.zd] = y at *
     clear hyy
     (try clear x)
     rename World => x
     refine tk (v := ?_) 6 hHeld ?_ ?_
     rotate_left
     focus (intro w hSw; clear hSw; go_simp; (try with_reducible rfl))
     (try simp only [fl])
     refine wpAnyH_ready (rs := [7]) (by kernel_rfl) (by simp) ?_
     refine AllReadyH.cons rfl (fun K hK => ?_) AllReadyH.nil
     have y10 := HG.out.cell 10 rfl
     have z10 := HG.out.frozen 10 rfl
     go_simp
     refine hK.out _ (setL x gG 10 [.int .i64 X.z]) (hHeld.far gm_G.out _ _) (fun hX => ?_)
     clear hK K hX
     (try simp only [fl])
     clear y10 z10
     replace HG := Lib.hid (HG.out.setOne 10 (.int .i64 X.z) (by simp))
     replace hHeld := hHeld.far gm_G.out 10 [.int .i64 X.z]
     generalize hyy : setL x gG 10 [.int .i64 X.z] = y at *
     clear hyy
     (try clear x)
     rename World => x
     refine wpAnyH_done (by kernel_rfl) ?_ _
     have HS := Lib.hid hHeld
     clear hHeld
     replace HS := Lib.hid (HS.out.end1 HG.out gm_G.out)
     clear HG
     obtain ⟨d3_0, d3_1, d3_2, d3_3, d3_4, d3_5, d3_6, d3_7, d3_8, d3_9, d3_10⟩ := (HS.out.at 3 rfl).all11
     obtain ⟨d2_0, d2_1, d2_2, d2_3, d2_4, d2_5, d2_6, d2_7, d2_8, d2_9, d2_10⟩ := (HS.out.at 2 rfl).all11
     obtain ⟨z2_0, z2_1, z2_2, z2_3, z2_4, z2_5, z2_6, z2_7, z2_8, z2_9, z2_10⟩ := (HS.out.at 2 rfl).free11
     go_wp2
     replace HS := Lib.hid (HS.out.store 2 rfl [.int .i64 Q.k, .int .i64 Q.y, .int .i64 Q.mo, .int .i64 Q.d, .int .i64 Q.h, .int .i64 Q.mi, .bool Q.sec.neg, .string Q.sec.ds, .int .i64 Q.sec.sc, .bool X.zd, .int .i64 X.z] rfl)
     obtain ⟨r0, r1, r2, r3, r4, r5, r6, r7, r8, r9, r10⟩ := (HS.out.at 2 rfl).all11
     simp only [setL, Nat.reduceAdd] at r0 r1 r2 r3 r4 r5 r6 r7 r8 r9 r10
     refine bodyPost_ret (v := _) ?_ rfl ⟨rfl, HS.out.old⟩
     simp [results, Tryz.results23, go_sem, r0, r1, r2, r3, r4, r5, r6, r7, r8, r9, r10]
end Go.Proofs.YtmdnijehoagamaaGreatDoor
