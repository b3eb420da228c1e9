/- NV -/
import Derived.Test.YtmdnijehoagamaaGreatDoorK26
import Derived.Test.YtmdnijehoagamaaGreatDoorK31
import Derived.Test.YtmdnijehoagamaaGreatDoorK40
set_option linter.unusedVariables false
set_option linter.unusedSimpArgs false
namespace Go.Proofs.YtmdnijehoagamaaGreatDoor
set_option maxRecDepth 100000
set_option maxHeartbeats 8000000
open Go.RowKit
def lab (w : World) (a b : Mom) : List (Nat × List Value) := [(w.heap.size, [.int .i64 a.k, .int .i64 a.y, .int .i64 a.mo, .int .i64 a.d, .int .i64 a.h, .int .i64 a.mi, .bool a.sec.neg, .string a.sec.ds, .int .i64 a.sec.sc, .bool a.zd, .int .i64 a.z]), (w.heap.size + 1, [.int .i64 b.k, .int .i64 b.y, .int .i64 b.mo, .int .i64 b.d, .int .i64 b.h, .int .i64 b.mi, .bool b.sec.neg, .string b.sec.ds, .int .i64 b.sec.sc, .bool b.zd, .int .i64 b.z])]
def resQ : Bool → Int → Bool → Bool → Int × Bool
 | true, o, _, _ => (o, true)
 | false, _, true, _ => (-1, true)
 | false, _, false, true => (1, true)
 | false, _, false, false => (0, false)
theorem pcmp_bad1 (a b : Mom)
  (cA : ∀ W, Tabs W → Calls Tryz.prog 38 #[.agg #[.int .i64 a.k, .int .i64 a.y, .int .i64 a.mo, .int .i64 a.d, .int .i64 a.h, .int .i64 a.mi, .bool a.sec.neg, .string a.sec.ds, .int .i64 a.sec.sc, .bool a.zd, .int .i64 a.z]] W fun e w' => e = .returned (.bool false) ∧ Below W.heap.size W w')
  (w : World) (hT : Tabs w) : Calls Tryz.prog 19 #[.agg #[.int .i64 a.k, .int .i64 a.y, .int .i64 a.mo, .int .i64 a.d, .int .i64 a.h, .int .i64 a.mi, .bool a.sec.neg, .string a.sec.ds, .int .i64 a.sec.sc, .bool a.zd, .int .i64 a.z], .agg #[.int .i64 b.k, .int .i64 b.y, .int .i64 b.mo, .int .i64 b.d, .int .i64 b.h, .int .i64 b.mi, .bool b.sec.neg, .string b.sec.ds, .int .i64 b.sec.sc, .bool b.zd, .int .i64 b.z]] w fun e w' => e = .returned (.tuple #[.int .i64 0, .bool false, .int .i64 2]) ∧ Below w.heap.size w w' := by
 go_enter Tryz.func19, Tryz.ntmps19
 have HS := Lib.hid (((KD.nil w).push [.int .i64 a.k, .int .i64 a.y, .int .i64 a.mo, .int .i64 a.d, .int .i64 a.h, .int .i64 a.mi, .bool a.sec.neg, .string a.sec.ds, .int .i64 a.sec.sc, .bool a.zd, .int .i64 a.z] 25 (n := w.heap.size) (by simp)).push [.int .i64 b.k, .int .i64 b.y, .int .i64 b.mo, .int .i64 b.d, .int .i64 b.h, .int .i64 b.mi, .bool b.sec.neg, .string b.sec.ds, .int .i64 b.sec.sc, .bool b.zd, .int .i64 b.z] 25 (n := w.heap.size + 1) (by simp))
 have HT := Lib.hid hT
 clear hT
 obtain ⟨d0_0, d0_1, d0_2, d0_3, d0_4, d0_5, d0_6, d0_7, d0_8, d0_9, d0_10⟩ := (HS.out.at 0 rfl).all11
 go_wp2_with fail
 refine (cA _ (HS.out.tabs HT.out)).mono ?_
 rintro e w1 ⟨rfl, b1⟩
 replace HS := Lib.hid (HS.out.call b1)
 clear d0_0 d0_1 d0_2 d0_3 d0_4 d0_5 d0_6 d0_7 d0_8 d0_9 d0_10 b1
 go_wp2
 refine bodyPost_ret (v := _) ?_ rfl ⟨rfl, HS.out.old⟩
 simp [results, Tryz.results19, go_sem]
theorem pcmp_bad2 (a b : Mom)
  (cA : ∀ W, Tabs W → Calls Tryz.prog 38 #[.agg #[.int .i64 a.k, .int .i64 a.y, .int .i64 a.mo, .int .i64 a.d, .int .i64 a.h, .int .i64 a.mi, .bool a.sec.neg, .string a.sec.ds, .int .i64 a.sec.sc, .bool a.zd, .int .i64 a.z]] W fun e w' => e = .returned (.bool true) ∧ Below W.heap.size W w')
  (cB : ∀ W, Tabs W → Calls Tryz.prog 38 #[.agg #[.int .i64 b.k, .int .i64 b.y, .int .i64 b.mo, .int .i64 b.d, .int .i64 b.h, .int .i64 b.mi, .bool b.sec.neg, .string b.sec.ds, .int .i64 b.sec.sc, .bool b.zd, .int .i64 b.z]] W fun e w' => e = .returned (.bool false) ∧ Below W.heap.size W w')
  (w : World) (hT : Tabs w) : Calls Tryz.prog 19 #[.agg #[.int .i64 a.k, .int .i64 a.y, .int .i64 a.mo, .int .i64 a.d, .int .i64 a.h, .int .i64 a.mi, .bool a.sec.neg, .string a.sec.ds, .int .i64 a.sec.sc, .bool a.zd, .int .i64 a.z], .agg #[.int .i64 b.k, .int .i64 b.y, .int .i64 b.mo, .int .i64 b.d, .int .i64 b.h, .int .i64 b.mi, .bool b.sec.neg, .string b.sec.ds, .int .i64 b.sec.sc, .bool b.zd, .int .i64 b.z]] w fun e w' => e = .returned (.tuple #[.int .i64 0, .bool false, .int .i64 2]) ∧ Below w.heap.size w w' := by
 go_enter Tryz.func19, Tryz.ntmps19
 have HS := Lib.hid (((KD.nil w).push [.int .i64 a.k, .int .i64 a.y, .int .i64 a.mo, .int .i64 a.d, .int .i64 a.h, .int .i64 a.mi, .bool a.sec.neg, .string a.sec.ds, .int .i64 a.sec.sc, .bool a.zd, .int .i64 a.z] 25 (n := w.heap.size) (by simp)).push [.int .i64 b.k, .int .i64 b.y, .int .i64 b.mo, .int .i64 b.d, .int .i64 b.h, .int .i64 b.mi, .bool b.sec.neg, .string b.sec.ds, .int .i64 b.sec.sc, .bool b.zd, .int .i64 b.z] 25 (n := w.heap.size + 1) (by simp))
 have HT := Lib.hid hT
 clear hT
 obtain ⟨d0_0, d0_1, d0_2, d0_3, d0_4, d0_5, d0_6, d0_7, d0_8, d0_9, d0_10⟩ := (HS.out.at 0 rfl).all11
 go_wp2_with fail
 refine (cA _ (HS.out.tabs HT.out)).mono ?_
 rintro e w1 ⟨rfl, b1⟩
 replace HS := Lib.hid (HS.out.call b1)
 clear d0_0 d0_1 d0_2 d0_3 d0_4 d0_5 d0_6 d0_7 d0_8 d0_9 d0_10 b1
 obtain ⟨d1_0, d1_1, d1_2, d1_3, d1_4, d1_5, d1_6, d1_7, d1_8, d1_9, d1_10⟩ := (HS.out.at 1 rfl).all11
 go_wp2_with fail
 refine (cB _ (HS.out.tabs HT.out)).mono ?_
 rintro e w2 ⟨rfl, b1⟩
 replace HS := Lib.hid (HS.out.call b1)
 clear d1_0 d1_1 d1_2 d1_3 d1_4 d1_5 d1_6 d1_7 d1_8 d1_9 d1_10 b1
 go_wp2
 refine bodyPost_ret (v := _) ?_ rfl ⟨rfl, HS.out.old⟩
 simp [results, Tryz.results19, go_sem]
theorem pcmp_bad3 (a b : Mom) (hk : (a.k != b.k) = true)
  (cA : ∀ W, Tabs W → Calls Tryz.prog 38 #[.agg #[.int .i64 a.k, .int .i64 a.y, .int .i64 a.mo, .int .i64 a.d, .int .i64 a.h, .int .i64 a.mi, .bool a.sec.neg, .string a.sec.ds, .int .i64 a.sec.sc, .bool a.zd, .int .i64 a.z]] W fun e w' => e = .returned (.bool true) ∧ Below W.heap.size W w')
  (cB : ∀ W, Tabs W → Calls Tryz.prog 38 #[.agg #[.int .i64 b.k, .int .i64 b.y, .int .i64 b.mo, .int .i64 b.d, .int .i64 b.h, .int .i64 b.mi, .bool b.sec.neg, .string b.sec.ds, .int .i64 b.sec.sc, .bool b.zd, .int .i64 b.z]] W fun e w' => e = .returned (.bool true) ∧ Below W.heap.size W w')
  (w : World) (hT : Tabs w) : Calls Tryz.prog 19 #[.agg #[.int .i64 a.k, .int .i64 a.y, .int .i64 a.mo, .int .i64 a.d, .int .i64 a.h, .int .i64 a.mi, .bool a.sec.neg, .string a.sec.ds, .int .i64 a.sec.sc, .bool a.zd, .int .i64 a.z], .agg #[.int .i64 b.k, .int .i64 b.y, .int .i64 b.mo, .int .i64 b.d, .int .i64 b.h, .int .i64 b.mi, .bool b.sec.neg, .string b.sec.ds, .int .i64 b.sec.sc, .bool b.zd, .int .i64 b.z]] w fun e w' => e = .returned (.tuple #[.int .i64 0, .bool false, .int .i64 2]) ∧ Below w.heap.size w w' := by
 go_enter Tryz.func19, Tryz.ntmps19
 have HS := Lib.hid (((KD.nil w).push [.int .i64 a.k, .int .i64 a.y, .int .i64 a.mo, .int .i64 a.d, .int .i64 a.h, .int .i64 a.mi, .bool a.sec.neg, .string a.sec.ds, .int .i64 a.sec.sc, .bool a.zd, .int .i64 a.z] 25 (n := w.heap.size) (by simp)).push [.int .i64 b.k, .int .i64 b.y, .int .i64 b.mo, .int .i64 b.d, .int .i64 b.h, .int .i64 b.mi, .bool b.sec.neg, .string b.sec.ds, .int .i64 b.sec.sc, .bool b.zd, .int .i64 b.z] 25 (n := w.heap.size + 1) (by simp))
 have HT := Lib.hid hT
 clear hT
 obtain ⟨d0_0, d0_1, d0_2, d0_3, d0_4, d0_5, d0_6, d0_7, d0_8, d0_9, d0_10⟩ := (HS.out.at 0 rfl).all11
 go_wp2_with fail
 refine (cA _ (HS.out.tabs HT.out)).mono ?_
 rintro e w1 ⟨rfl, b1⟩
 replace HS := Lib.hid (HS.out.call b1)
 clear d0_0 d0_1 d0_2 d0_3 d0_4 d0_5 d0_6 d0_7 d0_8 d0_9 d0_10 b1
 obtain ⟨d1_0, d1_1, d1_2, d1_3, d1_4, d1_5, d1_6, d1_7, d1_8, d1_9, d1_10⟩ := (HS.out.at 1 rfl).all11
 go_wp2_with fail
 refine (cB _ (HS.out.tabs HT.out)).mono ?_
 rintro e w2 ⟨rfl, b1⟩
 replace HS := Lib.hid (HS.out.call b1)
 clear d1_0 d1_1 d1_2 d1_3 d1_4 d1_5 d1_6 d1_7 d1_8 d1_9 d1_10 b1
 have d0_0 := (HS.out.at 0 rfl).cell 0 rfl
 have d1_0 := (HS.out.at 1 rfl).cell 0 rfl
 go_wp2
 refine bodyPost_ret (v := _) ?_ rfl ⟨rfl, HS.out.old⟩
 simp [results, Tryz.results19, go_sem]
theorem pcmp_ok (a b : Mom) (P Q : Pt) (o x y : Int) (zq c1 c2 : Bool) (hk : (a.k != b.k) = false) (hz : (a.zd == b.zd) = zq) (h1 : decide (x < 0) = c1) (h2 : decide (0 < y) = c2)
  (cA : ∀ W, Tabs W → Calls Tryz.prog 38 #[.agg #[.int .i64 a.k, .int .i64 a.y, .int .i64 a.mo, .int .i64 a.d, .int .i64 a.h, .int .i64 a.mi, .bool a.sec.neg, .string a.sec.ds, .int .i64 a.sec.sc, .bool a.zd, .int .i64 a.z]] W fun e w' => e = .returned (.bool true) ∧ Below W.heap.size W w')
  (cB : ∀ W, Tabs W → Calls Tryz.prog 38 #[.agg #[.int .i64 b.k, .int .i64 b.y, .int .i64 b.mo, .int .i64 b.d, .int .i64 b.h, .int .i64 b.mi, .bool b.sec.neg, .string b.sec.ds, .int .i64 b.sec.sc, .bool b.zd, .int .i64 b.z]] W fun e w' => e = .returned (.bool true) ∧ Below W.heap.size W w')
  (cP : ∀ W, Tabs W → Calls Tryz.prog 53 #[.agg #[.int .i64 a.k, .int .i64 a.y, .int .i64 a.mo, .int .i64 a.d, .int .i64 a.h, .int .i64 a.mi, .bool a.sec.neg, .string a.sec.ds, .int .i64 a.sec.sc, .bool a.zd, .int .i64 a.z]] W fun e w' => e = .returned (.agg #[.int .i64 P.w, .bool P.f.neg, .string P.f.ds, .int .i64 P.f.sc]) ∧ Below W.heap.size W w')
  (cQ : ∀ W, Tabs W → Calls Tryz.prog 53 #[.agg #[.int .i64 b.k, .int .i64 b.y, .int .i64 b.mo, .int .i64 b.d, .int .i64 b.h, .int .i64 b.mi, .bool b.sec.neg, .string b.sec.ds, .int .i64 b.sec.sc, .bool b.zd, .int .i64 b.z]] W fun e w' => e = .returned (.agg #[.int .i64 Q.w, .bool Q.f.neg, .string Q.f.ds, .int .i64 Q.f.sc]) ∧ Below W.heap.size W w')
  (cC : ∀ W, Tabs W → Calls Tryz.prog 56 #[.agg #[.int .i64 P.w, .bool P.f.neg, .string P.f.ds, .int .i64 P.f.sc], .agg #[.int .i64 Q.w, .bool Q.f.neg, .string Q.f.ds, .int .i64 Q.f.sc]] W fun e w' => e = .returned (.int .i64 o) ∧ Below W.heap.size W w')
  (cL : ∀ W, Calls Tryz.prog 57 #[.agg #[.int .i64 P.w, .bool P.f.neg, .string P.f.ds, .int .i64 P.f.sc], .int .i64 50400] W fun e w' => e = .returned (.agg #[.int .i64 (P.w + 50400), .bool P.f.neg, .string P.f.ds, .int .i64 P.f.sc]) ∧ Below W.heap.size W w')
  (cX : ∀ W, Tabs W → Calls Tryz.prog 56 #[.agg #[.int .i64 (P.w + 50400), .bool P.f.neg, .string P.f.ds, .int .i64 P.f.sc], .agg #[.int .i64 Q.w, .bool Q.f.neg, .string Q.f.ds, .int .i64 Q.f.sc]] W fun e w' => e = .returned (.int .i64 x) ∧ Below W.heap.size W w')
  (cM : ∀ W, Calls Tryz.prog 57 #[.agg #[.int .i64 Q.w, .bool Q.f.neg, .string Q.f.ds, .int .i64 Q.f.sc], .int .i64 50400] W fun e w' => e = .returned (.agg #[.int .i64 (Q.w + 50400), .bool Q.f.neg, .string Q.f.ds, .int .i64 Q.f.sc]) ∧ Below W.heap.size W w')
  (cY : ∀ W, Tabs W → Calls Tryz.prog 56 #[.agg #[.int .i64 P.w, .bool P.f.neg, .string P.f.ds, .int .i64 P.f.sc], .agg #[.int .i64 (Q.w + 50400), .bool Q.f.neg, .string Q.f.ds, .int .i64 Q.f.sc]] W fun e w' => e = .returned (.int .i64 y) ∧ Below W.heap.size W w')
  (w : World) (hT : Tabs w) : Calls Tryz.prog 19 #[.agg #[.int .i64 a.k, .int .i64 a.y, .int .i64 a.mo, .int .i64 a.d, .int .i64 a.h, .int .i64 a.mi, .bool a.sec.neg, .string a.sec.ds, .int .i64 a.sec.sc, .bool a.zd, .int .i64 a.z], .agg #[.int .i64 b.k, .int .i64 b.y, .int .i64 b.mo, .int .i64 b.d, .int .i64 b.h, .int .i64 b.mi, .bool b.sec.neg, .string b.sec.ds, .int .i64 b.sec.sc, .bool b.zd, .int .i64 b.z]] w fun e w' => e = .returned (.tuple #[.int .i64 (resQ zq o c1 c2).1, .bool (resQ zq o c1 c2).2, .int .i64 0]) ∧ Below w.heap.size w w' := by
 go_enter Tryz.func19, Tryz.ntmps19
 have HS := Lib.hid (((KD.nil w).push [.int .i64 a.k, .int .i64 a.y, .int .i64 a.mo, .int .i64 a.d, .int .i64 a.h, .int .i64 a.mi, .bool a.sec.neg, .string a.sec.ds, .int .i64 a.sec.sc, .bool a.zd, .int .i64 a.z] 25 (n := w.heap.size) (by simp)).push [.int .i64 b.k, .int .i64 b.y, .int .i64 b.mo, .int .i64 b.d, .int .i64 b.h, .int .i64 b.mi, .bool b.sec.neg, .string b.sec.ds, .int .i64 b.sec.sc, .bool b.zd, .int .i64 b.z] 25 (n := w.heap.size + 1) (by simp))
 have HT := Lib.hid hT
 clear hT
 obtain ⟨d0_0, d0_1, d0_2, d0_3, d0_4, d0_5, d0_6, d0_7, d0_8, d0_9, d0_10⟩ := (HS.out.at 0 rfl).all11
 go_wp2_with fail
 refine (cA _ (HS.out.tabs HT.out)).mono ?_
 rintro e w1 ⟨rfl, b1⟩
 replace HS := Lib.hid (HS.out.call b1)
 clear d0_0 d0_1 d0_2 d0_3 d0_4 d0_5 d0_6 d0_7 d0_8 d0_9 d0_10 b1
 obtain ⟨d1_0, d1_1, d1_2, d1_3, d1_4, d1_5, d1_6, d1_7, d1_8, d1_9, d1_10⟩ := (HS.out.at 1 rfl).all11
 go_wp2_with fail
 refine (cB _ (HS.out.tabs HT.out)).mono ?_
 rintro e w2 ⟨rfl, b1⟩
 replace HS := Lib.hid (HS.out.call b1)
 clear d1_0 d1_1 d1_2 d1_3 d1_4 d1_5 d1_6 d1_7 d1_8 d1_9 d1_10 b1
 have d0_0 := (HS.out.at 0 rfl).cell 0 rfl
 have d1_0 := (HS.out.at 1 rfl).cell 0 rfl
 go_upto_region 3 with fail
 clear d0_0 d1_0
 go_cut [7, 8] (fun s7 s8 wx => ∃ g h, s7 = .pointer (some ⟨g, 0, none⟩) ∧ s8 = .pointer (some ⟨h, 0, none⟩) ∧ KD w ((lab w a b) ++ [(g, [.int .i64 P.w, .bool P.f.neg, .string P.f.ds, .int .i64 P.f.sc])] ++ [(h, [.int .i64 Q.w, .bool Q.f.neg, .string Q.f.ds, .int .i64 Q.f.sc])]) wx)
 case first =>
  refine wp_region_held_drew (S := KD w (lab w a b)) (by kernel_rfl) HS.out.drew1 (fun hHeld => ?_)
  clear HS
  generalize World.drew w2 = x at *
  show wpAnyH _ _ _ _ _ _ #[false, false, false, false, false, false, false, false] _ _
  refine tk (v := ?_) 0 hHeld ?_ ?_
  rotate_left
  focus (intro w hSw; obtain ⟨c0, c1, c2, c3, c4, c5, c6, c7, c8, c9, c10⟩ := (hSw.at 0 rfl).all11; clear hSw; go_simp; (try with_reducible rfl))
  (try simp only [fl])
  refine tk (v := ?_) 2 hHeld ?_ ?_
  rotate_left
  focus (intro w hSw; obtain ⟨c0, c1, c2, c3, c4, c5, c6, c7, c8, c9, c10⟩ := (hSw.at 1 rfl).all11; clear hSw; go_simp; (try with_reducible rfl))
  (try simp only [fl])
  refine' tail2 (fun x gP gQ => KD w (lab w a b) x ∧ HasL x gP [.int .i64 P.w, .bool P.f.neg, .string P.f.ds, .int .i64 P.f.sc] ∧ Own w (lab w a b) gP ∧ HasL x gQ [.int .i64 Q.w, .bool Q.f.neg, .string Q.f.ds, .int .i64 Q.f.sc] ∧ Own w (lab w a b) gQ ∧ gP ≠ gQ) _ (fun t0 => _) _
  rotate_left
  refine' tail2 (fun x gP gQ => KD w (lab w a b) x ∧ HasL x gP [.int .i64 P.w, .bool P.f.neg, .string P.f.ds, .int .i64 P.f.sc] ∧ Own w (lab w a b) gP ∧ HasL x gQ [.int .i64 0, .bool false, .string ⟨#[]⟩, .int .i64 0] ∧ Own w (lab w a b) gQ ∧ gP ≠ gQ) _ (fun t1 => _) _
  rotate_left
  refine' tail2 (fun x gP gQ => KD w (lab w a b) x ∧ HasL x gP [.int .i64 0, .bool false, .string ⟨#[]⟩, .int .i64 0] ∧ Own w (lab w a b) gP ∧ HasL x gQ [.int .i64 0, .bool false, .string ⟨#[]⟩, .int .i64 0] ∧ Own w (lab w a b) gQ ∧ gP ≠ gQ) _ (fun t2 => _) _
  rotate_left
  refine' tail1 (fun x gP => KD w (lab w a b) x ∧ HasL x gP [.int .i64 0, .bool false, .string ⟨#[]⟩, .int .i64 0] ∧ Own w (lab w a b) gP) _ (fun t3 => _) _
  rotate_left
  refine' tail1 (fun x gQ => KD w (lab w a b) x ∧ HasL x gQ [.int .i64 0, .bool false, .string ⟨#[]⟩, .int .i64 0] ∧ Own w (lab w a b) gQ) _ (fun t4 => _) _
  rotate_left
  refine' tail0 (fun x  => KD w (lab w a b) x) _ (fun t5 => _) _
  rotate_left
  refine' tail2 (fun x gP gQ => KD w (lab w a b) x ∧ HasL x gP [.int .i64 0, .bool false, .string ⟨#[]⟩, .int .i64 0] ∧ Own w (lab w a b) gP ∧ HasL x gQ [.int .i64 0, .bool false, .string ⟨#[]⟩, .int .i64 0] ∧ Own w (lab w a b) gQ ∧ gP ≠ gQ) _ (fun t6 => _) _
  rotate_left
  refine' tail1 (fun x gP => KD w (lab w a b) x ∧ HasL x gP [.int .i64 0, .bool false, .string ⟨#[]⟩, .int .i64 0] ∧ Own w (lab w a b) gP) _ (fun t7 => _) _
  rotate_left
  refine' tail1 (fun x gQ => KD w (lab w a b) x ∧ HasL x gQ [.int .i64 0, .bool false, .string ⟨#[]⟩, .int .i64 0] ∧ Own w (lab w a b) gQ) _ (fun t8 => _) _
  rotate_left
  refine' tail0 (fun x  => KD w (lab w a b) x) _ (fun t9 => _) _
  rotate_left
  refine' tail2 (fun x gP gQ => KD w (lab w a b) x ∧ HasL x gP [.int .i64 0, .bool false, .string ⟨#[]⟩, .int .i64 0] ∧ Own w (lab w a b) gP ∧ HasL x gQ [.int .i64 0, .bool false, .string ⟨#[]⟩, .int .i64 0] ∧ Own w (lab w a b) gQ ∧ gP ≠ gQ) _ (fun t10 => _) _
  rotate_left
  refine' tail1 (fun x gP => KD w (lab w a b) x ∧ HasL x gP [.int .i64 0, .bool false, .string ⟨#[]⟩, .int .i64 0] ∧ Own w (lab w a b) gP) _ (fun t11 => _) _
  rotate_left
  refine' tail1 (fun x gQ => KD w (lab w a b) x ∧ HasL x gQ [.int .i64 0, .bool false, .string ⟨#[]⟩, .int .i64 0] ∧ Own w (lab w a b) gQ) _ (fun t12 => _) _
  rotate_left
  ·refine wpAnyH_ready (rs := [1, 4, 5]) (by kernel_rfl) (by simp) ?_
   refine AllReadyH.cons rfl (fun K hK => ?_) ?_
   ·go_simp
    refine (cP _ (hHeld.tabs HT.out)).mono ?_
    rintro e y ⟨rfl, un⟩
    replace hHeld := hHeld.call un
    (try replace HP := Lib.hid (HP.out.call un))
    (try replace HQ := Lib.hid (HQ.out.call un))
    clear un
    refine hK.out _ _ hHeld (fun hX => ?_)
    clear hK K hX
    (try simp only [fl])
    (try clear x)
    rename World => x
    exact t9 x hHeld
   refine AllReadyH.cons rfl (fun K hK => ?_) ?_
   ·go_simp
    refine hK.out _ (x.alloc (.cells #[.int .i64 0, .bool false, .string ⟨#[]⟩, .int .i64 0] 69)) (hHeld.alloc _) (fun hX => ?_)
    clear hK K hX
    (try simp only [fl])
    have gm_P := Lib.hid hHeld.fresh
    replace hHeld := hHeld.alloc (.cells #[.int .i64 0, .bool false, .string ⟨#[]⟩, .int .i64 0] 69)
    (try have lt_Q_P := Lib.hid HQ.out.lt)
    (try replace HQ := Lib.hid (HQ.out.alloc (.cells #[.int .i64 0, .bool false, .string ⟨#[]⟩, .int .i64 0] 69)))
    have HP := Lib.hid (HasL.new x [.int .i64 0, .bool false, .string ⟨#[]⟩, .int .i64 0] 69)
    generalize hyy : x.alloc (.cells #[.int .i64 0, .bool false, .string ⟨#[]⟩, .int .i64 0] 69) = y at *
    clear hyy
    generalize hgg : x.heap.size = gP at *
    clear hgg
    (try clear x)
    rename World => x
    exact t11 x gP ⟨hHeld, HP.out, gm_P.out⟩
   refine AllReadyH.cons rfl (fun K hK => ?_) AllReadyH.nil
   go_simp
   refine hK.out _ (x.alloc (.cells #[.int .i64 0, .bool false, .string ⟨#[]⟩, .int .i64 0] 69)) (hHeld.alloc _) (fun hX => ?_)
   clear hK K hX
   (try simp only [fl])
   have gm_Q := Lib.hid hHeld.fresh
   replace hHeld := hHeld.alloc (.cells #[.int .i64 0, .bool false, .string ⟨#[]⟩, .int .i64 0] 69)
   (try have lt_P_Q := Lib.hid HP.out.lt)
   (try replace HP := Lib.hid (HP.out.alloc (.cells #[.int .i64 0, .bool false, .string ⟨#[]⟩, .int .i64 0] 69)))
   have HQ := Lib.hid (HasL.new x [.int .i64 0, .bool false, .string ⟨#[]⟩, .int .i64 0] 69)
   generalize hyy : x.alloc (.cells #[.int .i64 0, .bool false, .string ⟨#[]⟩, .int .i64 0] 69) = y at *
   clear hyy
   generalize hgg : x.heap.size = gQ at *
   clear hgg
   (try clear x)
   rename World => x
   exact t12 x gQ ⟨hHeld, HQ.out, gm_Q.out⟩
  ·rintro x gQ ⟨hHeld, hQ, oQ⟩
   have HQ := Lib.hid hQ
   have gm_Q := Lib.hid oQ
   clear hQ oQ
   refine wpAnyH_ready (rs := [1, 4]) (by kernel_rfl) (by simp) ?_
   refine AllReadyH.cons rfl (fun K hK => ?_) ?_
   ·go_simp
    refine (cP _ (hHeld.tabs HT.out)).mono ?_
    rintro e y ⟨rfl, un⟩
    replace hHeld := hHeld.call un
    (try replace HP := Lib.hid (HP.out.call un))
    (try replace HQ := Lib.hid (HQ.out.call un))
    clear un
    refine hK.out _ _ hHeld (fun hX => ?_)
    clear hK K hX
    (try simp only [fl])
    (try clear x)
    rename World => x
    exact t8 x gQ ⟨hHeld, HQ.out, gm_Q.out⟩
   refine AllReadyH.cons rfl (fun K hK => ?_) AllReadyH.nil
   go_simp
   refine hK.out _ (x.alloc (.cells #[.int .i64 0, .bool false, .string ⟨#[]⟩, .int .i64 0] 69)) (hHeld.alloc _) (fun hX => ?_)
   clear hK K hX
   (try simp only [fl])
   have gm_P := Lib.hid hHeld.fresh
   replace hHeld := hHeld.alloc (.cells #[.int .i64 0, .bool false, .string ⟨#[]⟩, .int .i64 0] 69)
   (try have lt_Q_P := Lib.hid HQ.out.lt)
   (try replace HQ := Lib.hid (HQ.out.alloc (.cells #[.int .i64 0, .bool false, .string ⟨#[]⟩, .int .i64 0] 69)))
   have HP := Lib.hid (HasL.new x [.int .i64 0, .bool false, .string ⟨#[]⟩, .int .i64 0] 69)
   generalize hyy : x.alloc (.cells #[.int .i64 0, .bool false, .string ⟨#[]⟩, .int .i64 0] 69) = y at *
   clear hyy
   generalize hgg : x.heap.size = gP at *
   clear hgg
   (try clear x)
   rename World => x
   exact t10 x gP gQ ⟨hHeld, HP.out, gm_P.out, HQ.out, gm_Q.out, (by first | exact ne_P_Q.out | exact Nat.ne_of_lt lt_P_Q.out | exact Nat.ne_of_gt lt_Q_P.out)⟩
  ·rintro x gP ⟨hHeld, hP, oP⟩
   have HP := Lib.hid hP
   have gm_P := Lib.hid oP
   clear hP oP
   refine wpAnyH_ready (rs := [1, 5]) (by kernel_rfl) (by simp) ?_
   refine AllReadyH.cons rfl (fun K hK => ?_) ?_
   ·go_simp
    refine (cP _ (hHeld.tabs HT.out)).mono ?_
    rintro e y ⟨rfl, un⟩
    replace hHeld := hHeld.call un
    (try replace HP := Lib.hid (HP.out.call un))
    (try replace HQ := Lib.hid (HQ.out.call un))
    clear un
    refine hK.out _ _ hHeld (fun hX => ?_)
    clear hK K hX
    (try simp only [fl])
    (try clear x)
    rename World => x
    exact t7 x gP ⟨hHeld, HP.out, gm_P.out⟩
   refine AllReadyH.cons rfl (fun K hK => ?_) AllReadyH.nil
   go_simp
   refine hK.out _ (x.alloc (.cells #[.int .i64 0, .bool false, .string ⟨#[]⟩, .int .i64 0] 69)) (hHeld.alloc _) (fun hX => ?_)
   clear hK K hX
   (try simp only [fl])
   have gm_Q := Lib.hid hHeld.fresh
   replace hHeld := hHeld.alloc (.cells #[.int .i64 0, .bool false, .string ⟨#[]⟩, .int .i64 0] 69)
   (try have lt_P_Q := Lib.hid HP.out.lt)
   (try replace HP := Lib.hid (HP.out.alloc (.cells #[.int .i64 0, .bool false, .string ⟨#[]⟩, .int .i64 0] 69)))
   have HQ := Lib.hid (HasL.new x [.int .i64 0, .bool false, .string ⟨#[]⟩, .int .i64 0] 69)
   generalize hyy : x.alloc (.cells #[.int .i64 0, .bool false, .string ⟨#[]⟩, .int .i64 0] 69) = y at *
   clear hyy
   generalize hgg : x.heap.size = gQ at *
   clear hgg
   (try clear x)
   rename World => x
   exact t10 x gP gQ ⟨hHeld, HP.out, gm_P.out, HQ.out, gm_Q.out, (by first | exact ne_P_Q.out | exact Nat.ne_of_lt lt_P_Q.out | exact Nat.ne_of_gt lt_Q_P.out)⟩
  ·rintro x gP gQ ⟨hHeld, hP, oP, hQ, oQ, nPQ⟩
   have HP := Lib.hid hP
   have gm_P := Lib.hid oP
   clear hP oP
   have HQ := Lib.hid hQ
   have gm_Q := Lib.hid oQ
   clear hQ oQ
   have ne_P_Q := Lib.hid nPQ
   clear nPQ
   refine wpAnyH_ready (rs := [1]) (by kernel_rfl) (by simp) ?_
   refine AllReadyH.cons rfl (fun K hK => ?_) AllReadyH.nil
   go_simp
   refine (cP _ (hHeld.tabs HT.out)).mono ?_
   rintro e y ⟨rfl, un⟩
   replace hHeld := hHeld.call un
   (try replace HP := Lib.hid (HP.out.call un))
   (try replace HQ := Lib.hid (HQ.out.call un))
   clear un
   refine hK.out _ _ hHeld (fun hX => ?_)
   clear hK K hX
   (try simp only [fl])
   (try clear x)
   rename World => x
   exact t6 x gP gQ ⟨hHeld, HP.out, gm_P.out, HQ.out, gm_Q.out, (by first | exact ne_P_Q.out | exact Nat.ne_of_lt lt_P_Q.out | exact Nat.ne_of_gt lt_Q_P.out)⟩
  ·rintro x hHeld
   refine wpAnyH_ready (rs := [3, 4, 5]) (by kernel_rfl) (by simp) ?_
   refine AllReadyH.cons rfl (fun K hK => ?_) ?_
   ·go_simp
    refine (cQ _ (hHeld.tabs HT.out)).mono ?_
    rintro e y ⟨rfl, un⟩
    replace hHeld := hHeld.call un
    (try replace HP := Lib.hid (HP.out.call un))
    (try replace HQ := Lib.hid (HQ.out.call un))
    clear un
    refine hK.out _ _ hHeld (fun hX => ?_)
    clear hK K hX
    (try simp only [fl])
    (try clear x)
    rename World => x
    exact t5 x hHeld
   refine AllReadyH.cons rfl (fun K hK => ?_) ?_
   ·go_simp
    refine hK.out _ (x.alloc (.cells #[.int .i64 0, .bool false, .string ⟨#[]⟩, .int .i64 0] 69)) (hHeld.alloc _) (fun hX => ?_)
    clear hK K hX
    (try simp only [fl])
    have gm_P := Lib.hid hHeld.fresh
    replace hHeld := hHeld.alloc (.cells #[.int .i64 0, .bool false, .string ⟨#[]⟩, .int .i64 0] 69)
    (try have lt_Q_P := Lib.hid HQ.out.lt)
    (try replace HQ := Lib.hid (HQ.out.alloc (.cells #[.int .i64 0, .bool false, .string ⟨#[]⟩, .int .i64 0] 69)))
    have HP := Lib.hid (HasL.new x [.int .i64 0, .bool false, .string ⟨#[]⟩, .int .i64 0] 69)
    generalize hyy : x.alloc (.cells #[.int .i64 0, .bool false, .string ⟨#[]⟩, .int .i64 0] 69) = y at *
    clear hyy
    generalize hgg : x.heap.size = gP at *
    clear hgg
    (try clear x)
    rename World => x
    exact t7 x gP ⟨hHeld, HP.out, gm_P.out⟩
   refine AllReadyH.cons rfl (fun K hK => ?_) AllReadyH.nil
   go_simp
   refine hK.out _ (x.alloc (.cells #[.int .i64 0, .bool false, .string ⟨#[]⟩, .int .i64 0] 69)) (hHeld.alloc _) (fun hX => ?_)
   clear hK K hX
   (try simp only [fl])
   have gm_Q := Lib.hid hHeld.fresh
   replace hHeld := hHeld.alloc (.cells #[.int .i64 0, .bool false, .string ⟨#[]⟩, .int .i64 0] 69)
   (try have lt_P_Q := Lib.hid HP.out.lt)
   (try replace HP := Lib.hid (HP.out.alloc (.cells #[.int .i64 0, .bool false, .string ⟨#[]⟩, .int .i64 0] 69)))
   have HQ := Lib.hid (HasL.new x [.int .i64 0, .bool false, .string ⟨#[]⟩, .int .i64 0] 69)
   generalize hyy : x.alloc (.cells #[.int .i64 0, .bool false, .string ⟨#[]⟩, .int .i64 0] 69) = y at *
   clear hyy
   generalize hgg : x.heap.size = gQ at *
   clear hgg
   (try clear x)
   rename World => x
   exact t8 x gQ ⟨hHeld, HQ.out, gm_Q.out⟩
  ·rintro x gQ ⟨hHeld, hQ, oQ⟩
   have HQ := Lib.hid hQ
   have gm_Q := Lib.hid oQ
   clear hQ oQ
   refine wpAnyH_ready (rs := [3, 4]) (by kernel_rfl) (by simp) ?_
   refine AllReadyH.cons rfl (fun K hK => ?_) ?_
   ·go_simp
    refine (cQ _ (hHeld.tabs HT.out)).mono ?_
    rintro e y ⟨rfl, un⟩
    replace hHeld := hHeld.call un
    (try replace HP := Lib.hid (HP.out.call un))
    (try replace HQ := Lib.hid (HQ.out.call un))
    clear un
    refine hK.out _ _ hHeld (fun hX => ?_)
    clear hK K hX
    (try simp only [fl])
    (try clear x)
    rename World => x
    exact t4 x gQ ⟨hHeld, HQ.out, gm_Q.out⟩
   refine AllReadyH.cons rfl (fun K hK => ?_) AllReadyH.nil
   go_simp
   refine hK.out _ (x.alloc (.cells #[.int .i64 0, .bool false, .string ⟨#[]⟩, .int .i64 0] 69)) (hHeld.alloc _) (fun hX => ?_)
   clear hK K hX
   (try simp only [fl])
   have gm_P := Lib.hid hHeld.fresh
   replace hHeld := hHeld.alloc (.cells #[.int .i64 0, .bool false, .string ⟨#[]⟩, .int .i64 0] 69)
   (try have lt_Q_P := Lib.hid HQ.out.lt)
   (try replace HQ := Lib.hid (HQ.out.alloc (.cells #[.int .i64 0, .bool false, .string ⟨#[]⟩, .int .i64 0] 69)))
   have HP := Lib.hid (HasL.new x [.int .i64 0, .bool false, .string ⟨#[]⟩, .int .i64 0] 69)
   generalize hyy : x.alloc (.cells #[.int .i64 0, .bool false, .string ⟨#[]⟩, .int .i64 0] 69) = y at *
   clear hyy
   generalize hgg : x.heap.size = gP at *
   clear hgg
   (try clear x)
   rename World => x
   exact t6 x gP gQ ⟨hHeld, HP.out, gm_P.out, HQ.out, gm_Q.out, (by first | exact ne_P_Q.out | exact Nat.ne_of_lt lt_P_Q.out | exact Nat.ne_of_gt lt_Q_P.out)⟩
  ·rintro x gP ⟨hHeld, hP, oP⟩
   have HP := Lib.hid hP
   have gm_P := Lib.hid oP
   clear hP oP
   refine wpAnyH_ready (rs := [3, 5]) (by kernel_rfl) (by simp) ?_
   refine AllReadyH.cons rfl (fun K hK => ?_) ?_
   ·go_simp
    refine (cQ _ (hHeld.tabs HT.out)).mono ?_
    rintro e y ⟨rfl, un⟩
    replace hHeld := hHeld.call un
    (try replace HP := Lib.hid (HP.out.call un))
    (try replace HQ := Lib.hid (HQ.out.call un))
    clear un
    refine hK.out _ _ hHeld (fun hX => ?_)
    clear hK K hX
    (try simp only [fl])
    (try clear x)
    rename World => x
    exact t3 x gP ⟨hHeld, HP.out, gm_P.out⟩
   refine AllReadyH.cons rfl (fun K hK => ?_) AllReadyH.nil
   go_simp
   refine hK.out _ (x.alloc (.cells #[.int .i64 0, .bool false, .string ⟨#[]⟩, .int .i64 0] 69)) (hHeld.alloc _) (fun hX => ?_)
   clear hK K hX
   (try simp only [fl])
   have gm_Q := Lib.hid hHeld.fresh
   replace hHeld := hHeld.alloc (.cells #[.int .i64 0, .bool false, .string ⟨#[]⟩, .int .i64 0] 69)
   (try have lt_P_Q := Lib.hid HP.out.lt)
   (try replace HP := Lib.hid (HP.out.alloc (.cells #[.int .i64 0, .bool false, .string ⟨#[]⟩, .int .i64 0] 69)))
   have HQ := Lib.hid (HasL.new x [.int .i64 0, .bool false, .string ⟨#[]⟩, .int .i64 0] 69)
   generalize hyy : x.alloc (.cells #[.int .i64 0, .bool false, .string ⟨#[]⟩, .int .i64 0] 69) = y at *
   clear hyy
   generalize hgg : x.heap.size = gQ at *
   clear hgg
   (try clear x)
   rename World => x
   exact t6 x gP gQ ⟨hHeld, HP.out, gm_P.out, HQ.out, gm_Q.out, (by first | exact ne_P_Q.out | exact Nat.ne_of_lt lt_P_Q.out | exact Nat.ne_of_gt lt_Q_P.out)⟩
  ·rintro x gP gQ ⟨hHeld, hP, oP, hQ, oQ, nPQ⟩
   have HP := Lib.hid hP
   have gm_P := Lib.hid oP
   clear hP oP
   have HQ := Lib.hid hQ
   have gm_Q := Lib.hid oQ
   clear hQ oQ
   have ne_P_Q := Lib.hid nPQ
   clear nPQ
   refine wpAnyH_ready (rs := [3]) (by kernel_rfl) (by simp) ?_
   refine AllReadyH.cons rfl (fun K hK => ?_) AllReadyH.nil
   go_simp
   refine (cQ _ (hHeld.tabs HT.out)).mono ?_
   rintro e y ⟨rfl, un⟩
   replace hHeld := hHeld.call un
   (try replace HP := Lib.hid (HP.out.call un))
   (try replace HQ := Lib.hid (HQ.out.call un))
   clear un
   refine hK.out _ _ hHeld (fun hX => ?_)
   clear hK K hX
   (try simp only [fl])
   (try clear x)
   rename World => x
   exact t2 x gP gQ ⟨hHeld, HP.out, gm_P.out, HQ.out, gm_Q.out, (by first | exact ne_P_Q.out | exact Nat.ne_of_lt lt_P_Q.out | exact Nat.ne_of_gt lt_Q_P.out)⟩
  ·rintro x hHeld
   refine wpAnyH_ready (rs := [4, 5]) (by kernel_rfl) (by simp) ?_
   refine AllReadyH.cons rfl (fun K hK => ?_) ?_
   ·go_simp
    refine hK.out _ (x.alloc (.cells #[.int .i64 0, .bool false, .string ⟨#[]⟩, .int .i64 0] 69)) (hHeld.alloc _) (fun hX => ?_)
    clear hK K hX
    (try simp only [fl])
    have gm_P := Lib.hid hHeld.fresh
    replace hHeld := hHeld.alloc (.cells #[.int .i64 0, .bool false, .string ⟨#[]⟩, .int .i64 0] 69)
    (try have lt_Q_P := Lib.hid HQ.out.lt)
    (try replace HQ := Lib.hid (HQ.out.alloc (.cells #[.int .i64 0, .bool false, .string ⟨#[]⟩, .int .i64 0] 69)))
    have HP := Lib.hid (HasL.new x [.int .i64 0, .bool false, .string ⟨#[]⟩, .int .i64 0] 69)
    generalize hyy : x.alloc (.cells #[.int .i64 0, .bool false, .string ⟨#[]⟩, .int .i64 0] 69) = y at *
    clear hyy
    generalize hgg : x.heap.size = gP at *
    clear hgg
    (try clear x)
    rename World => x
    exact t3 x gP ⟨hHeld, HP.out, gm_P.out⟩
   refine AllReadyH.cons rfl (fun K hK => ?_) AllReadyH.nil
   go_simp
   refine hK.out _ (x.alloc (.cells #[.int .i64 0, .bool false, .string ⟨#[]⟩, .int .i64 0] 69)) (hHeld.alloc _) (fun hX => ?_)
   clear hK K hX
   (try simp only [fl])
   have gm_Q := Lib.hid hHeld.fresh
   replace hHeld := hHeld.alloc (.cells #[.int .i64 0, .bool false, .string ⟨#[]⟩, .int .i64 0] 69)
   (try have lt_P_Q := Lib.hid HP.out.lt)
   (try replace HP := Lib.hid (HP.out.alloc (.cells #[.int .i64 0, .bool false, .string ⟨#[]⟩, .int .i64 0] 69)))
   have HQ := Lib.hid (HasL.new x [.int .i64 0, .bool false, .string ⟨#[]⟩, .int .i64 0] 69)
   generalize hyy : x.alloc (.cells #[.int .i64 0, .bool false, .string ⟨#[]⟩, .int .i64 0] 69) = y at *
   clear hyy
   generalize hgg : x.heap.size = gQ at *
   clear hgg
   (try clear x)
   rename World => x
   exact t4 x gQ ⟨hHeld, HQ.out, gm_Q.out⟩
  ·rintro x gQ ⟨hHeld, hQ, oQ⟩
   have HQ := Lib.hid hQ
   have gm_Q := Lib.hid oQ
   clear hQ oQ
   refine wpAnyH_ready (rs := [4]) (by kernel_rfl) (by simp) ?_
   refine AllReadyH.cons rfl (fun K hK => ?_) AllReadyH.nil
   go_simp
   refine hK.out _ (x.alloc (.cells #[.int .i64 0, .bool false, .string ⟨#[]⟩, .int .i64 0] 69)) (hHeld.alloc _) (fun hX => ?_)
   clear hK K hX
   (try simp only [fl])
   have gm_P := Lib.hid hHeld.fresh
   replace hHeld := hHeld.alloc (.cells #[.int .i64 0, .bool false, .string ⟨#[]⟩, .int .i64 0] 69)
   (try have lt_Q_P := Lib.hid HQ.out.lt)
   (try replace HQ := Lib.hid (HQ.out.alloc (.cells #[.int .i64 0, .bool false, .string ⟨#[]⟩, .int .i64 0] 69)))
   have HP := Lib.hid (HasL.new x [.int .i64 0, .bool false, .string ⟨#[]⟩, .int .i64 0] 69)
   generalize hyy : x.alloc (.cells #[.int .i64 0, .bool false, .string ⟨#[]⟩, .int .i64 0] 69) = y at *
   clear hyy
   generalize hgg : x.heap.size = gP at *
   clear hgg
   (try clear x)
   rename World => x
   exact t2 x gP gQ ⟨hHeld, HP.out, gm_P.out, HQ.out, gm_Q.out, (by first | exact ne_P_Q.out | exact Nat.ne_of_lt lt_P_Q.out | exact Nat.ne_of_gt lt_Q_P.out)⟩
  ·rintro x gP ⟨hHeld, hP, oP⟩
   have HP := Lib.hid hP
   have gm_P := Lib.hid oP
   clear hP oP
   refine wpAnyH_ready (rs := [5]) (by kernel_rfl) (by simp) ?_
   refine AllReadyH.cons rfl (fun K hK => ?_) AllReadyH.nil
   go_simp
   refine hK.out _ (x.alloc (.cells #[.int .i64 0, .bool false, .string ⟨#[]⟩, .int .i64 0] 69)) (hHeld.alloc _) (fun hX => ?_)
   clear hK K hX
   (try simp only [fl])
   have gm_Q := Lib.hid hHeld.fresh
   replace hHeld := hHeld.alloc (.cells #[.int .i64 0, .bool false, .string ⟨#[]⟩, .int .i64 0] 69)
   (try have lt_P_Q := Lib.hid HP.out.lt)
   (try replace HP := Lib.hid (HP.out.alloc (.cells #[.int .i64 0, .bool false, .string ⟨#[]⟩, .int .i64 0] 69)))
   have HQ := Lib.hid (HasL.new x [.int .i64 0, .bool false, .string ⟨#[]⟩, .int .i64 0] 69)
   generalize hyy : x.alloc (.cells #[.int .i64 0, .bool false, .string ⟨#[]⟩, .int .i64 0] 69) = y at *
   clear hyy
   generalize hgg : x.heap.size = gQ at *
   clear hgg
   (try clear x)
   rename World => x
   exact t2 x gP gQ ⟨hHeld, HP.out, gm_P.out, HQ.out, gm_Q.out, (by first | exact ne_P_Q.out | exact Nat.ne_of_lt lt_P_Q.out | exact Nat.ne_of_gt lt_Q_P.out)⟩
  ·rintro x gP gQ ⟨hHeld, hP, oP, hQ, oQ, nPQ⟩
   have HP := Lib.hid hP
   have gm_P := Lib.hid oP
   clear hP oP
   have HQ := Lib.hid hQ
   have gm_Q := Lib.hid oQ
   clear hQ oQ
   have ne_P_Q := Lib.hid nPQ
   clear nPQ
   refine wpAnyH_ready (rs := [6]) (by kernel_rfl) (by simp) ?_
   refine AllReadyH.cons rfl (fun K hK => ?_) AllReadyH.nil
   obtain ⟨y0, y1, y2, y3⟩ := HP.out.all4
   obtain ⟨z0, z1, z2, z3⟩ := HP.out.free4
   go_simp
   refine hK.out _ (setL x gP 0 [.int .i64 P.w, .bool P.f.neg, .string P.f.ds, .int .i64 P.f.sc]) (hHeld.far gm_P.out _ _) (fun hX => ?_)
   clear hK K hX
   (try simp only [fl])
   clear y0 z0 y1 z1 y2 z2 y3 z3
   replace HP := Lib.hid (HP.out.setL [.int .i64 P.w, .bool P.f.neg, .string P.f.ds, .int .i64 P.f.sc] rfl)
   (try replace HQ := Lib.hid (HQ.out.farL (by first | exact Nat.ne_of_gt lt_Q_P.out | exact Nat.ne_of_lt lt_P_Q.out | exact ne_P_Q.out | exact fun q => ne_Q_P.out q.symm) 0 [.int .i64 P.w, .bool P.f.neg, .string P.f.ds, .int .i64 P.f.sc]))
   replace hHeld := hHeld.far gm_P.out 0 [.int .i64 P.w, .bool P.f.neg, .string P.f.ds, .int .i64 P.f.sc]
   generalize hyy : setL x gP 0 [.int .i64 P.w, .bool P.f.neg, .string P.f.ds, .int .i64 P.f.sc] = y at *
   clear hyy
   (try clear x)
   rename World => x
   exact t1 x gP gQ ⟨hHeld, HP.out, gm_P.out, HQ.out, gm_Q.out, (by first | exact ne_P_Q.out | exact Nat.ne_of_lt lt_P_Q.out | exact Nat.ne_of_gt lt_Q_P.out)⟩
  ·rintro x gP gQ ⟨hHeld, hP, oP, hQ, oQ, nPQ⟩
   have HP := Lib.hid hP
   have gm_P := Lib.hid oP
   clear hP oP
   have HQ := Lib.hid hQ
   have gm_Q := Lib.hid oQ
   clear hQ oQ
   have ne_P_Q := Lib.hid nPQ
   clear nPQ
   refine wpAnyH_ready (rs := [7]) (by kernel_rfl) (by simp) ?_
   refine AllReadyH.cons rfl (fun K hK => ?_) AllReadyH.nil
   obtain ⟨y0, y1, y2, y3⟩ := HQ.out.all4
   obtain ⟨z0, z1, z2, z3⟩ := HQ.out.free4
   go_simp
   refine hK.out _ (setL x gQ 0 [.int .i64 Q.w, .bool Q.f.neg, .string Q.f.ds, .int .i64 Q.f.sc]) (hHeld.far gm_Q.out _ _) (fun hX => ?_)
   clear hK K hX
   (try simp only [fl])
   clear y0 z0 y1 z1 y2 z2 y3 z3
   (try replace HP := Lib.hid (HP.out.farL (by first | exact Nat.ne_of_gt lt_P_Q.out | exact Nat.ne_of_lt lt_Q_P.out | exact ne_Q_P.out | exact fun q => ne_P_Q.out q.symm) 0 [.int .i64 Q.w, .bool Q.f.neg, .string Q.f.ds, .int .i64 Q.f.sc]))
   replace HQ := Lib.hid (HQ.out.setL [.int .i64 Q.w, .bool Q.f.neg, .string Q.f.ds, .int .i64 Q.f.sc] rfl)
   replace hHeld := hHeld.far gm_Q.out 0 [.int .i64 Q.w, .bool Q.f.neg, .string Q.f.ds, .int .i64 Q.f.sc]
   generalize hyy : setL x gQ 0 [.int .i64 Q.w, .bool Q.f.neg, .string Q.f.ds, .int .i64 Q.f.sc] = y at *
   clear hyy
   (try clear x)
   rename World => x
   exact t0 x gP gQ ⟨hHeld, HP.out, gm_P.out, HQ.out, gm_Q.out, (by first | exact ne_P_Q.out | exact Nat.ne_of_lt lt_P_Q.out | exact Nat.ne_of_gt lt_Q_P.out)⟩
  ·rintro x gP gQ ⟨hHeld, hP, oP, hQ, oQ, nPQ⟩
   have HP := Lib.hid hP
   have gm_P := Lib.hid oP
   clear hP oP
   have HQ := Lib.hid hQ
   have gm_Q := Lib.hid oQ
   clear hQ oQ
   have ne_P_Q := Lib.hid nPQ
   clear nPQ
   refine wpAnyH_done (by kernel_rfl) ?_ _
   have HS := Lib.hid hHeld
   clear hHeld
   go_wp2_with fail
   go_meet
   exact ⟨gP, gQ, rfl, rfl, HS.out.end2 HP.out gm_P.out HQ.out gm_Q.out ne_P_Q.out⟩
 case rest =>
  clear HS
  obtain ⟨g, h, rfl, rfl, hS⟩ := hcut
  have HS := Lib.hid hS
  clear hS
  cases zq
  rotate_left
  ·have d0_9 := (HS.out.at 0 rfl).cell 9 rfl
   have d1_9 := (HS.out.at 1 rfl).cell 9 rfl
   obtain ⟨d2_0, d2_1, d2_2, d2_3⟩ := (HS.out.at 2 rfl).all4
   obtain ⟨d3_0, d3_1, d3_2, d3_3⟩ := (HS.out.at 3 rfl).all4
   go_wp2_with fail
   refine (cC _ (HS.out.tabs HT.out)).mono ?_
   rintro e w1 ⟨rfl, b1⟩
   replace HS := Lib.hid (HS.out.call b1)
   clear d0_9 d1_9 d2_0 d2_1 d2_2 d2_3 d3_0 d3_1 d3_2 d3_3 b1
   go_wp2
   refine bodyPost_ret (v := _) ?_ rfl ⟨rfl, HS.out.old⟩
   simp [results, Tryz.results19, go_sem, resQ]
  have d0_9 := (HS.out.at 0 rfl).cell 9 rfl
  have d1_9 := (HS.out.at 1 rfl).cell 9 rfl
  go_upto_region 6 with fail
  clear d0_9 d1_9
  refine wp_region_held_drew (S := KD w _) (by kernel_rfl) HS.out.drew1 (fun hHeld => ?_)
  clear HS
  generalize World.drew wc = x at *
  refine tk (v := ?_) 0 hHeld ?_ ?_
  rotate_left
  focus (intro w hSw; obtain ⟨c0, c1, c2, c3⟩ := (hSw.at 2 rfl).all4; clear hSw; go_simp; (try with_reducible rfl))
  (try simp only [fl])
  refine tk (v := ?_) 2 hHeld ?_ ?_
  rotate_left
  focus (intro w hSw; obtain ⟨c0, c1, c2, c3⟩ := (hSw.at 3 rfl).all4; clear hSw; go_simp; (try with_reducible rfl))
  (try simp only [fl])
  refine wpAnyH_ready (rs := [1]) (by kernel_rfl) (by simp) ?_
  refine AllReadyH.cons rfl (fun K hK => ?_) AllReadyH.nil
  go_simp
  refine (cL _).mono ?_
  rintro e y ⟨rfl, un⟩
  replace hHeld := hHeld.call un
  clear un
  refine hK.out _ _ hHeld (fun hX => ?_)
  clear hK K hX
  (try simp only [fl])
  (try clear x)
  rename World => x
  refine wpAnyH_ready (rs := [3]) (by kernel_rfl) (by simp) ?_
  refine AllReadyH.cons rfl (fun K hK => ?_) AllReadyH.nil
  go_simp
  refine (cX _ (hHeld.tabs HT.out)).mono ?_
  rintro e y ⟨rfl, un⟩
  replace hHeld := hHeld.call un
  clear un
  refine hK.out _ _ hHeld (fun hX => ?_)
  clear hK K hX
  (try simp only [fl])
  (try clear x)
  rename World => x
  refine tk (v := ?_) 4 hHeld ?_ ?_
  rotate_left
  focus (intro w hSw; clear hSw; go_simp; (try with_reducible rfl))
  (try simp only [fl])
  refine wpAnyH_done (by kernel_rfl) ?_ _
  have HS := Lib.hid hHeld
  clear hHeld
  cases c1
  rotate_left
  ·go_wp2
   refine bodyPost_ret (v := _) ?_ rfl ⟨rfl, HS.out.old⟩
   simp [results, Tryz.results19, go_sem, resQ]
  go_upto_region 8 with fail
  refine wp_region_held_drew (S := KD w _) (by kernel_rfl) HS.out.drew1 (fun hHeld => ?_)
  clear HS
  generalize World.drew x = x at *
  refine tk (v := ?_) 0 hHeld ?_ ?_
  rotate_left
  focus (intro w hSw; obtain ⟨c0, c1, c2, c3⟩ := (hSw.at 2 rfl).all4; clear hSw; go_simp; (try with_reducible rfl))
  (try simp only [fl])
  refine tk (v := ?_) 1 hHeld ?_ ?_
  rotate_left
  focus (intro w hSw; obtain ⟨c0, c1, c2, c3⟩ := (hSw.at 3 rfl).all4; clear hSw; go_simp; (try with_reducible rfl))
  (try simp only [fl])
  refine wpAnyH_ready (rs := [2]) (by kernel_rfl) (by simp) ?_
  refine AllReadyH.cons rfl (fun K hK => ?_) AllReadyH.nil
  go_simp
  refine (cM _).mono ?_
  rintro e y ⟨rfl, un⟩
  replace hHeld := hHeld.call un
  clear un
  refine hK.out _ _ hHeld (fun hX => ?_)
  clear hK K hX
  (try simp only [fl])
  (try clear x)
  rename World => x
  refine wpAnyH_ready (rs := [3]) (by kernel_rfl) (by simp) ?_
  refine AllReadyH.cons rfl (fun K hK => ?_) AllReadyH.nil
  go_simp
  refine (cY _ (hHeld.tabs HT.out)).mono ?_
  rintro e y ⟨rfl, un⟩
  replace hHeld := hHeld.call un
  clear un
  refine hK.out _ _ hHeld (fun hX => ?_)
  clear hK K hX
  (try simp only [fl])
  (try clear x)
  rename World => x
  refine tk (v := ?_) 4 hHeld ?_ ?_
  rotate_left
  focus (intro w hSw; clear hSw; go_simp; (try with_reducible rfl))
  (try simp only [fl])
  refine wpAnyH_done (by kernel_rfl) ?_ _
  have HS := Lib.hid hHeld
  clear hHeld
  cases c2
  ·go_wp2
   refine bodyPost_ret (v := _) ?_ rfl ⟨rfl, HS.out.old⟩
   simp [results, Tryz.results19, go_sem, resQ]
  ·go_wp2
   refine bodyPost_ret (v := _) ?_ rfl ⟨rfl, HS.out.old⟩
   simp [results, Tryz.results19, go_sem, resQ]
end Go.Proofs.YtmdnijehoagamaaGreatDoor
