/- SG -/
import Derived.Test.YtmdnijehoagamaaGreatDoorK49
import Derived.Test.YtmdnijehoagamaaGreatDoorK51
set_option linter.unusedVariables false
set_option linter.unusedSimpArgs false
namespace Go.Proofs.YtmdnijehoagamaaGreatDoor
open Go.RowKit
set_option maxRecDepth 100000
set_option maxHeartbeats 8000000
theorem textL_len {m : Mom} (hm : okB m = true) : (textL m).length ≤ 390 := by
  have h := okF hm
  have h1 : (if datedB m.k then dateL m.y m.mo m.d else []).length ≤ 11 := by
    split
    · unfold dateL
      simp only [List.length_append, List.length_cons, twoL_len]
      split <;> simp
    · simp
  have h2 : (if m.k = 3 then [(84 : UInt8)] else []).length ≤ 1 := by split <;> simp
  have h3 : (if timedB m.k then clkL m.h m.mi m.sec else []).length ≤ 80 := by
    cases ht : timedB m.k with
    | false => simp
    | true =>
      obtain ⟨_, _, _, _, hv, _, _⟩ := h.time ht
      obtain ⟨_, p1, p2, _, p4⟩ := sec_parts hv (h.sec_lt ht)
      have h60 := hv.is.le
      have ht2 : (tailL m.sec).length ≤ 61 := by
        unfold tailL
        split
        · rw [List.length_cons, p4]; omega
        · simp
      simp only [if_true]
      unfold clkL secL
      simp only [List.length_append, List.length_cons, twoL_len, List.length_replicate]
      omega
  have h4 : (zoneL m.zd m.z).length ≤ 6 := by
    unfold zoneL
    split
    · split
      · simp
      · simp only [List.length_append, List.length_cons, twoL_len]; omega
    · simp
  unfold textL
  rw [List.length_append, List.length_append, List.length_append]
  omega
theorem laws6_a (a b c : Mom) (h : (300 : Int) < (a.sec.ds.size : Int)) (w : World) (hT : Tabs w) : Calls Tryz.prog 6 #[.agg #[.int .i64 a.k, .int .i64 a.y, .int .i64 a.mo, .int .i64 a.d, .int .i64 a.h, .int .i64 a.mi, .bool a.sec.neg, .string a.sec.ds, .int .i64 a.sec.sc, .bool a.zd, .int .i64 a.z], .agg #[.int .i64 b.k, .int .i64 b.y, .int .i64 b.mo, .int .i64 b.d, .int .i64 b.h, .int .i64 b.mi, .bool b.sec.neg, .string b.sec.ds, .int .i64 b.sec.sc, .bool b.zd, .int .i64 b.z], .agg #[.int .i64 c.k, .int .i64 c.y, .int .i64 c.mo, .int .i64 c.d, .int .i64 c.h, .int .i64 c.mi, .bool c.sec.neg, .string c.sec.ds, .int .i64 c.sec.sc, .bool c.zd, .int .i64 c.z]] w fun e w' => e = .returned (.bool true) ∧ Below w.heap.size w w' := by
  have HS := Lib.hid ((((KD.nil w).push [.int .i64 a.k, .int .i64 a.y, .int .i64 a.mo, .int .i64 a.d, .int .i64 a.h, .int .i64 a.mi, .bool a.sec.neg, .string a.sec.ds, .int .i64 a.sec.sc, .bool a.zd, .int .i64 a.z] 25 (n := w.heap.size) (by simp)).push [.int .i64 b.k, .int .i64 b.y, .int .i64 b.mo, .int .i64 b.d, .int .i64 b.h, .int .i64 b.mi, .bool b.sec.neg, .string b.sec.ds, .int .i64 b.sec.sc, .bool b.zd, .int .i64 b.z] 25 (n := w.heap.size + 1) (by simp)).push [.int .i64 c.k, .int .i64 c.y, .int .i64 c.mo, .int .i64 c.d, .int .i64 c.h, .int .i64 c.mi, .bool c.sec.neg, .string c.sec.ds, .int .i64 c.sec.sc, .bool c.zd, .int .i64 c.z] 25 (n := w.heap.size + 1 + 1) (by simp))
  have HT := Lib.hid hT
  clear hT
  have d0_7 := (HS.out.at 0 rfl).cell 7 rfl
  go_enter Tryz.func6, Tryz.ntmps6
  go_wp2_with fail
  refine (shown6 _ (HS.out.tabs HT.out)).mono ?_
  rintro e w1 ⟨rfl, b1⟩
  replace HS := Lib.hid (HS.out.call b1)
  clear d0_7 b1
  go_wp2
  go_ret
  exact ⟨rfl, HS.out.old⟩
theorem laws6_b (a b c : Mom) (g1 : ¬ (300 : Int) < (a.sec.ds.size : Int)) (h : (300 : Int) < (b.sec.ds.size : Int)) (w : World) (hT : Tabs w) : Calls Tryz.prog 6 #[.agg #[.int .i64 a.k, .int .i64 a.y, .int .i64 a.mo, .int .i64 a.d, .int .i64 a.h, .int .i64 a.mi, .bool a.sec.neg, .string a.sec.ds, .int .i64 a.sec.sc, .bool a.zd, .int .i64 a.z], .agg #[.int .i64 b.k, .int .i64 b.y, .int .i64 b.mo, .int .i64 b.d, .int .i64 b.h, .int .i64 b.mi, .bool b.sec.neg, .string b.sec.ds, .int .i64 b.sec.sc, .bool b.zd, .int .i64 b.z], .agg #[.int .i64 c.k, .int .i64 c.y, .int .i64 c.mo, .int .i64 c.d, .int .i64 c.h, .int .i64 c.mi, .bool c.sec.neg, .string c.sec.ds, .int .i64 c.sec.sc, .bool c.zd, .int .i64 c.z]] w fun e w' => e = .returned (.bool true) ∧ Below w.heap.size w w' := by
  have HS := Lib.hid ((((KD.nil w).push [.int .i64 a.k, .int .i64 a.y, .int .i64 a.mo, .int .i64 a.d, .int .i64 a.h, .int .i64 a.mi, .bool a.sec.neg, .string a.sec.ds, .int .i64 a.sec.sc, .bool a.zd, .int .i64 a.z] 25 (n := w.heap.size) (by simp)).push [.int .i64 b.k, .int .i64 b.y, .int .i64 b.mo, .int .i64 b.d, .int .i64 b.h, .int .i64 b.mi, .bool b.sec.neg, .string b.sec.ds, .int .i64 b.sec.sc, .bool b.zd, .int .i64 b.z] 25 (n := w.heap.size + 1) (by simp)).push [.int .i64 c.k, .int .i64 c.y, .int .i64 c.mo, .int .i64 c.d, .int .i64 c.h, .int .i64 c.mi, .bool c.sec.neg, .string c.sec.ds, .int .i64 c.sec.sc, .bool c.zd, .int .i64 c.z] 25 (n := w.heap.size + 1 + 1) (by simp))
  have HT := Lib.hid hT
  clear hT
  have d0_7 := (HS.out.at 0 rfl).cell 7 rfl
  have d1_7 := (HS.out.at 1 rfl).cell 7 rfl
  go_enter Tryz.func6, Tryz.ntmps6
  go_wp2_with fail
  refine (shown6 _ (HS.out.tabs HT.out)).mono ?_
  rintro e w1 ⟨rfl, b1⟩
  replace HS := Lib.hid (HS.out.call b1)
  clear d0_7 d1_7 b1
  go_wp2
  go_ret
  exact ⟨rfl, HS.out.old⟩
theorem laws6_c (a b c : Mom) (g1 : ¬ (300 : Int) < (a.sec.ds.size : Int)) (g2 : ¬ (300 : Int) < (b.sec.ds.size : Int)) (h : (300 : Int) < (c.sec.ds.size : Int)) (w : World) (hT : Tabs w) : Calls Tryz.prog 6 #[.agg #[.int .i64 a.k, .int .i64 a.y, .int .i64 a.mo, .int .i64 a.d, .int .i64 a.h, .int .i64 a.mi, .bool a.sec.neg, .string a.sec.ds, .int .i64 a.sec.sc, .bool a.zd, .int .i64 a.z], .agg #[.int .i64 b.k, .int .i64 b.y, .int .i64 b.mo, .int .i64 b.d, .int .i64 b.h, .int .i64 b.mi, .bool b.sec.neg, .string b.sec.ds, .int .i64 b.sec.sc, .bool b.zd, .int .i64 b.z], .agg #[.int .i64 c.k, .int .i64 c.y, .int .i64 c.mo, .int .i64 c.d, .int .i64 c.h, .int .i64 c.mi, .bool c.sec.neg, .string c.sec.ds, .int .i64 c.sec.sc, .bool c.zd, .int .i64 c.z]] w fun e w' => e = .returned (.bool true) ∧ Below w.heap.size w w' := by
  have HS := Lib.hid ((((KD.nil w).push [.int .i64 a.k, .int .i64 a.y, .int .i64 a.mo, .int .i64 a.d, .int .i64 a.h, .int .i64 a.mi, .bool a.sec.neg, .string a.sec.ds, .int .i64 a.sec.sc, .bool a.zd, .int .i64 a.z] 25 (n := w.heap.size) (by simp)).push [.int .i64 b.k, .int .i64 b.y, .int .i64 b.mo, .int .i64 b.d, .int .i64 b.h, .int .i64 b.mi, .bool b.sec.neg, .string b.sec.ds, .int .i64 b.sec.sc, .bool b.zd, .int .i64 b.z] 25 (n := w.heap.size + 1) (by simp)).push [.int .i64 c.k, .int .i64 c.y, .int .i64 c.mo, .int .i64 c.d, .int .i64 c.h, .int .i64 c.mi, .bool c.sec.neg, .string c.sec.ds, .int .i64 c.sec.sc, .bool c.zd, .int .i64 c.z] 25 (n := w.heap.size + 1 + 1) (by simp))
  have HT := Lib.hid hT
  clear hT
  have d0_7 := (HS.out.at 0 rfl).cell 7 rfl
  have d1_7 := (HS.out.at 1 rfl).cell 7 rfl
  have d2_7 := (HS.out.at 2 rfl).cell 7 rfl
  go_enter Tryz.func6, Tryz.ntmps6
  go_wp2_with fail
  refine (shown6 _ (HS.out.tabs HT.out)).mono ?_
  rintro e w1 ⟨rfl, b1⟩
  replace HS := Lib.hid (HS.out.call b1)
  clear d0_7 d1_7 d2_7 b1
  go_wp2
  go_ret
  exact ⟨rfl, HS.out.old⟩
theorem laws6_d (a b c : Mom) (g1 : ¬ (300 : Int) < (a.sec.ds.size : Int)) (g2 : ¬ (300 : Int) < (b.sec.ds.size : Int)) (g3 : ¬ (300 : Int) < (c.sec.ds.size : Int))
    (cC : ∀ W, Tabs W → Calls Tryz.prog 13 #[.agg #[.int .i64 a.k, .int .i64 a.y, .int .i64 a.mo, .int .i64 a.d, .int .i64 a.h, .int .i64 a.mi, .bool a.sec.neg, .string a.sec.ds, .int .i64 a.sec.sc, .bool a.zd, .int .i64 a.z]] W fun e w' => e = .returned (.int .i64 2) ∧ Below W.heap.size W w')
    (w : World) (hT : Tabs w) : Calls Tryz.prog 6 #[.agg #[.int .i64 a.k, .int .i64 a.y, .int .i64 a.mo, .int .i64 a.d, .int .i64 a.h, .int .i64 a.mi, .bool a.sec.neg, .string a.sec.ds, .int .i64 a.sec.sc, .bool a.zd, .int .i64 a.z], .agg #[.int .i64 b.k, .int .i64 b.y, .int .i64 b.mo, .int .i64 b.d, .int .i64 b.h, .int .i64 b.mi, .bool b.sec.neg, .string b.sec.ds, .int .i64 b.sec.sc, .bool b.zd, .int .i64 b.z], .agg #[.int .i64 c.k, .int .i64 c.y, .int .i64 c.mo, .int .i64 c.d, .int .i64 c.h, .int .i64 c.mi, .bool c.sec.neg, .string c.sec.ds, .int .i64 c.sec.sc, .bool c.zd, .int .i64 c.z]] w fun e w' => e = .returned (.bool true) ∧ Below w.heap.size w w' := by
  have HS := Lib.hid ((((KD.nil w).push [.int .i64 a.k, .int .i64 a.y, .int .i64 a.mo, .int .i64 a.d, .int .i64 a.h, .int .i64 a.mi, .bool a.sec.neg, .string a.sec.ds, .int .i64 a.sec.sc, .bool a.zd, .int .i64 a.z] 25 (n := w.heap.size) (by simp)).push [.int .i64 b.k, .int .i64 b.y, .int .i64 b.mo, .int .i64 b.d, .int .i64 b.h, .int .i64 b.mi, .bool b.sec.neg, .string b.sec.ds, .int .i64 b.sec.sc, .bool b.zd, .int .i64 b.z] 25 (n := w.heap.size + 1) (by simp)).push [.int .i64 c.k, .int .i64 c.y, .int .i64 c.mo, .int .i64 c.d, .int .i64 c.h, .int .i64 c.mi, .bool c.sec.neg, .string c.sec.ds, .int .i64 c.sec.sc, .bool c.zd, .int .i64 c.z] 25 (n := w.heap.size + 1 + 1) (by simp))
  have HT := Lib.hid hT
  clear hT
  go_enter Tryz.func6, Tryz.ntmps6
  obtain ⟨d0_0, d0_1, d0_2, d0_3, d0_4, d0_5, d0_6, d0_7, d0_8, d0_9, d0_10⟩ := (HS.out.at 0 rfl).all11
  have d1_7 := (HS.out.at 1 rfl).cell 7 rfl
  have d2_7 := (HS.out.at 2 rfl).cell 7 rfl
  go_wp2_with fail
  refine (cC _ (HS.out.tabs HT.out)).mono ?_
  rintro e w1 ⟨rfl, b1⟩
  replace HS := Lib.hid (HS.out.call b1)
  clear d0_0 d0_1 d0_2 d0_3 d0_4 d0_5 d0_6 d0_7 d0_8 d0_9 d0_10 d1_7 d2_7 b1
  go_wp2_with fail
  refine (shown6 _ (HS.out.tabs HT.out)).mono ?_
  rintro e w2 ⟨rfl, b1⟩
  replace HS := Lib.hid (HS.out.call b1)
  clear b1
  go_wp2
  go_ret
  exact ⟨rfl, HS.out.old⟩
theorem laws6_e (a b c : Mom) (T : ByteArray) (x y t : Bool) (n : Int) (g1 : ¬ (300 : Int) < (a.sec.ds.size : Int)) (g2 : ¬ (300 : Int) < (b.sec.ds.size : Int)) (g3 : ¬ (300 : Int) < (c.sec.ds.size : Int)) (hn : t = true → n < 0)
    (cC : ∀ W, Tabs W → Calls Tryz.prog 13 #[.agg #[.int .i64 a.k, .int .i64 a.y, .int .i64 a.mo, .int .i64 a.d, .int .i64 a.h, .int .i64 a.mi, .bool a.sec.neg, .string a.sec.ds, .int .i64 a.sec.sc, .bool a.zd, .int .i64 a.z]] W fun e w' => e = .returned (.int .i64 0) ∧ Below W.heap.size W w')
    (cT : ∀ W, Tabs W → Calls Tryz.prog 11 #[.agg #[.int .i64 a.k, .int .i64 a.y, .int .i64 a.mo, .int .i64 a.d, .int .i64 a.h, .int .i64 a.mi, .bool a.sec.neg, .string a.sec.ds, .int .i64 a.sec.sc, .bool a.zd, .int .i64 a.z]] W fun e w' => e = .returned (.tuple #[.string T, .int .i64 0]) ∧ Below W.heap.size W w')
    (cR : ∀ W, Tabs W → Calls Tryz.prog 9 #[.int .i64 a.k, .string T] W fun e w' => e = .returned (.tuple #[.agg #[.int .i64 a.k, .int .i64 a.y, .int .i64 a.mo, .int .i64 a.d, .int .i64 a.h, .int .i64 a.mi, .bool a.sec.neg, .string a.sec.ds, .int .i64 a.sec.sc, .bool a.zd, .int .i64 a.z], .int .i64 0]) ∧ Below W.heap.size W w')
    (cS : ∀ W, Tabs W → Calls Tryz.prog 19 #[.agg #[.int .i64 a.k, .int .i64 a.y, .int .i64 a.mo, .int .i64 a.d, .int .i64 a.h, .int .i64 a.mi, .bool a.sec.neg, .string a.sec.ds, .int .i64 a.sec.sc, .bool a.zd, .int .i64 a.z], .agg #[.int .i64 a.k, .int .i64 a.y, .int .i64 a.mo, .int .i64 a.d, .int .i64 a.h, .int .i64 a.mi, .bool a.sec.neg, .string a.sec.ds, .int .i64 a.sec.sc, .bool a.zd, .int .i64 a.z]] W fun e w' => e = .returned (.tuple #[.int .i64 0, .bool true, .int .i64 0]) ∧ Below W.heap.size W w')
    (cE : ∀ W, Tabs W → Calls Tryz.prog 21 #[.agg #[.int .i64 a.k, .int .i64 a.y, .int .i64 a.mo, .int .i64 a.d, .int .i64 a.h, .int .i64 a.mi, .bool a.sec.neg, .string a.sec.ds, .int .i64 a.sec.sc, .bool a.zd, .int .i64 a.z], .agg #[.int .i64 a.k, .int .i64 a.y, .int .i64 a.mo, .int .i64 a.d, .int .i64 a.h, .int .i64 a.mi, .bool a.sec.neg, .string a.sec.ds, .int .i64 a.sec.sc, .bool a.zd, .int .i64 a.z]] W fun e w' => e = .returned (.tuple #[.bool true, .int .i64 0]) ∧ Below W.heap.size W w')
    (cX : ∀ W, Tabs W → Calls Tryz.prog 25 #[.agg #[.int .i64 a.k, .int .i64 a.y, .int .i64 a.mo, .int .i64 a.d, .int .i64 a.h, .int .i64 a.mi, .bool a.sec.neg, .string a.sec.ds, .int .i64 a.sec.sc, .bool a.zd, .int .i64 a.z], .agg #[.int .i64 b.k, .int .i64 b.y, .int .i64 b.mo, .int .i64 b.d, .int .i64 b.h, .int .i64 b.mi, .bool b.sec.neg, .string b.sec.ds, .int .i64 b.sec.sc, .bool b.zd, .int .i64 b.z]] W fun e w' => e = .returned (.bool x) ∧ Below W.heap.size W w')
    (cB : x = true → ∀ W, Tabs W → Calls Tryz.prog 19 #[.agg #[.int .i64 b.k, .int .i64 b.y, .int .i64 b.mo, .int .i64 b.d, .int .i64 b.h, .int .i64 b.mi, .bool b.sec.neg, .string b.sec.ds, .int .i64 b.sec.sc, .bool b.zd, .int .i64 b.z], .agg #[.int .i64 a.k, .int .i64 a.y, .int .i64 a.mo, .int .i64 a.d, .int .i64 a.h, .int .i64 a.mi, .bool a.sec.neg, .string a.sec.ds, .int .i64 a.sec.sc, .bool a.zd, .int .i64 a.z]] W fun e w' => e = .returned (.tuple #[.int .i64 1, .bool true, .int .i64 0]) ∧ Below W.heap.size W w')
    (cY : x = true → ∀ W, Tabs W → Calls Tryz.prog 25 #[.agg #[.int .i64 b.k, .int .i64 b.y, .int .i64 b.mo, .int .i64 b.d, .int .i64 b.h, .int .i64 b.mi, .bool b.sec.neg, .string b.sec.ds, .int .i64 b.sec.sc, .bool b.zd, .int .i64 b.z], .agg #[.int .i64 c.k, .int .i64 c.y, .int .i64 c.mo, .int .i64 c.d, .int .i64 c.h, .int .i64 c.mi, .bool c.sec.neg, .string c.sec.ds, .int .i64 c.sec.sc, .bool c.zd, .int .i64 c.z]] W fun e w' => e = .returned (.bool y) ∧ Below W.heap.size W w')
    (cZ : x = true → y = true → ∀ W, Tabs W → Calls Tryz.prog 19 #[.agg #[.int .i64 a.k, .int .i64 a.y, .int .i64 a.mo, .int .i64 a.d, .int .i64 a.h, .int .i64 a.mi, .bool a.sec.neg, .string a.sec.ds, .int .i64 a.sec.sc, .bool a.zd, .int .i64 a.z], .agg #[.int .i64 c.k, .int .i64 c.y, .int .i64 c.mo, .int .i64 c.d, .int .i64 c.h, .int .i64 c.mi, .bool c.sec.neg, .string c.sec.ds, .int .i64 c.sec.sc, .bool c.zd, .int .i64 c.z]] W fun e w' => e = .returned (.tuple #[.int .i64 n, .bool t, .int .i64 0]) ∧ Below W.heap.size W w')
    (cQ : x = true → y = true → ∀ W, Tabs W → Calls Tryz.prog 21 #[.agg #[.int .i64 a.k, .int .i64 a.y, .int .i64 a.mo, .int .i64 a.d, .int .i64 a.h, .int .i64 a.mi, .bool a.sec.neg, .string a.sec.ds, .int .i64 a.sec.sc, .bool a.zd, .int .i64 a.z], .agg #[.int .i64 c.k, .int .i64 c.y, .int .i64 c.mo, .int .i64 c.d, .int .i64 c.h, .int .i64 c.mi, .bool c.sec.neg, .string c.sec.ds, .int .i64 c.sec.sc, .bool c.zd, .int .i64 c.z]] W fun e w' => e = .returned (.tuple #[.bool false, .int .i64 0]) ∧ Below W.heap.size W w')
    (w : World) (hT : Tabs w) : Calls Tryz.prog 6 #[.agg #[.int .i64 a.k, .int .i64 a.y, .int .i64 a.mo, .int .i64 a.d, .int .i64 a.h, .int .i64 a.mi, .bool a.sec.neg, .string a.sec.ds, .int .i64 a.sec.sc, .bool a.zd, .int .i64 a.z], .agg #[.int .i64 b.k, .int .i64 b.y, .int .i64 b.mo, .int .i64 b.d, .int .i64 b.h, .int .i64 b.mi, .bool b.sec.neg, .string b.sec.ds, .int .i64 b.sec.sc, .bool b.zd, .int .i64 b.z], .agg #[.int .i64 c.k, .int .i64 c.y, .int .i64 c.mo, .int .i64 c.d, .int .i64 c.h, .int .i64 c.mi, .bool c.sec.neg, .string c.sec.ds, .int .i64 c.sec.sc, .bool c.zd, .int .i64 c.z]] w fun e w' => e = .returned (.bool true) ∧ Below w.heap.size w w' := by
  have HB := Lib.hid cB
  have HY := Lib.hid cY
  have HZ := Lib.hid cZ
  have HQ := Lib.hid cQ
  have HN := Lib.hid hn
  clear cB cY cZ cQ hn
  have HS := Lib.hid ((((KD.nil w).push [.int .i64 a.k, .int .i64 a.y, .int .i64 a.mo, .int .i64 a.d, .int .i64 a.h, .int .i64 a.mi, .bool a.sec.neg, .string a.sec.ds, .int .i64 a.sec.sc, .bool a.zd, .int .i64 a.z] 25 (n := w.heap.size) (by simp)).push [.int .i64 b.k, .int .i64 b.y, .int .i64 b.mo, .int .i64 b.d, .int .i64 b.h, .int .i64 b.mi, .bool b.sec.neg, .string b.sec.ds, .int .i64 b.sec.sc, .bool b.zd, .int .i64 b.z] 25 (n := w.heap.size + 1) (by simp)).push [.int .i64 c.k, .int .i64 c.y, .int .i64 c.mo, .int .i64 c.d, .int .i64 c.h, .int .i64 c.mi, .bool c.sec.neg, .string c.sec.ds, .int .i64 c.sec.sc, .bool c.zd, .int .i64 c.z] 25 (n := w.heap.size + 1 + 1) (by simp))
  have HT := Lib.hid hT
  clear hT
  go_enter Tryz.func6, Tryz.ntmps6
  obtain ⟨d0_0, d0_1, d0_2, d0_3, d0_4, d0_5, d0_6, d0_7, d0_8, d0_9, d0_10⟩ := (HS.out.at 0 rfl).all11
  have d1_7 := (HS.out.at 1 rfl).cell 7 rfl
  have d2_7 := (HS.out.at 2 rfl).cell 7 rfl
  go_wp2_with fail
  refine (cC _ (HS.out.tabs HT.out)).mono ?_
  rintro e w1 ⟨rfl, b1⟩
  replace HS := Lib.hid (HS.out.call b1)
  clear d0_0 d0_1 d0_2 d0_3 d0_4 d0_5 d0_6 d0_7 d0_8 d0_9 d0_10 d1_7 d2_7 b1
  obtain ⟨d0_0, d0_1, d0_2, d0_3, d0_4, d0_5, d0_6, d0_7, d0_8, d0_9, d0_10⟩ := (HS.out.at 0 rfl).all11
  go_wp2_with fail
  refine (cT _ (HS.out.tabs HT.out)).mono ?_
  rintro e w2 ⟨rfl, b1⟩
  replace HS := Lib.hid (HS.out.call b1)
  clear d0_0 d0_1 d0_2 d0_3 d0_4 d0_5 d0_6 d0_7 d0_8 d0_9 d0_10 b1
  have d0_0 := (HS.out.at 0 rfl).cell 0 rfl
  go_wp2_with fail
  refine (cR _ (HS.out.tabs HT.out)).mono ?_
  rintro e w3 ⟨rfl, b1⟩
  replace HS := Lib.hid (HS.out.call b1)
  clear d0_0 b1
  replace HS := Lib.hid (HS.out.push [.int .i64 a.k, .int .i64 a.y, .int .i64 a.mo, .int .i64 a.d, .int .i64 a.h, .int .i64 a.mi, .bool a.sec.neg, .string a.sec.ds, .int .i64 a.sec.sc, .bool a.zd, .int .i64 a.z] 25 rfl)
  obtain ⟨d0_0, d0_1, d0_2, d0_3, d0_4, d0_5, d0_6, d0_7, d0_8, d0_9, d0_10⟩ := (HS.out.at 0 rfl).all11
  go_wp2_with fail
  refine (cS _ (HS.out.tabs HT.out)).mono ?_
  rintro e w4 ⟨rfl, b1⟩
  replace HS := Lib.hid (HS.out.call b1)
  clear d0_0 d0_1 d0_2 d0_3 d0_4 d0_5 d0_6 d0_7 d0_8 d0_9 d0_10 b1
  obtain ⟨d0_0, d0_1, d0_2, d0_3, d0_4, d0_5, d0_6, d0_7, d0_8, d0_9, d0_10⟩ := (HS.out.at 0 rfl).all11
  go_wp2_with fail
  refine (cE _ (HS.out.tabs HT.out)).mono ?_
  rintro e w5 ⟨rfl, b1⟩
  replace HS := Lib.hid (HS.out.call b1)
  clear d0_0 d0_1 d0_2 d0_3 d0_4 d0_5 d0_6 d0_7 d0_8 d0_9 d0_10 b1
  obtain ⟨d0_0, d0_1, d0_2, d0_3, d0_4, d0_5, d0_6, d0_7, d0_8, d0_9, d0_10⟩ := (HS.out.at 0 rfl).all11
  obtain ⟨d1_0, d1_1, d1_2, d1_3, d1_4, d1_5, d1_6, d1_7, d1_8, d1_9, d1_10⟩ := (HS.out.at 1 rfl).all11
  obtain ⟨d3_0, d3_1, d3_2, d3_3, d3_4, d3_5, d3_6, d3_7, d3_8, d3_9, d3_10⟩ := (HS.out.at 3 rfl).all11
  go_wp2_with fail
  refine (cX _ (HS.out.tabs HT.out)).mono ?_
  rintro e w6 ⟨rfl, b1⟩
  replace HS := Lib.hid (HS.out.call b1)
  clear d0_0 d0_1 d0_2 d0_3 d0_4 d0_5 d0_6 d0_7 d0_8 d0_9 d0_10 d1_0 d1_1 d1_2 d1_3 d1_4 d1_5 d1_6 d1_7 d1_8 d1_9 d1_10 d3_0 d3_1 d3_2 d3_3 d3_4 d3_5 d3_6 d3_7 d3_8 d3_9 d3_10 b1
  cases x
  · go_wp2_with fail
    refine (shown6 _ (HS.out.tabs HT.out)).mono ?_
    rintro e w7 ⟨rfl, b1⟩
    replace HS := Lib.hid (HS.out.call b1)
    clear b1
    go_wp2
    go_ret
    exact ⟨rfl, HS.out.old⟩
  · have cB := HB.out (by simp)
    have cY := HY.out (by simp)
    obtain ⟨d0_0, d0_1, d0_2, d0_3, d0_4, d0_5, d0_6, d0_7, d0_8, d0_9, d0_10⟩ := (HS.out.at 0 rfl).all11
    obtain ⟨d1_0, d1_1, d1_2, d1_3, d1_4, d1_5, d1_6, d1_7, d1_8, d1_9, d1_10⟩ := (HS.out.at 1 rfl).all11
    go_wp2_with fail
    refine (cB _ (HS.out.tabs HT.out)).mono ?_
    rintro e w7 ⟨rfl, b1⟩
    replace HS := Lib.hid (HS.out.call b1)
    clear d0_0 d0_1 d0_2 d0_3 d0_4 d0_5 d0_6 d0_7 d0_8 d0_9 d0_10 d1_0 d1_1 d1_2 d1_3 d1_4 d1_5 d1_6 d1_7 d1_8 d1_9 d1_10 b1
    obtain ⟨d1_0, d1_1, d1_2, d1_3, d1_4, d1_5, d1_6, d1_7, d1_8, d1_9, d1_10⟩ := (HS.out.at 1 rfl).all11
    obtain ⟨d2_0, d2_1, d2_2, d2_3, d2_4, d2_5, d2_6, d2_7, d2_8, d2_9, d2_10⟩ := (HS.out.at 2 rfl).all11
    go_wp2_with fail
    refine (cY _ (HS.out.tabs HT.out)).mono ?_
    rintro e w8 ⟨rfl, b1⟩
    replace HS := Lib.hid (HS.out.call b1)
    clear d1_0 d1_1 d1_2 d1_3 d1_4 d1_5 d1_6 d1_7 d1_8 d1_9 d1_10 d2_0 d2_1 d2_2 d2_3 d2_4 d2_5 d2_6 d2_7 d2_8 d2_9 d2_10 b1
    clear cB cY
    cases y
    · go_wp2_with fail
      refine (shown6 _ (HS.out.tabs HT.out)).mono ?_
      rintro e w9 ⟨rfl, b1⟩
      replace HS := Lib.hid (HS.out.call b1)
      clear b1
      go_wp2
      go_ret
      exact ⟨rfl, HS.out.old⟩
    · have cZ := HZ.out (by simp) (by simp)
      have cQ := HQ.out (by simp) (by simp)
      obtain ⟨d0_0, d0_1, d0_2, d0_3, d0_4, d0_5, d0_6, d0_7, d0_8, d0_9, d0_10⟩ := (HS.out.at 0 rfl).all11
      obtain ⟨d2_0, d2_1, d2_2, d2_3, d2_4, d2_5, d2_6, d2_7, d2_8, d2_9, d2_10⟩ := (HS.out.at 2 rfl).all11
      go_wp2_with fail
      refine (cZ _ (HS.out.tabs HT.out)).mono ?_
      rintro e w9 ⟨rfl, b1⟩
      replace HS := Lib.hid (HS.out.call b1)
      clear d0_0 d0_1 d0_2 d0_3 d0_4 d0_5 d0_6 d0_7 d0_8 d0_9 d0_10 d2_0 d2_1 d2_2 d2_3 d2_4 d2_5 d2_6 d2_7 d2_8 d2_9 d2_10 b1
      obtain ⟨d0_0, d0_1, d0_2, d0_3, d0_4, d0_5, d0_6, d0_7, d0_8, d0_9, d0_10⟩ := (HS.out.at 0 rfl).all11
      obtain ⟨d2_0, d2_1, d2_2, d2_3, d2_4, d2_5, d2_6, d2_7, d2_8, d2_9, d2_10⟩ := (HS.out.at 2 rfl).all11
      go_wp2_with fail
      refine (cQ _ (HS.out.tabs HT.out)).mono ?_
      rintro e w10 ⟨rfl, b1⟩
      replace HS := Lib.hid (HS.out.call b1)
      clear d0_0 d0_1 d0_2 d0_3 d0_4 d0_5 d0_6 d0_7 d0_8 d0_9 d0_10 d2_0 d2_1 d2_2 d2_3 d2_4 d2_5 d2_6 d2_7 d2_8 d2_9 d2_10 b1
      clear cZ cQ
      cases t
      · go_wp2_with fail
        refine (shown6 _ (HS.out.tabs HT.out)).mono ?_
        rintro e w11 ⟨rfl, b1⟩
        replace HS := Lib.hid (HS.out.call b1)
        clear b1
        go_wp2
        go_ret
        exact ⟨rfl, HS.out.old⟩
      · have hn := HN.out (by simp)
        go_wp2_with fail
        refine (shown6 _ (HS.out.tabs HT.out)).mono ?_
        rintro e w11 ⟨rfl, b1⟩
        replace HS := Lib.hid (HS.out.call b1)
        clear b1
        go_wp2
        go_ret
        exact ⟨rfl, HS.out.old⟩
theorem lawLaws6 (a b c : Mom) (w : World) (hT : Tabs w) : Calls Tryz.prog 6 #[a.v, b.v, c.v] w fun e w' => e = .returned (.bool true) ∧ Below w.heap.size w w' := by
  by_cases g1 : (300 : Int) < (a.sec.ds.size : Int)
  · exact laws6_a a b c g1 w hT
  by_cases g2 : (300 : Int) < (b.sec.ds.size : Int)
  · exact laws6_b a b c g1 g2 w hT
  by_cases g3 : (300 : Int) < (c.sec.ds.size : Int)
  · exact laws6_c a b c g1 g2 g3 w hT
  have za : a.sec.ds.size ≤ 400 := by omega
  have zb : b.sec.ds.size ≤ 400 := by omega
  have zc : c.sec.ds.size ≤ 400 := by omega
  have cC := fun W hW => p_check6 a za W hW
  unfold checkS at cC
  cases ho : okB a with
  | false =>
    rw [ho] at cC
    exact laws6_d a b c g1 g2 g3 cC w hT
  | true =>
    rw [ho] at cC
    have cT := fun W hW => p_text6 a za W hW
    have et : textS6 a = (⟨(textL a).toArray⟩, 0) := by unfold textS6; rw [ho]; rfl
    rw [et] at cT
    have cR := fun W hW => p_read6 a.k ⟨(textL a).toArray⟩ (by rw [list_size]; exact textL_len ho) W hW
    rw [bytes_mk, read_back ho] at cR
    obtain ⟨s1, s2⟩ := cmp_self ho
    have cS := fun W hW => p_cmp6 a a za za W hW
    rw [s1] at cS
    have cE := fun W hW => p_equal a a za za W hW
    rw [s2] at cE
    have hor : lessB a b = true → lessB b c = true → (cmpS6 a c).2.2 = 0 ∧ ((cmpS6 a c).2.1 = true → (cmpS6 a c).1 < 0) ∧ eqS6 a c = (false, 0) := by
      intro p q
      obtain ⟨r1, r2⟩ := less_trans p q
      rcases r1 with r | r
      · rw [r]; exact ⟨rfl, fun _ => by decide, r2⟩
      · rw [r]; exact ⟨rfl, (fun g => by cases g), r2⟩
    have hx : lessR (cmpS6 a b) = lessB a b := rfl
    have hy : lessR (cmpS6 b c) = lessB b c := rfl
    refine laws6_e a b c ⟨(textL a).toArray⟩ (lessB a b) (lessB b c) ((cmpS6 a c).2.1 && (lessB a b && lessB b c)) (cmpS6 a c).1 g1 g2 g3 ?_ cC cT cR cS cE (fun W hW => l_before a b za zb W hW) ?_ (fun _ W hW => l_before b c zb zc W hW) ?_ ?_ w hT
    · intro h
      simp only [Bool.and_eq_true] at h
      exact (hor h.2.1 h.2.2).2.1 h.1
    · intro h W hW
      have := p_cmp6 b a zb za W hW
      rw [less_back h] at this
      exact this
    · intro h k W hW
      have := p_cmp6 a c za zc W hW
      rw [(hor h k).1] at this
      rw [h, k, Bool.and_self, Bool.and_true]
      exact this
    · intro h k W hW
      have := p_equal a c za zc W hW
      rw [(hor h k).2.2] at this
      exact this
end Go.Proofs.YtmdnijehoagamaaGreatDoor
