/- The law DecimalSums. -/
import Derived.Test.YtcpociafcjabkaaGreatDoorLE
set_option linter.unusedSimpArgs false
set_option linter.unusedVariables false
namespace Go.Proofs.YtcpociafcjabkaaGreatDoor
open Go.RowKit

set_option maxRecDepth 100000 in
set_option maxHeartbeats 8000000 in
theorem sums_long1 {P : World → Prop} (ok : ProgOk P) (an : Bool) (ad : ByteArray) (ak : Int) (bn : Bool) (bd : ByteArray) (bk : Int) (h : (400 : Int) < (ad.size : Int)) (w : World) (hP : P w) : Calls Tryz.prog 4 #[.agg #[.bool an, .string ad, .int .i64 ak], .agg #[.bool bn, .string bd, .int .i64 bk]] w fun e w' => e = .returned (.bool true) ∧ Below w.heap.size w w' := by
  have HP := Lib.hid hP
  clear hP
  have HA0 : Hid (Has ((w.alloc (.cells #[.bool an, .string ad, .int .i64 ak] 23)).alloc (.cells #[.bool bn, .string bd, .int .i64 bk] 23)) w.heap.size (.bool an) (.string ad) (.int .i64 ak)) := Lib.hid ((Has.new w (.bool an) (.string ad) (.int .i64 ak) 23).alloc (.cells #[.bool bn, .string bd, .int .i64 bk] 23))
  have HB0 : Hid (Has ((w.alloc (.cells #[.bool an, .string ad, .int .i64 ak] 23)).alloc (.cells #[.bool bn, .string bd, .int .i64 bk] 23)) (w.heap.size + 1) (.bool bn) (.string bd) (.int .i64 bk)) := Lib.hid (by have h := (Has.new (w.alloc (.cells #[.bool an, .string ad, .int .i64 ak] 23)) (.bool bn) (.string bd) (.int .i64 bk) 23); simpa using h)
  have HW0 := Lib.hid (stepA (stepA (Below.refl w.heap.size w) (.cells #[.bool an, .string ad, .int .i64 ak] 23)) (.cells #[.bool bn, .string bd, .int .i64 bk] 23))
  go_enter Tryz.func4, Tryz.ntmps4
  have GA := HA0
  have GB := HB0
  have GW := HW0
  clear HA0 HB0 HW0
  obtain ⟨dA0, dA1, dA2, _⟩ := GA.out
  obtain ⟨dB0, dB1, dB2, _⟩ := GB.out
  go_wp2_with fail
  refine (shown_any ok _ (ok.below HP.out GW.out)).mono ?_
  rintro e w1 ⟨rfl, b1⟩
  have HA1 := Lib.hid (GA.out.call b1)
  have HB1 := Lib.hid (GB.out.call b1)
  have HW1 := Lib.hid (step GW.out b1)
  clear b1 GW GA GB dA0 dA1 dA2 dB0 dB1 dB2
  go_wp2
  go_ret
  exact ⟨rfl, HW1.out⟩

set_option maxRecDepth 100000 in
set_option maxHeartbeats 8000000 in
theorem sums_long2 {P : World → Prop} (ok : ProgOk P) (an : Bool) (ad : ByteArray) (ak : Int) (bn : Bool) (bd : ByteArray) (bk : Int) (g : ¬ (400 : Int) < (ad.size : Int)) (h : (400 : Int) < (bd.size : Int)) (w : World) (hP : P w) : Calls Tryz.prog 4 #[.agg #[.bool an, .string ad, .int .i64 ak], .agg #[.bool bn, .string bd, .int .i64 bk]] w fun e w' => e = .returned (.bool true) ∧ Below w.heap.size w w' := by
  have HP := Lib.hid hP
  clear hP
  have HA0 : Hid (Has ((w.alloc (.cells #[.bool an, .string ad, .int .i64 ak] 23)).alloc (.cells #[.bool bn, .string bd, .int .i64 bk] 23)) w.heap.size (.bool an) (.string ad) (.int .i64 ak)) := Lib.hid ((Has.new w (.bool an) (.string ad) (.int .i64 ak) 23).alloc (.cells #[.bool bn, .string bd, .int .i64 bk] 23))
  have HB0 : Hid (Has ((w.alloc (.cells #[.bool an, .string ad, .int .i64 ak] 23)).alloc (.cells #[.bool bn, .string bd, .int .i64 bk] 23)) (w.heap.size + 1) (.bool bn) (.string bd) (.int .i64 bk)) := Lib.hid (by have h := (Has.new (w.alloc (.cells #[.bool an, .string ad, .int .i64 ak] 23)) (.bool bn) (.string bd) (.int .i64 bk) 23); simpa using h)
  have HW0 := Lib.hid (stepA (stepA (Below.refl w.heap.size w) (.cells #[.bool an, .string ad, .int .i64 ak] 23)) (.cells #[.bool bn, .string bd, .int .i64 bk] 23))
  go_enter Tryz.func4, Tryz.ntmps4
  have GA := HA0
  have GB := HB0
  have GW := HW0
  clear HA0 HB0 HW0
  obtain ⟨dA0, dA1, dA2, _⟩ := GA.out
  obtain ⟨dB0, dB1, dB2, _⟩ := GB.out
  go_wp2_with fail
  refine (shown_any ok _ (ok.below HP.out GW.out)).mono ?_
  rintro e w1 ⟨rfl, b1⟩
  have HA1 := Lib.hid (GA.out.call b1)
  have HB1 := Lib.hid (GB.out.call b1)
  have HW1 := Lib.hid (step GW.out b1)
  clear b1 GW GA GB dA0 dA1 dA2 dB0 dB1 dB2
  go_wp2
  go_ret
  exact ⟨rfl, HW1.out⟩

set_option maxRecDepth 100000 in
set_option maxHeartbeats 8000000 in
theorem sums_short {P : World → Prop} (ok : ProgOk P) (an : Bool) (ad : ByteArray) (ak : Int) (bn : Bool) (bd : ByteArray) (bk : Int) (g : ¬ (400 : Int) < (ad.size : Int)) (h : ¬ (400 : Int) < (bd.size : Int)) (w : World) (hP : P w) : Calls Tryz.prog 4 #[.agg #[.bool an, .string ad, .int .i64 ak], .agg #[.bool bn, .string bd, .int .i64 bk]] w fun e w' => e = .returned (.bool true) ∧ Below w.heap.size w w' := by
  have HP := Lib.hid hP
  clear hP
  have za : ad.size ≤ 400 := by omega
  have zb : bd.size ≤ 400 := by omega
  have c1 := fun W => ok.add ⟨an, ad, ak⟩ ⟨bn, bd, bk⟩ W za zb
  have r1 := fun W => r_add ⟨an, ad, ak⟩ ⟨bn, bd, bk⟩ za zb W
  unfold DRes.v at c1 r1
  unfold Dec.v at c1 r1
  simp only at c1 r1
  generalize (addS ⟨an, ad, ak⟩ ⟨bn, bd, bk⟩).d.neg = xn1 at c1 r1
  generalize (addS ⟨an, ad, ak⟩ ⟨bn, bd, bk⟩).d.ds = xd1 at c1 r1
  generalize (addS ⟨an, ad, ak⟩ ⟨bn, bd, bk⟩).d.sc = xk1 at c1 r1
  generalize (addS ⟨an, ad, ak⟩ ⟨bn, bd, bk⟩).e = xe1 at c1 r1
  have c2 := fun W => ok.sub ⟨an, ad, ak⟩ ⟨bn, bd, bk⟩ W za zb
  have r2 := fun W => r_sub ⟨an, ad, ak⟩ ⟨bn, bd, bk⟩ za zb W
  unfold DRes.v at c2 r2
  unfold Dec.v at c2 r2
  simp only at c2 r2
  generalize (subS ⟨an, ad, ak⟩ ⟨bn, bd, bk⟩).d.neg = xn2 at c2 r2
  generalize (subS ⟨an, ad, ak⟩ ⟨bn, bd, bk⟩).d.ds = xd2 at c2 r2
  generalize (subS ⟨an, ad, ak⟩ ⟨bn, bd, bk⟩).d.sc = xk2 at c2 r2
  generalize (subS ⟨an, ad, ak⟩ ⟨bn, bd, bk⟩).e = xe2 at c2 r2
  have c3 := fun W => ok.mul ⟨an, ad, ak⟩ ⟨bn, bd, bk⟩ W za zb
  have r3 := fun W => r_mul ⟨an, ad, ak⟩ ⟨bn, bd, bk⟩ za zb W
  unfold DRes.v at c3 r3
  unfold Dec.v at c3 r3
  simp only at c3 r3
  generalize (mulS ⟨an, ad, ak⟩ ⟨bn, bd, bk⟩).d.neg = xn3 at c3 r3
  generalize (mulS ⟨an, ad, ak⟩ ⟨bn, bd, bk⟩).d.ds = xd3 at c3 r3
  generalize (mulS ⟨an, ad, ak⟩ ⟨bn, bd, bk⟩).d.sc = xk3 at c3 r3
  generalize (mulS ⟨an, ad, ak⟩ ⟨bn, bd, bk⟩).e = xe3 at c3 r3
  have c4 := fun W => ok.neg ⟨an, ad, ak⟩ W za
  have r4 := fun W => r_neg ⟨an, ad, ak⟩ za W
  unfold DRes.v at c4 r4
  unfold Dec.v at c4 r4
  simp only at c4 r4
  generalize (negS ⟨an, ad, ak⟩).d.neg = xn4 at c4 r4
  generalize (negS ⟨an, ad, ak⟩).d.ds = xd4 at c4 r4
  generalize (negS ⟨an, ad, ak⟩).d.sc = xk4 at c4 r4
  generalize (negS ⟨an, ad, ak⟩).e = xe4 at c4 r4
  have c5 := fun W => ok.cmp ⟨an, ad, ak⟩ ⟨bn, bd, bk⟩ W za zb
  have r5 := fun W => r_cmp ⟨an, ad, ak⟩ ⟨bn, bd, bk⟩ za zb W
  unfold Dec.v at c5 r5
  simp only at c5 r5
  generalize (cmpS ⟨an, ad, ak⟩ ⟨bn, bd, bk⟩).1 = xm5 at c5 r5
  generalize (cmpS ⟨an, ad, ak⟩ ⟨bn, bd, bk⟩).2 = xe5 at c5 r5
  clear za zb
  have HA0 : Hid (Has ((w.alloc (.cells #[.bool an, .string ad, .int .i64 ak] 23)).alloc (.cells #[.bool bn, .string bd, .int .i64 bk] 23)) w.heap.size (.bool an) (.string ad) (.int .i64 ak)) := Lib.hid ((Has.new w (.bool an) (.string ad) (.int .i64 ak) 23).alloc (.cells #[.bool bn, .string bd, .int .i64 bk] 23))
  have HB0 : Hid (Has ((w.alloc (.cells #[.bool an, .string ad, .int .i64 ak] 23)).alloc (.cells #[.bool bn, .string bd, .int .i64 bk] 23)) (w.heap.size + 1) (.bool bn) (.string bd) (.int .i64 bk)) := Lib.hid (by have h := (Has.new (w.alloc (.cells #[.bool an, .string ad, .int .i64 ak] 23)) (.bool bn) (.string bd) (.int .i64 bk) 23); simpa using h)
  have HW0 := Lib.hid (stepA (stepA (Below.refl w.heap.size w) (.cells #[.bool an, .string ad, .int .i64 ak] 23)) (.cells #[.bool bn, .string bd, .int .i64 bk] 23))
  go_enter Tryz.func4, Tryz.ntmps4
  have GA := HA0
  have GB := HB0
  have GW := HW0
  clear HA0 HB0 HW0
  obtain ⟨dA0, dA1, dA2, _⟩ := GA.out
  obtain ⟨dB0, dB1, dB2, _⟩ := GB.out
  go_wp2_with fail
  refine (c1 _ (ok.below HP.out GW.out)).mono ?_
  rintro e w1 ⟨rfl, b1⟩
  have HA1 := Lib.hid (GA.out.call b1)
  have HB1 := Lib.hid (GB.out.call b1)
  have HW1 := Lib.hid (step GW.out b1)
  clear b1 GW GA GB dA0 dA1 dA2 dB0 dB1 dB2
  have GA := Lib.hid (HA1.out.alloc (.cells #[.bool xn1, .string xd1, .int .i64 xk1] 23))
  have GB := Lib.hid (HB1.out.alloc (.cells #[.bool xn1, .string xd1, .int .i64 xk1] 23))
  have GX := Lib.hid (Has.new w1 (.bool xn1) (.string xd1) (.int .i64 xk1) 23)
  have GW := Lib.hid (stepA HW1.out (.cells #[.bool xn1, .string xd1, .int .i64 xk1] 23))
  have le_X : w.heap.size ≤ w1.heap.size := HW1.out.size
  have ne_X_A : w1.heap.size ≠ w.heap.size := by have := HA1.out.lt; omega
  have nf_X_A : w.heap.size ≠ w1.heap.size := by have := HA1.out.lt; omega
  have ne_X_B : w1.heap.size ≠ (w.heap.size + 1) := by have := HB1.out.lt; omega
  have nf_X_B : (w.heap.size + 1) ≠ w1.heap.size := by have := HB1.out.lt; omega
  clear HA1 HB1 HW1
  obtain ⟨dA0, dA1, dA2, _⟩ := GA.out
  obtain ⟨dB0, dB1, dB2, _⟩ := GB.out
  obtain ⟨dX0, dX1, dX2, _⟩ := GX.out
  go_wp2_with fail
  refine (r1 _).mono ?_
  rintro e w2 ⟨rfl, b2⟩
  have HA2 := Lib.hid (GA.out.call b2)
  have HB2 := Lib.hid (GB.out.call b2)
  have HX2 := Lib.hid (GX.out.call b2)
  have HW2 := Lib.hid (step GW.out b2)
  clear b2 GW GA GB GX dA0 dA1 dA2 dB0 dB1 dB2 dX0 dX1 dX2
  have GA := Lib.hid (HA2.out.alloc (.cells #[.bool xn1, .string xd1, .int .i64 xk1] 23))
  have GB := Lib.hid (HB2.out.alloc (.cells #[.bool xn1, .string xd1, .int .i64 xk1] 23))
  have GX := Lib.hid (HX2.out.alloc (.cells #[.bool xn1, .string xd1, .int .i64 xk1] 23))
  have GY := Lib.hid (Has.new w2 (.bool xn1) (.string xd1) (.int .i64 xk1) 23)
  have GW := Lib.hid (stepA HW2.out (.cells #[.bool xn1, .string xd1, .int .i64 xk1] 23))
  have le_Y : w.heap.size ≤ w2.heap.size := HW2.out.size
  have ne_Y_A : w2.heap.size ≠ w.heap.size := by have := HA2.out.lt; omega
  have nf_Y_A : w.heap.size ≠ w2.heap.size := by have := HA2.out.lt; omega
  have ne_Y_B : w2.heap.size ≠ (w.heap.size + 1) := by have := HB2.out.lt; omega
  have nf_Y_B : (w.heap.size + 1) ≠ w2.heap.size := by have := HB2.out.lt; omega
  have ne_Y_X : w2.heap.size ≠ w1.heap.size := by have := HX2.out.lt; omega
  have nf_Y_X : w1.heap.size ≠ w2.heap.size := by have := HX2.out.lt; omega
  clear HA2 HB2 HX2 HW2
  obtain ⟨dA0, dA1, dA2, _⟩ := GA.out
  obtain ⟨dB0, dB1, dB2, _⟩ := GB.out
  obtain ⟨dX0, dX1, dX2, _⟩ := GX.out
  obtain ⟨dY0, dY1, dY2, _⟩ := GY.out
  go_wp2_with fail
  refine (c2 _ (ok.below HP.out GW.out)).mono ?_
  rintro e w3 ⟨rfl, b3⟩
  have HA3 := Lib.hid (GA.out.call b3)
  have HB3 := Lib.hid (GB.out.call b3)
  have HX3 := Lib.hid (GX.out.call b3)
  have HY3 := Lib.hid (GY.out.call b3)
  have HW3 := Lib.hid (step GW.out b3)
  clear b3 GW GA GB GX GY dA0 dA1 dA2 dB0 dB1 dB2 dX0 dX1 dX2 dY0 dY1 dY2
  obtain ⟨cX0, cX1, cX2, zX0, zX1, zX2, _⟩ := HX3.out
  have GA := Lib.hid (HA3.out.far ne_X_A (.bool xn2) (.string xd2) (.int .i64 xk2))
  have GB := Lib.hid (HB3.out.far ne_X_B (.bool xn2) (.string xd2) (.int .i64 xk2))
  have GX := Lib.hid (HX3.out.set (.bool xn2) (.string xd2) (.int .i64 xk2))
  have GY := Lib.hid (HY3.out.far nf_Y_X (.bool xn2) (.string xd2) (.int .i64 xk2))
  have GW := Lib.hid (stepS HW3.out le_X (.bool xn2) (.string xd2) (.int .i64 xk2))
  clear HA3 HB3 HX3 HY3 HW3
  obtain ⟨dA0, dA1, dA2, _⟩ := GA.out
  obtain ⟨dB0, dB1, dB2, _⟩ := GB.out
  obtain ⟨dX0, dX1, dX2, _⟩ := GX.out
  obtain ⟨dY0, dY1, dY2, _⟩ := GY.out
  go_wp2_with fail
  refine (r2 _).mono ?_
  rintro e w4 ⟨rfl, b4⟩
  have HA4 := Lib.hid (GA.out.call b4)
  have HB4 := Lib.hid (GB.out.call b4)
  have HX4 := Lib.hid (GX.out.call b4)
  have HY4 := Lib.hid (GY.out.call b4)
  have HW4 := Lib.hid (step GW.out b4)
  clear b4 GW GA GB GX GY dA0 dA1 dA2 dB0 dB1 dB2 dX0 dX1 dX2 dY0 dY1 dY2 cX0 cX1 cX2 zX0 zX1 zX2
  obtain ⟨cY0, cY1, cY2, zY0, zY1, zY2, _⟩ := HY4.out
  have GA := Lib.hid (HA4.out.far ne_Y_A (.bool xn2) (.string xd2) (.int .i64 xk2))
  have GB := Lib.hid (HB4.out.far ne_Y_B (.bool xn2) (.string xd2) (.int .i64 xk2))
  have GX := Lib.hid (HX4.out.far ne_Y_X (.bool xn2) (.string xd2) (.int .i64 xk2))
  have GY := Lib.hid (HY4.out.set (.bool xn2) (.string xd2) (.int .i64 xk2))
  have GW := Lib.hid (stepS HW4.out le_Y (.bool xn2) (.string xd2) (.int .i64 xk2))
  clear HA4 HB4 HX4 HY4 HW4
  obtain ⟨dA0, dA1, dA2, _⟩ := GA.out
  obtain ⟨dB0, dB1, dB2, _⟩ := GB.out
  obtain ⟨dX0, dX1, dX2, _⟩ := GX.out
  obtain ⟨dY0, dY1, dY2, _⟩ := GY.out
  go_wp2_with fail
  refine (c3 _ (ok.below HP.out GW.out)).mono ?_
  rintro e w5 ⟨rfl, b5⟩
  have HA5 := Lib.hid (GA.out.call b5)
  have HB5 := Lib.hid (GB.out.call b5)
  have HX5 := Lib.hid (GX.out.call b5)
  have HY5 := Lib.hid (GY.out.call b5)
  have HW5 := Lib.hid (step GW.out b5)
  clear b5 GW GA GB GX GY dA0 dA1 dA2 dB0 dB1 dB2 dX0 dX1 dX2 dY0 dY1 dY2 cY0 cY1 cY2 zY0 zY1 zY2
  obtain ⟨cX0, cX1, cX2, zX0, zX1, zX2, _⟩ := HX5.out
  have GA := Lib.hid (HA5.out.far ne_X_A (.bool xn3) (.string xd3) (.int .i64 xk3))
  have GB := Lib.hid (HB5.out.far ne_X_B (.bool xn3) (.string xd3) (.int .i64 xk3))
  have GX := Lib.hid (HX5.out.set (.bool xn3) (.string xd3) (.int .i64 xk3))
  have GY := Lib.hid (HY5.out.far nf_Y_X (.bool xn3) (.string xd3) (.int .i64 xk3))
  have GW := Lib.hid (stepS HW5.out le_X (.bool xn3) (.string xd3) (.int .i64 xk3))
  clear HA5 HB5 HX5 HY5 HW5
  obtain ⟨dA0, dA1, dA2, _⟩ := GA.out
  obtain ⟨dB0, dB1, dB2, _⟩ := GB.out
  obtain ⟨dX0, dX1, dX2, _⟩ := GX.out
  obtain ⟨dY0, dY1, dY2, _⟩ := GY.out
  go_wp2_with fail
  refine (r3 _).mono ?_
  rintro e w6 ⟨rfl, b6⟩
  have HA6 := Lib.hid (GA.out.call b6)
  have HB6 := Lib.hid (GB.out.call b6)
  have HX6 := Lib.hid (GX.out.call b6)
  have HY6 := Lib.hid (GY.out.call b6)
  have HW6 := Lib.hid (step GW.out b6)
  clear b6 GW GA GB GX GY dA0 dA1 dA2 dB0 dB1 dB2 dX0 dX1 dX2 dY0 dY1 dY2 cX0 cX1 cX2 zX0 zX1 zX2
  obtain ⟨cY0, cY1, cY2, zY0, zY1, zY2, _⟩ := HY6.out
  have GA := Lib.hid (HA6.out.far ne_Y_A (.bool xn3) (.string xd3) (.int .i64 xk3))
  have GB := Lib.hid (HB6.out.far ne_Y_B (.bool xn3) (.string xd3) (.int .i64 xk3))
  have GX := Lib.hid (HX6.out.far ne_Y_X (.bool xn3) (.string xd3) (.int .i64 xk3))
  have GY := Lib.hid (HY6.out.set (.bool xn3) (.string xd3) (.int .i64 xk3))
  have GW := Lib.hid (stepS HW6.out le_Y (.bool xn3) (.string xd3) (.int .i64 xk3))
  clear HA6 HB6 HX6 HY6 HW6
  obtain ⟨dA0, dA1, dA2, _⟩ := GA.out
  obtain ⟨dB0, dB1, dB2, _⟩ := GB.out
  obtain ⟨dX0, dX1, dX2, _⟩ := GX.out
  obtain ⟨dY0, dY1, dY2, _⟩ := GY.out
  go_wp2_with fail
  refine (c4 _ (ok.below HP.out GW.out)).mono ?_
  rintro e w7 ⟨rfl, b7⟩
  have HA7 := Lib.hid (GA.out.call b7)
  have HB7 := Lib.hid (GB.out.call b7)
  have HX7 := Lib.hid (GX.out.call b7)
  have HY7 := Lib.hid (GY.out.call b7)
  have HW7 := Lib.hid (step GW.out b7)
  clear b7 GW GA GB GX GY dA0 dA1 dA2 dB0 dB1 dB2 dX0 dX1 dX2 dY0 dY1 dY2 cY0 cY1 cY2 zY0 zY1 zY2
  obtain ⟨cX0, cX1, cX2, zX0, zX1, zX2, _⟩ := HX7.out
  have GA := Lib.hid (HA7.out.far ne_X_A (.bool xn4) (.string xd4) (.int .i64 xk4))
  have GB := Lib.hid (HB7.out.far ne_X_B (.bool xn4) (.string xd4) (.int .i64 xk4))
  have GX := Lib.hid (HX7.out.set (.bool xn4) (.string xd4) (.int .i64 xk4))
  have GY := Lib.hid (HY7.out.far nf_Y_X (.bool xn4) (.string xd4) (.int .i64 xk4))
  have GW := Lib.hid (stepS HW7.out le_X (.bool xn4) (.string xd4) (.int .i64 xk4))
  clear HA7 HB7 HX7 HY7 HW7
  obtain ⟨dA0, dA1, dA2, _⟩ := GA.out
  obtain ⟨dB0, dB1, dB2, _⟩ := GB.out
  obtain ⟨dX0, dX1, dX2, _⟩ := GX.out
  obtain ⟨dY0, dY1, dY2, _⟩ := GY.out
  go_wp2_with fail
  refine (r4 _).mono ?_
  rintro e w8 ⟨rfl, b8⟩
  have HA8 := Lib.hid (GA.out.call b8)
  have HB8 := Lib.hid (GB.out.call b8)
  have HX8 := Lib.hid (GX.out.call b8)
  have HY8 := Lib.hid (GY.out.call b8)
  have HW8 := Lib.hid (step GW.out b8)
  clear b8 GW GA GB GX GY dA0 dA1 dA2 dB0 dB1 dB2 dX0 dX1 dX2 dY0 dY1 dY2 cX0 cX1 cX2 zX0 zX1 zX2
  obtain ⟨cY0, cY1, cY2, zY0, zY1, zY2, _⟩ := HY8.out
  have GA := Lib.hid (HA8.out.far ne_Y_A (.bool xn4) (.string xd4) (.int .i64 xk4))
  have GB := Lib.hid (HB8.out.far ne_Y_B (.bool xn4) (.string xd4) (.int .i64 xk4))
  have GX := Lib.hid (HX8.out.far ne_Y_X (.bool xn4) (.string xd4) (.int .i64 xk4))
  have GY := Lib.hid (HY8.out.set (.bool xn4) (.string xd4) (.int .i64 xk4))
  have GW := Lib.hid (stepS HW8.out le_Y (.bool xn4) (.string xd4) (.int .i64 xk4))
  clear HA8 HB8 HX8 HY8 HW8
  obtain ⟨dA0, dA1, dA2, _⟩ := GA.out
  obtain ⟨dB0, dB1, dB2, _⟩ := GB.out
  obtain ⟨dX0, dX1, dX2, _⟩ := GX.out
  obtain ⟨dY0, dY1, dY2, _⟩ := GY.out
  go_wp2_with fail
  refine (c5 _ (ok.below HP.out GW.out)).mono ?_
  rintro e w9 ⟨rfl, b9⟩
  have HA9 := Lib.hid (GA.out.call b9)
  have HB9 := Lib.hid (GB.out.call b9)
  have HX9 := Lib.hid (GX.out.call b9)
  have HY9 := Lib.hid (GY.out.call b9)
  have HW9 := Lib.hid (step GW.out b9)
  clear b9 GW GA GB GX GY dA0 dA1 dA2 dB0 dB1 dB2 dX0 dX1 dX2 dY0 dY1 dY2 cY0 cY1 cY2 zY0 zY1 zY2
  have GA := HA9
  have GB := HB9
  have GX := HX9
  have GY := HY9
  have GW := HW9
  clear HA9 HB9 HX9 HY9 HW9
  obtain ⟨dA0, dA1, dA2, _⟩ := GA.out
  obtain ⟨dB0, dB1, dB2, _⟩ := GB.out
  obtain ⟨dX0, dX1, dX2, _⟩ := GX.out
  obtain ⟨dY0, dY1, dY2, _⟩ := GY.out
  go_wp2_with fail
  refine (r5 _).mono ?_
  rintro e w10 ⟨rfl, b10⟩
  have HA10 := Lib.hid (GA.out.call b10)
  have HB10 := Lib.hid (GB.out.call b10)
  have HX10 := Lib.hid (GX.out.call b10)
  have HY10 := Lib.hid (GY.out.call b10)
  have HW10 := Lib.hid (step GW.out b10)
  clear b10 GW GA GB GX GY dA0 dA1 dA2 dB0 dB1 dB2 dX0 dX1 dX2 dY0 dY1 dY2
  have GA := HA10
  have GB := HB10
  have GX := HX10
  have GY := HY10
  have GW := HW10
  clear HA10 HB10 HX10 HY10 HW10
  obtain ⟨dA0, dA1, dA2, _⟩ := GA.out
  obtain ⟨dB0, dB1, dB2, _⟩ := GB.out
  obtain ⟨dX0, dX1, dX2, _⟩ := GX.out
  obtain ⟨dY0, dY1, dY2, _⟩ := GY.out
  go_wp2_with fail
  refine (shown_any ok _ (ok.below HP.out GW.out)).mono ?_
  rintro e w11 ⟨rfl, b11⟩
  have HA11 := Lib.hid (GA.out.call b11)
  have HB11 := Lib.hid (GB.out.call b11)
  have HX11 := Lib.hid (GX.out.call b11)
  have HY11 := Lib.hid (GY.out.call b11)
  have HW11 := Lib.hid (step GW.out b11)
  clear b11 GW GA GB GX GY dA0 dA1 dA2 dB0 dB1 dB2 dX0 dX1 dX2 dY0 dY1 dY2
  go_wp2
  go_ret
  exact ⟨rfl, HW11.out⟩
end Go.Proofs.YtcpociafcjabkaaGreatDoor
