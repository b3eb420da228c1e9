/- The law DecimalRounds. -/
import Derived.Test.YtcpociafcjabkaaGreatDoorLE
set_option linter.unusedSimpArgs false
set_option linter.unusedVariables false
namespace Go.Proofs.YtcpociafcjabkaaGreatDoor
open Go.RowKit

set_option maxRecDepth 100000 in
set_option maxHeartbeats 8000000 in
theorem rounds_long1 {P : World → Prop} (ok : ProgOk P) (an : Bool) (ad : ByteArray) (ak : Int) (bn : Bool) (bd : ByteArray) (bk : Int) (scale : Int) (h : (400 : Int) < (ad.size : Int)) (w : World) (hP : P w) : Calls Tryz.prog 5 #[.agg #[.bool an, .string ad, .int .i64 ak], .agg #[.bool bn, .string bd, .int .i64 bk], .int .i64 scale] w fun e w' => e = .returned (.bool true) ∧ Below w.heap.size w w' := by
  have HP := Lib.hid hP
  clear hP
  have HA0 : Hid (Has ((w.alloc (.cells #[.bool an, .string ad, .int .i64 ak] 23)).alloc (.cells #[.bool bn, .string bd, .int .i64 bk] 23)) w.heap.size (.bool an) (.string ad) (.int .i64 ak)) := Lib.hid ((Has.new w (.bool an) (.string ad) (.int .i64 ak) 23).alloc (.cells #[.bool bn, .string bd, .int .i64 bk] 23))
  have HB0 : Hid (Has ((w.alloc (.cells #[.bool an, .string ad, .int .i64 ak] 23)).alloc (.cells #[.bool bn, .string bd, .int .i64 bk] 23)) (w.heap.size + 1) (.bool bn) (.string bd) (.int .i64 bk)) := Lib.hid (by have h := (Has.new (w.alloc (.cells #[.bool an, .string ad, .int .i64 ak] 23)) (.bool bn) (.string bd) (.int .i64 bk) 23); simpa using h)
  have HW0 := Lib.hid (stepA (stepA (Below.refl w.heap.size w) (.cells #[.bool an, .string ad, .int .i64 ak] 23)) (.cells #[.bool bn, .string bd, .int .i64 bk] 23))
  go_enter Tryz.func5, Tryz.ntmps5
  have GA := HA0
  have GB := HB0
  have GW := HW0
  clear HA0 HB0 HW0
  obtain ⟨dA0, dA1, dA2, _⟩ := GA.out
  obtain ⟨dB0, dB1, dB2, _⟩ := GB.out
  go_wp2_with fail
  refine (shown_any ok _ (ok.below HP.out GW.out)).mono ?_
  rintro e w1 ⟨rfl, b1⟩
  have HA1 := Lib.hid (GA.out.call b1)
  have HB1 := Lib.hid (GB.out.call b1)
  have HW1 := Lib.hid (step GW.out b1)
  clear b1 GW GA GB dA0 dA1 dA2 dB0 dB1 dB2
  go_wp2
  go_ret
  exact ⟨rfl, HW1.out⟩

set_option maxRecDepth 100000 in
set_option maxHeartbeats 8000000 in
theorem rounds_long2 {P : World → Prop} (ok : ProgOk P) (an : Bool) (ad : ByteArray) (ak : Int) (bn : Bool) (bd : ByteArray) (bk : Int) (scale : Int) (g : ¬ (400 : Int) < (ad.size : Int)) (h : (400 : Int) < (bd.size : Int)) (w : World) (hP : P w) : Calls Tryz.prog 5 #[.agg #[.bool an, .string ad, .int .i64 ak], .agg #[.bool bn, .string bd, .int .i64 bk], .int .i64 scale] w fun e w' => e = .returned (.bool true) ∧ Below w.heap.size w w' := by
  have HP := Lib.hid hP
  clear hP
  have HA0 : Hid (Has ((w.alloc (.cells #[.bool an, .string ad, .int .i64 ak] 23)).alloc (.cells #[.bool bn, .string bd, .int .i64 bk] 23)) w.heap.size (.bool an) (.string ad) (.int .i64 ak)) := Lib.hid ((Has.new w (.bool an) (.string ad) (.int .i64 ak) 23).alloc (.cells #[.bool bn, .string bd, .int .i64 bk] 23))
  have HB0 : Hid (Has ((w.alloc (.cells #[.bool an, .string ad, .int .i64 ak] 23)).alloc (.cells #[.bool bn, .string bd, .int .i64 bk] 23)) (w.heap.size + 1) (.bool bn) (.string bd) (.int .i64 bk)) := Lib.hid (by have h := (Has.new (w.alloc (.cells #[.bool an, .string ad, .int .i64 ak] 23)) (.bool bn) (.string bd) (.int .i64 bk) 23); simpa using h)
  have HW0 := Lib.hid (stepA (stepA (Below.refl w.heap.size w) (.cells #[.bool an, .string ad, .int .i64 ak] 23)) (.cells #[.bool bn, .string bd, .int .i64 bk] 23))
  go_enter Tryz.func5, Tryz.ntmps5
  have GA := HA0
  have GB := HB0
  have GW := HW0
  clear HA0 HB0 HW0
  obtain ⟨dA0, dA1, dA2, _⟩ := GA.out
  obtain ⟨dB0, dB1, dB2, _⟩ := GB.out
  go_wp2_with fail
  refine (shown_any ok _ (ok.below HP.out GW.out)).mono ?_
  rintro e w1 ⟨rfl, b1⟩
  have HA1 := Lib.hid (GA.out.call b1)
  have HB1 := Lib.hid (GB.out.call b1)
  have HW1 := Lib.hid (step GW.out b1)
  clear b1 GW GA GB dA0 dA1 dA2 dB0 dB1 dB2
  go_wp2
  go_ret
  exact ⟨rfl, HW1.out⟩

set_option maxRecDepth 100000 in
set_option maxHeartbeats 8000000 in
theorem rounds_short {P : World → Prop} (ok : ProgOk P) (an : Bool) (ad : ByteArray) (ak : Int) (bn : Bool) (bd : ByteArray) (bk : Int) (scale : Int) (g : ¬ (400 : Int) < (ad.size : Int)) (h : ¬ (400 : Int) < (bd.size : Int)) (w : World) (hP : P w) : Calls Tryz.prog 5 #[.agg #[.bool an, .string ad, .int .i64 ak], .agg #[.bool bn, .string bd, .int .i64 bk], .int .i64 scale] w fun e w' => e = .returned (.bool true) ∧ Below w.heap.size w w' := by
  have HP := Lib.hid hP
  clear hP
  have za : ad.size ≤ 400 := by omega
  have zb : bd.size ≤ 400 := by omega
  have c1 := fun W => ok.div ⟨an, ad, ak⟩ ⟨bn, bd, bk⟩ scale W za zb
  have r1 := fun W => r_div ⟨an, ad, ak⟩ ⟨bn, bd, bk⟩ scale za zb W
  unfold DRes.v at c1 r1
  unfold Dec.v at c1 r1
  simp only at c1 r1
  generalize (divS ⟨an, ad, ak⟩ ⟨bn, bd, bk⟩ scale).d.neg = xn1 at c1 r1
  generalize (divS ⟨an, ad, ak⟩ ⟨bn, bd, bk⟩ scale).d.ds = xd1 at c1 r1
  generalize (divS ⟨an, ad, ak⟩ ⟨bn, bd, bk⟩ scale).d.sc = xk1 at c1 r1
  generalize (divS ⟨an, ad, ak⟩ ⟨bn, bd, bk⟩ scale).e = xe1 at c1 r1
  have c2 := fun W => ok.round ⟨an, ad, ak⟩ scale W za
  have r2 := fun W => r_round ⟨an, ad, ak⟩ scale za W
  unfold DRes.v at c2 r2
  unfold Dec.v at c2 r2
  simp only at c2 r2
  generalize (roundS ⟨an, ad, ak⟩ scale).d.neg = xn2 at c2 r2
  generalize (roundS ⟨an, ad, ak⟩ scale).d.ds = xd2 at c2 r2
  generalize (roundS ⟨an, ad, ak⟩ scale).d.sc = xk2 at c2 r2
  generalize (roundS ⟨an, ad, ak⟩ scale).e = xe2 at c2 r2
  have c3 := fun W => ok.digits ⟨an, ad, ak⟩ W za
  have r3 := fun W => r_digits ⟨an, ad, ak⟩ za W
  unfold Dec.v at c3 r3
  simp only at c3 r3
  generalize (digS ⟨an, ad, ak⟩).1 = xp3 at c3 r3
  generalize (digS ⟨an, ad, ak⟩).2.1 = xq3 at c3 r3
  generalize (digS ⟨an, ad, ak⟩).2.2 = xr3 at c3 r3
  clear za zb
  have HA0 : Hid (Has ((w.alloc (.cells #[.bool an, .string ad, .int .i64 ak] 23)).alloc (.cells #[.bool bn, .string bd, .int .i64 bk] 23)) w.heap.size (.bool an) (.string ad) (.int .i64 ak)) := Lib.hid ((Has.new w (.bool an) (.string ad) (.int .i64 ak) 23).alloc (.cells #[.bool bn, .string bd, .int .i64 bk] 23))
  have HB0 : Hid (Has ((w.alloc (.cells #[.bool an, .string ad, .int .i64 ak] 23)).alloc (.cells #[.bool bn, .string bd, .int .i64 bk] 23)) (w.heap.size + 1) (.bool bn) (.string bd) (.int .i64 bk)) := Lib.hid (by have h := (Has.new (w.alloc (.cells #[.bool an, .string ad, .int .i64 ak] 23)) (.bool bn) (.string bd) (.int .i64 bk) 23); simpa using h)
  have HW0 := Lib.hid (stepA (stepA (Below.refl w.heap.size w) (.cells #[.bool an, .string ad, .int .i64 ak] 23)) (.cells #[.bool bn, .string bd, .int .i64 bk] 23))
  go_enter Tryz.func5, Tryz.ntmps5
  have GA := HA0
  have GB := HB0
  have GW := HW0
  clear HA0 HB0 HW0
  obtain ⟨dA0, dA1, dA2, _⟩ := GA.out
  obtain ⟨dB0, dB1, dB2, _⟩ := GB.out
  go_wp2_with fail
  refine (c1 _ (ok.below HP.out GW.out)).mono ?_
  rintro e w1 ⟨rfl, b1⟩
  have HA1 := Lib.hid (GA.out.call b1)
  have HB1 := Lib.hid (GB.out.call b1)
  have HW1 := Lib.hid (step GW.out b1)
  clear b1 GW GA GB dA0 dA1 dA2 dB0 dB1 dB2
  have GA := Lib.hid (HA1.out.alloc (.cells #[.bool xn1, .string xd1, .int .i64 xk1] 23))
  have GB := Lib.hid (HB1.out.alloc (.cells #[.bool xn1, .string xd1, .int .i64 xk1] 23))
  have GX := Lib.hid (Has.new w1 (.bool xn1) (.string xd1) (.int .i64 xk1) 23)
  have GW := Lib.hid (stepA HW1.out (.cells #[.bool xn1, .string xd1, .int .i64 xk1] 23))
  have le_X : w.heap.size ≤ w1.heap.size := HW1.out.size
  have ne_X_A : w1.heap.size ≠ w.heap.size := by have := HA1.out.lt; omega
  have nf_X_A : w.heap.size ≠ w1.heap.size := by have := HA1.out.lt; omega
  have ne_X_B : w1.heap.size ≠ (w.heap.size + 1) := by have := HB1.out.lt; omega
  have nf_X_B : (w.heap.size + 1) ≠ w1.heap.size := by have := HB1.out.lt; omega
  clear HA1 HB1 HW1
  obtain ⟨dA0, dA1, dA2, _⟩ := GA.out
  obtain ⟨dB0, dB1, dB2, _⟩ := GB.out
  obtain ⟨dX0, dX1, dX2, _⟩ := GX.out
  go_wp2_with fail
  refine (r1 _).mono ?_
  rintro e w2 ⟨rfl, b2⟩
  have HA2 := Lib.hid (GA.out.call b2)
  have HB2 := Lib.hid (GB.out.call b2)
  have HX2 := Lib.hid (GX.out.call b2)
  have HW2 := Lib.hid (step GW.out b2)
  clear b2 GW GA GB GX dA0 dA1 dA2 dB0 dB1 dB2 dX0 dX1 dX2
  have GA := Lib.hid (HA2.out.alloc (.cells #[.bool xn1, .string xd1, .int .i64 xk1] 23))
  have GB := Lib.hid (HB2.out.alloc (.cells #[.bool xn1, .string xd1, .int .i64 xk1] 23))
  have GX := Lib.hid (HX2.out.alloc (.cells #[.bool xn1, .string xd1, .int .i64 xk1] 23))
  have GY := Lib.hid (Has.new w2 (.bool xn1) (.string xd1) (.int .i64 xk1) 23)
  have GW := Lib.hid (stepA HW2.out (.cells #[.bool xn1, .string xd1, .int .i64 xk1] 23))
  have le_Y : w.heap.size ≤ w2.heap.size := HW2.out.size
  have ne_Y_A : w2.heap.size ≠ w.heap.size := by have := HA2.out.lt; omega
  have nf_Y_A : w.heap.size ≠ w2.heap.size := by have := HA2.out.lt; omega
  have ne_Y_B : w2.heap.size ≠ (w.heap.size + 1) := by have := HB2.out.lt; omega
  have nf_Y_B : (w.heap.size + 1) ≠ w2.heap.size := by have := HB2.out.lt; omega
  have ne_Y_X : w2.heap.size ≠ w1.heap.size := by have := HX2.out.lt; omega
  have nf_Y_X : w1.heap.size ≠ w2.heap.size := by have := HX2.out.lt; omega
  clear HA2 HB2 HX2 HW2
  obtain ⟨dA0, dA1, dA2, _⟩ := GA.out
  obtain ⟨dB0, dB1, dB2, _⟩ := GB.out
  obtain ⟨dX0, dX1, dX2, _⟩ := GX.out
  obtain ⟨dY0, dY1, dY2, _⟩ := GY.out
  go_wp2_with fail
  refine (c2 _ (ok.below HP.out GW.out)).mono ?_
  rintro e w3 ⟨rfl, b3⟩
  have HA3 := Lib.hid (GA.out.call b3)
  have HB3 := Lib.hid (GB.out.call b3)
  have HX3 := Lib.hid (GX.out.call b3)
  have HY3 := Lib.hid (GY.out.call b3)
  have HW3 := Lib.hid (step GW.out b3)
  clear b3 GW GA GB GX GY dA0 dA1 dA2 dB0 dB1 dB2 dX0 dX1 dX2 dY0 dY1 dY2
  obtain ⟨cX0, cX1, cX2, zX0, zX1, zX2, _⟩ := HX3.out
  have GA := Lib.hid (HA3.out.far ne_X_A (.bool xn2) (.string xd2) (.int .i64 xk2))
  have GB := Lib.hid (HB3.out.far ne_X_B (.bool xn2) (.string xd2) (.int .i64 xk2))
  have GX := Lib.hid (HX3.out.set (.bool xn2) (.string xd2) (.int .i64 xk2))
  have GY := Lib.hid (HY3.out.far nf_Y_X (.bool xn2) (.string xd2) (.int .i64 xk2))
  have GW := Lib.hid (stepS HW3.out le_X (.bool xn2) (.string xd2) (.int .i64 xk2))
  clear HA3 HB3 HX3 HY3 HW3
  obtain ⟨dA0, dA1, dA2, _⟩ := GA.out
  obtain ⟨dB0, dB1, dB2, _⟩ := GB.out
  obtain ⟨dX0, dX1, dX2, _⟩ := GX.out
  obtain ⟨dY0, dY1, dY2, _⟩ := GY.out
  go_wp2_with fail
  refine (r2 _).mono ?_
  rintro e w4 ⟨rfl, b4⟩
  have HA4 := Lib.hid (GA.out.call b4)
  have HB4 := Lib.hid (GB.out.call b4)
  have HX4 := Lib.hid (GX.out.call b4)
  have HY4 := Lib.hid (GY.out.call b4)
  have HW4 := Lib.hid (step GW.out b4)
  clear b4 GW GA GB GX GY dA0 dA1 dA2 dB0 dB1 dB2 dX0 dX1 dX2 dY0 dY1 dY2 cX0 cX1 cX2 zX0 zX1 zX2
  obtain ⟨cY0, cY1, cY2, zY0, zY1, zY2, _⟩ := HY4.out
  have GA := Lib.hid (HA4.out.far ne_Y_A (.bool xn2) (.string xd2) (.int .i64 xk2))
  have GB := Lib.hid (HB4.out.far ne_Y_B (.bool xn2) (.string xd2) (.int .i64 xk2))
  have GX := Lib.hid (HX4.out.far ne_Y_X (.bool xn2) (.string xd2) (.int .i64 xk2))
  have GY := Lib.hid (HY4.out.set (.bool xn2) (.string xd2) (.int .i64 xk2))
  have GW := Lib.hid (stepS HW4.out le_Y (.bool xn2) (.string xd2) (.int .i64 xk2))
  clear HA4 HB4 HX4 HY4 HW4
  obtain ⟨dA0, dA1, dA2, _⟩ := GA.out
  obtain ⟨dB0, dB1, dB2, _⟩ := GB.out
  obtain ⟨dX0, dX1, dX2, _⟩ := GX.out
  obtain ⟨dY0, dY1, dY2, _⟩ := GY.out
  go_wp2_with fail
  refine (c3 _ (ok.below HP.out GW.out)).mono ?_
  rintro e w5 ⟨rfl, b5⟩
  have HA5 := Lib.hid (GA.out.call b5)
  have HB5 := Lib.hid (GB.out.call b5)
  have HX5 := Lib.hid (GX.out.call b5)
  have HY5 := Lib.hid (GY.out.call b5)
  have HW5 := Lib.hid (step GW.out b5)
  clear b5 GW GA GB GX GY dA0 dA1 dA2 dB0 dB1 dB2 dX0 dX1 dX2 dY0 dY1 dY2 cY0 cY1 cY2 zY0 zY1 zY2
  have GA := HA5
  have GB := HB5
  have GX := HX5
  have GY := HY5
  have GW := HW5
  clear HA5 HB5 HX5 HY5 HW5
  obtain ⟨dA0, dA1, dA2, _⟩ := GA.out
  obtain ⟨dB0, dB1, dB2, _⟩ := GB.out
  obtain ⟨dX0, dX1, dX2, _⟩ := GX.out
  obtain ⟨dY0, dY1, dY2, _⟩ := GY.out
  go_wp2_with fail
  refine (r3 _).mono ?_
  rintro e w6 ⟨rfl, b6⟩
  have HA6 := Lib.hid (GA.out.call b6)
  have HB6 := Lib.hid (GB.out.call b6)
  have HX6 := Lib.hid (GX.out.call b6)
  have HY6 := Lib.hid (GY.out.call b6)
  have HW6 := Lib.hid (step GW.out b6)
  clear b6 GW GA GB GX GY dA0 dA1 dA2 dB0 dB1 dB2 dX0 dX1 dX2 dY0 dY1 dY2
  have GA := HA6
  have GB := HB6
  have GX := HX6
  have GY := HY6
  have GW := HW6
  clear HA6 HB6 HX6 HY6 HW6
  obtain ⟨dA0, dA1, dA2, _⟩ := GA.out
  obtain ⟨dB0, dB1, dB2, _⟩ := GB.out
  obtain ⟨dX0, dX1, dX2, _⟩ := GX.out
  obtain ⟨dY0, dY1, dY2, _⟩ := GY.out
  go_wp2_with fail
  refine (shown_any ok _ (ok.below HP.out GW.out)).mono ?_
  rintro e w7 ⟨rfl, b7⟩
  have HA7 := Lib.hid (GA.out.call b7)
  have HB7 := Lib.hid (GB.out.call b7)
  have HX7 := Lib.hid (GX.out.call b7)
  have HY7 := Lib.hid (GY.out.call b7)
  have HW7 := Lib.hid (step GW.out b7)
  clear b7 GW GA GB GX GY dA0 dA1 dA2 dB0 dB1 dB2 dX0 dX1 dX2 dY0 dY1 dY2
  go_wp2
  go_ret
  exact ⟨rfl, HW7.out⟩
end Go.Proofs.YtcpociafcjabkaaGreatDoor
