/- The law DecimalBounds, where it asks nothing. -/
import Derived.Test.YtcpociafcjabkaaGreatDoorLE
import Derived.Test.YtcpociafcjabkaaGreatDoorLN
set_option linter.unusedSimpArgs false
set_option linter.unusedVariables false
namespace Go.Proofs.YtcpociafcjabkaaGreatDoor
open Go.RowKit

set_option maxRecDepth 100000 in
set_option maxHeartbeats 16000000 in
theorem bounds_bad1 {P : World → Prop} (ok : ProgOk P) (an : Bool) (ad : ByteArray) (ak : Int) (bn : Bool) (bd : ByteArray) (bk : Int) (za : ad.size ≤ maxLen) (zb : bd.size ≤ maxLen) (scale : Int) (ha : ¬ Valid ⟨an, ad, ak⟩) (w : World) (hP : P w) : Calls Tryz.prog 7 #[.agg #[.bool an, .string ad, .int .i64 ak], .agg #[.bool bn, .string bd, .int .i64 bk], .int .i64 scale] w fun e w' => e = .returned (.bool true) ∧ Below w.heap.size w w' := by
  have HP := Lib.hid hP
  clear hP
  have HA0 : Hid (Has ((w.alloc (.cells #[.bool an, .string ad, .int .i64 ak] 23)).alloc (.cells #[.bool bn, .string bd, .int .i64 bk] 23)) w.heap.size (.bool an) (.string ad) (.int .i64 ak)) := Lib.hid ((Has.new w (.bool an) (.string ad) (.int .i64 ak) 23).alloc (.cells #[.bool bn, .string bd, .int .i64 bk] 23))
  have HB0 : Hid (Has ((w.alloc (.cells #[.bool an, .string ad, .int .i64 ak] 23)).alloc (.cells #[.bool bn, .string bd, .int .i64 bk] 23)) (w.heap.size + 1) (.bool bn) (.string bd) (.int .i64 bk)) := Lib.hid (by have h := (Has.new (w.alloc (.cells #[.bool an, .string ad, .int .i64 ak] 23)) (.bool bn) (.string bd) (.int .i64 bk) 23); simpa using h)
  have HW0 := Lib.hid (stepA (stepA (Below.refl w.heap.size w) (.cells #[.bool an, .string ad, .int .i64 ak] 23)) (.cells #[.bool bn, .string bd, .int .i64 bk] 23))
  have c1 := fun W => ok.check ⟨an, ad, ak⟩ W za
  rw [chkR_bad ha] at c1
  unfold Dec.v at c1
  go_enter Tryz.func7, Tryz.ntmps7
  have GA := HA0
  have GB := HB0
  have GW := HW0
  clear HA0 HB0 HW0
  obtain ⟨dA0, dA1, dA2, _⟩ := GA.out
  obtain ⟨dB0, dB1, dB2, _⟩ := GB.out
  go_wp2_with fail
  refine (c1 _ (ok.below HP.out GW.out)).mono ?_
  rintro e w1 ⟨rfl, b1⟩
  have HA1 := Lib.hid (GA.out.call b1)
  have HB1 := Lib.hid (GB.out.call b1)
  have HW1 := Lib.hid (step GW.out b1)
  clear b1 GW GA GB dA0 dA1 dA2 dB0 dB1 dB2
  have GA := HA1
  have GB := HB1
  have GW := HW1
  clear HA1 HB1 HW1
  go_wp2_with fail
  refine (shown_any ok _ (ok.below HP.out GW.out)).mono ?_
  rintro e w2 ⟨rfl, b2⟩
  have HA2 := Lib.hid (GA.out.call b2)
  have HB2 := Lib.hid (GB.out.call b2)
  have HW2 := Lib.hid (step GW.out b2)
  clear b2 GW GA GB 
  go_wp2
  go_ret
  exact ⟨rfl, HW2.out⟩

set_option maxRecDepth 100000 in
set_option maxHeartbeats 16000000 in
theorem bounds_bad2 {P : World → Prop} (ok : ProgOk P) (an : Bool) (ad : ByteArray) (ak : Int) (bn : Bool) (bd : ByteArray) (bk : Int) (za : ad.size ≤ maxLen) (zb : bd.size ≤ maxLen) (scale : Int) (ha : Valid ⟨an, ad, ak⟩) (hb : ¬ Valid ⟨bn, bd, bk⟩) (w : World) (hP : P w) : Calls Tryz.prog 7 #[.agg #[.bool an, .string ad, .int .i64 ak], .agg #[.bool bn, .string bd, .int .i64 bk], .int .i64 scale] w fun e w' => e = .returned (.bool true) ∧ Below w.heap.size w w' := by
  have HP := Lib.hid hP
  clear hP
  have HA0 : Hid (Has ((w.alloc (.cells #[.bool an, .string ad, .int .i64 ak] 23)).alloc (.cells #[.bool bn, .string bd, .int .i64 bk] 23)) w.heap.size (.bool an) (.string ad) (.int .i64 ak)) := Lib.hid ((Has.new w (.bool an) (.string ad) (.int .i64 ak) 23).alloc (.cells #[.bool bn, .string bd, .int .i64 bk] 23))
  have HB0 : Hid (Has ((w.alloc (.cells #[.bool an, .string ad, .int .i64 ak] 23)).alloc (.cells #[.bool bn, .string bd, .int .i64 bk] 23)) (w.heap.size + 1) (.bool bn) (.string bd) (.int .i64 bk)) := Lib.hid (by have h := (Has.new (w.alloc (.cells #[.bool an, .string ad, .int .i64 ak] 23)) (.bool bn) (.string bd) (.int .i64 bk) 23); simpa using h)
  have HW0 := Lib.hid (stepA (stepA (Below.refl w.heap.size w) (.cells #[.bool an, .string ad, .int .i64 ak] 23)) (.cells #[.bool bn, .string bd, .int .i64 bk] 23))
  have c1 := fun W => ok.check ⟨an, ad, ak⟩ W za
  rw [chkR_ok ha] at c1
  unfold Dec.v at c1
  have c2 := fun W => ok.check ⟨bn, bd, bk⟩ W zb
  rw [chkR_bad hb] at c2
  unfold Dec.v at c2
  go_enter Tryz.func7, Tryz.ntmps7
  have GA := HA0
  have GB := HB0
  have GW := HW0
  clear HA0 HB0 HW0
  obtain ⟨dA0, dA1, dA2, _⟩ := GA.out
  obtain ⟨dB0, dB1, dB2, _⟩ := GB.out
  go_wp2_with fail
  refine (c1 _ (ok.below HP.out GW.out)).mono ?_
  rintro e w1 ⟨rfl, b1⟩
  have HA1 := Lib.hid (GA.out.call b1)
  have HB1 := Lib.hid (GB.out.call b1)
  have HW1 := Lib.hid (step GW.out b1)
  clear b1 GW GA GB dA0 dA1 dA2 dB0 dB1 dB2
  have GA := HA1
  have GB := HB1
  have GW := HW1
  clear HA1 HB1 HW1
  obtain ⟨dA0, dA1, dA2, _⟩ := GA.out
  obtain ⟨dB0, dB1, dB2, _⟩ := GB.out
  go_wp2_with fail
  refine (c2 _ (ok.below HP.out GW.out)).mono ?_
  rintro e w2 ⟨rfl, b2⟩
  have HA2 := Lib.hid (GA.out.call b2)
  have HB2 := Lib.hid (GB.out.call b2)
  have HW2 := Lib.hid (step GW.out b2)
  clear b2 GW GA GB dA0 dA1 dA2 dB0 dB1 dB2
  have GA := HA2
  have GB := HB2
  have GW := HW2
  clear HA2 HB2 HW2
  go_wp2_with fail
  refine (shown_any ok _ (ok.below HP.out GW.out)).mono ?_
  rintro e w3 ⟨rfl, b3⟩
  have HA3 := Lib.hid (GA.out.call b3)
  have HB3 := Lib.hid (GB.out.call b3)
  have HW3 := Lib.hid (step GW.out b3)
  clear b3 GW GA GB 
  go_wp2
  go_ret
  exact ⟨rfl, HW3.out⟩

set_option maxRecDepth 100000 in
set_option maxHeartbeats 16000000 in
theorem bounds_out0 {P : World → Prop} (ok : ProgOk P) (an : Bool) (ad : ByteArray) (ak : Int) (bn : Bool) (bd : ByteArray) (bk : Int) (za : ad.size ≤ maxLen) (zb : bd.size ≤ maxLen) (scale : Int) (ha : Valid ⟨an, ad, ak⟩) (hb : Valid ⟨bn, bd, bk⟩)  (g0 : (20 : Int) < (ad.size : Int)) (w : World) (hP : P w) : Calls Tryz.prog 7 #[.agg #[.bool an, .string ad, .int .i64 ak], .agg #[.bool bn, .string bd, .int .i64 bk], .int .i64 scale] w fun e w' => e = .returned (.bool true) ∧ Below w.heap.size w w' := by
  have HP := Lib.hid hP
  clear hP
  have HA0 : Hid (Has ((w.alloc (.cells #[.bool an, .string ad, .int .i64 ak] 23)).alloc (.cells #[.bool bn, .string bd, .int .i64 bk] 23)) w.heap.size (.bool an) (.string ad) (.int .i64 ak)) := Lib.hid ((Has.new w (.bool an) (.string ad) (.int .i64 ak) 23).alloc (.cells #[.bool bn, .string bd, .int .i64 bk] 23))
  have HB0 : Hid (Has ((w.alloc (.cells #[.bool an, .string ad, .int .i64 ak] 23)).alloc (.cells #[.bool bn, .string bd, .int .i64 bk] 23)) (w.heap.size + 1) (.bool bn) (.string bd) (.int .i64 bk)) := Lib.hid (by have h := (Has.new (w.alloc (.cells #[.bool an, .string ad, .int .i64 ak] 23)) (.bool bn) (.string bd) (.int .i64 bk) 23); simpa using h)
  have HW0 := Lib.hid (stepA (stepA (Below.refl w.heap.size w) (.cells #[.bool an, .string ad, .int .i64 ak] 23)) (.cells #[.bool bn, .string bd, .int .i64 bk] 23))
  have c1 := fun W => ok.check ⟨an, ad, ak⟩ W za
  rw [chkR_ok ha] at c1
  unfold Dec.v at c1
  have c2 := fun W => ok.check ⟨bn, bd, bk⟩ W zb
  rw [chkR_ok hb] at c2
  unfold Dec.v at c2
  go_enter Tryz.func7, Tryz.ntmps7
  have GA := HA0
  have GB := HB0
  have GW := HW0
  clear HA0 HB0 HW0
  obtain ⟨dA0, dA1, dA2, _⟩ := GA.out
  obtain ⟨dB0, dB1, dB2, _⟩ := GB.out
  go_wp2_with fail
  refine (c1 _ (ok.below HP.out GW.out)).mono ?_
  rintro e w1 ⟨rfl, b1⟩
  have HA1 := Lib.hid (GA.out.call b1)
  have HB1 := Lib.hid (GB.out.call b1)
  have HW1 := Lib.hid (step GW.out b1)
  clear b1 GW GA GB dA0 dA1 dA2 dB0 dB1 dB2
  have GA := HA1
  have GB := HB1
  have GW := HW1
  clear HA1 HB1 HW1
  obtain ⟨dA0, dA1, dA2, _⟩ := GA.out
  obtain ⟨dB0, dB1, dB2, _⟩ := GB.out
  go_wp2_with fail
  refine (c2 _ (ok.below HP.out GW.out)).mono ?_
  rintro e w2 ⟨rfl, b2⟩
  have HA2 := Lib.hid (GA.out.call b2)
  have HB2 := Lib.hid (GB.out.call b2)
  have HW2 := Lib.hid (step GW.out b2)
  clear b2 GW GA GB dA0 dA1 dA2 dB0 dB1 dB2
  have GA := HA2
  have GB := HB2
  have GW := HW2
  clear HA2 HB2 HW2
  obtain ⟨dA0, dA1, dA2, _⟩ := GA.out
  obtain ⟨dB0, dB1, dB2, _⟩ := GB.out
  go_wp2_with fail
  refine (shown_any ok _ (ok.below HP.out GW.out)).mono ?_
  rintro e w3 ⟨rfl, b3⟩
  have HA3 := Lib.hid (GA.out.call b3)
  have HB3 := Lib.hid (GB.out.call b3)
  have HW3 := Lib.hid (step GW.out b3)
  clear b3 GW GA GB dA0 dA1 dA2 dB0 dB1 dB2
  go_wp2
  go_ret
  exact ⟨rfl, HW3.out⟩

set_option maxRecDepth 100000 in
set_option maxHeartbeats 16000000 in
theorem bounds_out1 {P : World → Prop} (ok : ProgOk P) (an : Bool) (ad : ByteArray) (ak : Int) (bn : Bool) (bd : ByteArray) (bk : Int) (za : ad.size ≤ maxLen) (zb : bd.size ≤ maxLen) (scale : Int) (ha : Valid ⟨an, ad, ak⟩) (hb : Valid ⟨bn, bd, bk⟩) (g0 : ¬ (20 : Int) < (ad.size : Int)) (g1 : (20 : Int) < (bd.size : Int)) (w : World) (hP : P w) : Calls Tryz.prog 7 #[.agg #[.bool an, .string ad, .int .i64 ak], .agg #[.bool bn, .string bd, .int .i64 bk], .int .i64 scale] w fun e w' => e = .returned (.bool true) ∧ Below w.heap.size w w' := by
  have HP := Lib.hid hP
  clear hP
  have HA0 : Hid (Has ((w.alloc (.cells #[.bool an, .string ad, .int .i64 ak] 23)).alloc (.cells #[.bool bn, .string bd, .int .i64 bk] 23)) w.heap.size (.bool an) (.string ad) (.int .i64 ak)) := Lib.hid ((Has.new w (.bool an) (.string ad) (.int .i64 ak) 23).alloc (.cells #[.bool bn, .string bd, .int .i64 bk] 23))
  have HB0 : Hid (Has ((w.alloc (.cells #[.bool an, .string ad, .int .i64 ak] 23)).alloc (.cells #[.bool bn, .string bd, .int .i64 bk] 23)) (w.heap.size + 1) (.bool bn) (.string bd) (.int .i64 bk)) := Lib.hid (by have h := (Has.new (w.alloc (.cells #[.bool an, .string ad, .int .i64 ak] 23)) (.bool bn) (.string bd) (.int .i64 bk) 23); simpa using h)
  have HW0 := Lib.hid (stepA (stepA (Below.refl w.heap.size w) (.cells #[.bool an, .string ad, .int .i64 ak] 23)) (.cells #[.bool bn, .string bd, .int .i64 bk] 23))
  have c1 := fun W => ok.check ⟨an, ad, ak⟩ W za
  rw [chkR_ok ha] at c1
  unfold Dec.v at c1
  have c2 := fun W => ok.check ⟨bn, bd, bk⟩ W zb
  rw [chkR_ok hb] at c2
  unfold Dec.v at c2
  go_enter Tryz.func7, Tryz.ntmps7
  have GA := HA0
  have GB := HB0
  have GW := HW0
  clear HA0 HB0 HW0
  obtain ⟨dA0, dA1, dA2, _⟩ := GA.out
  obtain ⟨dB0, dB1, dB2, _⟩ := GB.out
  go_wp2_with fail
  refine (c1 _ (ok.below HP.out GW.out)).mono ?_
  rintro e w1 ⟨rfl, b1⟩
  have HA1 := Lib.hid (GA.out.call b1)
  have HB1 := Lib.hid (GB.out.call b1)
  have HW1 := Lib.hid (step GW.out b1)
  clear b1 GW GA GB dA0 dA1 dA2 dB0 dB1 dB2
  have GA := HA1
  have GB := HB1
  have GW := HW1
  clear HA1 HB1 HW1
  obtain ⟨dA0, dA1, dA2, _⟩ := GA.out
  obtain ⟨dB0, dB1, dB2, _⟩ := GB.out
  go_wp2_with fail
  refine (c2 _ (ok.below HP.out GW.out)).mono ?_
  rintro e w2 ⟨rfl, b2⟩
  have HA2 := Lib.hid (GA.out.call b2)
  have HB2 := Lib.hid (GB.out.call b2)
  have HW2 := Lib.hid (step GW.out b2)
  clear b2 GW GA GB dA0 dA1 dA2 dB0 dB1 dB2
  have GA := HA2
  have GB := HB2
  have GW := HW2
  clear HA2 HB2 HW2
  obtain ⟨dA0, dA1, dA2, _⟩ := GA.out
  obtain ⟨dB0, dB1, dB2, _⟩ := GB.out
  go_wp2_with fail
  refine (shown_any ok _ (ok.below HP.out GW.out)).mono ?_
  rintro e w3 ⟨rfl, b3⟩
  have HA3 := Lib.hid (GA.out.call b3)
  have HB3 := Lib.hid (GB.out.call b3)
  have HW3 := Lib.hid (step GW.out b3)
  clear b3 GW GA GB dA0 dA1 dA2 dB0 dB1 dB2
  go_wp2
  go_ret
  exact ⟨rfl, HW3.out⟩

set_option maxRecDepth 100000 in
set_option maxHeartbeats 16000000 in
theorem bounds_out2 {P : World → Prop} (ok : ProgOk P) (an : Bool) (ad : ByteArray) (ak : Int) (bn : Bool) (bd : ByteArray) (bk : Int) (za : ad.size ≤ maxLen) (zb : bd.size ≤ maxLen) (scale : Int) (ha : Valid ⟨an, ad, ak⟩) (hb : Valid ⟨bn, bd, bk⟩) (g0 : ¬ (20 : Int) < (ad.size : Int)) (g1 : ¬ (20 : Int) < (bd.size : Int)) (g2 : (10 : Int) < ak) (w : World) (hP : P w) : Calls Tryz.prog 7 #[.agg #[.bool an, .string ad, .int .i64 ak], .agg #[.bool bn, .string bd, .int .i64 bk], .int .i64 scale] w fun e w' => e = .returned (.bool true) ∧ Below w.heap.size w w' := by
  have HP := Lib.hid hP
  clear hP
  have HA0 : Hid (Has ((w.alloc (.cells #[.bool an, .string ad, .int .i64 ak] 23)).alloc (.cells #[.bool bn, .string bd, .int .i64 bk] 23)) w.heap.size (.bool an) (.string ad) (.int .i64 ak)) := Lib.hid ((Has.new w (.bool an) (.string ad) (.int .i64 ak) 23).alloc (.cells #[.bool bn, .string bd, .int .i64 bk] 23))
  have HB0 : Hid (Has ((w.alloc (.cells #[.bool an, .string ad, .int .i64 ak] 23)).alloc (.cells #[.bool bn, .string bd, .int .i64 bk] 23)) (w.heap.size + 1) (.bool bn) (.string bd) (.int .i64 bk)) := Lib.hid (by have h := (Has.new (w.alloc (.cells #[.bool an, .string ad, .int .i64 ak] 23)) (.bool bn) (.string bd) (.int .i64 bk) 23); simpa using h)
  have HW0 := Lib.hid (stepA (stepA (Below.refl w.heap.size w) (.cells #[.bool an, .string ad, .int .i64 ak] 23)) (.cells #[.bool bn, .string bd, .int .i64 bk] 23))
  have c1 := fun W => ok.check ⟨an, ad, ak⟩ W za
  rw [chkR_ok ha] at c1
  unfold Dec.v at c1
  have c2 := fun W => ok.check ⟨bn, bd, bk⟩ W zb
  rw [chkR_ok hb] at c2
  unfold Dec.v at c2
  go_enter Tryz.func7, Tryz.ntmps7
  have GA := HA0
  have GB := HB0
  have GW := HW0
  clear HA0 HB0 HW0
  obtain ⟨dA0, dA1, dA2, _⟩ := GA.out
  obtain ⟨dB0, dB1, dB2, _⟩ := GB.out
  go_wp2_with fail
  refine (c1 _ (ok.below HP.out GW.out)).mono ?_
  rintro e w1 ⟨rfl, b1⟩
  have HA1 := Lib.hid (GA.out.call b1)
  have HB1 := Lib.hid (GB.out.call b1)
  have HW1 := Lib.hid (step GW.out b1)
  clear b1 GW GA GB dA0 dA1 dA2 dB0 dB1 dB2
  have GA := HA1
  have GB := HB1
  have GW := HW1
  clear HA1 HB1 HW1
  obtain ⟨dA0, dA1, dA2, _⟩ := GA.out
  obtain ⟨dB0, dB1, dB2, _⟩ := GB.out
  go_wp2_with fail
  refine (c2 _ (ok.below HP.out GW.out)).mono ?_
  rintro e w2 ⟨rfl, b2⟩
  have HA2 := Lib.hid (GA.out.call b2)
  have HB2 := Lib.hid (GB.out.call b2)
  have HW2 := Lib.hid (step GW.out b2)
  clear b2 GW GA GB dA0 dA1 dA2 dB0 dB1 dB2
  have GA := HA2
  have GB := HB2
  have GW := HW2
  clear HA2 HB2 HW2
  obtain ⟨dA0, dA1, dA2, _⟩ := GA.out
  obtain ⟨dB0, dB1, dB2, _⟩ := GB.out
  go_wp2_with fail
  refine (shown_any ok _ (ok.below HP.out GW.out)).mono ?_
  rintro e w3 ⟨rfl, b3⟩
  have HA3 := Lib.hid (GA.out.call b3)
  have HB3 := Lib.hid (GB.out.call b3)
  have HW3 := Lib.hid (step GW.out b3)
  clear b3 GW GA GB dA0 dA1 dA2 dB0 dB1 dB2
  go_wp2
  go_ret
  exact ⟨rfl, HW3.out⟩

set_option maxRecDepth 100000 in
set_option maxHeartbeats 16000000 in
theorem bounds_out3 {P : World → Prop} (ok : ProgOk P) (an : Bool) (ad : ByteArray) (ak : Int) (bn : Bool) (bd : ByteArray) (bk : Int) (za : ad.size ≤ maxLen) (zb : bd.size ≤ maxLen) (scale : Int) (ha : Valid ⟨an, ad, ak⟩) (hb : Valid ⟨bn, bd, bk⟩) (g0 : ¬ (20 : Int) < (ad.size : Int)) (g1 : ¬ (20 : Int) < (bd.size : Int)) (g2 : ¬ (10 : Int) < ak) (g3 : (10 : Int) < bk) (w : World) (hP : P w) : Calls Tryz.prog 7 #[.agg #[.bool an, .string ad, .int .i64 ak], .agg #[.bool bn, .string bd, .int .i64 bk], .int .i64 scale] w fun e w' => e = .returned (.bool true) ∧ Below w.heap.size w w' := by
  have HP := Lib.hid hP
  clear hP
  have HA0 : Hid (Has ((w.alloc (.cells #[.bool an, .string ad, .int .i64 ak] 23)).alloc (.cells #[.bool bn, .string bd, .int .i64 bk] 23)) w.heap.size (.bool an) (.string ad) (.int .i64 ak)) := Lib.hid ((Has.new w (.bool an) (.string ad) (.int .i64 ak) 23).alloc (.cells #[.bool bn, .string bd, .int .i64 bk] 23))
  have HB0 : Hid (Has ((w.alloc (.cells #[.bool an, .string ad, .int .i64 ak] 23)).alloc (.cells #[.bool bn, .string bd, .int .i64 bk] 23)) (w.heap.size + 1) (.bool bn) (.string bd) (.int .i64 bk)) := Lib.hid (by have h := (Has.new (w.alloc (.cells #[.bool an, .string ad, .int .i64 ak] 23)) (.bool bn) (.string bd) (.int .i64 bk) 23); simpa using h)
  have HW0 := Lib.hid (stepA (stepA (Below.refl w.heap.size w) (.cells #[.bool an, .string ad, .int .i64 ak] 23)) (.cells #[.bool bn, .string bd, .int .i64 bk] 23))
  have c1 := fun W => ok.check ⟨an, ad, ak⟩ W za
  rw [chkR_ok ha] at c1
  unfold Dec.v at c1
  have c2 := fun W => ok.check ⟨bn, bd, bk⟩ W zb
  rw [chkR_ok hb] at c2
  unfold Dec.v at c2
  go_enter Tryz.func7, Tryz.ntmps7
  have GA := HA0
  have GB := HB0
  have GW := HW0
  clear HA0 HB0 HW0
  obtain ⟨dA0, dA1, dA2, _⟩ := GA.out
  obtain ⟨dB0, dB1, dB2, _⟩ := GB.out
  go_wp2_with fail
  refine (c1 _ (ok.below HP.out GW.out)).mono ?_
  rintro e w1 ⟨rfl, b1⟩
  have HA1 := Lib.hid (GA.out.call b1)
  have HB1 := Lib.hid (GB.out.call b1)
  have HW1 := Lib.hid (step GW.out b1)
  clear b1 GW GA GB dA0 dA1 dA2 dB0 dB1 dB2
  have GA := HA1
  have GB := HB1
  have GW := HW1
  clear HA1 HB1 HW1
  obtain ⟨dA0, dA1, dA2, _⟩ := GA.out
  obtain ⟨dB0, dB1, dB2, _⟩ := GB.out
  go_wp2_with fail
  refine (c2 _ (ok.below HP.out GW.out)).mono ?_
  rintro e w2 ⟨rfl, b2⟩
  have HA2 := Lib.hid (GA.out.call b2)
  have HB2 := Lib.hid (GB.out.call b2)
  have HW2 := Lib.hid (step GW.out b2)
  clear b2 GW GA GB dA0 dA1 dA2 dB0 dB1 dB2
  have GA := HA2
  have GB := HB2
  have GW := HW2
  clear HA2 HB2 HW2
  obtain ⟨dA0, dA1, dA2, _⟩ := GA.out
  obtain ⟨dB0, dB1, dB2, _⟩ := GB.out
  go_wp2_with fail
  refine (shown_any ok _ (ok.below HP.out GW.out)).mono ?_
  rintro e w3 ⟨rfl, b3⟩
  have HA3 := Lib.hid (GA.out.call b3)
  have HB3 := Lib.hid (GB.out.call b3)
  have HW3 := Lib.hid (step GW.out b3)
  clear b3 GW GA GB dA0 dA1 dA2 dB0 dB1 dB2
  go_wp2
  go_ret
  exact ⟨rfl, HW3.out⟩

set_option maxRecDepth 100000 in
set_option maxHeartbeats 16000000 in
theorem bounds_out4 {P : World → Prop} (ok : ProgOk P) (an : Bool) (ad : ByteArray) (ak : Int) (bn : Bool) (bd : ByteArray) (bk : Int) (za : ad.size ≤ maxLen) (zb : bd.size ≤ maxLen) (scale : Int) (ha : Valid ⟨an, ad, ak⟩) (hb : Valid ⟨bn, bd, bk⟩) (g0 : ¬ (20 : Int) < (ad.size : Int)) (g1 : ¬ (20 : Int) < (bd.size : Int)) (g2 : ¬ (10 : Int) < ak) (g3 : ¬ (10 : Int) < bk) (g4 : scale < 0) (w : World) (hP : P w) : Calls Tryz.prog 7 #[.agg #[.bool an, .string ad, .int .i64 ak], .agg #[.bool bn, .string bd, .int .i64 bk], .int .i64 scale] w fun e w' => e = .returned (.bool true) ∧ Below w.heap.size w w' := by
  have HP := Lib.hid hP
  clear hP
  have HA0 : Hid (Has ((w.alloc (.cells #[.bool an, .string ad, .int .i64 ak] 23)).alloc (.cells #[.bool bn, .string bd, .int .i64 bk] 23)) w.heap.size (.bool an) (.string ad) (.int .i64 ak)) := Lib.hid ((Has.new w (.bool an) (.string ad) (.int .i64 ak) 23).alloc (.cells #[.bool bn, .string bd, .int .i64 bk] 23))
  have HB0 : Hid (Has ((w.alloc (.cells #[.bool an, .string ad, .int .i64 ak] 23)).alloc (.cells #[.bool bn, .string bd, .int .i64 bk] 23)) (w.heap.size + 1) (.bool bn) (.string bd) (.int .i64 bk)) := Lib.hid (by have h := (Has.new (w.alloc (.cells #[.bool an, .string ad, .int .i64 ak] 23)) (.bool bn) (.string bd) (.int .i64 bk) 23); simpa using h)
  have HW0 := Lib.hid (stepA (stepA (Below.refl w.heap.size w) (.cells #[.bool an, .string ad, .int .i64 ak] 23)) (.cells #[.bool bn, .string bd, .int .i64 bk] 23))
  have c1 := fun W => ok.check ⟨an, ad, ak⟩ W za
  rw [chkR_ok ha] at c1
  unfold Dec.v at c1
  have c2 := fun W => ok.check ⟨bn, bd, bk⟩ W zb
  rw [chkR_ok hb] at c2
  unfold Dec.v at c2
  go_enter Tryz.func7, Tryz.ntmps7
  have GA := HA0
  have GB := HB0
  have GW := HW0
  clear HA0 HB0 HW0
  obtain ⟨dA0, dA1, dA2, _⟩ := GA.out
  obtain ⟨dB0, dB1, dB2, _⟩ := GB.out
  go_wp2_with fail
  refine (c1 _ (ok.below HP.out GW.out)).mono ?_
  rintro e w1 ⟨rfl, b1⟩
  have HA1 := Lib.hid (GA.out.call b1)
  have HB1 := Lib.hid (GB.out.call b1)
  have HW1 := Lib.hid (step GW.out b1)
  clear b1 GW GA GB dA0 dA1 dA2 dB0 dB1 dB2
  have GA := HA1
  have GB := HB1
  have GW := HW1
  clear HA1 HB1 HW1
  obtain ⟨dA0, dA1, dA2, _⟩ := GA.out
  obtain ⟨dB0, dB1, dB2, _⟩ := GB.out
  go_wp2_with fail
  refine (c2 _ (ok.below HP.out GW.out)).mono ?_
  rintro e w2 ⟨rfl, b2⟩
  have HA2 := Lib.hid (GA.out.call b2)
  have HB2 := Lib.hid (GB.out.call b2)
  have HW2 := Lib.hid (step GW.out b2)
  clear b2 GW GA GB dA0 dA1 dA2 dB0 dB1 dB2
  have GA := HA2
  have GB := HB2
  have GW := HW2
  clear HA2 HB2 HW2
  obtain ⟨dA0, dA1, dA2, _⟩ := GA.out
  obtain ⟨dB0, dB1, dB2, _⟩ := GB.out
  go_wp2_with fail
  refine (shown_any ok _ (ok.below HP.out GW.out)).mono ?_
  rintro e w3 ⟨rfl, b3⟩
  have HA3 := Lib.hid (GA.out.call b3)
  have HB3 := Lib.hid (GB.out.call b3)
  have HW3 := Lib.hid (step GW.out b3)
  clear b3 GW GA GB dA0 dA1 dA2 dB0 dB1 dB2
  go_wp2
  go_ret
  exact ⟨rfl, HW3.out⟩

set_option maxRecDepth 100000 in
set_option maxHeartbeats 16000000 in
theorem bounds_out5 {P : World → Prop} (ok : ProgOk P) (an : Bool) (ad : ByteArray) (ak : Int) (bn : Bool) (bd : ByteArray) (bk : Int) (za : ad.size ≤ maxLen) (zb : bd.size ≤ maxLen) (scale : Int) (ha : Valid ⟨an, ad, ak⟩) (hb : Valid ⟨bn, bd, bk⟩) (g0 : ¬ (20 : Int) < (ad.size : Int)) (g1 : ¬ (20 : Int) < (bd.size : Int)) (g2 : ¬ (10 : Int) < ak) (g3 : ¬ (10 : Int) < bk) (g4 : ¬ scale < 0) (g5 : (10 : Int) < scale) (w : World) (hP : P w) : Calls Tryz.prog 7 #[.agg #[.bool an, .string ad, .int .i64 ak], .agg #[.bool bn, .string bd, .int .i64 bk], .int .i64 scale] w fun e w' => e = .returned (.bool true) ∧ Below w.heap.size w w' := by
  have HP := Lib.hid hP
  clear hP
  have HA0 : Hid (Has ((w.alloc (.cells #[.bool an, .string ad, .int .i64 ak] 23)).alloc (.cells #[.bool bn, .string bd, .int .i64 bk] 23)) w.heap.size (.bool an) (.string ad) (.int .i64 ak)) := Lib.hid ((Has.new w (.bool an) (.string ad) (.int .i64 ak) 23).alloc (.cells #[.bool bn, .string bd, .int .i64 bk] 23))
  have HB0 : Hid (Has ((w.alloc (.cells #[.bool an, .string ad, .int .i64 ak] 23)).alloc (.cells #[.bool bn, .string bd, .int .i64 bk] 23)) (w.heap.size + 1) (.bool bn) (.string bd) (.int .i64 bk)) := Lib.hid (by have h := (Has.new (w.alloc (.cells #[.bool an, .string ad, .int .i64 ak] 23)) (.bool bn) (.string bd) (.int .i64 bk) 23); simpa using h)
  have HW0 := Lib.hid (stepA (stepA (Below.refl w.heap.size w) (.cells #[.bool an, .string ad, .int .i64 ak] 23)) (.cells #[.bool bn, .string bd, .int .i64 bk] 23))
  have c1 := fun W => ok.check ⟨an, ad, ak⟩ W za
  rw [chkR_ok ha] at c1
  unfold Dec.v at c1
  have c2 := fun W => ok.check ⟨bn, bd, bk⟩ W zb
  rw [chkR_ok hb] at c2
  unfold Dec.v at c2
  go_enter Tryz.func7, Tryz.ntmps7
  have GA := HA0
  have GB := HB0
  have GW := HW0
  clear HA0 HB0 HW0
  obtain ⟨dA0, dA1, dA2, _⟩ := GA.out
  obtain ⟨dB0, dB1, dB2, _⟩ := GB.out
  go_wp2_with fail
  refine (c1 _ (ok.below HP.out GW.out)).mono ?_
  rintro e w1 ⟨rfl, b1⟩
  have HA1 := Lib.hid (GA.out.call b1)
  have HB1 := Lib.hid (GB.out.call b1)
  have HW1 := Lib.hid (step GW.out b1)
  clear b1 GW GA GB dA0 dA1 dA2 dB0 dB1 dB2
  have GA := HA1
  have GB := HB1
  have GW := HW1
  clear HA1 HB1 HW1
  obtain ⟨dA0, dA1, dA2, _⟩ := GA.out
  obtain ⟨dB0, dB1, dB2, _⟩ := GB.out
  go_wp2_with fail
  refine (c2 _ (ok.below HP.out GW.out)).mono ?_
  rintro e w2 ⟨rfl, b2⟩
  have HA2 := Lib.hid (GA.out.call b2)
  have HB2 := Lib.hid (GB.out.call b2)
  have HW2 := Lib.hid (step GW.out b2)
  clear b2 GW GA GB dA0 dA1 dA2 dB0 dB1 dB2
  have GA := HA2
  have GB := HB2
  have GW := HW2
  clear HA2 HB2 HW2
  obtain ⟨dA0, dA1, dA2, _⟩ := GA.out
  obtain ⟨dB0, dB1, dB2, _⟩ := GB.out
  go_wp2_with fail
  refine (shown_any ok _ (ok.below HP.out GW.out)).mono ?_
  rintro e w3 ⟨rfl, b3⟩
  have HA3 := Lib.hid (GA.out.call b3)
  have HB3 := Lib.hid (GB.out.call b3)
  have HW3 := Lib.hid (step GW.out b3)
  clear b3 GW GA GB dA0 dA1 dA2 dB0 dB1 dB2
  go_wp2
  go_ret
  exact ⟨rfl, HW3.out⟩

set_option maxRecDepth 100000 in
set_option maxHeartbeats 16000000 in
theorem bounds_out6 {P : World → Prop} (ok : ProgOk P) (an : Bool) (ad : ByteArray) (ak : Int) (bn : Bool) (bd : ByteArray) (bk : Int) (za : ad.size ≤ maxLen) (zb : bd.size ≤ maxLen) (scale : Int) (ha : Valid ⟨an, ad, ak⟩) (hb : Valid ⟨bn, bd, bk⟩) (g0 : ¬ (20 : Int) < (ad.size : Int)) (g1 : ¬ (20 : Int) < (bd.size : Int)) (g2 : ¬ (10 : Int) < ak) (g3 : ¬ (10 : Int) < bk) (g4 : ¬ scale < 0) (g5 : ¬ (10 : Int) < scale) (g6 : (bd.toList == [48]) = true) (w : World) (hP : P w) : Calls Tryz.prog 7 #[.agg #[.bool an, .string ad, .int .i64 ak], .agg #[.bool bn, .string bd, .int .i64 bk], .int .i64 scale] w fun e w' => e = .returned (.bool true) ∧ Below w.heap.size w w' := by
  have HP := Lib.hid hP
  clear hP
  have HA0 : Hid (Has ((w.alloc (.cells #[.bool an, .string ad, .int .i64 ak] 23)).alloc (.cells #[.bool bn, .string bd, .int .i64 bk] 23)) w.heap.size (.bool an) (.string ad) (.int .i64 ak)) := Lib.hid ((Has.new w (.bool an) (.string ad) (.int .i64 ak) 23).alloc (.cells #[.bool bn, .string bd, .int .i64 bk] 23))
  have HB0 : Hid (Has ((w.alloc (.cells #[.bool an, .string ad, .int .i64 ak] 23)).alloc (.cells #[.bool bn, .string bd, .int .i64 bk] 23)) (w.heap.size + 1) (.bool bn) (.string bd) (.int .i64 bk)) := Lib.hid (by have h := (Has.new (w.alloc (.cells #[.bool an, .string ad, .int .i64 ak] 23)) (.bool bn) (.string bd) (.int .i64 bk) 23); simpa using h)
  have HW0 := Lib.hid (stepA (stepA (Below.refl w.heap.size w) (.cells #[.bool an, .string ad, .int .i64 ak] 23)) (.cells #[.bool bn, .string bd, .int .i64 bk] 23))
  have c1 := fun W => ok.check ⟨an, ad, ak⟩ W za
  rw [chkR_ok ha] at c1
  unfold Dec.v at c1
  have c2 := fun W => ok.check ⟨bn, bd, bk⟩ W zb
  rw [chkR_ok hb] at c2
  unfold Dec.v at c2
  go_enter Tryz.func7, Tryz.ntmps7
  have GA := HA0
  have GB := HB0
  have GW := HW0
  clear HA0 HB0 HW0
  obtain ⟨dA0, dA1, dA2, _⟩ := GA.out
  obtain ⟨dB0, dB1, dB2, _⟩ := GB.out
  go_wp2_with fail
  refine (c1 _ (ok.below HP.out GW.out)).mono ?_
  rintro e w1 ⟨rfl, b1⟩
  have HA1 := Lib.hid (GA.out.call b1)
  have HB1 := Lib.hid (GB.out.call b1)
  have HW1 := Lib.hid (step GW.out b1)
  clear b1 GW GA GB dA0 dA1 dA2 dB0 dB1 dB2
  have GA := HA1
  have GB := HB1
  have GW := HW1
  clear HA1 HB1 HW1
  obtain ⟨dA0, dA1, dA2, _⟩ := GA.out
  obtain ⟨dB0, dB1, dB2, _⟩ := GB.out
  go_wp2_with fail
  refine (c2 _ (ok.below HP.out GW.out)).mono ?_
  rintro e w2 ⟨rfl, b2⟩
  have HA2 := Lib.hid (GA.out.call b2)
  have HB2 := Lib.hid (GB.out.call b2)
  have HW2 := Lib.hid (step GW.out b2)
  clear b2 GW GA GB dA0 dA1 dA2 dB0 dB1 dB2
  have GA := HA2
  have GB := HB2
  have GW := HW2
  clear HA2 HB2 HW2
  obtain ⟨dA0, dA1, dA2, _⟩ := GA.out
  obtain ⟨dB0, dB1, dB2, _⟩ := GB.out
  go_wp2_with fail
  refine (shown_any ok _ (ok.below HP.out GW.out)).mono ?_
  rintro e w3 ⟨rfl, b3⟩
  have HA3 := Lib.hid (GA.out.call b3)
  have HB3 := Lib.hid (GB.out.call b3)
  have HW3 := Lib.hid (step GW.out b3)
  clear b3 GW GA GB dA0 dA1 dA2 dB0 dB1 dB2
  go_wp2
  go_ret
  exact ⟨rfl, HW3.out⟩
end Go.Proofs.YtcpociafcjabkaaGreatDoor
