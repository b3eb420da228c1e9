/- The law DecimalLaws. -/
import Derived.Test.YtcpociafcjabkaaGreatDoorLE
import Derived.Test.YtcpociafcjabkaaGreatDoorLK
set_option linter.unusedSimpArgs false
set_option linter.unusedVariables false
namespace Go.Proofs.YtcpociafcjabkaaGreatDoor
open Go.RowKit

set_option maxRecDepth 100000 in
set_option maxHeartbeats 16000000 in
theorem laws_long1 {P : World → Prop} (ok : ProgOk P) (an : Bool) (ad : ByteArray) (ak : Int) (bn : Bool) (bd : ByteArray) (bk : Int) (cn : Bool) (cd : ByteArray) (ck : Int)  (h : (400 : Int) < (ad.size : Int)) (w : World) (hP : P w) : Calls Tryz.prog 6 #[.agg #[.bool an, .string ad, .int .i64 ak], .agg #[.bool bn, .string bd, .int .i64 bk], .agg #[.bool cn, .string cd, .int .i64 ck]] w fun e w' => e = .returned (.bool true) ∧ Below w.heap.size w w' := by
  have HP := Lib.hid hP
  clear hP
  have HA0 : Hid (Has (((w.alloc (.cells #[.bool an, .string ad, .int .i64 ak] 23)).alloc (.cells #[.bool bn, .string bd, .int .i64 bk] 23)).alloc (.cells #[.bool cn, .string cd, .int .i64 ck] 23)) w.heap.size (.bool an) (.string ad) (.int .i64 ak)) := Lib.hid (((Has.new w (.bool an) (.string ad) (.int .i64 ak) 23).alloc (.cells #[.bool bn, .string bd, .int .i64 bk] 23)).alloc (.cells #[.bool cn, .string cd, .int .i64 ck] 23))
  have HB0 : Hid (Has (((w.alloc (.cells #[.bool an, .string ad, .int .i64 ak] 23)).alloc (.cells #[.bool bn, .string bd, .int .i64 bk] 23)).alloc (.cells #[.bool cn, .string cd, .int .i64 ck] 23)) (w.heap.size + 1) (.bool bn) (.string bd) (.int .i64 bk)) := Lib.hid (by have h := ((Has.new (w.alloc (.cells #[.bool an, .string ad, .int .i64 ak] 23)) (.bool bn) (.string bd) (.int .i64 bk) 23).alloc (.cells #[.bool cn, .string cd, .int .i64 ck] 23)); simpa using h)
  have HC0 : Hid (Has (((w.alloc (.cells #[.bool an, .string ad, .int .i64 ak] 23)).alloc (.cells #[.bool bn, .string bd, .int .i64 bk] 23)).alloc (.cells #[.bool cn, .string cd, .int .i64 ck] 23)) (w.heap.size + 1 + 1) (.bool cn) (.string cd) (.int .i64 ck)) := Lib.hid (by have h := (Has.new ((w.alloc (.cells #[.bool an, .string ad, .int .i64 ak] 23)).alloc (.cells #[.bool bn, .string bd, .int .i64 bk] 23)) (.bool cn) (.string cd) (.int .i64 ck) 23); simpa using h)
  have HW0 := Lib.hid (stepA (stepA (stepA (Below.refl w.heap.size w) (.cells #[.bool an, .string ad, .int .i64 ak] 23)) (.cells #[.bool bn, .string bd, .int .i64 bk] 23)) (.cells #[.bool cn, .string cd, .int .i64 ck] 23))
  go_enter Tryz.func6, Tryz.ntmps6
  have GA := HA0
  have GB := HB0
  have GC := HC0
  have GW := HW0
  clear HA0 HB0 HC0 HW0
  obtain ⟨dA0, dA1, dA2, _⟩ := GA.out
  obtain ⟨dB0, dB1, dB2, _⟩ := GB.out
  obtain ⟨dC0, dC1, dC2, _⟩ := GC.out
  go_wp2_with fail
  refine (shown_any ok _ (ok.below HP.out GW.out)).mono ?_
  rintro e w1 ⟨rfl, b1⟩
  have HA1 := Lib.hid (GA.out.call b1)
  have HB1 := Lib.hid (GB.out.call b1)
  have HC1 := Lib.hid (GC.out.call b1)
  have HW1 := Lib.hid (step GW.out b1)
  clear b1 GW GA GB GC dA0 dA1 dA2 dB0 dB1 dB2 dC0 dC1 dC2
  go_wp2
  go_ret
  exact ⟨rfl, HW1.out⟩

set_option maxRecDepth 100000 in
set_option maxHeartbeats 16000000 in
theorem laws_long2 {P : World → Prop} (ok : ProgOk P) (an : Bool) (ad : ByteArray) (ak : Int) (bn : Bool) (bd : ByteArray) (bk : Int) (cn : Bool) (cd : ByteArray) (ck : Int) (ga : ¬ (400 : Int) < (ad.size : Int)) (h : (400 : Int) < (bd.size : Int)) (w : World) (hP : P w) : Calls Tryz.prog 6 #[.agg #[.bool an, .string ad, .int .i64 ak], .agg #[.bool bn, .string bd, .int .i64 bk], .agg #[.bool cn, .string cd, .int .i64 ck]] w fun e w' => e = .returned (.bool true) ∧ Below w.heap.size w w' := by
  have HP := Lib.hid hP
  clear hP
  have HA0 : Hid (Has (((w.alloc (.cells #[.bool an, .string ad, .int .i64 ak] 23)).alloc (.cells #[.bool bn, .string bd, .int .i64 bk] 23)).alloc (.cells #[.bool cn, .string cd, .int .i64 ck] 23)) w.heap.size (.bool an) (.string ad) (.int .i64 ak)) := Lib.hid (((Has.new w (.bool an) (.string ad) (.int .i64 ak) 23).alloc (.cells #[.bool bn, .string bd, .int .i64 bk] 23)).alloc (.cells #[.bool cn, .string cd, .int .i64 ck] 23))
  have HB0 : Hid (Has (((w.alloc (.cells #[.bool an, .string ad, .int .i64 ak] 23)).alloc (.cells #[.bool bn, .string bd, .int .i64 bk] 23)).alloc (.cells #[.bool cn, .string cd, .int .i64 ck] 23)) (w.heap.size + 1) (.bool bn) (.string bd) (.int .i64 bk)) := Lib.hid (by have h := ((Has.new (w.alloc (.cells #[.bool an, .string ad, .int .i64 ak] 23)) (.bool bn) (.string bd) (.int .i64 bk) 23).alloc (.cells #[.bool cn, .string cd, .int .i64 ck] 23)); simpa using h)
  have HC0 : Hid (Has (((w.alloc (.cells #[.bool an, .string ad, .int .i64 ak] 23)).alloc (.cells #[.bool bn, .string bd, .int .i64 bk] 23)).alloc (.cells #[.bool cn, .string cd, .int .i64 ck] 23)) (w.heap.size + 1 + 1) (.bool cn) (.string cd) (.int .i64 ck)) := Lib.hid (by have h := (Has.new ((w.alloc (.cells #[.bool an, .string ad, .int .i64 ak] 23)).alloc (.cells #[.bool bn, .string bd, .int .i64 bk] 23)) (.bool cn) (.string cd) (.int .i64 ck) 23); simpa using h)
  have HW0 := Lib.hid (stepA (stepA (stepA (Below.refl w.heap.size w) (.cells #[.bool an, .string ad, .int .i64 ak] 23)) (.cells #[.bool bn, .string bd, .int .i64 bk] 23)) (.cells #[.bool cn, .string cd, .int .i64 ck] 23))
  go_enter Tryz.func6, Tryz.ntmps6
  have GA := HA0
  have GB := HB0
  have GC := HC0
  have GW := HW0
  clear HA0 HB0 HC0 HW0
  obtain ⟨dA0, dA1, dA2, _⟩ := GA.out
  obtain ⟨dB0, dB1, dB2, _⟩ := GB.out
  obtain ⟨dC0, dC1, dC2, _⟩ := GC.out
  go_wp2_with fail
  refine (shown_any ok _ (ok.below HP.out GW.out)).mono ?_
  rintro e w1 ⟨rfl, b1⟩
  have HA1 := Lib.hid (GA.out.call b1)
  have HB1 := Lib.hid (GB.out.call b1)
  have HC1 := Lib.hid (GC.out.call b1)
  have HW1 := Lib.hid (step GW.out b1)
  clear b1 GW GA GB GC dA0 dA1 dA2 dB0 dB1 dB2 dC0 dC1 dC2
  go_wp2
  go_ret
  exact ⟨rfl, HW1.out⟩

set_option maxRecDepth 100000 in
set_option maxHeartbeats 16000000 in
theorem laws_long3 {P : World → Prop} (ok : ProgOk P) (an : Bool) (ad : ByteArray) (ak : Int) (bn : Bool) (bd : ByteArray) (bk : Int) (cn : Bool) (cd : ByteArray) (ck : Int) (ga : ¬ (400 : Int) < (ad.size : Int)) (gb : ¬ (400 : Int) < (bd.size : Int)) (h : (400 : Int) < (cd.size : Int)) (w : World) (hP : P w) : Calls Tryz.prog 6 #[.agg #[.bool an, .string ad, .int .i64 ak], .agg #[.bool bn, .string bd, .int .i64 bk], .agg #[.bool cn, .string cd, .int .i64 ck]] w fun e w' => e = .returned (.bool true) ∧ Below w.heap.size w w' := by
  have HP := Lib.hid hP
  clear hP
  have HA0 : Hid (Has (((w.alloc (.cells #[.bool an, .string ad, .int .i64 ak] 23)).alloc (.cells #[.bool bn, .string bd, .int .i64 bk] 23)).alloc (.cells #[.bool cn, .string cd, .int .i64 ck] 23)) w.heap.size (.bool an) (.string ad) (.int .i64 ak)) := Lib.hid (((Has.new w (.bool an) (.string ad) (.int .i64 ak) 23).alloc (.cells #[.bool bn, .string bd, .int .i64 bk] 23)).alloc (.cells #[.bool cn, .string cd, .int .i64 ck] 23))
  have HB0 : Hid (Has (((w.alloc (.cells #[.bool an, .string ad, .int .i64 ak] 23)).alloc (.cells #[.bool bn, .string bd, .int .i64 bk] 23)).alloc (.cells #[.bool cn, .string cd, .int .i64 ck] 23)) (w.heap.size + 1) (.bool bn) (.string bd) (.int .i64 bk)) := Lib.hid (by have h := ((Has.new (w.alloc (.cells #[.bool an, .string ad, .int .i64 ak] 23)) (.bool bn) (.string bd) (.int .i64 bk) 23).alloc (.cells #[.bool cn, .string cd, .int .i64 ck] 23)); simpa using h)
  have HC0 : Hid (Has (((w.alloc (.cells #[.bool an, .string ad, .int .i64 ak] 23)).alloc (.cells #[.bool bn, .string bd, .int .i64 bk] 23)).alloc (.cells #[.bool cn, .string cd, .int .i64 ck] 23)) (w.heap.size + 1 + 1) (.bool cn) (.string cd) (.int .i64 ck)) := Lib.hid (by have h := (Has.new ((w.alloc (.cells #[.bool an, .string ad, .int .i64 ak] 23)).alloc (.cells #[.bool bn, .string bd, .int .i64 bk] 23)) (.bool cn) (.string cd) (.int .i64 ck) 23); simpa using h)
  have HW0 := Lib.hid (stepA (stepA (stepA (Below.refl w.heap.size w) (.cells #[.bool an, .string ad, .int .i64 ak] 23)) (.cells #[.bool bn, .string bd, .int .i64 bk] 23)) (.cells #[.bool cn, .string cd, .int .i64 ck] 23))
  go_enter Tryz.func6, Tryz.ntmps6
  have GA := HA0
  have GB := HB0
  have GC := HC0
  have GW := HW0
  clear HA0 HB0 HC0 HW0
  obtain ⟨dA0, dA1, dA2, _⟩ := GA.out
  obtain ⟨dB0, dB1, dB2, _⟩ := GB.out
  obtain ⟨dC0, dC1, dC2, _⟩ := GC.out
  go_wp2_with fail
  refine (shown_any ok _ (ok.below HP.out GW.out)).mono ?_
  rintro e w1 ⟨rfl, b1⟩
  have HA1 := Lib.hid (GA.out.call b1)
  have HB1 := Lib.hid (GB.out.call b1)
  have HC1 := Lib.hid (GC.out.call b1)
  have HW1 := Lib.hid (step GW.out b1)
  clear b1 GW GA GB GC dA0 dA1 dA2 dB0 dB1 dB2 dC0 dC1 dC2
  go_wp2
  go_ret
  exact ⟨rfl, HW1.out⟩

set_option maxRecDepth 100000 in
set_option maxHeartbeats 16000000 in
theorem laws_bad1 {P : World → Prop} (ok : ProgOk P) (an : Bool) (ad : ByteArray) (ak : Int) (bn : Bool) (bd : ByteArray) (bk : Int) (cn : Bool) (cd : ByteArray) (ck : Int) (ga : ¬ (400 : Int) < (ad.size : Int)) (gb : ¬ (400 : Int) < (bd.size : Int)) (gc : ¬ (400 : Int) < (cd.size : Int))  (h : ¬ Valid ⟨an, ad, ak⟩) (w : World) (hP : P w) : Calls Tryz.prog 6 #[.agg #[.bool an, .string ad, .int .i64 ak], .agg #[.bool bn, .string bd, .int .i64 bk], .agg #[.bool cn, .string cd, .int .i64 ck]] w fun e w' => e = .returned (.bool true) ∧ Below w.heap.size w w' := by
  have HP := Lib.hid hP
  clear hP
  have HA0 : Hid (Has (((w.alloc (.cells #[.bool an, .string ad, .int .i64 ak] 23)).alloc (.cells #[.bool bn, .string bd, .int .i64 bk] 23)).alloc (.cells #[.bool cn, .string cd, .int .i64 ck] 23)) w.heap.size (.bool an) (.string ad) (.int .i64 ak)) := Lib.hid (((Has.new w (.bool an) (.string ad) (.int .i64 ak) 23).alloc (.cells #[.bool bn, .string bd, .int .i64 bk] 23)).alloc (.cells #[.bool cn, .string cd, .int .i64 ck] 23))
  have HB0 : Hid (Has (((w.alloc (.cells #[.bool an, .string ad, .int .i64 ak] 23)).alloc (.cells #[.bool bn, .string bd, .int .i64 bk] 23)).alloc (.cells #[.bool cn, .string cd, .int .i64 ck] 23)) (w.heap.size + 1) (.bool bn) (.string bd) (.int .i64 bk)) := Lib.hid (by have h := ((Has.new (w.alloc (.cells #[.bool an, .string ad, .int .i64 ak] 23)) (.bool bn) (.string bd) (.int .i64 bk) 23).alloc (.cells #[.bool cn, .string cd, .int .i64 ck] 23)); simpa using h)
  have HC0 : Hid (Has (((w.alloc (.cells #[.bool an, .string ad, .int .i64 ak] 23)).alloc (.cells #[.bool bn, .string bd, .int .i64 bk] 23)).alloc (.cells #[.bool cn, .string cd, .int .i64 ck] 23)) (w.heap.size + 1 + 1) (.bool cn) (.string cd) (.int .i64 ck)) := Lib.hid (by have h := (Has.new ((w.alloc (.cells #[.bool an, .string ad, .int .i64 ak] 23)).alloc (.cells #[.bool bn, .string bd, .int .i64 bk] 23)) (.bool cn) (.string cd) (.int .i64 ck) 23); simpa using h)
  have HW0 := Lib.hid (stepA (stepA (stepA (Below.refl w.heap.size w) (.cells #[.bool an, .string ad, .int .i64 ak] 23)) (.cells #[.bool bn, .string bd, .int .i64 bk] 23)) (.cells #[.bool cn, .string cd, .int .i64 ck] 23))
  have c1 := fun W => ok.check ⟨an, ad, ak⟩ W (by unfold maxLen at *; simp only; omega)
  rw [chkR_bad h] at c1
  unfold Dec.v at c1
  go_enter Tryz.func6, Tryz.ntmps6
  have GA := HA0
  have GB := HB0
  have GC := HC0
  have GW := HW0
  clear HA0 HB0 HC0 HW0
  obtain ⟨dA0, dA1, dA2, _⟩ := GA.out
  obtain ⟨dB0, dB1, dB2, _⟩ := GB.out
  obtain ⟨dC0, dC1, dC2, _⟩ := GC.out
  go_wp2_with fail
  refine (c1 _ (ok.below HP.out GW.out)).mono ?_
  rintro e w1 ⟨rfl, b1⟩
  have HA1 := Lib.hid (GA.out.call b1)
  have HB1 := Lib.hid (GB.out.call b1)
  have HC1 := Lib.hid (GC.out.call b1)
  have HW1 := Lib.hid (step GW.out b1)
  clear b1 GW GA GB GC dA0 dA1 dA2 dB0 dB1 dB2 dC0 dC1 dC2
  have GA := HA1
  have GB := HB1
  have GC := HC1
  have GW := HW1
  clear HA1 HB1 HC1 HW1
  obtain ⟨dA0, dA1, dA2, _⟩ := GA.out
  obtain ⟨dB0, dB1, dB2, _⟩ := GB.out
  obtain ⟨dC0, dC1, dC2, _⟩ := GC.out
  go_wp2_with fail
  refine (shown_any ok _ (ok.below HP.out GW.out)).mono ?_
  rintro e w2 ⟨rfl, b2⟩
  have HA2 := Lib.hid (GA.out.call b2)
  have HB2 := Lib.hid (GB.out.call b2)
  have HC2 := Lib.hid (GC.out.call b2)
  have HW2 := Lib.hid (step GW.out b2)
  clear b2 GW GA GB GC dA0 dA1 dA2 dB0 dB1 dB2 dC0 dC1 dC2
  go_wp2
  go_ret
  exact ⟨rfl, HW2.out⟩

set_option maxRecDepth 100000 in
set_option maxHeartbeats 16000000 in
theorem laws_bad2 {P : World → Prop} (ok : ProgOk P) (an : Bool) (ad : ByteArray) (ak : Int) (bn : Bool) (bd : ByteArray) (bk : Int) (cn : Bool) (cd : ByteArray) (ck : Int) (ga : ¬ (400 : Int) < (ad.size : Int)) (gb : ¬ (400 : Int) < (bd.size : Int)) (gc : ¬ (400 : Int) < (cd.size : Int)) (ha : Valid ⟨an, ad, ak⟩) (h : ¬ Valid ⟨bn, bd, bk⟩) (w : World) (hP : P w) : Calls Tryz.prog 6 #[.agg #[.bool an, .string ad, .int .i64 ak], .agg #[.bool bn, .string bd, .int .i64 bk], .agg #[.bool cn, .string cd, .int .i64 ck]] w fun e w' => e = .returned (.bool true) ∧ Below w.heap.size w w' := by
  have HP := Lib.hid hP
  clear hP
  have HA0 : Hid (Has (((w.alloc (.cells #[.bool an, .string ad, .int .i64 ak] 23)).alloc (.cells #[.bool bn, .string bd, .int .i64 bk] 23)).alloc (.cells #[.bool cn, .string cd, .int .i64 ck] 23)) w.heap.size (.bool an) (.string ad) (.int .i64 ak)) := Lib.hid (((Has.new w (.bool an) (.string ad) (.int .i64 ak) 23).alloc (.cells #[.bool bn, .string bd, .int .i64 bk] 23)).alloc (.cells #[.bool cn, .string cd, .int .i64 ck] 23))
  have HB0 : Hid (Has (((w.alloc (.cells #[.bool an, .string ad, .int .i64 ak] 23)).alloc (.cells #[.bool bn, .string bd, .int .i64 bk] 23)).alloc (.cells #[.bool cn, .string cd, .int .i64 ck] 23)) (w.heap.size + 1) (.bool bn) (.string bd) (.int .i64 bk)) := Lib.hid (by have h := ((Has.new (w.alloc (.cells #[.bool an, .string ad, .int .i64 ak] 23)) (.bool bn) (.string bd) (.int .i64 bk) 23).alloc (.cells #[.bool cn, .string cd, .int .i64 ck] 23)); simpa using h)
  have HC0 : Hid (Has (((w.alloc (.cells #[.bool an, .string ad, .int .i64 ak] 23)).alloc (.cells #[.bool bn, .string bd, .int .i64 bk] 23)).alloc (.cells #[.bool cn, .string cd, .int .i64 ck] 23)) (w.heap.size + 1 + 1) (.bool cn) (.string cd) (.int .i64 ck)) := Lib.hid (by have h := (Has.new ((w.alloc (.cells #[.bool an, .string ad, .int .i64 ak] 23)).alloc (.cells #[.bool bn, .string bd, .int .i64 bk] 23)) (.bool cn) (.string cd) (.int .i64 ck) 23); simpa using h)
  have HW0 := Lib.hid (stepA (stepA (stepA (Below.refl w.heap.size w) (.cells #[.bool an, .string ad, .int .i64 ak] 23)) (.cells #[.bool bn, .string bd, .int .i64 bk] 23)) (.cells #[.bool cn, .string cd, .int .i64 ck] 23))
  have c1 := fun W => ok.check ⟨an, ad, ak⟩ W (by unfold maxLen at *; simp only; omega)
  rw [chkR_ok ha] at c1
  unfold Dec.v at c1
  have c2 := fun W => ok.check ⟨bn, bd, bk⟩ W (by unfold maxLen at *; simp only; omega)
  rw [chkR_bad h] at c2
  unfold Dec.v at c2
  go_enter Tryz.func6, Tryz.ntmps6
  have GA := HA0
  have GB := HB0
  have GC := HC0
  have GW := HW0
  clear HA0 HB0 HC0 HW0
  obtain ⟨dA0, dA1, dA2, _⟩ := GA.out
  obtain ⟨dB0, dB1, dB2, _⟩ := GB.out
  obtain ⟨dC0, dC1, dC2, _⟩ := GC.out
  go_wp2_with fail
  refine (c1 _ (ok.below HP.out GW.out)).mono ?_
  rintro e w1 ⟨rfl, b1⟩
  have HA1 := Lib.hid (GA.out.call b1)
  have HB1 := Lib.hid (GB.out.call b1)
  have HC1 := Lib.hid (GC.out.call b1)
  have HW1 := Lib.hid (step GW.out b1)
  clear b1 GW GA GB GC dA0 dA1 dA2 dB0 dB1 dB2 dC0 dC1 dC2
  have GA := HA1
  have GB := HB1
  have GC := HC1
  have GW := HW1
  clear HA1 HB1 HC1 HW1
  obtain ⟨dA0, dA1, dA2, _⟩ := GA.out
  obtain ⟨dB0, dB1, dB2, _⟩ := GB.out
  obtain ⟨dC0, dC1, dC2, _⟩ := GC.out
  go_wp2_with fail
  refine (c2 _ (ok.below HP.out GW.out)).mono ?_
  rintro e w2 ⟨rfl, b2⟩
  have HA2 := Lib.hid (GA.out.call b2)
  have HB2 := Lib.hid (GB.out.call b2)
  have HC2 := Lib.hid (GC.out.call b2)
  have HW2 := Lib.hid (step GW.out b2)
  clear b2 GW GA GB GC dA0 dA1 dA2 dB0 dB1 dB2 dC0 dC1 dC2
  have GA := HA2
  have GB := HB2
  have GC := HC2
  have GW := HW2
  clear HA2 HB2 HC2 HW2
  obtain ⟨dA0, dA1, dA2, _⟩ := GA.out
  obtain ⟨dB0, dB1, dB2, _⟩ := GB.out
  obtain ⟨dC0, dC1, dC2, _⟩ := GC.out
  go_wp2_with fail
  refine (shown_any ok _ (ok.below HP.out GW.out)).mono ?_
  rintro e w3 ⟨rfl, b3⟩
  have HA3 := Lib.hid (GA.out.call b3)
  have HB3 := Lib.hid (GB.out.call b3)
  have HC3 := Lib.hid (GC.out.call b3)
  have HW3 := Lib.hid (step GW.out b3)
  clear b3 GW GA GB GC dA0 dA1 dA2 dB0 dB1 dB2 dC0 dC1 dC2
  go_wp2
  go_ret
  exact ⟨rfl, HW3.out⟩

set_option maxRecDepth 100000 in
set_option maxHeartbeats 16000000 in
theorem laws_bad3 {P : World → Prop} (ok : ProgOk P) (an : Bool) (ad : ByteArray) (ak : Int) (bn : Bool) (bd : ByteArray) (bk : Int) (cn : Bool) (cd : ByteArray) (ck : Int) (ga : ¬ (400 : Int) < (ad.size : Int)) (gb : ¬ (400 : Int) < (bd.size : Int)) (gc : ¬ (400 : Int) < (cd.size : Int)) (ha : Valid ⟨an, ad, ak⟩) (hb : Valid ⟨bn, bd, bk⟩) (h : ¬ Valid ⟨cn, cd, ck⟩) (w : World) (hP : P w) : Calls Tryz.prog 6 #[.agg #[.bool an, .string ad, .int .i64 ak], .agg #[.bool bn, .string bd, .int .i64 bk], .agg #[.bool cn, .string cd, .int .i64 ck]] w fun e w' => e = .returned (.bool true) ∧ Below w.heap.size w w' := by
  have HP := Lib.hid hP
  clear hP
  have HA0 : Hid (Has (((w.alloc (.cells #[.bool an, .string ad, .int .i64 ak] 23)).alloc (.cells #[.bool bn, .string bd, .int .i64 bk] 23)).alloc (.cells #[.bool cn, .string cd, .int .i64 ck] 23)) w.heap.size (.bool an) (.string ad) (.int .i64 ak)) := Lib.hid (((Has.new w (.bool an) (.string ad) (.int .i64 ak) 23).alloc (.cells #[.bool bn, .string bd, .int .i64 bk] 23)).alloc (.cells #[.bool cn, .string cd, .int .i64 ck] 23))
  have HB0 : Hid (Has (((w.alloc (.cells #[.bool an, .string ad, .int .i64 ak] 23)).alloc (.cells #[.bool bn, .string bd, .int .i64 bk] 23)).alloc (.cells #[.bool cn, .string cd, .int .i64 ck] 23)) (w.heap.size + 1) (.bool bn) (.string bd) (.int .i64 bk)) := Lib.hid (by have h := ((Has.new (w.alloc (.cells #[.bool an, .string ad, .int .i64 ak] 23)) (.bool bn) (.string bd) (.int .i64 bk) 23).alloc (.cells #[.bool cn, .string cd, .int .i64 ck] 23)); simpa using h)
  have HC0 : Hid (Has (((w.alloc (.cells #[.bool an, .string ad, .int .i64 ak] 23)).alloc (.cells #[.bool bn, .string bd, .int .i64 bk] 23)).alloc (.cells #[.bool cn, .string cd, .int .i64 ck] 23)) (w.heap.size + 1 + 1) (.bool cn) (.string cd) (.int .i64 ck)) := Lib.hid (by have h := (Has.new ((w.alloc (.cells #[.bool an, .string ad, .int .i64 ak] 23)).alloc (.cells #[.bool bn, .string bd, .int .i64 bk] 23)) (.bool cn) (.string cd) (.int .i64 ck) 23); simpa using h)
  have HW0 := Lib.hid (stepA (stepA (stepA (Below.refl w.heap.size w) (.cells #[.bool an, .string ad, .int .i64 ak] 23)) (.cells #[.bool bn, .string bd, .int .i64 bk] 23)) (.cells #[.bool cn, .string cd, .int .i64 ck] 23))
  have c1 := fun W => ok.check ⟨an, ad, ak⟩ W (by unfold maxLen at *; simp only; omega)
  rw [chkR_ok ha] at c1
  unfold Dec.v at c1
  have c2 := fun W => ok.check ⟨bn, bd, bk⟩ W (by unfold maxLen at *; simp only; omega)
  rw [chkR_ok hb] at c2
  unfold Dec.v at c2
  have c3 := fun W => ok.check ⟨cn, cd, ck⟩ W (by unfold maxLen at *; simp only; omega)
  rw [chkR_bad h] at c3
  unfold Dec.v at c3
  go_enter Tryz.func6, Tryz.ntmps6
  have GA := HA0
  have GB := HB0
  have GC := HC0
  have GW := HW0
  clear HA0 HB0 HC0 HW0
  obtain ⟨dA0, dA1, dA2, _⟩ := GA.out
  obtain ⟨dB0, dB1, dB2, _⟩ := GB.out
  obtain ⟨dC0, dC1, dC2, _⟩ := GC.out
  go_wp2_with fail
  refine (c1 _ (ok.below HP.out GW.out)).mono ?_
  rintro e w1 ⟨rfl, b1⟩
  have HA1 := Lib.hid (GA.out.call b1)
  have HB1 := Lib.hid (GB.out.call b1)
  have HC1 := Lib.hid (GC.out.call b1)
  have HW1 := Lib.hid (step GW.out b1)
  clear b1 GW GA GB GC dA0 dA1 dA2 dB0 dB1 dB2 dC0 dC1 dC2
  have GA := HA1
  have GB := HB1
  have GC := HC1
  have GW := HW1
  clear HA1 HB1 HC1 HW1
  obtain ⟨dA0, dA1, dA2, _⟩ := GA.out
  obtain ⟨dB0, dB1, dB2, _⟩ := GB.out
  obtain ⟨dC0, dC1, dC2, _⟩ := GC.out
  go_wp2_with fail
  refine (c2 _ (ok.below HP.out GW.out)).mono ?_
  rintro e w2 ⟨rfl, b2⟩
  have HA2 := Lib.hid (GA.out.call b2)
  have HB2 := Lib.hid (GB.out.call b2)
  have HC2 := Lib.hid (GC.out.call b2)
  have HW2 := Lib.hid (step GW.out b2)
  clear b2 GW GA GB GC dA0 dA1 dA2 dB0 dB1 dB2 dC0 dC1 dC2
  have GA := HA2
  have GB := HB2
  have GC := HC2
  have GW := HW2
  clear HA2 HB2 HC2 HW2
  obtain ⟨dA0, dA1, dA2, _⟩ := GA.out
  obtain ⟨dB0, dB1, dB2, _⟩ := GB.out
  obtain ⟨dC0, dC1, dC2, _⟩ := GC.out
  go_wp2_with fail
  refine (c3 _ (ok.below HP.out GW.out)).mono ?_
  rintro e w3 ⟨rfl, b3⟩
  have HA3 := Lib.hid (GA.out.call b3)
  have HB3 := Lib.hid (GB.out.call b3)
  have HC3 := Lib.hid (GC.out.call b3)
  have HW3 := Lib.hid (step GW.out b3)
  clear b3 GW GA GB GC dA0 dA1 dA2 dB0 dB1 dB2 dC0 dC1 dC2
  have GA := HA3
  have GB := HB3
  have GC := HC3
  have GW := HW3
  clear HA3 HB3 HC3 HW3
  obtain ⟨dA0, dA1, dA2, _⟩ := GA.out
  obtain ⟨dB0, dB1, dB2, _⟩ := GB.out
  obtain ⟨dC0, dC1, dC2, _⟩ := GC.out
  go_wp2_with fail
  refine (shown_any ok _ (ok.below HP.out GW.out)).mono ?_
  rintro e w4 ⟨rfl, b4⟩
  have HA4 := Lib.hid (GA.out.call b4)
  have HB4 := Lib.hid (GB.out.call b4)
  have HC4 := Lib.hid (GC.out.call b4)
  have HW4 := Lib.hid (step GW.out b4)
  clear b4 GW GA GB GC dA0 dA1 dA2 dB0 dB1 dB2 dC0 dC1 dC2
  go_wp2
  go_ret
  exact ⟨rfl, HW4.out⟩

set_option maxRecDepth 100000 in
set_option maxHeartbeats 16000000 in
theorem laws_main {P : World → Prop} (ok : ProgOk P) (an : Bool) (ad : ByteArray) (ak : Int) (bn : Bool) (bd : ByteArray) (bk : Int) (cn : Bool) (cd : ByteArray) (ck : Int) (ha : Valid ⟨an, ad, ak⟩) (hb : Valid ⟨bn, bd, bk⟩) (hc : Valid ⟨cn, cd, ck⟩) (w : World) (hP : P w) : Calls Tryz.prog 6 #[.agg #[.bool an, .string ad, .int .i64 ak], .agg #[.bool bn, .string bd, .int .i64 bk], .agg #[.bool cn, .string cd, .int .i64 ck]] w fun e w' => e = .returned (.bool true) ∧ Below w.heap.size w w' := by
  have HP := Lib.hid hP
  clear hP
  have HA0 : Hid (Has (((w.alloc (.cells #[.bool an, .string ad, .int .i64 ak] 23)).alloc (.cells #[.bool bn, .string bd, .int .i64 bk] 23)).alloc (.cells #[.bool cn, .string cd, .int .i64 ck] 23)) w.heap.size (.bool an) (.string ad) (.int .i64 ak)) := Lib.hid (((Has.new w (.bool an) (.string ad) (.int .i64 ak) 23).alloc (.cells #[.bool bn, .string bd, .int .i64 bk] 23)).alloc (.cells #[.bool cn, .string cd, .int .i64 ck] 23))
  have HB0 : Hid (Has (((w.alloc (.cells #[.bool an, .string ad, .int .i64 ak] 23)).alloc (.cells #[.bool bn, .string bd, .int .i64 bk] 23)).alloc (.cells #[.bool cn, .string cd, .int .i64 ck] 23)) (w.heap.size + 1) (.bool bn) (.string bd) (.int .i64 bk)) := Lib.hid (by have h := ((Has.new (w.alloc (.cells #[.bool an, .string ad, .int .i64 ak] 23)) (.bool bn) (.string bd) (.int .i64 bk) 23).alloc (.cells #[.bool cn, .string cd, .int .i64 ck] 23)); simpa using h)
  have HC0 : Hid (Has (((w.alloc (.cells #[.bool an, .string ad, .int .i64 ak] 23)).alloc (.cells #[.bool bn, .string bd, .int .i64 bk] 23)).alloc (.cells #[.bool cn, .string cd, .int .i64 ck] 23)) (w.heap.size + 1 + 1) (.bool cn) (.string cd) (.int .i64 ck)) := Lib.hid (by have h := (Has.new ((w.alloc (.cells #[.bool an, .string ad, .int .i64 ak] 23)).alloc (.cells #[.bool bn, .string bd, .int .i64 bk] 23)) (.bool cn) (.string cd) (.int .i64 ck) 23); simpa using h)
  have HW0 := Lib.hid (stepA (stepA (stepA (Below.refl w.heap.size w) (.cells #[.bool an, .string ad, .int .i64 ak] 23)) (.cells #[.bool bn, .string bd, .int .i64 bk] 23)) (.cells #[.bool cn, .string cd, .int .i64 ck] 23))
  have za : ad.size ≤ 60 := ha.size
  have zb : bd.size ≤ 60 := hb.size
  have zc : cd.size ≤ 60 := hc.size
  have ga : ¬ (400 : Int) < (ad.size : Int) := by omega
  have gb : ¬ (400 : Int) < (bd.size : Int) := by omega
  have gc : ¬ (400 : Int) < (cd.size : Int) := by omega
  have c1 := fun W => ok.check ⟨an, ad, ak⟩ W (by unfold maxLen at *; simp only; omega)
  rw [chkR_ok ha] at c1
  unfold Dec.v at c1
  have c2 := fun W => ok.check ⟨bn, bd, bk⟩ W (by unfold maxLen at *; simp only; omega)
  rw [chkR_ok hb] at c2
  unfold Dec.v at c2
  have c3 := fun W => ok.check ⟨cn, cd, ck⟩ W (by unfold maxLen at *; simp only; omega)
  rw [chkR_ok hc] at c3
  unfold Dec.v at c3
  have cT := fun W => ok.text ⟨an, ad, ak⟩ W (by simp only; omega)
  rw [textS_ok ha] at cT
  unfold Dec.v at cT
  have cR := fun W => ok.read (textOf ⟨an, ad, ak⟩) W (textOf_size ha)
  rw [back ha] at cR
  unfold DRes.v Dec.v at cR
  simp only at cR cT
  generalize textOf ⟨an, ad, ak⟩ = ts at cT cR
  have cA1 := fun W => ok.add ⟨an, ad, ak⟩ ⟨bn, bd, bk⟩ W (by simp only; omega) (by simp only; omega)
  have cA2 := fun W => ok.add ⟨bn, bd, bk⟩ ⟨an, ad, ak⟩ W (by simp only; omega) (by simp only; omega)
  rw [addS_comm ha hb] at cA2
  have cM1 := fun W => ok.mul ⟨an, ad, ak⟩ ⟨bn, bd, bk⟩ W (by simp only; omega) (by simp only; omega)
  have cM2 := fun W => ok.mul ⟨bn, bd, bk⟩ ⟨an, ad, ak⟩ W (by simp only; omega) (by simp only; omega)
  rw [mulS_comm ha hb] at cM2
  have cS := fun W => ok.sub ⟨an, ad, ak⟩ ⟨bn, bd, bk⟩ W (by simp only; omega) (by simp only; omega)
  have cC := fun W => ok.cmp ⟨an, ad, ak⟩ ⟨bn, bd, bk⟩ W (by simp only; omega) (by simp only; omega)
  rw [cmpS_ok ha hb] at cC
  have cK := fun W => ok.mul ⟨an, ad, ak⟩ ⟨cn, cd, ck⟩ W (by simp only; omega) (by simp only; omega)
  have cL := fun W => ok.mul ⟨bn, bd, bk⟩ ⟨cn, cd, ck⟩ W (by simp only; omega) (by simp only; omega)
  have eA := addS_e ha hb
  have eS := subS_e ha hb
  have eK := mulS_e ha hc
  have eL := mulS_e hb hc
  have fS := order_fact ha hb
  have fB := sub_back ha hb
  have fD := distr ha hb hc
  have vX := addS_valid ha hb
  have vK := mulS_valid ha hc
  have vL := mulS_valid hb hc
  have eJ := fun h => mulS_e (vX h) hc
  have cB := fun W (h : (addS ⟨an, ad, ak⟩ ⟨bn, bd, bk⟩).e = 0) => ok.sub (addS ⟨an, ad, ak⟩ ⟨bn, bd, bk⟩).d ⟨bn, bd, bk⟩ W (Nat.le_trans (vX h).size (by omega)) (by simp only; omega)
  have cJ := fun W (h : (addS ⟨an, ad, ak⟩ ⟨bn, bd, bk⟩).e = 0) => ok.mul (addS ⟨an, ad, ak⟩ ⟨bn, bd, bk⟩).d ⟨cn, cd, ck⟩ W (Nat.le_trans (vX h).size (by omega)) (by simp only; omega)
  have cD := fun W (h1 : (mulS ⟨an, ad, ak⟩ ⟨cn, cd, ck⟩).e = 0) (h2 : (mulS ⟨bn, bd, bk⟩ ⟨cn, cd, ck⟩).e = 0) => ok.add (mulS ⟨an, ad, ak⟩ ⟨cn, cd, ck⟩).d (mulS ⟨bn, bd, bk⟩ ⟨cn, cd, ck⟩).d W (Nat.le_trans (vK h1).size (by omega)) (Nat.le_trans (vL h2).size (by omega))
  generalize ho : ordS ⟨an, ad, ak⟩ ⟨bn, bd, bk⟩ = ro at cC fS
  clear ho
  obtain ⟨⟨⟨xn, xd, xk⟩, xe⟩, hx⟩ : ∃ r, addS ⟨an, ad, ak⟩ ⟨bn, bd, bk⟩ = r := ⟨_, rfl⟩
  rw [hx] at cA1 cA2 eA fB vX eJ cB cJ fD
  obtain ⟨⟨⟨pn, pd, pk⟩, pe⟩, hp⟩ : ∃ r, mulS ⟨an, ad, ak⟩ ⟨bn, bd, bk⟩ = r := ⟨_, rfl⟩
  rw [hp] at cM1 cM2
  obtain ⟨⟨⟨dn, dd, dk⟩, de⟩, hd⟩ : ∃ r, subS ⟨an, ad, ak⟩ ⟨bn, bd, bk⟩ = r := ⟨_, rfl⟩
  rw [hd] at cS eS fS
  obtain ⟨⟨⟨kn, kd, kk⟩, ke⟩, hk⟩ : ∃ r, mulS ⟨an, ad, ak⟩ ⟨cn, cd, ck⟩ = r := ⟨_, rfl⟩
  rw [hk] at cK eK vK cD fD
  obtain ⟨⟨⟨ln, ld, lk⟩, le⟩, hl⟩ : ∃ r, mulS ⟨bn, bd, bk⟩ ⟨cn, cd, ck⟩ = r := ⟨_, rfl⟩
  rw [hl] at cL eL vL cD fD
  simp only at cB cJ eJ fD cD
  obtain ⟨⟨⟨jn, jd, jk⟩, je⟩, hj⟩ : ∃ r, mulS ⟨xn, xd, xk⟩ ⟨cn, cd, ck⟩ = r := ⟨_, rfl⟩
  rw [hj] at cJ eJ fD
  clear hx hp hd hk hl hj vX vK vL za zb zc ha hb hc
  simp only at *
  unfold DRes.v at cA1 cA2 cM1 cM2 cS cK cL cB cJ cD
  unfold Dec.v at cA1 cA2 cM1 cM2 cS cC cK cL cB cJ cD
  simp only at *
  have HS := Lib.hid fS
  have HF := Lib.hid (And.intro fB fD)
  have HE := Lib.hid (And.intro eA (And.intro eS (And.intro eK (And.intro eL eJ))))
  clear fS fB fD eA eS eK eL eJ
  go_enter Tryz.func6, Tryz.ntmps6
  have GA := HA0
  have GB := HB0
  have GC := HC0
  have GW := HW0
  clear HA0 HB0 HC0 HW0
  obtain ⟨dA0, dA1, dA2, _⟩ := GA.out
  obtain ⟨dB0, dB1, dB2, _⟩ := GB.out
  obtain ⟨dC0, dC1, dC2, _⟩ := GC.out
  go_wp2_with fail
  refine (c1 _ (ok.below HP.out GW.out)).mono ?_
  rintro e w1 ⟨rfl, b1⟩
  have HA1 := Lib.hid (GA.out.call b1)
  have HB1 := Lib.hid (GB.out.call b1)
  have HC1 := Lib.hid (GC.out.call b1)
  have HW1 := Lib.hid (step GW.out b1)
  clear b1 GW GA GB GC dA0 dA1 dA2 dB0 dB1 dB2 dC0 dC1 dC2
  have GA := HA1
  have GB := HB1
  have GC := HC1
  have GW := HW1
  clear HA1 HB1 HC1 HW1
  obtain ⟨dA0, dA1, dA2, _⟩ := GA.out
  obtain ⟨dB0, dB1, dB2, _⟩ := GB.out
  obtain ⟨dC0, dC1, dC2, _⟩ := GC.out
  go_wp2_with fail
  refine (c2 _ (ok.below HP.out GW.out)).mono ?_
  rintro e w2 ⟨rfl, b2⟩
  have HA2 := Lib.hid (GA.out.call b2)
  have HB2 := Lib.hid (GB.out.call b2)
  have HC2 := Lib.hid (GC.out.call b2)
  have HW2 := Lib.hid (step GW.out b2)
  clear b2 GW GA GB GC dA0 dA1 dA2 dB0 dB1 dB2 dC0 dC1 dC2
  have GA := HA2
  have GB := HB2
  have GC := HC2
  have GW := HW2
  clear HA2 HB2 HC2 HW2
  obtain ⟨dA0, dA1, dA2, _⟩ := GA.out
  obtain ⟨dB0, dB1, dB2, _⟩ := GB.out
  obtain ⟨dC0, dC1, dC2, _⟩ := GC.out
  go_wp2_with fail
  refine (c3 _ (ok.below HP.out GW.out)).mono ?_
  rintro e w3 ⟨rfl, b3⟩
  have HA3 := Lib.hid (GA.out.call b3)
  have HB3 := Lib.hid (GB.out.call b3)
  have HC3 := Lib.hid (GC.out.call b3)
  have HW3 := Lib.hid (step GW.out b3)
  clear b3 GW GA GB GC dA0 dA1 dA2 dB0 dB1 dB2 dC0 dC1 dC2
  have GA := HA3
  have GB := HB3
  have GC := HC3
  have GW := HW3
  clear HA3 HB3 HC3 HW3
  obtain ⟨dA0, dA1, dA2, _⟩ := GA.out
  go_wp2_with fail
  refine (cT _ (ok.below HP.out GW.out)).mono ?_
  rintro e w4 ⟨rfl, b4⟩
  have HA4 := Lib.hid (GA.out.call b4)
  have HB4 := Lib.hid (GB.out.call b4)
  have HC4 := Lib.hid (GC.out.call b4)
  have HW4 := Lib.hid (step GW.out b4)
  clear b4 GW GA GB GC dA0 dA1 dA2
  have GA := HA4
  have GB := HB4
  have GC := HC4
  have GW := HW4
  clear HA4 HB4 HC4 HW4
  go_wp2_with fail
  refine (cR _ (ok.below HP.out GW.out)).mono ?_
  rintro e w5 ⟨rfl, b5⟩
  have HA5 := Lib.hid (GA.out.call b5)
  have HB5 := Lib.hid (GB.out.call b5)
  have HC5 := Lib.hid (GC.out.call b5)
  have HW5 := Lib.hid (step GW.out b5)
  clear b5 GW GA GB GC 
  have GA := Lib.hid (HA5.out.alloc (.cells #[.bool an, .string ad, .int .i64 ak] 23))
  have GB := Lib.hid (HB5.out.alloc (.cells #[.bool an, .string ad, .int .i64 ak] 23))
  have GC := Lib.hid (HC5.out.alloc (.cells #[.bool an, .string ad, .int .i64 ak] 23))
  have GR := Lib.hid (Has.new w5 (.bool an) (.string ad) (.int .i64 ak) 23)
  have GW := Lib.hid (stepA HW5.out (.cells #[.bool an, .string ad, .int .i64 ak] 23))
  have le_R : w.heap.size ≤ w5.heap.size := HW5.out.size
  have ne_R_A : w5.heap.size ≠ w.heap.size := by have := HA5.out.lt; omega
  have nf_R_A : w.heap.size ≠ w5.heap.size := by have := HA5.out.lt; omega
  have ne_R_B : w5.heap.size ≠ (w.heap.size + 1) := by have := HB5.out.lt; omega
  have nf_R_B : (w.heap.size + 1) ≠ w5.heap.size := by have := HB5.out.lt; omega
  have ne_R_C : w5.heap.size ≠ (w.heap.size + 1 + 1) := by have := HC5.out.lt; omega
  have nf_R_C : (w.heap.size + 1 + 1) ≠ w5.heap.size := by have := HC5.out.lt; omega
  clear HA5 HB5 HC5 HW5
  obtain ⟨dA0, dA1, dA2, _⟩ := GA.out
  obtain ⟨dB0, dB1, dB2, _⟩ := GB.out
  obtain ⟨dR0, dR1, dR2, _⟩ := GR.out
  go_wp2_with fail
  refine (cA1 _ (ok.below HP.out GW.out)).mono ?_
  rintro e w6 ⟨rfl, b6⟩
  have HA6 := Lib.hid (GA.out.call b6)
  have HB6 := Lib.hid (GB.out.call b6)
  have HC6 := Lib.hid (GC.out.call b6)
  have HW6 := Lib.hid (step GW.out b6)
  clear b6 GW GA GB GC GR dA0 dA1 dA2 dB0 dB1 dB2 dR0 dR1 dR2
  have GA := Lib.hid (HA6.out.alloc (.cells #[.bool xn, .string xd, .int .i64 xk] 23))
  have GB := Lib.hid (HB6.out.alloc (.cells #[.bool xn, .string xd, .int .i64 xk] 23))
  have GC := Lib.hid (HC6.out.alloc (.cells #[.bool xn, .string xd, .int .i64 xk] 23))
  have GX := Lib.hid (Has.new w6 (.bool xn) (.string xd) (.int .i64 xk) 23)
  have GW := Lib.hid (stepA HW6.out (.cells #[.bool xn, .string xd, .int .i64 xk] 23))
  have le_X : w.heap.size ≤ w6.heap.size := HW6.out.size
  have ne_X_A : w6.heap.size ≠ w.heap.size := by have := HA6.out.lt; omega
  have nf_X_A : w.heap.size ≠ w6.heap.size := by have := HA6.out.lt; omega
  have ne_X_B : w6.heap.size ≠ (w.heap.size + 1) := by have := HB6.out.lt; omega
  have nf_X_B : (w.heap.size + 1) ≠ w6.heap.size := by have := HB6.out.lt; omega
  have ne_X_C : w6.heap.size ≠ (w.heap.size + 1 + 1) := by have := HC6.out.lt; omega
  have nf_X_C : (w.heap.size + 1 + 1) ≠ w6.heap.size := by have := HC6.out.lt; omega
  clear HA6 HB6 HC6 HW6
  obtain ⟨dA0, dA1, dA2, _⟩ := GA.out
  obtain ⟨dB0, dB1, dB2, _⟩ := GB.out
  go_wp2_with fail
  refine (cA2 _ (ok.below HP.out GW.out)).mono ?_
  rintro e w7 ⟨rfl, b7⟩
  have HA7 := Lib.hid (GA.out.call b7)
  have HB7 := Lib.hid (GB.out.call b7)
  have HC7 := Lib.hid (GC.out.call b7)
  have HX7 := Lib.hid (GX.out.call b7)
  have HW7 := Lib.hid (step GW.out b7)
  clear b7 GW GA GB GC GX dA0 dA1 dA2 dB0 dB1 dB2
  have GA := Lib.hid (HA7.out.alloc (.cells #[.bool xn, .string xd, .int .i64 xk] 23))
  have GB := Lib.hid (HB7.out.alloc (.cells #[.bool xn, .string xd, .int .i64 xk] 23))
  have GC := Lib.hid (HC7.out.alloc (.cells #[.bool xn, .string xd, .int .i64 xk] 23))
  have GX := Lib.hid (HX7.out.alloc (.cells #[.bool xn, .string xd, .int .i64 xk] 23))
  have GY := Lib.hid (Has.new w7 (.bool xn) (.string xd) (.int .i64 xk) 23)
  have GW := Lib.hid (stepA HW7.out (.cells #[.bool xn, .string xd, .int .i64 xk] 23))
  have le_Y : w.heap.size ≤ w7.heap.size := HW7.out.size
  have ne_Y_A : w7.heap.size ≠ w.heap.size := by have := HA7.out.lt; omega
  have nf_Y_A : w.heap.size ≠ w7.heap.size := by have := HA7.out.lt; omega
  have ne_Y_B : w7.heap.size ≠ (w.heap.size + 1) := by have := HB7.out.lt; omega
  have nf_Y_B : (w.heap.size + 1) ≠ w7.heap.size := by have := HB7.out.lt; omega
  have ne_Y_C : w7.heap.size ≠ (w.heap.size + 1 + 1) := by have := HC7.out.lt; omega
  have nf_Y_C : (w.heap.size + 1 + 1) ≠ w7.heap.size := by have := HC7.out.lt; omega
  have ne_Y_X : w7.heap.size ≠ w6.heap.size := by have := HX7.out.lt; omega
  have nf_Y_X : w6.heap.size ≠ w7.heap.size := by have := HX7.out.lt; omega
  clear HA7 HB7 HC7 HX7 HW7
  obtain ⟨dA0, dA1, dA2, _⟩ := GA.out
  obtain ⟨dB0, dB1, dB2, _⟩ := GB.out
  go_wp2_with fail
  refine (cM1 _ (ok.below HP.out GW.out)).mono ?_
  rintro e w8 ⟨rfl, b8⟩
  have HA8 := Lib.hid (GA.out.call b8)
  have HB8 := Lib.hid (GB.out.call b8)
  have HC8 := Lib.hid (GC.out.call b8)
  have HX8 := Lib.hid (GX.out.call b8)
  have HY8 := Lib.hid (GY.out.call b8)
  have HW8 := Lib.hid (step GW.out b8)
  clear b8 GW GA GB GC GX GY dA0 dA1 dA2 dB0 dB1 dB2
  have GA := Lib.hid (HA8.out.alloc (.cells #[.bool pn, .string pd, .int .i64 pk] 23))
  have GB := Lib.hid (HB8.out.alloc (.cells #[.bool pn, .string pd, .int .i64 pk] 23))
  have GC := Lib.hid (HC8.out.alloc (.cells #[.bool pn, .string pd, .int .i64 pk] 23))
  have GX := Lib.hid (HX8.out.alloc (.cells #[.bool pn, .string pd, .int .i64 pk] 23))
  have GY := Lib.hid (HY8.out.alloc (.cells #[.bool pn, .string pd, .int .i64 pk] 23))
  have GM := Lib.hid (Has.new w8 (.bool pn) (.string pd) (.int .i64 pk) 23)
  have GW := Lib.hid (stepA HW8.out (.cells #[.bool pn, .string pd, .int .i64 pk] 23))
  have le_M : w.heap.size ≤ w8.heap.size := HW8.out.size
  have ne_M_A : w8.heap.size ≠ w.heap.size := by have := HA8.out.lt; omega
  have nf_M_A : w.heap.size ≠ w8.heap.size := by have := HA8.out.lt; omega
  have ne_M_B : w8.heap.size ≠ (w.heap.size + 1) := by have := HB8.out.lt; omega
  have nf_M_B : (w.heap.size + 1) ≠ w8.heap.size := by have := HB8.out.lt; omega
  have ne_M_C : w8.heap.size ≠ (w.heap.size + 1 + 1) := by have := HC8.out.lt; omega
  have nf_M_C : (w.heap.size + 1 + 1) ≠ w8.heap.size := by have := HC8.out.lt; omega
  have ne_M_X : w8.heap.size ≠ w6.heap.size := by have := HX8.out.lt; omega
  have nf_M_X : w6.heap.size ≠ w8.heap.size := by have := HX8.out.lt; omega
  have ne_M_Y : w8.heap.size ≠ w7.heap.size := by have := HY8.out.lt; omega
  have nf_M_Y : w7.heap.size ≠ w8.heap.size := by have := HY8.out.lt; omega
  clear HA8 HB8 HC8 HX8 HY8 HW8
  obtain ⟨dA0, dA1, dA2, _⟩ := GA.out
  obtain ⟨dB0, dB1, dB2, _⟩ := GB.out
  go_wp2_with fail
  refine (cM2 _ (ok.below HP.out GW.out)).mono ?_
  rintro e w9 ⟨rfl, b9⟩
  have HA9 := Lib.hid (GA.out.call b9)
  have HB9 := Lib.hid (GB.out.call b9)
  have HC9 := Lib.hid (GC.out.call b9)
  have HX9 := Lib.hid (GX.out.call b9)
  have HY9 := Lib.hid (GY.out.call b9)
  have HM9 := Lib.hid (GM.out.call b9)
  have HW9 := Lib.hid (step GW.out b9)
  clear b9 GW GA GB GC GX GY GM dA0 dA1 dA2 dB0 dB1 dB2
  have GA := Lib.hid (HA9.out.alloc (.cells #[.bool pn, .string pd, .int .i64 pk] 23))
  have GB := Lib.hid (HB9.out.alloc (.cells #[.bool pn, .string pd, .int .i64 pk] 23))
  have GC := Lib.hid (HC9.out.alloc (.cells #[.bool pn, .string pd, .int .i64 pk] 23))
  have GX := Lib.hid (HX9.out.alloc (.cells #[.bool pn, .string pd, .int .i64 pk] 23))
  have GY := Lib.hid (HY9.out.alloc (.cells #[.bool pn, .string pd, .int .i64 pk] 23))
  have GM := Lib.hid (HM9.out.alloc (.cells #[.bool pn, .string pd, .int .i64 pk] 23))
  have GN := Lib.hid (Has.new w9 (.bool pn) (.string pd) (.int .i64 pk) 23)
  have GW := Lib.hid (stepA HW9.out (.cells #[.bool pn, .string pd, .int .i64 pk] 23))
  have le_N : w.heap.size ≤ w9.heap.size := HW9.out.size
  have ne_N_A : w9.heap.size ≠ w.heap.size := by have := HA9.out.lt; omega
  have nf_N_A : w.heap.size ≠ w9.heap.size := by have := HA9.out.lt; omega
  have ne_N_B : w9.heap.size ≠ (w.heap.size + 1) := by have := HB9.out.lt; omega
  have nf_N_B : (w.heap.size + 1) ≠ w9.heap.size := by have := HB9.out.lt; omega
  have ne_N_C : w9.heap.size ≠ (w.heap.size + 1 + 1) := by have := HC9.out.lt; omega
  have nf_N_C : (w.heap.size + 1 + 1) ≠ w9.heap.size := by have := HC9.out.lt; omega
  have ne_N_X : w9.heap.size ≠ w6.heap.size := by have := HX9.out.lt; omega
  have nf_N_X : w6.heap.size ≠ w9.heap.size := by have := HX9.out.lt; omega
  have ne_N_Y : w9.heap.size ≠ w7.heap.size := by have := HY9.out.lt; omega
  have nf_N_Y : w7.heap.size ≠ w9.heap.size := by have := HY9.out.lt; omega
  have ne_N_M : w9.heap.size ≠ w8.heap.size := by have := HM9.out.lt; omega
  have nf_N_M : w8.heap.size ≠ w9.heap.size := by have := HM9.out.lt; omega
  clear HA9 HB9 HC9 HX9 HY9 HM9 HW9
  obtain ⟨dA0, dA1, dA2, _⟩ := GA.out
  obtain ⟨dB0, dB1, dB2, _⟩ := GB.out
  obtain ⟨dX0, dX1, dX2, _⟩ := GX.out
  obtain ⟨dY0, dY1, dY2, _⟩ := GY.out
  obtain ⟨dM0, dM1, dM2, _⟩ := GM.out
  obtain ⟨dN0, dN1, dN2, _⟩ := GN.out
  go_wp2_with fail
  refine (cS _ (ok.below HP.out GW.out)).mono ?_
  rintro e w10 ⟨rfl, b10⟩
  have HA10 := Lib.hid (GA.out.call b10)
  have HB10 := Lib.hid (GB.out.call b10)
  have HC10 := Lib.hid (GC.out.call b10)
  have HX10 := Lib.hid (GX.out.call b10)
  have HW10 := Lib.hid (step GW.out b10)
  clear b10 GW GA GB GC GX GY GM GN dA0 dA1 dA2 dB0 dB1 dB2 dX0 dX1 dX2 dY0 dY1 dY2 dM0 dM1 dM2 dN0 dN1 dN2
  have GA := Lib.hid (HA10.out.alloc (.cells #[.bool dn, .string dd, .int .i64 dk] 23))
  have GB := Lib.hid (HB10.out.alloc (.cells #[.bool dn, .string dd, .int .i64 dk] 23))
  have GC := Lib.hid (HC10.out.alloc (.cells #[.bool dn, .string dd, .int .i64 dk] 23))
  have GX := Lib.hid (HX10.out.alloc (.cells #[.bool dn, .string dd, .int .i64 dk] 23))
  have GD := Lib.hid (Has.new w10 (.bool dn) (.string dd) (.int .i64 dk) 23)
  have GW := Lib.hid (stepA HW10.out (.cells #[.bool dn, .string dd, .int .i64 dk] 23))
  have le_D : w.heap.size ≤ w10.heap.size := HW10.out.size
  have ne_D_A : w10.heap.size ≠ w.heap.size := by have := HA10.out.lt; omega
  have nf_D_A : w.heap.size ≠ w10.heap.size := by have := HA10.out.lt; omega
  have ne_D_B : w10.heap.size ≠ (w.heap.size + 1) := by have := HB10.out.lt; omega
  have nf_D_B : (w.heap.size + 1) ≠ w10.heap.size := by have := HB10.out.lt; omega
  have ne_D_C : w10.heap.size ≠ (w.heap.size + 1 + 1) := by have := HC10.out.lt; omega
  have nf_D_C : (w.heap.size + 1 + 1) ≠ w10.heap.size := by have := HC10.out.lt; omega
  have ne_D_X : w10.heap.size ≠ w6.heap.size := by have := HX10.out.lt; omega
  have nf_D_X : w6.heap.size ≠ w10.heap.size := by have := HX10.out.lt; omega
  clear HA10 HB10 HC10 HX10 HW10
  obtain ⟨dA0, dA1, dA2, _⟩ := GA.out
  obtain ⟨dB0, dB1, dB2, _⟩ := GB.out
  go_wp2_with fail
  refine (cC _ (ok.below HP.out GW.out)).mono ?_
  rintro e w11 ⟨rfl, b11⟩
  have HA11 := Lib.hid (GA.out.call b11)
  have HB11 := Lib.hid (GB.out.call b11)
  have HC11 := Lib.hid (GC.out.call b11)
  have HX11 := Lib.hid (GX.out.call b11)
  have HD11 := Lib.hid (GD.out.call b11)
  have HW11 := Lib.hid (step GW.out b11)
  clear b11 GW GA GB GC GX GD dA0 dA1 dA2 dB0 dB1 dB2
  rcases HE.out.2.1 with rfl | rfl
  · obtain ⟨rfl, hzz⟩ := HS.out rfl
    rcases HE.out.1 with rfl | rfl
    · have fB := HF.out.1 rfl
      have cB2 := fun W => cB W rfl
      rw [fB] at cB2
      simp only at cB2
      clear fB cB
      have GA := HA11
      have GB := HB11
      have GC := HC11
      have GX := HX11
      have GD := HD11
      have GW := HW11
      clear HA11 HB11 HC11 HX11 HD11 HW11
      obtain ⟨dB0, dB1, dB2, _⟩ := GB.out
      obtain ⟨dX0, dX1, dX2, _⟩ := GX.out
      obtain ⟨dD0, dD1, dD2, _⟩ := GD.out
      go_wp2_with fail
      refine (cB2 _ (ok.below HP.out GW.out)).mono ?_
      rintro e w12 ⟨rfl, b12⟩
      have HA12 := Lib.hid (GA.out.call b12)
      have HB12 := Lib.hid (GB.out.call b12)
      have HC12 := Lib.hid (GC.out.call b12)
      have HX12 := Lib.hid (GX.out.call b12)
      have HW12 := Lib.hid (step GW.out b12)
      clear b12 GW GA GB GC GX GD dB0 dB1 dB2 dX0 dX1 dX2 dD0 dD1 dD2
      have GA := Lib.hid (HA12.out.alloc (.cells #[.bool an, .string ad, .int .i64 ak] 23))
      have GB := Lib.hid (HB12.out.alloc (.cells #[.bool an, .string ad, .int .i64 ak] 23))
      have GC := Lib.hid (HC12.out.alloc (.cells #[.bool an, .string ad, .int .i64 ak] 23))
      have GX := Lib.hid (HX12.out.alloc (.cells #[.bool an, .string ad, .int .i64 ak] 23))
      have GZ := Lib.hid (Has.new w12 (.bool an) (.string ad) (.int .i64 ak) 23)
      have GW := Lib.hid (stepA HW12.out (.cells #[.bool an, .string ad, .int .i64 ak] 23))
      have le_Z : w.heap.size ≤ w12.heap.size := HW12.out.size
      have ne_Z_A : w12.heap.size ≠ w.heap.size := by have := HA12.out.lt; omega
      have nf_Z_A : w.heap.size ≠ w12.heap.size := by have := HA12.out.lt; omega
      have ne_Z_B : w12.heap.size ≠ (w.heap.size + 1) := by have := HB12.out.lt; omega
      have nf_Z_B : (w.heap.size + 1) ≠ w12.heap.size := by have := HB12.out.lt; omega
      have ne_Z_C : w12.heap.size ≠ (w.heap.size + 1 + 1) := by have := HC12.out.lt; omega
      have nf_Z_C : (w.heap.size + 1 + 1) ≠ w12.heap.size := by have := HC12.out.lt; omega
      have ne_Z_X : w12.heap.size ≠ w6.heap.size := by have := HX12.out.lt; omega
      have nf_Z_X : w6.heap.size ≠ w12.heap.size := by have := HX12.out.lt; omega
      clear HA12 HB12 HC12 HX12 HW12
      obtain ⟨dA0, dA1, dA2, _⟩ := GA.out
      obtain ⟨dC0, dC1, dC2, _⟩ := GC.out
      obtain ⟨dX0, dX1, dX2, _⟩ := GX.out
      obtain ⟨dZ0, dZ1, dZ2, _⟩ := GZ.out
      go_wp2_with fail
      refine (cJ _ (by simp) (ok.below HP.out GW.out)).mono ?_
      rintro e w13 ⟨rfl, b13⟩
      have HA13 := Lib.hid (GA.out.call b13)
      have HB13 := Lib.hid (GB.out.call b13)
      have HC13 := Lib.hid (GC.out.call b13)
      have HW13 := Lib.hid (step GW.out b13)
      clear b13 GW GA GB GC GX GZ dA0 dA1 dA2 dC0 dC1 dC2 dX0 dX1 dX2 dZ0 dZ1 dZ2
      have GA := Lib.hid (HA13.out.alloc (.cells #[.bool jn, .string jd, .int .i64 jk] 23))
      have GB := Lib.hid (HB13.out.alloc (.cells #[.bool jn, .string jd, .int .i64 jk] 23))
      have GC := Lib.hid (HC13.out.alloc (.cells #[.bool jn, .string jd, .int .i64 jk] 23))
      have GJ := Lib.hid (Has.new w13 (.bool jn) (.string jd) (.int .i64 jk) 23)
      have GW := Lib.hid (stepA HW13.out (.cells #[.bool jn, .string jd, .int .i64 jk] 23))
      have le_J : w.heap.size ≤ w13.heap.size := HW13.out.size
      have ne_J_A : w13.heap.size ≠ w.heap.size := by have := HA13.out.lt; omega
      have nf_J_A : w.heap.size ≠ w13.heap.size := by have := HA13.out.lt; omega
      have ne_J_B : w13.heap.size ≠ (w.heap.size + 1) := by have := HB13.out.lt; omega
      have nf_J_B : (w.heap.size + 1) ≠ w13.heap.size := by have := HB13.out.lt; omega
      have ne_J_C : w13.heap.size ≠ (w.heap.size + 1 + 1) := by have := HC13.out.lt; omega
      have nf_J_C : (w.heap.size + 1 + 1) ≠ w13.heap.size := by have := HC13.out.lt; omega
      clear HA13 HB13 HC13 HW13
      obtain ⟨dA0, dA1, dA2, _⟩ := GA.out
      obtain ⟨dC0, dC1, dC2, _⟩ := GC.out
      go_wp2_with fail
      refine (cK _ (ok.below HP.out GW.out)).mono ?_
      rintro e w14 ⟨rfl, b14⟩
      have HA14 := Lib.hid (GA.out.call b14)
      have HB14 := Lib.hid (GB.out.call b14)
      have HC14 := Lib.hid (GC.out.call b14)
      have HJ14 := Lib.hid (GJ.out.call b14)
      have HW14 := Lib.hid (step GW.out b14)
      clear b14 GW GA GB GC GJ dA0 dA1 dA2 dC0 dC1 dC2
      have GA := Lib.hid (HA14.out.alloc (.cells #[.bool kn, .string kd, .int .i64 kk] 23))
      have GB := Lib.hid (HB14.out.alloc (.cells #[.bool kn, .string kd, .int .i64 kk] 23))
      have GC := Lib.hid (HC14.out.alloc (.cells #[.bool kn, .string kd, .int .i64 kk] 23))
      have GJ := Lib.hid (HJ14.out.alloc (.cells #[.bool kn, .string kd, .int .i64 kk] 23))
      have GK := Lib.hid (Has.new w14 (.bool kn) (.string kd) (.int .i64 kk) 23)
      have GW := Lib.hid (stepA HW14.out (.cells #[.bool kn, .string kd, .int .i64 kk] 23))
      have le_K : w.heap.size ≤ w14.heap.size := HW14.out.size
      have ne_K_A : w14.heap.size ≠ w.heap.size := by have := HA14.out.lt; omega
      have nf_K_A : w.heap.size ≠ w14.heap.size := by have := HA14.out.lt; omega
      have ne_K_B : w14.heap.size ≠ (w.heap.size + 1) := by have := HB14.out.lt; omega
      have nf_K_B : (w.heap.size + 1) ≠ w14.heap.size := by have := HB14.out.lt; omega
      have ne_K_C : w14.heap.size ≠ (w.heap.size + 1 + 1) := by have := HC14.out.lt; omega
      have nf_K_C : (w.heap.size + 1 + 1) ≠ w14.heap.size := by have := HC14.out.lt; omega
      have ne_K_J : w14.heap.size ≠ w13.heap.size := by have := HJ14.out.lt; omega
      have nf_K_J : w13.heap.size ≠ w14.heap.size := by have := HJ14.out.lt; omega
      clear HA14 HB14 HC14 HJ14 HW14
      obtain ⟨dB0, dB1, dB2, _⟩ := GB.out
      obtain ⟨dC0, dC1, dC2, _⟩ := GC.out
      go_wp2_with fail
      refine (cL _ (ok.below HP.out GW.out)).mono ?_
      rintro e w15 ⟨rfl, b15⟩
      have HA15 := Lib.hid (GA.out.call b15)
      have HB15 := Lib.hid (GB.out.call b15)
      have HC15 := Lib.hid (GC.out.call b15)
      have HJ15 := Lib.hid (GJ.out.call b15)
      have HK15 := Lib.hid (GK.out.call b15)
      have HW15 := Lib.hid (step GW.out b15)
      clear b15 GW GA GB GC GJ GK dB0 dB1 dB2 dC0 dC1 dC2
      rcases HE.out.2.2.2.2 (by simp) with rfl | rfl
      · rcases HE.out.2.2.1 with rfl | rfl
        · rcases HE.out.2.2.2.1 with rfl | rfl
          · have fD := HF.out.2 (by simp) (by simp) (by simp) (by simp)
            have cD2 := fun W => cD W (by simp) (by simp)
            rw [fD] at cD2
            simp only at cD2
            clear fD cD HF HE HS
            have GA := Lib.hid (HA15.out.alloc (.cells #[.bool ln, .string ld, .int .i64 lk] 23))
            have GB := Lib.hid (HB15.out.alloc (.cells #[.bool ln, .string ld, .int .i64 lk] 23))
            have GC := Lib.hid (HC15.out.alloc (.cells #[.bool ln, .string ld, .int .i64 lk] 23))
            have GJ := Lib.hid (HJ15.out.alloc (.cells #[.bool ln, .string ld, .int .i64 lk] 23))
            have GK := Lib.hid (HK15.out.alloc (.cells #[.bool ln, .string ld, .int .i64 lk] 23))
            have GL := Lib.hid (Has.new w15 (.bool ln) (.string ld) (.int .i64 lk) 23)
            have GW := Lib.hid (stepA HW15.out (.cells #[.bool ln, .string ld, .int .i64 lk] 23))
            have le_L : w.heap.size ≤ w15.heap.size := HW15.out.size
            have ne_L_A : w15.heap.size ≠ w.heap.size := by have := HA15.out.lt; omega
            have nf_L_A : w.heap.size ≠ w15.heap.size := by have := HA15.out.lt; omega
            have ne_L_B : w15.heap.size ≠ (w.heap.size + 1) := by have := HB15.out.lt; omega
            have nf_L_B : (w.heap.size + 1) ≠ w15.heap.size := by have := HB15.out.lt; omega
            have ne_L_C : w15.heap.size ≠ (w.heap.size + 1 + 1) := by have := HC15.out.lt; omega
            have nf_L_C : (w.heap.size + 1 + 1) ≠ w15.heap.size := by have := HC15.out.lt; omega
            have ne_L_J : w15.heap.size ≠ w13.heap.size := by have := HJ15.out.lt; omega
            have nf_L_J : w13.heap.size ≠ w15.heap.size := by have := HJ15.out.lt; omega
            have ne_L_K : w15.heap.size ≠ w14.heap.size := by have := HK15.out.lt; omega
            have nf_L_K : w14.heap.size ≠ w15.heap.size := by have := HK15.out.lt; omega
            clear HA15 HB15 HC15 HJ15 HK15 HW15
            obtain ⟨dK0, dK1, dK2, _⟩ := GK.out
            obtain ⟨dL0, dL1, dL2, _⟩ := GL.out
            go_wp2_with fail
            refine (cD2 _ (ok.below HP.out GW.out)).mono ?_
            rintro e w16 ⟨rfl, b16⟩
            have HJ16 := Lib.hid (GJ.out.call b16)
            have HW16 := Lib.hid (step GW.out b16)
            clear b16 GW GA GB GC GJ GK GL dK0 dK1 dK2 dL0 dL1 dL2
            have GJ := Lib.hid (HJ16.out.alloc (.cells #[.bool jn, .string jd, .int .i64 jk] 23))
            have GE := Lib.hid (Has.new w16 (.bool jn) (.string jd) (.int .i64 jk) 23)
            have GW := Lib.hid (stepA HW16.out (.cells #[.bool jn, .string jd, .int .i64 jk] 23))
            have le_E : w.heap.size ≤ w16.heap.size := HW16.out.size
            have ne_E_J : w16.heap.size ≠ w13.heap.size := by have := HJ16.out.lt; omega
            have nf_E_J : w13.heap.size ≠ w16.heap.size := by have := HJ16.out.lt; omega
            clear HJ16 HW16
            obtain ⟨dJ0, dJ1, dJ2, _⟩ := GJ.out
            obtain ⟨dE0, dE1, dE2, _⟩ := GE.out
            go_wp2_with fail
            refine (shown_any ok _ (ok.below HP.out GW.out)).mono ?_
            rintro e w17 ⟨rfl, b17⟩
            have HW17 := Lib.hid (step GW.out b17)
            clear b17 GW GJ GE dJ0 dJ1 dJ2 dE0 dE1 dE2
            go_wp2
            go_ret
            exact ⟨rfl, HW17.out⟩
          · have GA := Lib.hid (HA15.out.alloc (.cells #[.bool ln, .string ld, .int .i64 lk] 23))
            have GB := Lib.hid (HB15.out.alloc (.cells #[.bool ln, .string ld, .int .i64 lk] 23))
            have GC := Lib.hid (HC15.out.alloc (.cells #[.bool ln, .string ld, .int .i64 lk] 23))
            have GJ := Lib.hid (HJ15.out.alloc (.cells #[.bool ln, .string ld, .int .i64 lk] 23))
            have GK := Lib.hid (HK15.out.alloc (.cells #[.bool ln, .string ld, .int .i64 lk] 23))
            have GL := Lib.hid (Has.new w15 (.bool ln) (.string ld) (.int .i64 lk) 23)
            have GW := Lib.hid (stepA HW15.out (.cells #[.bool ln, .string ld, .int .i64 lk] 23))
            have le_L : w.heap.size ≤ w15.heap.size := HW15.out.size
            have ne_L_A : w15.heap.size ≠ w.heap.size := by have := HA15.out.lt; omega
            have nf_L_A : w.heap.size ≠ w15.heap.size := by have := HA15.out.lt; omega
            have ne_L_B : w15.heap.size ≠ (w.heap.size + 1) := by have := HB15.out.lt; omega
            have nf_L_B : (w.heap.size + 1) ≠ w15.heap.size := by have := HB15.out.lt; omega
            have ne_L_C : w15.heap.size ≠ (w.heap.size + 1 + 1) := by have := HC15.out.lt; omega
            have nf_L_C : (w.heap.size + 1 + 1) ≠ w15.heap.size := by have := HC15.out.lt; omega
            have ne_L_J : w15.heap.size ≠ w13.heap.size := by have := HJ15.out.lt; omega
            have nf_L_J : w13.heap.size ≠ w15.heap.size := by have := HJ15.out.lt; omega
            have ne_L_K : w15.heap.size ≠ w14.heap.size := by have := HK15.out.lt; omega
            have nf_L_K : w14.heap.size ≠ w15.heap.size := by have := HK15.out.lt; omega
            clear HA15 HB15 HC15 HJ15 HK15 HW15
            go_wp2_with fail
            refine (shown_any ok _ (ok.below HP.out GW.out)).mono ?_
            rintro e w16 ⟨rfl, b16⟩
            have HW16 := Lib.hid (step GW.out b16)
            clear b16 GW GA GB GC GJ GK GL 
            go_wp2
            go_ret
            exact ⟨rfl, HW16.out⟩
        · have GA := Lib.hid (HA15.out.alloc (.cells #[.bool ln, .string ld, .int .i64 lk] 23))
          have GB := Lib.hid (HB15.out.alloc (.cells #[.bool ln, .string ld, .int .i64 lk] 23))
          have GC := Lib.hid (HC15.out.alloc (.cells #[.bool ln, .string ld, .int .i64 lk] 23))
          have GJ := Lib.hid (HJ15.out.alloc (.cells #[.bool ln, .string ld, .int .i64 lk] 23))
          have GK := Lib.hid (HK15.out.alloc (.cells #[.bool ln, .string ld, .int .i64 lk] 23))
          have GL := Lib.hid (Has.new w15 (.bool ln) (.string ld) (.int .i64 lk) 23)
          have GW := Lib.hid (stepA HW15.out (.cells #[.bool ln, .string ld, .int .i64 lk] 23))
          have le_L : w.heap.size ≤ w15.heap.size := HW15.out.size
          have ne_L_A : w15.heap.size ≠ w.heap.size := by have := HA15.out.lt; omega
          have nf_L_A : w.heap.size ≠ w15.heap.size := by have := HA15.out.lt; omega
          have ne_L_B : w15.heap.size ≠ (w.heap.size + 1) := by have := HB15.out.lt; omega
          have nf_L_B : (w.heap.size + 1) ≠ w15.heap.size := by have := HB15.out.lt; omega
          have ne_L_C : w15.heap.size ≠ (w.heap.size + 1 + 1) := by have := HC15.out.lt; omega
          have nf_L_C : (w.heap.size + 1 + 1) ≠ w15.heap.size := by have := HC15.out.lt; omega
          have ne_L_J : w15.heap.size ≠ w13.heap.size := by have := HJ15.out.lt; omega
          have nf_L_J : w13.heap.size ≠ w15.heap.size := by have := HJ15.out.lt; omega
          have ne_L_K : w15.heap.size ≠ w14.heap.size := by have := HK15.out.lt; omega
          have nf_L_K : w14.heap.size ≠ w15.heap.size := by have := HK15.out.lt; omega
          clear HA15 HB15 HC15 HJ15 HK15 HW15
          go_wp2_with fail
          refine (shown_any ok _ (ok.below HP.out GW.out)).mono ?_
          rintro e w16 ⟨rfl, b16⟩
          have HW16 := Lib.hid (step GW.out b16)
          clear b16 GW GA GB GC GJ GK GL 
          go_wp2
          go_ret
          exact ⟨rfl, HW16.out⟩
      · have GA := Lib.hid (HA15.out.alloc (.cells #[.bool ln, .string ld, .int .i64 lk] 23))
        have GB := Lib.hid (HB15.out.alloc (.cells #[.bool ln, .string ld, .int .i64 lk] 23))
        have GC := Lib.hid (HC15.out.alloc (.cells #[.bool ln, .string ld, .int .i64 lk] 23))
        have GJ := Lib.hid (HJ15.out.alloc (.cells #[.bool ln, .string ld, .int .i64 lk] 23))
        have GK := Lib.hid (HK15.out.alloc (.cells #[.bool ln, .string ld, .int .i64 lk] 23))
        have GL := Lib.hid (Has.new w15 (.bool ln) (.string ld) (.int .i64 lk) 23)
        have GW := Lib.hid (stepA HW15.out (.cells #[.bool ln, .string ld, .int .i64 lk] 23))
        have le_L : w.heap.size ≤ w15.heap.size := HW15.out.size
        have ne_L_A : w15.heap.size ≠ w.heap.size := by have := HA15.out.lt; omega
        have nf_L_A : w.heap.size ≠ w15.heap.size := by have := HA15.out.lt; omega
        have ne_L_B : w15.heap.size ≠ (w.heap.size + 1) := by have := HB15.out.lt; omega
        have nf_L_B : (w.heap.size + 1) ≠ w15.heap.size := by have := HB15.out.lt; omega
        have ne_L_C : w15.heap.size ≠ (w.heap.size + 1 + 1) := by have := HC15.out.lt; omega
        have nf_L_C : (w.heap.size + 1 + 1) ≠ w15.heap.size := by have := HC15.out.lt; omega
        have ne_L_J : w15.heap.size ≠ w13.heap.size := by have := HJ15.out.lt; omega
        have nf_L_J : w13.heap.size ≠ w15.heap.size := by have := HJ15.out.lt; omega
        have ne_L_K : w15.heap.size ≠ w14.heap.size := by have := HK15.out.lt; omega
        have nf_L_K : w14.heap.size ≠ w15.heap.size := by have := HK15.out.lt; omega
        clear HA15 HB15 HC15 HJ15 HK15 HW15
        go_wp2_with fail
        refine (shown_any ok _ (ok.below HP.out GW.out)).mono ?_
        rintro e w16 ⟨rfl, b16⟩
        have HW16 := Lib.hid (step GW.out b16)
        clear b16 GW GA GB GC GJ GK GL 
        go_wp2
        go_ret
        exact ⟨rfl, HW16.out⟩
    · have GA := HA11
      have GB := HB11
      have GC := HC11
      have GX := HX11
      have GD := HD11
      have GW := HW11
      clear HA11 HB11 HC11 HX11 HD11 HW11
      obtain ⟨dD0, dD1, dD2, _⟩ := GD.out
      go_wp2_with fail
      refine (shown_any ok _ (ok.below HP.out GW.out)).mono ?_
      rintro e w12 ⟨rfl, b12⟩
      have HW12 := Lib.hid (step GW.out b12)
      clear b12 GW GA GB GC GX GD dD0 dD1 dD2
      go_wp2
      go_ret
      exact ⟨rfl, HW12.out⟩
  · rcases HE.out.1 with rfl | rfl
    · have fB := HF.out.1 rfl
      have cB2 := fun W => cB W rfl
      rw [fB] at cB2
      simp only at cB2
      clear fB cB
      have GA := HA11
      have GB := HB11
      have GC := HC11
      have GX := HX11
      have GD := HD11
      have GW := HW11
      clear HA11 HB11 HC11 HX11 HD11 HW11
      obtain ⟨dB0, dB1, dB2, _⟩ := GB.out
      obtain ⟨dX0, dX1, dX2, _⟩ := GX.out
      obtain ⟨dD0, dD1, dD2, _⟩ := GD.out
      go_wp2_with fail
      refine (cB2 _ (ok.below HP.out GW.out)).mono ?_
      rintro e w12 ⟨rfl, b12⟩
      have HA12 := Lib.hid (GA.out.call b12)
      have HB12 := Lib.hid (GB.out.call b12)
      have HC12 := Lib.hid (GC.out.call b12)
      have HX12 := Lib.hid (GX.out.call b12)
      have HW12 := Lib.hid (step GW.out b12)
      clear b12 GW GA GB GC GX GD dB0 dB1 dB2 dX0 dX1 dX2 dD0 dD1 dD2
      have GA := Lib.hid (HA12.out.alloc (.cells #[.bool an, .string ad, .int .i64 ak] 23))
      have GB := Lib.hid (HB12.out.alloc (.cells #[.bool an, .string ad, .int .i64 ak] 23))
      have GC := Lib.hid (HC12.out.alloc (.cells #[.bool an, .string ad, .int .i64 ak] 23))
      have GX := Lib.hid (HX12.out.alloc (.cells #[.bool an, .string ad, .int .i64 ak] 23))
      have GZ := Lib.hid (Has.new w12 (.bool an) (.string ad) (.int .i64 ak) 23)
      have GW := Lib.hid (stepA HW12.out (.cells #[.bool an, .string ad, .int .i64 ak] 23))
      have le_Z : w.heap.size ≤ w12.heap.size := HW12.out.size
      have ne_Z_A : w12.heap.size ≠ w.heap.size := by have := HA12.out.lt; omega
      have nf_Z_A : w.heap.size ≠ w12.heap.size := by have := HA12.out.lt; omega
      have ne_Z_B : w12.heap.size ≠ (w.heap.size + 1) := by have := HB12.out.lt; omega
      have nf_Z_B : (w.heap.size + 1) ≠ w12.heap.size := by have := HB12.out.lt; omega
      have ne_Z_C : w12.heap.size ≠ (w.heap.size + 1 + 1) := by have := HC12.out.lt; omega
      have nf_Z_C : (w.heap.size + 1 + 1) ≠ w12.heap.size := by have := HC12.out.lt; omega
      have ne_Z_X : w12.heap.size ≠ w6.heap.size := by have := HX12.out.lt; omega
      have nf_Z_X : w6.heap.size ≠ w12.heap.size := by have := HX12.out.lt; omega
      clear HA12 HB12 HC12 HX12 HW12
      obtain ⟨dA0, dA1, dA2, _⟩ := GA.out
      obtain ⟨dC0, dC1, dC2, _⟩ := GC.out
      obtain ⟨dX0, dX1, dX2, _⟩ := GX.out
      obtain ⟨dZ0, dZ1, dZ2, _⟩ := GZ.out
      go_wp2_with fail
      refine (cJ _ (by simp) (ok.below HP.out GW.out)).mono ?_
      rintro e w13 ⟨rfl, b13⟩
      have HA13 := Lib.hid (GA.out.call b13)
      have HB13 := Lib.hid (GB.out.call b13)
      have HC13 := Lib.hid (GC.out.call b13)
      have HW13 := Lib.hid (step GW.out b13)
      clear b13 GW GA GB GC GX GZ dA0 dA1 dA2 dC0 dC1 dC2 dX0 dX1 dX2 dZ0 dZ1 dZ2
      have GA := Lib.hid (HA13.out.alloc (.cells #[.bool jn, .string jd, .int .i64 jk] 23))
      have GB := Lib.hid (HB13.out.alloc (.cells #[.bool jn, .string jd, .int .i64 jk] 23))
      have GC := Lib.hid (HC13.out.alloc (.cells #[.bool jn, .string jd, .int .i64 jk] 23))
      have GJ := Lib.hid (Has.new w13 (.bool jn) (.string jd) (.int .i64 jk) 23)
      have GW := Lib.hid (stepA HW13.out (.cells #[.bool jn, .string jd, .int .i64 jk] 23))
      have le_J : w.heap.size ≤ w13.heap.size := HW13.out.size
      have ne_J_A : w13.heap.size ≠ w.heap.size := by have := HA13.out.lt; omega
      have nf_J_A : w.heap.size ≠ w13.heap.size := by have := HA13.out.lt; omega
      have ne_J_B : w13.heap.size ≠ (w.heap.size + 1) := by have := HB13.out.lt; omega
      have nf_J_B : (w.heap.size + 1) ≠ w13.heap.size := by have := HB13.out.lt; omega
      have ne_J_C : w13.heap.size ≠ (w.heap.size + 1 + 1) := by have := HC13.out.lt; omega
      have nf_J_C : (w.heap.size + 1 + 1) ≠ w13.heap.size := by have := HC13.out.lt; omega
      clear HA13 HB13 HC13 HW13
      obtain ⟨dA0, dA1, dA2, _⟩ := GA.out
      obtain ⟨dC0, dC1, dC2, _⟩ := GC.out
      go_wp2_with fail
      refine (cK _ (ok.below HP.out GW.out)).mono ?_
      rintro e w14 ⟨rfl, b14⟩
      have HA14 := Lib.hid (GA.out.call b14)
      have HB14 := Lib.hid (GB.out.call b14)
      have HC14 := Lib.hid (GC.out.call b14)
      have HJ14 := Lib.hid (GJ.out.call b14)
      have HW14 := Lib.hid (step GW.out b14)
      clear b14 GW GA GB GC GJ dA0 dA1 dA2 dC0 dC1 dC2
      have GA := Lib.hid (HA14.out.alloc (.cells #[.bool kn, .string kd, .int .i64 kk] 23))
      have GB := Lib.hid (HB14.out.alloc (.cells #[.bool kn, .string kd, .int .i64 kk] 23))
      have GC := Lib.hid (HC14.out.alloc (.cells #[.bool kn, .string kd, .int .i64 kk] 23))
      have GJ := Lib.hid (HJ14.out.alloc (.cells #[.bool kn, .string kd, .int .i64 kk] 23))
      have GK := Lib.hid (Has.new w14 (.bool kn) (.string kd) (.int .i64 kk) 23)
      have GW := Lib.hid (stepA HW14.out (.cells #[.bool kn, .string kd, .int .i64 kk] 23))
      have le_K : w.heap.size ≤ w14.heap.size := HW14.out.size
      have ne_K_A : w14.heap.size ≠ w.heap.size := by have := HA14.out.lt; omega
      have nf_K_A : w.heap.size ≠ w14.heap.size := by have := HA14.out.lt; omega
      have ne_K_B : w14.heap.size ≠ (w.heap.size + 1) := by have := HB14.out.lt; omega
      have nf_K_B : (w.heap.size + 1) ≠ w14.heap.size := by have := HB14.out.lt; omega
      have ne_K_C : w14.heap.size ≠ (w.heap.size + 1 + 1) := by have := HC14.out.lt; omega
      have nf_K_C : (w.heap.size + 1 + 1) ≠ w14.heap.size := by have := HC14.out.lt; omega
      have ne_K_J : w14.heap.size ≠ w13.heap.size := by have := HJ14.out.lt; omega
      have nf_K_J : w13.heap.size ≠ w14.heap.size := by have := HJ14.out.lt; omega
      clear HA14 HB14 HC14 HJ14 HW14
      obtain ⟨dB0, dB1, dB2, _⟩ := GB.out
      obtain ⟨dC0, dC1, dC2, _⟩ := GC.out
      go_wp2_with fail
      refine (cL _ (ok.below HP.out GW.out)).mono ?_
      rintro e w15 ⟨rfl, b15⟩
      have HA15 := Lib.hid (GA.out.call b15)
      have HB15 := Lib.hid (GB.out.call b15)
      have HC15 := Lib.hid (GC.out.call b15)
      have HJ15 := Lib.hid (GJ.out.call b15)
      have HK15 := Lib.hid (GK.out.call b15)
      have HW15 := Lib.hid (step GW.out b15)
      clear b15 GW GA GB GC GJ GK dB0 dB1 dB2 dC0 dC1 dC2
      rcases HE.out.2.2.2.2 (by simp) with rfl | rfl
      · rcases HE.out.2.2.1 with rfl | rfl
        · rcases HE.out.2.2.2.1 with rfl | rfl
          · have fD := HF.out.2 (by simp) (by simp) (by simp) (by simp)
            have cD2 := fun W => cD W (by simp) (by simp)
            rw [fD] at cD2
            simp only at cD2
            clear fD cD HF HE HS
            have GA := Lib.hid (HA15.out.alloc (.cells #[.bool ln, .string ld, .int .i64 lk] 23))
            have GB := Lib.hid (HB15.out.alloc (.cells #[.bool ln, .string ld, .int .i64 lk] 23))
            have GC := Lib.hid (HC15.out.alloc (.cells #[.bool ln, .string ld, .int .i64 lk] 23))
            have GJ := Lib.hid (HJ15.out.alloc (.cells #[.bool ln, .string ld, .int .i64 lk] 23))
            have GK := Lib.hid (HK15.out.alloc (.cells #[.bool ln, .string ld, .int .i64 lk] 23))
            have GL := Lib.hid (Has.new w15 (.bool ln) (.string ld) (.int .i64 lk) 23)
            have GW := Lib.hid (stepA HW15.out (.cells #[.bool ln, .string ld, .int .i64 lk] 23))
            have le_L : w.heap.size ≤ w15.heap.size := HW15.out.size
            have ne_L_A : w15.heap.size ≠ w.heap.size := by have := HA15.out.lt; omega
            have nf_L_A : w.heap.size ≠ w15.heap.size := by have := HA15.out.lt; omega
            have ne_L_B : w15.heap.size ≠ (w.heap.size + 1) := by have := HB15.out.lt; omega
            have nf_L_B : (w.heap.size + 1) ≠ w15.heap.size := by have := HB15.out.lt; omega
            have ne_L_C : w15.heap.size ≠ (w.heap.size + 1 + 1) := by have := HC15.out.lt; omega
            have nf_L_C : (w.heap.size + 1 + 1) ≠ w15.heap.size := by have := HC15.out.lt; omega
            have ne_L_J : w15.heap.size ≠ w13.heap.size := by have := HJ15.out.lt; omega
            have nf_L_J : w13.heap.size ≠ w15.heap.size := by have := HJ15.out.lt; omega
            have ne_L_K : w15.heap.size ≠ w14.heap.size := by have := HK15.out.lt; omega
            have nf_L_K : w14.heap.size ≠ w15.heap.size := by have := HK15.out.lt; omega
            clear HA15 HB15 HC15 HJ15 HK15 HW15
            obtain ⟨dK0, dK1, dK2, _⟩ := GK.out
            obtain ⟨dL0, dL1, dL2, _⟩ := GL.out
            go_wp2_with fail
            refine (cD2 _ (ok.below HP.out GW.out)).mono ?_
            rintro e w16 ⟨rfl, b16⟩
            have HJ16 := Lib.hid (GJ.out.call b16)
            have HW16 := Lib.hid (step GW.out b16)
            clear b16 GW GA GB GC GJ GK GL dK0 dK1 dK2 dL0 dL1 dL2
            have GJ := Lib.hid (HJ16.out.alloc (.cells #[.bool jn, .string jd, .int .i64 jk] 23))
            have GE := Lib.hid (Has.new w16 (.bool jn) (.string jd) (.int .i64 jk) 23)
            have GW := Lib.hid (stepA HW16.out (.cells #[.bool jn, .string jd, .int .i64 jk] 23))
            have le_E : w.heap.size ≤ w16.heap.size := HW16.out.size
            have ne_E_J : w16.heap.size ≠ w13.heap.size := by have := HJ16.out.lt; omega
            have nf_E_J : w13.heap.size ≠ w16.heap.size := by have := HJ16.out.lt; omega
            clear HJ16 HW16
            obtain ⟨dJ0, dJ1, dJ2, _⟩ := GJ.out
            obtain ⟨dE0, dE1, dE2, _⟩ := GE.out
            go_wp2_with fail
            refine (shown_any ok _ (ok.below HP.out GW.out)).mono ?_
            rintro e w17 ⟨rfl, b17⟩
            have HW17 := Lib.hid (step GW.out b17)
            clear b17 GW GJ GE dJ0 dJ1 dJ2 dE0 dE1 dE2
            go_wp2
            go_ret
            exact ⟨rfl, HW17.out⟩
          · have GA := Lib.hid (HA15.out.alloc (.cells #[.bool ln, .string ld, .int .i64 lk] 23))
            have GB := Lib.hid (HB15.out.alloc (.cells #[.bool ln, .string ld, .int .i64 lk] 23))
            have GC := Lib.hid (HC15.out.alloc (.cells #[.bool ln, .string ld, .int .i64 lk] 23))
            have GJ := Lib.hid (HJ15.out.alloc (.cells #[.bool ln, .string ld, .int .i64 lk] 23))
            have GK := Lib.hid (HK15.out.alloc (.cells #[.bool ln, .string ld, .int .i64 lk] 23))
            have GL := Lib.hid (Has.new w15 (.bool ln) (.string ld) (.int .i64 lk) 23)
            have GW := Lib.hid (stepA HW15.out (.cells #[.bool ln, .string ld, .int .i64 lk] 23))
            have le_L : w.heap.size ≤ w15.heap.size := HW15.out.size
            have ne_L_A : w15.heap.size ≠ w.heap.size := by have := HA15.out.lt; omega
            have nf_L_A : w.heap.size ≠ w15.heap.size := by have := HA15.out.lt; omega
            have ne_L_B : w15.heap.size ≠ (w.heap.size + 1) := by have := HB15.out.lt; omega
            have nf_L_B : (w.heap.size + 1) ≠ w15.heap.size := by have := HB15.out.lt; omega
            have ne_L_C : w15.heap.size ≠ (w.heap.size + 1 + 1) := by have := HC15.out.lt; omega
            have nf_L_C : (w.heap.size + 1 + 1) ≠ w15.heap.size := by have := HC15.out.lt; omega
            have ne_L_J : w15.heap.size ≠ w13.heap.size := by have := HJ15.out.lt; omega
            have nf_L_J : w13.heap.size ≠ w15.heap.size := by have := HJ15.out.lt; omega
            have ne_L_K : w15.heap.size ≠ w14.heap.size := by have := HK15.out.lt; omega
            have nf_L_K : w14.heap.size ≠ w15.heap.size := by have := HK15.out.lt; omega
            clear HA15 HB15 HC15 HJ15 HK15 HW15
            go_wp2_with fail
            refine (shown_any ok _ (ok.below HP.out GW.out)).mono ?_
            rintro e w16 ⟨rfl, b16⟩
            have HW16 := Lib.hid (step GW.out b16)
            clear b16 GW GA GB GC GJ GK GL 
            go_wp2
            go_ret
            exact ⟨rfl, HW16.out⟩
        · have GA := Lib.hid (HA15.out.alloc (.cells #[.bool ln, .string ld, .int .i64 lk] 23))
          have GB := Lib.hid (HB15.out.alloc (.cells #[.bool ln, .string ld, .int .i64 lk] 23))
          have GC := Lib.hid (HC15.out.alloc (.cells #[.bool ln, .string ld, .int .i64 lk] 23))
          have GJ := Lib.hid (HJ15.out.alloc (.cells #[.bool ln, .string ld, .int .i64 lk] 23))
          have GK := Lib.hid (HK15.out.alloc (.cells #[.bool ln, .string ld, .int .i64 lk] 23))
          have GL := Lib.hid (Has.new w15 (.bool ln) (.string ld) (.int .i64 lk) 23)
          have GW := Lib.hid (stepA HW15.out (.cells #[.bool ln, .string ld, .int .i64 lk] 23))
          have le_L : w.heap.size ≤ w15.heap.size := HW15.out.size
          have ne_L_A : w15.heap.size ≠ w.heap.size := by have := HA15.out.lt; omega
          have nf_L_A : w.heap.size ≠ w15.heap.size := by have := HA15.out.lt; omega
          have ne_L_B : w15.heap.size ≠ (w.heap.size + 1) := by have := HB15.out.lt; omega
          have nf_L_B : (w.heap.size + 1) ≠ w15.heap.size := by have := HB15.out.lt; omega
          have ne_L_C : w15.heap.size ≠ (w.heap.size + 1 + 1) := by have := HC15.out.lt; omega
          have nf_L_C : (w.heap.size + 1 + 1) ≠ w15.heap.size := by have := HC15.out.lt; omega
          have ne_L_J : w15.heap.size ≠ w13.heap.size := by have := HJ15.out.lt; omega
          have nf_L_J : w13.heap.size ≠ w15.heap.size := by have := HJ15.out.lt; omega
          have ne_L_K : w15.heap.size ≠ w14.heap.size := by have := HK15.out.lt; omega
          have nf_L_K : w14.heap.size ≠ w15.heap.size := by have := HK15.out.lt; omega
          clear HA15 HB15 HC15 HJ15 HK15 HW15
          go_wp2_with fail
          refine (shown_any ok _ (ok.below HP.out GW.out)).mono ?_
          rintro e w16 ⟨rfl, b16⟩
          have HW16 := Lib.hid (step GW.out b16)
          clear b16 GW GA GB GC GJ GK GL 
          go_wp2
          go_ret
          exact ⟨rfl, HW16.out⟩
      · have GA := Lib.hid (HA15.out.alloc (.cells #[.bool ln, .string ld, .int .i64 lk] 23))
        have GB := Lib.hid (HB15.out.alloc (.cells #[.bool ln, .string ld, .int .i64 lk] 23))
        have GC := Lib.hid (HC15.out.alloc (.cells #[.bool ln, .string ld, .int .i64 lk] 23))
        have GJ := Lib.hid (HJ15.out.alloc (.cells #[.bool ln, .string ld, .int .i64 lk] 23))
        have GK := Lib.hid (HK15.out.alloc (.cells #[.bool ln, .string ld, .int .i64 lk] 23))
        have GL := Lib.hid (Has.new w15 (.bool ln) (.string ld) (.int .i64 lk) 23)
        have GW := Lib.hid (stepA HW15.out (.cells #[.bool ln, .string ld, .int .i64 lk] 23))
        have le_L : w.heap.size ≤ w15.heap.size := HW15.out.size
        have ne_L_A : w15.heap.size ≠ w.heap.size := by have := HA15.out.lt; omega
        have nf_L_A : w.heap.size ≠ w15.heap.size := by have := HA15.out.lt; omega
        have ne_L_B : w15.heap.size ≠ (w.heap.size + 1) := by have := HB15.out.lt; omega
        have nf_L_B : (w.heap.size + 1) ≠ w15.heap.size := by have := HB15.out.lt; omega
        have ne_L_C : w15.heap.size ≠ (w.heap.size + 1 + 1) := by have := HC15.out.lt; omega
        have nf_L_C : (w.heap.size + 1 + 1) ≠ w15.heap.size := by have := HC15.out.lt; omega
        have ne_L_J : w15.heap.size ≠ w13.heap.size := by have := HJ15.out.lt; omega
        have nf_L_J : w13.heap.size ≠ w15.heap.size := by have := HJ15.out.lt; omega
        have ne_L_K : w15.heap.size ≠ w14.heap.size := by have := HK15.out.lt; omega
        have nf_L_K : w14.heap.size ≠ w15.heap.size := by have := HK15.out.lt; omega
        clear HA15 HB15 HC15 HJ15 HK15 HW15
        go_wp2_with fail
        refine (shown_any ok _ (ok.below HP.out GW.out)).mono ?_
        rintro e w16 ⟨rfl, b16⟩
        have HW16 := Lib.hid (step GW.out b16)
        clear b16 GW GA GB GC GJ GK GL 
        go_wp2
        go_ret
        exact ⟨rfl, HW16.out⟩
    · have GA := HA11
      have GB := HB11
      have GC := HC11
      have GX := HX11
      have GD := HD11
      have GW := HW11
      clear HA11 HB11 HC11 HX11 HD11 HW11
      obtain ⟨dD0, dD1, dD2, _⟩ := GD.out
      go_wp2_with fail
      refine (shown_any ok _ (ok.below HP.out GW.out)).mono ?_
      rintro e w12 ⟨rfl, b12⟩
      have HW12 := Lib.hid (step GW.out b12)
      clear b12 GW GA GB GC GX GD dD0 dD1 dD2
      go_wp2
      go_ret
      exact ⟨rfl, HW12.out⟩
end Go.Proofs.YtcpociafcjabkaaGreatDoor
