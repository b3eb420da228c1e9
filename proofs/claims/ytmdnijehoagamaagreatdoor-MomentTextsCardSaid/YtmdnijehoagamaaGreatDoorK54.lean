/- Y LA -/
import Derived.Test.YtmdnijehoagamaaGreatDoorK05
set_option linter.unusedVariables false
set_option linter.unusedSimpArgs false
namespace Go.Proofs.YtmdnijehoagamaaGreatDoor
set_option maxRecDepth 100000
set_option maxHeartbeats 4000000
open Go.RowKit
theorem text_bad (neg : Bool) (a : ByteArray) (s : Int) (za : a.size ≤ maxLen) (h : ¬ Valid ⟨neg, a, s⟩) (w : World) :
  Calls Tryz.prog 44 #[.agg #[.bool neg, .string a, .int .i64 s]] w fun e w' => e = .returned (.tuple #[.string ⟨#[]⟩, .int .i64 2]) ∧ Below w.heap.size w w' := by
 have c1 := fun W => check_val neg a s za W 2 (chkR_bad h)
 clear h za
 go_enter Tryz.func44, Tryz.ntmps44
 go_wp2_with fail
 refine (c1 _).mono ?_
 rintro e w1 ⟨rfl, b1⟩
 obtain ⟨r0, r1, r2, f0, f1, f2, hB, hz⟩ := one_all b1
 have HB := Lib.hid hB
 go_wp2
 go_ret2
 exact ⟨rfl, HB.out⟩
theorem text_whole (neg : Bool) (a : ByteArray) (n : Nat) (h : IsDec ⟨neg, a, 0⟩ n 0) (w : World) :
  Calls Tryz.prog 44 #[.agg #[.bool neg, .string a, .int .i64 0]] w fun e w' => e = .returned (.tuple #[.string (txtC neg a), .int .i64 0]) ∧ Below w.heap.size w w' := by
 have za : a.size ≤ 60 := by rw [show a = numS n from h.ds, numS_size]; exact h.len
 have zp : ¬ (a.size : Int) ≤ 0 := by have := h.num.pos; simp only at this; omega
 have c1 := fun W => check_val neg a 0 (by unfold maxLen; omega) W 0 (chkR_ok ⟨n, 0, h⟩)
 have hsum : 1 + a.size ≤ 9223372036854775807 := by omega
 have zq : ¬ a = ByteArray.empty := by rintro rfl; exact zp (by simp)
 clear h
 go_enter Tryz.func44, Tryz.ntmps44
 go_wp2_with fail
 refine (c1 _).mono ?_
 rintro e w1 ⟨rfl, b1⟩
 obtain ⟨r0, r1, r2, f0, f1, f2, hB, hz⟩ := one_all b1
 have HB := Lib.hid hB
 clear c1 f0 f1 f2 hB hz b1
 cases neg with
 | true =>
  go_wp2
  go_ret2
  exact ⟨rfl, HB.out⟩
 | false =>
  go_wp2
  go_ret2
  exact ⟨rfl, HB.out⟩
theorem text_part (neg : Bool) (a : ByteArray) (s n : Nat) (hs : 0 < s) (has : s < a.size) (h : IsDec ⟨neg, a, (s : Int)⟩ n s) (w : World) :
  Calls Tryz.prog 44 #[.agg #[.bool neg, .string a, .int .i64 (s : Int)]] w fun e w' => e = .returned (.tuple #[.string (txtC neg (a.extract 0 (a.size - s) ++ ⟨#[46]⟩ ++ a.extract (a.size - s) a.size)), .int .i64 0]) ∧ Below w.heap.size w w' := by
 have za : a.size ≤ 60 := by rw [show a = numS n from h.ds, numS_size]; exact h.len
 have zp : ¬ (a.size : Int) ≤ (s : Int) := by omega
 have hsi : (0 : Int) < (s : Int) := by omega
 have c1 := fun W => check_val neg a (s : Int) (by unfold maxLen; omega) W 0 (chkR_ok ⟨n, s, h⟩)
 have d0 : (0 : Int) ≤ (a.size : Int) - (s : Int) := by omega
 have d1 : (a.size : Int) - (s : Int) ≤ (a.size : Int) := by omega
 clear h
 go_enter Tryz.func44, Tryz.ntmps44
 go_wp2_with fail
 refine (c1 _).mono ?_
 rintro e w1 ⟨rfl, b1⟩
 obtain ⟨r0, r1, r2, f0, f1, f2, hB, hz⟩ := one_all b1
 have HB := Lib.hid hB
 clear c1 f0 f1 f2 hB hz b1
 cases neg with
 | true =>
  go_wp2
  go_quiet (fail)
  go_wp2
  go_ret2
  exact ⟨rfl, below_drewN HB.out _⟩
 | false =>
  go_wp2
  go_quiet (fail)
  go_wp2
  go_ret2
  exact ⟨rfl, below_drewN HB.out _⟩
theorem text_zeros (neg : Bool) (a : ByteArray) (s n : Nat) (hs : 0 < s) (has : a.size ≤ s) (h : IsDec ⟨neg, a, (s : Int)⟩ n s) (w : World) (t : ByteArray) (ht : zs (s - a.size + 1) ++ a = t) :
  Calls Tryz.prog 44 #[.agg #[.bool neg, .string a, .int .i64 (s : Int)]] w fun e w' => e = .returned (.tuple #[.string (txtC neg (t.extract 0 (t.size - s) ++ ⟨#[46]⟩ ++ t.extract (t.size - s) t.size)), .int .i64 0]) ∧ Below w.heap.size w w' := by
 have za : a.size ≤ 60 := by rw [show a = numS n from h.ds, numS_size]; exact h.len
 have hs60 := h.le
 have zp : (a.size : Int) ≤ (s : Int) := by omega
 have hsi : (0 : Int) < (s : Int) := by omega
 have c1 := fun W => check_val neg a (s : Int) (by unfold maxLen; omega) W 0 (chkR_ok ⟨n, s, h⟩)
 have cZ := fun W => zeros_any ((s : Int) - a.size + 1) (by omega) W
 rw [show ((s : Int) - a.size + 1).toNat = s - a.size + 1 by omega] at cZ
 have hts : t.size = s + 1 := by rw [← ht, app_size, zs_size]; omega
 have hZ : (zs (s - a.size + 1)).size + a.size ≤ 9223372036854775807 := by rw [zs_size]; omega
 generalize zs (s - a.size + 1) = Z at cZ hZ ht
 have HT := Lib.hid ht
 have d0 : (0 : Int) ≤ (t.size : Int) - (s : Int) := by omega
 have d1 : (t.size : Int) - (s : Int) ≤ (t.size : Int) := by omega
 have d2 : t.size ≤ 61 := by omega
 have w1 : IntKind.i64.wrap ((s : Int) - (a.size : Int)) = (s : Int) - (a.size : Int) := IntWalk.i64_in _ (by omega)
 clear h ht hts
 go_enter Tryz.func44, Tryz.ntmps44
 go_wp2_with fail
 refine (c1 _).mono ?_
 rintro e w1 ⟨rfl, b1⟩
 obtain ⟨r0, r1, r2, f0, f1, f2, hB, hz⟩ := one_all b1
 have HB := Lib.hid hB
 clear c1 f0 f1 f2 hB hz b1
 go_wp2_with fail
 refine (cZ _).mono ?_
 rintro e w2 ⟨rfl, rfl⟩
 clear cZ
 have ht := HT.out
 cases neg with
 | true =>
  go_wp2
  go_quiet (fail)
  go_wp2
  go_ret2
  exact ⟨rfl, below_drewN HB.out _⟩
 | false =>
  go_wp2
  go_quiet (fail)
  go_wp2
  go_ret2
  exact ⟨rfl, below_drewN HB.out _⟩
theorem text_ok (neg : Bool) (a : ByteArray) (s : Int) (n k : Nat) (h : IsDec ⟨neg, a, s⟩ n k) (w : World) :
  Calls Tryz.prog 44 #[.agg #[.bool neg, .string a, .int .i64 s]] w fun e w' => e = .returned (.tuple #[.string (textOf ⟨neg, a, s⟩), .int .i64 0]) ∧ Below w.heap.size w w' := by
 obtain rfl : s = (k : Int) := h.sc
 unfold textOf
 simp only [Int.toNat_natCast]
 by_cases hk : k = 0
 ·subst hk
  have hp := h.num.pos
  simp only at hp
  have e : txtB (txtA a 0) 0 = a := by unfold txtB txtA; rw [if_neg (by omega), if_neg (by omega)]
  rw [e]
  exact text_whole neg a n h w
 ·by_cases has : a.size ≤ k
  ·have e : txtB (txtA a k) k = txtB (zs (k - a.size + 1) ++ a) k := by unfold txtA; rw [if_pos has]
   have e2 : txtB (zs (k - a.size + 1) ++ a) k = _ := if_pos (by omega)
   rw [e, e2]
   exact text_zeros neg a k n (by omega) has h w _ rfl
  ·have e : txtB (txtA a k) k = txtB a k := by unfold txtA; rw [if_neg has]
   have e2 : txtB a k = _ := if_pos (by omega)
   rw [e, e2]
   exact text_part neg a k n (by omega) (by omega) h w
end Go.Proofs.YtmdnijehoagamaaGreatDoor
namespace Go.Proofs.YtmdnijehoagamaaGreatDoor
open Go.RowKit
theorem r_text (a : Dec) (za : a.ds.size ≤ 400) (w : World) : Calls Tryz.prog 44 #[a.v] w fun e w' => e = .returned (.tuple #[.string (textS a).1, .int .i64 (textS a).2]) ∧ Below w.heap.size w w' := by
 unfold textS
 split
 ·next h => exact text_ok a.neg a.ds a.sc _ _ h.is w
 ·next h => exact text_bad a.neg a.ds a.sc (by unfold maxLen; omega) h w
end Go.Proofs.YtmdnijehoagamaaGreatDoor
