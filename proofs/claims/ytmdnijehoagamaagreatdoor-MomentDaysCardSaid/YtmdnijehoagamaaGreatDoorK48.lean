/- MK NX -/
import Derived.Test.YtmdnijehoagamaaGreatDoorK44
set_option linter.unusedVariables false
set_option linter.unusedSimpArgs false
namespace Go.Proofs.YtmdnijehoagamaaGreatDoor
open Go.RowKit
noncomputable def eqS6 (a b : Mom) : Bool × Int := ((cmpS6 a b).2.1 && (cmpS6 a b).1 == 0, (cmpS6 a b).2.2)
def tot (M : Nat) (p : Pt) : Int := p.w * ((10 ^ M : Nat) : Int) + vM M p.f
theorem tot_le {M : Nat} {a b : Pt} (ha : Part M a.f) (hb : Part M b.f) : (a.w < b.w → tot M a < tot M b) ∧ (b.w < a.w → tot M b < tot M a) := by
 have a0 := ha.lo
 have a1 := ha.hi
 have b0 := hb.lo
 have b1 := hb.hi
 have hp := p_pos M
 unfold tot
 generalize ((10 ^ M : Nat) : Int) = U at *
 constructor
 ·intro h
  have h1 := Int.mul_le_mul_of_nonneg_right (show a.w + 1 ≤ b.w from h) (Int.le_of_lt hp)
  rw [Int.add_mul] at h1
  omega
 ·intro h
  have h1 := Int.mul_le_mul_of_nonneg_right (show b.w + 1 ≤ a.w from h) (Int.le_of_lt hp)
  rw [Int.add_mul] at h1
  omega
theorem ordP_ok {M : Nat} (hM : 130 ≤ M) {a b : Pt} (ha : Part M a.f) (hb : Part M b.f) : ordP a b = if tot M a < tot M b then -1 else if tot M a = tot M b then 0 else 1 := by
 obtain ⟨h1, h2⟩ := tot_le ha hb
 unfold ordP
 rcases Int.lt_trichotomy a.w b.w with h | h | h
 ·rw [if_pos h, if_pos (h1 h)]
 ·rw [if_neg (by omega), if_neg (by omega), ord_V hM ha.val hb.val]
  unfold tot
  rw [h]
  generalize b.w * ((10 ^ M : Nat) : Int) = q
  have l1 : (q + vM M a.f < q + vM M b.f) ↔ vM M a.f < vM M b.f := by omega
  have l2 : (q + vM M a.f = q + vM M b.f) ↔ vM M a.f = vM M b.f := by omega
  simp only [l1, l2]
 ·have := h2 h
  rw [if_neg (by omega), if_pos h, if_neg (by omega), if_neg (by omega)]
end Go.Proofs.YtmdnijehoagamaaGreatDoor
namespace Go.Proofs.YtmdnijehoagamaaGreatDoor
set_option maxRecDepth 100000
set_option maxHeartbeats 8000000
open Go.RowKit
theorem pequal_any (a b : Mom) (o q : Int) (t b0 : Bool) (h0 : (o == 0) = b0)
  (cC : ∀ W, Tabs W → Calls Tryz.prog 19 #[.agg #[.int .i64 a.k, .int .i64 a.y, .int .i64 a.mo, .int .i64 a.d, .int .i64 a.h, .int .i64 a.mi, .bool a.sec.neg, .string a.sec.ds, .int .i64 a.sec.sc, .bool a.zd, .int .i64 a.z], .agg #[.int .i64 b.k, .int .i64 b.y, .int .i64 b.mo, .int .i64 b.d, .int .i64 b.h, .int .i64 b.mi, .bool b.sec.neg, .string b.sec.ds, .int .i64 b.sec.sc, .bool b.zd, .int .i64 b.z]] W fun e w' => e = .returned (.tuple #[.int .i64 o, .bool t, .int .i64 q]) ∧ Below W.heap.size W w')
  (w : World) (hT : Tabs w) : Calls Tryz.prog 21 #[.agg #[.int .i64 a.k, .int .i64 a.y, .int .i64 a.mo, .int .i64 a.d, .int .i64 a.h, .int .i64 a.mi, .bool a.sec.neg, .string a.sec.ds, .int .i64 a.sec.sc, .bool a.zd, .int .i64 a.z], .agg #[.int .i64 b.k, .int .i64 b.y, .int .i64 b.mo, .int .i64 b.d, .int .i64 b.h, .int .i64 b.mi, .bool b.sec.neg, .string b.sec.ds, .int .i64 b.sec.sc, .bool b.zd, .int .i64 b.z]] w fun e w' => e = .returned (.tuple #[.bool (t && b0), .int .i64 q]) ∧ Below w.heap.size w w' := by
 go_enter Tryz.func21, Tryz.ntmps21
 have HS := Lib.hid (((KD.nil w).push [.int .i64 a.k, .int .i64 a.y, .int .i64 a.mo, .int .i64 a.d, .int .i64 a.h, .int .i64 a.mi, .bool a.sec.neg, .string a.sec.ds, .int .i64 a.sec.sc, .bool a.zd, .int .i64 a.z] 25 (n := w.heap.size) (by simp)).push [.int .i64 b.k, .int .i64 b.y, .int .i64 b.mo, .int .i64 b.d, .int .i64 b.h, .int .i64 b.mi, .bool b.sec.neg, .string b.sec.ds, .int .i64 b.sec.sc, .bool b.zd, .int .i64 b.z] 25 (n := w.heap.size + 1) (by simp))
 have HT := Lib.hid hT
 clear hT
 obtain ⟨d0_0, d0_1, d0_2, d0_3, d0_4, d0_5, d0_6, d0_7, d0_8, d0_9, d0_10⟩ := (HS.out.at 0 rfl).all11
 obtain ⟨d1_0, d1_1, d1_2, d1_3, d1_4, d1_5, d1_6, d1_7, d1_8, d1_9, d1_10⟩ := (HS.out.at 1 rfl).all11
 go_wp2_with fail
 refine (cC _ (HS.out.tabs HT.out)).mono ?_
 rintro e w1 ⟨rfl, b1⟩
 replace HS := Lib.hid (HS.out.call b1)
 clear d0_0 d0_1 d0_2 d0_3 d0_4 d0_5 d0_6 d0_7 d0_8 d0_9 d0_10 d1_0 d1_1 d1_2 d1_3 d1_4 d1_5 d1_6 d1_7 d1_8 d1_9 d1_10 b1
 cases t <;> cases b0
 all_goals (go_wp2; go_ret2; exact ⟨rfl, HS.out.old⟩)
theorem p_equal (a b : Mom) (za : a.sec.ds.size ≤ 400) (zb : b.sec.ds.size ≤ 400) (w : World) (hT : Tabs w) : Calls Tryz.prog 21 #[a.v, b.v] w fun e w' => e = .returned (.tuple #[.bool (eqS6 a b).1, .int .i64 (eqS6 a b).2]) ∧ Below w.heap.size w w' :=
 pequal_any a b _ _ _ _ rfl (fun W hW => p_cmp6 a b za zb W hW) w hT
end Go.Proofs.YtmdnijehoagamaaGreatDoor
