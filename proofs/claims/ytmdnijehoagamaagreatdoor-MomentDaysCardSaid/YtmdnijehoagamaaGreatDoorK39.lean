/- NH NQ -/
import Derived.Test.YtmdnijehoagamaaGreatDoorK23
set_option linter.unusedVariables false
set_option linter.unusedSimpArgs false
namespace Go.Proofs.YtmdnijehoagamaaGreatDoor
set_option maxRecDepth 100000
set_option maxHeartbeats 8000000
open Go.RowKit
theorem pat_ok (k pw : Int) (pn : Bool) (pd : ByteArray) (pk q r y mo d : Int) (on : Bool) (od : ByteArray) (ok : Int) (sn : Bool) (sd : ByteArray) (sk er : Int) (bd : Bool) (w : World)
  (r0 : 0 ≤ r) (r1 : r < 86400) (hb : (y, mo, d) = if bd then (y, mo, d) else ((0 : Int), (0 : Int), (0 : Int)))
  (cV : ∀ W, Calls Tryz.prog 92 #[.int .i64 pw, .int .i64 86400] W fun e w' => e = .returned (.tuple #[.int .i64 q, .int .i64 r]) ∧ Below W.heap.size W w')
  (cH : ∀ W, Calls Tryz.prog 39 #[.int .i64 k] W fun e w' => e = .returned (.bool bd) ∧ W = w')
  (cE : ∀ W, Calls Tryz.prog 41 #[.int .i64 k] W fun e w' => e = .returned (.bool true) ∧ W = w')
  (cD : bd = true → ∀ W, Tabs W → HasL W (w.heap.size + 1 + 1) [.int .i64 k, .int .i64 0, .int .i64 0, .int .i64 0, .int .i64 0, .int .i64 0, .bool false, .string ⟨#[]⟩, .int .i64 0, .bool false, .int .i64 0] → Calls Tryz.prog 93 #[.pointer (some ⟨w.heap.size + 1 + 1, 0, none⟩), .int .i64 q] W fun e w' => e = .returned (.bool true) ∧ ∃ W', Below W.heap.size W W' ∧ w' = setDate W' (w.heap.size + 1 + 1) y mo d)
  (cO : ∀ W, Tabs W → Calls Tryz.prog 62 #[.int .i64 (r % 60)] W fun e w' => e = .returned (.agg #[.bool on, .string od, .int .i64 ok]) ∧ Below W.heap.size W w')
  (cA : ∀ W, Tabs W → Calls Tryz.prog 94 #[.agg #[.bool on, .string od, .int .i64 ok], .agg #[.bool pn, .string pd, .int .i64 pk]] W fun e w' => e = .returned (.tuple #[.agg #[.bool sn, .string sd, .int .i64 sk], .int .i64 0]) ∧ Below W.heap.size W w')
  (hT : Tabs w) :
  Calls Tryz.prog 52 #[.int .i64 k, .agg #[.int .i64 pw, .bool pn, .string pd, .int .i64 pk]] w fun e w' => e = .returned (.tuple #[.agg #[.int .i64 k, .int .i64 y, .int .i64 mo, .int .i64 d, .int .i64 (r / 3600), .int .i64 (r / 60 % 60), .bool sn, .string sd, .int .i64 sk, .bool false, .int .i64 0], .int .i64 0]) ∧ Below w.heap.size w w' := by
 have HB := Lib.hid hb
 clear hb
 go_enter Tryz.func52, Tryz.ntmps52
 have HX : Hid (HasL (((w.alloc (.cells #[.int .i64 pw, .bool pn, .string pd, .int .i64 pk] 69)).alloc (.cells #[.int .i64 0, .int .i64 0, .int .i64 0, .int .i64 0, .int .i64 0, .int .i64 0, .bool false, .string ⟨#[]⟩, .int .i64 0, .bool false, .int .i64 0] 25)).alloc (.cells #[.int .i64 k, .int .i64 0, .int .i64 0, .int .i64 0, .int .i64 0, .int .i64 0, .bool false, .string ⟨#[]⟩, .int .i64 0, .bool false, .int .i64 0] 25)) w.heap.size [.int .i64 pw, .bool pn, .string pd, .int .i64 pk]) := Lib.hid (((HasL.new w [.int .i64 pw, .bool pn, .string pd, .int .i64 pk] 69).alloc (.cells #[.int .i64 0, .int .i64 0, .int .i64 0, .int .i64 0, .int .i64 0, .int .i64 0, .bool false, .string ⟨#[]⟩, .int .i64 0, .bool false, .int .i64 0] 25)).alloc (.cells #[.int .i64 k, .int .i64 0, .int .i64 0, .int .i64 0, .int .i64 0, .int .i64 0, .bool false, .string ⟨#[]⟩, .int .i64 0, .bool false, .int .i64 0] 25))
 have HR : Hid (HasL (((w.alloc (.cells #[.int .i64 pw, .bool pn, .string pd, .int .i64 pk] 69)).alloc (.cells #[.int .i64 0, .int .i64 0, .int .i64 0, .int .i64 0, .int .i64 0, .int .i64 0, .bool false, .string ⟨#[]⟩, .int .i64 0, .bool false, .int .i64 0] 25)).alloc (.cells #[.int .i64 k, .int .i64 0, .int .i64 0, .int .i64 0, .int .i64 0, .int .i64 0, .bool false, .string ⟨#[]⟩, .int .i64 0, .bool false, .int .i64 0] 25)) (w.heap.size + 1) [.int .i64 0, .int .i64 0, .int .i64 0, .int .i64 0, .int .i64 0, .int .i64 0, .bool false, .string ⟨#[]⟩, .int .i64 0, .bool false, .int .i64 0]) := Lib.hid (by have hZz := ((HasL.new (w.alloc (.cells #[.int .i64 pw, .bool pn, .string pd, .int .i64 pk] 69)) [.int .i64 0, .int .i64 0, .int .i64 0, .int .i64 0, .int .i64 0, .int .i64 0, .bool false, .string ⟨#[]⟩, .int .i64 0, .bool false, .int .i64 0] 25).alloc (.cells #[.int .i64 k, .int .i64 0, .int .i64 0, .int .i64 0, .int .i64 0, .int .i64 0, .bool false, .string ⟨#[]⟩, .int .i64 0, .bool false, .int .i64 0] 25)); rw [show (w.alloc (.cells #[.int .i64 pw, .bool pn, .string pd, .int .i64 pk] 69)).heap.size = w.heap.size + 1 by simp] at hZz; exact hZz)
 have HM : Hid (HasL (((w.alloc (.cells #[.int .i64 pw, .bool pn, .string pd, .int .i64 pk] 69)).alloc (.cells #[.int .i64 0, .int .i64 0, .int .i64 0, .int .i64 0, .int .i64 0, .int .i64 0, .bool false, .string ⟨#[]⟩, .int .i64 0, .bool false, .int .i64 0] 25)).alloc (.cells #[.int .i64 k, .int .i64 0, .int .i64 0, .int .i64 0, .int .i64 0, .int .i64 0, .bool false, .string ⟨#[]⟩, .int .i64 0, .bool false, .int .i64 0] 25)) (w.heap.size + 1 + 1) [.int .i64 k, .int .i64 0, .int .i64 0, .int .i64 0, .int .i64 0, .int .i64 0, .bool false, .string ⟨#[]⟩, .int .i64 0, .bool false, .int .i64 0]) := Lib.hid (by have hZz := (HasL.new ((w.alloc (.cells #[.int .i64 pw, .bool pn, .string pd, .int .i64 pk] 69)).alloc (.cells #[.int .i64 0, .int .i64 0, .int .i64 0, .int .i64 0, .int .i64 0, .int .i64 0, .bool false, .string ⟨#[]⟩, .int .i64 0, .bool false, .int .i64 0] 25)) [.int .i64 k, .int .i64 0, .int .i64 0, .int .i64 0, .int .i64 0, .int .i64 0, .bool false, .string ⟨#[]⟩, .int .i64 0, .bool false, .int .i64 0] 25); rw [show ((w.alloc (.cells #[.int .i64 pw, .bool pn, .string pd, .int .i64 pk] 69)).alloc (.cells #[.int .i64 0, .int .i64 0, .int .i64 0, .int .i64 0, .int .i64 0, .int .i64 0, .bool false, .string ⟨#[]⟩, .int .i64 0, .bool false, .int .i64 0] 25)).heap.size = w.heap.size + 1 + 1 by simp] at hZz; exact hZz)
 have HW := Lib.hid (stepA (stepA (stepA (Below.refl w.heap.size w) (.cells #[.int .i64 pw, .bool pn, .string pd, .int .i64 pk] 69)) (.cells #[.int .i64 0, .int .i64 0, .int .i64 0, .int .i64 0, .int .i64 0, .int .i64 0, .bool false, .string ⟨#[]⟩, .int .i64 0, .bool false, .int .i64 0] 25)) (.cells #[.int .i64 k, .int .i64 0, .int .i64 0, .int .i64 0, .int .i64 0, .int .i64 0, .bool false, .string ⟨#[]⟩, .int .i64 0, .bool false, .int .i64 0] 25))
 have HT0 := Lib.hid hT
 have HT := Lib.hid (hT.next HW.out)
 clear hT
 have NE_R_X : Hid ((w.heap.size + 1) ≠ w.heap.size ∧ w.heap.size ≠ (w.heap.size + 1)) := Lib.hid (by omega)
 have NE_M_X : Hid ((w.heap.size + 1 + 1) ≠ w.heap.size ∧ w.heap.size ≠ (w.heap.size + 1 + 1)) := Lib.hid (by omega)
 have NE_M_R : Hid ((w.heap.size + 1 + 1) ≠ (w.heap.size + 1) ∧ (w.heap.size + 1) ≠ (w.heap.size + 1 + 1)) := Lib.hid (by omega)
 obtain ⟨dX_0, dX_1, dX_2, dX_3⟩ := HX.out.all4
 go_wp2_with fail
 refine (cV _).mono ?_
 rintro e w1 ⟨rfl, b1⟩
 replace HX := Lib.hid (HX.out.call b1)
 replace HR := Lib.hid (HR.out.call b1)
 replace HM := Lib.hid (HM.out.call b1)
 replace HW := Lib.hid (step HW.out b1)
 replace HT := Lib.hid (HT.out.next b1)
 clear b1 dX_0 dX_1 dX_2 dX_3
 have HT1 := HT
 go_upto_region 3 with fail
 go_cut [25] (fun s25 wx => s25 = .bool false ∧ KB w [(w.heap.size, [.int .i64 pw, .bool pn, .string pd, .int .i64 pk]), (w.heap.size + 1, [.int .i64 0, .int .i64 0, .int .i64 0, .int .i64 0, .int .i64 0, .int .i64 0, .bool false, .string ⟨#[]⟩, .int .i64 0, .bool false, .int .i64 0]), (w.heap.size + 1 + 1, [.int .i64 k, .int .i64 y, .int .i64 mo, .int .i64 d, .int .i64 0, .int .i64 0, .bool false, .string ⟨#[]⟩, .int .i64 0, .bool false, .int .i64 0])] wx)
 case first =>
  cases bd
  ·have hq := HB.out
   simp only [Bool.false_eq_true, if_false, Prod.mk.injEq] at hq
   obtain ⟨rfl, rfl, rfl⟩ := hq
   go_wp2_with fail
   refine (cH _).mono ?_
   rintro e w_ ⟨rfl, rfl⟩
   go_wp2_with fail
   go_meet
   refine ⟨rfl, fun p hp => ?_, HW.out⟩
   simp only [List.mem_cons, List.mem_nil_iff, or_false] at hp
   rcases hp with rfl | rfl | rfl
   ·exact HX.out
   ·exact HR.out
   ·exact HM.out
  ·have cD2 := cD rfl
   clear cD
   go_wp2_with fail
   refine (cH _).mono ?_
   rintro e w_ ⟨rfl, rfl⟩
   go_wp2_with fail
   refine (cD2 w1 HT.out HM.out).mono ?_
   rintro e w2 ⟨rfl, W, b2, rfl⟩
   have KX := Lib.hid (HX.out.call b2)
   have KR := Lib.hid (HR.out.call b2)
   have KM := Lib.hid (HM.out.call b2)
   have KW := Lib.hid (step HW.out b2)
   clear b2
   unfold setDate
   go_wp2_with fail
   go_meet
   refine ⟨rfl, fun p hp => ?_, setStep (setStep (setStep KW.out (show w.heap.size ≤ w.heap.size + 1 + 1 by omega) 1 _) (show w.heap.size ≤ w.heap.size + 1 + 1 by omega) 2 _) (show w.heap.size ≤ w.heap.size + 1 + 1 by omega) 3 _⟩
   simp only [List.mem_cons, List.mem_nil_iff, or_false] at hp
   rcases hp with rfl | rfl | rfl
   ·exact ((KX.out.far NE_M_X.out.1 1 _).far NE_M_X.out.1 2 _).far NE_M_X.out.1 3 _
   ·exact ((KR.out.far NE_M_R.out.1 1 _).far NE_M_R.out.1 2 _).far NE_M_R.out.1 3 _
   ·exact ((KM.out.set 1 (.int .i64 y) (by simp)).set 2 (.int .i64 mo) (by simp)).set 3 (.int .i64 d) (by simp)
 case rest =>
  obtain ⟨rfl, hK⟩ := hcut
  clear HX HR HM HW HT HT1
  have HT := Lib.hid (HT0.out.next hK.2)
  have HKB := Lib.hid hK
  clear hK
  have HR := Lib.hid (HKB.out.one 1 rfl)
  have HM := Lib.hid (HKB.out.one 2 rfl)
  have HW := Lib.hid HKB.out.2
  go_wp2_with fail
  refine (cE _).mono ?_
  rintro e w_ ⟨rfl, rfl⟩
  have q1 : r.tmod 60 = r % 60 := Int.tmod_eq_emod_of_nonneg r0
  have q2 : IntKind.i64.wrap (r % 60) = r % 60 := IntWalk.i64_in _ (by omega)
  have hr60 : 0 ≤ r % 60 := by omega
  have hr61 : r % 60 ≤ 59 := by omega
  go_wp2_with fail
  have SK : ∀ W, KB w [(w.heap.size, [.int .i64 pw, .bool pn, .string pd, .int .i64 pk]), (w.heap.size + 1, [.int .i64 0, .int .i64 0, .int .i64 0, .int .i64 0, .int .i64 0, .int .i64 0, .bool false, .string ⟨#[]⟩, .int .i64 0, .bool false, .int .i64 0]), (w.heap.size + 1 + 1, [.int .i64 k, .int .i64 y, .int .i64 mo, .int .i64 d, .int .i64 0, .int .i64 0, .bool false, .string ⟨#[]⟩, .int .i64 0, .bool false, .int .i64 0])] W → (W.cell? ⟨w.heap.size, 1, none⟩ = some (.bool pn) ∧ W.cell? ⟨w.heap.size, 2, none⟩ = some (.string pd) ∧ W.cell? ⟨w.heap.size, 3, none⟩ = some (.int .i64 pk) ∧ KB w [(w.heap.size, [.int .i64 pw, .bool pn, .string pd, .int .i64 pk]), (w.heap.size + 1, [.int .i64 0, .int .i64 0, .int .i64 0, .int .i64 0, .int .i64 0, .int .i64 0, .bool false, .string ⟨#[]⟩, .int .i64 0, .bool false, .int .i64 0]), (w.heap.size + 1 + 1, [.int .i64 k, .int .i64 y, .int .i64 mo, .int .i64 d, .int .i64 0, .int .i64 0, .bool false, .string ⟨#[]⟩, .int .i64 0, .bool false, .int .i64 0])] W) := fun W kq => ⟨(kq.one 0 rfl).cell 1 rfl, (kq.one 0 rfl).cell 2 rfl, (kq.one 0 rfl).cell 3 rfl, kq⟩
  have HSK := Lib.hid SK
  have SO : ∀ W, (W.cell? ⟨w.heap.size, 1, none⟩ = some (.bool pn) ∧ W.cell? ⟨w.heap.size, 2, none⟩ = some (.string pd) ∧ W.cell? ⟨w.heap.size, 3, none⟩ = some (.int .i64 pk) ∧ KB w [(w.heap.size, [.int .i64 pw, .bool pn, .string pd, .int .i64 pk]), (w.heap.size + 1, [.int .i64 0, .int .i64 0, .int .i64 0, .int .i64 0, .int .i64 0, .int .i64 0, .bool false, .string ⟨#[]⟩, .int .i64 0, .bool false, .int .i64 0]), (w.heap.size + 1 + 1, [.int .i64 k, .int .i64 y, .int .i64 mo, .int .i64 d, .int .i64 0, .int .i64 0, .bool false, .string ⟨#[]⟩, .int .i64 0, .bool false, .int .i64 0])] W) → Below w.heap.size w W := fun W kq => (kq.2.2.2 : KB w [(w.heap.size, [.int .i64 pw, .bool pn, .string pd, .int .i64 pk]), (w.heap.size + 1, [.int .i64 0, .int .i64 0, .int .i64 0, .int .i64 0, .int .i64 0, .int .i64 0, .bool false, .string ⟨#[]⟩, .int .i64 0, .bool false, .int .i64 0]), (w.heap.size + 1 + 1, [.int .i64 k, .int .i64 y, .int .i64 mo, .int .i64 d, .int .i64 0, .int .i64 0, .bool false, .string ⟨#[]⟩, .int .i64 0, .bool false, .int .i64 0])] W).2
  have HSO := Lib.hid SO
  clear SK SO
  go_upto_region 7 with fail
  go_cut [9, 10] (fun s3 s4 wx => ∃ g, s3 = .pointer (some ⟨g, 0, none⟩) ∧ s4 = .int .i64 0 ∧ HasL wx g [.bool sn, .string sd, .int .i64 sk] ∧ KB w [(w.heap.size, [.int .i64 pw, .bool pn, .string pd, .int .i64 pk]), (w.heap.size + 1, [.int .i64 0, .int .i64 0, .int .i64 0, .int .i64 0, .int .i64 0, .int .i64 0, .bool false, .string ⟨#[]⟩, .int .i64 0, .bool false, .int .i64 0]), (w.heap.size + 1 + 1, [.int .i64 k, .int .i64 y, .int .i64 mo, .int .i64 d, .int .i64 0, .int .i64 0, .bool false, .string ⟨#[]⟩, .int .i64 0, .bool false, .int .i64 0])] wx ∧ w.heap.size + 3 ≤ g)
  case first =>
   go_region_held3 (fun W => W.cell? ⟨w.heap.size, 1, none⟩ = some (.bool pn) ∧ W.cell? ⟨w.heap.size, 2, none⟩ = some (.string pd) ∧ W.cell? ⟨w.heap.size, 3, none⟩ = some (.int .i64 pk) ∧ KB w [(w.heap.size, [.int .i64 pw, .bool pn, .string pd, .int .i64 pk]), (w.heap.size + 1, [.int .i64 0, .int .i64 0, .int .i64 0, .int .i64 0, .int .i64 0, .int .i64 0, .bool false, .string ⟨#[]⟩, .int .i64 0, .bool false, .int .i64 0]), (w.heap.size + 1 + 1, [.int .i64 k, .int .i64 y, .int .i64 mo, .int .i64 d, .int .i64 0, .int .i64 0, .bool false, .string ⟨#[]⟩, .int .i64 0, .bool false, .int .i64 0])] W)
    (first | exact HSK.out _ (HKB.out.drew1) | exact HSK.out _ k2.out | exact HSK.out _ k1.out | exact HSK.out _ (k2.out.alloc _) | exact HSK.out _ (KB.alloc (And.right (And.right (And.right (by assumption)))) _) | exact HSK.out _ (KB.set (KB.set (KB.set (And.right (And.right (And.right (by assumption)))) (by first | omega | (have := (k1.out.one 2 rfl).lt; simp at this ⊢; omega) | (have := (HKB.out.one 2 rfl).lt; simp at this ⊢; omega) | (simp; omega) | simp) (by intro p hp; simp only [List.mem_cons, List.mem_nil_iff, or_false] at hp; rcases hp with rfl | rfl | rfl <;> simp) 0 _) (by first | omega | (have := (k1.out.one 2 rfl).lt; simp at this ⊢; omega) | (have := (HKB.out.one 2 rfl).lt; simp at this ⊢; omega) | (simp; omega) | simp) (by intro p hp; simp only [List.mem_cons, List.mem_nil_iff, or_false] at hp; rcases hp with rfl | rfl | rfl <;> simp) 1 _) (by first | omega | (have := (k1.out.one 2 rfl).lt; simp at this ⊢; omega) | (have := (HKB.out.one 2 rfl).lt; simp at this ⊢; omega) | (simp; omega) | simp) (by intro p hp; simp only [List.mem_cons, List.mem_nil_iff, or_false] at hp; rcases hp with rfl | rfl | rfl <;> simp) 2 _))
    (first
     | (go_at_call 62; refine (cO _ (HT0.out.next (HSO.out _ (by assumption)))).mono ?_; rintro e v1 ⟨rfl, u1⟩; have k1 := Lib.hid (KB.call (And.right (And.right (And.right (by assumption)))) u1); (try (have n1 : HasL v1 (wc.heap.size) [.bool false, .string ⟨#[]⟩, .int .i64 0] := (by have h := (HasL.new wc.drew [.bool false, .string ⟨#[]⟩, .int .i64 0] 23).call u1; simpa using h))))
     | (go_at_call 94; refine (cA _ (HT0.out.next (HSO.out _ (by assumption)))).mono ?_; rintro e v2 ⟨rfl, u2⟩; have k2 := Lib.hid (KB.call (And.right (And.right (And.right (by assumption)))) u2); (first | have n2 := HasL.call n1 u2 | have n2 := (HasL.new v1 [.bool false, .string ⟨#[]⟩, .int .i64 0] 23).call u2 | skip); (try (have y0 := n2.cell 0 rfl; have x0 := n2.frozen 0 rfl; have y1 := n2.cell 1 rfl; have x1 := n2.frozen 1 rfl; have y2 := n2.cell 2 rfl; have x2 := n2.frozen 2 rfl))))
   all_goals (rename_i hh; have hk := Lib.hid hh; clear hh; go_wp2_with fail; go_meet; exact ⟨_, rfl, rfl, by first | exact HasL.new v2 [.bool sn, .string sd, .int .i64 sk] 23 | exact n2.set 0 _ (by simp) |>.set 1 _ (by simp) |>.set 2 _ (by simp), by exact (hk.out).2.2.2, by first | (have := (k2.out.one 2 rfl).lt; simp at this ⊢; omega) | (have := (k1.out.one 2 rfl).lt; simp at this ⊢; omega) | (have := (HKB.out.one 2 rfl).lt; simp at this ⊢; omega) | (simp; omega) | simp⟩)
  case rest =>
   clear HR HM HW HKB HSK HSO HT q1 q2 hr60 hr61
   obtain ⟨g, rfl, rfl, hG, hK, hg⟩ := hcut
   have HX := Lib.hid (hK.one 0 rfl)
   have HR := Lib.hid (hK.one 1 rfl)
   have HM := Lib.hid (hK.one 2 rfl)
   have HG := Lib.hid hG
   have HW := Lib.hid hK.2
   have NE_G_X : Hid (g ≠ w.heap.size ∧ w.heap.size ≠ g) := Lib.hid (by omega)
   have NE_G_R : Hid (g ≠ w.heap.size + 1 ∧ w.heap.size + 1 ≠ g) := Lib.hid (by omega)
   have NE_G_M : Hid (g ≠ w.heap.size + 1 + 1 ∧ w.heap.size + 1 + 1 ≠ g) := Lib.hid (by omega)
   clear hK hG hg
   have q3 : r.tdiv 3600 = r / 3600 := Int.tdiv_eq_ediv_of_nonneg r0
   have q4 : r.tdiv 60 = r / 60 := Int.tdiv_eq_ediv_of_nonneg r0
   have q5 : (r / 60).tmod 60 = r / 60 % 60 := Int.tmod_eq_emod_of_nonneg (by omega)
   have q6 : IntKind.i64.wrap (r / 3600) = r / 3600 := IntWalk.i64_in _ (by omega)
   have q7 : IntKind.i64.wrap (r / 60) = r / 60 := IntWalk.i64_in _ (by omega)
   have q8 : IntKind.i64.wrap (r / 60 % 60) = r / 60 % 60 := IntWalk.i64_in _ (by omega)
   go_wp2_with fail
   have HKN : Hid (KN w [(w.heap.size, [.int .i64 pw, .bool pn, .string pd, .int .i64 pk]), (w.heap.size + 1, [.int .i64 0, .int .i64 0, .int .i64 0, .int .i64 0, .int .i64 0, .int .i64 0, .bool false, .string ⟨#[]⟩, .int .i64 0, .bool false, .int .i64 0]), (g, [.bool sn, .string sd, .int .i64 sk])] (w.heap.size + 1 + 1) 11 wc) := Lib.hid ⟨⟨fun p hp => by
     simp only [List.mem_cons, List.mem_nil_iff, or_false] at hp
     rcases hp with rfl | rfl | rfl
     ·exact HX.out
     ·exact HR.out
     ·exact HG.out, HW.out⟩, HM.out.n⟩
   have HLP : Hid (∀ p ∈ ([(w.heap.size, [.int .i64 pw, .bool pn, .string pd, .int .i64 pk]), (w.heap.size + 1, [.int .i64 0, .int .i64 0, .int .i64 0, .int .i64 0, .int .i64 0, .int .i64 0, .bool false, .string ⟨#[]⟩, .int .i64 0, .bool false, .int .i64 0]), (g, [.bool sn, .string sd, .int .i64 sk])] : List (Nat × List Value)), w.heap.size + 1 + 1 ≠ p.1) := Lib.hid (by
     intro p hp
     simp only [List.mem_cons, List.mem_nil_iff, or_false] at hp
     rcases hp with rfl | rfl | rfl
     ·exact NE_M_X.out.1
     ·exact NE_M_R.out.1
     ·exact NE_G_M.out.2)
   have SK : ∀ W, KN w [(w.heap.size, [.int .i64 pw, .bool pn, .string pd, .int .i64 pk]), (w.heap.size + 1, [.int .i64 0, .int .i64 0, .int .i64 0, .int .i64 0, .int .i64 0, .int .i64 0, .bool false, .string ⟨#[]⟩, .int .i64 0, .bool false, .int .i64 0]), (g, [.bool sn, .string sd, .int .i64 sk])] (w.heap.size + 1 + 1) 11 W → (W.cell? ⟨g, 0, none⟩ = some (.bool sn) ∧ W.cell? ⟨g, 1, none⟩ = some (.string sd) ∧ W.cell? ⟨g, 2, none⟩ = some (.int .i64 sk) ∧ KN w [(w.heap.size, [.int .i64 pw, .bool pn, .string pd, .int .i64 pk]), (w.heap.size + 1, [.int .i64 0, .int .i64 0, .int .i64 0, .int .i64 0, .int .i64 0, .int .i64 0, .bool false, .string ⟨#[]⟩, .int .i64 0, .bool false, .int .i64 0]), (g, [.bool sn, .string sd, .int .i64 sk])] (w.heap.size + 1 + 1) 11 W) := fun W kq => ⟨(kq.1.one 2 rfl).cell 0 rfl, (kq.1.one 2 rfl).cell 1 rfl, (kq.1.one 2 rfl).cell 2 rfl, kq⟩
   have HSK := Lib.hid SK
   clear SK
   have y4 := HM.out.cell 4 rfl
   have x4 := HM.out.frozen 4 rfl
   have y5 := HM.out.cell 5 rfl
   have x5 := HM.out.frozen 5 rfl
   have y6 := HM.out.cell 6 rfl
   have x6 := HM.out.frozen 6 rfl
   have y7 := HM.out.cell 7 rfl
   have x7 := HM.out.frozen 7 rfl
   have y8 := HM.out.cell 8 rfl
   have x8 := HM.out.frozen 8 rfl
   go_upto_region 10 with fail
   go_cut [] (fun wx => HasL wx (w.heap.size + 1) [.int .i64 0, .int .i64 0, .int .i64 0, .int .i64 0, .int .i64 0, .int .i64 0, .bool false, .string ⟨#[]⟩, .int .i64 0, .bool false, .int .i64 0] ∧ HasL wx (w.heap.size + 1 + 1) [.int .i64 k, .int .i64 y, .int .i64 mo, .int .i64 d, .int .i64 (r / 3600), .int .i64 (r / 60 % 60), .bool sn, .string sd, .int .i64 sk, .bool false, .int .i64 0] ∧ Below w.heap.size w wx)
   case first =>
    go_region_held3 (fun W => W.cell? ⟨g, 0, none⟩ = some (.bool sn) ∧ W.cell? ⟨g, 1, none⟩ = some (.string sd) ∧ W.cell? ⟨g, 2, none⟩ = some (.int .i64 sk) ∧ KN w [(w.heap.size, [.int .i64 pw, .bool pn, .string pd, .int .i64 pk]), (w.heap.size + 1, [.int .i64 0, .int .i64 0, .int .i64 0, .int .i64 0, .int .i64 0, .int .i64 0, .bool false, .string ⟨#[]⟩, .int .i64 0, .bool false, .int .i64 0]), (g, [.bool sn, .string sd, .int .i64 sk])] (w.heap.size + 1 + 1) 11 W)
     (first | exact HSK.out _ HKN.out.drew1 | with_reducible exact HSK.out _ (KN.drew1 (KN.set HKN.out HLP.out (show w.heap.size ≤ w.heap.size + 1 + 1 by omega) 4 _ (by decide))) | with_reducible exact HSK.out _ (KN.drew1 (KN.set (KN.set HKN.out HLP.out (show w.heap.size ≤ w.heap.size + 1 + 1 by omega) 4 _ (by decide)) HLP.out (show w.heap.size ≤ w.heap.size + 1 + 1 by omega) 5 _ (by decide))) | with_reducible exact HSK.out _ (KN.drew1 (KN.set (KN.set (KN.set (KN.set (KN.set HKN.out HLP.out (show w.heap.size ≤ w.heap.size + 1 + 1 by omega) 4 _ (by decide)) HLP.out (show w.heap.size ≤ w.heap.size + 1 + 1 by omega) 5 _ (by decide)) HLP.out (show w.heap.size ≤ w.heap.size + 1 + 1 by omega) 6 _ (by decide)) HLP.out (show w.heap.size ≤ w.heap.size + 1 + 1 by omega) 7 _ (by decide)) HLP.out (show w.heap.size ≤ w.heap.size + 1 + 1 by omega) 8 _ (by decide))))
     (fail)
    all_goals (
     rename_i hh
     have hk := Lib.hid hh
     clear hh
     go_wp2_with fail
     go_meet
     exact ⟨hk.out.2.2.2.1.one 1 rfl, by first | exact HasL.drew1 (((((HM.out.set 4 (.int .i64 (r / 3600)) (by simp)).set 5 (.int .i64 (r / 60 % 60)) (by simp)).set 6 (.bool sn) (by simp)).set 7 (.string sd) (by simp)).set 8 (.int .i64 sk) (by simp)), hk.out.2.2.2.1.2⟩)
   case rest =>
    clear HKN HLP HSK HX HR HM HG HW q3 q4 q5 q6 q7 q8 y4 x4 y5 x5 y6 x6 y7 x7 y8 x8
    obtain ⟨hR, hM, hW⟩ := hcut
    have HR := Lib.hid hR
    have HM := Lib.hid hM
    have HW := Lib.hid hW
    clear hR hM hW
    obtain ⟨dM_0, dM_1, dM_2, dM_3, dM_4, dM_5, dM_6, dM_7, dM_8, dM_9, dM_10⟩ := HM.out.all11
    obtain ⟨dR_0, dR_1, dR_2, dR_3, dR_4, dR_5, dR_6, dR_7, dR_8, dR_9, dR_10⟩ := HR.out.all11
    obtain ⟨zR_0, zR_1, zR_2, zR_3, zR_4, zR_5, zR_6, zR_7, zR_8, zR_9, zR_10⟩ := HR.out.free11
    go_wp2
    replace HR := Lib.hid (HR.out.set 0 (.int .i64 k) (by simp))
    replace HW := Lib.hid (setStep HW.out (Nat.le_succ _) 0 (.int .i64 k))
    replace HR := Lib.hid (HR.out.set 1 (.int .i64 y) (by simp))
    replace HW := Lib.hid (setStep HW.out (Nat.le_succ _) 1 (.int .i64 y))
    replace HR := Lib.hid (HR.out.set 2 (.int .i64 mo) (by simp))
    replace HW := Lib.hid (setStep HW.out (Nat.le_succ _) 2 (.int .i64 mo))
    replace HR := Lib.hid (HR.out.set 3 (.int .i64 d) (by simp))
    replace HW := Lib.hid (setStep HW.out (Nat.le_succ _) 3 (.int .i64 d))
    replace HR := Lib.hid (HR.out.set 4 (.int .i64 (r / 3600)) (by simp))
    replace HW := Lib.hid (setStep HW.out (Nat.le_succ _) 4 (.int .i64 (r / 3600)))
    replace HR := Lib.hid (HR.out.set 5 (.int .i64 (r / 60 % 60)) (by simp))
    replace HW := Lib.hid (setStep HW.out (Nat.le_succ _) 5 (.int .i64 (r / 60 % 60)))
    replace HR := Lib.hid (HR.out.set 6 (.bool sn) (by simp))
    replace HW := Lib.hid (setStep HW.out (Nat.le_succ _) 6 (.bool sn))
    replace HR := Lib.hid (HR.out.set 7 (.string sd) (by simp))
    replace HW := Lib.hid (setStep HW.out (Nat.le_succ _) 7 (.string sd))
    replace HR := Lib.hid (HR.out.set 8 (.int .i64 sk) (by simp))
    replace HW := Lib.hid (setStep HW.out (Nat.le_succ _) 8 (.int .i64 sk))
    replace HR := Lib.hid (HR.out.set 9 (.bool false) (by simp))
    replace HW := Lib.hid (setStep HW.out (Nat.le_succ _) 9 (.bool false))
    replace HR := Lib.hid (HR.out.set 10 (.int .i64 0) (by simp))
    replace HW := Lib.hid (setStep HW.out (Nat.le_succ _) 10 (.int .i64 0))
    obtain ⟨r0, r1, r2, r3, r4, r5, r6, r7, r8, r9, r10⟩ := HR.out.all11
    exact bodyPost_ret (v := .tuple #[.agg #[.int .i64 k, .int .i64 y, .int .i64 mo, .int .i64 d, .int .i64 (r / 3600), .int .i64 (r / 60 % 60), .bool sn, .string sd, .int .i64 sk, .bool false, .int .i64 0], .int .i64 0]) (by simp [results, Tryz.results52, go_sem, r0, r1, r2, r3, r4, r5, r6, r7, r8, r9, r10]) rfl ⟨rfl, HW.out⟩
end Go.Proofs.YtmdnijehoagamaaGreatDoor
namespace Go.Proofs.YtmdnijehoagamaaGreatDoor
open Go.RowKit
theorem p_clock (m : Mom) (h : OkF m) (w : World) (hT : Tabs w) : Calls Tryz.prog 65 #[m.v] w fun e w' => e = .returned (localS m).v ∧ Below w.heap.size w w' := by
 obtain ⟨c0, c1, c2, c3⟩ := h.clock
 have cO := fun W hW => progOk.of 0 W (by omega) (by omega) hW
 rw [zero_eq] at cO
 obtain ⟨N, hN⟩ : ∃ N : Int, N = if datedB m.k then dayNo (cntd m.y) m.mo m.d else 0 := ⟨_, rfl⟩
 have nb : -4000000 ≤ N ∧ N ≤ 4000000 := by
  rw [hN]
  split
  ·next hd => have := h.days hd; omega
  ·omega
 obtain ⟨P, hP⟩ : ∃ P : Pt, P = if timedB m.k then splitS m.sec else ⟨0, zeroD⟩ := ⟨_, rfl⟩
 have pb : -1000000000001 ≤ P.w ∧ P.w ≤ 1000000000001 := by
  rw [hP]
  split
  ·next ht => have := split_w (h.small ht).1; omega
  ·show -1000000000001 ≤ (0 : Int) ∧ (0 : Int) ≤ 1000000000001; omega
 have tb : -2000000000000 ≤ (timePt m).w ∧ (timePt m).w ≤ 2000000000000 := by
  unfold timePt
  split
  ·next ht => have := split_w (h.small ht).1; simp only; omega
  ·show -2000000000000 ≤ (0 : Int) ∧ (0 : Int) ≤ 2000000000000; omega
 refine pclock_any m.k m.y m.mo m.d m.h m.mi m.sec.neg m.sec.ds m.sec.sc m.zd m.z (datedB m.k) (timedB m.k) P.w P.f.neg P.f.ds P.f.sc N (timePt m).w (localS m).w (localS m).f.neg (localS m).f.ds (localS m).f.sc c0 c1 c2 c3 pb.1 pb.2 nb.1 nb.2 ?_ ?_ tb.1 tb.2 cO (fun W => p_hasTime m.k W) (fun W => p_hasDate m.k W) (fun ht W hW => ?_) (fun hd W hW => ?_) w hT
 ·have e : (localS m).f = (timePt m).f := by unfold localS; split <;> rfl
  rw [e]
  unfold timePt
  rw [hP]
  cases timedB m.k <;> rfl
 ·unfold localS
  rw [hN]
  cases datedB m.k <;> rfl
 ·rw [hP, if_pos ht]
  exact p_split m.sec (h.small ht).1 W hW
 ·rw [hN, if_pos hd]
  have hb := h.days hd
  have hd2 := h.date hd
  exact p_dayNumber m (by omega) (by omega) (by omega) (by omega) (by omega) (by omega) W hW
theorem local_bd {m : Mom} (h : OkF m) : -500000000000000 ≤ (localS m).w ∧ (localS m).w ≤ 500000000000000 := by
 have tb : -2000000000000 ≤ (timePt m).w ∧ (timePt m).w ≤ 2000000000000 := by
  have hc := h.clock
  unfold timePt
  split
  ·next ht => have := split_w (h.small ht).1; simp only; omega
  ·show -2000000000000 ≤ (0 : Int) ∧ (0 : Int) ≤ 2000000000000; omega
 unfold localS
 split
 ·next hd => have := h.days hd; simp only; omega
 ·omega
theorem p_point (m : Mom) (h : OkF m) (w : World) (hT : Tabs w) : Calls Tryz.prog 53 #[m.v] w fun e w' => e = .returned (atS m).v ∧ Below w.heap.size w w' := by
 have hl := local_bd h
 have hz := h.zone
 have c := ppoint_any m.k m.y m.mo m.d m.h m.mi m.sec.neg m.sec.ds m.sec.sc m.zd m.z (localS m).w (localS m).f.neg (localS m).f.ds (localS m).f.sc (by omega) (by omega) (by omega) (by omega) (fun W hW => p_clock m h W hW) w hT
 rw [show (localS m).w + -60 * m.z = (localS m).w - 60 * m.z by omega] at c
 exact c
end Go.Proofs.YtmdnijehoagamaaGreatDoor
