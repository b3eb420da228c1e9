/- NT -/
import Derived.Test.YtmdnijehoagamaaGreatDoorK26
import Derived.Test.YtmdnijehoagamaaGreatDoorK31
import Derived.Test.YtmdnijehoagamaaGreatDoorK40
set_option linter.unusedVariables false
set_option linter.unusedSimpArgs false
namespace Go.Proofs.YtmdnijehoagamaaGreatDoor
set_option maxRecDepth 100000
set_option maxHeartbeats 8000000
open Go.RowKit
theorem p_days (m : Mom) (zs : m.sec.ds.size ≤ 400) (w : World) (hT : Tabs w) : Calls Tryz.prog 15 #[m.v] w fun e w' => e = .returned (.tuple #[.int .i64 (daysS m).1, .int .i64 (daysS m).2]) ∧ Below w.heap.size w w' := by
 have cV := fun W hW => p_valid m zs W hW
 have cH := fun W => p_hasDate m.k W
 have hOK := @okF m
 unfold daysS
 cases ho : okB m with
 | false =>
  rw [ho] at cV
  simp only [Bool.false_and, Bool.false_eq_true, if_false]
  clear ho zs hOK
  unfold Mom.v at cV ⊢
  go_enter Tryz.func15, Tryz.ntmps15
  have HS := Lib.hid ((KD.nil w).push [.int .i64 m.k, .int .i64 m.y, .int .i64 m.mo, .int .i64 m.d, .int .i64 m.h, .int .i64 m.mi, .bool m.sec.neg, .string m.sec.ds, .int .i64 m.sec.sc, .bool m.zd, .int .i64 m.z] 25 (n := w.heap.size) (by simp))
  have HT := Lib.hid hT
  clear hT
  obtain ⟨d0_0, d0_1, d0_2, d0_3, d0_4, d0_5, d0_6, d0_7, d0_8, d0_9, d0_10⟩ := (HS.out.at 0 rfl).all11
  go_wp2_with fail
  refine (cV _ (HS.out.tabs HT.out)).mono ?_
  rintro e w1 ⟨rfl, b1⟩
  replace HS := Lib.hid (HS.out.call b1)
  clear d0_0 d0_1 d0_2 d0_3 d0_4 d0_5 d0_6 d0_7 d0_8 d0_9 d0_10 b1
  go_wp2
  go_ret2
  exact ⟨rfl, HS.out.old⟩
 | true =>
  rw [ho] at cV
  cases hd : datedB m.k with
  | false =>
   rw [hd] at cH
   simp only [Bool.true_and, Bool.false_eq_true, if_false]
   clear ho hd zs hOK
   unfold Mom.v at cV ⊢
   go_enter Tryz.func15, Tryz.ntmps15
   have HS := Lib.hid ((KD.nil w).push [.int .i64 m.k, .int .i64 m.y, .int .i64 m.mo, .int .i64 m.d, .int .i64 m.h, .int .i64 m.mi, .bool m.sec.neg, .string m.sec.ds, .int .i64 m.sec.sc, .bool m.zd, .int .i64 m.z] 25 (n := w.heap.size) (by simp))
   have HT := Lib.hid hT
   clear hT
   obtain ⟨d0_0, d0_1, d0_2, d0_3, d0_4, d0_5, d0_6, d0_7, d0_8, d0_9, d0_10⟩ := (HS.out.at 0 rfl).all11
   go_wp2_with fail
   refine (cV _ (HS.out.tabs HT.out)).mono ?_
   rintro e w1 ⟨rfl, b1⟩
   replace HS := Lib.hid (HS.out.call b1)
   clear d0_0 d0_1 d0_2 d0_3 d0_4 d0_5 d0_6 d0_7 d0_8 d0_9 d0_10 b1
   have d0_0 := (HS.out.at 0 rfl).cell 0 rfl
   go_wp2_with fail
   refine (cH _).mono ?_
   rintro e w_ ⟨rfl, rfl⟩
   clear d0_0
   go_wp2
   go_ret2
   exact ⟨rfl, HS.out.old⟩
  | true =>
   rw [hd] at cH
   have h := hOK ho
   have hb := h.days hd
   have hd2 := h.date hd
   simp only [Bool.true_and, if_true]
   have cD := fun W hW => p_dayNumber m (by omega) (by omega) (by omega) (by omega) (by omega) (by omega) W hW
   generalize dayNo (cntd m.y) m.mo m.d = N at *
   clear ho hd zs h hb hd2 hOK
   unfold Mom.v at cV cD ⊢
   go_enter Tryz.func15, Tryz.ntmps15
   have HS := Lib.hid ((KD.nil w).push [.int .i64 m.k, .int .i64 m.y, .int .i64 m.mo, .int .i64 m.d, .int .i64 m.h, .int .i64 m.mi, .bool m.sec.neg, .string m.sec.ds, .int .i64 m.sec.sc, .bool m.zd, .int .i64 m.z] 25 (n := w.heap.size) (by simp))
   have HT := Lib.hid hT
   clear hT
   obtain ⟨d0_0, d0_1, d0_2, d0_3, d0_4, d0_5, d0_6, d0_7, d0_8, d0_9, d0_10⟩ := (HS.out.at 0 rfl).all11
   go_wp2_with fail
   refine (cV _ (HS.out.tabs HT.out)).mono ?_
   rintro e w1 ⟨rfl, b1⟩
   replace HS := Lib.hid (HS.out.call b1)
   clear d0_0 d0_1 d0_2 d0_3 d0_4 d0_5 d0_6 d0_7 d0_8 d0_9 d0_10 b1
   have d0_0 := (HS.out.at 0 rfl).cell 0 rfl
   go_wp2_with fail
   refine (cH _).mono ?_
   rintro e w_ ⟨rfl, rfl⟩
   clear d0_0
   obtain ⟨d0_0, d0_1, d0_2, d0_3, d0_4, d0_5, d0_6, d0_7, d0_8, d0_9, d0_10⟩ := (HS.out.at 0 rfl).all11
   go_wp2_with fail
   refine (cD _ (HS.out.tabs HT.out)).mono ?_
   rintro e w2 ⟨rfl, b1⟩
   replace HS := Lib.hid (HS.out.call b1)
   clear d0_0 d0_1 d0_2 d0_3 d0_4 d0_5 d0_6 d0_7 d0_8 d0_9 d0_10 b1
   go_wp2
   go_ret2
   exact ⟨rfl, HS.out.old⟩
end Go.Proofs.YtmdnijehoagamaaGreatDoor
