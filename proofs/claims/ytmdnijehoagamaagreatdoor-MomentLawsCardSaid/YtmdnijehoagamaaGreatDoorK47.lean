/- SC -/
import Derived.Test.YtmdnijehoagamaaGreatDoorK27
import Derived.Test.YtmdnijehoagamaaGreatDoorK35
import Derived.Test.YtmdnijehoagamaaGreatDoorK42
import Derived.Test.YtmdnijehoagamaaGreatDoorK44
import Derived.Test.YtmdnijehoagamaaGreatDoorK45
import Derived.Test.YtmdnijehoagamaaGreatDoorK46
set_option linter.unusedVariables false
set_option linter.unusedSimpArgs false
namespace Go.Proofs.YtmdnijehoagamaaGreatDoor
open Go.RowKit
set_option maxRecDepth 100000
set_option maxHeartbeats 40000000
theorem l_read6 (k : Int) (s : ByteArray) (hs : s.size ≤ 390) (w : World) : Calls Tryz.prog 26 #[.int .i64 k, .string s] w fun e w' => e = .returned (readS6 k s.data.toList).m.v ∧ Below w.heap.size w w' := by
 have c := fun W => r_read6 k s hs W
 generalize readS6 k s.data.toList = r at c ⊢
 obtain ⟨⟨a0, a1, a2, a3, a4, a5, ⟨a6, a7, a8⟩, a9, a10⟩, q⟩ := r
 unfold MRes.v Mom.v at c
 unfold Mom.v
 dsimp only at c ⊢
 have HS := Lib.hid ((KD.nil w).push [.int .i64 0, .int .i64 0, .int .i64 0, .int .i64 0, .int .i64 0, .int .i64 0, .bool false, .string ⟨#[]⟩, .int .i64 0, .bool false, .int .i64 0] 25 (n := w.heap.size) rfl)
 go_enter Tryz.func26, Tryz.ntmps26
 go_wp2_with fail
 refine (c _).mono ?_
 rintro e w1 ⟨rfl, b1⟩
 replace HS := Lib.hid (HS.out.call b1)
 clear b1 c
 obtain ⟨x0, x1, x2, x3, x4, x5, x6, x7, x8, x9, x10⟩ := (HS.out.at 0 rfl).free11
 obtain ⟨y0, y1, y2, y3, y4, y5, y6, y7, y8, y9, y10⟩ := (HS.out.at 0 rfl).all11
 have hlt := (HS.out.at 0 rfl).lt
 have ne1 : w.heap.size ≠ w1.heap.size := by omega
 have ne2 : w1.heap.size ≠ w.heap.size := by omega
 go_wp2
 replace HS := Lib.hid ((HS.out.store 0 rfl [.int .i64 a0, .int .i64 a1, .int .i64 a2, .int .i64 a3, .int .i64 a4, .int .i64 a5, .bool a6, .string a7, .int .i64 a8, .bool a9, .int .i64 a10] rfl).alloc (.cells #[.int .i64 a0, .int .i64 a1, .int .i64 a2, .int .i64 a3, .int .i64 a4, .int .i64 a5, .bool a6, .string a7, .int .i64 a8, .bool a9, .int .i64 a10] 25))
 obtain ⟨r0, r1, r2, r3, r4, r5, r6, r7, r8, r9, r10⟩ := (HS.out.at 0 rfl).all11
 simp only [setL, Nat.reduceAdd] at r0 r1 r2 r3 r4 r5 r6 r7 r8 r9 r10
 refine bodyPost_ret (v := .agg #[.int .i64 a0, .int .i64 a1, .int .i64 a2, .int .i64 a3, .int .i64 a4, .int .i64 a5, .bool a6, .string a7, .int .i64 a8, .bool a9, .int .i64 a10]) ?_ rfl ⟨rfl, HS.out.old⟩
 simp [results, Tryz.results26, go_sem, r0, r1, r2, r3, r4, r5, r6, r7, r8, r9, r10]
theorem l_text6 (m : Mom) (hm : m.sec.ds.size ≤ 400) (w : World) (hT : Tabs w) : Calls Tryz.prog 28 #[m.v, .int .i64 0] w fun e w' => e = .returned (.string (textS6 m).1) ∧ Below w.heap.size w w' := by
 have c := fun W hW => p_text6 m hm W hW
 unfold Mom.v at c ⊢
 generalize (textS6 m).1 = t at c ⊢
 generalize (textS6 m).2 = q at c
 have HS := Lib.hid ((KD.nil w).push [.int .i64 m.k, .int .i64 m.y, .int .i64 m.mo, .int .i64 m.d, .int .i64 m.h, .int .i64 m.mi, .bool m.sec.neg, .string m.sec.ds, .int .i64 m.sec.sc, .bool m.zd, .int .i64 m.z] 25 (n := w.heap.size) rfl)
 have HT := Lib.hid hT
 clear hT
 go_enter Tryz.func28, Tryz.ntmps28
 obtain ⟨y0, y1, y2, y3, y4, y5, y6, y7, y8, y9, y10⟩ := (HS.out.at 0 rfl).all11
 go_wp2_with fail
 refine (c _ (HS.out.tabs HT.out)).mono ?_
 rintro e w1 ⟨rfl, b1⟩
 replace HS := Lib.hid (HS.out.call b1)
 clear b1 c y0 y1 y2 y3 y4 y5 y6 y7 y8 y9 y10
 go_wp2
 go_ret
 exact ⟨rfl, HS.out.old⟩
theorem s6_1 (w : World) (hT : Tabs w) : Calls Tryz.prog 9 #[.int .i64 1, .string ⟨#[49, 57, 48, 48, 45, 48, 50, 45, 50, 57]⟩] w fun e w' => e = .returned (.tuple #[.agg #[.int .i64 0, .int .i64 0, .int .i64 0, .int .i64 0, .int .i64 0, .int .i64 0, .bool false, .string ⟨#[]⟩, .int .i64 0, .bool false, .int .i64 0], .int .i64 6]) ∧ Below w.heap.size w w' := by
 have c := p_read6 1 ⟨#[49, 57, 48, 48, 45, 48, 50, 45, 50, 57]⟩ (by decide) w hT
 rw [show readS6 1 (⟨#[49, 57, 48, 48, 45, 48, 50, 45, 50, 57]⟩ : ByteArray).data.toList = ⟨⟨0, 0, 0, 0, 0, 0, ⟨false, ⟨#[]⟩, 0⟩, false, 0⟩, 6⟩ from (readC_eq _ _).trans (by kernel_rfl)] at c
 exact c
theorem s6_2 (w : World) : Calls Tryz.prog 26 #[.int .i64 3, .string ⟨#[50, 48, 50, 52, 45, 48, 51, 45, 48, 49, 84, 49, 50, 58, 48, 48, 58, 48, 53, 46, 53, 48, 43, 48, 49, 58, 48, 48]⟩] w fun e w' => e = .returned (.agg #[.int .i64 3, .int .i64 2024, .int .i64 3, .int .i64 1, .int .i64 12, .int .i64 0, .bool false, .string ⟨#[53, 53]⟩, .int .i64 1, .bool true, .int .i64 60]) ∧ Below w.heap.size w w' := by
 have c := l_read6 3 ⟨#[50, 48, 50, 52, 45, 48, 51, 45, 48, 49, 84, 49, 50, 58, 48, 48, 58, 48, 53, 46, 53, 48, 43, 48, 49, 58, 48, 48]⟩ (by decide) w
 rw [show readS6 3 (⟨#[50, 48, 50, 52, 45, 48, 51, 45, 48, 49, 84, 49, 50, 58, 48, 48, 58, 48, 53, 46, 53, 48, 43, 48, 49, 58, 48, 48]⟩ : ByteArray).data.toList = ⟨⟨3, 2024, 3, 1, 12, 0, ⟨false, ⟨#[53, 53]⟩, 1⟩, true, 60⟩, 0⟩ from (readC_eq _ _).trans (by kernel_rfl)] at c
 exact c
theorem s6_3 (w : World) : Calls Tryz.prog 26 #[.int .i64 1, .string ⟨#[50, 48, 48, 48, 45, 48, 49, 45, 48, 49]⟩] w fun e w' => e = .returned (.agg #[.int .i64 1, .int .i64 2000, .int .i64 1, .int .i64 1, .int .i64 0, .int .i64 0, .bool false, .string ⟨#[]⟩, .int .i64 0, .bool false, .int .i64 0]) ∧ Below w.heap.size w w' := by
 have c := l_read6 1 ⟨#[50, 48, 48, 48, 45, 48, 49, 45, 48, 49]⟩ (by decide) w
 rw [show readS6 1 (⟨#[50, 48, 48, 48, 45, 48, 49, 45, 48, 49]⟩ : ByteArray).data.toList = ⟨⟨1, 2000, 1, 1, 0, 0, ⟨false, ⟨#[]⟩, 0⟩, false, 0⟩, 0⟩ from (readC_eq _ _).trans (by kernel_rfl)] at c
 exact c
theorem s6_4 (w : World) (hT : Tabs w) : Calls Tryz.prog 15 #[.agg #[.int .i64 1, .int .i64 2000, .int .i64 1, .int .i64 1, .int .i64 0, .int .i64 0, .bool false, .string ⟨#[]⟩, .int .i64 0, .bool false, .int .i64 0]] w fun e w' => e = .returned (.tuple #[.int .i64 730119, .int .i64 0]) ∧ Below w.heap.size w w' := by
 have c := p_days ⟨1, 2000, 1, 1, 0, 0, ⟨false, ⟨#[]⟩, 0⟩, false, 0⟩ (by decide) w hT
 rw [show daysS ⟨1, 2000, 1, 1, 0, 0, ⟨false, ⟨#[]⟩, 0⟩, false, 0⟩ = (730119, 0) from (daysC_eq _).trans (by kernel_rfl)] at c
 exact c
theorem s6_5 (w : World) : Calls Tryz.prog 26 #[.int .i64 2, .string ⟨#[49, 50, 58, 48, 48, 58, 48, 48, 90]⟩] w fun e w' => e = .returned (.agg #[.int .i64 2, .int .i64 0, .int .i64 0, .int .i64 0, .int .i64 12, .int .i64 0, .bool false, .string ⟨#[48]⟩, .int .i64 0, .bool true, .int .i64 0]) ∧ Below w.heap.size w w' := by
 have c := l_read6 2 ⟨#[49, 50, 58, 48, 48, 58, 48, 48, 90]⟩ (by decide) w
 rw [show readS6 2 (⟨#[49, 50, 58, 48, 48, 58, 48, 48, 90]⟩ : ByteArray).data.toList = ⟨⟨2, 0, 0, 0, 12, 0, ⟨false, ⟨#[48]⟩, 0⟩, true, 0⟩, 0⟩ from (readC_eq _ _).trans (by kernel_rfl)] at c
 exact c
theorem s6_6 (w : World) : Calls Tryz.prog 26 #[.int .i64 2, .string ⟨#[49, 51, 58, 48, 48, 58, 48, 48, 43, 48, 50, 58, 48, 48]⟩] w fun e w' => e = .returned (.agg #[.int .i64 2, .int .i64 0, .int .i64 0, .int .i64 0, .int .i64 13, .int .i64 0, .bool false, .string ⟨#[48]⟩, .int .i64 0, .bool true, .int .i64 120]) ∧ Below w.heap.size w w' := by
 have c := l_read6 2 ⟨#[49, 51, 58, 48, 48, 58, 48, 48, 43, 48, 50, 58, 48, 48]⟩ (by decide) w
 rw [show readS6 2 (⟨#[49, 51, 58, 48, 48, 58, 48, 48, 43, 48, 50, 58, 48, 48]⟩ : ByteArray).data.toList = ⟨⟨2, 0, 0, 0, 13, 0, ⟨false, ⟨#[48]⟩, 0⟩, true, 120⟩, 0⟩ from (readC_eq _ _).trans (by kernel_rfl)] at c
 exact c
theorem s6_7 (w : World) (hT : Tabs w) : Calls Tryz.prog 19 #[.agg #[.int .i64 2, .int .i64 0, .int .i64 0, .int .i64 0, .int .i64 12, .int .i64 0, .bool false, .string ⟨#[48]⟩, .int .i64 0, .bool true, .int .i64 0], .agg #[.int .i64 2, .int .i64 0, .int .i64 0, .int .i64 0, .int .i64 13, .int .i64 0, .bool false, .string ⟨#[48]⟩, .int .i64 0, .bool true, .int .i64 120]] w fun e w' => e = .returned (.tuple #[.int .i64 1, .bool true, .int .i64 0]) ∧ Below w.heap.size w w' := by
 have c := p_cmp6 ⟨2, 0, 0, 0, 12, 0, ⟨false, ⟨#[48]⟩, 0⟩, true, 0⟩ ⟨2, 0, 0, 0, 13, 0, ⟨false, ⟨#[48]⟩, 0⟩, true, 120⟩ (by decide) (by decide) w hT
 rw [show cmpS6 ⟨2, 0, 0, 0, 12, 0, ⟨false, ⟨#[48]⟩, 0⟩, true, 0⟩ ⟨2, 0, 0, 0, 13, 0, ⟨false, ⟨#[48]⟩, 0⟩, true, 120⟩ = (1, true, 0) from (cmpC6_eq _ _).trans (by kernel_rfl)] at c
 exact c
theorem s6_8 (w : World) : Calls Tryz.prog 26 #[.int .i64 2, .string ⟨#[49, 50, 58, 48, 48, 58, 48, 48]⟩] w fun e w' => e = .returned (.agg #[.int .i64 2, .int .i64 0, .int .i64 0, .int .i64 0, .int .i64 12, .int .i64 0, .bool false, .string ⟨#[48]⟩, .int .i64 0, .bool false, .int .i64 0]) ∧ Below w.heap.size w w' := by
 have c := l_read6 2 ⟨#[49, 50, 58, 48, 48, 58, 48, 48]⟩ (by decide) w
 rw [show readS6 2 (⟨#[49, 50, 58, 48, 48, 58, 48, 48]⟩ : ByteArray).data.toList = ⟨⟨2, 0, 0, 0, 12, 0, ⟨false, ⟨#[48]⟩, 0⟩, false, 0⟩, 0⟩ from (readC_eq _ _).trans (by kernel_rfl)] at c
 exact c
theorem s6_9 (w : World) (hT : Tabs w) : Calls Tryz.prog 19 #[.agg #[.int .i64 2, .int .i64 0, .int .i64 0, .int .i64 0, .int .i64 12, .int .i64 0, .bool false, .string ⟨#[48]⟩, .int .i64 0, .bool true, .int .i64 0], .agg #[.int .i64 2, .int .i64 0, .int .i64 0, .int .i64 0, .int .i64 12, .int .i64 0, .bool false, .string ⟨#[48]⟩, .int .i64 0, .bool false, .int .i64 0]] w fun e w' => e = .returned (.tuple #[.int .i64 0, .bool false, .int .i64 0]) ∧ Below w.heap.size w w' := by
 have c := p_cmp6 ⟨2, 0, 0, 0, 12, 0, ⟨false, ⟨#[48]⟩, 0⟩, true, 0⟩ ⟨2, 0, 0, 0, 12, 0, ⟨false, ⟨#[48]⟩, 0⟩, false, 0⟩ (by decide) (by decide) w hT
 rw [show cmpS6 ⟨2, 0, 0, 0, 12, 0, ⟨false, ⟨#[48]⟩, 0⟩, true, 0⟩ ⟨2, 0, 0, 0, 12, 0, ⟨false, ⟨#[48]⟩, 0⟩, false, 0⟩ = (0, false, 0) from (cmpC6_eq _ _).trans (by kernel_rfl)] at c
 exact c
theorem s6_10 (w : World) : Calls Tryz.prog 27 #[.string ⟨#[48, 46, 53]⟩] w fun e w' => e = .returned (.tuple #[.agg #[.bool false, .string ⟨#[53]⟩, .int .i64 1], .int .i64 0]) ∧ Below w.heap.size w w' := by
 have c := r_read ⟨#[48, 46, 53]⟩ (by decide) w
 rw [show readS ⟨#[48, 46, 53]⟩ = ⟨⟨false, ⟨#[53]⟩, 1⟩, 0⟩ by kernel_rfl] at c
 exact c
theorem s6_11 (w : World) (hT : Tabs w) : Calls Tryz.prog 9 #[.int .i64 1, .string ⟨#[45, 48, 48, 48, 49, 45, 48, 50, 45, 50, 57]⟩] w fun e w' => e = .returned (.tuple #[.agg #[.int .i64 1, .int .i64 (-1), .int .i64 2, .int .i64 29, .int .i64 0, .int .i64 0, .bool false, .string ⟨#[]⟩, .int .i64 0, .bool false, .int .i64 0], .int .i64 0]) ∧ Below w.heap.size w w' := by
 have c := p_read6 1 ⟨#[45, 48, 48, 48, 49, 45, 48, 50, 45, 50, 57]⟩ (by decide) w hT
 rw [show readS6 1 (⟨#[45, 48, 48, 48, 49, 45, 48, 50, 45, 50, 57]⟩ : ByteArray).data.toList = ⟨⟨1, -1, 2, 29, 0, 0, ⟨false, ⟨#[]⟩, 0⟩, false, 0⟩, 0⟩ from (readC_eq _ _).trans (by kernel_rfl)] at c
 exact c
theorem s6_12 (w : World) (hT : Tabs w) : Calls Tryz.prog 28 #[.agg #[.int .i64 1, .int .i64 (-1), .int .i64 2, .int .i64 29, .int .i64 0, .int .i64 0, .bool false, .string ⟨#[]⟩, .int .i64 0, .bool false, .int .i64 0], .int .i64 0] w fun e w' => e = .returned (.string ⟨#[45, 48, 48, 48, 49, 45, 48, 50, 45, 50, 57]⟩) ∧ Below w.heap.size w w' := by
 have c := l_text6 ⟨1, -1, 2, 29, 0, 0, ⟨false, ⟨#[]⟩, 0⟩, false, 0⟩ (by decide) w hT
 rw [show textS6 ⟨1, -1, 2, 29, 0, 0, ⟨false, ⟨#[]⟩, 0⟩, false, 0⟩ = (⟨#[45, 48, 48, 48, 49, 45, 48, 50, 45, 50, 57]⟩, 0) from (textC_eq _).trans (by kernel_rfl)] at c
 exact c
theorem s6_13 (w : World) (hT : Tabs w) : Calls Tryz.prog 28 #[.agg #[.int .i64 3, .int .i64 2024, .int .i64 3, .int .i64 1, .int .i64 12, .int .i64 0, .bool false, .string ⟨#[53, 53]⟩, .int .i64 1, .bool true, .int .i64 60], .int .i64 0] w fun e w' => e = .returned (.string ⟨#[50, 48, 50, 52, 45, 48, 51, 45, 48, 49, 84, 49, 50, 58, 48, 48, 58, 48, 53, 46, 53, 43, 48, 49, 58, 48, 48]⟩) ∧ Below w.heap.size w w' := by
 have c := l_text6 ⟨3, 2024, 3, 1, 12, 0, ⟨false, ⟨#[53, 53]⟩, 1⟩, true, 60⟩ (by decide) w hT
 rw [show textS6 ⟨3, 2024, 3, 1, 12, 0, ⟨false, ⟨#[53, 53]⟩, 1⟩, true, 60⟩ = (⟨#[50, 48, 50, 52, 45, 48, 51, 45, 48, 49, 84, 49, 50, 58, 48, 48, 58, 48, 53, 46, 53, 43, 48, 49, 58, 48, 48]⟩, 0) from (textC_eq _).trans (by kernel_rfl)] at c
 exact c
theorem s6_14 (w : World) (hT : Tabs w) : Calls Tryz.prog 17 #[.agg #[.int .i64 3, .int .i64 2024, .int .i64 3, .int .i64 1, .int .i64 12, .int .i64 0, .bool false, .string ⟨#[53, 53]⟩, .int .i64 1, .bool true, .int .i64 60]] w fun e w' => e = .returned (.tuple #[.agg #[.int .i64 3, .int .i64 2024, .int .i64 3, .int .i64 1, .int .i64 11, .int .i64 0, .bool false, .string ⟨#[53, 53]⟩, .int .i64 1, .bool true, .int .i64 0], .int .i64 0]) ∧ Below w.heap.size w w' := by
 have c := p_norm ⟨3, 2024, 3, 1, 12, 0, ⟨false, ⟨#[53, 53]⟩, 1⟩, true, 60⟩ (by decide) w hT
 rw [show normS ⟨3, 2024, 3, 1, 12, 0, ⟨false, ⟨#[53, 53]⟩, 1⟩, true, 60⟩ = ⟨⟨3, 2024, 3, 1, 11, 0, ⟨false, ⟨#[53, 53]⟩, 1⟩, true, 0⟩, 0⟩ from (normC_eq (2024, 3, 1) _ (by kernel_rfl)).trans (by kernel_rfl)] at c
 exact c
theorem s6_15 (w : World) (hT : Tabs w) : Calls Tryz.prog 28 #[.agg #[.int .i64 3, .int .i64 2024, .int .i64 3, .int .i64 1, .int .i64 11, .int .i64 0, .bool false, .string ⟨#[53, 53]⟩, .int .i64 1, .bool true, .int .i64 0], .int .i64 0] w fun e w' => e = .returned (.string ⟨#[50, 48, 50, 52, 45, 48, 51, 45, 48, 49, 84, 49, 49, 58, 48, 48, 58, 48, 53, 46, 53, 90]⟩) ∧ Below w.heap.size w w' := by
 have c := l_text6 ⟨3, 2024, 3, 1, 11, 0, ⟨false, ⟨#[53, 53]⟩, 1⟩, true, 0⟩ (by decide) w hT
 rw [show textS6 ⟨3, 2024, 3, 1, 11, 0, ⟨false, ⟨#[53, 53]⟩, 1⟩, true, 0⟩ = (⟨#[50, 48, 50, 52, 45, 48, 51, 45, 48, 49, 84, 49, 49, 58, 48, 48, 58, 48, 53, 46, 53, 90]⟩, 0) from (textC_eq _).trans (by kernel_rfl)] at c
 exact c
theorem s6_16 (w : World) : Calls Tryz.prog 26 #[.int .i64 2, .string ⟨#[48, 48, 58, 51, 48, 58, 48, 48, 43, 48, 49, 58, 48, 48]⟩] w fun e w' => e = .returned (.agg #[.int .i64 2, .int .i64 0, .int .i64 0, .int .i64 0, .int .i64 0, .int .i64 30, .bool false, .string ⟨#[48]⟩, .int .i64 0, .bool true, .int .i64 60]) ∧ Below w.heap.size w w' := by
 have c := l_read6 2 ⟨#[48, 48, 58, 51, 48, 58, 48, 48, 43, 48, 49, 58, 48, 48]⟩ (by decide) w
 rw [show readS6 2 (⟨#[48, 48, 58, 51, 48, 58, 48, 48, 43, 48, 49, 58, 48, 48]⟩ : ByteArray).data.toList = ⟨⟨2, 0, 0, 0, 0, 30, ⟨false, ⟨#[48]⟩, 0⟩, true, 60⟩, 0⟩ from (readC_eq _ _).trans (by kernel_rfl)] at c
 exact c
theorem s6_17 (w : World) (hT : Tabs w) : Calls Tryz.prog 17 #[.agg #[.int .i64 2, .int .i64 0, .int .i64 0, .int .i64 0, .int .i64 0, .int .i64 30, .bool false, .string ⟨#[48]⟩, .int .i64 0, .bool true, .int .i64 60]] w fun e w' => e = .returned (.tuple #[.agg #[.int .i64 2, .int .i64 0, .int .i64 0, .int .i64 0, .int .i64 23, .int .i64 30, .bool false, .string ⟨#[48]⟩, .int .i64 0, .bool true, .int .i64 0], .int .i64 0]) ∧ Below w.heap.size w w' := by
 have c := p_norm ⟨2, 0, 0, 0, 0, 30, ⟨false, ⟨#[48]⟩, 0⟩, true, 60⟩ (by decide) w hT
 rw [show normS ⟨2, 0, 0, 0, 0, 30, ⟨false, ⟨#[48]⟩, 0⟩, true, 60⟩ = ⟨⟨2, 0, 0, 0, 23, 30, ⟨false, ⟨#[48]⟩, 0⟩, true, 0⟩, 0⟩ from (normC_eq (0, 0, 0) _ (by kernel_rfl)).trans (by kernel_rfl)] at c
 exact c
theorem s6_18 (w : World) (hT : Tabs w) : Calls Tryz.prog 28 #[.agg #[.int .i64 2, .int .i64 0, .int .i64 0, .int .i64 0, .int .i64 23, .int .i64 30, .bool false, .string ⟨#[48]⟩, .int .i64 0, .bool true, .int .i64 0], .int .i64 0] w fun e w' => e = .returned (.string ⟨#[50, 51, 58, 51, 48, 58, 48, 48, 90]⟩) ∧ Below w.heap.size w w' := by
 have c := l_text6 ⟨2, 0, 0, 0, 23, 30, ⟨false, ⟨#[48]⟩, 0⟩, true, 0⟩ (by decide) w hT
 rw [show textS6 ⟨2, 0, 0, 0, 23, 30, ⟨false, ⟨#[48]⟩, 0⟩, true, 0⟩ = (⟨#[50, 51, 58, 51, 48, 58, 48, 48, 90]⟩, 0) from (textC_eq _).trans (by kernel_rfl)] at c
 exact c
theorem s6_19 (w : World) : Calls Tryz.prog 26 #[.int .i64 1, .string ⟨#[50, 48, 50, 52, 45, 48, 49, 45, 51, 49]⟩] w fun e w' => e = .returned (.agg #[.int .i64 1, .int .i64 2024, .int .i64 1, .int .i64 31, .int .i64 0, .int .i64 0, .bool false, .string ⟨#[]⟩, .int .i64 0, .bool false, .int .i64 0]) ∧ Below w.heap.size w w' := by
 have c := l_read6 1 ⟨#[50, 48, 50, 52, 45, 48, 49, 45, 51, 49]⟩ (by decide) w
 rw [show readS6 1 (⟨#[50, 48, 50, 52, 45, 48, 49, 45, 51, 49]⟩ : ByteArray).data.toList = ⟨⟨1, 2024, 1, 31, 0, 0, ⟨false, ⟨#[]⟩, 0⟩, false, 0⟩, 0⟩ from (readC_eq _ _).trans (by kernel_rfl)] at c
 exact c
theorem s6_20 (w : World) (hT : Tabs w) : Calls Tryz.prog 23 #[.agg #[.int .i64 1, .int .i64 2024, .int .i64 1, .int .i64 31, .int .i64 0, .int .i64 0, .bool false, .string ⟨#[]⟩, .int .i64 0, .bool false, .int .i64 0], .int .i64 1, .agg #[.bool false, .string ⟨#[48]⟩, .int .i64 0]] w fun e w' => e = .returned (.tuple #[.agg #[.int .i64 1, .int .i64 2024, .int .i64 2, .int .i64 29, .int .i64 0, .int .i64 0, .bool false, .string ⟨#[]⟩, .int .i64 0, .bool false, .int .i64 0], .int .i64 0]) ∧ Below w.heap.size w w' := by
 have c := p_add6 ⟨1, 2024, 1, 31, 0, 0, ⟨false, ⟨#[]⟩, 0⟩, false, 0⟩ 1 ⟨false, ⟨#[48]⟩, 0⟩ (by decide) (by decide) w hT
 rw [show addS6 ⟨1, 2024, 1, 31, 0, 0, ⟨false, ⟨#[]⟩, 0⟩, false, 0⟩ 1 ⟨false, ⟨#[48]⟩, 0⟩ = ⟨⟨1, 2024, 2, 29, 0, 0, ⟨false, ⟨#[]⟩, 0⟩, false, 0⟩, 0⟩ from (addC6_eq (2024, 2, 29) _ _ _ (by kernel_rfl)).trans (by kernel_rfl)] at c
 exact c
theorem s6_21 (w : World) (hT : Tabs w) : Calls Tryz.prog 28 #[.agg #[.int .i64 1, .int .i64 2024, .int .i64 2, .int .i64 29, .int .i64 0, .int .i64 0, .bool false, .string ⟨#[]⟩, .int .i64 0, .bool false, .int .i64 0], .int .i64 0] w fun e w' => e = .returned (.string ⟨#[50, 48, 50, 52, 45, 48, 50, 45, 50, 57]⟩) ∧ Below w.heap.size w w' := by
 have c := l_text6 ⟨1, 2024, 2, 29, 0, 0, ⟨false, ⟨#[]⟩, 0⟩, false, 0⟩ (by decide) w hT
 rw [show textS6 ⟨1, 2024, 2, 29, 0, 0, ⟨false, ⟨#[]⟩, 0⟩, false, 0⟩ = (⟨#[50, 48, 50, 52, 45, 48, 50, 45, 50, 57]⟩, 0) from (textC_eq _).trans (by kernel_rfl)] at c
 exact c
theorem s6_22 (w : World) : Calls Tryz.prog 26 #[.int .i64 2, .string ⟨#[50, 51, 58, 53, 57, 58, 53, 57, 46, 55, 53]⟩] w fun e w' => e = .returned (.agg #[.int .i64 2, .int .i64 0, .int .i64 0, .int .i64 0, .int .i64 23, .int .i64 59, .bool false, .string ⟨#[53, 57, 55, 53]⟩, .int .i64 2, .bool false, .int .i64 0]) ∧ Below w.heap.size w w' := by
 have c := l_read6 2 ⟨#[50, 51, 58, 53, 57, 58, 53, 57, 46, 55, 53]⟩ (by decide) w
 rw [show readS6 2 (⟨#[50, 51, 58, 53, 57, 58, 53, 57, 46, 55, 53]⟩ : ByteArray).data.toList = ⟨⟨2, 0, 0, 0, 23, 59, ⟨false, ⟨#[53, 57, 55, 53]⟩, 2⟩, false, 0⟩, 0⟩ from (readC_eq _ _).trans (by kernel_rfl)] at c
 exact c
theorem s6_23 (w : World) (hT : Tabs w) : Calls Tryz.prog 23 #[.agg #[.int .i64 2, .int .i64 0, .int .i64 0, .int .i64 0, .int .i64 23, .int .i64 59, .bool false, .string ⟨#[53, 57, 55, 53]⟩, .int .i64 2, .bool false, .int .i64 0], .int .i64 0, .agg #[.bool false, .string ⟨#[53]⟩, .int .i64 1]] w fun e w' => e = .returned (.tuple #[.agg #[.int .i64 2, .int .i64 0, .int .i64 0, .int .i64 0, .int .i64 0, .int .i64 0, .bool false, .string ⟨#[50, 53]⟩, .int .i64 2, .bool false, .int .i64 0], .int .i64 0]) ∧ Below w.heap.size w w' := by
 have c := p_add6 ⟨2, 0, 0, 0, 23, 59, ⟨false, ⟨#[53, 57, 55, 53]⟩, 2⟩, false, 0⟩ 0 ⟨false, ⟨#[53]⟩, 1⟩ (by decide) (by decide) w hT
 rw [show addS6 ⟨2, 0, 0, 0, 23, 59, ⟨false, ⟨#[53, 57, 55, 53]⟩, 2⟩, false, 0⟩ 0 ⟨false, ⟨#[53]⟩, 1⟩ = ⟨⟨2, 0, 0, 0, 0, 0, ⟨false, ⟨#[50, 53]⟩, 2⟩, false, 0⟩, 0⟩ from (addC6_eq (0, 0, 0) _ _ _ (by kernel_rfl)).trans (by kernel_rfl)] at c
 exact c
theorem s6_24 (w : World) (hT : Tabs w) : Calls Tryz.prog 28 #[.agg #[.int .i64 2, .int .i64 0, .int .i64 0, .int .i64 0, .int .i64 0, .int .i64 0, .bool false, .string ⟨#[50, 53]⟩, .int .i64 2, .bool false, .int .i64 0], .int .i64 0] w fun e w' => e = .returned (.string ⟨#[48, 48, 58, 48, 48, 58, 48, 48, 46, 50, 53]⟩) ∧ Below w.heap.size w w' := by
 have c := l_text6 ⟨2, 0, 0, 0, 0, 0, ⟨false, ⟨#[50, 53]⟩, 2⟩, false, 0⟩ (by decide) w hT
 rw [show textS6 ⟨2, 0, 0, 0, 0, 0, ⟨false, ⟨#[50, 53]⟩, 2⟩, false, 0⟩ = (⟨#[48, 48, 58, 48, 48, 58, 48, 48, 46, 50, 53]⟩, 0) from (textC_eq _).trans (by kernel_rfl)] at c
 exact c
theorem shown6 (w : World) (hT : Tabs w) : Calls Tryz.prog 8 #[] w fun e w' => e = .returned (.bool true) ∧ Below w.heap.size w w' := by
 have HT := Lib.hid hT
 have HS := Lib.hid (KD.nil w)
 clear hT
 go_enter Tryz.func8, Tryz.ntmps8
 go_wp2_with fail
 refine (s6_1 _ (HS.out.tabs HT.out)).mono ?_
 rintro e w1 ⟨rfl, b1⟩
 replace HS := Lib.hid (HS.out.call b1)
 clear b1
 replace HS := Lib.hid (HS.out.alloc (.cells #[.int .i64 0, .int .i64 0, .int .i64 0, .int .i64 0, .int .i64 0, .int .i64 0, .bool false, .string ⟨#[]⟩, .int .i64 0, .bool false, .int .i64 0] 25))
 go_wp2_with fail
 refine (s6_2 _).mono ?_
 rintro e w2 ⟨rfl, b1⟩
 replace HS := Lib.hid (HS.out.call b1)
 clear b1
 replace HS := Lib.hid (HS.out.push [.int .i64 3, .int .i64 2024, .int .i64 3, .int .i64 1, .int .i64 12, .int .i64 0, .bool false, .string ⟨#[53, 53]⟩, .int .i64 1, .bool true, .int .i64 60] 25 rfl)
 go_wp2_with fail
 refine (s6_3 _).mono ?_
 rintro e w3 ⟨rfl, b1⟩
 replace HS := Lib.hid (HS.out.call b1)
 clear b1
 go_wp2_with fail
 refine (s6_4 _ (HS.out.tabs HT.out)).mono ?_
 rintro e w4 ⟨rfl, b1⟩
 replace HS := Lib.hid (HS.out.call b1)
 clear b1
 go_wp2_with fail
 refine (s6_5 _).mono ?_
 rintro e w5 ⟨rfl, b1⟩
 replace HS := Lib.hid (HS.out.call b1)
 clear b1
 go_wp2_with fail
 refine (s6_6 _).mono ?_
 rintro e w6 ⟨rfl, b1⟩
 replace HS := Lib.hid (HS.out.call b1)
 clear b1
 go_wp2_with fail
 refine (s6_7 _ (HS.out.tabs HT.out)).mono ?_
 rintro e w7 ⟨rfl, b1⟩
 replace HS := Lib.hid (HS.out.call b1)
 clear b1
 go_wp2_with fail
 refine (s6_5 _).mono ?_
 rintro e w8 ⟨rfl, b1⟩
 replace HS := Lib.hid (HS.out.call b1)
 clear b1
 go_wp2_with fail
 refine (s6_8 _).mono ?_
 rintro e w9 ⟨rfl, b1⟩
 replace HS := Lib.hid (HS.out.call b1)
 clear b1
 go_wp2_with fail
 refine (s6_9 _ (HS.out.tabs HT.out)).mono ?_
 rintro e w10 ⟨rfl, b1⟩
 replace HS := Lib.hid (HS.out.call b1)
 clear b1
 go_wp2_with fail
 refine (s6_10 _).mono ?_
 rintro e w11 ⟨rfl, b1⟩
 replace HS := Lib.hid (HS.out.call b1)
 clear b1
 replace HS := Lib.hid (HS.out.push [.bool false, .string ⟨#[53]⟩, .int .i64 1] 23 rfl)
 obtain ⟨wz, hwz⟩ : ∃ W, (w11.alloc (.cells #[.bool false, .string ⟨#[53]⟩, .int .i64 1] 23)) = W := ⟨_, rfl⟩
 go_upto_region 7 with fail
 rw [hwz] at HS
 clear hwz
 simp only [List.append_eq, List.cons_append, List.nil_append]
 refine wp_region_held_drew (S := KD w _) (by kernel_rfl) HS.out.drew1 (fun hHeld => ?_)
 clear HS
 generalize World.drew wz = x at *
 refine wpAnyH_ready (rs := [0]) (by kernel_rfl) (by simp) ?_
 refine AllReadyH.cons rfl (fun K hK => ?_) AllReadyH.nil
 go_simp
 refine (s6_11 _ (hHeld.tabs HT.out)).mono ?_
 rintro e y ⟨rfl, un⟩
 replace hHeld := hHeld.call un
 clear un
 refine hK.out _ _ hHeld (fun hX => ?_)
 clear hK K hX
 (try simp only [fl])
 (try clear x)
 rename World => x
 refine tk (v := ?_) 1 hHeld ?_ ?_
 rotate_left
 focus (intro w hSw; clear hSw; go_simp; (try with_reducible rfl))
 (try simp only [fl])
 refine tk (v := ?_) 2 hHeld ?_ ?_
 rotate_left
 focus (intro w hSw; clear hSw; go_simp; (try with_reducible rfl))
 (try simp only [fl])
 refine wpAnyH_ready (rs := [3]) (by kernel_rfl) (by simp) ?_
 refine AllReadyH.cons rfl (fun K hK => ?_) AllReadyH.nil
 go_simp
 refine (s6_12 _ (hHeld.tabs HT.out)).mono ?_
 rintro e y ⟨rfl, un⟩
 replace hHeld := hHeld.call un
 clear un
 refine hK.out _ _ hHeld (fun hX => ?_)
 clear hK K hX
 (try simp only [fl])
 (try clear x)
 rename World => x
 refine tk (v := ?_) 4 hHeld ?_ ?_
 rotate_left
 focus (intro w hSw; clear hSw; go_simp; (try with_reducible rfl))
 (try simp only [fl])
 refine tk (v := ?_) 5 hHeld ?_ ?_
 rotate_left
 focus (intro w hSw; clear hSw; go_simp; (try with_reducible rfl))
 (try simp only [fl])
 refine tk (v := ?_) 6 hHeld ?_ ?_
 rotate_left
 focus (intro w hSw; clear hSw; go_simp; (try with_reducible rfl))
 (try simp only [fl])
 refine tk (v := ?_) 7 hHeld ?_ ?_
 rotate_left
 focus (intro w hSw; clear hSw; go_simp; (try with_reducible rfl))
 (try simp only [fl])
 refine tk (v := ?_) 8 hHeld ?_ ?_
 rotate_left
 focus (intro w hSw; clear hSw; go_simp; (try with_reducible rfl))
 (try simp only [fl])
 refine tk (v := ?_) 9 hHeld ?_ ?_
 rotate_left
 focus (intro w hSw; clear hSw; go_simp; (try with_reducible rfl))
 (try simp only [fl])
 refine tk (v := ?_) 10 hHeld ?_ ?_
 rotate_left
 focus (intro w hSw; obtain ⟨c0, c1, c2, c3, c4, c5, c6, c7, c8, c9, c10⟩ := (hSw.at 0 rfl).all11; clear hSw; go_simp; (try with_reducible rfl))
 (try simp only [fl])
 refine wpAnyH_ready (rs := [11]) (by kernel_rfl) (by simp) ?_
 refine AllReadyH.cons rfl (fun K hK => ?_) AllReadyH.nil
 go_simp
 refine (s6_13 _ (hHeld.tabs HT.out)).mono ?_
 rintro e y ⟨rfl, un⟩
 replace hHeld := hHeld.call un
 clear un
 refine hK.out _ _ hHeld (fun hX => ?_)
 clear hK K hX
 (try simp only [fl])
 (try clear x)
 rename World => x
 refine tk (v := ?_) 12 hHeld ?_ ?_
 rotate_left
 focus (intro w hSw; clear hSw; go_simp; (try with_reducible rfl))
 (try simp only [fl])
 refine tk (v := ?_) 13 hHeld ?_ ?_
 rotate_left
 focus (intro w hSw; clear hSw; go_simp; (try with_reducible rfl))
 (try simp only [fl])
 refine tk (v := ?_) 14 hHeld ?_ ?_
 rotate_left
 focus (intro w hSw; clear hSw; go_simp; (try with_reducible rfl))
 (try simp only [fl])
 refine tk (v := ?_) 15 hHeld ?_ ?_
 rotate_left
 focus (intro w hSw; obtain ⟨c0, c1, c2, c3, c4, c5, c6, c7, c8, c9, c10⟩ := (hSw.at 0 rfl).all11; clear hSw; go_simp; (try with_reducible rfl))
 (try simp only [fl])
 refine wpAnyH_ready (rs := [16]) (by kernel_rfl) (by simp) ?_
 refine AllReadyH.cons rfl (fun K hK => ?_) AllReadyH.nil
 go_simp
 refine (s6_14 _ (hHeld.tabs HT.out)).mono ?_
 rintro e y ⟨rfl, un⟩
 replace hHeld := hHeld.call un
 clear un
 refine hK.out _ _ hHeld (fun hX => ?_)
 clear hK K hX
 (try simp only [fl])
 (try clear x)
 rename World => x
 refine tk (v := ?_) 17 hHeld ?_ ?_
 rotate_left
 focus (intro w hSw; clear hSw; go_simp; (try with_reducible rfl))
 (try simp only [fl])
 refine tk (v := ?_) 18 hHeld ?_ ?_
 rotate_left
 focus (intro w hSw; clear hSw; go_simp; (try with_reducible rfl))
 (try simp only [fl])
 refine wpAnyH_ready (rs := [19]) (by kernel_rfl) (by simp) ?_
 refine AllReadyH.cons rfl (fun K hK => ?_) AllReadyH.nil
 go_simp
 refine (s6_15 _ (hHeld.tabs HT.out)).mono ?_
 rintro e y ⟨rfl, un⟩
 replace hHeld := hHeld.call un
 clear un
 refine hK.out _ _ hHeld (fun hX => ?_)
 clear hK K hX
 (try simp only [fl])
 (try clear x)
 rename World => x
 refine tk (v := ?_) 20 hHeld ?_ ?_
 rotate_left
 focus (intro w hSw; clear hSw; go_simp; (try with_reducible rfl))
 (try simp only [fl])
 refine tk (v := ?_) 21 hHeld ?_ ?_
 rotate_left
 focus (intro w hSw; clear hSw; go_simp; (try with_reducible rfl))
 (try simp only [fl])
 refine tk (v := ?_) 22 hHeld ?_ ?_
 rotate_left
 focus (intro w hSw; clear hSw; go_simp; (try with_reducible rfl))
 (try simp only [fl])
 refine wpAnyH_ready (rs := [23]) (by kernel_rfl) (by simp) ?_
 refine AllReadyH.cons rfl (fun K hK => ?_) AllReadyH.nil
 go_simp
 refine (s6_16 _).mono ?_
 rintro e y ⟨rfl, un⟩
 replace hHeld := hHeld.call un
 clear un
 refine hK.out _ _ hHeld (fun hX => ?_)
 clear hK K hX
 (try simp only [fl])
 (try clear x)
 rename World => x
 refine wpAnyH_ready (rs := [24]) (by kernel_rfl) (by simp) ?_
 refine AllReadyH.cons rfl (fun K hK => ?_) AllReadyH.nil
 go_simp
 refine (s6_17 _ (hHeld.tabs HT.out)).mono ?_
 rintro e y ⟨rfl, un⟩
 replace hHeld := hHeld.call un
 clear un
 refine hK.out _ _ hHeld (fun hX => ?_)
 clear hK K hX
 (try simp only [fl])
 (try clear x)
 rename World => x
 refine tk (v := ?_) 25 hHeld ?_ ?_
 rotate_left
 focus (intro w hSw; clear hSw; go_simp; (try with_reducible rfl))
 (try simp only [fl])
 refine tk (v := ?_) 26 hHeld ?_ ?_
 rotate_left
 focus (intro w hSw; clear hSw; go_simp; (try with_reducible rfl))
 (try simp only [fl])
 refine wpAnyH_ready (rs := [27]) (by kernel_rfl) (by simp) ?_
 refine AllReadyH.cons rfl (fun K hK => ?_) AllReadyH.nil
 go_simp
 refine (s6_18 _ (hHeld.tabs HT.out)).mono ?_
 rintro e y ⟨rfl, un⟩
 replace hHeld := hHeld.call un
 clear un
 refine hK.out _ _ hHeld (fun hX => ?_)
 clear hK K hX
 (try simp only [fl])
 (try clear x)
 rename World => x
 refine tk (v := ?_) 28 hHeld ?_ ?_
 rotate_left
 focus (intro w hSw; clear hSw; go_simp; (try with_reducible rfl))
 (try simp only [fl])
 refine tk (v := ?_) 29 hHeld ?_ ?_
 rotate_left
 focus (intro w hSw; clear hSw; go_simp; (try with_reducible rfl))
 (try simp only [fl])
 refine tk (v := ?_) 30 hHeld ?_ ?_
 rotate_left
 focus (intro w hSw; clear hSw; go_simp; (try with_reducible rfl))
 (try simp only [fl])
 refine tk (v := ?_) 31 hHeld ?_ ?_
 rotate_left
 focus (intro w hSw; clear hSw; go_simp; (try with_reducible rfl))
 (try simp only [fl])
 refine tk (v := ?_) 32 hHeld ?_ ?_
 rotate_left
 focus (intro w hSw; clear hSw; go_simp; (try with_reducible rfl))
 (try simp only [fl])
 refine tk (v := ?_) 33 hHeld ?_ ?_
 rotate_left
 focus (intro w hSw; clear hSw; go_simp; (try with_reducible rfl))
 (try simp only [fl])
 refine tk (v := ?_) 34 hHeld ?_ ?_
 rotate_left
 focus (intro w hSw; clear hSw; go_simp; (try with_reducible rfl))
 (try simp only [fl])
 refine tk (v := ?_) 35 hHeld ?_ ?_
 rotate_left
 focus (intro w hSw; clear hSw; go_simp; (try with_reducible rfl))
 (try simp only [fl])
 refine tk (v := ?_) 36 hHeld ?_ ?_
 rotate_left
 focus (intro w hSw; clear hSw; go_simp; (try with_reducible rfl))
 (try simp only [fl])
 refine tk (v := ?_) 37 hHeld ?_ ?_
 rotate_left
 focus (intro w hSw; clear hSw; go_simp; (try with_reducible rfl))
 (try simp only [fl])
 refine tk (v := ?_) 38 hHeld ?_ ?_
 rotate_left
 focus (intro w hSw; clear hSw; go_simp; (try with_reducible rfl))
 (try simp only [fl])
 refine tk (v := ?_) 39 hHeld ?_ ?_
 rotate_left
 focus (intro w hSw; clear hSw; go_simp; (try with_reducible rfl))
 (try simp only [fl])
 refine tk (v := ?_) 40 hHeld ?_ ?_
 rotate_left
 focus (intro w hSw; clear hSw; go_simp; (try with_reducible rfl))
 (try simp only [fl])
 refine tk (v := ?_) 41 hHeld ?_ ?_
 rotate_left
 focus (intro w hSw; clear hSw; go_simp; (try with_reducible rfl))
 (try simp only [fl])
 refine tk (v := ?_) 42 hHeld ?_ ?_
 rotate_left
 focus (intro w hSw; clear hSw; go_simp; (try with_reducible rfl))
 (try simp only [fl])
 refine tk (v := ?_) 43 hHeld ?_ ?_
 rotate_left
 focus (intro w hSw; clear hSw; go_simp; (try with_reducible rfl))
 (try simp only [fl])
 refine tk (v := ?_) 44 hHeld ?_ ?_
 rotate_left
 focus (intro w hSw; clear hSw; go_simp; (try with_reducible rfl))
 (try simp only [fl])
 refine tk (v := ?_) 45 hHeld ?_ ?_
 rotate_left
 focus (intro w hSw; clear hSw; go_simp; (try with_reducible rfl))
 (try simp only [fl])
 refine tk (v := ?_) 46 hHeld ?_ ?_
 rotate_left
 focus (intro w hSw; clear hSw; go_simp; (try with_reducible rfl))
 (try simp only [fl])
 refine tk (v := ?_) 47 hHeld ?_ ?_
 rotate_left
 focus (intro w hSw; clear hSw; go_simp; (try with_reducible rfl))
 (try simp only [fl])
 refine tk (v := ?_) 48 hHeld ?_ ?_
 rotate_left
 focus (intro w hSw; clear hSw; go_simp; (try with_reducible rfl))
 (try simp only [fl])
 refine tk (v := ?_) 49 hHeld ?_ ?_
 rotate_left
 focus (intro w hSw; clear hSw; go_simp; (try with_reducible rfl))
 (try simp only [fl])
 refine tk (v := ?_) 50 hHeld ?_ ?_
 rotate_left
 focus (intro w hSw; clear hSw; go_simp; (try with_reducible rfl))
 (try simp only [fl])
 refine tk (v := ?_) 51 hHeld ?_ ?_
 rotate_left
 focus (intro w hSw; clear hSw; go_simp; (try with_reducible rfl))
 (try simp only [fl])
 refine tk (v := ?_) 52 hHeld ?_ ?_
 rotate_left
 focus (intro w hSw; clear hSw; go_simp; (try with_reducible rfl))
 (try simp only [fl])
 refine tk (v := ?_) 53 hHeld ?_ ?_
 rotate_left
 focus (intro w hSw; clear hSw; go_simp; (try with_reducible rfl))
 (try simp only [fl])
 refine tk (v := ?_) 54 hHeld ?_ ?_
 rotate_left
 focus (intro w hSw; clear hSw; go_simp; (try with_reducible rfl))
 (try simp only [fl])
 refine tk (v := ?_) 55 hHeld ?_ ?_
 rotate_left
 focus (intro w hSw; clear hSw; go_simp; (try with_reducible rfl))
 (try simp only [fl])
 refine tk (v := ?_) 56 hHeld ?_ ?_
 rotate_left
 focus (intro w hSw; clear hSw; go_simp; (try with_reducible rfl))
 (try simp only [fl])
 refine tk (v := ?_) 57 hHeld ?_ ?_
 rotate_left
 focus (intro w hSw; clear hSw; go_simp; (try with_reducible rfl))
 (try simp only [fl])
 refine tk (v := ?_) 59 hHeld ?_ ?_
 rotate_left
 focus (intro w hSw; clear hSw; go_simp; (try with_reducible rfl))
 (try simp only [fl])
 refine wpAnyH_ready (rs := [58]) (by kernel_rfl) (by simp) ?_
 refine AllReadyH.cons rfl (fun K hK => ?_) AllReadyH.nil
 go_simp
 refine (s6_19 _).mono ?_
 rintro e y ⟨rfl, un⟩
 replace hHeld := hHeld.call un
 clear un
 refine hK.out _ _ hHeld (fun hX => ?_)
 clear hK K hX
 (try simp only [fl])
 (try clear x)
 rename World => x
 refine wpAnyH_ready (rs := [60]) (by kernel_rfl) (by simp) ?_
 refine AllReadyH.cons rfl (fun K hK => ?_) AllReadyH.nil
 go_simp
 refine (s6_20 _ (hHeld.tabs HT.out)).mono ?_
 rintro e y ⟨rfl, un⟩
 replace hHeld := hHeld.call un
 clear un
 refine hK.out _ _ hHeld (fun hX => ?_)
 clear hK K hX
 (try simp only [fl])
 (try clear x)
 rename World => x
 refine tk (v := ?_) 61 hHeld ?_ ?_
 rotate_left
 focus (intro w hSw; clear hSw; go_simp; (try with_reducible rfl))
 (try simp only [fl])
 refine tk (v := ?_) 62 hHeld ?_ ?_
 rotate_left
 focus (intro w hSw; clear hSw; go_simp; (try with_reducible rfl))
 (try simp only [fl])
 refine wpAnyH_ready (rs := [63]) (by kernel_rfl) (by simp) ?_
 refine AllReadyH.cons rfl (fun K hK => ?_) AllReadyH.nil
 go_simp
 refine (s6_21 _ (hHeld.tabs HT.out)).mono ?_
 rintro e y ⟨rfl, un⟩
 replace hHeld := hHeld.call un
 clear un
 refine hK.out _ _ hHeld (fun hX => ?_)
 clear hK K hX
 (try simp only [fl])
 (try clear x)
 rename World => x
 refine tk (v := ?_) 64 hHeld ?_ ?_
 rotate_left
 focus (intro w hSw; clear hSw; go_simp; (try with_reducible rfl))
 (try simp only [fl])
 refine tk (v := ?_) 65 hHeld ?_ ?_
 rotate_left
 focus (intro w hSw; clear hSw; go_simp; (try with_reducible rfl))
 (try simp only [fl])
 refine tk (v := ?_) 66 hHeld ?_ ?_
 rotate_left
 focus (intro w hSw; clear hSw; go_simp; (try with_reducible rfl))
 (try simp only [fl])
 refine tk (v := ?_) 68 hHeld ?_ ?_
 rotate_left
 focus (intro w hSw; obtain ⟨c0, c1, c2⟩ := (hSw.at 1 rfl).all3; clear hSw; go_simp; (try with_reducible rfl))
 (try simp only [fl])
 refine wpAnyH_ready (rs := [67]) (by kernel_rfl) (by simp) ?_
 refine AllReadyH.cons rfl (fun K hK => ?_) AllReadyH.nil
 go_simp
 refine (s6_22 _).mono ?_
 rintro e y ⟨rfl, un⟩
 replace hHeld := hHeld.call un
 clear un
 refine hK.out _ _ hHeld (fun hX => ?_)
 clear hK K hX
 (try simp only [fl])
 (try clear x)
 rename World => x
 refine wpAnyH_ready (rs := [69]) (by kernel_rfl) (by simp) ?_
 refine AllReadyH.cons rfl (fun K hK => ?_) AllReadyH.nil
 go_simp
 refine (s6_23 _ (hHeld.tabs HT.out)).mono ?_
 rintro e y ⟨rfl, un⟩
 replace hHeld := hHeld.call un
 clear un
 refine hK.out _ _ hHeld (fun hX => ?_)
 clear hK K hX
 (try simp only [fl])
 (try clear x)
 rename World => x
 refine tk (v := ?_) 70 hHeld ?_ ?_
 rotate_left
 focus (intro w hSw; clear hSw; go_simp; (try with_reducible rfl))
 (try simp only [fl])
 refine tk (v := ?_) 71 hHeld ?_ ?_
 rotate_left
 focus (intro w hSw; clear hSw; go_simp; (try with_reducible rfl))
 (try simp only [fl])
 refine wpAnyH_ready (rs := [72]) (by kernel_rfl) (by simp) ?_
 refine AllReadyH.cons rfl (fun K hK => ?_) AllReadyH.nil
 go_simp
 refine (s6_24 _ (hHeld.tabs HT.out)).mono ?_
 rintro e y ⟨rfl, un⟩
 replace hHeld := hHeld.call un
 clear un
 refine hK.out _ _ hHeld (fun hX => ?_)
 clear hK K hX
 (try simp only [fl])
 (try clear x)
 rename World => x
 refine tk (v := ?_) 73 hHeld ?_ ?_
 rotate_left
 focus (intro w hSw; clear hSw; go_simp; (try with_reducible rfl))
 (try simp only [fl])
 refine tk (v := ?_) 74 hHeld ?_ ?_
 rotate_left
 focus (intro w hSw; clear hSw; go_simp; (try with_reducible rfl))
 (try simp only [fl])
 refine tk (v := ?_) 75 hHeld ?_ ?_
 rotate_left
 focus (intro w hSw; clear hSw; go_simp; (try with_reducible rfl))
 (try simp only [fl])
 refine wpAnyH_done (by kernel_rfl) ?_ _
 have HS := Lib.hid hHeld
 clear hHeld
 go_wp2
 go_ret
 exact ⟨rfl, HS.out.old⟩
end Go.Proofs.YtmdnijehoagamaaGreatDoor
