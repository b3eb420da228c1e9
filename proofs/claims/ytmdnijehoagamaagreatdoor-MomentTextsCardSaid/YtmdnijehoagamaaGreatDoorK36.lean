/- NA -/
import Derived.Test.YtmdnijehoagamaaGreatDoorK21
set_option linter.unusedVariables false
set_option linter.unusedSimpArgs false
namespace Go.Proofs.YtmdnijehoagamaaGreatDoor
set_option maxRecDepth 100000
set_option maxHeartbeats 8000000
open Go.RowKit
theorem pplus_below (xw : Int) (xn : Bool) (xd : ByteArray) (xk yw : Int) (yn : Bool) (yd : ByteArray) (yk : Int) (ln : Bool) (ld : ByteArray) (lk : Int) (zn : Bool) (zd : ByteArray) (zk : Int) (sn : Bool) (sd : ByteArray) (sk ql qz qs : Int)
  (x0 : -1000000000000000 ≤ xw) (x1 : xw ≤ 1000000000000000) (y0 : -1000000000000000 ≤ yw) (y1 : yw ≤ 1000000000000000)
  (cO : ∀ W, Tabs W → Calls Tryz.prog 62 #[.int .i64 1] W fun e w' => e = .returned (.agg #[.bool false, .string ⟨#[49]⟩, .int .i64 0]) ∧ Below W.heap.size W w')
  (cL : ∀ W, Tabs W → Calls Tryz.prog 104 #[.agg #[.bool false, .string ⟨#[49]⟩, .int .i64 0], .agg #[.bool yn, .string yd, .int .i64 yk]] W fun e w' => e = .returned (.tuple #[.agg #[.bool ln, .string ld, .int .i64 lk], .int .i64 ql]) ∧ Below W.heap.size W w')
  (cS : ∀ W, Tabs W → Calls Tryz.prog 104 #[.agg #[.bool xn, .string xd, .int .i64 xk], .agg #[.bool ln, .string ld, .int .i64 lk]] W fun e w' => e = .returned (.tuple #[.agg #[.bool true, .string zd, .int .i64 zk], .int .i64 qz]) ∧ Below W.heap.size W w')
  (cA : ∀ W, Tabs W → Calls Tryz.prog 94 #[.agg #[.bool xn, .string xd, .int .i64 xk], .agg #[.bool yn, .string yd, .int .i64 yk]] W fun e w' => e = .returned (.tuple #[.agg #[.bool sn, .string sd, .int .i64 sk], .int .i64 qs]) ∧ Below W.heap.size W w')
  (w : World) (hT : Tabs w) :
  Calls Tryz.prog 64 #[.agg #[.int .i64 xw, .bool xn, .string xd, .int .i64 xk], .agg #[.int .i64 yw, .bool yn, .string yd, .int .i64 yk]] w fun e w' => e = .returned (.agg #[.int .i64 (xw + yw), .bool sn, .string sd, .int .i64 sk]) ∧ Below w.heap.size w w' := by
 go_enter Tryz.func64, Tryz.ntmps64
 have HT0 := Lib.hid hT
 clear hT
 have HX : Hid (HasL (((w.alloc (.cells #[.int .i64 xw, .bool xn, .string xd, .int .i64 xk] 69)).alloc (.cells #[.int .i64 yw, .bool yn, .string yd, .int .i64 yk] 69)).alloc (.cells #[.int .i64 0, .bool false, .string ⟨#[]⟩, .int .i64 0] 69)) w.heap.size [.int .i64 xw, .bool xn, .string xd, .int .i64 xk]) := Lib.hid (((HasL.new w [.int .i64 xw, .bool xn, .string xd, .int .i64 xk] 69).alloc (.cells #[.int .i64 yw, .bool yn, .string yd, .int .i64 yk] 69)).alloc (.cells #[.int .i64 0, .bool false, .string ⟨#[]⟩, .int .i64 0] 69))
 have HY : Hid (HasL (((w.alloc (.cells #[.int .i64 xw, .bool xn, .string xd, .int .i64 xk] 69)).alloc (.cells #[.int .i64 yw, .bool yn, .string yd, .int .i64 yk] 69)).alloc (.cells #[.int .i64 0, .bool false, .string ⟨#[]⟩, .int .i64 0] 69)) (w.heap.size + 1) [.int .i64 yw, .bool yn, .string yd, .int .i64 yk]) := Lib.hid (by have h := ((HasL.new (w.alloc (.cells #[.int .i64 xw, .bool xn, .string xd, .int .i64 xk] 69)) [.int .i64 yw, .bool yn, .string yd, .int .i64 yk] 69).alloc (.cells #[.int .i64 0, .bool false, .string ⟨#[]⟩, .int .i64 0] 69)); rw [show (w.alloc (.cells #[.int .i64 xw, .bool xn, .string xd, .int .i64 xk] 69)).heap.size = w.heap.size + 1 by simp] at h; exact h)
 have HR : Hid (HasL (((w.alloc (.cells #[.int .i64 xw, .bool xn, .string xd, .int .i64 xk] 69)).alloc (.cells #[.int .i64 yw, .bool yn, .string yd, .int .i64 yk] 69)).alloc (.cells #[.int .i64 0, .bool false, .string ⟨#[]⟩, .int .i64 0] 69)) (w.heap.size + 1 + 1) [.int .i64 0, .bool false, .string ⟨#[]⟩, .int .i64 0]) := Lib.hid (by have h := (HasL.new ((w.alloc (.cells #[.int .i64 xw, .bool xn, .string xd, .int .i64 xk] 69)).alloc (.cells #[.int .i64 yw, .bool yn, .string yd, .int .i64 yk] 69)) [.int .i64 0, .bool false, .string ⟨#[]⟩, .int .i64 0] 69); rw [show ((w.alloc (.cells #[.int .i64 xw, .bool xn, .string xd, .int .i64 xk] 69)).alloc (.cells #[.int .i64 yw, .bool yn, .string yd, .int .i64 yk] 69)).heap.size = w.heap.size + 1 + 1 by simp] at h; exact h)
 have HW := Lib.hid (stepA (stepA (stepA (Below.refl w.heap.size w) (.cells #[.int .i64 xw, .bool xn, .string xd, .int .i64 xk] 69)) (.cells #[.int .i64 yw, .bool yn, .string yd, .int .i64 yk] 69)) (.cells #[.int .i64 0, .bool false, .string ⟨#[]⟩, .int .i64 0] 69))
 have NE_Y_X : Hid ((w.heap.size + 1) ≠ w.heap.size ∧ w.heap.size ≠ (w.heap.size + 1)) := Lib.hid (by omega)
 have NE_R_X : Hid ((w.heap.size + 1 + 1) ≠ w.heap.size ∧ w.heap.size ≠ (w.heap.size + 1 + 1)) := Lib.hid (by omega)
 have NE_R_Y : Hid ((w.heap.size + 1 + 1) ≠ (w.heap.size + 1) ∧ (w.heap.size + 1) ≠ (w.heap.size + 1 + 1)) := Lib.hid (by omega)
 have HKB : Hid (KB w [(w.heap.size, [.int .i64 xw, .bool xn, .string xd, .int .i64 xk]), (w.heap.size + 1, [.int .i64 yw, .bool yn, .string yd, .int .i64 yk]), (w.heap.size + 1 + 1, [.int .i64 0, .bool false, .string ⟨#[]⟩, .int .i64 0])] (((w.alloc (.cells #[.int .i64 xw, .bool xn, .string xd, .int .i64 xk] 69)).alloc (.cells #[.int .i64 yw, .bool yn, .string yd, .int .i64 yk] 69)).alloc (.cells #[.int .i64 0, .bool false, .string ⟨#[]⟩, .int .i64 0] 69))) := by
  refine ⟨fun p hp => ?_, HW.out⟩
  simp only [List.mem_cons, List.mem_nil_iff, or_false] at hp
  rcases hp with rfl | rfl | rfl
  ·exact HX.out
  ·exact HY.out
  ·exact HR.out
 clear HX HY HR HW
 have SK : ∀ W, KB w [(w.heap.size, [.int .i64 xw, .bool xn, .string xd, .int .i64 xk]), (w.heap.size + 1, [.int .i64 yw, .bool yn, .string yd, .int .i64 yk]), (w.heap.size + 1 + 1, [.int .i64 0, .bool false, .string ⟨#[]⟩, .int .i64 0])] W → (W.cell? ⟨w.heap.size + 1, 1, none⟩ = some (.bool yn) ∧ W.cell? ⟨w.heap.size + 1, 2, none⟩ = some (.string yd) ∧ W.cell? ⟨w.heap.size + 1, 3, none⟩ = some (.int .i64 yk) ∧ KB w [(w.heap.size, [.int .i64 xw, .bool xn, .string xd, .int .i64 xk]), (w.heap.size + 1, [.int .i64 yw, .bool yn, .string yd, .int .i64 yk]), (w.heap.size + 1 + 1, [.int .i64 0, .bool false, .string ⟨#[]⟩, .int .i64 0])] W) := fun W k => ⟨(k.one 1 rfl).cell 1 rfl, (k.one 1 rfl).cell 2 rfl, (k.one 1 rfl).cell 3 rfl, k⟩
 have HSK := Lib.hid SK
 have SO : ∀ W, (W.cell? ⟨w.heap.size + 1, 1, none⟩ = some (.bool yn) ∧ W.cell? ⟨w.heap.size + 1, 2, none⟩ = some (.string yd) ∧ W.cell? ⟨w.heap.size + 1, 3, none⟩ = some (.int .i64 yk) ∧ KB w [(w.heap.size, [.int .i64 xw, .bool xn, .string xd, .int .i64 xk]), (w.heap.size + 1, [.int .i64 yw, .bool yn, .string yd, .int .i64 yk]), (w.heap.size + 1 + 1, [.int .i64 0, .bool false, .string ⟨#[]⟩, .int .i64 0])] W) → Below w.heap.size w W := fun W k => (k.2.2.2 : KB w [(w.heap.size, [.int .i64 xw, .bool xn, .string xd, .int .i64 xk]), (w.heap.size + 1, [.int .i64 yw, .bool yn, .string yd, .int .i64 yk]), (w.heap.size + 1 + 1, [.int .i64 0, .bool false, .string ⟨#[]⟩, .int .i64 0])] W).2
 have HSO := Lib.hid SO
 clear SK SO
 go_upto_region 1 with fail
 go_cut [5, 6] (fun s3 s4 wx => ∃ g, s3 = .pointer (some ⟨g, 0, none⟩) ∧ s4 = .int .i64 ql ∧ HasL wx g [.bool ln, .string ld, .int .i64 lk] ∧ KB w [(w.heap.size, [.int .i64 xw, .bool xn, .string xd, .int .i64 xk]), (w.heap.size + 1, [.int .i64 yw, .bool yn, .string yd, .int .i64 yk]), (w.heap.size + 1 + 1, [.int .i64 0, .bool false, .string ⟨#[]⟩, .int .i64 0])] wx ∧ w.heap.size + 3 ≤ g)
 case first =>
  go_region_held3 (fun W => W.cell? ⟨w.heap.size + 1, 1, none⟩ = some (.bool yn) ∧ W.cell? ⟨w.heap.size + 1, 2, none⟩ = some (.string yd) ∧ W.cell? ⟨w.heap.size + 1, 3, none⟩ = some (.int .i64 yk) ∧ KB w [(w.heap.size, [.int .i64 xw, .bool xn, .string xd, .int .i64 xk]), (w.heap.size + 1, [.int .i64 yw, .bool yn, .string yd, .int .i64 yk]), (w.heap.size + 1 + 1, [.int .i64 0, .bool false, .string ⟨#[]⟩, .int .i64 0])] W)
   (first | exact HSK.out _ (HKB.out.drew1) | exact HSK.out _ k2.out | exact HSK.out _ k1.out | exact HSK.out _ (k2.out.alloc _) | exact HSK.out _ (KB.alloc (And.right (And.right (And.right (by assumption)))) _) | exact HSK.out _ (KB.set (KB.set (KB.set (And.right (And.right (And.right (by assumption)))) (by first | omega | (have := (k1.out.one 2 rfl).lt; simp at this ⊢; omega) | (simp; omega) | simp) (by intro p hp; simp only [List.mem_cons, List.mem_nil_iff, or_false] at hp; rcases hp with rfl | rfl | rfl <;> simp) 0 _) (by first | omega | (have := (k1.out.one 2 rfl).lt; simp at this ⊢; omega) | (simp; omega) | simp) (by intro p hp; simp only [List.mem_cons, List.mem_nil_iff, or_false] at hp; rcases hp with rfl | rfl | rfl <;> simp) 1 _) (by first | omega | (have := (k1.out.one 2 rfl).lt; simp at this ⊢; omega) | (simp; omega) | simp) (by intro p hp; simp only [List.mem_cons, List.mem_nil_iff, or_false] at hp; rcases hp with rfl | rfl | rfl <;> simp) 2 _))
   (first
    | (go_at_call 62; refine (cO _ (HT0.out.next (HSO.out _ (by assumption)))).mono ?_; rintro e v1 ⟨rfl, u1⟩; have k1 := Lib.hid (KB.call (And.right (And.right (And.right (by assumption)))) u1); (try (have n1 : HasL v1 (w.heap.size + 1 + 1 + 1) [.bool false, .string ⟨#[]⟩, .int .i64 0] := (by have h := (HasL.new (((w.alloc (.cells #[.int .i64 xw, .bool xn, .string xd, .int .i64 xk] 69)).alloc (.cells #[.int .i64 yw, .bool yn, .string yd, .int .i64 yk] 69)).alloc (.cells #[.int .i64 0, .bool false, .string ⟨#[]⟩, .int .i64 0] 69)).drew [.bool false, .string ⟨#[]⟩, .int .i64 0] 23).call u1; simpa using h))))
    | (go_at_call 104; refine (cL _ (HT0.out.next (HSO.out _ (by assumption)))).mono ?_; rintro e v2 ⟨rfl, u2⟩; have k2 := Lib.hid (KB.call (And.right (And.right (And.right (by assumption)))) u2); (first | have n2 := HasL.call n1 u2 | have n2 := (HasL.new v1 [.bool false, .string ⟨#[]⟩, .int .i64 0] 23).call u2 | skip); (try (have y0 := n2.cell 0 rfl; have x0 := n2.frozen 0 rfl; have y1 := n2.cell 1 rfl; have x1 := n2.frozen 1 rfl; have y2 := n2.cell 2 rfl; have x2 := n2.frozen 2 rfl))))
  all_goals (rename_i hh; have hk := Lib.hid hh; clear hh; go_wp2_with fail; go_meet; exact ⟨_, rfl, rfl, by first | exact HasL.new v2 [.bool ln, .string ld, .int .i64 lk] 23 | exact n2.set 0 _ (by simp) |>.set 1 _ (by simp) |>.set 2 _ (by simp), by exact (hk.out).2.2.2, by first | (have := (k2.out.one 2 rfl).lt; simp at this ⊢; omega) | (have := (k1.out.one 2 rfl).lt; simp at this ⊢; omega) | (simp; omega) | simp⟩)
 case rest =>
  obtain ⟨g, rfl, rfl, hG, hK, hg⟩ := hcut
  have HX := Lib.hid (hK.one 0 rfl)
  have HY := Lib.hid (hK.one 1 rfl)
  have HR := Lib.hid (hK.one 2 rfl)
  have HG := Lib.hid hG
  have HW := Lib.hid hK.2
  have le_G : w.heap.size ≤ g := by omega
  have HT := Lib.hid (HT0.out.next hK.2)
  have NE_G_X : Hid (g ≠ w.heap.size ∧ w.heap.size ≠ g) := Lib.hid (by omega)
  have NE_G_Y : Hid (g ≠ w.heap.size + 1 ∧ w.heap.size + 1 ≠ g) := Lib.hid (by omega)
  have NE_G_R : Hid (g ≠ w.heap.size + 1 + 1 ∧ w.heap.size + 1 + 1 ≠ g) := Lib.hid (by omega)
  clear HKB HSK HSO hK hG hg cO cL
  obtain ⟨dX_0, dX_1, dX_2, dX_3⟩ := HX.out.all4
  obtain ⟨dG_0, dG_1, dG_2⟩ := HG.out.all3
  go_wp2_with fail
  refine (cS _ HT.out).mono ?_
  rintro e w1 ⟨rfl, b1⟩
  replace HX := Lib.hid (HX.out.call b1)
  replace HY := Lib.hid (HY.out.call b1)
  replace HR := Lib.hid (HR.out.call b1)
  replace HG := Lib.hid (HG.out.call b1)
  replace HW := Lib.hid (step HW.out b1)
  replace HT := Lib.hid (HT.out.next b1)
  clear b1 dX_0 dX_1 dX_2 dX_3 dG_0 dG_1 dG_2
  have ne_Z_X : w1.heap.size ≠ w.heap.size := by have := HX.out.lt; omega
  have nf_Z_X : w.heap.size ≠ w1.heap.size := by have := HX.out.lt; omega
  have NE_Z_X := Lib.hid (And.intro ne_Z_X nf_Z_X)
  have ne_Z_Y : w1.heap.size ≠ (w.heap.size + 1) := by have := HY.out.lt; omega
  have nf_Z_Y : (w.heap.size + 1) ≠ w1.heap.size := by have := HY.out.lt; omega
  have NE_Z_Y := Lib.hid (And.intro ne_Z_Y nf_Z_Y)
  have ne_Z_R : w1.heap.size ≠ (w.heap.size + 1 + 1) := by have := HR.out.lt; omega
  have nf_Z_R : (w.heap.size + 1 + 1) ≠ w1.heap.size := by have := HR.out.lt; omega
  have NE_Z_R := Lib.hid (And.intro ne_Z_R nf_Z_R)
  have ne_Z_G : w1.heap.size ≠ g := by have := HG.out.lt; omega
  have nf_Z_G : g ≠ w1.heap.size := by have := HG.out.lt; omega
  have NE_Z_G := Lib.hid (And.intro ne_Z_G nf_Z_G)
  replace HX := Lib.hid (HX.out.alloc (.cells #[.bool true, .string zd, .int .i64 zk] 23))
  replace HY := Lib.hid (HY.out.alloc (.cells #[.bool true, .string zd, .int .i64 zk] 23))
  replace HR := Lib.hid (HR.out.alloc (.cells #[.bool true, .string zd, .int .i64 zk] 23))
  replace HG := Lib.hid (HG.out.alloc (.cells #[.bool true, .string zd, .int .i64 zk] 23))
  have HZ := Lib.hid (HasL.new w1 [.bool true, .string zd, .int .i64 zk] 23)
  have le_Z : w.heap.size ≤ w1.heap.size := HW.out.size
  replace HW := Lib.hid (stepA HW.out (.cells #[.bool true, .string zd, .int .i64 zk] 23))
  replace HT := Lib.hid (HT.out.next (stepA (Below.refl _ _) (.cells #[.bool true, .string zd, .int .i64 zk] 23)))
  obtain ⟨dX_0, dX_1, dX_2, dX_3⟩ := HX.out.all4
  obtain ⟨dY_0, dY_1, dY_2, dY_3⟩ := HY.out.all4
  go_wp2_with fail
  refine (cA _ HT.out).mono ?_
  rintro e w2 ⟨rfl, b2⟩
  replace HX := Lib.hid (HX.out.call b2)
  replace HY := Lib.hid (HY.out.call b2)
  replace HR := Lib.hid (HR.out.call b2)
  replace HG := Lib.hid (HG.out.call b2)
  replace HZ := Lib.hid (HZ.out.call b2)
  replace HW := Lib.hid (step HW.out b2)
  replace HT := Lib.hid (HT.out.next b2)
  clear b2 ne_Z_X nf_Z_X ne_Z_Y nf_Z_Y ne_Z_R nf_Z_R ne_Z_G nf_Z_G dX_0 dX_1 dX_2 dX_3 dY_0 dY_1 dY_2 dY_3
  have ne_S_X : w2.heap.size ≠ w.heap.size := by have := HX.out.lt; omega
  have nf_S_X : w.heap.size ≠ w2.heap.size := by have := HX.out.lt; omega
  have NE_S_X := Lib.hid (And.intro ne_S_X nf_S_X)
  have ne_S_Y : w2.heap.size ≠ (w.heap.size + 1) := by have := HY.out.lt; omega
  have nf_S_Y : (w.heap.size + 1) ≠ w2.heap.size := by have := HY.out.lt; omega
  have NE_S_Y := Lib.hid (And.intro ne_S_Y nf_S_Y)
  have ne_S_R : w2.heap.size ≠ (w.heap.size + 1 + 1) := by have := HR.out.lt; omega
  have nf_S_R : (w.heap.size + 1 + 1) ≠ w2.heap.size := by have := HR.out.lt; omega
  have NE_S_R := Lib.hid (And.intro ne_S_R nf_S_R)
  have ne_S_G : w2.heap.size ≠ g := by have := HG.out.lt; omega
  have nf_S_G : g ≠ w2.heap.size := by have := HG.out.lt; omega
  have NE_S_G := Lib.hid (And.intro ne_S_G nf_S_G)
  have ne_S_Z : w2.heap.size ≠ w1.heap.size := by have := HZ.out.lt; omega
  have nf_S_Z : w1.heap.size ≠ w2.heap.size := by have := HZ.out.lt; omega
  have NE_S_Z := Lib.hid (And.intro ne_S_Z nf_S_Z)
  replace HX := Lib.hid (HX.out.alloc (.cells #[.bool sn, .string sd, .int .i64 sk] 23))
  replace HY := Lib.hid (HY.out.alloc (.cells #[.bool sn, .string sd, .int .i64 sk] 23))
  replace HR := Lib.hid (HR.out.alloc (.cells #[.bool sn, .string sd, .int .i64 sk] 23))
  replace HG := Lib.hid (HG.out.alloc (.cells #[.bool sn, .string sd, .int .i64 sk] 23))
  replace HZ := Lib.hid (HZ.out.alloc (.cells #[.bool sn, .string sd, .int .i64 sk] 23))
  have HS := Lib.hid (HasL.new w2 [.bool sn, .string sd, .int .i64 sk] 23)
  have le_S : w.heap.size ≤ w2.heap.size := HW.out.size
  replace HW := Lib.hid (stepA HW.out (.cells #[.bool sn, .string sd, .int .i64 sk] 23))
  replace HT := Lib.hid (HT.out.next (stepA (Below.refl _ _) (.cells #[.bool sn, .string sd, .int .i64 sk] 23)))
  obtain ⟨dX_0, dX_1, dX_2, dX_3⟩ := HX.out.all4
  obtain ⟨dY_0, dY_1, dY_2, dY_3⟩ := HY.out.all4
  obtain ⟨dR_0, dR_1, dR_2, dR_3⟩ := HR.out.all4
  obtain ⟨dS_0, dS_1, dS_2⟩ := HS.out.all3
  obtain ⟨zR_0, zR_1, zR_2, zR_3⟩ := HR.out.free4
  go_wp2
  replace HX := Lib.hid (HX.out.far NE_R_X.out.1 0 (.int .i64 (xw + yw)))
  replace HY := Lib.hid (HY.out.far NE_R_Y.out.1 0 (.int .i64 (xw + yw)))
  replace HR := Lib.hid (HR.out.set 0 (.int .i64 (xw + yw)) (by simp))
  replace HG := Lib.hid (HG.out.far NE_G_R.out.2 0 (.int .i64 (xw + yw)))
  replace HZ := Lib.hid (HZ.out.far NE_Z_R.out.2 0 (.int .i64 (xw + yw)))
  replace HS := Lib.hid (HS.out.far NE_S_R.out.2 0 (.int .i64 (xw + yw)))
  replace HW := Lib.hid (setStep HW.out (show w.heap.size ≤ w.heap.size + 1 + 1 by omega) 0 (.int .i64 (xw + yw)))
  replace HX := Lib.hid (HX.out.far NE_R_X.out.1 1 (.bool sn))
  replace HY := Lib.hid (HY.out.far NE_R_Y.out.1 1 (.bool sn))
  replace HR := Lib.hid (HR.out.set 1 (.bool sn) (by simp))
  replace HG := Lib.hid (HG.out.far NE_G_R.out.2 1 (.bool sn))
  replace HZ := Lib.hid (HZ.out.far NE_Z_R.out.2 1 (.bool sn))
  replace HS := Lib.hid (HS.out.far NE_S_R.out.2 1 (.bool sn))
  replace HW := Lib.hid (setStep HW.out (show w.heap.size ≤ w.heap.size + 1 + 1 by omega) 1 (.bool sn))
  replace HX := Lib.hid (HX.out.far NE_R_X.out.1 2 (.string sd))
  replace HY := Lib.hid (HY.out.far NE_R_Y.out.1 2 (.string sd))
  replace HR := Lib.hid (HR.out.set 2 (.string sd) (by simp))
  replace HG := Lib.hid (HG.out.far NE_G_R.out.2 2 (.string sd))
  replace HZ := Lib.hid (HZ.out.far NE_Z_R.out.2 2 (.string sd))
  replace HS := Lib.hid (HS.out.far NE_S_R.out.2 2 (.string sd))
  replace HW := Lib.hid (setStep HW.out (show w.heap.size ≤ w.heap.size + 1 + 1 by omega) 2 (.string sd))
  replace HX := Lib.hid (HX.out.far NE_R_X.out.1 3 (.int .i64 sk))
  replace HY := Lib.hid (HY.out.far NE_R_Y.out.1 3 (.int .i64 sk))
  replace HR := Lib.hid (HR.out.set 3 (.int .i64 sk) (by simp))
  replace HG := Lib.hid (HG.out.far NE_G_R.out.2 3 (.int .i64 sk))
  replace HZ := Lib.hid (HZ.out.far NE_Z_R.out.2 3 (.int .i64 sk))
  replace HS := Lib.hid (HS.out.far NE_S_R.out.2 3 (.int .i64 sk))
  replace HW := Lib.hid (setStep HW.out (show w.heap.size ≤ w.heap.size + 1 + 1 by omega) 3 (.int .i64 sk))
  obtain ⟨r0, r1, r2, r3⟩ := HR.out.all4
  exact bodyPost_ret (v := .agg #[.int .i64 (xw + yw), .bool sn, .string sd, .int .i64 sk]) (by simp [results, Tryz.results64, go_sem, r0, r1, r2, r3]) rfl ⟨rfl, HW.out⟩
theorem pplus_over (xw : Int) (xn : Bool) (xd : ByteArray) (xk yw : Int) (yn : Bool) (yd : ByteArray) (yk : Int) (ln : Bool) (ld : ByteArray) (lk : Int) (zn : Bool) (zd : ByteArray) (zk : Int) (sn : Bool) (sd : ByteArray) (sk ql qz qs : Int)
  (x0 : -1000000000000000 ≤ xw) (x1 : xw ≤ 1000000000000000) (y0 : -1000000000000000 ≤ yw) (y1 : yw ≤ 1000000000000000)
  (cO : ∀ W, Tabs W → Calls Tryz.prog 62 #[.int .i64 1] W fun e w' => e = .returned (.agg #[.bool false, .string ⟨#[49]⟩, .int .i64 0]) ∧ Below W.heap.size W w')
  (cL : ∀ W, Tabs W → Calls Tryz.prog 104 #[.agg #[.bool false, .string ⟨#[49]⟩, .int .i64 0], .agg #[.bool yn, .string yd, .int .i64 yk]] W fun e w' => e = .returned (.tuple #[.agg #[.bool ln, .string ld, .int .i64 lk], .int .i64 ql]) ∧ Below W.heap.size W w')
  (cS : ∀ W, Tabs W → Calls Tryz.prog 104 #[.agg #[.bool xn, .string xd, .int .i64 xk], .agg #[.bool ln, .string ld, .int .i64 lk]] W fun e w' => e = .returned (.tuple #[.agg #[.bool false, .string zd, .int .i64 zk], .int .i64 qz]) ∧ Below W.heap.size W w')
  (w : World) (hT : Tabs w) :
  Calls Tryz.prog 64 #[.agg #[.int .i64 xw, .bool xn, .string xd, .int .i64 xk], .agg #[.int .i64 yw, .bool yn, .string yd, .int .i64 yk]] w fun e w' => e = .returned (.agg #[.int .i64 (xw + yw + 1), .bool false, .string zd, .int .i64 zk]) ∧ Below w.heap.size w w' := by
 go_enter Tryz.func64, Tryz.ntmps64
 have HT0 := Lib.hid hT
 clear hT
 have HX : Hid (HasL (((w.alloc (.cells #[.int .i64 xw, .bool xn, .string xd, .int .i64 xk] 69)).alloc (.cells #[.int .i64 yw, .bool yn, .string yd, .int .i64 yk] 69)).alloc (.cells #[.int .i64 0, .bool false, .string ⟨#[]⟩, .int .i64 0] 69)) w.heap.size [.int .i64 xw, .bool xn, .string xd, .int .i64 xk]) := Lib.hid (((HasL.new w [.int .i64 xw, .bool xn, .string xd, .int .i64 xk] 69).alloc (.cells #[.int .i64 yw, .bool yn, .string yd, .int .i64 yk] 69)).alloc (.cells #[.int .i64 0, .bool false, .string ⟨#[]⟩, .int .i64 0] 69))
 have HY : Hid (HasL (((w.alloc (.cells #[.int .i64 xw, .bool xn, .string xd, .int .i64 xk] 69)).alloc (.cells #[.int .i64 yw, .bool yn, .string yd, .int .i64 yk] 69)).alloc (.cells #[.int .i64 0, .bool false, .string ⟨#[]⟩, .int .i64 0] 69)) (w.heap.size + 1) [.int .i64 yw, .bool yn, .string yd, .int .i64 yk]) := Lib.hid (by have h := ((HasL.new (w.alloc (.cells #[.int .i64 xw, .bool xn, .string xd, .int .i64 xk] 69)) [.int .i64 yw, .bool yn, .string yd, .int .i64 yk] 69).alloc (.cells #[.int .i64 0, .bool false, .string ⟨#[]⟩, .int .i64 0] 69)); rw [show (w.alloc (.cells #[.int .i64 xw, .bool xn, .string xd, .int .i64 xk] 69)).heap.size = w.heap.size + 1 by simp] at h; exact h)
 have HR : Hid (HasL (((w.alloc (.cells #[.int .i64 xw, .bool xn, .string xd, .int .i64 xk] 69)).alloc (.cells #[.int .i64 yw, .bool yn, .string yd, .int .i64 yk] 69)).alloc (.cells #[.int .i64 0, .bool false, .string ⟨#[]⟩, .int .i64 0] 69)) (w.heap.size + 1 + 1) [.int .i64 0, .bool false, .string ⟨#[]⟩, .int .i64 0]) := Lib.hid (by have h := (HasL.new ((w.alloc (.cells #[.int .i64 xw, .bool xn, .string xd, .int .i64 xk] 69)).alloc (.cells #[.int .i64 yw, .bool yn, .string yd, .int .i64 yk] 69)) [.int .i64 0, .bool false, .string ⟨#[]⟩, .int .i64 0] 69); rw [show ((w.alloc (.cells #[.int .i64 xw, .bool xn, .string xd, .int .i64 xk] 69)).alloc (.cells #[.int .i64 yw, .bool yn, .string yd, .int .i64 yk] 69)).heap.size = w.heap.size + 1 + 1 by simp] at h; exact h)
 have HW := Lib.hid (stepA (stepA (stepA (Below.refl w.heap.size w) (.cells #[.int .i64 xw, .bool xn, .string xd, .int .i64 xk] 69)) (.cells #[.int .i64 yw, .bool yn, .string yd, .int .i64 yk] 69)) (.cells #[.int .i64 0, .bool false, .string ⟨#[]⟩, .int .i64 0] 69))
 have NE_Y_X : Hid ((w.heap.size + 1) ≠ w.heap.size ∧ w.heap.size ≠ (w.heap.size + 1)) := Lib.hid (by omega)
 have NE_R_X : Hid ((w.heap.size + 1 + 1) ≠ w.heap.size ∧ w.heap.size ≠ (w.heap.size + 1 + 1)) := Lib.hid (by omega)
 have NE_R_Y : Hid ((w.heap.size + 1 + 1) ≠ (w.heap.size + 1) ∧ (w.heap.size + 1) ≠ (w.heap.size + 1 + 1)) := Lib.hid (by omega)
 have HKB : Hid (KB w [(w.heap.size, [.int .i64 xw, .bool xn, .string xd, .int .i64 xk]), (w.heap.size + 1, [.int .i64 yw, .bool yn, .string yd, .int .i64 yk]), (w.heap.size + 1 + 1, [.int .i64 0, .bool false, .string ⟨#[]⟩, .int .i64 0])] (((w.alloc (.cells #[.int .i64 xw, .bool xn, .string xd, .int .i64 xk] 69)).alloc (.cells #[.int .i64 yw, .bool yn, .string yd, .int .i64 yk] 69)).alloc (.cells #[.int .i64 0, .bool false, .string ⟨#[]⟩, .int .i64 0] 69))) := by
  refine ⟨fun p hp => ?_, HW.out⟩
  simp only [List.mem_cons, List.mem_nil_iff, or_false] at hp
  rcases hp with rfl | rfl | rfl
  ·exact HX.out
  ·exact HY.out
  ·exact HR.out
 clear HX HY HR HW
 have SK : ∀ W, KB w [(w.heap.size, [.int .i64 xw, .bool xn, .string xd, .int .i64 xk]), (w.heap.size + 1, [.int .i64 yw, .bool yn, .string yd, .int .i64 yk]), (w.heap.size + 1 + 1, [.int .i64 0, .bool false, .string ⟨#[]⟩, .int .i64 0])] W → (W.cell? ⟨w.heap.size + 1, 1, none⟩ = some (.bool yn) ∧ W.cell? ⟨w.heap.size + 1, 2, none⟩ = some (.string yd) ∧ W.cell? ⟨w.heap.size + 1, 3, none⟩ = some (.int .i64 yk) ∧ KB w [(w.heap.size, [.int .i64 xw, .bool xn, .string xd, .int .i64 xk]), (w.heap.size + 1, [.int .i64 yw, .bool yn, .string yd, .int .i64 yk]), (w.heap.size + 1 + 1, [.int .i64 0, .bool false, .string ⟨#[]⟩, .int .i64 0])] W) := fun W k => ⟨(k.one 1 rfl).cell 1 rfl, (k.one 1 rfl).cell 2 rfl, (k.one 1 rfl).cell 3 rfl, k⟩
 have HSK := Lib.hid SK
 have SO : ∀ W, (W.cell? ⟨w.heap.size + 1, 1, none⟩ = some (.bool yn) ∧ W.cell? ⟨w.heap.size + 1, 2, none⟩ = some (.string yd) ∧ W.cell? ⟨w.heap.size + 1, 3, none⟩ = some (.int .i64 yk) ∧ KB w [(w.heap.size, [.int .i64 xw, .bool xn, .string xd, .int .i64 xk]), (w.heap.size + 1, [.int .i64 yw, .bool yn, .string yd, .int .i64 yk]), (w.heap.size + 1 + 1, [.int .i64 0, .bool false, .string ⟨#[]⟩, .int .i64 0])] W) → Below w.heap.size w W := fun W k => (k.2.2.2 : KB w [(w.heap.size, [.int .i64 xw, .bool xn, .string xd, .int .i64 xk]), (w.heap.size + 1, [.int .i64 yw, .bool yn, .string yd, .int .i64 yk]), (w.heap.size + 1 + 1, [.int .i64 0, .bool false, .string ⟨#[]⟩, .int .i64 0])] W).2
 have HSO := Lib.hid SO
 clear SK SO
 go_upto_region 1 with fail
 go_cut [5, 6] (fun s3 s4 wx => ∃ g, s3 = .pointer (some ⟨g, 0, none⟩) ∧ s4 = .int .i64 ql ∧ HasL wx g [.bool ln, .string ld, .int .i64 lk] ∧ KB w [(w.heap.size, [.int .i64 xw, .bool xn, .string xd, .int .i64 xk]), (w.heap.size + 1, [.int .i64 yw, .bool yn, .string yd, .int .i64 yk]), (w.heap.size + 1 + 1, [.int .i64 0, .bool false, .string ⟨#[]⟩, .int .i64 0])] wx ∧ w.heap.size + 3 ≤ g)
 case first =>
  go_region_held3 (fun W => W.cell? ⟨w.heap.size + 1, 1, none⟩ = some (.bool yn) ∧ W.cell? ⟨w.heap.size + 1, 2, none⟩ = some (.string yd) ∧ W.cell? ⟨w.heap.size + 1, 3, none⟩ = some (.int .i64 yk) ∧ KB w [(w.heap.size, [.int .i64 xw, .bool xn, .string xd, .int .i64 xk]), (w.heap.size + 1, [.int .i64 yw, .bool yn, .string yd, .int .i64 yk]), (w.heap.size + 1 + 1, [.int .i64 0, .bool false, .string ⟨#[]⟩, .int .i64 0])] W)
   (first | exact HSK.out _ (HKB.out.drew1) | exact HSK.out _ k2.out | exact HSK.out _ k1.out | exact HSK.out _ (k2.out.alloc _) | exact HSK.out _ (KB.alloc (And.right (And.right (And.right (by assumption)))) _) | exact HSK.out _ (KB.set (KB.set (KB.set (And.right (And.right (And.right (by assumption)))) (by first | omega | (have := (k1.out.one 2 rfl).lt; simp at this ⊢; omega) | (simp; omega) | simp) (by intro p hp; simp only [List.mem_cons, List.mem_nil_iff, or_false] at hp; rcases hp with rfl | rfl | rfl <;> simp) 0 _) (by first | omega | (have := (k1.out.one 2 rfl).lt; simp at this ⊢; omega) | (simp; omega) | simp) (by intro p hp; simp only [List.mem_cons, List.mem_nil_iff, or_false] at hp; rcases hp with rfl | rfl | rfl <;> simp) 1 _) (by first | omega | (have := (k1.out.one 2 rfl).lt; simp at this ⊢; omega) | (simp; omega) | simp) (by intro p hp; simp only [List.mem_cons, List.mem_nil_iff, or_false] at hp; rcases hp with rfl | rfl | rfl <;> simp) 2 _))
   (first
    | (go_at_call 62; refine (cO _ (HT0.out.next (HSO.out _ (by assumption)))).mono ?_; rintro e v1 ⟨rfl, u1⟩; have k1 := Lib.hid (KB.call (And.right (And.right (And.right (by assumption)))) u1); (try (have n1 : HasL v1 (w.heap.size + 1 + 1 + 1) [.bool false, .string ⟨#[]⟩, .int .i64 0] := (by have h := (HasL.new (((w.alloc (.cells #[.int .i64 xw, .bool xn, .string xd, .int .i64 xk] 69)).alloc (.cells #[.int .i64 yw, .bool yn, .string yd, .int .i64 yk] 69)).alloc (.cells #[.int .i64 0, .bool false, .string ⟨#[]⟩, .int .i64 0] 69)).drew [.bool false, .string ⟨#[]⟩, .int .i64 0] 23).call u1; simpa using h))))
    | (go_at_call 104; refine (cL _ (HT0.out.next (HSO.out _ (by assumption)))).mono ?_; rintro e v2 ⟨rfl, u2⟩; have k2 := Lib.hid (KB.call (And.right (And.right (And.right (by assumption)))) u2); (first | have n2 := HasL.call n1 u2 | have n2 := (HasL.new v1 [.bool false, .string ⟨#[]⟩, .int .i64 0] 23).call u2 | skip); (try (have y0 := n2.cell 0 rfl; have x0 := n2.frozen 0 rfl; have y1 := n2.cell 1 rfl; have x1 := n2.frozen 1 rfl; have y2 := n2.cell 2 rfl; have x2 := n2.frozen 2 rfl))))
  all_goals (rename_i hh; have hk := Lib.hid hh; clear hh; go_wp2_with fail; go_meet; exact ⟨_, rfl, rfl, by first | exact HasL.new v2 [.bool ln, .string ld, .int .i64 lk] 23 | exact n2.set 0 _ (by simp) |>.set 1 _ (by simp) |>.set 2 _ (by simp), by exact (hk.out).2.2.2, by first | (have := (k2.out.one 2 rfl).lt; simp at this ⊢; omega) | (have := (k1.out.one 2 rfl).lt; simp at this ⊢; omega) | (simp; omega) | simp⟩)
 case rest =>
  obtain ⟨g, rfl, rfl, hG, hK, hg⟩ := hcut
  have HX := Lib.hid (hK.one 0 rfl)
  have HY := Lib.hid (hK.one 1 rfl)
  have HR := Lib.hid (hK.one 2 rfl)
  have HG := Lib.hid hG
  have HW := Lib.hid hK.2
  have le_G : w.heap.size ≤ g := by omega
  have HT := Lib.hid (HT0.out.next hK.2)
  have NE_G_X : Hid (g ≠ w.heap.size ∧ w.heap.size ≠ g) := Lib.hid (by omega)
  have NE_G_Y : Hid (g ≠ w.heap.size + 1 ∧ w.heap.size + 1 ≠ g) := Lib.hid (by omega)
  have NE_G_R : Hid (g ≠ w.heap.size + 1 + 1 ∧ w.heap.size + 1 + 1 ≠ g) := Lib.hid (by omega)
  clear HKB HSK HSO hK hG hg cO cL
  obtain ⟨dX_0, dX_1, dX_2, dX_3⟩ := HX.out.all4
  obtain ⟨dG_0, dG_1, dG_2⟩ := HG.out.all3
  go_wp2_with fail
  refine (cS _ HT.out).mono ?_
  rintro e w1 ⟨rfl, b1⟩
  replace HX := Lib.hid (HX.out.call b1)
  replace HY := Lib.hid (HY.out.call b1)
  replace HR := Lib.hid (HR.out.call b1)
  replace HG := Lib.hid (HG.out.call b1)
  replace HW := Lib.hid (step HW.out b1)
  replace HT := Lib.hid (HT.out.next b1)
  clear b1 dX_0 dX_1 dX_2 dX_3 dG_0 dG_1 dG_2
  have ne_Z_X : w1.heap.size ≠ w.heap.size := by have := HX.out.lt; omega
  have nf_Z_X : w.heap.size ≠ w1.heap.size := by have := HX.out.lt; omega
  have NE_Z_X := Lib.hid (And.intro ne_Z_X nf_Z_X)
  have ne_Z_Y : w1.heap.size ≠ (w.heap.size + 1) := by have := HY.out.lt; omega
  have nf_Z_Y : (w.heap.size + 1) ≠ w1.heap.size := by have := HY.out.lt; omega
  have NE_Z_Y := Lib.hid (And.intro ne_Z_Y nf_Z_Y)
  have ne_Z_R : w1.heap.size ≠ (w.heap.size + 1 + 1) := by have := HR.out.lt; omega
  have nf_Z_R : (w.heap.size + 1 + 1) ≠ w1.heap.size := by have := HR.out.lt; omega
  have NE_Z_R := Lib.hid (And.intro ne_Z_R nf_Z_R)
  have ne_Z_G : w1.heap.size ≠ g := by have := HG.out.lt; omega
  have nf_Z_G : g ≠ w1.heap.size := by have := HG.out.lt; omega
  have NE_Z_G := Lib.hid (And.intro ne_Z_G nf_Z_G)
  replace HX := Lib.hid (HX.out.alloc (.cells #[.bool false, .string zd, .int .i64 zk] 23))
  replace HY := Lib.hid (HY.out.alloc (.cells #[.bool false, .string zd, .int .i64 zk] 23))
  replace HR := Lib.hid (HR.out.alloc (.cells #[.bool false, .string zd, .int .i64 zk] 23))
  replace HG := Lib.hid (HG.out.alloc (.cells #[.bool false, .string zd, .int .i64 zk] 23))
  have HZ := Lib.hid (HasL.new w1 [.bool false, .string zd, .int .i64 zk] 23)
  have le_Z : w.heap.size ≤ w1.heap.size := HW.out.size
  replace HW := Lib.hid (stepA HW.out (.cells #[.bool false, .string zd, .int .i64 zk] 23))
  replace HT := Lib.hid (HT.out.next (stepA (Below.refl _ _) (.cells #[.bool false, .string zd, .int .i64 zk] 23)))
  obtain ⟨dX_0, dX_1, dX_2, dX_3⟩ := HX.out.all4
  obtain ⟨dY_0, dY_1, dY_2, dY_3⟩ := HY.out.all4
  obtain ⟨dR_0, dR_1, dR_2, dR_3⟩ := HR.out.all4
  obtain ⟨dZ_0, dZ_1, dZ_2⟩ := HZ.out.all3
  obtain ⟨zR_0, zR_1, zR_2, zR_3⟩ := HR.out.free4
  go_wp2
  replace HX := Lib.hid (HX.out.far NE_R_X.out.1 0 (.int .i64 (xw + yw + 1)))
  replace HY := Lib.hid (HY.out.far NE_R_Y.out.1 0 (.int .i64 (xw + yw + 1)))
  replace HR := Lib.hid (HR.out.set 0 (.int .i64 (xw + yw + 1)) (by simp))
  replace HG := Lib.hid (HG.out.far NE_G_R.out.2 0 (.int .i64 (xw + yw + 1)))
  replace HZ := Lib.hid (HZ.out.far NE_Z_R.out.2 0 (.int .i64 (xw + yw + 1)))
  replace HW := Lib.hid (setStep HW.out (show w.heap.size ≤ w.heap.size + 1 + 1 by omega) 0 (.int .i64 (xw + yw + 1)))
  replace HX := Lib.hid (HX.out.far NE_R_X.out.1 1 (.bool false))
  replace HY := Lib.hid (HY.out.far NE_R_Y.out.1 1 (.bool false))
  replace HR := Lib.hid (HR.out.set 1 (.bool false) (by simp))
  replace HG := Lib.hid (HG.out.far NE_G_R.out.2 1 (.bool false))
  replace HZ := Lib.hid (HZ.out.far NE_Z_R.out.2 1 (.bool false))
  replace HW := Lib.hid (setStep HW.out (show w.heap.size ≤ w.heap.size + 1 + 1 by omega) 1 (.bool false))
  replace HX := Lib.hid (HX.out.far NE_R_X.out.1 2 (.string zd))
  replace HY := Lib.hid (HY.out.far NE_R_Y.out.1 2 (.string zd))
  replace HR := Lib.hid (HR.out.set 2 (.string zd) (by simp))
  replace HG := Lib.hid (HG.out.far NE_G_R.out.2 2 (.string zd))
  replace HZ := Lib.hid (HZ.out.far NE_Z_R.out.2 2 (.string zd))
  replace HW := Lib.hid (setStep HW.out (show w.heap.size ≤ w.heap.size + 1 + 1 by omega) 2 (.string zd))
  replace HX := Lib.hid (HX.out.far NE_R_X.out.1 3 (.int .i64 zk))
  replace HY := Lib.hid (HY.out.far NE_R_Y.out.1 3 (.int .i64 zk))
  replace HR := Lib.hid (HR.out.set 3 (.int .i64 zk) (by simp))
  replace HG := Lib.hid (HG.out.far NE_G_R.out.2 3 (.int .i64 zk))
  replace HZ := Lib.hid (HZ.out.far NE_Z_R.out.2 3 (.int .i64 zk))
  replace HW := Lib.hid (setStep HW.out (show w.heap.size ≤ w.heap.size + 1 + 1 by omega) 3 (.int .i64 zk))
  obtain ⟨r0, r1, r2, r3⟩ := HR.out.all4
  exact bodyPost_ret (v := .agg #[.int .i64 (xw + yw + 1), .bool false, .string zd, .int .i64 zk]) (by simp [results, Tryz.results64, go_sem, r0, r1, r2, r3]) rfl ⟨rfl, HW.out⟩
end Go.Proofs.YtmdnijehoagamaaGreatDoor
