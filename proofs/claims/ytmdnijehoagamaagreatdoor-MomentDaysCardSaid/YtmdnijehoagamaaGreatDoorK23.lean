/- NE NP OB SA -/
import Derived.Test.YtmdnijehoagamaaGreatDoorK22
set_option linter.unusedVariables false
set_option linter.unusedSimpArgs false
namespace Go.Proofs.YtmdnijehoagamaaGreatDoor
set_option maxRecDepth 100000
set_option maxHeartbeats 8000000
open Go.RowKit
theorem pcompare_ne (xw : Int) (xn : Bool) (xd : ByteArray) (xk yw : Int) (yn : Bool) (yd : ByteArray) (yk q qe : Int) (hw : xw ≠ yw)
  (cC : ∀ W, Tabs W → Calls Tryz.prog 99 #[.agg #[.bool xn, .string xd, .int .i64 xk], .agg #[.bool yn, .string yd, .int .i64 yk]] W fun e w' => e = .returned (.tuple #[.int .i64 q, .int .i64 qe]) ∧ Below W.heap.size W w')
  (w : World) (hT : Tabs w) :
  Calls Tryz.prog 56 #[.agg #[.int .i64 xw, .bool xn, .string xd, .int .i64 xk], .agg #[.int .i64 yw, .bool yn, .string yd, .int .i64 yk]] w fun e w' => e = .returned (.int .i64 (Lib.compareInt xw yw)) ∧ Below w.heap.size w w' := by
 have cM := fun W => (Tryz.cmp_Compare_int xw yw W).mono fun e w' (h : e = .returned (.int .i64 (Lib.compareInt xw yw)) ∧ w' = W) => (⟨h.1, h.2.symm⟩ : e = .returned (.int .i64 (Lib.compareInt xw yw)) ∧ W = w')
 have b1 : (xw != yw) = true := by simp [hw]
 have HWn := Lib.hid hw
 clear hw
 go_enter Tryz.func56, Tryz.ntmps56
 have HX : Hid (HasL ((w.alloc (.cells #[.int .i64 xw, .bool xn, .string xd, .int .i64 xk] 69)).alloc (.cells #[.int .i64 yw, .bool yn, .string yd, .int .i64 yk] 69)) w.heap.size [.int .i64 xw, .bool xn, .string xd, .int .i64 xk]) := Lib.hid ((HasL.new w [.int .i64 xw, .bool xn, .string xd, .int .i64 xk] 69).alloc (.cells #[.int .i64 yw, .bool yn, .string yd, .int .i64 yk] 69))
 have HY : Hid (HasL ((w.alloc (.cells #[.int .i64 xw, .bool xn, .string xd, .int .i64 xk] 69)).alloc (.cells #[.int .i64 yw, .bool yn, .string yd, .int .i64 yk] 69)) (w.heap.size + 1) [.int .i64 yw, .bool yn, .string yd, .int .i64 yk]) := Lib.hid (by have hZz := (HasL.new (w.alloc (.cells #[.int .i64 xw, .bool xn, .string xd, .int .i64 xk] 69)) [.int .i64 yw, .bool yn, .string yd, .int .i64 yk] 69); rw [show (w.alloc (.cells #[.int .i64 xw, .bool xn, .string xd, .int .i64 xk] 69)).heap.size = w.heap.size + 1 by simp] at hZz; exact hZz)
 have HW := Lib.hid (stepA (stepA (Below.refl w.heap.size w) (.cells #[.int .i64 xw, .bool xn, .string xd, .int .i64 xk] 69)) (.cells #[.int .i64 yw, .bool yn, .string yd, .int .i64 yk] 69))
 have HT0 := Lib.hid hT
 have HT := Lib.hid (hT.next HW.out)
 clear hT
 have NE_Y_X : Hid ((w.heap.size + 1) ≠ w.heap.size ∧ w.heap.size ≠ (w.heap.size + 1)) := Lib.hid (by omega)
 obtain ⟨dX_0, dX_1, dX_2, dX_3⟩ := HX.out.all4
 obtain ⟨dY_0, dY_1, dY_2, dY_3⟩ := HY.out.all4
 go_wp2_with fail
 refine (cM _).mono ?_
 rintro e w_ ⟨rfl, rfl⟩
 clear dX_0 dX_1 dX_2 dX_3 dY_0 dY_1 dY_2 dY_3
 go_wp2
 go_ret
 exact ⟨rfl, HW.out⟩
theorem pcompare_eq (xw : Int) (xn : Bool) (xd : ByteArray) (xk yw : Int) (yn : Bool) (yd : ByteArray) (yk q qe : Int) (hw : xw = yw)
  (cC : ∀ W, Tabs W → Calls Tryz.prog 99 #[.agg #[.bool xn, .string xd, .int .i64 xk], .agg #[.bool yn, .string yd, .int .i64 yk]] W fun e w' => e = .returned (.tuple #[.int .i64 q, .int .i64 qe]) ∧ Below W.heap.size W w')
  (w : World) (hT : Tabs w) :
  Calls Tryz.prog 56 #[.agg #[.int .i64 xw, .bool xn, .string xd, .int .i64 xk], .agg #[.int .i64 yw, .bool yn, .string yd, .int .i64 yk]] w fun e w' => e = .returned (.int .i64 (q)) ∧ Below w.heap.size w w' := by
 subst hw
 have b1 : (xw != xw) = false := by simp
 go_enter Tryz.func56, Tryz.ntmps56
 have HX : Hid (HasL ((w.alloc (.cells #[.int .i64 xw, .bool xn, .string xd, .int .i64 xk] 69)).alloc (.cells #[.int .i64 xw, .bool yn, .string yd, .int .i64 yk] 69)) w.heap.size [.int .i64 xw, .bool xn, .string xd, .int .i64 xk]) := Lib.hid ((HasL.new w [.int .i64 xw, .bool xn, .string xd, .int .i64 xk] 69).alloc (.cells #[.int .i64 xw, .bool yn, .string yd, .int .i64 yk] 69))
 have HY : Hid (HasL ((w.alloc (.cells #[.int .i64 xw, .bool xn, .string xd, .int .i64 xk] 69)).alloc (.cells #[.int .i64 xw, .bool yn, .string yd, .int .i64 yk] 69)) (w.heap.size + 1) [.int .i64 xw, .bool yn, .string yd, .int .i64 yk]) := Lib.hid (by have hZz := (HasL.new (w.alloc (.cells #[.int .i64 xw, .bool xn, .string xd, .int .i64 xk] 69)) [.int .i64 xw, .bool yn, .string yd, .int .i64 yk] 69); rw [show (w.alloc (.cells #[.int .i64 xw, .bool xn, .string xd, .int .i64 xk] 69)).heap.size = w.heap.size + 1 by simp] at hZz; exact hZz)
 have HW := Lib.hid (stepA (stepA (Below.refl w.heap.size w) (.cells #[.int .i64 xw, .bool xn, .string xd, .int .i64 xk] 69)) (.cells #[.int .i64 xw, .bool yn, .string yd, .int .i64 yk] 69))
 have HT0 := Lib.hid hT
 have HT := Lib.hid (hT.next HW.out)
 clear hT
 have NE_Y_X : Hid ((w.heap.size + 1) ≠ w.heap.size ∧ w.heap.size ≠ (w.heap.size + 1)) := Lib.hid (by omega)
 obtain ⟨dX_0, dX_1, dX_2, dX_3⟩ := HX.out.all4
 obtain ⟨dY_0, dY_1, dY_2, dY_3⟩ := HY.out.all4
 go_wp2_with fail
 refine (cC _ HT.out).mono ?_
 rintro e w1 ⟨rfl, b1⟩
 replace HX := Lib.hid (HX.out.call b1)
 replace HY := Lib.hid (HY.out.call b1)
 replace HW := Lib.hid (step HW.out b1)
 replace HT := Lib.hid (HT.out.next b1)
 clear b1 dX_0 dX_1 dX_2 dX_3 dY_0 dY_1 dY_2 dY_3
 go_wp2
 go_ret
 exact ⟨rfl, HW.out⟩
theorem ppoint_any (k y mo d hr mi : Int) (sn : Bool) (sd : ByteArray) (sk : Int) (zd : Bool) (z lw : Int) (tn : Bool) (td : ByteArray) (tk : Int) (l0 : -1000000000000000 ≤ lw) (l1 : lw ≤ 900000000000000) (z0 : -1000 ≤ z) (z1 : z ≤ 1000)
  (cK : ∀ W, Tabs W → Calls Tryz.prog 65 #[.agg #[.int .i64 k, .int .i64 y, .int .i64 mo, .int .i64 d, .int .i64 hr, .int .i64 mi, .bool sn, .string sd, .int .i64 sk, .bool zd, .int .i64 z]] W fun e w' => e = .returned (.agg #[.int .i64 lw, .bool tn, .string td, .int .i64 tk]) ∧ Below W.heap.size W w')
  (w : World) (hT : Tabs w) :
  Calls Tryz.prog 53 #[.agg #[.int .i64 k, .int .i64 y, .int .i64 mo, .int .i64 d, .int .i64 hr, .int .i64 mi, .bool sn, .string sd, .int .i64 sk, .bool zd, .int .i64 z]] w fun e w' => e = .returned (.agg #[.int .i64 (lw + -60 * z), .bool tn, .string td, .int .i64 tk]) ∧ Below w.heap.size w w' := by
 go_enter Tryz.func53, Tryz.ntmps53
 have HA : Hid (HasL ((w.alloc (.cells #[.int .i64 k, .int .i64 y, .int .i64 mo, .int .i64 d, .int .i64 hr, .int .i64 mi, .bool sn, .string sd, .int .i64 sk, .bool zd, .int .i64 z] 25)).alloc (.cells #[.int .i64 0, .bool false, .string ⟨#[]⟩, .int .i64 0] 69)) w.heap.size [.int .i64 k, .int .i64 y, .int .i64 mo, .int .i64 d, .int .i64 hr, .int .i64 mi, .bool sn, .string sd, .int .i64 sk, .bool zd, .int .i64 z]) := Lib.hid ((HasL.new w [.int .i64 k, .int .i64 y, .int .i64 mo, .int .i64 d, .int .i64 hr, .int .i64 mi, .bool sn, .string sd, .int .i64 sk, .bool zd, .int .i64 z] 25).alloc (.cells #[.int .i64 0, .bool false, .string ⟨#[]⟩, .int .i64 0] 69))
 have HR : Hid (HasL ((w.alloc (.cells #[.int .i64 k, .int .i64 y, .int .i64 mo, .int .i64 d, .int .i64 hr, .int .i64 mi, .bool sn, .string sd, .int .i64 sk, .bool zd, .int .i64 z] 25)).alloc (.cells #[.int .i64 0, .bool false, .string ⟨#[]⟩, .int .i64 0] 69)) (w.heap.size + 1) [.int .i64 0, .bool false, .string ⟨#[]⟩, .int .i64 0]) := Lib.hid (by have hZz := (HasL.new (w.alloc (.cells #[.int .i64 k, .int .i64 y, .int .i64 mo, .int .i64 d, .int .i64 hr, .int .i64 mi, .bool sn, .string sd, .int .i64 sk, .bool zd, .int .i64 z] 25)) [.int .i64 0, .bool false, .string ⟨#[]⟩, .int .i64 0] 69); rw [show (w.alloc (.cells #[.int .i64 k, .int .i64 y, .int .i64 mo, .int .i64 d, .int .i64 hr, .int .i64 mi, .bool sn, .string sd, .int .i64 sk, .bool zd, .int .i64 z] 25)).heap.size = w.heap.size + 1 by simp] at hZz; exact hZz)
 have HW := Lib.hid (stepA (stepA (Below.refl w.heap.size w) (.cells #[.int .i64 k, .int .i64 y, .int .i64 mo, .int .i64 d, .int .i64 hr, .int .i64 mi, .bool sn, .string sd, .int .i64 sk, .bool zd, .int .i64 z] 25)) (.cells #[.int .i64 0, .bool false, .string ⟨#[]⟩, .int .i64 0] 69))
 have HT0 := Lib.hid hT
 have HT := Lib.hid (hT.next HW.out)
 clear hT
 have NE_R_A : Hid ((w.heap.size + 1) ≠ w.heap.size ∧ w.heap.size ≠ (w.heap.size + 1)) := Lib.hid (by omega)
 have g1 : IntKind.i64.wrap (-60 * z) = -60 * z := IntWalk.i64_in _ (by omega)
 have cL := fun W => p_laterP lw (-60 * z) tn td tk (by omega) (by omega) (by omega) (by omega) W
 go_wp2_with fail
 have HKN : Hid (KN w [(w.heap.size, [.int .i64 k, .int .i64 y, .int .i64 mo, .int .i64 d, .int .i64 hr, .int .i64 mi, .bool sn, .string sd, .int .i64 sk, .bool zd, .int .i64 z])] (w.heap.size + 1) 4 _) := Lib.hid ⟨⟨fun p hp => by
   simp only [List.mem_cons, List.mem_nil_iff, or_false] at hp
   subst hp
   exact HA.out, HW.out⟩, HR.out.n⟩
 have HLP : Hid (∀ p ∈ ([(w.heap.size, [.int .i64 k, .int .i64 y, .int .i64 mo, .int .i64 d, .int .i64 hr, .int .i64 mi, .bool sn, .string sd, .int .i64 sk, .bool zd, .int .i64 z])] : List (Nat × List Value)), (w.heap.size + 1) ≠ p.1) := Lib.hid (by
   intro p hp
   simp only [List.mem_cons, List.mem_nil_iff, or_false] at hp
   subst hp
   exact NE_R_A.out.1)
 have SK : ∀ W, KN w [(w.heap.size, [.int .i64 k, .int .i64 y, .int .i64 mo, .int .i64 d, .int .i64 hr, .int .i64 mi, .bool sn, .string sd, .int .i64 sk, .bool zd, .int .i64 z])] (w.heap.size + 1) 4 W → (W.cell? ⟨w.heap.size, 0, none⟩ = some (.int .i64 k) ∧ W.cell? ⟨w.heap.size, 1, none⟩ = some (.int .i64 y) ∧ W.cell? ⟨w.heap.size, 2, none⟩ = some (.int .i64 mo) ∧ W.cell? ⟨w.heap.size, 3, none⟩ = some (.int .i64 d) ∧ W.cell? ⟨w.heap.size, 4, none⟩ = some (.int .i64 hr) ∧ W.cell? ⟨w.heap.size, 5, none⟩ = some (.int .i64 mi) ∧ W.cell? ⟨w.heap.size, 6, none⟩ = some (.bool sn) ∧ W.cell? ⟨w.heap.size, 7, none⟩ = some (.string sd) ∧ W.cell? ⟨w.heap.size, 8, none⟩ = some (.int .i64 sk) ∧ W.cell? ⟨w.heap.size, 9, none⟩ = some (.bool zd) ∧ W.cell? ⟨w.heap.size, 10, none⟩ = some (.int .i64 z) ∧ KN w [(w.heap.size, [.int .i64 k, .int .i64 y, .int .i64 mo, .int .i64 d, .int .i64 hr, .int .i64 mi, .bool sn, .string sd, .int .i64 sk, .bool zd, .int .i64 z])] (w.heap.size + 1) 4 W) := fun W kq => ⟨(kq.1.one 0 rfl).cell 0 rfl, (kq.1.one 0 rfl).cell 1 rfl, (kq.1.one 0 rfl).cell 2 rfl, (kq.1.one 0 rfl).cell 3 rfl, (kq.1.one 0 rfl).cell 4 rfl, (kq.1.one 0 rfl).cell 5 rfl, (kq.1.one 0 rfl).cell 6 rfl, (kq.1.one 0 rfl).cell 7 rfl, (kq.1.one 0 rfl).cell 8 rfl, (kq.1.one 0 rfl).cell 9 rfl, (kq.1.one 0 rfl).cell 10 rfl, kq⟩
 have HSK := Lib.hid SK
 have SO : ∀ W, (W.cell? ⟨w.heap.size, 0, none⟩ = some (.int .i64 k) ∧ W.cell? ⟨w.heap.size, 1, none⟩ = some (.int .i64 y) ∧ W.cell? ⟨w.heap.size, 2, none⟩ = some (.int .i64 mo) ∧ W.cell? ⟨w.heap.size, 3, none⟩ = some (.int .i64 d) ∧ W.cell? ⟨w.heap.size, 4, none⟩ = some (.int .i64 hr) ∧ W.cell? ⟨w.heap.size, 5, none⟩ = some (.int .i64 mi) ∧ W.cell? ⟨w.heap.size, 6, none⟩ = some (.bool sn) ∧ W.cell? ⟨w.heap.size, 7, none⟩ = some (.string sd) ∧ W.cell? ⟨w.heap.size, 8, none⟩ = some (.int .i64 sk) ∧ W.cell? ⟨w.heap.size, 9, none⟩ = some (.bool zd) ∧ W.cell? ⟨w.heap.size, 10, none⟩ = some (.int .i64 z) ∧ KN w [(w.heap.size, [.int .i64 k, .int .i64 y, .int .i64 mo, .int .i64 d, .int .i64 hr, .int .i64 mi, .bool sn, .string sd, .int .i64 sk, .bool zd, .int .i64 z])] (w.heap.size + 1) 4 W) → Below w.heap.size w W := fun W kq => (kq.2.2.2.2.2.2.2.2.2.2.2 : KN w [(w.heap.size, [.int .i64 k, .int .i64 y, .int .i64 mo, .int .i64 d, .int .i64 hr, .int .i64 mi, .bool sn, .string sd, .int .i64 sk, .bool zd, .int .i64 z])] (w.heap.size + 1) 4 W).1.2
 have HSO := Lib.hid SO
 clear SK SO
 go_region_held3 (fun W => W.cell? ⟨w.heap.size, 0, none⟩ = some (.int .i64 k) ∧ W.cell? ⟨w.heap.size, 1, none⟩ = some (.int .i64 y) ∧ W.cell? ⟨w.heap.size, 2, none⟩ = some (.int .i64 mo) ∧ W.cell? ⟨w.heap.size, 3, none⟩ = some (.int .i64 d) ∧ W.cell? ⟨w.heap.size, 4, none⟩ = some (.int .i64 hr) ∧ W.cell? ⟨w.heap.size, 5, none⟩ = some (.int .i64 mi) ∧ W.cell? ⟨w.heap.size, 6, none⟩ = some (.bool sn) ∧ W.cell? ⟨w.heap.size, 7, none⟩ = some (.string sd) ∧ W.cell? ⟨w.heap.size, 8, none⟩ = some (.int .i64 sk) ∧ W.cell? ⟨w.heap.size, 9, none⟩ = some (.bool zd) ∧ W.cell? ⟨w.heap.size, 10, none⟩ = some (.int .i64 z) ∧ KN w [(w.heap.size, [.int .i64 k, .int .i64 y, .int .i64 mo, .int .i64 d, .int .i64 hr, .int .i64 mi, .bool sn, .string sd, .int .i64 sk, .bool zd, .int .i64 z])] (w.heap.size + 1) 4 W)
  (first | exact HSK.out _ HKN.out.drew1 | exact HSK.out _ k2.out | exact HSK.out _ k1.out | exact HSK.out _ (KN.set (KN.set (KN.set (KN.set (And.right (And.right (And.right (And.right (And.right (And.right (And.right (And.right (And.right (And.right (And.right (by assumption)))))))))))) HLP.out (Nat.le_succ _) 0 _ (by decide)) HLP.out (Nat.le_succ _) 1 _ (by decide)) HLP.out (Nat.le_succ _) 2 _ (by decide)) HLP.out (Nat.le_succ _) 3 _ (by decide)))
  (first
   | (go_at_call 65; refine (cK _ (HT0.out.next (HSO.out _ (by assumption)))).mono ?_; rintro e v1 ⟨rfl, u1⟩; have k1 := Lib.hid (KN.call (And.right (And.right (And.right (And.right (And.right (And.right (And.right (And.right (And.right (And.right (And.right (by assumption)))))))))))) u1); have p1 := Lib.hid ((HR.out.drew1).call u1); clear u1)
   | (go_at_call 57; refine (cL _).mono ?_; rintro e v2 ⟨rfl, u2⟩; have k2 := Lib.hid (KN.call (And.right (And.right (And.right (And.right (And.right (And.right (And.right (And.right (And.right (And.right (And.right (by assumption)))))))))))) u2); have p2 := Lib.hid ((p1.out).call u2); clear u2; have y0 := p2.out.cell 0 rfl; have x0 := p2.out.frozen 0 rfl; have y1 := p2.out.cell 1 rfl; have x1 := p2.out.frozen 1 rfl; have y2 := p2.out.cell 2 rfl; have x2 := p2.out.frozen 2 rfl; have y3 := p2.out.cell 3 rfl; have x3 := p2.out.frozen 3 rfl))
 rename_i hh
 have hk := Lib.hid (hh.2.2.2.2.2.2.2.2.2.2.2 : KN w [(w.heap.size, [.int .i64 k, .int .i64 y, .int .i64 mo, .int .i64 d, .int .i64 hr, .int .i64 mi, .bool sn, .string sd, .int .i64 sk, .bool zd, .int .i64 z])] (w.heap.size + 1) 4 _)
 have hp := Lib.hid ((((p2.out.set 0 (.int .i64 (lw + -60 * z)) (by simp)).set 1 (.bool tn) (by simp)).set 2 (.string td) (by simp)).set 3 (.int .i64 tk) (by simp))
 clear hh HKN HSK HSO HLP k1 p1 k2 p2
 clear y0 x0 y1 x1 y2 x2 y3 x3
 obtain ⟨r0, r1, r2, r3⟩ := hp.out.all4
 go_wp2
 exact bodyPost_ret (v := .agg #[.int .i64 (lw + -60 * z), .bool tn, .string td, .int .i64 tk]) (by simp [results, Tryz.results53, go_sem, r0, r1, r2, r3]) rfl ⟨rfl, hk.out.1.2⟩
end Go.Proofs.YtmdnijehoagamaaGreatDoor
namespace Go.Proofs.YtmdnijehoagamaaGreatDoor
open Go.RowKit
theorem sixty_V : vM 130 sixtyD = 60 * ((10 ^ 130 : Nat) : Int) := by
 unfold vM sv
 rw [sixty_is.num_eq, sixty_is.scl_eq]
 rfl
theorem OkF.small {m : Mom} (h : OkF m) (ht : timedB m.k = true) : SmallD m.sec ∧ 0 ≤ vM 130 m.sec ∧ vM 130 m.sec < 60 * ((10 ^ 130 : Nat) : Int) := by
 obtain ⟨_, _, _, _, hv, hn, ho⟩ := h.time ht
 have h1 := ord_V (M := 130) (by omega) hv sixty_is.valid
 rw [sixty_V] at h1
 have h2 : vM 130 m.sec < 60 * ((10 ^ 130 : Nat) : Int) := by
  by_cases hlt : vM 130 m.sec < 60 * ((10 ^ 130 : Nat) : Int)
  ·exact hlt
  ·rw [if_neg hlt] at h1
   split at h1 <;> omega
 have h3 : 0 ≤ vM 130 m.sec := by
  have := vM_neg (M := 130) hv
  rw [hn] at this
  have := of_decide_eq_false this.symm
  omega
 refine ⟨⟨hv, ?_⟩, h3, h2⟩
 have h60 := hv.is.le
 have e : vM 130 m.sec = (num m.sec : Int) * ((10 ^ (130 - scl m.sec) : Nat) : Int) := by
  unfold vM sv
  rw [hn]
  rfl
 rw [e, ← Int.natCast_mul, show (60 : Int) = ((60 : Nat) : Int) from rfl, ← Int.natCast_mul] at h2
 have h4 := Int.ofNat_lt.1 h2
 have h5 : 60 * 10 ^ 130 = 60 * 10 ^ scl m.sec * 10 ^ (130 - scl m.sec) := by rw [Nat.mul_assoc, ← Nat.pow_add, show scl m.sec + (130 - scl m.sec) = 130 by omega]
 rw [h5] at h4
 have h6 := Nat.lt_of_mul_lt_mul_right h4
 exact Nat.lt_of_lt_of_le h6 (Nat.mul_le_mul_right _ (by decide))
theorem OkF.clock {m : Mom} (h : OkF m) : 0 ≤ m.h ∧ m.h ≤ 23 ∧ 0 ≤ m.mi ∧ m.mi ≤ 59 := by
 cases ht : timedB m.k with
 | true => have := h.time ht; omega
 | false => have := h.notime ht; omega
theorem split_w {d : Dec} (hd : SmallD d) : -1000000000001 ≤ (splitS d).w ∧ (splitS d).w ≤ 1000000000000 := by
 obtain ⟨_, _, _, w0, w1⟩ := hd.whole
 unfold splitS intD
 split <;> simp only <;> omega
theorem dayNo_bd {y m d : Int} (y0 : -10000 ≤ y) (y1 : y ≤ 10000) (m0 : 1 ≤ m) (m1 : m ≤ 12) (d0 : 1 ≤ d) (d1 : d ≤ 31) : -4000000 ≤ dayNo y m d ∧ dayNo y m d ≤ 4000000 := by
 have h := cumM_bd y (m - 1).toNat (by omega)
 unfold dayNo fdY
 omega
theorem OkF.days {m : Mom} (h : OkF m) (hd : datedB m.k = true) : -4000000 ≤ dayNo (cntd m.y) m.mo m.d ∧ dayNo (cntd m.y) m.mo m.d ≤ 4000000 ∧ -10000 ≤ cntd m.y ∧ cntd m.y ≤ 10000 ∧ m.d ≤ 31 := by
 obtain ⟨a, b, c, d, e, f, g⟩ := h.date hd
 have h1 := lenM_bd (cntd m.y) m.mo
 have h2 : -10000 ≤ cntd m.y ∧ cntd m.y ≤ 10000 := by unfold cntd; split <;> omega
 have h3 := dayNo_bd h2.1 h2.2 d e f (by omega)
 omega
theorem val_inj6 : ∀ (a b : List UInt8), a.length = b.length → AllD a → AllD b → val a = val b → a = b
 | [], [], _, _, _, _ => rfl
 | [], _ :: _, h, _, _, _ => by simp at h
 | _ :: _, [], h, _, _, _ => by simp at h
 | c :: a, d :: b, h, ha, hb, hv => by
  have hl : a.length = b.length := by simpa using h
  have e1 : val (c :: a) = dg c * 10 ^ a.length + val a := val_cons c a
  have e2 : val (d :: b) = dg d * 10 ^ a.length + val b := by rw [hl]; exact val_cons d b
  have h1 := val_lt ha.tail
  have h2 := val_lt hb.tail
  rw [← hl] at h2
  rw [e1, e2] at hv
  have hp : 0 < 10 ^ a.length := Nat.pow_pos (by omega)
  have hd : dg c = dg d := by
   have q1 : (dg c * 10 ^ a.length + val a) / 10 ^ a.length = dg c := by rw [Nat.mul_comm, Nat.mul_add_div hp, Nat.div_eq_of_lt h1, Nat.add_zero]
   have q2 : (dg d * 10 ^ a.length + val b) / 10 ^ a.length = dg d := by rw [Nat.mul_comm, Nat.mul_add_div hp, Nat.div_eq_of_lt h2, Nat.add_zero]
   rw [← q1, ← q2, hv]
  have hv2 : val a = val b := by rw [hd] at hv; omega
  have e3 : c = d := by
   have k1 := dg_eq c ha.head.1
   have k2 := dg_eq d hb.head.1
   have k3 := ha.head.1
   have k4 := hb.head.1
   apply UInt8.toNat_inj.1
   omega
  rw [e3, val_inj6 a b hl ha.tail hb.tail hv2]
theorem twoL_val : ∀ (k n : Nat), n < 10 ^ k → val (twoL n k) = n
 | 0, n, h => by
  have : n = 0 := by simpa using h
  rw [this]
  rfl
 | k + 1, n, h => by
  rw [twoL, val_snoc, twoL_val k (n / 10) (by rw [Nat.pow_succ] at h; omega), dg_nat (by omega)]
  omega
theorem pad_two {n k : Nat} (h : n < 10 ^ k) (hk : 1 ≤ k) : List.replicate (k - (digs n).length) 48 ++ digs n = twoL n k := by
 have hl := digs_len_le h hk
 refine val_inj6 _ _ ?_ ((AllD.zeros _).append (digs_all n)) (twoL_all k n) ?_
 ·rw [List.length_append, List.length_replicate, twoL_len]
  omega
 ·rw [val_append, val_zeros, Nat.zero_mul, Nat.zero_add, digs_val, twoL_val k n h]
def tenL (a : Dec) : List UInt8 := (txtA a.ds (scl a)).data.toList
def wholeL (a : Dec) : List UInt8 := (tenL a).take ((tenL a).length - scl a)
def tailL (a : Dec) : List UInt8 := if 0 < scl a then 46 :: (tenL a).drop ((tenL a).length - scl a) else []
def secL (a : Dec) : List UInt8 := List.replicate (2 - (wholeL a).length) 48 ++ wholeL a ++ tailL a
theorem text_list (a : Dec) (hn : a.neg = false) : (textOf a).data.toList = wholeL a ++ tailL a := by
 unfold textOf txtC
 rw [hn, if_neg (by simp)]
 unfold txtB wholeL tailL tenL
 rw [show a.sc.toNat = scl a from rfl]
 have hl := bytes_len (txtA a.ds (scl a))
 split
 ·rw [Joins.data_append, Joins.data_append, upto_list, from_list, hl]
  simp
 ·next h => rw [show scl a = 0 by omega, Nat.sub_zero, List.take_length, List.append_nil]
theorem sec_parts {a : Dec} (ha : Valid a) (hlt : num a < 60 * 10 ^ scl a) : AllD (wholeL a) ∧ 1 ≤ (wholeL a).length ∧ (wholeL a).length ≤ 2 ∧ AllD ((tenL a).drop ((tenL a).length - scl a)) ∧ ((tenL a).drop ((tenL a).length - scl a)).length = scl a := by
 obtain ⟨hall, hv, hsz⟩ := txtA_list ha
 have hl := bytes_len (txtA a.ds (scl a))
 refine ⟨hall.take _, ?_, ?_, hall.drop _, ?_⟩
 ·unfold wholeL tenL
  rw [List.length_take]
  omega
 ·unfold wholeL tenL
  rw [List.length_take, hl]
  unfold txtA
  split
  ·rw [app_size, zs_size]; omega
  ·rw [ha.is.ds, numS_size]
   have h0 : 60 * 10 ^ scl a ≤ 10 ^ scl a * 10 ^ 2 := by rw [Nat.mul_comm]; exact Nat.mul_le_mul_left _ (by decide)
   have h1 := digs_len_le (show num a < 10 ^ (scl a + 2) by rw [Nat.pow_add]; omega) (by omega)
   omega
 ·unfold tenL
  rw [List.length_drop, hl]
  omega
def dateL (y mo d : Int) : List UInt8 := (if y < 0 then [45] else []) ++ (twoL y.natAbs 4 ++ 45 :: (twoL mo.toNat 2 ++ 45 :: twoL d.toNat 2))
def clkL (h mi : Int) (s : Dec) : List UInt8 := twoL h.toNat 2 ++ 58 :: (twoL mi.toNat 2 ++ 58 :: secL s)
def zoneL (zd : Bool) (z : Int) : List UInt8 := if zd then (if z = 0 then [90] else (if z < 0 then 45 else 43) :: (twoL (z.natAbs / 60) 2 ++ 58 :: twoL (z.natAbs % 60) 2)) else []
def textL (m : Mom) : List UInt8 := (if datedB m.k then dateL m.y m.mo m.d else []) ++ ((if m.k = 3 then [84] else []) ++ ((if timedB m.k then clkL m.h m.mi m.sec else []) ++ zoneL m.zd m.z))
noncomputable def textS6 (m : Mom) : ByteArray × Int := if okB m then (⟨(textL m).toArray⟩, 0) else (⟨#[]⟩, 2)
theorem ch_one (c : UInt8) (r : List UInt8) : chP c (c :: r) = some ((), r) := by unfold chP isP; simp
theorem is_one (c : UInt8) (r : List UInt8) : isP c (c :: r) = (true, r) := by unfold isP; simp
theorem OkF.sec_lt {m : Mom} (h : OkF m) (ht : timedB m.k = true) : num m.sec < 60 * 10 ^ scl m.sec := by
 obtain ⟨_, _, _, _, hv, hn, ho⟩ := h.time ht
 obtain ⟨_, h1, h2⟩ := h.small ht
 have hsc := hv.is.le
 unfold vM sv at h2
 rw [hn] at h2
 simp only [Bool.false_eq_true, if_false] at h2
 rw [← Int.natCast_mul, show (60 : Int) = ((60 : Nat) : Int) from rfl, ← Int.natCast_mul] at h2
 have h4 := Int.ofNat_lt.1 h2
 have h5 : 60 * 10 ^ 130 = 60 * 10 ^ scl m.sec * 10 ^ (130 - scl m.sec) := by rw [Nat.mul_assoc, ← Nat.pow_add, show scl m.sec + (130 - scl m.sec) = 130 by omega]
 rw [h5] at h4
 exact Nat.lt_of_mul_lt_mul_right h4
theorem mk_valid {neg : Bool} {n s : Nat} (h : (ofOpt (mkDec neg n s)).e = 0) : Valid (ofOpt (mkDec neg n s)).d := by
 rw [mkDec_sign] at h ⊢
 exact (ofOpt_out (M := s) h (Nat.le_refl _)).1
theorem fin_valid {neg : Bool} {a : ByteArray} {sc : Nat} (h : (finS neg a sc).e = 0) : Valid (finS neg a sc).d := by
 unfold finS at h ⊢
 split at h
 ·next g => rw [if_pos g]; exact mk_valid h
 ·cases h
theorem body_valid {neg : Bool} {t : ByteArray} (h : (bodyS neg t).e = 0) : Valid (bodyS neg t).d := by
 unfold bodyS at h ⊢
 split at h
 ·next g => rw [if_pos g]; exact fin_valid h
 ·next g => rw [if_neg g]; exact fin_valid h
theorem read_valid {s : ByteArray} (h : (readS s).e = 0) : Valid (readS s).d := by
 unfold readS at h ⊢
 split at h
 ·next g =>
  rw [dif_pos g]
  split at h
  ·next g1 => rw [if_pos g1]; exact body_valid h
  ·next g1 =>
   rw [if_neg g1]
   split at h
   ·next g2 => rw [if_pos g2]; exact body_valid h
   ·next g2 => rw [if_neg g2]; exact body_valid h
 ·next g => rw [dif_neg g]; exact body_valid h
def validB (d : Dec) : Bool := d.ds.data.toList == digs (num d) && decide (0 ≤ d.sc) && decide ((digs (num d)).length ≤ 60) && decide (d.sc ≤ 60) && (!(num d == 0) || (!d.neg && d.sc == 0)) && (!decide (0 < d.sc) || !(num d % 10 == 0))
theorem valid_iff (d : Dec) : Valid d ↔ validB d = true := by
  unfold validB
  simp only [Bool.and_eq_true, Bool.or_eq_true, Bool.not_eq_true', beq_iff_eq, decide_eq_true_iff, decide_eq_false_iff_not, beq_eq_false_iff_ne]
  constructor
  · rintro ⟨n, s, h⟩
    have hn := h.num_eq
    rw [hn, h.ds, numS_list, h.sc]
    refine ⟨⟨⟨⟨⟨rfl, by omega⟩, h.len⟩, by have := h.le; omega⟩, ?_⟩, ?_⟩
    · by_cases h0 : n = 0
      · have := h.zero h0
        exact Or.inr ⟨this.1, by omega⟩
      · exact Or.inl h0
    · by_cases h0 : 0 < s
      · exact Or.inr (h.last h0)
      · exact Or.inl (by omega)
  · rintro ⟨⟨⟨⟨⟨h1, h2⟩, h3⟩, h4⟩, h5⟩, h6⟩
    refine ⟨num d, d.sc.toNat, bytes_of h1, by omega, h3, by omega, fun h0 => ?_, fun h0 => ?_⟩
    · rcases h5 with h | h
      · exact absurd h0 h
      · exact ⟨h.1, by omega⟩
    · rcases h6 with h | h
      · exact absurd h0 (by omega)
      · exact h
theorem ite_of {α : Type} {p q : Prop} {dp : Decidable p} {dq : Decidable q} (h : p ↔ q) (x y : α) : (@ite α p dp x y) = @ite α q dq x y := by
  by_cases hp : p
  · rw [if_pos hp, if_pos (h.1 hp)]
  · rw [if_neg hp, if_neg fun g => hp (h.2 g)]
theorem both_iff (a b : Dec) : (Valid a ∧ Valid b) ↔ (validB a && validB b) = true := by rw [valid_iff, valid_iff, Bool.and_eq_true]
def addC (a b : Dec) : DRes := if (validB a && validB b) = true then ofOpt (sumSpec a.neg (num a) (scl a) b.neg (num b) (scl b)) else argRes
theorem addC_eq (a b : Dec) : addS a b = addC a b := by unfold addS addC; exact ite_of (both_iff a b) _ _
def subC (a b : Dec) : DRes := if (validB a && validB b) = true then ofOpt (sumSpec a.neg (num a) (scl a) (!b.neg && decide (num b ≠ 0)) (num b) (scl b)) else argRes
theorem subC_eq (a b : Dec) : subS a b = subC a b := by unfold subS subC; exact ite_of (both_iff a b) _ _
def divC (a b : Dec) (k : Int) : DRes := if (validB a && validB b) = true ∧ num b ≠ 0 ∧ 0 ≤ k ∧ k ≤ 60 then ofOpt (divSpec a.neg (num a) (scl a) b.neg (num b) (scl b) k.toNat) else argRes
theorem divC_eq (a b : Dec) (k : Int) : divS a b k = divC a b k := by unfold divS divC; exact ite_of (by rw [both_iff]) _ _
def cmpC (a b : Dec) : Int × Int := if (validB a && validB b) = true then (ordS a b, 0) else (0, 2)
theorem cmpC_eq (a b : Dec) : cmpS a b = cmpC a b := by unfold cmpS cmpC; exact ite_of (both_iff a b) _ _
def chkC (a : Dec) : Int := if validB a = true then 0 else 2
theorem chkC_eq (a : Dec) : chkR a = chkC a := by unfold chkR chkC; exact ite_of (valid_iff a) _ _
def wholeC (d : Dec) : Dec := (divC d oneD 0).d
theorem wholeC_eq (d : Dec) : wholeD d = wholeC d := by unfold wholeD wholeC; rw [divC_eq]
def fracC (d : Dec) : Dec := (subC d (wholeC d)).d
theorem fracC_eq (d : Dec) : fracD d = fracC d := by unfold fracD fracC; rw [subC_eq, wholeC_eq]
def splitC (d : Dec) : Pt := if (fracC d).neg then ⟨intD (wholeC d) - 1, (addC (fracC d) oneD).d⟩ else ⟨intD (wholeC d), fracC d⟩
theorem splitC_eq (d : Dec) : splitS d = splitC d := by unfold splitS splitC; rw [fracC_eq, wholeC_eq, addC_eq]
def restC (a : Dec) : Dec := (subC oneD a).d
theorem restC_eq (d : Dec) : restS d = restC d := by unfold restS restC; rw [subC_eq]
def plusC (a b : Pt) : Pt := if ordS a.f (restC b.f) < 0 then ⟨a.w + b.w, (addC a.f b.f).d⟩ else ⟨a.w + b.w + 1, (subC a.f (restC b.f)).d⟩
theorem plusC_eq (a b : Pt) : plusS a b = plusC a b := by unfold plusS plusC; rw [restC_eq, addC_eq, subC_eq]
def timeC (m : Mom) : Pt := if timedB m.k then ⟨(splitC m.sec).w + (3600 * m.h + 60 * m.mi), (splitC m.sec).f⟩ else ⟨0, zeroD⟩
theorem timeC_eq (m : Mom) : timePt m = timeC m := by unfold timePt timeC; rw [splitC_eq]
def localC (m : Mom) : Pt := if datedB m.k then ⟨(timeC m).w + 86400 * dayNo (cntd m.y) m.mo m.d, (timeC m).f⟩ else timeC m
theorem localC_eq (m : Mom) : localS m = localC m := by unfold localS localC; rw [timeC_eq]
def atC (m : Mom) : Pt := ⟨(localC m).w - 60 * m.z, (localC m).f⟩
theorem atC_eq (m : Mom) : atS m = atC m := by unfold atS atC; rw [localC_eq]
def hintB (h : Int × Int × Int) (k : Int) (p : Pt) : Bool := !datedB k || (decide (1 ≤ h.2.1) && decide (h.2.1 ≤ 12) && decide (1 ≤ h.2.2) && decide (h.2.2 ≤ lenM h.1 h.2.1) && dayNo h.1 h.2.1 h.2.2 == p.w / 86400)
def ofC (h : Int × Int × Int) (k : Int) (p : Pt) : MRes :=
  if datedB k && !dayIn (p.w / 86400) then ⟨momNil, 7⟩
  else
    let t : Int × Int × Int := if datedB k then (wrtY h.1, h.2.1, h.2.2) else (0, 0, 0)
    if timedB k then
      (if (addC (ofSpec (p.w % 86400 % 60)) p.f).e = 0 then ⟨⟨k, t.1, t.2.1, t.2.2, p.w % 86400 / 3600, p.w % 86400 / 60 % 60, (addC (ofSpec (p.w % 86400 % 60)) p.f).d, false, 0⟩, 0⟩
       else ⟨momNil, (addC (ofSpec (p.w % 86400 % 60)) p.f).e⟩)
    else ⟨⟨k, t.1, t.2.1, t.2.2, 0, 0, decNil, false, 0⟩, 0⟩
theorem ofC_eq (h : Int × Int × Int) (k : Int) (p : Pt) (hc : hintB h k p = true) : ofS k p = ofC h k p := by
  unfold ofS ofC
  rw [addC_eq]
  cases hd : datedB k with
  | false => rfl
  | true =>
    unfold hintB at hc
    rw [hd] at hc
    simp only [Bool.not_true, Bool.false_or, Bool.and_eq_true, decide_eq_true_iff, beq_iff_eq] at hc
    rw [dateOf_eq (y := h.1) (m := h.2.1) (d := h.2.2) ⟨hc.1.1.1.1, hc.1.1.1.2, hc.1.1.2, hc.1.2⟩ hc.2]
def belowC (a b : Dec) : Bool := (cmpC a b).2 == 0 && decide ((cmpC a b).1 < 0)
theorem belowC_eq (a b : Dec) : belowB a b = belowC a b := by unfold belowB belowC; rw [cmpC_eq]
def timeIC (h mi : Int) (s : Dec) : Bool := withinB h 0 23 && withinB mi 0 59 && !s.neg && belowC s sixtyD
def timeBC (k h mi : Int) (s : Dec) : Bool := if timedB k then timeIC h mi s else noTime h mi s
def okC (m : Mom) : Bool := (datedB m.k || timedB m.k) && dateB m.k m.y m.mo m.d && timeBC m.k m.h m.mi m.sec && zoneB m.zd m.z
theorem okC_eq (m : Mom) : okB m = okC m := by unfold okB okC timeB timeBC timeIB timeIC; rw [belowC_eq]
def daysC (m : Mom) : Int × Int := if okC m && datedB m.k then (dayNo (cntd m.y) m.mo m.d, 0) else (0, 2)
theorem daysC_eq (m : Mom) : daysS m = daysC m := by unfold daysS daysC; rw [okC_eq]
def normC (h : Int × Int × Int) (m : Mom) : MRes := if okC m && m.zd && timedB m.k then ⟨{ (ofC h m.k (atC m)).m with zd := (ofC h m.k (atC m)).e == 0 }, (ofC h m.k (atC m)).e⟩ else ⟨momNil, 2⟩
theorem normC_eq (h : Int × Int × Int) (m : Mom) (hc : hintB h m.k (atC m) = true) : normS m = normC h m := by unfold normS normC; rw [okC_eq, atC_eq, ofC_eq h _ _ hc]
def cmpC6 (a b : Mom) : Int × Bool × Int :=
  if bothB (okC a) (okC b) a.k b.k then
    (if a.zd == b.zd then (ordP (atC a) (atC b), true, 0)
     else if ordP (atC a) ⟨(atC b).w - 50400, (atC b).f⟩ < 0 then (-1, true, 0)
     else if 0 < ordP (atC a) ⟨(atC b).w + 50400, (atC b).f⟩ then (1, true, 0) else (0, false, 0))
  else (0, false, 2)
theorem cmpC6_eq (a b : Mom) : cmpS6 a b = cmpC6 a b := by unfold cmpS6 cmpC6; rw [okC_eq, okC_eq, atC_eq, atC_eq]
def addArg (m : Mom) (n : Int) (s : Dec) : Pt := plusC (localC (if datedB m.k then laterS m n else m)) (splitC s)
def addC6 (h : Int × Int × Int) (m : Mom) (n : Int) (s : Dec) : MRes :=
  if argB (okC m && chkC s == 0) n (datedB m.k) then
    (if belowC (⟨false, s.ds, s.sc⟩ : Dec) bigD then
      (if datedB m.k && !withinB (laterS m n).y (-9999) 9999 then ⟨momNil, 7⟩
       else if (ofC h m.k (addArg m n s)).e = 0 then ⟨{ (ofC h m.k (addArg m n s)).m with zd := m.zd, z := m.z }, 0⟩ else ⟨momNil, (ofC h m.k (addArg m n s)).e⟩)
     else ⟨momNil, 7⟩)
  else ⟨momNil, 2⟩
theorem addC6_eq (h : Int × Int × Int) (m : Mom) (n : Int) (s : Dec) (hc : hintB h m.k (addArg m n s) = true) : addS6 m n s = addC6 h m n s := by
  unfold addS6 addC6 zonedS
  rw [okC_eq, chkC_eq, belowC_eq, localC_eq, splitC_eq, plusC_eq]
  rw [show plusC (localC (if datedB m.k = true then laterS m n else m)) (splitC s) = addArg m n s from rfl, ofC_eq h _ _ hc]
def textC (m : Mom) : ByteArray × Int := if okC m then (⟨(textL m).toArray⟩, 0) else (⟨#[]⟩, 2)
theorem textC_eq (m : Mom) : textS6 m = textC m := by unfold textS6 textC; rw [okC_eq]
def seenC (m : Mom) : MRes := if okC m then ⟨m, 0⟩ else ⟨momNil, 6⟩
theorem seenC_eq (m : Mom) : seenS m = seenC m := by unfold seenS seenC; rw [okC_eq]
def partsC (k : Int) (p : Parts) : MRes :=
  if timedB k then (if (readS ⟨p.sec.toArray⟩).e = 0 then seenC (p.mom k (readS ⟨p.sec.toArray⟩).d) else ⟨momNil, (readS ⟨p.sec.toArray⟩).e⟩)
  else seenC (p.mom k decNil)
theorem partsC_eq (k : Int) (p : Parts) : partsS k p = partsC k p := by unfold partsS partsC; rw [seenC_eq, seenC_eq]
def readC (k : Int) (s : List UInt8) : MRes :=
  if datedB k || timedB k then (match partsP k s with | none => ⟨momNil, 6⟩ | some p => partsC k p) else ⟨momNil, 2⟩
theorem readC_eq (k : Int) (s : List UInt8) : readS6 k s = readC k s := by
  unfold readS6 readC
  cases partsP k s with
  | none => rfl
  | some p => simp only [partsC_eq]
end Go.Proofs.YtmdnijehoagamaaGreatDoor
