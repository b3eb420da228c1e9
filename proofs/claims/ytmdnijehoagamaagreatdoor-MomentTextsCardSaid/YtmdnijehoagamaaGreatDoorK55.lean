/- OJ -/
import Derived.Test.YtmdnijehoagamaaGreatDoorK26
import Derived.Test.YtmdnijehoagamaaGreatDoorK35
import Derived.Test.YtmdnijehoagamaaGreatDoorK54
set_option linter.unusedVariables false
set_option linter.unusedSimpArgs false
namespace Go.Proofs.YtmdnijehoagamaaGreatDoor
set_option maxRecDepth 100000
set_option maxHeartbeats 8000000
open Go.RowKit
theorem rtext_bad (m : Mom)
  (cV : ∀ W, Calls Tryz.prog 14 #[.agg #[.int .i64 m.k, .int .i64 m.y, .int .i64 m.mo, .int .i64 m.d, .int .i64 m.h, .int .i64 m.mi, .bool m.sec.neg, .string m.sec.ds, .int .i64 m.sec.sc, .bool m.zd, .int .i64 m.z]] W fun e w' => e = .returned (.int .i64 2) ∧ Below W.heap.size W w')
  (w : World) : Calls Tryz.prog 12 #[.agg #[.int .i64 m.k, .int .i64 m.y, .int .i64 m.mo, .int .i64 m.d, .int .i64 m.h, .int .i64 m.mi, .bool m.sec.neg, .string m.sec.ds, .int .i64 m.sec.sc, .bool m.zd, .int .i64 m.z]] w fun e w' => e = .returned (.tuple #[.string ⟨#[]⟩, .int .i64 2]) ∧ Below w.heap.size w w' := by
 go_enter Tryz.func12, Tryz.ntmps12
 have HS := Lib.hid ((KD.nil w).push [.int .i64 m.k, .int .i64 m.y, .int .i64 m.mo, .int .i64 m.d, .int .i64 m.h, .int .i64 m.mi, .bool m.sec.neg, .string m.sec.ds, .int .i64 m.sec.sc, .bool m.zd, .int .i64 m.z] 25 (n := w.heap.size) (by simp))
 obtain ⟨d0_0, d0_1, d0_2, d0_3, d0_4, d0_5, d0_6, d0_7, d0_8, d0_9, d0_10⟩ := (HS.out.at 0 rfl).all11
 go_wp2_with fail
 refine (cV _).mono ?_
 rintro e w1 ⟨rfl, b1⟩
 replace HS := Lib.hid (HS.out.call b1)
 clear d0_0 d0_1 d0_2 d0_3 d0_4 d0_5 d0_6 d0_7 d0_8 d0_9 d0_10 b1
 go_wp2
 go_ret2
 exact ⟨rfl, HS.out.old⟩
theorem rtext_ok (m : Mom) (bd bt k3 ng sh zq zn : Bool) (z1 z2 z3 z4 z5 z6 z7 T P1 P2 P3 S2 R : ByteArray) (q a1 a2 : Int)
  (hs1 : z1.size = 4) (hs2 : z2.size = 2) (hs3 : z3.size = 2) (hs4 : z4.size = 2) (hs5 : z5.size = 2) (hs6 : z6.size = 2) (hs7 : z7.size = 2) (hT2 : T.size ≤ 400)
  (hng : decide (m.y < 0) = ng) (hy0 : -10000 ≤ m.y) (hy1 : m.y ≤ 10000) (hk3 : (m.k == 3) = k3) (hzq : (m.z == 0) = zq) (hzn : decide (m.z < 0) = zn) (hz0 : -840 ≤ m.z) (hz1 : m.z ≤ 840)
  (hP1 : P1 = if bd then (if ng then (⟨#[45]⟩ : ByteArray) ++ z1 ++ ⟨#[45]⟩ ++ z2 ++ ⟨#[45]⟩ ++ z3 else (⟨#[]⟩ : ByteArray) ++ z1 ++ ⟨#[45]⟩ ++ z2 ++ ⟨#[45]⟩ ++ z3) else ⟨#[]⟩) (hP2 : P2 = if k3 then P1 ++ ⟨#[84]⟩ else P1)
  (hsh : sh = (decide (T.size < 2) || T.data.toList[1]? == some 46)) (hS2 : S2 = if sh then (⟨#[48]⟩ : ByteArray) ++ T else T)
  (hP3 : P3 = if bt then P2 ++ z4 ++ ⟨#[58]⟩ ++ z5 ++ ⟨#[58]⟩ ++ S2 else P2)
  (ha1 : zn = true → IntKind.i64.wrap (-m.z.tdiv 60) = a1) (ha2 : zn = true → -m.z.tmod 60 = a2) (hb1 : zn = false → IntKind.i64.wrap (m.z.tdiv 60) = a1) (hb2 : zn = false → m.z.tmod 60 = a2)
  (hR : R = if m.zd then (if zq then P3 ++ ⟨#[90]⟩ else P3 ++ (if zn then ⟨#[45]⟩ else ⟨#[43]⟩) ++ z6 ++ ⟨#[58]⟩ ++ z7) else P3)
  (cV : ∀ W, Calls Tryz.prog 14 #[.agg #[.int .i64 m.k, .int .i64 m.y, .int .i64 m.mo, .int .i64 m.d, .int .i64 m.h, .int .i64 m.mi, .bool m.sec.neg, .string m.sec.ds, .int .i64 m.sec.sc, .bool m.zd, .int .i64 m.z]] W fun e w' => e = .returned (.int .i64 0) ∧ Below W.heap.size W w')
  (cH : ∀ W, Calls Tryz.prog 32 #[.int .i64 m.k] W fun e w' => e = .returned (.bool bd) ∧ W = w')
  (cE : ∀ W, Calls Tryz.prog 33 #[.int .i64 m.k] W fun e w' => e = .returned (.bool bt) ∧ W = w')
  (c1n : ng = true → ∀ W, Calls Tryz.prog 37 #[.int .i64 (-m.y), .int .i64 4] W fun e w' => e = .returned (.string z1) ∧ Below W.heap.size W w')
  (c1p : ng = false → ∀ W, Calls Tryz.prog 37 #[.int .i64 m.y, .int .i64 4] W fun e w' => e = .returned (.string z1) ∧ Below W.heap.size W w')
  (c2 : ∀ W, Calls Tryz.prog 37 #[.int .i64 m.mo, .int .i64 2] W fun e w' => e = .returned (.string z2) ∧ Below W.heap.size W w')
  (c3 : ∀ W, Calls Tryz.prog 37 #[.int .i64 m.d, .int .i64 2] W fun e w' => e = .returned (.string z3) ∧ Below W.heap.size W w')
  (cT : ∀ W, Calls Tryz.prog 44 #[.agg #[.bool m.sec.neg, .string m.sec.ds, .int .i64 m.sec.sc]] W fun e w' => e = .returned (.tuple #[.string T, .int .i64 q]) ∧ Below W.heap.size W w')
  (c4 : ∀ W, Calls Tryz.prog 37 #[.int .i64 m.h, .int .i64 2] W fun e w' => e = .returned (.string z4) ∧ Below W.heap.size W w')
  (c5 : ∀ W, Calls Tryz.prog 37 #[.int .i64 m.mi, .int .i64 2] W fun e w' => e = .returned (.string z5) ∧ Below W.heap.size W w')
  (c6 : ∀ W, Calls Tryz.prog 37 #[.int .i64 a1, .int .i64 2] W fun e w' => e = .returned (.string z6) ∧ Below W.heap.size W w')
  (c7 : ∀ W, Calls Tryz.prog 37 #[.int .i64 a2, .int .i64 2] W fun e w' => e = .returned (.string z7) ∧ Below W.heap.size W w')
  (w : World) : Calls Tryz.prog 12 #[.agg #[.int .i64 m.k, .int .i64 m.y, .int .i64 m.mo, .int .i64 m.d, .int .i64 m.h, .int .i64 m.mi, .bool m.sec.neg, .string m.sec.ds, .int .i64 m.sec.sc, .bool m.zd, .int .i64 m.z]] w fun e w' => e = .returned (.tuple #[.string R, .int .i64 0]) ∧ Below w.heap.size w w' := by
 have HP1 := Lib.hid hP1
 have HP2 := Lib.hid hP2
 have HSH := Lib.hid hsh
 have HS2 := Lib.hid hS2
 have HP3 := Lib.hid hP3
 have HA1 := Lib.hid (And.intro ha1 ha2)
 have HB1 := Lib.hid (And.intro hb1 hb2)
 have HRR := Lib.hid hR
 have HNG := Lib.hid hng
 have HK3 := Lib.hid hk3
 have HZQ := Lib.hid hzq
 have HZN := Lib.hid hzn
 have Hc1n := Lib.hid c1n
 have Hc1p := Lib.hid c1p
 have HTT := Lib.hid hT2
 have sP1 : P1.size ≤ 100 := by
  rw [hP1]
  split
  ·split <;> simp only [app_size, hs1, hs2, hs3] <;> decide
  ·decide
 have sP2 : P2.size ≤ 101 := by
  rw [hP2]
  split
  ·rw [app_size]; show P1.size + 1 ≤ 101; omega
  ·omega
 have sS2 : S2.size ≤ 401 := by
  rw [hS2]
  split
  ·rw [app_size]; show 1 + T.size ≤ 401; omega
  ·omega
 have sP3 : P3.size ≤ 1000 := by
  rw [hP3]
  split
  ·simp only [app_size, hs4, hs5]; show P2.size + 2 + 1 + 2 + 1 + S2.size ≤ 1000; omega
  ·omega
 clear hP1 hP2 hsh hS2 hP3 ha1 ha2 hb1 hb2 hR hng hk3 hzq hzn c1n c1p hT2
 go_enter Tryz.func12, Tryz.ntmps12
 have HS := Lib.hid ((KD.nil w).push [.int .i64 m.k, .int .i64 m.y, .int .i64 m.mo, .int .i64 m.d, .int .i64 m.h, .int .i64 m.mi, .bool m.sec.neg, .string m.sec.ds, .int .i64 m.sec.sc, .bool m.zd, .int .i64 m.z] 25 (n := w.heap.size) (by simp))
 obtain ⟨d0_0, d0_1, d0_2, d0_3, d0_4, d0_5, d0_6, d0_7, d0_8, d0_9, d0_10⟩ := (HS.out.at 0 rfl).all11
 go_wp2_with fail
 refine (cV _).mono ?_
 rintro e w1 ⟨rfl, b1⟩
 replace HS := Lib.hid (HS.out.call b1)
 clear d0_0 d0_1 d0_2 d0_3 d0_4 d0_5 d0_6 d0_7 d0_8 d0_9 d0_10 b1
 have d0_0 := (HS.out.at 0 rfl).cell 0 rfl
 go_wp2_with fail
 refine (cH _).mono ?_
 rintro e w_ ⟨rfl, rfl⟩
 clear d0_0
 go_upto_if 15 with fail
 go_cut [4] (fun s4 wx => s4 = .string P1 ∧ KD w [(w.heap.size, [.int .i64 m.k, .int .i64 m.y, .int .i64 m.mo, .int .i64 m.d, .int .i64 m.h, .int .i64 m.mi, .bool m.sec.neg, .string m.sec.ds, .int .i64 m.sec.sc, .bool m.zd, .int .i64 m.z])] wx)
 case first =>
  have hp := HP1.out
  cases bd
  ·simp only [Bool.false_eq_true, if_false] at hp
   subst hp
   go_wp2_with fail
   go_meet
   exact ⟨rfl, HS.out⟩
  ·have hng := HNG.out
   cases ng
   ·have c1 := Hc1p.out rfl
    simp only [if_true, Bool.false_eq_true, if_false] at hp
    have hyy : ¬ m.y < 0 := of_decide_eq_false hng
    subst hp
    have d0_1 := (HS.out.at 0 rfl).cell 1 rfl
    go_upto_region 8 with fail
    clear d0_1
    refine wp_region_held_drew (S := KD w _) (by kernel_rfl) HS.out.drew1 (fun hHeld => ?_)
    clear HS
    generalize World.drew w1 = x at *
    refine tk (v := ?_) 0 hHeld ?_ ?_
    rotate_left
    focus (intro w hSw; clear hSw; go_simp; (try with_reducible rfl))
    (try simp only [fl])
    refine tk (v := ?_) 1 hHeld ?_ ?_
    rotate_left
    focus (intro w hSw; clear hSw; go_simp; (try with_reducible rfl))
    (try simp only [fl])
    refine tk (v := ?_) 5 hHeld ?_ ?_
    rotate_left
    focus (intro w hSw; clear hSw; go_simp; (try with_reducible rfl))
    (try simp only [fl])
    refine tk (v := ?_) 6 hHeld ?_ ?_
    rotate_left
    focus (intro w hSw; have c2 := (hSw.at 0 rfl).cell 2 rfl; clear hSw; go_simp; (try with_reducible rfl))
    (try simp only [fl])
    refine tk (v := ?_) 10 hHeld ?_ ?_
    rotate_left
    focus (intro w hSw; clear hSw; go_simp; (try with_reducible rfl))
    (try simp only [fl])
    refine tk (v := ?_) 11 hHeld ?_ ?_
    rotate_left
    focus (intro w hSw; have c3 := (hSw.at 0 rfl).cell 3 rfl; clear hSw; go_simp; (try with_reducible rfl))
    (try simp only [fl])
    refine wpAnyH_ready (rs := [2]) (by kernel_rfl) (by simp) ?_
    refine AllReadyH.cons rfl (fun K hK => ?_) AllReadyH.nil
    go_simp
    refine (c1 _).mono ?_
    rintro e y ⟨rfl, un⟩
    replace hHeld := hHeld.call un
    clear un
    refine hK.out _ _ hHeld (fun hX => ?_)
    clear hK K hX
    (try simp only [fl])
    (try clear x)
    rename World => x
    refine tk (v := ?_) 3 hHeld ?_ ?_
    rotate_left
    focus (intro w hSw; clear hSw; go_simp; (try with_reducible rfl))
    (try simp only [fl])
    refine tk (v := ?_) 4 hHeld ?_ ?_
    rotate_left
    focus (intro w hSw; clear hSw; go_simp; (try with_reducible rfl))
    (try simp only [fl])
    refine wpAnyH_ready (rs := [7]) (by kernel_rfl) (by simp) ?_
    refine AllReadyH.cons rfl (fun K hK => ?_) AllReadyH.nil
    go_simp
    refine (c2 _).mono ?_
    rintro e y ⟨rfl, un⟩
    replace hHeld := hHeld.call un
    clear un
    refine hK.out _ _ hHeld (fun hX => ?_)
    clear hK K hX
    (try simp only [fl])
    (try clear x)
    rename World => x
    refine tk (v := ?_) 8 hHeld ?_ ?_
    rotate_left
    focus (intro w hSw; clear hSw; go_simp; (try with_reducible rfl))
    (try simp only [fl])
    refine tk (v := ?_) 9 hHeld ?_ ?_
    rotate_left
    focus (intro w hSw; clear hSw; go_simp; (try with_reducible rfl))
    (try simp only [fl])
    refine wpAnyH_ready (rs := [12]) (by kernel_rfl) (by simp) ?_
    refine AllReadyH.cons rfl (fun K hK => ?_) AllReadyH.nil
    go_simp
    refine (c3 _).mono ?_
    rintro e y ⟨rfl, un⟩
    replace hHeld := hHeld.call un
    clear un
    refine hK.out _ _ hHeld (fun hX => ?_)
    clear hK K hX
    (try simp only [fl])
    (try clear x)
    rename World => x
    refine tk (v := ?_) 13 hHeld ?_ ?_
    rotate_left
    focus (intro w hSw; clear hSw; go_simp; (try with_reducible rfl))
    (try simp only [fl])
    refine tk (v := ?_) 14 hHeld ?_ ?_
    rotate_left
    focus (intro w hSw; clear hSw; go_simp; (try with_reducible rfl))
    (try simp only [fl])
    refine wpAnyH_done (by kernel_rfl) ?_ _
    have HS := Lib.hid hHeld
    clear hHeld
    go_wp2_with fail
    go_meet
    exact ⟨rfl, HS.out⟩
   ·have c1 := Hc1n.out rfl
    simp only [if_true] at hp
    have hyy : m.y < 0 := of_decide_eq_true hng
    have hwy : IntKind.i64.wrap (-m.y) = -m.y := IntWalk.i64_in _ (by omega)
    subst hp
    have d0_1 := (HS.out.at 0 rfl).cell 1 rfl
    go_upto_region 8 with fail
    clear d0_1
    refine wp_region_held_drew (S := KD w _) (by kernel_rfl) HS.out.drew1 (fun hHeld => ?_)
    clear HS
    generalize World.drew w1 = x at *
    refine tk (v := ?_) 0 hHeld ?_ ?_
    rotate_left
    focus (intro w hSw; clear hSw; go_simp; (try with_reducible rfl))
    (try simp only [fl])
    refine tk (v := ?_) 1 hHeld ?_ ?_
    rotate_left
    focus (intro w hSw; clear hSw; go_simp; (try with_reducible rfl))
    (try simp only [fl])
    refine tk (v := ?_) 5 hHeld ?_ ?_
    rotate_left
    focus (intro w hSw; clear hSw; go_simp; (try with_reducible rfl))
    (try simp only [fl])
    refine tk (v := ?_) 6 hHeld ?_ ?_
    rotate_left
    focus (intro w hSw; have c2 := (hSw.at 0 rfl).cell 2 rfl; clear hSw; go_simp; (try with_reducible rfl))
    (try simp only [fl])
    refine tk (v := ?_) 10 hHeld ?_ ?_
    rotate_left
    focus (intro w hSw; clear hSw; go_simp; (try with_reducible rfl))
    (try simp only [fl])
    refine tk (v := ?_) 11 hHeld ?_ ?_
    rotate_left
    focus (intro w hSw; have c3 := (hSw.at 0 rfl).cell 3 rfl; clear hSw; go_simp; (try with_reducible rfl))
    (try simp only [fl])
    refine wpAnyH_ready (rs := [2]) (by kernel_rfl) (by simp) ?_
    refine AllReadyH.cons rfl (fun K hK => ?_) AllReadyH.nil
    go_simp
    refine (c1 _).mono ?_
    rintro e y ⟨rfl, un⟩
    replace hHeld := hHeld.call un
    clear un
    refine hK.out _ _ hHeld (fun hX => ?_)
    clear hK K hX
    (try simp only [fl])
    (try clear x)
    rename World => x
    refine tk (v := ?_) 3 hHeld ?_ ?_
    rotate_left
    focus (intro w hSw; clear hSw; go_simp; (try with_reducible rfl))
    (try simp only [fl])
    refine tk (v := ?_) 4 hHeld ?_ ?_
    rotate_left
    focus (intro w hSw; clear hSw; go_simp; (try with_reducible rfl))
    (try simp only [fl])
    refine wpAnyH_ready (rs := [7]) (by kernel_rfl) (by simp) ?_
    refine AllReadyH.cons rfl (fun K hK => ?_) AllReadyH.nil
    go_simp
    refine (c2 _).mono ?_
    rintro e y ⟨rfl, un⟩
    replace hHeld := hHeld.call un
    clear un
    refine hK.out _ _ hHeld (fun hX => ?_)
    clear hK K hX
    (try simp only [fl])
    (try clear x)
    rename World => x
    refine tk (v := ?_) 8 hHeld ?_ ?_
    rotate_left
    focus (intro w hSw; clear hSw; go_simp; (try with_reducible rfl))
    (try simp only [fl])
    refine tk (v := ?_) 9 hHeld ?_ ?_
    rotate_left
    focus (intro w hSw; clear hSw; go_simp; (try with_reducible rfl))
    (try simp only [fl])
    refine wpAnyH_ready (rs := [12]) (by kernel_rfl) (by simp) ?_
    refine AllReadyH.cons rfl (fun K hK => ?_) AllReadyH.nil
    go_simp
    refine (c3 _).mono ?_
    rintro e y ⟨rfl, un⟩
    replace hHeld := hHeld.call un
    clear un
    refine hK.out _ _ hHeld (fun hX => ?_)
    clear hK K hX
    (try simp only [fl])
    (try clear x)
    rename World => x
    refine tk (v := ?_) 13 hHeld ?_ ?_
    rotate_left
    focus (intro w hSw; clear hSw; go_simp; (try with_reducible rfl))
    (try simp only [fl])
    refine tk (v := ?_) 14 hHeld ?_ ?_
    rotate_left
    focus (intro w hSw; clear hSw; go_simp; (try with_reducible rfl))
    (try simp only [fl])
    refine wpAnyH_done (by kernel_rfl) ?_ _
    have HS := Lib.hid hHeld
    clear hHeld
    go_wp2_with fail
    go_meet
    exact ⟨rfl, HS.out⟩
 case rest =>
  clear HS
  obtain ⟨rfl, hS⟩ := hcut
  have HS := Lib.hid hS
  clear hS
  have d0_0 := (HS.out.at 0 rfl).cell 0 rfl
  have hk3 := HK3.out
  go_upto_if 38 with fail
  clear d0_0
  go_cut [4] (fun s4 wx => s4 = .string P2 ∧ KD w [(w.heap.size, [.int .i64 m.k, .int .i64 m.y, .int .i64 m.mo, .int .i64 m.d, .int .i64 m.h, .int .i64 m.mi, .bool m.sec.neg, .string m.sec.ds, .int .i64 m.sec.sc, .bool m.zd, .int .i64 m.z])] wx)
  case first =>
   have hp := HP2.out
   cases k3
   ·simp only [Bool.false_eq_true, if_false] at hp
    subst hp
    go_wp2_with fail
    go_meet
    exact ⟨rfl, HS.out⟩
   ·simp only [if_true] at hp
    subst hp
    have q1 : ¬ 9223372036854775807 < P1.size + 1 := by omega
    go_wp2_with fail
    go_meet
    exact ⟨rfl, HS.out⟩
  case rest =>
   clear HS
   obtain ⟨rfl, hS⟩ := hcut
   have HS := Lib.hid hS
   clear hS
   have d0_0 := (HS.out.at 0 rfl).cell 0 rfl
   go_wp2_with fail
   refine (cE _).mono ?_
   rintro e w_ ⟨rfl, rfl⟩
   clear d0_0
   clear hk3
   go_upto_if 43 with fail
   go_cut [4] (fun s4 wx => s4 = .string P3 ∧ KD w [(w.heap.size, [.int .i64 m.k, .int .i64 m.y, .int .i64 m.mo, .int .i64 m.d, .int .i64 m.h, .int .i64 m.mi, .bool m.sec.neg, .string m.sec.ds, .int .i64 m.sec.sc, .bool m.zd, .int .i64 m.z])] wx)
   case first =>
    have hp := HP3.out
    cases bt
    ·simp only [Bool.false_eq_true, if_false] at hp
     subst hp
     go_wp2_with fail
     go_meet
     exact ⟨rfl, HS.out⟩
    ·simp only [if_true] at hp
     subst hp
     have d0_6 := (HS.out.at 0 rfl).cell 6 rfl
     have d0_7 := (HS.out.at 0 rfl).cell 7 rfl
     have d0_8 := (HS.out.at 0 rfl).cell 8 rfl
     go_wp2_with fail
     refine (cT _).mono ?_
     rintro e w1 ⟨rfl, b1⟩
     replace HS := Lib.hid (HS.out.call b1)
     clear d0_6 d0_7 d0_8 b1
     have hss := HS2.out
     have hT2 := HTT.out
     by_cases hlt : T.size < 2
     ·have hsh : sh = true := by rw [HSH.out, decide_eq_true hlt]; rfl
      rw [hsh] at hss
      simp only [if_true] at hss
      have HSS := Lib.hid hss
      clear hss
      have hlti : (T.size : Int) < 2 := by omega
      have q9 : ¬ 9223372036854775807 < 1 + T.size := by omega
      clear hsh hlt
      have q1 : ¬ 9223372036854775807 < P2.size + 2 := by omega
      have q2 : ¬ 9223372036854775807 < P2.size + 2 + 1 := by omega
      have q3 : ¬ 9223372036854775807 < P2.size + 3 + 2 := by omega
      have q4 : ¬ 9223372036854775807 < P2.size + 5 + 1 := by omega
      have q5 : ¬ 9223372036854775807 < P2.size + 6 + S2.size := by omega
      have q6 : ¬ 9223372036854775807 < P2.size + 2 + 1 + 2 := by omega
      have q7 : ¬ 9223372036854775807 < P2.size + 2 + 1 + 2 + 1 := by omega
      have q8 : ¬ 9223372036854775807 < P2.size + 2 + 1 + 2 + 1 + S2.size := by omega
      go_upto_region 15 with fail
      rw [← HSS.out]
      refine wp_region_held_drew (S := KD w _) (by kernel_rfl) HS.out.drew1 (fun hHeld => ?_)
      clear HS
      generalize World.drew wc = x at *
      refine tk (v := ?_) 0 hHeld ?_ ?_
      rotate_left
      focus (intro w hSw; clear hSw; go_simp; (try with_reducible rfl))
      (try simp only [fl])
      refine tk (v := ?_) 1 hHeld ?_ ?_
      rotate_left
      focus (intro w hSw; clear hSw; go_simp; (try with_reducible rfl))
      (try simp only [fl])
      refine tk (v := ?_) 2 hHeld ?_ ?_
      rotate_left
      focus (intro w hSw; have c4 := (hSw.at 0 rfl).cell 4 rfl; clear hSw; go_simp; (try with_reducible rfl))
      (try simp only [fl])
      refine tk (v := ?_) 6 hHeld ?_ ?_
      rotate_left
      focus (intro w hSw; clear hSw; go_simp; (try with_reducible rfl))
      (try simp only [fl])
      refine tk (v := ?_) 7 hHeld ?_ ?_
      rotate_left
      focus (intro w hSw; have c5 := (hSw.at 0 rfl).cell 5 rfl; clear hSw; go_simp; (try with_reducible rfl))
      (try simp only [fl])
      refine tk (v := ?_) 11 hHeld ?_ ?_
      rotate_left
      focus (intro w hSw; clear hSw; go_simp; (try with_reducible rfl))
      (try simp only [fl])
      refine wpAnyH_ready (rs := [3]) (by kernel_rfl) (by simp) ?_
      refine AllReadyH.cons rfl (fun K hK => ?_) AllReadyH.nil
      go_simp
      refine (c4 _).mono ?_
      rintro e y ⟨rfl, un⟩
      replace hHeld := hHeld.call un
      clear un
      refine hK.out _ _ hHeld (fun hX => ?_)
      clear hK K hX
      (try simp only [fl])
      (try clear x)
      rename World => x
      refine tk (v := ?_) 4 hHeld ?_ ?_
      rotate_left
      focus (intro w hSw; clear hSw; go_simp; (try with_reducible rfl))
      (try simp only [fl])
      refine tk (v := ?_) 5 hHeld ?_ ?_
      rotate_left
      focus (intro w hSw; clear hSw; go_simp; (try with_reducible rfl))
      (try simp only [fl])
      refine wpAnyH_ready (rs := [8]) (by kernel_rfl) (by simp) ?_
      refine AllReadyH.cons rfl (fun K hK => ?_) AllReadyH.nil
      go_simp
      refine (c5 _).mono ?_
      rintro e y ⟨rfl, un⟩
      replace hHeld := hHeld.call un
      clear un
      refine hK.out _ _ hHeld (fun hX => ?_)
      clear hK K hX
      (try simp only [fl])
      (try clear x)
      rename World => x
      refine tk (v := ?_) 9 hHeld ?_ ?_
      rotate_left
      focus (intro w hSw; clear hSw; go_simp; (try with_reducible rfl))
      (try simp only [fl])
      refine tk (v := ?_) 10 hHeld ?_ ?_
      rotate_left
      focus (intro w hSw; clear hSw; go_simp; (try with_reducible rfl))
      (try simp only [fl])
      refine tk (v := ?_) 12 hHeld ?_ ?_
      rotate_left
      focus (intro w hSw; clear hSw; go_simp; (try with_reducible rfl))
      (try simp only [fl])
      refine tk (v := ?_) 13 hHeld ?_ ?_
      rotate_left
      focus (intro w hSw; clear hSw; go_simp; (try with_reducible rfl))
      (try simp only [fl])
      refine wpAnyH_done (by kernel_rfl) ?_ _
      have HS := Lib.hid hHeld
      clear hHeld
      go_wp2_with fail
      go_meet
      exact ⟨rfl, HS.out⟩
     ·have hp1 : 1 < T.size := by omega
      have hlti : ¬ (T.size : Int) < 2 := by omega
      have hsh : sh = ((((T[1]'hp1).toNat : Int) == 46)) := by
       have hgl : 1 < T.data.toList.length := by rw [bytes_len]; exact hp1
       have hgt : T.data.toList[1]? = some (T[1]'hp1) := by rw [List.getElem?_eq_getElem hgl, byte_at rfl hp1 hgl]
       rw [HSH.out, decide_eq_false hlt, Bool.false_or, hgt]
       by_cases g : T[1] = 46
       ·rw [g]; rfl
       ·have g2 : ¬ (T[1].toNat : Int) = 46 := fun g3 => g (UInt8.toNat_inj.1 (by simpa using (show T[1].toNat = 46 by omega)))
        have e1 : (some T[1] == some (46 : UInt8)) = false := by simpa using g
        have e2 : ((T[1].toNat : Int) == 46) = false := by simpa using g2
        rw [e1, e2]
      clear hlt
      cases hb : ((((T[1]'hp1).toNat : Int) == 46))
      ·rw [hb] at hsh
       rw [hsh] at hss
       simp only [Bool.false_eq_true, if_false] at hss
       have hs2 := hss.symm
       clear hss hsh
       subst hs2
       have q1 : ¬ 9223372036854775807 < P2.size + 2 := by omega
       have q2 : ¬ 9223372036854775807 < P2.size + 2 + 1 := by omega
       have q3 : ¬ 9223372036854775807 < P2.size + 3 + 2 := by omega
       have q4 : ¬ 9223372036854775807 < P2.size + 5 + 1 := by omega
       have q5 : ¬ 9223372036854775807 < P2.size + 6 + T.size := by omega
       have q6 : ¬ 9223372036854775807 < P2.size + 2 + 1 + 2 := by omega
       have q7 : ¬ 9223372036854775807 < P2.size + 2 + 1 + 2 + 1 := by omega
       have q8 : ¬ 9223372036854775807 < P2.size + 2 + 1 + 2 + 1 + T.size := by omega
       go_upto_region 15 with fail
       refine wp_region_held_drew (S := KD w _) (by kernel_rfl) HS.out.drew1 (fun hHeld => ?_)
       clear HS
       generalize World.drew wc = x at *
       refine tk (v := ?_) 0 hHeld ?_ ?_
       rotate_left
       focus (intro w hSw; clear hSw; go_simp; (try with_reducible rfl))
       (try simp only [fl])
       refine tk (v := ?_) 1 hHeld ?_ ?_
       rotate_left
       focus (intro w hSw; clear hSw; go_simp; (try with_reducible rfl))
       (try simp only [fl])
       refine tk (v := ?_) 2 hHeld ?_ ?_
       rotate_left
       focus (intro w hSw; have c4 := (hSw.at 0 rfl).cell 4 rfl; clear hSw; go_simp; (try with_reducible rfl))
       (try simp only [fl])
       refine tk (v := ?_) 6 hHeld ?_ ?_
       rotate_left
       focus (intro w hSw; clear hSw; go_simp; (try with_reducible rfl))
       (try simp only [fl])
       refine tk (v := ?_) 7 hHeld ?_ ?_
       rotate_left
       focus (intro w hSw; have c5 := (hSw.at 0 rfl).cell 5 rfl; clear hSw; go_simp; (try with_reducible rfl))
       (try simp only [fl])
       refine tk (v := ?_) 11 hHeld ?_ ?_
       rotate_left
       focus (intro w hSw; clear hSw; go_simp; (try with_reducible rfl))
       (try simp only [fl])
       refine wpAnyH_ready (rs := [3]) (by kernel_rfl) (by simp) ?_
       refine AllReadyH.cons rfl (fun K hK => ?_) AllReadyH.nil
       go_simp
       refine (c4 _).mono ?_
       rintro e y ⟨rfl, un⟩
       replace hHeld := hHeld.call un
       clear un
       refine hK.out _ _ hHeld (fun hX => ?_)
       clear hK K hX
       (try simp only [fl])
       (try clear x)
       rename World => x
       refine tk (v := ?_) 4 hHeld ?_ ?_
       rotate_left
       focus (intro w hSw; clear hSw; go_simp; (try with_reducible rfl))
       (try simp only [fl])
       refine tk (v := ?_) 5 hHeld ?_ ?_
       rotate_left
       focus (intro w hSw; clear hSw; go_simp; (try with_reducible rfl))
       (try simp only [fl])
       refine wpAnyH_ready (rs := [8]) (by kernel_rfl) (by simp) ?_
       refine AllReadyH.cons rfl (fun K hK => ?_) AllReadyH.nil
       go_simp
       refine (c5 _).mono ?_
       rintro e y ⟨rfl, un⟩
       replace hHeld := hHeld.call un
       clear un
       refine hK.out _ _ hHeld (fun hX => ?_)
       clear hK K hX
       (try simp only [fl])
       (try clear x)
       rename World => x
       refine tk (v := ?_) 9 hHeld ?_ ?_
       rotate_left
       focus (intro w hSw; clear hSw; go_simp; (try with_reducible rfl))
       (try simp only [fl])
       refine tk (v := ?_) 10 hHeld ?_ ?_
       rotate_left
       focus (intro w hSw; clear hSw; go_simp; (try with_reducible rfl))
       (try simp only [fl])
       refine tk (v := ?_) 12 hHeld ?_ ?_
       rotate_left
       focus (intro w hSw; clear hSw; go_simp; (try with_reducible rfl))
       (try simp only [fl])
       refine tk (v := ?_) 13 hHeld ?_ ?_
       rotate_left
       focus (intro w hSw; clear hSw; go_simp; (try with_reducible rfl))
       (try simp only [fl])
       refine wpAnyH_done (by kernel_rfl) ?_ _
       have HS := Lib.hid hHeld
       clear hHeld
       go_wp2_with fail
       go_meet
       exact ⟨rfl, HS.out⟩
      ·rw [hb] at hsh
       rw [hsh] at hss
       simp only [if_true] at hss
       have HSS := Lib.hid hss
       clear hss hsh
       have q9 : ¬ 9223372036854775807 < 1 + T.size := by omega
       have q1 : ¬ 9223372036854775807 < P2.size + 2 := by omega
       have q2 : ¬ 9223372036854775807 < P2.size + 2 + 1 := by omega
       have q3 : ¬ 9223372036854775807 < P2.size + 3 + 2 := by omega
       have q4 : ¬ 9223372036854775807 < P2.size + 5 + 1 := by omega
       have q5 : ¬ 9223372036854775807 < P2.size + 6 + S2.size := by omega
       have q6 : ¬ 9223372036854775807 < P2.size + 2 + 1 + 2 := by omega
       have q7 : ¬ 9223372036854775807 < P2.size + 2 + 1 + 2 + 1 := by omega
       have q8 : ¬ 9223372036854775807 < P2.size + 2 + 1 + 2 + 1 + S2.size := by omega
       go_upto_region 15 with fail
       rw [← HSS.out]
       refine wp_region_held_drew (S := KD w _) (by kernel_rfl) HS.out.drew1 (fun hHeld => ?_)
       clear HS
       generalize World.drew wc = x at *
       refine tk (v := ?_) 0 hHeld ?_ ?_
       rotate_left
       focus (intro w hSw; clear hSw; go_simp; (try with_reducible rfl))
       (try simp only [fl])
       refine tk (v := ?_) 1 hHeld ?_ ?_
       rotate_left
       focus (intro w hSw; clear hSw; go_simp; (try with_reducible rfl))
       (try simp only [fl])
       refine tk (v := ?_) 2 hHeld ?_ ?_
       rotate_left
       focus (intro w hSw; have c4 := (hSw.at 0 rfl).cell 4 rfl; clear hSw; go_simp; (try with_reducible rfl))
       (try simp only [fl])
       refine tk (v := ?_) 6 hHeld ?_ ?_
       rotate_left
       focus (intro w hSw; clear hSw; go_simp; (try with_reducible rfl))
       (try simp only [fl])
       refine tk (v := ?_) 7 hHeld ?_ ?_
       rotate_left
       focus (intro w hSw; have c5 := (hSw.at 0 rfl).cell 5 rfl; clear hSw; go_simp; (try with_reducible rfl))
       (try simp only [fl])
       refine tk (v := ?_) 11 hHeld ?_ ?_
       rotate_left
       focus (intro w hSw; clear hSw; go_simp; (try with_reducible rfl))
       (try simp only [fl])
       refine wpAnyH_ready (rs := [3]) (by kernel_rfl) (by simp) ?_
       refine AllReadyH.cons rfl (fun K hK => ?_) AllReadyH.nil
       go_simp
       refine (c4 _).mono ?_
       rintro e y ⟨rfl, un⟩
       replace hHeld := hHeld.call un
       clear un
       refine hK.out _ _ hHeld (fun hX => ?_)
       clear hK K hX
       (try simp only [fl])
       (try clear x)
       rename World => x
       refine tk (v := ?_) 4 hHeld ?_ ?_
       rotate_left
       focus (intro w hSw; clear hSw; go_simp; (try with_reducible rfl))
       (try simp only [fl])
       refine tk (v := ?_) 5 hHeld ?_ ?_
       rotate_left
       focus (intro w hSw; clear hSw; go_simp; (try with_reducible rfl))
       (try simp only [fl])
       refine wpAnyH_ready (rs := [8]) (by kernel_rfl) (by simp) ?_
       refine AllReadyH.cons rfl (fun K hK => ?_) AllReadyH.nil
       go_simp
       refine (c5 _).mono ?_
       rintro e y ⟨rfl, un⟩
       replace hHeld := hHeld.call un
       clear un
       refine hK.out _ _ hHeld (fun hX => ?_)
       clear hK K hX
       (try simp only [fl])
       (try clear x)
       rename World => x
       refine tk (v := ?_) 9 hHeld ?_ ?_
       rotate_left
       focus (intro w hSw; clear hSw; go_simp; (try with_reducible rfl))
       (try simp only [fl])
       refine tk (v := ?_) 10 hHeld ?_ ?_
       rotate_left
       focus (intro w hSw; clear hSw; go_simp; (try with_reducible rfl))
       (try simp only [fl])
       refine tk (v := ?_) 12 hHeld ?_ ?_
       rotate_left
       focus (intro w hSw; clear hSw; go_simp; (try with_reducible rfl))
       (try simp only [fl])
       refine tk (v := ?_) 13 hHeld ?_ ?_
       rotate_left
       focus (intro w hSw; clear hSw; go_simp; (try with_reducible rfl))
       (try simp only [fl])
       refine wpAnyH_done (by kernel_rfl) ?_ _
       have HS := Lib.hid hHeld
       clear hHeld
       go_wp2_with fail
       go_meet
       exact ⟨rfl, HS.out⟩
   case rest =>
    clear HS
    obtain ⟨rfl, hS⟩ := hcut
    have HS := Lib.hid hS
    clear hS
    have hr := HRR.out
    obtain ⟨zd, hzd⟩ : ∃ b, m.zd = b := ⟨_, rfl⟩
    have d9 := (HS.out.at 0 rfl).cell 9 rfl
    have d10 := (HS.out.at 0 rfl).cell 10 rfl
    rw [hzd] at hr d9
    clear hzd
    cases zd
    ·simp only [Bool.false_eq_true, if_false] at hr
     subst hr
     go_wp2
     go_ret2
     exact ⟨rfl, HS.out.old⟩
    have hzq := HZQ.out
    cases zq
    rotate_left
    ·simp only [if_true] at hr
     subst hr
     have q1 : ¬ 9223372036854775807 < P3.size + 1 := by omega
     go_wp2
     go_ret2
     exact ⟨rfl, HS.out.old⟩
    have q1 : ¬ 9223372036854775807 < P3.size + 1 := by omega
    have q2 : ¬ 9223372036854775807 < P3.size + 1 + 2 := by omega
    have q3 : ¬ 9223372036854775807 < P3.size + 3 + 1 := by omega
    have q4 : ¬ 9223372036854775807 < P3.size + 4 + 2 := by omega
    have q5 : ¬ 9223372036854775807 < P3.size + 1 + 2 + 1 := by omega
    have q6 : ¬ 9223372036854775807 < P3.size + 1 + 2 + 1 + 2 := by omega
    have hzn := HZN.out
    cases zn
    ·simp only [if_true, Bool.false_eq_true, if_false] at hr
     subst hr
     obtain ⟨h1, h2⟩ := HB1.out
     have e1 := h1 rfl
     have e2 := h2 rfl
     clear h1 h2
     have hlt : ¬ m.z < 0 := of_decide_eq_false hzn
     go_upto_region 20 with fail
     refine wp_region_held_drew (S := KD w _) (by kernel_rfl) HS.out.drew1 (fun hHeld => ?_)
     clear HS
     generalize World.drew wc = x at *
     refine tk (v := ?_) 0 hHeld ?_ ?_
     rotate_left
     focus (intro w hSw; clear hSw; go_simp; (try with_reducible rfl))
     (try simp only [fl])
     refine tk (v := ?_) 1 hHeld ?_ ?_
     rotate_left
     focus (intro w hSw; have c10 := (hSw.at 0 rfl).cell 10 rfl; clear hSw; go_simp; (try with_reducible rfl))
     (try simp only [fl])
     refine tk (v := ?_) 2 hHeld ?_ ?_
     rotate_left
     focus (intro w hSw; clear hSw; go_simp; (try with_reducible rfl))
     (try simp only [fl])
     refine tk (v := ?_) 3 hHeld ?_ ?_
     rotate_left
     focus (intro w hSw; clear hSw; go_simp; (try with_reducible rfl))
     (try simp only [fl])
     refine wpAnyH_done (by kernel_rfl) ?_ _
     have HS := Lib.hid hHeld
     clear hHeld
     go_wp2_with fail
     refine (c6 _).mono ?_
     rintro e w1 ⟨rfl, b1⟩
     replace HS := Lib.hid (HS.out.call b1)
     clear b1
     go_wp2_with fail
     refine (c7 _).mono ?_
     rintro e w1 ⟨rfl, b1⟩
     replace HS := Lib.hid (HS.out.call b1)
     clear b1
     go_wp2
     go_ret2
     exact ⟨rfl, HS.out.old⟩
    ·simp only [if_true, Bool.false_eq_true, if_false] at hr
     subst hr
     obtain ⟨h1, h2⟩ := HA1.out
     have e1 := h1 rfl
     have e2 := h2 rfl
     clear h1 h2
     have hlt : m.z < 0 := of_decide_eq_true hzn
     have hwz : IntKind.i64.wrap (-m.z) = -m.z := IntWalk.i64_in _ (by omega)
     go_upto_region 20 with fail
     refine wp_region_held_drew (S := KD w _) (by kernel_rfl) HS.out.drew1 (fun hHeld => ?_)
     clear HS
     generalize World.drew wc = x at *
     refine tk (v := ?_) 0 hHeld ?_ ?_
     rotate_left
     focus (intro w hSw; clear hSw; go_simp; (try with_reducible rfl))
     (try simp only [fl])
     refine tk (v := ?_) 1 hHeld ?_ ?_
     rotate_left
     focus (intro w hSw; have c10 := (hSw.at 0 rfl).cell 10 rfl; clear hSw; go_simp; (try with_reducible rfl))
     (try simp only [fl])
     refine tk (v := ?_) 2 hHeld ?_ ?_
     rotate_left
     focus (intro w hSw; clear hSw; go_simp; (try with_reducible rfl))
     (try simp only [fl])
     refine tk (v := ?_) 3 hHeld ?_ ?_
     rotate_left
     focus (intro w hSw; clear hSw; go_simp; (try with_reducible rfl))
     (try simp only [fl])
     refine wpAnyH_done (by kernel_rfl) ?_ _
     have HS := Lib.hid hHeld
     clear hHeld
     go_wp2_with fail
     refine (c6 _).mono ?_
     rintro e w1 ⟨rfl, b1⟩
     replace HS := Lib.hid (HS.out.call b1)
     clear b1
     go_wp2_with fail
     refine (c7 _).mono ?_
     rintro e w1 ⟨rfl, b1⟩
     replace HS := Lib.hid (HS.out.call b1)
     clear b1
     go_wp2
     go_ret2
     exact ⟨rfl, HS.out.old⟩
end Go.Proofs.YtmdnijehoagamaaGreatDoor
