/- NC -/
import Derived.Test.YtmdnijehoagamaaGreatDoorK21
set_option linter.unusedVariables false
set_option linter.unusedSimpArgs false
namespace Go.Proofs.YtmdnijehoagamaaGreatDoor
set_option maxRecDepth 100000
set_option maxHeartbeats 8000000
open Go.RowKit
def HasN (W : World) (b n : Nat) : Prop := ∃ vs : List Value, vs.length = n ∧ HasL W b vs
theorem HasL.n {W : World} {b : Nat} {vs : List Value} (h : HasL W b vs) : HasN W b vs.length := ⟨vs, rfl, h⟩
theorem HasN.call {W W' : World} {b n : Nat} (h : HasN W b n) (B : Below W.heap.size W W') : HasN W' b n := by
 obtain ⟨vs, hl, h⟩ := h
 exact ⟨vs, hl, h.call B⟩
theorem HasN.drew1 {W : World} {b n : Nat} (h : HasN W b n) : HasN W.drew b n := h.call (below_drew1 _)
theorem HasN.set {W : World} {b n : Nat} (h : HasN W b n) (j : Nat) (u : Value) (hj : j < n) : HasN (W.setCell ⟨b, j, none⟩ u) b n := by
 obtain ⟨vs, hl, h⟩ := h
 exact ⟨vs.set j u, by simpa using hl, h.set j u (by omega)⟩
def KN (w : World) (L : List (Nat × List Value)) (b n : Nat) (W : World) : Prop := KB w L W ∧ HasN W b n
theorem KN.call {w W W' : World} {L : List (Nat × List Value)} {b n : Nat} (h : KN w L b n W) (B : Below W.heap.size W W') : KN w L b n W' := ⟨h.1.call B, h.2.call B⟩
theorem KN.drew1 {w W : World} {L : List (Nat × List Value)} {b n : Nat} (h : KN w L b n W) : KN w L b n W.drew := h.call (below_drew1 _)
theorem KN.set {w W : World} {L : List (Nat × List Value)} {b n : Nat} (h : KN w L b n W) (hL : ∀ p ∈ L, b ≠ p.1) (hb : w.heap.size ≤ b) (j : Nat) (u : Value) (hj : j < n) : KN w L b n (W.setCell ⟨b, j, none⟩ u) :=
 ⟨⟨fun p hp => (h.1.1 p hp).far (hL p hp) j u, setStep h.1.2 hb j u⟩, h.2.set j u hj⟩
theorem pclock_any (k y mo d hr mi : Int) (sn : Bool) (sd : ByteArray) (sk : Int) (zd : Bool) (z : Int) (bd bt : Bool) (sw : Int) (fn : Bool) (fd : ByteArray) (fk N tw lw : Int) (tn : Bool) (td : ByteArray) (tk : Int)
  (h0 : 0 ≤ hr) (h1 : hr ≤ 23) (mi0 : 0 ≤ mi) (mi1 : mi ≤ 59) (s0 : -1000000000001 ≤ sw) (s1 : sw ≤ 1000000000001) (n0 : -4000000 ≤ N) (n1 : N ≤ 4000000)
  (hrr : (tw, tn, td, tk) = if bt then (sw + (3600 * hr + 60 * mi), fn, fd, fk) else (0, false, ⟨#[48]⟩, 0)) (hlw : lw = if bd then tw + 86400 * N else tw) (t0 : -2000000000000 ≤ tw) (t1 : tw ≤ 2000000000000)
  (cO : ∀ W, Tabs W → Calls Tryz.prog 62 #[.int .i64 0] W fun e w' => e = .returned (.agg #[.bool false, .string ⟨#[48]⟩, .int .i64 0]) ∧ Below W.heap.size W w')
  (cH : ∀ W, Calls Tryz.prog 41 #[.int .i64 k] W fun e w' => e = .returned (.bool bt) ∧ W = w')
  (cE : ∀ W, Calls Tryz.prog 39 #[.int .i64 k] W fun e w' => e = .returned (.bool bd) ∧ W = w')
  (cS : bt = true → ∀ W, Tabs W → Calls Tryz.prog 66 #[.agg #[.bool sn, .string sd, .int .i64 sk]] W fun e w' => e = .returned (.agg #[.int .i64 sw, .bool fn, .string fd, .int .i64 fk]) ∧ Below W.heap.size W w')
  (cD : bd = true → ∀ W, Tabs W → Calls Tryz.prog 50 #[.agg #[.int .i64 k, .int .i64 y, .int .i64 mo, .int .i64 d, .int .i64 hr, .int .i64 mi, .bool sn, .string sd, .int .i64 sk, .bool zd, .int .i64 z]] W fun e w' => e = .returned (.int .i64 N) ∧ Below W.heap.size W w')
  (w : World) (hT : Tabs w) :
  Calls Tryz.prog 65 #[.agg #[.int .i64 k, .int .i64 y, .int .i64 mo, .int .i64 d, .int .i64 hr, .int .i64 mi, .bool sn, .string sd, .int .i64 sk, .bool zd, .int .i64 z]] w fun e w' => e = .returned (.agg #[.int .i64 lw, .bool tn, .string td, .int .i64 tk]) ∧ Below w.heap.size w w' := by
 go_enter Tryz.func65, Tryz.ntmps65
 have HA : Hid (HasL ((w.alloc (.cells #[.int .i64 k, .int .i64 y, .int .i64 mo, .int .i64 d, .int .i64 hr, .int .i64 mi, .bool sn, .string sd, .int .i64 sk, .bool zd, .int .i64 z] 25)).alloc (.cells #[.int .i64 0, .bool false, .string ⟨#[]⟩, .int .i64 0] 69)) w.heap.size [.int .i64 k, .int .i64 y, .int .i64 mo, .int .i64 d, .int .i64 hr, .int .i64 mi, .bool sn, .string sd, .int .i64 sk, .bool zd, .int .i64 z]) := Lib.hid ((HasL.new w [.int .i64 k, .int .i64 y, .int .i64 mo, .int .i64 d, .int .i64 hr, .int .i64 mi, .bool sn, .string sd, .int .i64 sk, .bool zd, .int .i64 z] 25).alloc (.cells #[.int .i64 0, .bool false, .string ⟨#[]⟩, .int .i64 0] 69))
 have HR : Hid (HasL ((w.alloc (.cells #[.int .i64 k, .int .i64 y, .int .i64 mo, .int .i64 d, .int .i64 hr, .int .i64 mi, .bool sn, .string sd, .int .i64 sk, .bool zd, .int .i64 z] 25)).alloc (.cells #[.int .i64 0, .bool false, .string ⟨#[]⟩, .int .i64 0] 69)) (w.heap.size + 1) [.int .i64 0, .bool false, .string ⟨#[]⟩, .int .i64 0]) := Lib.hid (by have hZz := (HasL.new (w.alloc (.cells #[.int .i64 k, .int .i64 y, .int .i64 mo, .int .i64 d, .int .i64 hr, .int .i64 mi, .bool sn, .string sd, .int .i64 sk, .bool zd, .int .i64 z] 25)) [.int .i64 0, .bool false, .string ⟨#[]⟩, .int .i64 0] 69); rw [show (w.alloc (.cells #[.int .i64 k, .int .i64 y, .int .i64 mo, .int .i64 d, .int .i64 hr, .int .i64 mi, .bool sn, .string sd, .int .i64 sk, .bool zd, .int .i64 z] 25)).heap.size = w.heap.size + 1 by simp] at hZz; exact hZz)
 have HW := Lib.hid (stepA (stepA (Below.refl w.heap.size w) (.cells #[.int .i64 k, .int .i64 y, .int .i64 mo, .int .i64 d, .int .i64 hr, .int .i64 mi, .bool sn, .string sd, .int .i64 sk, .bool zd, .int .i64 z] 25)) (.cells #[.int .i64 0, .bool false, .string ⟨#[]⟩, .int .i64 0] 69))
 have HT0 := Lib.hid hT
 have HT := Lib.hid (hT.next HW.out)
 clear hT
 have NE_R_A : Hid ((w.heap.size + 1) ≠ w.heap.size ∧ w.heap.size ≠ (w.heap.size + 1)) := Lib.hid (by omega)
 go_wp2_with fail
 refine (cO _ HT.out).mono ?_
 rintro e w1 ⟨rfl, b1⟩
 replace HA := Lib.hid (HA.out.call b1)
 replace HR := Lib.hid (HR.out.call b1)
 replace HW := Lib.hid (step HW.out b1)
 replace HT := Lib.hid (HT.out.next b1)
 clear b1 
 have ne_P_A : w1.heap.size ≠ w.heap.size := by have := HA.out.lt; omega
 have nf_P_A : w.heap.size ≠ w1.heap.size := by have := HA.out.lt; omega
 have NE_P_A := Lib.hid (And.intro ne_P_A nf_P_A)
 have ne_P_R : w1.heap.size ≠ (w.heap.size + 1) := by have := HR.out.lt; omega
 have nf_P_R : (w.heap.size + 1) ≠ w1.heap.size := by have := HR.out.lt; omega
 have NE_P_R := Lib.hid (And.intro ne_P_R nf_P_R)
 replace HA := Lib.hid (HA.out.alloc (.cells #[.int .i64 0, .bool false, .string ⟨#[48]⟩, .int .i64 0] 69))
 replace HR := Lib.hid (HR.out.alloc (.cells #[.int .i64 0, .bool false, .string ⟨#[48]⟩, .int .i64 0] 69))
 have HP := Lib.hid (HasL.new w1 [.int .i64 0, .bool false, .string ⟨#[48]⟩, .int .i64 0] 69)
 have le_P : w.heap.size ≤ w1.heap.size := HW.out.size
 replace HW := Lib.hid (stepA HW.out (.cells #[.int .i64 0, .bool false, .string ⟨#[48]⟩, .int .i64 0] 69))
 replace HT := Lib.hid (HT.out.next (stepA (Below.refl _ _) (.cells #[.int .i64 0, .bool false, .string ⟨#[48]⟩, .int .i64 0] 69)))
 obtain ⟨dA_0, dA_1, dA_2, dA_3, dA_4, dA_5, dA_6, dA_7, dA_8, dA_9, dA_10⟩ := HA.out.all11
 go_wp2_with fail
 refine (cH _).mono ?_
 rintro e w_ ⟨rfl, rfl⟩
 clear ne_P_A nf_P_A ne_P_R nf_P_R dA_0 dA_1 dA_2 dA_3 dA_4 dA_5 dA_6 dA_7 dA_8 dA_9 dA_10
 have HR0 := Lib.hid hrr
 clear hrr
 have HR1 := Lib.hid hlw
 clear hlw
 go_upto_if 8 with fail
 go_cut [] (fun wx => HasL wx w.heap.size [.int .i64 k, .int .i64 y, .int .i64 mo, .int .i64 d, .int .i64 hr, .int .i64 mi, .bool sn, .string sd, .int .i64 sk, .bool zd, .int .i64 z] ∧ HasL wx (w.heap.size + 1) [.int .i64 0, .bool false, .string ⟨#[]⟩, .int .i64 0] ∧ HasL wx w1.heap.size [.int .i64 tw, .bool tn, .string td, .int .i64 tk] ∧ Below w.heap.size w wx)
 case first =>
  cases bt
  ·have hq := HR0.out
   simp only [Bool.false_eq_true, if_false, Prod.mk.injEq] at hq
   obtain ⟨rfl, rfl, rfl, rfl⟩ := hq
   go_wp2_with fail
   go_meet
   exact ⟨HA.out, HR.out, HP.out, HW.out⟩
  ·have hq := HR0.out
   simp only [if_true, Prod.mk.injEq] at hq
   have cS2 := cS rfl
   clear cS
   obtain ⟨rfl, rfl, rfl, rfl⟩ := hq
   have g1 : IntKind.i64.wrap (3600 * hr) = 3600 * hr := IntWalk.i64_in _ (by omega)
   have g2 : IntKind.i64.wrap (60 * mi) = 60 * mi := IntWalk.i64_in _ (by omega)
   have g3 : IntKind.i64.wrap (3600 * hr + 60 * mi) = 3600 * hr + 60 * mi := IntWalk.i64_in _ (by omega)
   have cL := fun W => p_laterP sw (3600 * hr + 60 * mi) tn td tk (by omega) (by omega) (by omega) (by omega) W
   have hle : w.heap.size ≤ w1.heap.size := le_P
   go_wp2_with fail
   have HKN : Hid (KN w [(w.heap.size, [.int .i64 k, .int .i64 y, .int .i64 mo, .int .i64 d, .int .i64 hr, .int .i64 mi, .bool sn, .string sd, .int .i64 sk, .bool zd, .int .i64 z]), (w.heap.size + 1, [.int .i64 0, .bool false, .string ⟨#[]⟩, .int .i64 0])] w1.heap.size 4 _) := Lib.hid ⟨⟨fun p hp => by
     simp only [List.mem_cons, List.mem_nil_iff, or_false] at hp
     rcases hp with rfl | rfl
     ·exact HA.out
     ·exact HR.out, HW.out⟩, HP.out.n⟩
   have HLP : Hid (∀ p ∈ ([(w.heap.size, [.int .i64 k, .int .i64 y, .int .i64 mo, .int .i64 d, .int .i64 hr, .int .i64 mi, .bool sn, .string sd, .int .i64 sk, .bool zd, .int .i64 z]), (w.heap.size + 1, [.int .i64 0, .bool false, .string ⟨#[]⟩, .int .i64 0])] : List (Nat × List Value)), w1.heap.size ≠ p.1) := Lib.hid (by
     intro p hp
     simp only [List.mem_cons, List.mem_nil_iff, or_false] at hp
     rcases hp with rfl | rfl
     ·exact NE_P_A.out.1
     ·exact NE_P_R.out.1)
   have SK : ∀ W, KN w [(w.heap.size, [.int .i64 k, .int .i64 y, .int .i64 mo, .int .i64 d, .int .i64 hr, .int .i64 mi, .bool sn, .string sd, .int .i64 sk, .bool zd, .int .i64 z]), (w.heap.size + 1, [.int .i64 0, .bool false, .string ⟨#[]⟩, .int .i64 0])] w1.heap.size 4 W → (W.cell? ⟨w.heap.size, 4, none⟩ = some (.int .i64 hr) ∧ W.cell? ⟨w.heap.size, 5, none⟩ = some (.int .i64 mi) ∧ W.cell? ⟨w.heap.size, 6, none⟩ = some (.bool sn) ∧ W.cell? ⟨w.heap.size, 7, none⟩ = some (.string sd) ∧ W.cell? ⟨w.heap.size, 8, none⟩ = some (.int .i64 sk) ∧ KN w [(w.heap.size, [.int .i64 k, .int .i64 y, .int .i64 mo, .int .i64 d, .int .i64 hr, .int .i64 mi, .bool sn, .string sd, .int .i64 sk, .bool zd, .int .i64 z]), (w.heap.size + 1, [.int .i64 0, .bool false, .string ⟨#[]⟩, .int .i64 0])] w1.heap.size 4 W) := fun W kq => ⟨(kq.1.one 0 rfl).cell 4 rfl, (kq.1.one 0 rfl).cell 5 rfl, (kq.1.one 0 rfl).cell 6 rfl, (kq.1.one 0 rfl).cell 7 rfl, (kq.1.one 0 rfl).cell 8 rfl, kq⟩
   have HSK := Lib.hid SK
   have SO : ∀ W, (W.cell? ⟨w.heap.size, 4, none⟩ = some (.int .i64 hr) ∧ W.cell? ⟨w.heap.size, 5, none⟩ = some (.int .i64 mi) ∧ W.cell? ⟨w.heap.size, 6, none⟩ = some (.bool sn) ∧ W.cell? ⟨w.heap.size, 7, none⟩ = some (.string sd) ∧ W.cell? ⟨w.heap.size, 8, none⟩ = some (.int .i64 sk) ∧ KN w [(w.heap.size, [.int .i64 k, .int .i64 y, .int .i64 mo, .int .i64 d, .int .i64 hr, .int .i64 mi, .bool sn, .string sd, .int .i64 sk, .bool zd, .int .i64 z]), (w.heap.size + 1, [.int .i64 0, .bool false, .string ⟨#[]⟩, .int .i64 0])] w1.heap.size 4 W) → Below w.heap.size w W := fun W kq => (kq.2.2.2.2.2 : KN w [(w.heap.size, [.int .i64 k, .int .i64 y, .int .i64 mo, .int .i64 d, .int .i64 hr, .int .i64 mi, .bool sn, .string sd, .int .i64 sk, .bool zd, .int .i64 z]), (w.heap.size + 1, [.int .i64 0, .bool false, .string ⟨#[]⟩, .int .i64 0])] w1.heap.size 4 W).1.2
   have HSO := Lib.hid SO
   clear SK SO
   go_region_held3 (fun W => W.cell? ⟨w.heap.size, 4, none⟩ = some (.int .i64 hr) ∧ W.cell? ⟨w.heap.size, 5, none⟩ = some (.int .i64 mi) ∧ W.cell? ⟨w.heap.size, 6, none⟩ = some (.bool sn) ∧ W.cell? ⟨w.heap.size, 7, none⟩ = some (.string sd) ∧ W.cell? ⟨w.heap.size, 8, none⟩ = some (.int .i64 sk) ∧ KN w [(w.heap.size, [.int .i64 k, .int .i64 y, .int .i64 mo, .int .i64 d, .int .i64 hr, .int .i64 mi, .bool sn, .string sd, .int .i64 sk, .bool zd, .int .i64 z]), (w.heap.size + 1, [.int .i64 0, .bool false, .string ⟨#[]⟩, .int .i64 0])] w1.heap.size 4 W)
    (first | exact HSK.out _ HKN.out.drew1 | exact HSK.out _ k2.out | exact HSK.out _ k1.out | exact HSK.out _ (KN.set (KN.set (KN.set (KN.set (And.right (And.right (And.right (And.right (And.right (by assumption)))))) HLP.out hle 0 _ (by decide)) HLP.out hle 1 _ (by decide)) HLP.out hle 2 _ (by decide)) HLP.out hle 3 _ (by decide)))
    (first
     | (go_at_call 66; refine (cS2 _ (HT0.out.next (HSO.out _ (by assumption)))).mono ?_; rintro e v1 ⟨rfl, u1⟩; have k1 := Lib.hid (KN.call (And.right (And.right (And.right (And.right (And.right (by assumption)))))) u1); have p1 := Lib.hid ((HP.out.drew1).call u1); clear u1)
     | (go_at_call 57; refine (cL _).mono ?_; rintro e v2 ⟨rfl, u2⟩; have k2 := Lib.hid (KN.call (And.right (And.right (And.right (And.right (And.right (by assumption)))))) u2); have p2 := Lib.hid ((p1.out).call u2); clear u2; have y0 := p2.out.cell 0 rfl; have x0 := p2.out.frozen 0 rfl; have y1 := p2.out.cell 1 rfl; have x1 := p2.out.frozen 1 rfl; have y2 := p2.out.cell 2 rfl; have x2 := p2.out.frozen 2 rfl; have y3 := p2.out.cell 3 rfl; have x3 := p2.out.frozen 3 rfl))
   rename_i hh
   have hk := Lib.hid (hh.2.2.2.2.2 : KN w [(w.heap.size, [.int .i64 k, .int .i64 y, .int .i64 mo, .int .i64 d, .int .i64 hr, .int .i64 mi, .bool sn, .string sd, .int .i64 sk, .bool zd, .int .i64 z]), (w.heap.size + 1, [.int .i64 0, .bool false, .string ⟨#[]⟩, .int .i64 0])] w1.heap.size 4 _)
   have hp := Lib.hid ((((p2.out.set 0 (.int .i64 (sw + (3600 * hr + 60 * mi))) (by simp)).set 1 (.bool tn) (by simp)).set 2 (.string td) (by simp)).set 3 (.int .i64 tk) (by simp))
   clear hh HKN HSK HSO HLP k1 p1 k2 p2
   clear y0 x0 y1 x1 y2 x2 y3 x3
   go_wp2_with fail
   go_meet
   exact ⟨hk.out.1.one 0 rfl, hk.out.1.one 1 rfl, hp.out, hk.out.1.2⟩
 case rest =>
  clear HA HR HP HW HT
  obtain ⟨hA, hR, hP, hW⟩ := hcut
  have HA := Lib.hid hA
  have HR := Lib.hid hR
  have HP := Lib.hid hP
  have HW := Lib.hid hW
  have HT := Lib.hid (HT0.out.next hW)
  clear hA hR hP hW
  have dA_0 := HA.out.cell 0 rfl
  go_wp2_with fail
  refine (cE _).mono ?_
  rintro e w_ ⟨rfl, rfl⟩
  clear dA_0
  go_upto_if 22 with fail
  go_cut [] (fun wx => HasL wx w.heap.size [.int .i64 k, .int .i64 y, .int .i64 mo, .int .i64 d, .int .i64 hr, .int .i64 mi, .bool sn, .string sd, .int .i64 sk, .bool zd, .int .i64 z] ∧ HasL wx (w.heap.size + 1) [.int .i64 0, .bool false, .string ⟨#[]⟩, .int .i64 0] ∧ HasL wx w1.heap.size [.int .i64 lw, .bool tn, .string td, .int .i64 tk] ∧ Below w.heap.size w wx)
  case first =>
   cases bd
   ·have hq := HR1.out
    simp only [Bool.false_eq_true, if_false] at hq
    subst hq
    go_wp2_with fail
    go_meet
    exact ⟨HA.out, HR.out, HP.out, HW.out⟩
   ·have hq := HR1.out
    simp only [if_true] at hq
    subst hq
    have cD2 := cD rfl
    clear cD
    have g1 : IntKind.i64.wrap (86400 * N) = 86400 * N := IntWalk.i64_in _ (by omega)
    have cL := fun W => p_laterP tw (86400 * N) tn td tk (by omega) (by omega) (by omega) (by omega) W
    go_wp2_with fail
    obtain ⟨c0, c1, c2, c3, c4, c5, c6, c7, c8, c9, c10⟩ := HA.out.all11
    obtain ⟨q0, q1, q2, q3⟩ := HP.out.all4
    go_region_with (first
     | (go_at_call 50; refine (cD2 _ (HT.out.next (below_drew1 _))).mono ?_; rintro e v1 ⟨rfl, u1⟩; have k1 := Lib.hid (step HW.out (below_drew1 _) |> fun b => step b u1); have a1 := Lib.hid (HA.out.drew1.call u1); have r1 := Lib.hid (HR.out.drew1.call u1); have p1 := Lib.hid (HP.out.drew1.call u1); clear u1; have e0 := p1.out.cell 0 rfl; have e1 := p1.out.cell 1 rfl; have e2 := p1.out.cell 2 rfl; have e3 := p1.out.cell 3 rfl)
     | (go_at_call 57; refine (cL _).mono ?_; rintro e v2 ⟨rfl, u2⟩; have k2 := Lib.hid (step k1.out u2); have a2 := Lib.hid (a1.out.call u2); have r2 := Lib.hid (r1.out.call u2); have p2 := Lib.hid (p1.out.call u2); clear u2; have y0 := p2.out.cell 0 rfl; have x0 := p2.out.frozen 0 rfl; have y1 := p2.out.cell 1 rfl; have x1 := p2.out.frozen 1 rfl; have y2 := p2.out.cell 2 rfl; have x2 := p2.out.frozen 2 rfl; have y3 := p2.out.cell 3 rfl; have x3 := p2.out.frozen 3 rfl))
    all_goals (
     have hle : w.heap.size ≤ w1.heap.size := le_P
     go_wp2_with fail
     go_meet
     exact ⟨(((a2.out.far NE_P_A.out.1 0 _).far NE_P_A.out.1 1 _).far NE_P_A.out.1 2 _).far NE_P_A.out.1 3 _, (((r2.out.far NE_P_R.out.1 0 _).far NE_P_R.out.1 1 _).far NE_P_R.out.1 2 _).far NE_P_R.out.1 3 _, (((p2.out.set 0 _ (by simp)).set 1 _ (by simp)).set 2 _ (by simp)).set 3 _ (by simp), setStep (setStep (setStep (setStep k2.out hle 0 _) hle 1 _) hle 2 _) hle 3 _⟩)
  case rest =>
   clear HA HR HP HW HT
   obtain ⟨hA, hR, hP, hW⟩ := hcut
   have HA := Lib.hid hA
   have HR := Lib.hid hR
   have HP := Lib.hid hP
   have HW := Lib.hid hW
   clear hA hR hP hW
   obtain ⟨dP_0, dP_1, dP_2, dP_3⟩ := HP.out.all4
   obtain ⟨dR_0, dR_1, dR_2, dR_3⟩ := HR.out.all4
   obtain ⟨zR_0, zR_1, zR_2, zR_3⟩ := HR.out.free4
   go_wp2
   replace HA := Lib.hid (HA.out.far NE_R_A.out.1 0 (.int .i64 lw))
   replace HR := Lib.hid (HR.out.set 0 (.int .i64 lw) (by simp))
   replace HP := Lib.hid (HP.out.far NE_P_R.out.2 0 (.int .i64 lw))
   replace HW := Lib.hid (setStep HW.out (Nat.le_succ _) 0 (.int .i64 lw))
   replace HA := Lib.hid (HA.out.far NE_R_A.out.1 1 (.bool tn))
   replace HR := Lib.hid (HR.out.set 1 (.bool tn) (by simp))
   replace HP := Lib.hid (HP.out.far NE_P_R.out.2 1 (.bool tn))
   replace HW := Lib.hid (setStep HW.out (Nat.le_succ _) 1 (.bool tn))
   replace HA := Lib.hid (HA.out.far NE_R_A.out.1 2 (.string td))
   replace HR := Lib.hid (HR.out.set 2 (.string td) (by simp))
   replace HP := Lib.hid (HP.out.far NE_P_R.out.2 2 (.string td))
   replace HW := Lib.hid (setStep HW.out (Nat.le_succ _) 2 (.string td))
   replace HA := Lib.hid (HA.out.far NE_R_A.out.1 3 (.int .i64 tk))
   replace HR := Lib.hid (HR.out.set 3 (.int .i64 tk) (by simp))
   replace HP := Lib.hid (HP.out.far NE_P_R.out.2 3 (.int .i64 tk))
   replace HW := Lib.hid (setStep HW.out (Nat.le_succ _) 3 (.int .i64 tk))
   obtain ⟨r0, r1, r2, r3⟩ := HR.out.all4
   exact bodyPost_ret (v := .agg #[.int .i64 lw, .bool tn, .string td, .int .i64 tk]) (by simp [results, Tryz.results65, go_sem, r0, r1, r2, r3]) rfl ⟨rfl, HW.out⟩
end Go.Proofs.YtmdnijehoagamaaGreatDoor
