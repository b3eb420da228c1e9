/- ON -/
import Derived.Test.YtmdnijehoagamaaGreatDoorK28
set_option linter.unusedVariables false
set_option linter.unusedSimpArgs false
namespace Go.Proofs.YtmdnijehoagamaaGreatDoor
set_option maxRecDepth 100000
set_option maxHeartbeats 8000000
open Go.RowKit
theorem chP_len {c : UInt8} {l : List UInt8} {x : Unit × List UInt8} (h : chP c l = some x) : x.2.length ≤ l.length := by
 unfold chP at h
 split at h
 ·obtain rfl := Option.some.inj h
  exact isP_len c l
 ·cases h
theorem txtP_len {k : Nat} {l : List UInt8} {x : List UInt8 × List UInt8} (h : txtP k l = some x) : x.2.length ≤ l.length ∧ x.1.length = k := by
 unfold txtP at h
 split at h
 ·next hd =>
  obtain rfl := Option.some.inj h
  have := ((hasDg_iff k l).1 hd).1
  simp only [List.length_drop, List.length_take]
  omega
 ·cases h
theorem runP_len {l : List UInt8} {x : List UInt8 × List UInt8} (h : runP l = some x) : x.2.length ≤ l.length ∧ x.1.length ≤ l.length := by
 unfold runP at h
 split at h
 ·obtain rfl := Option.some.inj h
  exact ⟨(List.dropWhile_sublist _).length_le, (List.takeWhile_sublist _).length_le⟩
 ·cases h
def momC (k y mo d h mi : Int) (s : Dec) (zd : Bool) (z : Int) : List Value := [.int .i64 k, .int .i64 y, .int .i64 mo, .int .i64 d, .int .i64 h, .int .i64 mi, .bool s.neg, .string s.ds, .int .i64 s.sc, .bool zd, .int .i64 z]
def DatePost (b mb : Nat) (k h mi : Int) (s : Dec) (zd : Bool) (z : Int) (l : List UInt8) (w : World) (e : Ending) (w' : World) : Prop :=
 match dateP l with
 | none => e = outOf 6 ∧ Near [b, mb] w w'
 | some x => e = .returned (.tuple #[]) ∧ HasL w' b [.string ⟨x.2.toArray⟩] ∧ HasL w' mb (momC k x.1.1 x.1.2.1 x.1.2.2 h mi s zd z) ∧ Near [b, mb] w w'
theorem p_date7 (b mb : Nat) (hne : b ≠ mb) (k y0 mo0 d0 h mi : Int) (s : Dec) (zd : Bool) (z : Int) (l : List UInt8) (hs : l.length ≤ 100000) (w : World) (hB : HasL w b [.string ⟨l.toArray⟩]) (hM : HasL w mb (momC k y0 mo0 d0 h mi s zd z)) :
  Calls Tryz.prog 74 #[takeV b, .pointer (some ⟨mb, 0, none⟩)] w (DatePost b mb k h mi s zd z l w) := by
 obtain ⟨q, hq0⟩ : ∃ q, (isP 45 l).1 = q := ⟨_, rfl⟩
 obtain ⟨l0, hl0⟩ : ∃ t, (isP 45 l).2 = t := ⟨_, rfl⟩
 have c0 := fun W hW => t_opt b 45 l hs W hW
 rw [hq0, hl0] at c0
 have hl00 : l0.length ≤ 100000 := by have := isP_len 45 l; rw [hl0] at this; omega
 have EQ := Lib.hid hq0
 have EL := Lib.hid hl0
 clear hq0 hl0
 unfold takeA at c0
 unfold momC at hM
 have HB := Lib.hid hB
 have HM := Lib.hid hM
 have HN : Hid (Near [b, mb] w w) := Lib.hid (Near.refl _ _)
 have HL := Lib.hid hs
 have NE := Lib.hid hne
 clear hB hM hs hne
 unfold takeV
 go_enter Tryz.func74, Tryz.ntmps74
 go_wp2_with fail
 refine (c0 _ HB.out).mono ?_
 rintro e w0 ⟨rfl, h1, n1⟩
 replace HB := Lib.hid h1
 replace HM := Lib.hid (HM.out.near n1 (by simpa using NE.out.symm))
 replace HN := Lib.hid (HN.out.trans (n1.more (by simp)))
 clear h1 n1
 replace HL := Lib.hid hl00
 clear hl00 c0
 cases q
 ·unfold optV
  rw [if_neg (by simp)]
  go_wp2_with fail
  refine (t_num b 4 l0 (by omega) (by omega) HL.out _ HB.out).mono ?_
  intro e w1 hq
  unfold Stepped at hq
  cases hE : numP 4 l0 with
  | none =>
   rw [hE] at hq
   have E1 := Lib.hid hE
   clear hE
   obtain ⟨rfl, n1⟩ := hq
   unfold outOf
   have HZ : Hid (dateP l = none) := Lib.hid (by unfold dateP; simp only [EL.out, EQ.out, E1.out, Option.bind_some, Option.bind_none])
   replace HN := Lib.hid (HN.out.trans (n1.more (by simp)))
   clear n1
   go_wp2
   refine ⟨rfl, ?_⟩
   unfold DatePost
   rw [HZ.out]
   exact ⟨rfl, HN.out⟩
  | some x =>
   rw [hE] at hq
   obtain ⟨y, l1⟩ := x
   have E1 := Lib.hid hE
   clear hE
   obtain ⟨rfl, h1, n1⟩ := hq
   replace HB := Lib.hid h1
   replace HM := Lib.hid (HM.out.near n1 (by simpa using NE.out.symm))
   replace HN := Lib.hid (HN.out.trans (n1.more (by simp)))
   clear h1 n1
   have HL1 : Hid (l1.length ≤ 100000) := Lib.hid (by have := HL.out; have := (numP_bd E1.out).2; dsimp only at this; omega)
   replace HL := HL1
   have d1 := HM.out.cell 1 rfl
   have z1 := HM.out.frozen 1 rfl
   have ne1 := NE.out
   have ne2 := NE.out.symm
   go_wp2_with fail
   replace HB := Lib.hid (HB.out.far NE.out.symm 1 (.int .i64 (y : Int)))
   replace HM := Lib.hid (HM.out.set 1 (.int .i64 (y : Int)) (by simp))
   replace HN := Lib.hid (HN.out.set (b := mb) (by simp) 1 (.int .i64 (y : Int)))
   clear d1 z1 ne1 ne2
   refine (t_ch b 45 l1 HL.out _ HB.out).mono ?_
   intro e w2 hq
   unfold Stepped at hq
   cases hE : chP 45 l1 with
   | none =>
    rw [hE] at hq
    have E2 := Lib.hid hE
    clear hE
    obtain ⟨rfl, n1⟩ := hq
    unfold outOf
    have HZ : Hid (dateP l = none) := Lib.hid (by unfold dateP; simp only [EL.out, EQ.out, E1.out, E2.out, Option.bind_some, Option.bind_none])
    replace HN := Lib.hid (HN.out.trans (n1.more (by simp)))
    clear n1
    go_wp2
    refine ⟨rfl, ?_⟩
    unfold DatePost
    rw [HZ.out]
    exact ⟨rfl, HN.out⟩
   | some x =>
    rw [hE] at hq
    obtain ⟨u, l2⟩ := x
    have E2 := Lib.hid hE
    clear hE
    obtain ⟨rfl, h1, n1⟩ := hq
    replace HB := Lib.hid h1
    replace HM := Lib.hid (HM.out.near n1 (by simpa using NE.out.symm))
    replace HN := Lib.hid (HN.out.trans (n1.more (by simp)))
    clear h1 n1
    have HL2 : Hid (l2.length ≤ 100000) := Lib.hid (by have := HL.out; have := chP_len E2.out; dsimp only at this; omega)
    replace HL := HL2
    go_wp2_with fail
    refine (t_num b 2 l2 (by omega) (by omega) HL.out _ HB.out).mono ?_
    intro e w3 hq
    unfold Stepped at hq
    cases hE : numP 2 l2 with
    | none =>
     rw [hE] at hq
     have E3 := Lib.hid hE
     clear hE
     obtain ⟨rfl, n1⟩ := hq
     unfold outOf
     have HZ : Hid (dateP l = none) := Lib.hid (by unfold dateP; simp only [EL.out, EQ.out, E1.out, E2.out, E3.out, Option.bind_some, Option.bind_none])
     replace HN := Lib.hid (HN.out.trans (n1.more (by simp)))
     clear n1
     go_wp2
     refine ⟨rfl, ?_⟩
     unfold DatePost
     rw [HZ.out]
     exact ⟨rfl, HN.out⟩
    | some x =>
     rw [hE] at hq
     obtain ⟨mo2, l3⟩ := x
     have E3 := Lib.hid hE
     clear hE
     obtain ⟨rfl, h1, n1⟩ := hq
     replace HB := Lib.hid h1
     replace HM := Lib.hid (HM.out.near n1 (by simpa using NE.out.symm))
     replace HN := Lib.hid (HN.out.trans (n1.more (by simp)))
     clear h1 n1
     have HL3 : Hid (l3.length ≤ 100000) := Lib.hid (by have := HL.out; have := (numP_bd E3.out).2; dsimp only at this; omega)
     replace HL := HL3
     have d2 := HM.out.cell 2 rfl
     have z2 := HM.out.frozen 2 rfl
     have ne1 := NE.out
     have ne2 := NE.out.symm
     go_wp2_with fail
     replace HB := Lib.hid (HB.out.far NE.out.symm 2 (.int .i64 (mo2 : Int)))
     replace HM := Lib.hid (HM.out.set 2 (.int .i64 (mo2 : Int)) (by simp))
     replace HN := Lib.hid (HN.out.set (b := mb) (by simp) 2 (.int .i64 (mo2 : Int)))
     clear d2 z2 ne1 ne2
     refine (t_ch b 45 l3 HL.out _ HB.out).mono ?_
     intro e w4 hq
     unfold Stepped at hq
     cases hE : chP 45 l3 with
     | none =>
      rw [hE] at hq
      have E4 := Lib.hid hE
      clear hE
      obtain ⟨rfl, n1⟩ := hq
      unfold outOf
      have HZ : Hid (dateP l = none) := Lib.hid (by unfold dateP; simp only [EL.out, EQ.out, E1.out, E2.out, E3.out, E4.out, Option.bind_some, Option.bind_none])
      replace HN := Lib.hid (HN.out.trans (n1.more (by simp)))
      clear n1
      go_wp2
      refine ⟨rfl, ?_⟩
      unfold DatePost
      rw [HZ.out]
      exact ⟨rfl, HN.out⟩
     | some x =>
      rw [hE] at hq
      obtain ⟨u2, l4⟩ := x
      have E4 := Lib.hid hE
      clear hE
      obtain ⟨rfl, h1, n1⟩ := hq
      replace HB := Lib.hid h1
      replace HM := Lib.hid (HM.out.near n1 (by simpa using NE.out.symm))
      replace HN := Lib.hid (HN.out.trans (n1.more (by simp)))
      clear h1 n1
      have HL4 : Hid (l4.length ≤ 100000) := Lib.hid (by have := HL.out; have := chP_len E4.out; dsimp only at this; omega)
      replace HL := HL4
      go_wp2_with fail
      refine (t_num b 2 l4 (by omega) (by omega) HL.out _ HB.out).mono ?_
      intro e w5 hq
      unfold Stepped at hq
      cases hE : numP 2 l4 with
      | none =>
       rw [hE] at hq
       have E5 := Lib.hid hE
       clear hE
       obtain ⟨rfl, n1⟩ := hq
       unfold outOf
       have HZ : Hid (dateP l = none) := Lib.hid (by unfold dateP; simp only [EL.out, EQ.out, E1.out, E2.out, E3.out, E4.out, E5.out, Option.bind_some, Option.bind_none])
       replace HN := Lib.hid (HN.out.trans (n1.more (by simp)))
       clear n1
       go_wp2
       refine ⟨rfl, ?_⟩
       unfold DatePost
       rw [HZ.out]
       exact ⟨rfl, HN.out⟩
      | some x =>
       rw [hE] at hq
       obtain ⟨d2, l5⟩ := x
       have E5 := Lib.hid hE
       clear hE
       obtain ⟨rfl, h1, n1⟩ := hq
       replace HB := Lib.hid h1
       replace HM := Lib.hid (HM.out.near n1 (by simpa using NE.out.symm))
       replace HN := Lib.hid (HN.out.trans (n1.more (by simp)))
       clear h1 n1
       have HL5 : Hid (l5.length ≤ 100000) := Lib.hid (by have := HL.out; have := (numP_bd E5.out).2; dsimp only at this; omega)
       replace HL := HL5
       have d3 := HM.out.cell 3 rfl
       have z3 := HM.out.frozen 3 rfl
       have ne1 := NE.out
       have ne2 := NE.out.symm
       have HZ : Hid (dateP l = some (((y : Int), (mo2 : Int), (d2 : Int)), l5)) := Lib.hid (by unfold dateP; simp only [EL.out, EQ.out, E1.out, E2.out, E3.out, E4.out, E5.out, Option.bind_some, Option.bind_none]; rfl)
       go_wp2
       replace HB := Lib.hid (HB.out.far NE.out.symm 3 (.int .i64 (d2 : Int)))
       replace HM := Lib.hid (HM.out.set 3 (.int .i64 (d2 : Int)) (by simp))
       replace HN := Lib.hid (HN.out.set (b := mb) (by simp) 3 (.int .i64 (d2 : Int)))
       clear d3 z3 ne1 ne2
       refine bodyPost_end (results_none rfl _ _ _) rfl ?_
       unfold DatePost
       rw [HZ.out]
       exact ⟨rfl, HB.out, HM.out, HN.out⟩
 ·unfold optV
  rw [if_pos rfl]
  go_wp2_with fail
  refine (t_num b 4 l0 (by omega) (by omega) HL.out _ HB.out).mono ?_
  intro e w1 hq
  unfold Stepped at hq
  cases hE : numP 4 l0 with
  | none =>
   rw [hE] at hq
   have E1 := Lib.hid hE
   clear hE
   obtain ⟨rfl, n1⟩ := hq
   unfold outOf
   have HZ : Hid (dateP l = none) := Lib.hid (by unfold dateP; simp only [EL.out, EQ.out, E1.out, Option.bind_some, Option.bind_none])
   replace HN := Lib.hid (HN.out.trans (n1.more (by simp)))
   clear n1
   go_wp2
   refine ⟨rfl, ?_⟩
   unfold DatePost
   rw [HZ.out]
   exact ⟨rfl, HN.out⟩
  | some x =>
   rw [hE] at hq
   obtain ⟨y, l1⟩ := x
   have E1 := Lib.hid hE
   clear hE
   obtain ⟨rfl, h1, n1⟩ := hq
   replace HB := Lib.hid h1
   replace HM := Lib.hid (HM.out.near n1 (by simpa using NE.out.symm))
   replace HN := Lib.hid (HN.out.trans (n1.more (by simp)))
   clear h1 n1
   have HL1 : Hid (l1.length ≤ 100000) := Lib.hid (by have := HL.out; have := (numP_bd E1.out).2; dsimp only at this; omega)
   replace HL := HL1
   have d1 := HM.out.cell 1 rfl
   have z1 := HM.out.frozen 1 rfl
   have ne1 := NE.out
   have ne2 := NE.out.symm
   have hyb : (y : Int) < 10000 := by have := (numP_bd E1.out).1; omega
   have hwy : IntKind.i64.wrap (-(y : Int)) = -(y : Int) := IntWalk.i64_in _ (by omega)
   go_wp2_with fail
   replace HB := Lib.hid ((HB.out.far NE.out.symm 1 (.int .i64 (y : Int))).far NE.out.symm 1 (.int .i64 (-(y : Int))))
   replace HM := Lib.hid ((HM.out.set 1 (.int .i64 (y : Int)) (by simp)).set 1 (.int .i64 (-(y : Int))) (by simp))
   replace HN := Lib.hid ((HN.out.set (b := mb) (by simp) 1 (.int .i64 (y : Int))).set (b := mb) (by simp) 1 (.int .i64 (-(y : Int))))
   clear d1 z1 ne1 ne2
   refine (t_ch b 45 l1 HL.out _ HB.out).mono ?_
   intro e w2 hq
   unfold Stepped at hq
   cases hE : chP 45 l1 with
   | none =>
    rw [hE] at hq
    have E2 := Lib.hid hE
    clear hE
    obtain ⟨rfl, n1⟩ := hq
    unfold outOf
    have HZ : Hid (dateP l = none) := Lib.hid (by unfold dateP; simp only [EL.out, EQ.out, E1.out, E2.out, Option.bind_some, Option.bind_none])
    replace HN := Lib.hid (HN.out.trans (n1.more (by simp)))
    clear n1
    go_wp2
    refine ⟨rfl, ?_⟩
    unfold DatePost
    rw [HZ.out]
    exact ⟨rfl, HN.out⟩
   | some x =>
    rw [hE] at hq
    obtain ⟨u, l2⟩ := x
    have E2 := Lib.hid hE
    clear hE
    obtain ⟨rfl, h1, n1⟩ := hq
    replace HB := Lib.hid h1
    replace HM := Lib.hid (HM.out.near n1 (by simpa using NE.out.symm))
    replace HN := Lib.hid (HN.out.trans (n1.more (by simp)))
    clear h1 n1
    have HL2 : Hid (l2.length ≤ 100000) := Lib.hid (by have := HL.out; have := chP_len E2.out; dsimp only at this; omega)
    replace HL := HL2
    go_wp2_with fail
    refine (t_num b 2 l2 (by omega) (by omega) HL.out _ HB.out).mono ?_
    intro e w3 hq
    unfold Stepped at hq
    cases hE : numP 2 l2 with
    | none =>
     rw [hE] at hq
     have E3 := Lib.hid hE
     clear hE
     obtain ⟨rfl, n1⟩ := hq
     unfold outOf
     have HZ : Hid (dateP l = none) := Lib.hid (by unfold dateP; simp only [EL.out, EQ.out, E1.out, E2.out, E3.out, Option.bind_some, Option.bind_none])
     replace HN := Lib.hid (HN.out.trans (n1.more (by simp)))
     clear n1
     go_wp2
     refine ⟨rfl, ?_⟩
     unfold DatePost
     rw [HZ.out]
     exact ⟨rfl, HN.out⟩
    | some x =>
     rw [hE] at hq
     obtain ⟨mo2, l3⟩ := x
     have E3 := Lib.hid hE
     clear hE
     obtain ⟨rfl, h1, n1⟩ := hq
     replace HB := Lib.hid h1
     replace HM := Lib.hid (HM.out.near n1 (by simpa using NE.out.symm))
     replace HN := Lib.hid (HN.out.trans (n1.more (by simp)))
     clear h1 n1
     have HL3 : Hid (l3.length ≤ 100000) := Lib.hid (by have := HL.out; have := (numP_bd E3.out).2; dsimp only at this; omega)
     replace HL := HL3
     have d2 := HM.out.cell 2 rfl
     have z2 := HM.out.frozen 2 rfl
     have ne1 := NE.out
     have ne2 := NE.out.symm
     go_wp2_with fail
     replace HB := Lib.hid (HB.out.far NE.out.symm 2 (.int .i64 (mo2 : Int)))
     replace HM := Lib.hid (HM.out.set 2 (.int .i64 (mo2 : Int)) (by simp))
     replace HN := Lib.hid (HN.out.set (b := mb) (by simp) 2 (.int .i64 (mo2 : Int)))
     clear d2 z2 ne1 ne2
     refine (t_ch b 45 l3 HL.out _ HB.out).mono ?_
     intro e w4 hq
     unfold Stepped at hq
     cases hE : chP 45 l3 with
     | none =>
      rw [hE] at hq
      have E4 := Lib.hid hE
      clear hE
      obtain ⟨rfl, n1⟩ := hq
      unfold outOf
      have HZ : Hid (dateP l = none) := Lib.hid (by unfold dateP; simp only [EL.out, EQ.out, E1.out, E2.out, E3.out, E4.out, Option.bind_some, Option.bind_none])
      replace HN := Lib.hid (HN.out.trans (n1.more (by simp)))
      clear n1
      go_wp2
      refine ⟨rfl, ?_⟩
      unfold DatePost
      rw [HZ.out]
      exact ⟨rfl, HN.out⟩
     | some x =>
      rw [hE] at hq
      obtain ⟨u2, l4⟩ := x
      have E4 := Lib.hid hE
      clear hE
      obtain ⟨rfl, h1, n1⟩ := hq
      replace HB := Lib.hid h1
      replace HM := Lib.hid (HM.out.near n1 (by simpa using NE.out.symm))
      replace HN := Lib.hid (HN.out.trans (n1.more (by simp)))
      clear h1 n1
      have HL4 : Hid (l4.length ≤ 100000) := Lib.hid (by have := HL.out; have := chP_len E4.out; dsimp only at this; omega)
      replace HL := HL4
      go_wp2_with fail
      refine (t_num b 2 l4 (by omega) (by omega) HL.out _ HB.out).mono ?_
      intro e w5 hq
      unfold Stepped at hq
      cases hE : numP 2 l4 with
      | none =>
       rw [hE] at hq
       have E5 := Lib.hid hE
       clear hE
       obtain ⟨rfl, n1⟩ := hq
       unfold outOf
       have HZ : Hid (dateP l = none) := Lib.hid (by unfold dateP; simp only [EL.out, EQ.out, E1.out, E2.out, E3.out, E4.out, E5.out, Option.bind_some, Option.bind_none])
       replace HN := Lib.hid (HN.out.trans (n1.more (by simp)))
       clear n1
       go_wp2
       refine ⟨rfl, ?_⟩
       unfold DatePost
       rw [HZ.out]
       exact ⟨rfl, HN.out⟩
      | some x =>
       rw [hE] at hq
       obtain ⟨d2, l5⟩ := x
       have E5 := Lib.hid hE
       clear hE
       obtain ⟨rfl, h1, n1⟩ := hq
       replace HB := Lib.hid h1
       replace HM := Lib.hid (HM.out.near n1 (by simpa using NE.out.symm))
       replace HN := Lib.hid (HN.out.trans (n1.more (by simp)))
       clear h1 n1
       have HL5 : Hid (l5.length ≤ 100000) := Lib.hid (by have := HL.out; have := (numP_bd E5.out).2; dsimp only at this; omega)
       replace HL := HL5
       have d3 := HM.out.cell 3 rfl
       have z3 := HM.out.frozen 3 rfl
       have ne1 := NE.out
       have ne2 := NE.out.symm
       have HZ : Hid (dateP l = some ((-(y : Int), (mo2 : Int), (d2 : Int)), l5)) := Lib.hid (by unfold dateP; simp only [EL.out, EQ.out, E1.out, E2.out, E3.out, E4.out, E5.out, Option.bind_some, Option.bind_none]; rfl)
       go_wp2
       replace HB := Lib.hid (HB.out.far NE.out.symm 3 (.int .i64 (d2 : Int)))
       replace HM := Lib.hid (HM.out.set 3 (.int .i64 (d2 : Int)) (by simp))
       replace HN := Lib.hid (HN.out.set (b := mb) (by simp) 3 (.int .i64 (d2 : Int)))
       clear d3 z3 ne1 ne2
       refine bodyPost_end (results_none rfl _ _ _) rfl ?_
       unfold DatePost
       rw [HZ.out]
       exact ⟨rfl, HB.out, HM.out, HN.out⟩
def TimePost (b mb : Nat) (k y mo d : Int) (s : Dec) (zd : Bool) (z : Int) (l : List UInt8) (w : World) (e : Ending) (w' : World) : Prop :=
 match timeP l with
 | none => e = outOf 6 ∧ Near [b, mb] w w'
 | some x => e = .returned (.string ⟨x.1.2.2.toArray⟩) ∧ HasL w' b [.string ⟨x.2.toArray⟩] ∧ HasL w' mb (momC k y mo d x.1.1 x.1.2.1 s zd z) ∧ Near [b, mb] w w'
theorem p_time7 (b mb : Nat) (hne : b ≠ mb) (k y mo d h0 mi0 : Int) (s : Dec) (zd : Bool) (z : Int) (l : List UInt8) (hs : l.length ≤ 100000) (w : World) (hB : HasL w b [.string ⟨l.toArray⟩]) (hM : HasL w mb (momC k y mo d h0 mi0 s zd z)) :
  Calls Tryz.prog 75 #[takeV b, .pointer (some ⟨mb, 0, none⟩)] w (TimePost b mb k y mo d s zd z l w) := by
 unfold momC at hM
 have HB := Lib.hid hB
 have HM := Lib.hid hM
 have HN : Hid (Near [b, mb] w w) := Lib.hid (Near.refl _ _)
 have HL := Lib.hid hs
 have NE := Lib.hid hne
 clear hB hM hs hne
 unfold takeV
 go_enter Tryz.func75, Tryz.ntmps75
 go_wp2_with fail
 refine (t_num b 2 l (by omega) (by omega) HL.out _ HB.out).mono ?_
 intro e w1 hq
 unfold Stepped at hq
 cases hE : numP 2 l with
 | none =>
  rw [hE] at hq
  have E1 := Lib.hid hE
  clear hE
  obtain ⟨rfl, n1⟩ := hq
  unfold outOf
  have HZ : Hid (timeP l = none) := Lib.hid (by unfold timeP; simp only [E1.out, Option.bind_some, Option.bind_none])
  replace HN := Lib.hid (HN.out.trans (n1.more (by simp)))
  clear n1
  go_wp2
  refine ⟨rfl, ?_⟩
  unfold TimePost
  rw [HZ.out]
  exact ⟨rfl, HN.out⟩
 | some x =>
  rw [hE] at hq
  obtain ⟨hr, l1⟩ := x
  have E1 := Lib.hid hE
  clear hE
  obtain ⟨rfl, h1, n1⟩ := hq
  replace HB := Lib.hid h1
  replace HM := Lib.hid (HM.out.near n1 (by simpa using NE.out.symm))
  replace HN := Lib.hid (HN.out.trans (n1.more (by simp)))
  clear h1 n1
  have HL1 : Hid (l1.length ≤ 100000) := Lib.hid (by have := HL.out; have := (numP_bd E1.out).2; dsimp only at this; omega)
  replace HL := HL1
  have d4 := HM.out.cell 4 rfl
  have z4 := HM.out.frozen 4 rfl
  have ne1 := NE.out
  have ne2 := NE.out.symm
  go_wp2_with fail
  replace HB := Lib.hid (HB.out.far NE.out.symm 4 (.int .i64 (hr : Int)))
  replace HM := Lib.hid (HM.out.set 4 (.int .i64 (hr : Int)) (by simp))
  replace HN := Lib.hid (HN.out.set (b := mb) (by simp) 4 (.int .i64 (hr : Int)))
  clear d4 z4 ne1 ne2
  refine (t_ch b 58 l1 HL.out _ HB.out).mono ?_
  intro e w2 hq
  unfold Stepped at hq
  cases hE : chP 58 l1 with
  | none =>
   rw [hE] at hq
   have E2 := Lib.hid hE
   clear hE
   obtain ⟨rfl, n1⟩ := hq
   unfold outOf
   have HZ : Hid (timeP l = none) := Lib.hid (by unfold timeP; simp only [E1.out, E2.out, Option.bind_some, Option.bind_none])
   replace HN := Lib.hid (HN.out.trans (n1.more (by simp)))
   clear n1
   go_wp2
   refine ⟨rfl, ?_⟩
   unfold TimePost
   rw [HZ.out]
   exact ⟨rfl, HN.out⟩
  | some x =>
   rw [hE] at hq
   obtain ⟨u, l2⟩ := x
   have E2 := Lib.hid hE
   clear hE
   obtain ⟨rfl, h1, n1⟩ := hq
   replace HB := Lib.hid h1
   replace HM := Lib.hid (HM.out.near n1 (by simpa using NE.out.symm))
   replace HN := Lib.hid (HN.out.trans (n1.more (by simp)))
   clear h1 n1
   have HL2 : Hid (l2.length ≤ 100000) := Lib.hid (by have := HL.out; have := chP_len E2.out; dsimp only at this; omega)
   replace HL := HL2
   go_wp2_with fail
   refine (t_num b 2 l2 (by omega) (by omega) HL.out _ HB.out).mono ?_
   intro e w3 hq
   unfold Stepped at hq
   cases hE : numP 2 l2 with
   | none =>
    rw [hE] at hq
    have E3 := Lib.hid hE
    clear hE
    obtain ⟨rfl, n1⟩ := hq
    unfold outOf
    have HZ : Hid (timeP l = none) := Lib.hid (by unfold timeP; simp only [E1.out, E2.out, E3.out, Option.bind_some, Option.bind_none])
    replace HN := Lib.hid (HN.out.trans (n1.more (by simp)))
    clear n1
    go_wp2
    refine ⟨rfl, ?_⟩
    unfold TimePost
    rw [HZ.out]
    exact ⟨rfl, HN.out⟩
   | some x =>
    rw [hE] at hq
    obtain ⟨mi2, l3⟩ := x
    have E3 := Lib.hid hE
    clear hE
    obtain ⟨rfl, h1, n1⟩ := hq
    replace HB := Lib.hid h1
    replace HM := Lib.hid (HM.out.near n1 (by simpa using NE.out.symm))
    replace HN := Lib.hid (HN.out.trans (n1.more (by simp)))
    clear h1 n1
    have HL3 : Hid (l3.length ≤ 100000) := Lib.hid (by have := HL.out; have := (numP_bd E3.out).2; dsimp only at this; omega)
    replace HL := HL3
    have d5 := HM.out.cell 5 rfl
    have z5 := HM.out.frozen 5 rfl
    have ne1 := NE.out
    have ne2 := NE.out.symm
    go_wp2_with fail
    replace HB := Lib.hid (HB.out.far NE.out.symm 5 (.int .i64 (mi2 : Int)))
    replace HM := Lib.hid (HM.out.set 5 (.int .i64 (mi2 : Int)) (by simp))
    replace HN := Lib.hid (HN.out.set (b := mb) (by simp) 5 (.int .i64 (mi2 : Int)))
    clear d5 z5 ne1 ne2
    refine (t_ch b 58 l3 HL.out _ HB.out).mono ?_
    intro e w4 hq
    unfold Stepped at hq
    cases hE : chP 58 l3 with
    | none =>
     rw [hE] at hq
     have E4 := Lib.hid hE
     clear hE
     obtain ⟨rfl, n1⟩ := hq
     unfold outOf
     have HZ : Hid (timeP l = none) := Lib.hid (by unfold timeP; simp only [E1.out, E2.out, E3.out, E4.out, Option.bind_some, Option.bind_none])
     replace HN := Lib.hid (HN.out.trans (n1.more (by simp)))
     clear n1
     go_wp2
     refine ⟨rfl, ?_⟩
     unfold TimePost
     rw [HZ.out]
     exact ⟨rfl, HN.out⟩
    | some x =>
     rw [hE] at hq
     obtain ⟨u2, l4⟩ := x
     have E4 := Lib.hid hE
     clear hE
     obtain ⟨rfl, h1, n1⟩ := hq
     replace HB := Lib.hid h1
     replace HM := Lib.hid (HM.out.near n1 (by simpa using NE.out.symm))
     replace HN := Lib.hid (HN.out.trans (n1.more (by simp)))
     clear h1 n1
     have HL4 : Hid (l4.length ≤ 100000) := Lib.hid (by have := HL.out; have := chP_len E4.out; dsimp only at this; omega)
     replace HL := HL4
     go_wp2_with fail
     refine (t_dig b 2 l4 (by omega) HL.out _ HB.out).mono ?_
     intro e w5 hq
     unfold Stepped at hq
     cases hE : txtP 2 l4 with
     | none =>
      rw [hE] at hq
      have E5 := Lib.hid hE
      clear hE
      obtain ⟨rfl, n1⟩ := hq
      unfold outOf
      have HZ : Hid (timeP l = none) := Lib.hid (by unfold timeP; simp only [E1.out, E2.out, E3.out, E4.out, E5.out, Option.bind_some, Option.bind_none])
      replace HN := Lib.hid (HN.out.trans (n1.more (by simp)))
      clear n1
      go_wp2
      refine ⟨rfl, ?_⟩
      unfold TimePost
      rw [HZ.out]
      exact ⟨rfl, HN.out⟩
     | some x =>
      rw [hE] at hq
      obtain ⟨zt, l5⟩ := x
      have E5 := Lib.hid hE
      clear hE
      obtain ⟨rfl, h1, n1⟩ := hq
      replace HB := Lib.hid h1
      replace HM := Lib.hid (HM.out.near n1 (by simpa using NE.out.symm))
      replace HN := Lib.hid (HN.out.trans (n1.more (by simp)))
      clear h1 n1
      have HL5 : Hid (l5.length ≤ 100000) := Lib.hid (by have := HL.out; have := (txtP_len E5.out).1; dsimp only at this; omega)
      replace HL := HL5
      have hzs : (⟨zt.toArray⟩ : ByteArray).size = 2 := by rw [← bytes_len, bytes_mk]; exact (txtP_len E5.out).2
      obtain ⟨q, hq0⟩ : ∃ q, (isP 46 l5).1 = q := ⟨_, rfl⟩
      obtain ⟨l6, hl6⟩ : ∃ t, (isP 46 l5).2 = t := ⟨_, rfl⟩
      have c0 := fun W hW => t_opt b 46 l5 HL.out W hW
      rw [hq0, hl6] at c0
      have HL6 : Hid (l6.length ≤ 100000) := Lib.hid (by have h1 := isP_len 46 l5; have h2 := HL.out; rw [hl6] at h1; omega)
      have EQ := Lib.hid hq0
      have EL := Lib.hid hl6
      clear hq0 hl6
      unfold takeA at c0
      go_wp2_with fail
      refine (c0 _ HB.out).mono ?_
      rintro e w6 ⟨rfl, h1, n1⟩
      replace HB := Lib.hid h1
      replace HM := Lib.hid (HM.out.near n1 (by simpa using NE.out.symm))
      replace HN := Lib.hid (HN.out.trans (n1.more (by simp)))
      clear h1 n1
      replace HL := HL6
      clear HL6 c0
      cases q
      ·have HZ : Hid (timeP l = some (((hr : Int), (mi2 : Int), zt), l6)) := Lib.hid (by unfold timeP fracP; simp only [E1.out, E2.out, E3.out, E4.out, E5.out, EQ.out, EL.out, Option.bind_some, Bool.false_eq_true, if_false])
       unfold optV
       rw [if_neg (by simp)]
       go_wp2
       go_ret
       unfold TimePost
       rw [HZ.out]
       exact ⟨rfl, HB.out, HM.out, HN.out⟩
      ·unfold optV
       rw [if_pos rfl]
       go_wp2_with fail
       refine (t_run b l6 HL.out _ HB.out).mono ?_
       intro e w7 hq
       unfold Stepped at hq
       cases hE : runP l6 with
       | none =>
        rw [hE] at hq
        have E7 := Lib.hid hE
        clear hE
        obtain ⟨rfl, n1⟩ := hq
        unfold outOf
        have HZ : Hid (timeP l = none) := Lib.hid (by unfold timeP fracP; simp only [E1.out, E2.out, E3.out, E4.out, E5.out, EQ.out, EL.out, E7.out, Option.bind_some, Option.bind_none, if_true])
        replace HN := Lib.hid (HN.out.trans (n1.more (by simp)))
        clear n1
        go_wp2
        refine ⟨rfl, ?_⟩
        unfold TimePost
        rw [HZ.out]
        exact ⟨rfl, HN.out⟩
       | some x =>
        rw [hE] at hq
        obtain ⟨rn, l7⟩ := x
        have E7 := Lib.hid hE
        clear hE
        obtain ⟨rfl, h1, n1⟩ := hq
        replace HB := Lib.hid h1
        replace HM := Lib.hid (HM.out.near n1 (by simpa using NE.out.symm))
        replace HN := Lib.hid (HN.out.trans (n1.more (by simp)))
        clear h1 n1
        have hrn : (⟨rn.toArray⟩ : ByteArray).size ≤ 100000 := by rw [← bytes_len, bytes_mk]; have h1 := (runP_len E7.out).2; have h2 := HL.out; dsimp only at h1; omega
        have hq1 : ¬ 9223372036854775807 < 1 + (⟨rn.toArray⟩ : ByteArray).size := by omega
        have hq2 : ¬ 9223372036854775807 < 2 + (1 + (⟨rn.toArray⟩ : ByteArray).size) := by omega
        have HZ : Hid (timeP l = some (((hr : Int), (mi2 : Int), zt ++ 46 :: rn), l7)) := Lib.hid (by unfold timeP fracP; simp only [E1.out, E2.out, E3.out, E4.out, E5.out, EQ.out, EL.out, E7.out, Option.bind_some, if_true])
        have HS : Hid ((⟨zt.toArray⟩ : ByteArray) ++ ((⟨#[46]⟩ : ByteArray) ++ (⟨rn.toArray⟩ : ByteArray)) = ⟨(zt ++ 46 :: rn).toArray⟩) := Lib.hid (by apply bytes_ext; simp only [Joins.data_append, bytes_mk]; rfl)
        obtain ⟨RB, hRB⟩ : ∃ R : ByteArray, (⟨rn.toArray⟩ : ByteArray) = R := ⟨_, rfl⟩
        obtain ⟨ZB, hZB⟩ : ∃ R : ByteArray, (⟨zt.toArray⟩ : ByteArray) = R := ⟨_, rfl⟩
        dsimp only
        rw [hRB] at hq1 hq2 HS ⊢
        rw [hZB] at hzs HS ⊢
        clear hRB hZB hrn
        go_wp2
        go_ret
        unfold TimePost
        rw [HZ.out]
        exact ⟨by rw [← HS.out]; rfl, HB.out, HM.out, HN.out⟩
end Go.Proofs.YtmdnijehoagamaaGreatDoor
