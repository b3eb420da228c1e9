/- OO OP -/
import Derived.Test.YtmdnijehoagamaaGreatDoorK29
set_option linter.unusedVariables false
set_option linter.unusedSimpArgs false
namespace Go.Proofs.YtmdnijehoagamaaGreatDoor
set_option maxRecDepth 100000
set_option maxHeartbeats 8000000
open Go.RowKit
def zone1P : List UInt8 → Option ((Bool × Int) × List UInt8)
 | [] => some ((false, 0), [])
 | c :: t => if c = 90 then some ((true, 0), t) else if c = 43 ∨ c = 45 then (awayP t).bind fun a => some ((true, if c = 45 then -(a.1 : Int) else (a.1 : Int)), a.2) else some ((false, 0), c :: t)
theorem zone_end (l : List UInt8) : zoneP l = (zone1P l).bind fun x => if x.2 = [] then some x.1 else none := by
 cases l with
 | nil => rfl
 | cons c t =>
  show (if c = 90 then _ else _) = Option.bind (if c = 90 then _ else _) _
  by_cases h : c = 90
  ·rw [if_pos h, if_pos h]; rfl
  ·rw [if_neg h, if_neg h]
   by_cases h2 : c = 43 ∨ c = 45
   ·rw [if_pos h2, if_pos h2]
    cases awayP t <;> rfl
   ·rw [if_neg h2, if_neg h2]
    rfl
def sgnS : ByteArray := ⟨#[90, 43, 45]⟩
def isSgn (c : UInt8) : Bool := c == 90 || c == 43 || c == 45
theorem inS_sgn (c : UInt8) : inS sgnS c = isSgn c := by
 have h : ∀ n : Fin 256, inS sgnS (UInt8.ofNat n.1) = isSgn (UInt8.ofNat n.1) := by decide +kernel
 have := h ⟨c.toNat, c.toNat_lt⟩
 simpa using this
def sgnP : List UInt8 → List UInt8 × List UInt8
 | [] => ([], [])
 | c :: t => if isSgn c then ([c], t) else ([], c :: t)
theorem t_sgn (b : Nat) (l : List UInt8) (hs : l.length ≤ 100000) (w : World) (h : HasL w b [.string ⟨l.toArray⟩]) :
  Calls Tryz.prog 72 (takeA b sgnS 0 1) w fun e w' => e = .returned (.string ⟨(sgnP l).1.toArray⟩) ∧ HasL w' b [.string ⟨(sgnP l).2.toArray⟩] ∧ Near [b] w w' := by
 refine (p_take b sgnS 0 1 (by omega) (by omega) ⟨l.toArray⟩ (by rw [← bytes_len, bytes_mk]; exact hs) w h).mono fun e w' q => ?_
 unfold TakePost at q
 rw [bytes_mk, if_neg (by omega), (ext_list _ l (bytes_mk _) _).1, (ext_list _ l (bytes_mk _) _).2] at q
 cases l with
 | nil => exact q
 | cons x t =>
  have er : runN sgnS 1 (x :: t) = if isSgn x then 1 else 0 := by
   unfold runN
   rw [List.take_succ_cons, List.take_zero, List.takeWhile_cons, inS_sgn]
   cases isSgn x <;> rfl
  have e0 : sgnP (x :: t) = if isSgn x then ([x], t) else ([], x :: t) := rfl
  rw [er] at q
  rw [e0]
  cases hx : isSgn x
  ·rw [hx] at q; exact q
  ·rw [hx] at q; exact q
def ZonePost (b mb : Nat) (k y mo d h mi : Int) (s : Dec) (l : List UInt8) (w : World) (e : Ending) (w' : World) : Prop :=
 match zone1P l with
 | none => e = outOf 6 ∧ Near [b, mb] w w'
 | some x => e = .returned (.tuple #[]) ∧ HasL w' b [.string ⟨x.2.toArray⟩] ∧ HasL w' mb (momC k y mo d h mi s x.1.1 x.1.2) ∧ Near [b, mb] w w'
theorem p_zone_nil (b mb : Nat) (hne : b ≠ mb) (k y mo d h mi : Int) (s : Dec)  (hs : (([] : List UInt8)).length ≤ 100000) (w : World) (hB : HasL w b [.string ⟨(([] : List UInt8)).toArray⟩]) (hM : HasL w mb (momC k y mo d h mi s false 0)) :
  Calls Tryz.prog 76 #[takeV b, .pointer (some ⟨mb, 0, none⟩)] w (ZonePost b mb k y mo d h mi s (([] : List UInt8)) w) := by
 have c0 := fun W hW => t_sgn b (([] : List UInt8)) hs W hW
 rw [show sgnP (([] : List UInt8)) = ([], []) from rfl] at c0
 unfold takeA sgnS at c0
 dsimp only at c0
 unfold momC at hM
 have HZ : Hid (zone1P (([] : List UInt8)) = some ((false, 0), [])) := Lib.hid (rfl)
 have HB := Lib.hid hB
 have HM := Lib.hid hM
 have HN : Hid (Near [b, mb] w w) := Lib.hid (Near.refl _ _)
 have HL := Lib.hid hs
 have NE := Lib.hid hne
 clear hB hM hs hne
 unfold takeV
 go_enter Tryz.func76, Tryz.ntmps76
 go_wp2_with fail
 refine (c0 _ HB.out).mono ?_
 rintro e w0 ⟨rfl, h1, n1⟩
 replace HB := Lib.hid h1
 replace HM := Lib.hid (HM.out.near n1 (by simpa using NE.out.symm))
 replace HN := Lib.hid (HN.out.trans (n1.more (by simp)))
 clear h1 n1
 clear c0
 have d9 := HM.out.cell 9 rfl
 have z9 := HM.out.frozen 9 rfl
 have d10 := HM.out.cell 10 rfl
 have z10 := HM.out.frozen 10 rfl
 have ne1 := NE.out
 have ne2 := NE.out.symm
 go_wp2
 replace HB := Lib.hid (HB.out.far NE.out.symm 9 (.bool false))
 replace HM := Lib.hid (HM.out.set 9 (.bool false) (by simp))
 replace HN := Lib.hid (HN.out.set (b := mb) (by simp) 9 (.bool false))
 refine bodyPost_ret (results_none rfl _ _ _) rfl ?_
 unfold ZonePost
 rw [HZ.out]
 exact ⟨rfl, HB.out, HM.out, HN.out⟩
theorem p_zone_other (b mb : Nat) (hne : b ≠ mb) (k y mo d h mi : Int) (s : Dec) (c : UInt8) (t : List UInt8) (hc : isSgn c = false) (hs : (c :: t).length ≤ 100000) (w : World) (hB : HasL w b [.string ⟨(c :: t).toArray⟩]) (hM : HasL w mb (momC k y mo d h mi s false 0)) :
  Calls Tryz.prog 76 #[takeV b, .pointer (some ⟨mb, 0, none⟩)] w (ZonePost b mb k y mo d h mi s (c :: t) w) := by
 have c0 := fun W hW => t_sgn b (c :: t) hs W hW
 rw [show sgnP (c :: t) = ([], c :: t) from by show (if isSgn c then _ else _) = _; rw [hc]; rfl] at c0
 unfold takeA sgnS at c0
 dsimp only at c0
 unfold momC at hM
 have HZ : Hid (zone1P (c :: t) = some ((false, 0), c :: t)) := Lib.hid (by show (if c = 90 then _ else _) = _; unfold isSgn at hc; simp at hc; rw [if_neg hc.1.1, if_neg (by intro g; rcases g with g | g; exact hc.1.2 g; exact hc.2 g)])
 clear hc
 have HB := Lib.hid hB
 have HM := Lib.hid hM
 have HN : Hid (Near [b, mb] w w) := Lib.hid (Near.refl _ _)
 have HL := Lib.hid hs
 have NE := Lib.hid hne
 clear hB hM hs hne
 unfold takeV
 go_enter Tryz.func76, Tryz.ntmps76
 go_wp2_with fail
 refine (c0 _ HB.out).mono ?_
 rintro e w0 ⟨rfl, h1, n1⟩
 replace HB := Lib.hid h1
 replace HM := Lib.hid (HM.out.near n1 (by simpa using NE.out.symm))
 replace HN := Lib.hid (HN.out.trans (n1.more (by simp)))
 clear h1 n1
 clear c0
 have d9 := HM.out.cell 9 rfl
 have z9 := HM.out.frozen 9 rfl
 have d10 := HM.out.cell 10 rfl
 have z10 := HM.out.frozen 10 rfl
 have ne1 := NE.out
 have ne2 := NE.out.symm
 go_wp2
 replace HB := Lib.hid (HB.out.far NE.out.symm 9 (.bool false))
 replace HM := Lib.hid (HM.out.set 9 (.bool false) (by simp))
 replace HN := Lib.hid (HN.out.set (b := mb) (by simp) 9 (.bool false))
 refine bodyPost_ret (results_none rfl _ _ _) rfl ?_
 unfold ZonePost
 rw [HZ.out]
 exact ⟨rfl, HB.out, HM.out, HN.out⟩
theorem p_zone_Z (b mb : Nat) (hne : b ≠ mb) (k y mo d h mi : Int) (s : Dec) (t : List UInt8) (hs : (90 :: t).length ≤ 100000) (w : World) (hB : HasL w b [.string ⟨(90 :: t).toArray⟩]) (hM : HasL w mb (momC k y mo d h mi s false 0)) :
  Calls Tryz.prog 76 #[takeV b, .pointer (some ⟨mb, 0, none⟩)] w (ZonePost b mb k y mo d h mi s (90 :: t) w) := by
 have c0 := fun W hW => t_sgn b (90 :: t) hs W hW
 rw [show sgnP (90 :: t) = ([90], t) from rfl] at c0
 unfold takeA sgnS at c0
 dsimp only at c0
 unfold momC at hM
 have HZ : Hid (zone1P (90 :: t) = some ((true, 0), t)) := Lib.hid rfl
 have HB := Lib.hid hB
 have HM := Lib.hid hM
 have HN : Hid (Near [b, mb] w w) := Lib.hid (Near.refl _ _)
 have HL := Lib.hid hs
 have NE := Lib.hid hne
 clear hB hM hs hne
 unfold takeV
 go_enter Tryz.func76, Tryz.ntmps76
 go_wp2_with fail
 refine (c0 _ HB.out).mono ?_
 rintro e w0 ⟨rfl, h1, n1⟩
 replace HB := Lib.hid h1
 replace HM := Lib.hid (HM.out.near n1 (by simpa using NE.out.symm))
 replace HN := Lib.hid (HN.out.trans (n1.more (by simp)))
 clear h1 n1
 clear c0
 have d9 := HM.out.cell 9 rfl
 have z9 := HM.out.frozen 9 rfl
 have d10 := HM.out.cell 10 rfl
 have z10 := HM.out.frozen 10 rfl
 have ne1 := NE.out
 have ne2 := NE.out.symm
 go_wp2
 replace HB := Lib.hid (HB.out.far NE.out.symm 9 (.bool true))
 replace HM := Lib.hid (HM.out.set 9 (.bool true) (by simp))
 replace HN := Lib.hid (HN.out.set (b := mb) (by simp) 9 (.bool true))
 refine bodyPost_ret (results_none rfl _ _ _) rfl ?_
 unfold ZonePost
 rw [HZ.out]
 exact ⟨rfl, HB.out, HM.out, HN.out⟩
theorem p_zone_plus (b mb : Nat) (hne : b ≠ mb) (k y mo d h mi : Int) (s : Dec) (t : List UInt8) (hs : (43 :: t).length ≤ 100000) (w : World) (hB : HasL w b [.string ⟨(43 :: t).toArray⟩]) (hM : HasL w mb (momC k y mo d h mi s false 0)) :
  Calls Tryz.prog 76 #[takeV b, .pointer (some ⟨mb, 0, none⟩)] w (ZonePost b mb k y mo d h mi s (43 :: t) w) := by
 have c0 := fun W hW => t_sgn b (43 :: t) hs W hW
 rw [show sgnP (43 :: t) = ([43], t) from rfl] at c0
 unfold takeA sgnS at c0
 dsimp only at c0
 unfold momC at hM
 have HB := Lib.hid hB
 have HM := Lib.hid hM
 have HN : Hid (Near [b, mb] w w) := Lib.hid (Near.refl _ _)
 have HL := Lib.hid hs
 have NE := Lib.hid hne
 clear hB hM hs hne
 unfold takeV
 go_enter Tryz.func76, Tryz.ntmps76
 go_wp2_with fail
 refine (c0 _ HB.out).mono ?_
 rintro e w0 ⟨rfl, h1, n1⟩
 replace HB := Lib.hid h1
 replace HM := Lib.hid (HM.out.near n1 (by simpa using NE.out.symm))
 replace HN := Lib.hid (HN.out.trans (n1.more (by simp)))
 clear h1 n1
 clear c0
 replace HL : Hid (t.length ≤ 100000) := Lib.hid (by have := HL.out; simp at this; omega)
 have d9 := HM.out.cell 9 rfl
 have z9 := HM.out.frozen 9 rfl
 have d10 := HM.out.cell 10 rfl
 have z10 := HM.out.frozen 10 rfl
 have ne1 := NE.out
 have ne2 := NE.out.symm
 go_wp2_with fail
 replace HB := Lib.hid (HB.out.far NE.out.symm 9 (.bool true))
 replace HM := Lib.hid (HM.out.set 9 (.bool true) (by simp))
 replace HN := Lib.hid (HN.out.set (b := mb) (by simp) 9 (.bool true))
 clear d9 z9 d10 z10 ne1 ne2
 refine (t_num b 2 t (by omega) (by omega) HL.out _ HB.out).mono ?_
 intro e w1 hq
 unfold Stepped at hq
 cases hE : numP 2 t with
 | none =>
  rw [hE] at hq
  have E1 := Lib.hid hE
  clear hE
  obtain ⟨rfl, n1⟩ := hq
  unfold outOf
  have HZ : Hid (zone1P (43 :: t) = none) := Lib.hid (by show (awayP t).bind _ = _; unfold awayP; simp only [E1.out, Option.bind_some, Option.bind_none])
  replace HN := Lib.hid (HN.out.trans (n1.more (by simp)))
  clear n1
  go_wp2
  refine ⟨rfl, ?_⟩
  unfold ZonePost
  rw [HZ.out]
  exact ⟨rfl, HN.out⟩
 | some x =>
  rw [hE] at hq
  obtain ⟨hr, l1⟩ := x
  have E1 := Lib.hid hE
  clear hE
  obtain ⟨rfl, h1, n1⟩ := hq
  replace HB := Lib.hid h1
  replace HM := Lib.hid (HM.out.near n1 (by simpa using NE.out.symm))
  replace HN := Lib.hid (HN.out.trans (n1.more (by simp)))
  clear h1 n1
  have HL1 : Hid (l1.length ≤ 100000) := Lib.hid (by have := HL.out; have := (numP_bd E1.out).2; dsimp only at this; omega)
  replace HL := HL1
  go_wp2_with fail
  refine (t_ch b 58 l1 HL.out _ HB.out).mono ?_
  intro e w2 hq
  unfold Stepped at hq
  cases hE : chP 58 l1 with
  | none =>
   rw [hE] at hq
   have E2 := Lib.hid hE
   clear hE
   obtain ⟨rfl, n1⟩ := hq
   unfold outOf
   have HZ : Hid (zone1P (43 :: t) = none) := Lib.hid (by show (awayP t).bind _ = _; unfold awayP; simp only [E1.out, E2.out, Option.bind_some, Option.bind_none])
   replace HN := Lib.hid (HN.out.trans (n1.more (by simp)))
   clear n1
   go_wp2
   refine ⟨rfl, ?_⟩
   unfold ZonePost
   rw [HZ.out]
   exact ⟨rfl, HN.out⟩
  | some x =>
   rw [hE] at hq
   obtain ⟨u, l2⟩ := x
   have E2 := Lib.hid hE
   clear hE
   obtain ⟨rfl, h1, n1⟩ := hq
   replace HB := Lib.hid h1
   replace HM := Lib.hid (HM.out.near n1 (by simpa using NE.out.symm))
   replace HN := Lib.hid (HN.out.trans (n1.more (by simp)))
   clear h1 n1
   have HL2 : Hid (l2.length ≤ 100000) := Lib.hid (by have := HL.out; have := chP_len E2.out; dsimp only at this; omega)
   replace HL := HL2
   go_wp2_with fail
   refine (t_num b 2 l2 (by omega) (by omega) HL.out _ HB.out).mono ?_
   intro e w3 hq
   unfold Stepped at hq
   cases hE : numP 2 l2 with
   | none =>
    rw [hE] at hq
    have E3 := Lib.hid hE
    clear hE
    obtain ⟨rfl, n1⟩ := hq
    unfold outOf
    have HZ : Hid (zone1P (43 :: t) = none) := Lib.hid (by show (awayP t).bind _ = _; unfold awayP; simp only [E1.out, E2.out, E3.out, Option.bind_some, Option.bind_none])
    replace HN := Lib.hid (HN.out.trans (n1.more (by simp)))
    clear n1
    go_wp2
    refine ⟨rfl, ?_⟩
    unfold ZonePost
    rw [HZ.out]
    exact ⟨rfl, HN.out⟩
   | some x =>
    rw [hE] at hq
    obtain ⟨mi2, l3⟩ := x
    have E3 := Lib.hid hE
    clear hE
    obtain ⟨rfl, h1, n1⟩ := hq
    replace HB := Lib.hid h1
    replace HM := Lib.hid (HM.out.near n1 (by simpa using NE.out.symm))
    replace HN := Lib.hid (HN.out.trans (n1.more (by simp)))
    clear h1 n1
    have HL3 : Hid (l3.length ≤ 100000) := Lib.hid (by have := HL.out; have := (numP_bd E3.out).2; dsimp only at this; omega)
    replace HL := HL3
    have hb1 := (numP_bd E1.out).1
    have hb3 := (numP_bd E3.out).1
    dsimp only at hb1 hb3
    have h1i : (hr : Int) < 100 := by omega
    have h3i : (mi2 : Int) < 100 := by omega
    have g1 : IntKind.i64.wrap (60 * (hr : Int)) = 60 * (hr : Int) := IntWalk.i64_in _ (by omega)
    have g2 : IntKind.i64.wrap (60 * (hr : Int) + (mi2 : Int)) = 60 * (hr : Int) + (mi2 : Int) := IntWalk.i64_in _ (by omega)
    have g3 : IntKind.i64.wrap (-(60 * (hr : Int) + (mi2 : Int))) = -(60 * (hr : Int) + (mi2 : Int)) := IntWalk.i64_in _ (by omega)
    by_cases hmi : (mi2 : Int) > 59
    ·have HZ : Hid (zone1P (43 :: t) = none) := Lib.hid (by show (awayP t).bind _ = _; unfold awayP; simp only [E1.out, E2.out, E3.out, Option.bind_some]; rw [if_neg (by omega)]; rfl)
     clear hb1 hb3
     go_wp2
     refine ⟨rfl, ?_⟩
     unfold ZonePost
     rw [HZ.out]
     exact ⟨rfl, HN.out⟩
    ·have HZ : Hid (zone1P (43 :: t) = some ((true, 60 * (hr : Int) + (mi2 : Int)), l3)) := Lib.hid (by show (awayP t).bind _ = _; unfold awayP; simp only [E1.out, E2.out, E3.out, Option.bind_some]; rw [if_pos (by omega)]; simp only [Option.bind_some]; congr 2)
     clear hb1 hb3
     have d9 := HM.out.cell 9 rfl
     have z9 := HM.out.frozen 9 rfl
     have d10 := HM.out.cell 10 rfl
     have z10 := HM.out.frozen 10 rfl
     have ne1 := NE.out
     have ne2 := NE.out.symm
     go_wp2
     replace HB := Lib.hid (HB.out.far NE.out.symm 10 (.int .i64 (60 * (hr : Int) + (mi2 : Int))))
     replace HM := Lib.hid (HM.out.set 10 (.int .i64 (60 * (hr : Int) + (mi2 : Int))) (by simp))
     replace HN := Lib.hid (HN.out.set (b := mb) (by simp) 10 (.int .i64 (60 * (hr : Int) + (mi2 : Int))))
     refine bodyPost_end (results_none rfl _ _ _) rfl ?_
     unfold ZonePost
     rw [HZ.out]
     exact ⟨rfl, HB.out, HM.out, HN.out⟩
theorem p_zone_minus (b mb : Nat) (hne : b ≠ mb) (k y mo d h mi : Int) (s : Dec) (t : List UInt8) (hs : (45 :: t).length ≤ 100000) (w : World) (hB : HasL w b [.string ⟨(45 :: t).toArray⟩]) (hM : HasL w mb (momC k y mo d h mi s false 0)) :
  Calls Tryz.prog 76 #[takeV b, .pointer (some ⟨mb, 0, none⟩)] w (ZonePost b mb k y mo d h mi s (45 :: t) w) := by
 have c0 := fun W hW => t_sgn b (45 :: t) hs W hW
 rw [show sgnP (45 :: t) = ([45], t) from rfl] at c0
 unfold takeA sgnS at c0
 dsimp only at c0
 unfold momC at hM
 have HB := Lib.hid hB
 have HM := Lib.hid hM
 have HN : Hid (Near [b, mb] w w) := Lib.hid (Near.refl _ _)
 have HL := Lib.hid hs
 have NE := Lib.hid hne
 clear hB hM hs hne
 unfold takeV
 go_enter Tryz.func76, Tryz.ntmps76
 go_wp2_with fail
 refine (c0 _ HB.out).mono ?_
 rintro e w0 ⟨rfl, h1, n1⟩
 replace HB := Lib.hid h1
 replace HM := Lib.hid (HM.out.near n1 (by simpa using NE.out.symm))
 replace HN := Lib.hid (HN.out.trans (n1.more (by simp)))
 clear h1 n1
 clear c0
 replace HL : Hid (t.length ≤ 100000) := Lib.hid (by have := HL.out; simp at this; omega)
 have d9 := HM.out.cell 9 rfl
 have z9 := HM.out.frozen 9 rfl
 have d10 := HM.out.cell 10 rfl
 have z10 := HM.out.frozen 10 rfl
 have ne1 := NE.out
 have ne2 := NE.out.symm
 go_wp2_with fail
 replace HB := Lib.hid (HB.out.far NE.out.symm 9 (.bool true))
 replace HM := Lib.hid (HM.out.set 9 (.bool true) (by simp))
 replace HN := Lib.hid (HN.out.set (b := mb) (by simp) 9 (.bool true))
 clear d9 z9 d10 z10 ne1 ne2
 refine (t_num b 2 t (by omega) (by omega) HL.out _ HB.out).mono ?_
 intro e w1 hq
 unfold Stepped at hq
 cases hE : numP 2 t with
 | none =>
  rw [hE] at hq
  have E1 := Lib.hid hE
  clear hE
  obtain ⟨rfl, n1⟩ := hq
  unfold outOf
  have HZ : Hid (zone1P (45 :: t) = none) := Lib.hid (by show (awayP t).bind _ = _; unfold awayP; simp only [E1.out, Option.bind_some, Option.bind_none])
  replace HN := Lib.hid (HN.out.trans (n1.more (by simp)))
  clear n1
  go_wp2
  refine ⟨rfl, ?_⟩
  unfold ZonePost
  rw [HZ.out]
  exact ⟨rfl, HN.out⟩
 | some x =>
  rw [hE] at hq
  obtain ⟨hr, l1⟩ := x
  have E1 := Lib.hid hE
  clear hE
  obtain ⟨rfl, h1, n1⟩ := hq
  replace HB := Lib.hid h1
  replace HM := Lib.hid (HM.out.near n1 (by simpa using NE.out.symm))
  replace HN := Lib.hid (HN.out.trans (n1.more (by simp)))
  clear h1 n1
  have HL1 : Hid (l1.length ≤ 100000) := Lib.hid (by have := HL.out; have := (numP_bd E1.out).2; dsimp only at this; omega)
  replace HL := HL1
  go_wp2_with fail
  refine (t_ch b 58 l1 HL.out _ HB.out).mono ?_
  intro e w2 hq
  unfold Stepped at hq
  cases hE : chP 58 l1 with
  | none =>
   rw [hE] at hq
   have E2 := Lib.hid hE
   clear hE
   obtain ⟨rfl, n1⟩ := hq
   unfold outOf
   have HZ : Hid (zone1P (45 :: t) = none) := Lib.hid (by show (awayP t).bind _ = _; unfold awayP; simp only [E1.out, E2.out, Option.bind_some, Option.bind_none])
   replace HN := Lib.hid (HN.out.trans (n1.more (by simp)))
   clear n1
   go_wp2
   refine ⟨rfl, ?_⟩
   unfold ZonePost
   rw [HZ.out]
   exact ⟨rfl, HN.out⟩
  | some x =>
   rw [hE] at hq
   obtain ⟨u, l2⟩ := x
   have E2 := Lib.hid hE
   clear hE
   obtain ⟨rfl, h1, n1⟩ := hq
   replace HB := Lib.hid h1
   replace HM := Lib.hid (HM.out.near n1 (by simpa using NE.out.symm))
   replace HN := Lib.hid (HN.out.trans (n1.more (by simp)))
   clear h1 n1
   have HL2 : Hid (l2.length ≤ 100000) := Lib.hid (by have := HL.out; have := chP_len E2.out; dsimp only at this; omega)
   replace HL := HL2
   go_wp2_with fail
   refine (t_num b 2 l2 (by omega) (by omega) HL.out _ HB.out).mono ?_
   intro e w3 hq
   unfold Stepped at hq
   cases hE : numP 2 l2 with
   | none =>
    rw [hE] at hq
    have E3 := Lib.hid hE
    clear hE
    obtain ⟨rfl, n1⟩ := hq
    unfold outOf
    have HZ : Hid (zone1P (45 :: t) = none) := Lib.hid (by show (awayP t).bind _ = _; unfold awayP; simp only [E1.out, E2.out, E3.out, Option.bind_some, Option.bind_none])
    replace HN := Lib.hid (HN.out.trans (n1.more (by simp)))
    clear n1
    go_wp2
    refine ⟨rfl, ?_⟩
    unfold ZonePost
    rw [HZ.out]
    exact ⟨rfl, HN.out⟩
   | some x =>
    rw [hE] at hq
    obtain ⟨mi2, l3⟩ := x
    have E3 := Lib.hid hE
    clear hE
    obtain ⟨rfl, h1, n1⟩ := hq
    replace HB := Lib.hid h1
    replace HM := Lib.hid (HM.out.near n1 (by simpa using NE.out.symm))
    replace HN := Lib.hid (HN.out.trans (n1.more (by simp)))
    clear h1 n1
    have HL3 : Hid (l3.length ≤ 100000) := Lib.hid (by have := HL.out; have := (numP_bd E3.out).2; dsimp only at this; omega)
    replace HL := HL3
    have hb1 := (numP_bd E1.out).1
    have hb3 := (numP_bd E3.out).1
    dsimp only at hb1 hb3
    have h1i : (hr : Int) < 100 := by omega
    have h3i : (mi2 : Int) < 100 := by omega
    have g1 : IntKind.i64.wrap (60 * (hr : Int)) = 60 * (hr : Int) := IntWalk.i64_in _ (by omega)
    have g2 : IntKind.i64.wrap (60 * (hr : Int) + (mi2 : Int)) = 60 * (hr : Int) + (mi2 : Int) := IntWalk.i64_in _ (by omega)
    have g3 : IntKind.i64.wrap (-(60 * (hr : Int) + (mi2 : Int))) = -(60 * (hr : Int) + (mi2 : Int)) := IntWalk.i64_in _ (by omega)
    by_cases hmi : (mi2 : Int) > 59
    ·have HZ : Hid (zone1P (45 :: t) = none) := Lib.hid (by show (awayP t).bind _ = _; unfold awayP; simp only [E1.out, E2.out, E3.out, Option.bind_some]; rw [if_neg (by omega)]; rfl)
     clear hb1 hb3
     go_wp2
     refine ⟨rfl, ?_⟩
     unfold ZonePost
     rw [HZ.out]
     exact ⟨rfl, HN.out⟩
    ·have HZ : Hid (zone1P (45 :: t) = some ((true, -(60 * (hr : Int) + (mi2 : Int))), l3)) := Lib.hid (by show (awayP t).bind _ = _; unfold awayP; simp only [E1.out, E2.out, E3.out, Option.bind_some]; rw [if_pos (by omega)]; simp only [Option.bind_some]; congr 2)
     clear hb1 hb3
     have d9 := HM.out.cell 9 rfl
     have z9 := HM.out.frozen 9 rfl
     have d10 := HM.out.cell 10 rfl
     have z10 := HM.out.frozen 10 rfl
     have ne1 := NE.out
     have ne2 := NE.out.symm
     go_wp2
     replace HB := Lib.hid (HB.out.far NE.out.symm 10 (.int .i64 (60 * (hr : Int) + (mi2 : Int))))
     replace HM := Lib.hid (HM.out.set 10 (.int .i64 (60 * (hr : Int) + (mi2 : Int))) (by simp))
     replace HN := Lib.hid (HN.out.set (b := mb) (by simp) 10 (.int .i64 (60 * (hr : Int) + (mi2 : Int))))
     replace HB := Lib.hid (HB.out.far NE.out.symm 10 (.int .i64 (-(60 * (hr : Int) + (mi2 : Int)))))
     replace HM := Lib.hid (HM.out.set 10 (.int .i64 (-(60 * (hr : Int) + (mi2 : Int)))) (by simp))
     replace HN := Lib.hid (HN.out.set (b := mb) (by simp) 10 (.int .i64 (-(60 * (hr : Int) + (mi2 : Int)))))
     refine bodyPost_end (results_none rfl _ _ _) rfl ?_
     unfold ZonePost
     rw [HZ.out]
     exact ⟨rfl, HB.out, HM.out, HN.out⟩
theorem p_zone7 (b mb : Nat) (hne : b ≠ mb) (k y mo d h mi : Int) (s : Dec) (l : List UInt8) (hs : l.length ≤ 100000) (w : World) (hB : HasL w b [.string ⟨l.toArray⟩]) (hM : HasL w mb (momC k y mo d h mi s false 0)) :
  Calls Tryz.prog 76 #[takeV b, .pointer (some ⟨mb, 0, none⟩)] w (ZonePost b mb k y mo d h mi s l w) := by
 cases l with
 | nil => exact p_zone_nil b mb hne k y mo d h mi s hs w hB hM
 | cons c t =>
  by_cases h1 : c = 90
  ·subst h1; exact p_zone_Z b mb hne k y mo d h mi s t hs w hB hM
  ·by_cases h2 : c = 43
   ·subst h2; exact p_zone_plus b mb hne k y mo d h mi s t hs w hB hM
   ·by_cases h3 : c = 45
    ·subst h3; exact p_zone_minus b mb hne k y mo d h mi s t hs w hB hM
    ·exact p_zone_other b mb hne k y mo d h mi s c t (by unfold isSgn; simp [h1, h2, h3]) hs w hB hM
theorem psecond_no (z : ByteArray) (d : Dec) (q : Int) (hq : (q != 0) = true)
  (cR : ∀ W, Tabs W → Calls Tryz.prog 101 #[.string z] W fun e w' => e = .returned (.tuple #[.agg #[.bool d.neg, .string d.ds, .int .i64 d.sc], .int .i64 q]) ∧ Below W.heap.size W w')
  (w : World) (hT : Tabs w) : Calls Tryz.prog 77 #[.string z] w fun e w' => e = outOf q ∧ Below w.heap.size w w' := by
 unfold outOf
 go_enter Tryz.func77, Tryz.ntmps77
 have HS := Lib.hid ((KD.nil w).push [.bool false, .string ⟨#[]⟩, .int .i64 0] 23 (n := w.heap.size) (by simp))
 have HT := Lib.hid hT
 clear hT
 go_wp2_with fail
 refine (cR _ (HS.out.tabs HT.out)).mono ?_
 rintro e w1 ⟨rfl, b1⟩
 replace HS := Lib.hid (HS.out.call b1)
 clear b1
 go_wp2
 exact ⟨rfl, rfl, (HS.out.push [.bool d.neg, .string d.ds, .int .i64 d.sc] 23 (n := w1.heap.size) rfl).old⟩
theorem psecond_ok (z : ByteArray) (d : Dec) (q : Int) (hq : (q != 0) = false)
  (cR : ∀ W, Tabs W → Calls Tryz.prog 101 #[.string z] W fun e w' => e = .returned (.tuple #[.agg #[.bool d.neg, .string d.ds, .int .i64 d.sc], .int .i64 q]) ∧ Below W.heap.size W w')
  (w : World) (hT : Tabs w) : Calls Tryz.prog 77 #[.string z] w fun e w' => e = .returned (.agg #[.bool d.neg, .string d.ds, .int .i64 d.sc]) ∧ Below w.heap.size w w' := by
 go_enter Tryz.func77, Tryz.ntmps77
 have HS := Lib.hid ((KD.nil w).push [.bool false, .string ⟨#[]⟩, .int .i64 0] 23 (n := w.heap.size) (by simp))
 have HT := Lib.hid hT
 clear hT
 go_wp2_with fail
 refine (cR _ (HS.out.tabs HT.out)).mono ?_
 rintro e w1 ⟨rfl, b1⟩
 replace HS := Lib.hid (HS.out.call b1)
 clear b1
 obtain ⟨d0_0, d0_1, d0_2⟩ := (HS.out.at 0 rfl).all3
 obtain ⟨z0_0, z0_1, z0_2⟩ := (HS.out.at 0 rfl).free3
 have lt1 := (HS.out.at 0 rfl).lt
 have ne1 : w.heap.size ≠ w1.heap.size := by omega
 have ne2 : w1.heap.size ≠ w.heap.size := by omega
 go_wp2
 replace HS := Lib.hid ((HS.out.store 0 rfl [.bool d.neg, .string d.ds, .int .i64 d.sc] rfl).push [.bool d.neg, .string d.ds, .int .i64 d.sc] 23 rfl)
 obtain ⟨r0, r1, r2⟩ := (HS.out.at 0 rfl).all3
 simp only [setL, Nat.reduceAdd] at r0 r1 r2
 refine bodyPost_ret (v := _) ?_ rfl ⟨rfl, HS.out.old⟩
 simp [results, Tryz.results77, go_sem, r0, r1, r2]
theorem p_second (z : ByteArray) (hz : z.size ≤ 400) (w : World) (hT : Tabs w) : Calls Tryz.prog 77 #[.string z] w fun e w' => (if (readS z).e = 0 then e = .returned (readS z).d.v else e = outOf (readS z).e) ∧ Below w.heap.size w w' := by
 have cR := fun W hW => progOk.read z W hz hW
 by_cases h : (readS z).e = 0
 ·simp only [if_pos h]
  exact psecond_ok z (readS z).d (readS z).e (by simp [h]) cR w hT
 ·simp only [if_neg h]
  exact psecond_no z (readS z).d (readS z).e (by simpa using h) cR w hT
end Go.Proofs.YtmdnijehoagamaaGreatDoor
