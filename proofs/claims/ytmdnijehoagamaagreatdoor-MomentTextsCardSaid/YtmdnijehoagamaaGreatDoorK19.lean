/- MH MK MJ MS MT -/
import Derived.Test.YtmdnijehoagamaaGreatDoorK16
import Derived.Test.YtmdnijehoagamaaGreatDoorK18
set_option linter.unusedVariables false
set_option linter.unusedSimpArgs false
namespace Go.Proofs.YtmdnijehoagamaaGreatDoor
open Go.RowKit
structure Pt where
 w : Int
 f : Dec
def Pt.v (p : Pt) : Value := .agg #[.int .i64 p.w, .bool p.f.neg, .string p.f.ds, .int .i64 p.f.sc]
def oneD : Dec := ⟨false, ⟨#[49]⟩, 0⟩
theorem one_is : IsDec oneD 1 0 := ⟨by kernel_rfl, rfl, by decide, by decide, by decide, by decide⟩
theorem one_eq : ofSpec 1 = oneD := by kernel_rfl
def zeroD : Dec := ⟨false, ⟨#[48]⟩, 0⟩
theorem zero_eq : ofSpec 0 = zeroD := by kernel_rfl
theorem zero_is : IsDec zeroD 0 0 := ⟨by kernel_rfl, rfl, by decide, by decide, by decide, by decide⟩
def intD (d : Dec) : Int := sv d
noncomputable def wholeD (d : Dec) : Dec := (divS d oneD 0).d
noncomputable def fracD (d : Dec) : Dec := (subS d (wholeD d)).d
noncomputable def splitS (d : Dec) : Pt := if (fracD d).neg then ⟨intD (wholeD d) - 1, (addS (fracD d) oneD).d⟩ else ⟨intD (wholeD d), fracD d⟩
noncomputable def restS (a : Dec) : Dec := (subS oneD a).d
noncomputable def plusS (a b : Pt) : Pt := if ordS a.f (restS b.f) < 0 then ⟨a.w + b.w, (addS a.f b.f).d⟩ else ⟨a.w + b.w + 1, (subS a.f (restS b.f)).d⟩
def ordP (a b : Pt) : Int := if a.w < b.w then -1 else if b.w < a.w then 1 else ordS a.f b.f
structure Part (M : Nat) (f : Dec) : Prop where
 val : Valid f
 lo : 0 ≤ vM M f
 hi : vM M f < ((10 ^ M : Nat) : Int)
theorem one_V (M : Nat) : vM M oneD = ((10 ^ M : Nat) : Int) := by
 unfold vM sv
 rw [one_is.num_eq, one_is.scl_eq]
 simp [oneD]
theorem sgn_abs (x : Bool) (n : Nat) : (sg x n).natAbs = n := by
 unfold sg
 cases x <;> simp
section
variable {M : Nat} (hM : 130 ≤ M)
include hM
theorem frac_some {z : Int} {K : Nat} (hK : K ≤ 60) (h : (z * ((10 ^ (M - K) : Nat) : Int)).natAbs < 10 ^ M) : (ofOpt (ofInt z K)).e = 0 := by
 have h1 : z.natAbs < 10 ^ 60 := by
  rw [Int.natAbs_mul, Int.natAbs_natCast] at h
  refine Nat.lt_of_lt_of_le (m := 10 ^ K) (Nat.lt_of_mul_lt_mul_right (a := 10 ^ (M - K)) (Nat.lt_of_lt_of_le h ?_)) (Nat.pow_le_pow_right (by omega) hK)
  rw [← Nat.pow_add, show K + (M - K) = M by omega]
  exact Nat.le_refl _
 obtain ⟨d, hd⟩ := ofInt_some h1 hK
 rw [hd]
 rfl
theorem frac_add {a b : Dec} (ha : Valid a) (hb : Valid b) (h : (vM M a + vM M b).natAbs < 10 ^ M) : (addS a b).e = 0 ∧ Valid (addS a b).d ∧ vM M (addS a b).d = vM M a + vM M b := by
 obtain ⟨z, K, e, hK, hz, _, _⟩ := add_form hM ha hb
 have he : (addS a b).e = 0 := by
  rw [e]
  exact frac_some hM hK (by rw [hz]; exact h)
 exact ⟨he, add_out hM ha hb he⟩
theorem frac_sub {a b : Dec} (ha : Valid a) (hb : Valid b) (h : (vM M a - vM M b).natAbs < 10 ^ M) : (subS a b).e = 0 ∧ Valid (subS a b).d ∧ vM M (subS a b).d = vM M a - vM M b := by
 obtain ⟨z, K, e, hK, hz, _, _⟩ := sub_form hM ha hb
 have he : (subS a b).e = 0 := by
  rw [e]
  exact frac_some hM hK (by rw [hz]; exact h)
 exact ⟨he, sub_out hM ha hb he⟩
theorem rest_ok {f : Dec} (h : Part M f) : (subS oneD f).e = 0 ∧ Valid (restS f) ∧ vM M (restS f) = ((10 ^ M : Nat) : Int) - vM M f := by
 obtain ⟨hv, h0, h1⟩ := h
 by_cases hz : vM M f = 0
 ·have := sub_in hM one_is.valid hv one_is.valid (by rw [hz]; omega)
  unfold restS
  rw [this]
  exact ⟨rfl, one_is.valid, by rw [one_V M, hz]; omega⟩
 ·have := frac_sub hM one_is.valid hv (by rw [one_V M]; omega)
  rw [one_V M] at this
  exact this
theorem plus_ok {a b : Pt} (ha : Part M a.f) (hb : Part M b.f) : Part M (plusS a b).f ∧ (plusS a b).w * ((10 ^ M : Nat) : Int) + vM M (plusS a b).f = a.w * ((10 ^ M : Nat) : Int) + vM M a.f + (b.w * ((10 ^ M : Nat) : Int) + vM M b.f) := by
 obtain ⟨_, rv, rV⟩ := rest_ok hM hb
 have a0 := ha.lo
 have a1 := ha.hi
 have b0 := hb.lo
 have b1 := hb.hi
 have ho := ord_V hM ha.val rv
 have hp := p_pos M
 unfold plusS
 by_cases hlt : vM M a.f < vM M (restS b.f)
 ·rw [if_pos hlt] at ho
  rw [if_pos (by rw [ho]; omega)]
  obtain ⟨_, v, e⟩ := frac_add hM ha.val hb.val (by omega)
  refine ⟨⟨v, by simp only; omega, by simp only; omega⟩, ?_⟩
  simp only
  rw [e, Int.add_mul]
  omega
 ·rw [if_neg hlt] at ho
  rw [if_neg (by rw [ho]; split <;> omega)]
  obtain ⟨_, v, e⟩ := frac_sub hM ha.val rv (by omega)
  refine ⟨⟨v, by simp only; omega, by simp only; omega⟩, ?_⟩
  simp only
  rw [e, Int.add_mul, Int.add_mul]
  omega
theorem plus_left {a b : Pt} (ha : Part M a.f) (hb : Part M b.f) : (subS a.f (restS b.f)).d.neg = decide (ordS a.f (restS b.f) < 0) := by
 obtain ⟨_, rv, rV⟩ := rest_ok hM hb
 have a0 := ha.lo
 have a1 := ha.hi
 have b0 := hb.lo
 have b1 := hb.hi
 by_cases hc : vM M a.f = 0 ∧ vM M b.f = 0
 ·have h1 : vM M a.f - vM M (restS b.f) = vM M (⟨true, ⟨#[49]⟩, 0⟩ : Dec) := by
   have is : IsDec (⟨true, ⟨#[49]⟩, 0⟩ : Dec) 1 0 := ⟨by kernel_rfl, rfl, by decide, by decide, by decide, by decide⟩
   unfold vM at *
   unfold sv at *
   rw [is.num_eq, is.scl_eq]
   simp only [if_true]
   simp only [Nat.sub_zero]
   omega
  have is : IsDec (⟨true, ⟨#[49]⟩, 0⟩ : Dec) 1 0 := ⟨by kernel_rfl, rfl, by decide, by decide, by decide, by decide⟩
  have := sub_in hM ha.val rv is.valid h1.symm
  exact (order_fact ha.val rv (by rw [this])).1
 ·exact (order_fact ha.val rv (frac_sub hM ha.val rv (by omega)).1).1
theorem whole_ok {d : Dec} (hd : Valid d) (hs : (vM M d).natAbs < 10 ^ 20 * 10 ^ M) : (divS d oneD 0).e = 0 ∧ Valid (wholeD d) ∧ scl (wholeD d) = 0 ∧ vM M (wholeD d) = intD (wholeD d) * ((10 ^ M : Nat) : Int) ∧ intD (wholeD d) = sg d.neg (num d / 10 ^ scl d) := by
 have h60 := hd.is.le
 have hq : num d / 10 ^ scl d < 10 ^ 60 := by
  unfold vM at hs
  rw [Int.natAbs_mul, sv_natAbs, Int.natAbs_natCast] at hs
  have h1 : num d < 10 ^ 20 * 10 ^ scl d := by
   refine Nat.lt_of_mul_lt_mul_right (a := 10 ^ (M - scl d)) ?_
   rw [Nat.mul_assoc, ← Nat.pow_add, show scl d + (M - scl d) = M by omega]
   exact hs
  exact Nat.lt_of_lt_of_le (Nat.div_lt_of_lt_mul (by rw [Nat.mul_comm]; exact h1)) (Nat.pow_le_pow_right (by omega) (by omega))
 have hform : divS d oneD 0 = ofOpt (ofInt (sg d.neg (num d / 10 ^ scl d)) 0) := by
  rw [show divS d oneD 0 = _ from divS_ok (k := 0) hd.is one_is (by decide) (by decide)]
  unfold divSpec
  rw [mkDec_sign]
  congr 2
  have e1 : (d.neg != oneD.neg) = d.neg := by cases d.neg <;> rfl
  rw [e1]
  have e2 : num d * 10 ^ (max (scl d) 0 - scl d) * 10 ^ 0 / (1 * 10 ^ (max (scl d) 0 - 0)) = num d / 10 ^ scl d := by
   rw [Nat.max_zero, Nat.sub_self, Nat.sub_zero]
   simp
  rw [e2]
  rfl
 have hn : (sg d.neg (num d / 10 ^ scl d)).natAbs < 10 ^ 60 := by
  rw [sgn_abs]
  exact hq
 obtain ⟨x, hx⟩ := ofInt_some hn (show 0 ≤ 60 by omega)
 obtain ⟨xv, xV, xs⟩ := ofInt_out (M := M) hx (by omega)
 have he : divS d oneD 0 = ⟨x, 0⟩ := by rw [hform, hx]; rfl
 unfold wholeD
 rw [he]
 have hs0 : scl x = 0 := by omega
 have hi : vM M x = sv x * ((10 ^ M : Nat) : Int) := by unfold vM; rw [hs0]; rfl
 refine ⟨rfl, xv, hs0, hi, ?_⟩
 have hp := p_pos M
 rw [hi] at xV
 exact Int.eq_of_mul_eq_mul_right (Int.ne_of_gt hp) xV
theorem frac_ok {d : Dec} (hd : Valid d) (hs : (vM M d).natAbs < 10 ^ 20 * 10 ^ M) : (subS d (wholeD d)).e = 0 ∧ Valid (fracD d) ∧ vM M (fracD d) = vM M d - intD (wholeD d) * ((10 ^ M : Nat) : Int) ∧ (vM M (fracD d)).natAbs < 10 ^ M ∧ (0 < vM M (fracD d) → 0 ≤ vM M d) ∧ (vM M (fracD d) < 0 → vM M d < 0) := by
 obtain ⟨_, wv, ws, wV, wi⟩ := whole_ok hM hd hs
 have h60 := hd.is.le
 have key : vM M d - vM M (wholeD d) = sg d.neg (num d % 10 ^ scl d) * ((10 ^ (M - scl d) : Nat) : Int) := by
  rw [wV, wi]
  unfold vM sv
  have e0 : ((10 ^ M : Nat) : Int) = ((10 ^ scl d : Nat) : Int) * ((10 ^ (M - scl d) : Nat) : Int) := by
   rw [← Int.natCast_mul, ← Nat.pow_add, show scl d + (M - scl d) = M by omega]
  rw [e0]
  have e1 : (num d : Int) = ((num d / 10 ^ scl d : Nat) : Int) * ((10 ^ scl d : Nat) : Int) + ((num d % 10 ^ scl d : Nat) : Int) := by
   rw [← Int.natCast_mul, ← Int.natCast_add, Nat.mul_comm, Nat.div_add_mod]
  unfold sg
  generalize ((num d / 10 ^ scl d : Nat) : Int) = q at *
  generalize ((num d % 10 ^ scl d : Nat) : Int) = r at *
  generalize ((10 ^ scl d : Nat) : Int) = p at *
  generalize ((10 ^ (M - scl d) : Nat) : Int) = u at *
  rw [e1]
  cases d.neg <;> simp only [if_true, Bool.false_eq_true, if_false] <;> grind
 have hlt : (vM M d - vM M (wholeD d)).natAbs < 10 ^ M := by
  rw [key, Int.natAbs_mul, Int.natAbs_natCast]
  rw [sgn_abs]
  have h1 : num d % 10 ^ scl d < 10 ^ scl d := Nat.mod_lt _ (Nat.pow_pos (by omega))
  have h2 := Nat.mul_lt_mul_of_pos_right h1 (show 0 < 10 ^ (M - scl d) from Nat.pow_pos (by omega))
  rw [← Nat.pow_add, show scl d + (M - scl d) = M by omega] at h2
  exact h2
 obtain ⟨he, fv, fV⟩ := frac_sub hM hd wv hlt
 have hsgn : vM M d < 0 ↔ sv d < 0 := mul_neg_iff (p_pos _)
 have hsg2 : vM M (fracD d) < 0 ↔ sg d.neg (num d % 10 ^ scl d) < 0 := by
  show vM M (subS d (wholeD d)).d < 0 ↔ _
  rw [fV, key]
  exact mul_neg_iff (p_pos _)
 have hneg := sv_neg hd
 refine ⟨he, fv, by rw [← wV]; exact fV, by show (vM M (subS d (wholeD d)).d).natAbs < _; rw [fV]; exact hlt, ?_, ?_⟩
 ·intro hpos
  rcases Int.lt_or_le (vM M d) 0 with h | h
  ·have h1 := hsgn.1 h
   rw [decide_eq_true h1] at hneg
   have : sg d.neg (num d % 10 ^ scl d) ≤ 0 := by unfold sg; rw [hneg, if_pos rfl]; omega
   have h3 : vM M (fracD d) = sg d.neg (num d % 10 ^ scl d) * ((10 ^ (M - scl d) : Nat) : Int) := by
    show vM M (subS d (wholeD d)).d = _
    rw [fV, key]
   have h4 := Int.mul_nonpos_of_nonpos_of_nonneg this (Int.le_of_lt (p_pos (M - scl d)))
   omega
  ·exact h
 ·intro hlt0
  have h1 := hsg2.1 hlt0
  refine hsgn.2 ?_
  cases hn : d.neg with
  | true =>
   rw [hn] at hneg
   exact of_decide_eq_true hneg.symm
  | false =>
   unfold sg at h1
   rw [hn, if_neg (by simp)] at h1
   omega
theorem split_ok {d : Dec} (hd : Valid d) (hs : (vM M d).natAbs < 10 ^ 20 * 10 ^ M) : Part M (splitS d).f ∧ (splitS d).w * ((10 ^ M : Nat) : Int) + vM M (splitS d).f = vM M d := by
 obtain ⟨_, fv, fV, fl, fp, fn⟩ := frac_ok hM hd hs
 have hp := p_pos M
 have hneg := vM_neg (M := M) fv
 unfold splitS
 by_cases h : vM M (fracD d) < 0
 ·rw [hneg, decide_eq_true h, if_pos rfl]
  have hone := one_V M
  obtain ⟨_, v, e⟩ := frac_add hM fv one_is.valid (by rw [hone]; omega)
  rw [hone] at e
  refine ⟨⟨v, by simp only; omega, by simp only; omega⟩, ?_⟩
  simp only
  rw [e, Int.sub_mul]
  omega
 ·rw [hneg, decide_eq_false h, if_neg (by simp)]
  refine ⟨⟨fv, by simp only; omega, by simp only; omega⟩, ?_⟩
  simp only
  omega
end
structure MRes where
 m : Mom
 e : Int
def MRes.v (r : MRes) : Value := .tuple #[r.m.v, .int .i64 r.e]
noncomputable def timePt (m : Mom) : Pt := if timedB m.k then ⟨(splitS m.sec).w + (3600 * m.h + 60 * m.mi), (splitS m.sec).f⟩ else ⟨0, zeroD⟩
noncomputable def localS (m : Mom) : Pt := if datedB m.k then ⟨(timePt m).w + 86400 * dayNo (cntd m.y) m.mo m.d, (timePt m).f⟩ else timePt m
noncomputable def atS (m : Mom) : Pt := ⟨(localS m).w - 60 * m.z, (localS m).f⟩
def dayIn (n : Int) : Bool := decide (fdY (-9998) ≤ n) && decide (n < fdY 10000)
noncomputable def ofS (k : Int) (p : Pt) : MRes :=
 if datedB k && !dayIn (p.w / 86400) then ⟨momNil, 7⟩
 else
  let t : Int × Int × Int := if datedB k then (wrtY (dateOf (p.w / 86400)).1, (dateOf (p.w / 86400)).2.1, (dateOf (p.w / 86400)).2.2) else (0, 0, 0)
  if timedB k then
   (if (addS (ofSpec (p.w % 86400 % 60)) p.f).e = 0 then ⟨⟨k, t.1, t.2.1, t.2.2, p.w % 86400 / 3600, p.w % 86400 / 60 % 60, (addS (ofSpec (p.w % 86400 % 60)) p.f).d, false, 0⟩, 0⟩
    else ⟨momNil, (addS (ofSpec (p.w % 86400 % 60)) p.f).e⟩)
  else ⟨⟨k, t.1, t.2.1, t.2.2, 0, 0, decNil, false, 0⟩, 0⟩
noncomputable def checkS (m : Mom) : Int := if okB m then 0 else 2
noncomputable def daysS (m : Mom) : Int × Int := if okB m && datedB m.k then (dayNo (cntd m.y) m.mo m.d, 0) else (0, 2)
noncomputable def normS (m : Mom) : MRes := if okB m && m.zd && timedB m.k then ⟨{ (ofS m.k (atS m)).m with zd := (ofS m.k (atS m)).e == 0 }, (ofS m.k (atS m)).e⟩ else ⟨momNil, 2⟩
def bothB (x y : Bool) (a b : Int) : Bool := x && y && a == b
noncomputable def cmpS6 (a b : Mom) : Int × Bool × Int :=
 if bothB (okB a) (okB b) a.k b.k then
  (if a.zd == b.zd then (ordP (atS a) (atS b), true, 0)
   else if ordP (atS a) ⟨(atS b).w - 50400, (atS b).f⟩ < 0 then (-1, true, 0)
   else if 0 < ordP (atS a) ⟨(atS b).w + 50400, (atS b).f⟩ then (1, true, 0) else (0, false, 0))
 else (0, false, 2)
def laterS (m : Mom) (n : Int) : Mom :=
 { m with y := wrtY ((12 * cntd m.y + m.mo - 1 + n) / 12), mo := (12 * cntd m.y + m.mo - 1 + n) % 12 + 1, d := min m.d (lenM ((12 * cntd m.y + m.mo - 1 + n) / 12) ((12 * cntd m.y + m.mo - 1 + n) % 12 + 1)) }
def bigD : Dec := ⟨false, ⟨#[49, 48, 48, 48, 48, 48, 48, 48, 48, 48, 48, 48, 48]⟩, 0⟩
def argB (ok : Bool) (n : Int) (dt : Bool) : Bool := ok && withinB n (-300000) 300000 && (dt || n == 0)
noncomputable def zonedS (m : Mom) (r : MRes) : MRes := if r.e = 0 then ⟨{ r.m with zd := m.zd, z := m.z }, 0⟩ else ⟨momNil, r.e⟩
noncomputable def addS6 (m : Mom) (n : Int) (s : Dec) : MRes :=
 if argB (okB m && chkR s == 0) n (datedB m.k) then
  (if belowB (⟨false, s.ds, s.sc⟩ : Dec) bigD then
   (if datedB m.k && !withinB (laterS m n).y (-9999) 9999 then ⟨momNil, 7⟩
    else zonedS m (ofS m.k (plusS (localS (if datedB m.k then laterS m n else m)) (splitS s))))
   else ⟨momNil, 7⟩)
 else ⟨momNil, 2⟩
theorem ordP_same (a b : Pt) (n : Int) : ordP ⟨a.w + n, a.f⟩ b = ordP a ⟨b.w - n, b.f⟩ := by
 unfold ordP
 have l1 : (a.w < b.w - n) ↔ (a.w + n < b.w) := by omega
 have l2 : (b.w - n < a.w) ↔ (b.w < a.w + n) := by omega
 simp only [l1, l2]
end Go.Proofs.YtmdnijehoagamaaGreatDoor
namespace Go.Proofs.YtmdnijehoagamaaGreatDoor
set_option maxRecDepth 100000
set_option maxHeartbeats 8000000
open Go.RowKit
theorem quiet_eq {P : Program} {f : FuncId} {args : Array Value} {w : World} {n : Nat} {v : Value}
  (h : Calls P f args (w.drewN n) fun e w' => e = .returned v ∧ w.drewN n = w') : Calls P f args (w.drewN n) fun e w'' => e = .returned v ∧ ∃ m, w'' = w.drewN m :=
 Calls.quiet_of_same (h.mono fun _ _ ⟨a, b⟩ => ⟨a, b.symm⟩)
theorem Tabs.drewN {w : World} (h : Tabs w) (n : Nat) : Tabs (w.drewN n) := h.next (below_drewN (Below.refl _ _) n)
theorem fdY_bd (y : Int) (h0 : -1000000 ≤ y) (h1 : y ≤ 1000000) : -400000000 ≤ fdY y ∧ fdY y ≤ 400000000 := by unfold fdY; omega
theorem p_firstDay (y : Int) (h0 : -1000000 ≤ y) (h1 : y ≤ 1000000) (w : World) : Calls Tryz.prog 90 #[.int .i64 y] w fun e w' => e = .returned (.int .i64 (fdY y)) ∧ ∃ k, w' = w.drewN k := by
 have b1 : -1000000 ≤ (y - 1) / 4 ∧ (y - 1) / 4 ≤ 1000000 := by omega
 have b2 : -1000000 ≤ (y - 1) / 100 ∧ (y - 1) / 100 ≤ 1000000 := by omega
 have b3 : -1000000 ≤ (y - 1) / 400 ∧ (y - 1) / 400 ≤ 1000000 := by omega
 obtain ⟨b1a, b1b⟩ := b1
 obtain ⟨b2a, b2b⟩ := b2
 obtain ⟨b3a, b3b⟩ := b3
 have c4 := fun W => p_divide (y - 1) 4 (by omega) (by omega) (by omega) (by omega) W
 have c100 := fun W => p_divide (y - 1) 100 (by omega) (by omega) (by omega) (by omega) W
 have c400 := fun W => p_divide (y - 1) 400 (by omega) (by omega) (by omega) (by omega) W
 unfold fdY
 generalize (y - 1) / 4 = q4 at *
 generalize (y - 1) / 100 = q100 at *
 generalize (y - 1) / 400 = q400 at *
 generalize (y - 1) % 4 = r4 at *
 generalize (y - 1) % 100 = r100 at *
 generalize (y - 1) % 400 = r400 at *
 go_enter Tryz.func90, Tryz.ntmps90
 go_wp2_with fail
 refine (c4 _).mono ?_
 rintro e w1 ⟨rfl, k1, rfl⟩
 go_wp2_with fail
 refine (c100 _).mono ?_
 rintro e w2 ⟨rfl, k2, rfl⟩
 go_wp2_with fail
 refine (c400 _).mono ?_
 rintro e w3 ⟨rfl, k3, rfl⟩
 go_wp2
 go_ret
 exact ⟨rfl, _, rfl⟩
theorem cumM_bd (y : Int) (k : Nat) (hk : k ≤ 12) : 0 ≤ cumM y k ∧ cumM y k ≤ 372 := by
 have := cumM_mono y 0 k (by omega)
 simp only [cumM] at this
 omega
theorem p_dayNumber (m : Mom) (h0 : -10000 ≤ m.y) (h1 : m.y ≤ 10000) (m0 : 1 ≤ m.mo) (m1 : m.mo ≤ 12) (d0 : 1 ≤ m.d) (d1 : m.d ≤ 31) (w : World) (hT : Tabs w) : Calls Tryz.prog 50 #[m.v] w fun e w' => e = .returned (.int .i64 (dayNo (cntd m.y) m.mo m.d)) ∧ Below w.heap.size w w' := by
 obtain ⟨k, y, mo, d, h, mi, ⟨sn, sd, sk⟩, zd, z⟩ := m
 unfold Mom.v
 simp only at h0 h1 m0 m1 d0 d1 ⊢
 have cc := fun W => p_counted y (by omega) (by omega) W
 have bc : -10001 ≤ cntd y ∧ cntd y ≤ 10001 := by unfold cntd; split <;> omega
 generalize cntd y = cy at *
 obtain ⟨bc0, bc1⟩ := bc
 have cf := fun W => p_firstDay cy (by omega) (by omega) W
 have bf := fdY_bd cy (by omega) (by omega)
 have HF : Hid (dayNo cy mo d = fdY cy + (d - 1) + cumM cy (mo - 1).toNat) := by show _ = _; unfold dayNo; omega
 generalize dayNo cy mo d = R at *
 generalize hF : fdY cy = F at *
 clear hF
 obtain ⟨bf0, bf1⟩ := bf
 have HT := Lib.hid (hT.next ((Below.refl _ _).alloc (Nat.le_refl _) (.cells #[.int .i64 k, .int .i64 y, .int .i64 mo, .int .i64 d, .int .i64 h, .int .i64 mi, .bool sn, .string sd, .int .i64 sk, .bool zd, .int .i64 z] 25)))
 clear hT
 go_enter Tryz.func50, Tryz.ntmps50
 go_wp2_with fail
 refine (cc _).mono ?_
 rintro e w1 ⟨rfl, rfl⟩
 go_wp2_with fail
 go_quiet ((go_at_call 90; exact Calls.quiet_of (cf _)))
 go_wp2_with fail
 go_loopg [4, 5] (13 : Nat) (fun gk v4 v5 wr => ∃ j : Nat, v5 = .int .i64 ((j : Int) + 1) ∧ v4 = .int .i64 (F + (d - 1) + cumM cy j) ∧ (j : Int) + 1 ≤ mo ∧ gk + j = 13 ∧ ∃ q, wr = (w.alloc (.cells #[.int .i64 k, .int .i64 y, .int .i64 mo, .int .i64 d, .int .i64 h, .int .i64 mi, .bool sn, .string sd, .int .i64 sk, .bool zd, .int .i64 z] 25)).drewN q)
 case atStart => exact ⟨0, rfl, by simp [cumM], by omega, by omega, _, rfl⟩
 case round =>
  obtain ⟨j, rfl, rfl, hj, hg, q, rfl⟩ := hrel
  have hc := cumM_bd cy j (by omega)
  obtain ⟨hc0, hc1⟩ := hc
  by_cases hlt : (j : Int) + 1 < mo
  ·have cd := fun W hW => p_daysOf cy ((j : Int) + 1) (by omega) (by omega) W hW
   have hl := lenM_bd cy ((j : Int) + 1)
   obtain ⟨hl0, hl1⟩ := hl
   have HS : Hid (F + (d - 1) + cumM cy (j + 1) = F + (d - 1) + cumM cy j + lenM cy ((j : Int) + 1)) := by show _ = _; rw [cumM]; omega
   generalize hC : cumM cy j = C at *
   clear hC
   generalize lenM cy ((j : Int) + 1) = L at *
   go_wp2_with (go_at_call 91; refine (cd _ (HT.out.drewN _)).mono ?_; rintro e w1 ⟨rfl, rfl⟩)
   go_roundg (gk - 1)
   case measure => omega
   case rel => exact ⟨j + 1, by go_num, by rw [HS.out], by omega, by omega, _, rfl⟩
  ·have HS : Hid (R = F + (d - 1) + cumM cy j) := by show _ = _; rw [HF.out, show (mo - 1).toNat = j by omega]
   generalize hC : cumM cy j = C at *
   clear hC
   go_wp2
   go_ret
   exact ⟨by rw [HS.out]; rfl, below_drewN (stepA (Below.refl _ _) _) _⟩
theorem p_later (a : Nat) (day i : Int) (i0 : 0 ≤ i) (i1 : i ≤ 30000) (w : World) (hc : w.cell? ⟨a, 0, none⟩ = some (.int .i64 day)) : Calls Tryz.prog 120 #[.int .i64 i, .pointer (some ⟨a, 0, none⟩)] w fun e w' => e = .returned (.bool (decide (day < fdY (-9998 + i + 1)))) ∧ ∃ k, w' = w.drewN k := by
 have cf := fun W => p_firstDay (-9998 + i + 1) (by omega) (by omega) W
 generalize hF : fdY (-9998 + i + 1) = F at *
 clear hF
 have w1 : IntKind.i64.wrap (-9998 + i) = -9998 + i := IntWalk.i64_in _ (by omega)
 have w2 : IntKind.i64.wrap (-9998 + i + 1) = -9998 + i + 1 := IntWalk.i64_in _ (by omega)
 go_enter Tryz.func120, Tryz.ntmps120
 go_wp2_with fail
 go_quiet ((go_at_call 90; exact Calls.quiet_of (cf _)))
 go_wp2
 go_ret
 exact ⟨rfl, _, rfl⟩
theorem p_search (a : Nat) (day Y : Int) (h0 : fdY Y ≤ day) (h1 : day < fdY (Y + 1)) (y0 : -9998 ≤ Y) (y1 : Y ≤ 9999) (w : World) (hc : w.cell? ⟨a, 0, none⟩ = some (.int .i64 day)) : Calls Tryz.prog 119 #[.int .i64 19997, .func (.func 120) #[] #[.pointer (some ⟨a, 0, none⟩)]] w fun e w' => e = .returned (.int .i64 (Y + 9998)) ∧ ∃ k, w' = w.drewN k := by
 have HC := Lib.hid hc
 have H0 := Lib.hid h0
 have H1 := Lib.hid h1
 clear hc h0 h1
 go_enter Tryz.func119, Tryz.ntmps119
 go_wp2_with fail
 go_loopg [5, 6] (20000 : Nat) (fun gk v5 v6 wr => ∃ i j : Int, v5 = .int .i64 i ∧ v6 = .int .i64 j ∧ 0 ≤ i ∧ i ≤ Y + 9998 ∧ Y + 9998 ≤ j ∧ j ≤ 19997 ∧ Hid (j - i < (gk : Int)) ∧ ∃ q, wr = w.drewN q)
 case atStart => exact ⟨0, 19997, rfl, rfl, by omega, by omega, by omega, by omega, Lib.hid (by omega), 0, rfl⟩
 case round =>
  obtain ⟨i, j, rfl, rfl, hi0, hi1, hj0, hj1, HG, q, rfl⟩ := hrel
  by_cases hlt : i < j
  ·have w1 : IntKind.i64.wrap (i + j) = i + j := IntWalk.i64_in _ (by omega)
   have w2 : IntKind.u64.wrap (i + j) = i + j := by rw [IntKind.wrap_u64]; omega
   have hm0 : i ≤ (i + j) / 2 := by omega
   have hm1 : (i + j) / 2 < j := by omega
   obtain ⟨h, hh⟩ : ∃ h, (i + j) / 2 = h := ⟨_, rfl⟩
   rw [hh] at hm0 hm1
   have HE : Hid ((i + j) / 2 = h) := Lib.hid hh
   have c := fun W hW => p_later a day h (by omega) (by omega) W hW
   have HG3 : Hid (h - i < ((gk - 1 : Nat) : Int) ∧ j - (h + 1) < ((gk - 1 : Nat) : Int) ∧ 0 < gk) := by show _ ∧ _ ∧ _; have := HG.out; omega
   clear HG
   by_cases hd : Y + 9998 ≤ h
   ·have e : decide (day < fdY (-9998 + h + 1)) = true := decide_eq_true (by have := (fdY_mono (Y + 1) (-9998 + h + 1) (by omega)).1; have := H1.out; omega)
    rw [e] at c
    clear e
    go_wp2_with (go_at_call 120; refine (c _ (by simp; exact HC.out)).mono ?_; rintro e w1 ⟨rfl, k, rfl⟩)
    go_roundg (gk - 1)
    case measure => have := HG3.out.2.2; omega
    case rel => exact ⟨i, h, rfl, rfl, by omega, by omega, by omega, by omega, Lib.hid HG3.out.1, _, rfl⟩
   ·have e : decide (day < fdY (-9998 + h + 1)) = false := decide_eq_false (by have := (fdY_mono (-9998 + h + 1) Y (by omega)).1; have := H0.out; omega)
    rw [e] at c
    clear e
    go_wp2_with (go_at_call 120; refine (c _ (by simp; exact HC.out)).mono ?_; rintro e w1 ⟨rfl, k, rfl⟩)
    go_roundg (gk - 1)
    case measure => have := HG3.out.2.2; omega
    case rel => exact ⟨h + 1, j, rfl, rfl, by omega, by omega, by omega, by omega, Lib.hid HG3.out.2.1, _, rfl⟩
  ·obtain rfl : i = Y + 9998 := by omega
   clear HG
   go_wp2
   go_ret
   exact ⟨rfl, _, rfl⟩
theorem fdY_lo : fdY (-9998) = -3652060 := by decide
theorem fdY_hi : fdY 10000 = 3652059 := by decide
theorem dateOf_year (n : Int) : fdY (dateOf n).1 ≤ n ∧ n < fdY ((dateOf n).1 + 1) := by
 have h := dayNo_year (dateOf_in n)
 rw [dateOf_no] at h
 exact h
theorem old_cell {w : World} {b o : Nat} {v : Value} (h : w.cell? ⟨b, o, none⟩ = some v) (ob : Obj) : (w.alloc ob).cell? ⟨b, o, none⟩ = some v := by
 rw [World.cell?_alloc_lt _ _ _ (World.block_lt_of_cell? w _ h)]
 exact h
theorem old_frozen {w : World} {b o : Nat} {v : Value} (h : w.cell? ⟨b, o, none⟩ = some v) (hf : w.frozen? ⟨b, o, none⟩ = false) (ob : Obj) : (w.alloc ob).frozen? ⟨b, o, none⟩ = false := by
 have := ((Below.refl w.heap.size w).alloc (Nat.le_refl _) ob).frozen (p := ⟨b, o, none⟩) (World.block_lt_of_cell? w _ h)
 rw [this]
 exact hf
theorem quiet_more {P : Program} {f : FuncId} {args : Array Value} {W : World} {i j : Nat} {u : Value}
  (c : Calls P f args (W.drewN (i + j)) fun e w' => e = .returned u ∧ ∃ k, w' = (W.drewN (i + j)).drewN k) :
  Calls P f args (W.drewN (i + j)) fun e w' => e = .returned u ∧ ∃ k, w' = W.drewN (i + k) := by
 refine c.mono ?_
 rintro e w' ⟨h, k, rfl⟩
 exact ⟨h, j + k, by rw [World.drewN_drewN, Nat.add_assoc]⟩
def setDate (W : World) (b : Nat) (y m d : Int) : World := ((W.setCell ⟨b, 1, none⟩ (.int .i64 y)).setCell ⟨b, 2, none⟩ (.int .i64 m)).setCell ⟨b, 3, none⟩ (.int .i64 d)
theorem p_setDay_no (b : Nat) (day : Int) (hd : dayIn day = false) (w : World) : Calls Tryz.prog 93 #[.pointer (some ⟨b, 0, none⟩), .int .i64 day] w fun e w' => e = .returned (.bool false) ∧ Below w.heap.size w w' := by
 unfold dayIn at hd
 by_cases h1 : day < fdY (-9998)
 ·have d1 : decide (day < fdY (-9998)) = true := decide_eq_true h1
  clear hd
  go_enter Tryz.func93, Tryz.ntmps93
  go_wp2_with fail
  go_quiet ((go_at_call 90; exact Calls.quiet_of (p_firstDay _ (by omega) (by omega) _)))
  go_wp2
  go_ret
  exact ⟨rfl, below_drewN (stepA (Below.refl _ _) _) _⟩
 ·have d1 : decide (day < fdY (-9998)) = false := decide_eq_false h1
  have d2 : decide (fdY 10000 ≤ day) = true := by
   rw [decide_eq_true (show fdY (-9998) ≤ day by omega)] at hd
   have := of_decide_eq_false hd
   exact decide_eq_true (by omega)
  clear hd
  go_enter Tryz.func93, Tryz.ntmps93
  go_wp2_with fail
  go_quiet ((go_at_call 90; exact Calls.quiet_of (p_firstDay _ (by omega) (by omega) _)))
  go_wp2
  go_ret
  exact ⟨rfl, below_drewN (stepA (Below.refl _ _) _) _⟩
theorem p_setDay_yes (b : Nat) (day : Int) (hd : dayIn day = true) (w : World) (hT : Tabs w) (v1 v2 v3 : Value) (k1 : w.cell? ⟨b, 1, none⟩ = some v1) (k2 : w.cell? ⟨b, 2, none⟩ = some v2) (k3 : w.cell? ⟨b, 3, none⟩ = some v3) (z1 : w.frozen? ⟨b, 1, none⟩ = false) (z2 : w.frozen? ⟨b, 2, none⟩ = false) (z3 : w.frozen? ⟨b, 3, none⟩ = false) :
  Calls Tryz.prog 93 #[.pointer (some ⟨b, 0, none⟩), .int .i64 day] w fun e w' => e = .returned (.bool true) ∧ ∃ W, Below w.heap.size w W ∧ w' = setDate W b (wrtY (dateOf day).1) (dateOf day).2.1 (dateOf day).2.2 := by
 have hy := dateOf_year day
 have hin := dateOf_in day
 have hno := dateOf_no day
 generalize (dateOf day).1 = Y at *
 generalize (dateOf day).2.1 = M at *
 generalize (dateOf day).2.2 = D at *
 unfold dayIn at hd
 rw [fdY_lo, fdY_hi, Bool.and_eq_true] at hd
 have g1 : -3652060 ≤ day := of_decide_eq_true hd.1
 have g2 : day < 3652059 := of_decide_eq_true hd.2
 clear hd
 have y0 : -9998 ≤ Y := by have := fdY_lt (-9998) (Y + 1) (by rw [fdY_lo]; omega); omega
 have y1 : Y ≤ 9999 := by have := fdY_lt Y 10000 (by rw [fdY_hi]; omega); omega
 have cY := fun W => p_firstDay Y (by omega) (by omega) W
 have cS := fun (a : Nat) W hW => p_search a day Y hy.1 hy.2 y0 y1 W hW
 have cW := fun W => p_written Y (by omega) (by omega) W
 have cD := fun m m0 m1 W hW => p_daysOf Y m m0 m1 W hW
 have d1 : decide (day < fdY (-9998)) = false := decide_eq_false (by rw [fdY_lo]; omega)
 have d2 : decide (fdY 10000 ≤ day) = false := decide_eq_false (by rw [fdY_hi]; omega)
 obtain ⟨m1, m12, dd1, ddl⟩ := hin
 have hF := fdY_bd Y (by omega) (by omega)
 have HR : Hid (0 ≤ day - fdY Y ∧ day - fdY Y ≤ 366 ∧ day = fdY Y + cumM Y (M - 1).toNat + (D - 1) ∧ D ≤ lenM Y M) := by
  show _ ∧ _ ∧ _ ∧ _
  have := fdY_succ Y
  have := lp_01 Y
  unfold dayNo at hno
  omega
 have r0 := HR.out.1
 have r1 := HR.out.2.1
 clear hno ddl hy
 have ws : IntKind.i64.wrap (day - fdY Y) = day - fdY Y := IntWalk.i64_in _ (by omega)
 have wy : IntKind.i64.wrap (-9998 + (Y + 9998)) = Y := by rw [show -9998 + (Y + 9998) = Y by omega]; exact IntWalk.i64_in _ (by omega)
 generalize hFY : fdY Y = F at *
 clear hFY
 have HT := Lib.hid (hT.next ((Below.refl _ _).alloc (Nat.le_refl _) (.cells #[.int .i64 day] 2)))
 have e1 := old_cell k1 (.cells #[.int .i64 day] 2)
 have e2 := old_cell k2 (.cells #[.int .i64 day] 2)
 have e3 := old_cell k3 (.cells #[.int .i64 day] 2)
 have q1 := old_frozen k1 z1 (.cells #[.int .i64 day] 2)
 have q2 := old_frozen k2 z2 (.cells #[.int .i64 day] 2)
 have q3 := old_frozen k3 z3 (.cells #[.int .i64 day] 2)
 have hlt : b < w.heap.size := World.block_lt_of_cell? w _ k1
 have HK := Lib.hid (And.intro e1 (And.intro e2 (And.intro e3 (And.intro q1 (And.intro q2 q3)))))
 clear k1 k2 k3 z1 z2 z3 hT e1 e2 e3 q1 q2 q3
 go_enter Tryz.func93, Tryz.ntmps93
 go_wp2_with fail
 go_quiet ((go_at_call 90; exact Calls.quiet_of (p_firstDay _ (by omega) (by omega) _)))
 go_wp2_with (go_at_call 119; refine (cS _ _ (by simp)).mono ?_; rintro e w1 ⟨rfl, k, rfl⟩)
 go_quiet ((go_at_call 90; exact quiet_more (cY _)))
 go_wp2_with fail
 go_loopg [6, 7] (13 : Nat) (fun gk v6 v7 wr => ∃ m r : Int, v6 = .int .i64 m ∧ v7 = .int .i64 r ∧ 1 ≤ m ∧ m ≤ M ∧ 0 ≤ r ∧ r ≤ 366 ∧ Hid (r = day - F - cumM Y (m - 1).toNat) ∧ Hid ((gk : Int) + m = 14) ∧ ∃ q, wr = (w.alloc (.cells #[.int .i64 day] 2)).drewN q)
 case atStart => exact ⟨1, day - F, rfl, rfl, by omega, by omega, r0, r1, Lib.hid (by simp [cumM]), Lib.hid (by omega), _, World.drewN_drewN _ _ _⟩
 case round =>
  obtain ⟨m, r, rfl, rfl, hm1, hm2, hr0, hr1, HE, HG, q, rfl⟩ := hrel
  have c := fun W hW => cD m (by omega) (by omega) W hW
  have hl := lenM_bd Y m
  obtain ⟨hl0, hl1⟩ := hl
  have HS : Hid (cumM Y m.toNat = cumM Y (m - 1).toNat + lenM Y m) := by
   show _ = _
   rw [show m.toNat = (m - 1).toNat + 1 by omega, cumM, show (((m - 1).toNat : Nat) : Int) + 1 = m by omega]
  by_cases hlt : m < M
  ·have hge : lenM Y m ≤ r := by
    have h1 := HE.out
    have h2 := HS.out
    have h3 := HR.out.2.2.1
    have h4 := (cumM_mono Y m.toNat (M - 1).toNat (by omega)).1
    omega
   have HE2 : Hid (r - lenM Y m = day - F - cumM Y (m + 1 - 1).toNat) := by
    show _ = _
    have h1 := HE.out
    have h2 := HS.out
    rw [show (m + 1 - 1).toNat = m.toNat by omega]
    omega
   clear HE HS
   have hg := HG.out
   generalize lenM Y m = L at *
   go_wp2_with (go_at_call 91; refine (c _ (HT.out.drewN _)).mono ?_; rintro e w1 ⟨rfl, rfl⟩)
   go_roundg (gk - 1)
   case measure => omega
   case rel => exact ⟨m + 1, r - L, by go_num, by go_num, by omega, by omega, by omega, by omega, HE2, Lib.hid (by omega), _, rfl⟩
  ·obtain rfl : m = M := by omega
   have hge : ¬ lenM Y m ≤ r := by
    have h1 := HE.out
    have h3 := HR.out.2.2
    omega
   have HD : Hid (D = r + 1) := by
    show _ = _
    have h1 := HE.out
    have h3 := HR.out.2.2
    omega
   clear HE HS HG
   generalize lenM Y m = L at *
   obtain ⟨e1, e2, e3, q1, q2, q3⟩ := HK.out
   go_wp2_with (first
    | (go_at_call 91; refine (c _ (HT.out.drewN _)).mono ?_; rintro e w1 ⟨rfl, rfl⟩)
    | (go_at_call 103; refine (cW _).mono ?_; rintro e w1 ⟨rfl, rfl⟩))
   go_ret
   exact ⟨rfl, _, below_drewN (stepA (Below.refl _ _) _) _, by rw [HD.out]; rfl⟩
end Go.Proofs.YtmdnijehoagamaaGreatDoor
