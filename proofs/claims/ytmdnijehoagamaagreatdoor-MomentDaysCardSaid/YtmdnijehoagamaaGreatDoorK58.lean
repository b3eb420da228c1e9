/- LI MK NR OG SB -/
import Derived.Test.YtmdnijehoagamaaGreatDoorK50
set_option linter.unusedVariables false
set_option linter.unusedSimpArgs false
namespace Go.Proofs.YtmdnijehoagamaaGreatDoor
open Go.RowKit
section
variable {M : Nat} (hM : 130 ≤ M)
include hM
theorem add_in {a b x : Dec} (ha : Valid a) (hb : Valid b) (hx : Valid x) (h : vM M x = vM M a + vM M b) : addS a b = ⟨x, 0⟩ := by
 obtain ⟨z, K, e, hK, hz, _⟩ := add_form hM ha hb
 rw [e]
 exact ofOpt_in hx (by omega) (by omega) (h.trans hz.symm)
end
theorem tot_inj {M : Nat} (hM : 130 ≤ M) {a b : Pt} (ha : Part M a.f) (hb : Part M b.f) (h : tot M a = tot M b) : a = b := by
 obtain ⟨h1, h2⟩ := tot_le ha hb
 have hw : a.w = b.w := by
  rcases Int.lt_trichotomy a.w b.w with h3 | h3 | h3
  ·have := h1 h3; omega
  ·exact h3
  ·have := h2 h3; omega
 have hf : vM M a.f = vM M b.f := by
  unfold tot at h
  rw [hw] at h
  omega
 have := vM_inj (show 60 ≤ M by omega) ha.val hb.val hf
 obtain ⟨aw, af⟩ := a
 obtain ⟨bw, bf⟩ := b
 simp only at hw this
 rw [hw, this]
theorem dayIn_iff (n : Int) : dayIn n = true ↔ -3652060 ≤ n ∧ n < 3652059 := by
 unfold dayIn
 rw [fdY_lo, fdY_hi]
 simp
theorem dayIn_year (n : Int) : dayIn n = true ↔ -9998 ≤ (dateOf n).1 ∧ (dateOf n).1 ≤ 9999 := by
 have h := dateOf_year n
 rw [dayIn_iff]
 generalize (dateOf n).1 = y at *
 unfold fdY at h
 omega
theorem ofS_kind (k : Int) (p : Pt) (h : (ofS k p).e = 0) : (ofS k p).m.zd = false ∧ (ofS k p).m.z = 0 ∧ (ofS k p).m.k = k := by
 unfold ofS at h ⊢
 by_cases h1 : (datedB k && !dayIn (p.w / 86400)) = true
 ·rw [if_pos h1] at h
  cases h
 ·rw [if_neg h1] at h ⊢
  dsimp only at h ⊢
  by_cases h2 : timedB k = true
  ·rw [if_pos h2] at h ⊢
   by_cases h3 : (addS (ofSpec (p.w % 86400 % 60)) p.f).e = 0
   ·rw [if_pos h3]
    exact ⟨rfl, rfl, rfl⟩
   ·rw [if_neg h3] at h
    exact absurd h h3
  ·rw [if_neg h2]
   exact ⟨rfl, rfl, rfl⟩
theorem okB_of {m : Mom} (h : OkF m) : okB m = true := by
  unfold okB
  simp only [Bool.and_eq_true]
  refine ⟨⟨⟨h.kind, ?_⟩, ?_⟩, ?_⟩
  · unfold dateB
    cases hd : datedB m.k with
    | true =>
      have := h.date hd
      simp only [if_true]
      unfold dateIB
      simp only [Bool.and_eq_true, within_iff, bne_iff_ne]
      omega
    | false =>
      have := h.nodate hd
      simp only [Bool.false_eq_true, if_false]
      unfold noDate
      simp [this.1, this.2.1, this.2.2]
  · unfold timeB
    cases ht : timedB m.k with
    | true =>
      obtain ⟨a, b, c, d, hv, hn, ho⟩ := h.time ht
      simp only [if_true]
      unfold timeIB belowB
      simp only [Bool.and_eq_true, within_iff]
      refine ⟨⟨⟨⟨a, b⟩, c, d⟩, by rw [hn]; rfl⟩, ?_⟩
      rw [cmpS_ok hv sixty_is.valid]
      exact ⟨rfl, decide_eq_true ho⟩
    | false =>
      obtain ⟨a, b, c⟩ := h.notime ht
      simp only [Bool.false_eq_true, if_false]
      rw [a, b, c]
      unfold noTime
      rw [Lib.toList_data]
      rfl
  · obtain ⟨a, b, c⟩ := h.zone
    unfold zoneB
    simp only [Bool.and_eq_true, within_iff, Bool.or_eq_true, beq_iff_eq]
    exact ⟨⟨a, b⟩, c⟩
theorem zero_V : vM 130 zeroD = 0 := by
  unfold vM sv
  rw [zero_is.num_eq]
  simp [zeroD]
theorem zero_part : Part 130 zeroD := ⟨zero_is.valid, by rw [zero_V]; omega, by rw [zero_V]; exact p_pos _⟩
theorem plus_zero {p : Pt} (hp : Part 130 p.f) (n : Int) : plusS p ⟨n, zeroD⟩ = ⟨p.w + n, p.f⟩ := by
  obtain ⟨h1, h2⟩ := plus_ok (M := 130) (Nat.le_refl _) (a := p) (b := ⟨n, zeroD⟩) hp zero_part
  refine tot_inj (M := 130) (Nat.le_refl _) h1 hp ?_
  unfold tot
  rw [h2, show vM 130 (⟨n, zeroD⟩ : Pt).f = 0 from zero_V, Int.add_mul]
  dsimp only
  omega
theorem sec_bd {d : Dec} (hv : Valid d) (h0 : 0 ≤ vM 130 d) (h1 : vM 130 d < 60 * ((10 ^ 130 : Nat) : Int)) : Part 130 (splitS d).f ∧ 0 ≤ (splitS d).w ∧ (splitS d).w ≤ 59 ∧ (splitS d).w * ((10 ^ 130 : Nat) : Int) + vM 130 (splitS d).f = vM 130 d := by
  obtain ⟨hp, he⟩ := split_ok (M := 130) (Nat.le_refl _) hv (by
    have : ((vM 130 d).natAbs : Int) < ((10 ^ 20 * 10 ^ 130 : Nat) : Int) := by
      rw [Int.natCast_mul, show ((10 ^ 20 : Nat) : Int) = 100000000000000000000 from rfl]
      have := p_pos 130
      generalize ((10 ^ 130 : Nat) : Int) = U at *
      omega
    exact Int.ofNat_lt.1 this)
  have l := hp.lo
  have u := hp.hi
  refine ⟨hp, ?_, ?_, he⟩
  · by_cases g : 0 ≤ (splitS d).w
    · exact g
    · have h := Int.mul_le_mul_of_nonneg_right (show (splitS d).w ≤ -1 by omega) (Int.le_of_lt (p_pos 130))
      generalize ((10 ^ 130 : Nat) : Int) = U at *
      omega
  · by_cases g : (splitS d).w ≤ 59
    · exact g
    · have h := Int.mul_le_mul_of_nonneg_right (show 60 ≤ (splitS d).w by omega) (Int.le_of_lt (p_pos 130))
      generalize ((10 ^ 130 : Nat) : Int) = U at *
      omega
theorem int_V {n : Int} (h0 : 0 ≤ n) (h1 : n ≤ 59) : Valid (ofSpec n) ∧ vM 130 (ofSpec n) = n * ((10 ^ 130 : Nat) : Int) := by
  obtain ⟨k, rfl⟩ := Int.eq_ofNat_of_zero_le h0
  have hi := ofSpec_is k (by have : (10 : Nat) ^ 19 = 10000000000000000000 := rfl; omega)
  refine ⟨hi.valid, ?_⟩
  unfold vM sv
  rw [hi.num_eq, hi.scl_eq]
  have : (ofSpec (k : Int)).neg = false := by
    unfold ofSpec
    split
    · rfl
    · show decide ((k : Int) < 0) = false
      exact decide_eq_false (by omega)
  rw [this]
  rfl
theorem OkF.secs {m : Mom} (h : OkF m) (ht : timedB m.k = true) : Part 130 (splitS m.sec).f ∧ 0 ≤ (splitS m.sec).w ∧ (splitS m.sec).w ≤ 59 ∧ addS (ofSpec (splitS m.sec).w) (splitS m.sec).f = ⟨m.sec, 0⟩ := by
  obtain ⟨⟨hv, _⟩, s0, s1⟩ := h.small ht
  obtain ⟨hp, a, b, he⟩ := sec_bd hv s0 s1
  obtain ⟨iv, ie⟩ := int_V a b
  exact ⟨hp, a, b, add_in (M := 130) (Nat.le_refl _) iv hp.val hv (by rw [ie, he])⟩
theorem OkF.timeBd {m : Mom} (h : OkF m) : 0 ≤ (timePt m).w ∧ (timePt m).w < 86400 := by
  unfold timePt
  have hc := h.clock
  cases ht : timedB m.k with
  | true =>
    obtain ⟨_, a, b, _⟩ := h.secs ht
    simp only [if_true]
    omega
  | false => simp
noncomputable def dayS (m : Mom) (D : Int) : Mom := { m with y := wrtY (dateOf D).1, mo := (dateOf D).2.1, d := (dateOf D).2.2 }
noncomputable def onDay (m : Mom) (D : Int) : Mom := if datedB m.k then dayS m D else m
theorem ofS_clock {m : Mom} (h : OkF m) (D : Int) : ofS m.k ⟨(timePt m).w + 86400 * D, (timePt m).f⟩ = if datedB m.k && !dayIn D then ⟨momNil, 7⟩ else ⟨{ onDay m D with zd := false, z := 0 }, 0⟩ := by
  obtain ⟨t0, t1⟩ := h.timeBd
  have e1 : ((timePt m).w + 86400 * D) / 86400 = D := by omega
  have e2 : ((timePt m).w + 86400 * D) % 86400 = (timePt m).w := by omega
  have hc := h.clock
  unfold ofS
  dsimp only
  rw [e1, e2]
  by_cases hd : (datedB m.k && !dayIn D) = true
  · rw [if_pos hd, if_pos hd]
  rw [if_neg hd, if_neg hd]
  have ht2 : timedB m.k = true → (addS (ofSpec ((timePt m).w % 60)) (timePt m).f) = ⟨m.sec, 0⟩ ∧ (timePt m).w / 3600 = m.h ∧ (timePt m).w / 60 % 60 = m.mi := by
    intro ht
    obtain ⟨_, a, b, e⟩ := h.secs ht
    unfold timePt
    rw [if_pos ht]
    dsimp only
    refine ⟨?_, by omega, by omega⟩
    rw [show ((splitS m.sec).w + (3600 * m.h + 60 * m.mi)) % 60 = (splitS m.sec).w by omega]
    exact e
  unfold onDay dayS
  cases ht : timedB m.k with
  | true =>
    obtain ⟨a, b, c⟩ := ht2 ht
    rw [a, b, c]
    cases hdd : datedB m.k with
    | true => rfl
    | false =>
      obtain ⟨q1, q2, q3⟩ := h.nodate hdd
      simp [q1, q2, q3]
  | false =>
    obtain ⟨a, b, c⟩ := h.notime ht
    cases hdd : datedB m.k with
    | true => simp [a, b, c]
    | false =>
      have := h.kind
      rw [ht, hdd] at this
      cases this
def dayOf (m : Mom) : Int := if datedB m.k then dayNo (cntd m.y) m.mo m.d else 0
theorem local_day (m : Mom) : localS m = ⟨(timePt m).w + 86400 * dayOf m, (timePt m).f⟩ := by
  unfold localS dayOf
  split
  · rfl
  · rcases timePt m with ⟨w, f⟩
    simp
theorem cntd_bd {y : Int} (h0 : -9999 ≤ y) (h1 : y ≤ 9999) : -9998 ≤ cntd y ∧ cntd y ≤ 9999 := by unfold cntd; split <;> omega
theorem wrt_cntd {y : Int} (h : y ≠ 0) : wrtY (cntd y) = y := by unfold wrtY cntd; split <;> split <;> omega
theorem cntd_wrt (y : Int) : cntd (wrtY y) = y := by unfold wrtY cntd; split <;> split <;> omega
theorem OkF.dateIs {m : Mom} (h : OkF m) (hd : datedB m.k = true) : dateOf (dayOf m) = (cntd m.y, m.mo, m.d) ∧ dayIn (dayOf m) = true := by
  obtain ⟨a, b, c, d, e, f, g⟩ := h.date hd
  have e1 : dateOf (dayOf m) = (cntd m.y, m.mo, m.d) := by
    unfold dayOf
    rw [if_pos hd]
    exact dateOf_eq ⟨d, e, f, g⟩ rfl
  refine ⟨e1, ?_⟩
  rw [dayIn_year, e1]
  exact cntd_bd a b
theorem OkF.onDay {m : Mom} (h : OkF m) : onDay m (dayOf m) = m := by
  unfold Go.Proofs.YtmdnijehoagamaaGreatDoor.onDay dayS
  cases hd : datedB m.k with
  | false => rfl
  | true =>
    obtain ⟨e, _⟩ := h.dateIs hd
    obtain ⟨a, b, c, d, _⟩ := h.date hd
    rw [e]
    simp only [if_true]
    rw [wrt_cntd c]
theorem later_zero {m : Mom} (h : OkF m) (hd : datedB m.k = true) : laterS m 0 = m := by
  obtain ⟨a, b, c, d, e, f, g⟩ := h.date hd
  have e1 : (12 * cntd m.y + m.mo - 1 + 0) / 12 = cntd m.y := by omega
  have e2 : (12 * cntd m.y + m.mo - 1 + 0) % 12 + 1 = m.mo := by omega
  unfold laterS
  rw [e1, e2, wrt_cntd c, Int.min_eq_left g]
theorem base_zero {m : Mom} (h : OkF m) : (if datedB m.k then laterS m 0 else m) = m := by
  cases hd : datedB m.k with
  | true => simp only [if_true]; exact later_zero h hd
  | false => rfl
theorem add_secs {m : Mom} (hm : okB m = true) {s : Dec} {n : Int} (hs : chkR s = 0) (hb : belowB (⟨false, s.ds, s.sc⟩ : Dec) bigD = true) (hn : splitS s = ⟨n, zeroD⟩) :
    addS6 m 0 s = zonedS m (ofS m.k ⟨(localS m).w + n, (localS m).f⟩) := by
  have h := okF hm
  have ha : argB (okB m && chkR s == 0) 0 (datedB m.k) = true := by
    unfold argB
    rw [hm, hs]
    simp [withinB]
  unfold addS6
  rw [if_pos ha, if_pos hb, base_zero h, hn, plus_zero (local_part h)]
  have hw : (datedB m.k && !withinB (laterS m 0).y (-9999) 9999) = false := by
    cases hd : datedB m.k with
    | false => rfl
    | true =>
      obtain ⟨a, b, _⟩ := h.date hd
      rw [later_zero h hd, (within_iff _ _ _).2 ⟨a, b⟩]
      rfl
  rw [hw]
  simp only [Bool.false_eq_true, if_false]
def dayD : Dec := ⟨false, ⟨#[56, 54, 52, 48, 48]⟩, 0⟩
theorem zero_chk : chkR zeroD = 0 := (chkC_eq _).trans (by kernel_rfl)
theorem zero_big : belowB (⟨false, zeroD.ds, zeroD.sc⟩ : Dec) bigD = true := (belowC_eq _ _).trans (by kernel_rfl)
theorem zero_split : splitS zeroD = ⟨0, zeroD⟩ := (splitC_eq _).trans (by kernel_rfl)
theorem day_chk : chkR dayD = 0 := (chkC_eq _).trans (by kernel_rfl)
theorem day_big : belowB (⟨false, dayD.ds, dayD.sc⟩ : Dec) bigD = true := (belowC_eq _ _).trans (by kernel_rfl)
theorem day_split : splitS dayD = ⟨86400, zeroD⟩ := (splitC_eq _).trans (by kernel_rfl)
theorem add_none {m : Mom} (hm : okB m = true) : addS6 m 0 zeroD = ⟨m, 0⟩ := by
  have h := okF hm
  rw [add_secs hm zero_chk zero_big zero_split, local_day, Int.add_zero, ofS_clock h]
  have hd : (datedB m.k && !dayIn (dayOf m)) = false := by
    cases hd : datedB m.k with
    | false => rfl
    | true => rw [(h.dateIs hd).2]; rfl
  rw [hd, h.onDay]
  rfl
theorem add_day {m : Mom} (hm : okB m = true) : addS6 m 0 dayD = if datedB m.k && !dayIn (dayOf m + 1) then ⟨momNil, 7⟩ else ⟨onDay m (dayOf m + 1), 0⟩ := by
  have h := okF hm
  rw [add_secs hm day_chk day_big day_split, local_day]
  dsimp only
  rw [show (timePt m).w + 86400 * dayOf m + 86400 = (timePt m).w + 86400 * (dayOf m + 1) by omega, ofS_clock h]
  by_cases hd : (datedB m.k && !dayIn (dayOf m + 1)) = true
  · rw [if_pos hd, if_pos hd]; rfl
  · rw [if_neg hd, if_neg hd]
    unfold zonedS onDay dayS
    simp only [if_true]
    cases datedB m.k <;> rfl
theorem next_ok {m : Mom} (hm : okB m = true) (hd : datedB m.k = true) (hi : dayIn (dayOf m + 1) = true) :
    okB (dayS m (dayOf m + 1)) = true ∧ daysS (dayS m (dayOf m + 1)) = ((daysS m).1 + 1, 0) ∧ (atS (dayS m (dayOf m + 1))).w = (atS m).w + 86400 ∧ (atS (dayS m (dayOf m + 1))).f = (atS m).f := by
  have h := okF hm
  have hin := dateOf_in (dayOf m + 1)
  have hno := dateOf_no (dayOf m + 1)
  have hy := (dayIn_year _).1 hi
  have hD : dayOf m = dayNo (cntd m.y) m.mo m.d := by unfold dayOf; rw [if_pos hd]
  rcases hq : dateOf (dayOf m + 1) with ⟨Y, M, D⟩
  rw [hq] at hin hno hy
  unfold DateIn at hin
  dsimp only at hin hno hy
  have he : dayS m (dayOf m + 1) = { m with y := wrtY Y, mo := M, d := D } := by unfold dayS; rw [hq]
  rw [he]
  have hok : okB { m with y := wrtY Y, mo := M, d := D } = true := okB_of
    { kind := h.kind, date := fun _ => ⟨by dsimp only; unfold wrtY; split <;> omega, by dsimp only; unfold wrtY; split <;> omega, by dsimp only; unfold wrtY; split <;> omega, hin.1, hin.2.1, hin.2.2.1, by dsimp only; rw [cntd_wrt]; exact hin.2.2.2⟩
      nodate := fun g => by rw [hd] at g; cases g
      time := h.time, notime := h.notime, zone := h.zone }
  refine ⟨hok, ?_, ?_, ?_⟩
  · unfold daysS
    rw [hok, hm]
    dsimp only
    rw [hd, cntd_wrt]
    simp only [Bool.and_self, if_true]
    rw [hno, hD]
  · unfold atS localS timePt
    dsimp only
    rw [if_pos hd, if_pos hd, cntd_wrt]
    dsimp only
    rw [hno, hD]
    omega
  · unfold atS localS timePt
    dsimp only
    rw [if_pos hd, if_pos hd]
theorem last_day {m : Mom} (hm : okB m = true) (hd : datedB m.k = true) (hi : dayIn (dayOf m + 1) = false) : m.y = 9999 ∧ m.mo = 12 ∧ m.d = 31 := by
  have h := okF hm
  obtain ⟨a, b, c, d, e, f, g⟩ := h.date hd
  have hin := (h.dateIs hd).2
  rw [dayIn_iff] at hin
  have hn : ¬ dayIn (dayOf m + 1) = true := by rw [hi]; decide
  rw [dayIn_iff] at hn
  have hD : dayOf m = dayNo (cntd m.y) m.mo m.d := by unfold dayOf; rw [if_pos hd]
  have hl : DateIn 9999 12 31 := by unfold DateIn; decide
  have he : dayNo 9999 12 31 = 3652058 := by decide
  obtain ⟨x, y, z⟩ := dayNo_inj (⟨d, e, f, g⟩ : DateIn (cntd m.y) m.mo m.d) hl (by rw [← hD, he]; omega)
  refine ⟨?_, y, z⟩
  unfold cntd at x
  split at x <;> omega
theorem local_of {p : Pt} (hp : Part 130 p.f) {x : Mom} (hx : ofS 3 p = ⟨x, 0⟩) : okB { x with zd := true, z := 0 } = true ∧ localS { x with zd := true, z := 0 } = p := by
  unfold ofS at hx
  have hd : datedB 3 = true := rfl
  have ht : timedB 3 = true := rfl
  rw [hd, ht] at hx
  simp only [Bool.true_and, if_true] at hx
  cases hi : dayIn (p.w / 86400) with
  | false => rw [hi] at hx; simp at hx
  | true =>
    rw [hi] at hx
    simp only [Bool.not_true, Bool.false_eq_true, if_false] at hx
    have s0 : 0 ≤ p.w % 86400 % 60 := by omega
    have s1 : p.w % 86400 % 60 ≤ 59 := by omega
    obtain ⟨iv, ie⟩ := int_V s0 s1
    by_cases he : (addS (ofSpec (p.w % 86400 % 60)) p.f).e = 0
    rotate_left
    · rw [if_neg he] at hx
      injection hx with h1 h2
      exact absurd h2 he
    rw [if_pos he] at hx
    injection hx with h1 _
    obtain ⟨av, ae⟩ := add_out (M := 130) (Nat.le_refl _) iv hp.val he
    rw [ie] at ae
    generalize (addS (ofSpec (p.w % 86400 % 60)) p.f).d = sc at *
    have hin := dateOf_in (p.w / 86400)
    have hno := dateOf_no (p.w / 86400)
    have hy := (dayIn_year _).1 hi
    rcases hq : dateOf (p.w / 86400) with ⟨Y, M, D⟩
    rw [hq] at h1 hin hno hy
    unfold DateIn at hin
    dsimp only at hin hno hy h1
    have l := hp.lo
    have u := hp.hi
    have v0 : 0 ≤ vM 130 sc := by
      have := Int.mul_nonneg s0 (Int.le_of_lt (p_pos 130))
      omega
    have v1 : vM 130 sc < 60 * ((10 ^ 130 : Nat) : Int) := by
      have h := Int.mul_le_mul_of_nonneg_right s1 (Int.le_of_lt (p_pos 130))
      generalize ((10 ^ 130 : Nat) : Int) = U at *
      omega
    have hneg : sc.neg = false := by rw [vM_neg (M := 130) av]; exact decide_eq_false (by omega)
    have hord : ordS sc sixtyD < 0 := by rw [ord_V (M := 130) (Nat.le_refl _) av sixty_is.valid, sixty_V, if_pos v1]; decide
    obtain ⟨sp, _, _, se⟩ := sec_bd av v0 v1
    have hs : splitS sc = ⟨p.w % 86400 % 60, p.f⟩ := tot_inj (M := 130) (Nat.le_refl _) sp hp (by unfold tot; rw [se, ae])
    subst h1
    refine ⟨okB_of ?_, ?_⟩
    · exact
        { kind := rfl, date := fun _ => ⟨by dsimp only; unfold wrtY; split <;> omega, by dsimp only; unfold wrtY; split <;> omega, by dsimp only; unfold wrtY; split <;> omega, hin.1, hin.2.1, hin.2.2.1, by dsimp only; rw [cntd_wrt]; exact hin.2.2.2⟩
          nodate := fun g => by cases g
          time := fun _ => ⟨by dsimp only; omega, by dsimp only; omega, by dsimp only; omega, by dsimp only; omega, av, hneg, hord⟩
          notime := fun g => by cases g
          zone := ⟨by dsimp only; omega, by dsimp only; omega, Or.inl rfl⟩ }
    · unfold localS timePt
      dsimp only
      rw [if_pos hd, if_pos ht, hs, cntd_wrt, hno]
      dsimp only
      obtain ⟨pw, pf⟩ := p
      dsimp only
      congr 1
      omega
theorem norm_equal {m : Mom} (hm : okB m = true) (hk : m.k = 3) (hz : m.zd = true) (he : (normS m).e = 0) : eqS6 (normS m).m m = (true, 0) ∧ (normS m).m.z = 0 ∧ (normS m).m.zd = true := by
  have h := okF hm
  have en : normS m = ⟨{ (ofS 3 (atS m)).m with zd := (ofS 3 (atS m)).e == 0 }, (ofS 3 (atS m)).e⟩ := by
    unfold normS
    rw [hm, hz, hk]
    rfl
  rw [en] at he ⊢
  dsimp only at he ⊢
  have hx : ofS 3 (atS m) = ⟨(ofS 3 (atS m)).m, 0⟩ := by rw [← he]
  obtain ⟨q1, q2, q3⟩ := ofS_kind 3 (atS m) he
  obtain ⟨hok, hl⟩ := local_of (at_part h) hx
  generalize (ofS 3 (atS m)).m = x at *
  rw [he]
  have ex : { x with zd := ((0 : Int) == 0) } = { x with zd := true, z := 0 } := by
    obtain ⟨a1, a2, a3, a4, a5, a6, a7, a8, a9⟩ := x
    dsimp only at q2
    subst q2
    rfl
  rw [ex]
  refine ⟨?_, q2, rfl⟩
  have ea : atS { x with zd := true, z := 0 } = atS m := by
    show (⟨(localS { x with zd := true, z := 0 }).w - 60 * 0, (localS { x with zd := true, z := 0 }).f⟩ : Pt) = _
    rw [hl]
    obtain ⟨a, b⟩ := atS m
    simp
  have hp := at_part h
  unfold eqS6 cmpS6
  rw [hok, hm, ea, hz]
  dsimp only
  rw [q3, hk, ordP_ok (M := 130) (Nat.le_refl _) hp hp]
  simp [bothB]
theorem next_less {m : Mom} (hm : okB m = true) (hd : datedB m.k = true) (hi : dayIn (dayOf m + 1) = true) : lessB m (dayS m (dayOf m + 1)) = true := by
  obtain ⟨hok, _, hw, hf⟩ := next_ok hm hd hi
  obtain ⟨A, B, G, _, h1, h2, _, e⟩ := cmp_tot hm hok rfl
  have hz : (m.zd == (dayS m (dayOf m + 1)).zd) = true := by show (m.zd == m.zd) = true; cases m.zd <;> rfl
  have hlt : A < B := by
    rw [h1, h2]
    unfold tot
    rw [hw, hf, Int.add_mul]
    have := p_pos 130
    omega
  unfold lessB
  rw [e, if_pos hz, if_pos hlt]
  rfl
end Go.Proofs.YtmdnijehoagamaaGreatDoor
