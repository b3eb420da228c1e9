/- NR OD -/
import Derived.Test.YtmdnijehoagamaaGreatDoorK36
import Derived.Test.YtmdnijehoagamaaGreatDoorK37
import Derived.Test.YtmdnijehoagamaaGreatDoorK38
import Derived.Test.YtmdnijehoagamaaGreatDoorK39
set_option linter.unusedVariables false
set_option linter.unusedSimpArgs false
namespace Go.Proofs.YtmdnijehoagamaaGreatDoor
open Go.RowKit
theorem ofSpec_is (n : Nat) (h : n < 10 ^ 19) : IsDec (ofSpec (n : Int)) n 0 := by
 unfold ofSpec
 by_cases h0 : n = 0
 ·subst h0
  exact decZero_is
 ·rw [if_neg (by omega)]
  exact ⟨by show numS (n : Int).natAbs = numS n; rw [Int.natAbs_natCast], rfl, by have := digs_len_le h (by omega); omega, by omega, fun g => absurd g h0, fun g => absurd g (by omega)⟩
theorem ofSpec_size (n : Int) (h0 : 0 ≤ n) (h1 : n < 60) : (ofSpec n).ds.size ≤ 400 := by
 obtain ⟨c, rfl⟩ : ∃ c : Nat, n = (c : Int) := ⟨n.toNat, by omega⟩
 have := (ofSpec_is c (Nat.lt_of_lt_of_le (show c < 60 by omega) (by decide))).valid.size
 omega
theorem p_plus (x y : Pt) (hx : Part 130 x.f) (hy : Part 130 y.f) (x0 : -1000000000000000 ≤ x.w) (x1 : x.w ≤ 1000000000000000) (y0 : -1000000000000000 ≤ y.w) (y1 : y.w ≤ 1000000000000000) (w : World) (hT : Tabs w) : Calls Tryz.prog 64 #[x.v, y.v] w fun e w' => e = .returned (plusS x y).v ∧ Below w.heap.size w w' := by
 obtain ⟨_, rv, _⟩ := rest_ok (M := 130) (by omega) hy
 have cO := fun W hW => progOk.of 1 W (by omega) (by omega) hW
 rw [one_eq] at cO
 have zx := hx.val.size
 have zy := hy.val.size
 have zr := rv.size
 have cL := fun W hW => progOk.sub oneD y.f W (by decide) (by omega) hW
 have cS := fun W hW => progOk.sub x.f (restS y.f) W (by omega) (by omega) hW
 have cA := fun W hW => progOk.add x.f y.f W (by omega) (by omega) hW
 have hl := plus_left (M := 130) (by omega) hx hy
 unfold plusS
 by_cases h : ordS x.f (restS y.f) < 0
 ·rw [if_pos h]
  rw [decide_eq_true h] at hl
  have e : (subS x.f (restS y.f)).v = .tuple #[.agg #[.bool true, .string (subS x.f (restS y.f)).d.ds, .int .i64 (subS x.f (restS y.f)).d.sc], .int .i64 (subS x.f (restS y.f)).e] := by unfold DRes.v Dec.v; rw [hl]
  rw [e] at cS
  exact pplus_below x.w x.f.neg x.f.ds x.f.sc y.w y.f.neg y.f.ds y.f.sc (restS y.f).neg (restS y.f).ds (restS y.f).sc false _ _ _ _ _ _ _ _ x0 x1 y0 y1 cO cL cS cA w hT
 ·rw [if_neg h]
  rw [decide_eq_false h] at hl
  have e : (subS x.f (restS y.f)).v = .tuple #[.agg #[.bool false, .string (subS x.f (restS y.f)).d.ds, .int .i64 (subS x.f (restS y.f)).d.sc], .int .i64 (subS x.f (restS y.f)).e] := by unfold DRes.v Dec.v; rw [hl]
  rw [e] at cS
  have e2 : Pt.v ⟨x.w + y.w + 1, (subS x.f (restS y.f)).d⟩ = .agg #[.int .i64 (x.w + y.w + 1), .bool false, .string (subS x.f (restS y.f)).d.ds, .int .i64 (subS x.f (restS y.f)).d.sc] := by unfold Pt.v; rw [hl]
  rw [e2]
  exact pplus_over x.w x.f.neg x.f.ds x.f.sc y.w y.f.neg y.f.ds y.f.sc (restS y.f).neg (restS y.f).ds (restS y.f).sc false _ _ false ⟨#[]⟩ 0 _ _ 0 x0 x1 y0 y1 cO cL cS w hT
theorem p_compare (x y : Pt) (hx : Valid x.f) (hy : Valid y.f) (w : World) (hT : Tabs w) : Calls Tryz.prog 56 #[x.v, y.v] w fun e w' => e = .returned (.int .i64 (ordP x y)) ∧ Below w.heap.size w w' := by
 have zx := hx.size
 have zy := hy.size
 have cC := fun W hW => progOk.cmp x.f y.f W (by omega) (by omega) hW
 rw [cmpS_ok hx hy] at cC
 unfold ordP
 by_cases h : x.w = y.w
 ·rw [if_neg (by omega), if_neg (by omega)]
  exact pcompare_eq x.w x.f.neg x.f.ds x.f.sc y.w y.f.neg y.f.ds y.f.sc _ _ h cC w hT
 ·have c := pcompare_ne x.w x.f.neg x.f.ds x.f.sc y.w y.f.neg y.f.ds y.f.sc _ _ h cC w hT
  unfold Lib.compareInt at c
  by_cases h1 : x.w < y.w
  ·rw [if_pos h1] at c ⊢
   exact c
  ·rw [if_neg h1, if_pos (by omega)] at c
   rw [if_neg h1, if_pos (by omega)]
   exact c
theorem p_momentAt (k : Int) (p : Pt) (hp : Valid p.f) (p0 : -1000000000000000 ≤ p.w) (p1 : p.w ≤ 1000000000000000) (w : World) (hT : Tabs w) : Calls Tryz.prog 52 #[.int .i64 k, p.v] w fun e w' => e = .returned (ofS k p).v ∧ Below w.heap.size w w' := by
 have zp := hp.size
 have cV : ∀ W, Calls Tryz.prog 92 #[.int .i64 p.w, .int .i64 86400] W fun e w' => e = .returned (.tuple #[.int .i64 (p.w / 86400), .int .i64 (p.w % 86400)]) ∧ Below W.heap.size W w' := fun W => (p_divide p.w 86400 (by omega) (by omega) p0 p1 W).mono fun e w' ⟨h, n, hn⟩ => ⟨h, hn ▸ below_drewN (Below.refl _ _) n⟩
 have r0 : 0 ≤ p.w % 86400 := by omega
 have r1 : p.w % 86400 < 86400 := by omega
 unfold ofS
 by_cases hno : (datedB k && !dayIn (p.w / 86400)) = true
 ·rw [if_pos hno]
  simp only [Bool.and_eq_true, Bool.not_eq_true'] at hno
  have cH := fun W => p_hasDate k W
  rw [hno.1] at cH
  exact pat_no k p.w p.f.neg p.f.ds p.f.sc _ _ w cV (fun W => (cH W).mono fun e w' h => h) (fun W => p_setDay_no _ _ hno.2 W) hT
 ·rw [if_neg hno]
  obtain ⟨t, ht⟩ : ∃ t : Int × Int × Int, t = if datedB k then (wrtY (dateOf (p.w / 86400)).1, (dateOf (p.w / 86400)).2.1, (dateOf (p.w / 86400)).2.2) else (0, 0, 0) := ⟨_, rfl⟩
  simp only [← ht]
  have cD : datedB k = true → ∀ W, Tabs W → HasL W (w.heap.size + 1 + 1) [.int .i64 k, .int .i64 0, .int .i64 0, .int .i64 0, .int .i64 0, .int .i64 0, .bool false, .string ⟨#[]⟩, .int .i64 0, .bool false, .int .i64 0] → Calls Tryz.prog 93 #[.pointer (some ⟨w.heap.size + 1 + 1, 0, none⟩), .int .i64 (p.w / 86400)] W fun e w' => e = .returned (.bool true) ∧ ∃ W', Below W.heap.size W W' ∧ w' = setDate W' (w.heap.size + 1 + 1) t.1 t.2.1 t.2.2 := by
   intro hd W hW hH
   rw [hd] at ht hno
   rw [ht]
   have hin : dayIn (p.w / 86400) = true := by
    cases h : dayIn (p.w / 86400)
    ·exact absurd (by rw [h]; rfl) hno
    ·rfl
   exact p_setDay_yes _ _ hin W hW _ _ _ (hH.cell 1 rfl) (hH.cell 2 rfl) (hH.cell 3 rfl) (hH.frozen 1 rfl) (hH.frozen 2 rfl) (hH.frozen 3 rfl)
  have hb : (t.1, t.2.1, t.2.2) = if datedB k then (t.1, t.2.1, t.2.2) else ((0 : Int), (0 : Int), (0 : Int)) := by
   split
   ·rfl
   ·next h => rw [if_neg h] at ht; rw [ht]
  clear ht
  have cO := fun W hW => progOk.of (p.w % 86400 % 60) W (by omega) (by omega) hW
  have zo : (ofSpec (p.w % 86400 % 60)).ds.size ≤ 400 := ofSpec_size _ (by omega) (by omega)
  have cA := fun W hW => progOk.add (ofSpec (p.w % 86400 % 60)) p.f W zo (by omega) hW
  have cE := fun W => p_hasTime k W
  cases htk : timedB k with
  | false =>
   rw [htk] at cE
   rw [if_neg (by simp)]
   exact pat_date k p.w p.f.neg p.f.ds p.f.sc _ _ t.1 t.2.1 t.2.2 false ⟨#[]⟩ 0 false ⟨#[]⟩ 0 0 _ w r0 r1 hb cV (fun W => p_hasDate k W) cE cD hT
  | true =>
   rw [htk] at cE
   rw [if_pos rfl]
   by_cases he : (addS (ofSpec (p.w % 86400 % 60)) p.f).e = 0
   ·rw [if_pos he]
    have e2 : (addS (ofSpec (p.w % 86400 % 60)) p.f).v = .tuple #[.agg #[.bool (addS (ofSpec (p.w % 86400 % 60)) p.f).d.neg, .string (addS (ofSpec (p.w % 86400 % 60)) p.f).d.ds, .int .i64 (addS (ofSpec (p.w % 86400 % 60)) p.f).d.sc], .int .i64 0] := by unfold DRes.v Dec.v; rw [he]
    rw [e2] at cA
    exact pat_ok k p.w p.f.neg p.f.ds p.f.sc _ _ t.1 t.2.1 t.2.2 _ _ _ _ _ _ 0 _ w r0 r1 hb cV (fun W => p_hasDate k W) cE cD cO cA hT
   ·rw [if_neg he]
    exact pat_err k p.w p.f.neg p.f.ds p.f.sc _ _ t.1 t.2.1 t.2.2 _ _ _ _ _ _ _ _ w r0 r1 hb cV (fun W => p_hasDate k W) cE cD cO cA (by simpa using he) hT
theorem local_part {m : Mom} (h : OkF m) : Part 130 (localS m).f := by
 have ht : Part 130 (timePt m).f := by
  unfold timePt
  split
  ·next ht =>
   have hs := (h.small ht).1
   exact (split_ok (M := 130) (by omega) hs.1 hs.vM).1
  ·have hz := (vM_zero (M := 130) zero_is.valid).2 zero_is.num_eq
   exact ⟨zero_is.valid, by simp only; omega, by simp only; rw [hz]; exact p_pos 130⟩
 unfold localS
 split
 ·exact ht
 ·exact ht
theorem at_part {m : Mom} (h : OkF m) : Part 130 (atS m).f := local_part h
theorem at_bd {m : Mom} (h : OkF m) : -600000000000000 ≤ (atS m).w ∧ (atS m).w ≤ 600000000000000 := by
 have h1 := local_bd h
 have h2 := h.zone
 unfold atS
 simp only
 omega
theorem p_monthsLater (m : Mom) (n : Int) (y0 : -9999 ≤ m.y) (y1 : m.y ≤ 9999) (m0 : 1 ≤ m.mo) (m1 : m.mo ≤ 12) (n0 : -300000 ≤ n) (n1 : n ≤ 300000) (w : World) (hT : Tabs w) : Calls Tryz.prog 63 #[m.v, .int .i64 n] w fun e w' => e = .returned (laterS m n).v ∧ Below w.heap.size w w' :=
 pmonths_any m.k m.y m.mo m.d m.h m.mi m.sec.neg m.sec.ds m.sec.sc m.zd m.z n y0 y1 m0 m1 n0 n1 w hT
theorem wrt_year (y : Int) : wrtY y ≠ 0 ∧ (withinB (wrtY y) (-9999) 9999 = true → cntd (wrtY y) = y) := by
 unfold wrtY cntd
 split
 ·exact ⟨by omega, fun _ => by rw [if_pos (by omega)]; omega⟩
 ·exact ⟨by omega, fun _ => by rw [if_neg (by omega)]⟩
theorem later_ok {m : Mom} (h : okB m = true) (hd : datedB m.k = true) (n : Int) : okB (laterS m n) = withinB (laterS m n).y (-9999) 9999 := by
 have hf := (okF h).date hd
 unfold okB at h ⊢
 simp only [Bool.and_eq_true] at h
 obtain ⟨⟨⟨h1, h2⟩, h3⟩, h4⟩ := h
 have hk : (laterS m n).k = m.k := rfl
 have ht : timeB (laterS m n).k (laterS m n).h (laterS m n).mi (laterS m n).sec = true := h3
 have hz : zoneB (laterS m n).zd (laterS m n).z = true := h4
 rw [ht, hz, Bool.and_true, Bool.and_true, hk, hd, Bool.true_or, Bool.true_and]
 unfold dateB
 rw [if_pos hd]
 unfold dateIB
 obtain ⟨q, hq⟩ : ∃ q, (12 * cntd m.y + m.mo - 1 + n) / 12 = q := ⟨_, rfl⟩
 obtain ⟨r, hr⟩ : ∃ r, (12 * cntd m.y + m.mo - 1 + n) % 12 = r := ⟨_, rfl⟩
 have hr0 : 0 ≤ r ∧ r ≤ 11 := by omega
 have e : laterS m n = { m with y := wrtY q, mo := r + 1, d := min m.d (lenM q (r + 1)) } := by unfold laterS; rw [hq, hr]
 rw [e]
 simp only
 obtain ⟨w1, w2⟩ := wrt_year q
 have hl := lenM_bd q (r + 1)
 cases hw : withinB (wrtY q) (-9999) 9999 with
 | false => rfl
 | true =>
  rw [w2 hw]
  have a1 : (wrtY q != 0) = true := by simpa using w1
  have a2 : withinB (r + 1) 1 12 = true := (within_iff _ _ _).2 (by omega)
  have a3 : withinB (min m.d (lenM q (r + 1))) 1 (lenM q (r + 1)) = true := (within_iff _ _ _).2 (by omega)
  rw [a1, a2, a3]
  rfl
def negBig : Dec := ⟨true, ⟨#[49, 48, 48, 48, 48, 48, 48, 48, 48, 48, 48, 48, 48]⟩, 0⟩
theorem big_eq : ofSpec 1000000000000 = bigD := by kernel_rfl
theorem negBig_eq : ofSpec (-1000000000000) = negBig := by kernel_rfl
theorem big_is : IsDec bigD 1000000000000 0 := ⟨by kernel_rfl, rfl, by have := digs_len_le (show 1000000000000 < 10 ^ 13 by decide) (by omega); omega, by decide, by decide, by decide⟩
theorem negBig_is : IsDec negBig 1000000000000 0 := ⟨by kernel_rfl, rfl, by have := digs_len_le (show 1000000000000 < 10 ^ 13 by decide) (by omega); omega, by decide, by decide, by decide⟩
theorem big_V : vM 130 bigD = 1000000000000 * ((10 ^ 130 : Nat) : Int) := by
 unfold vM sv
 rw [big_is.num_eq, big_is.scl_eq]
 rfl
theorem negBig_V : vM 130 negBig = -(1000000000000 * ((10 ^ 130 : Nat) : Int)) := by
 unfold vM sv
 rw [negBig_is.num_eq, negBig_is.scl_eq, ← Int.neg_mul]
 rfl
theorem below_V {a b : Dec} (ha : Valid a) (hb : Valid b) : belowB a b = decide (vM 130 a < vM 130 b) := by
 unfold belowB
 rw [cmpS_ok ha hb, ord_V (M := 130) (by omega) ha hb]
 by_cases h : vM 130 a < vM 130 b
 ·rw [if_pos h, decide_eq_true h]; rfl
 ·rw [if_neg h, decide_eq_false h]
  split <;> rfl
theorem abs_valid {s : Dec} (h : Valid s) : Valid (⟨false, s.ds, s.sc⟩ : Dec) := by
 have hs := h.is
 exact ⟨num s, scl s, ⟨hs.ds, hs.sc, hs.len, hs.le, fun e => ⟨rfl, (hs.zero e).2⟩, hs.last⟩⟩
theorem abs_V (s : Dec) : vM 130 (⟨false, s.ds, s.sc⟩ : Dec) = (num s : Int) * ((10 ^ (130 - scl s) : Nat) : Int) := rfl
theorem chk_valid {s : Dec} (h : (chkR s == 0) = true) : Valid s := by
 by_cases hv : Valid s
 ·exact hv
 ·rw [chkR_bad hv] at h
  cases h
theorem big_tests {s : Dec} (h : Valid s) : (belowB negBig s && belowB s bigD) = belowB (⟨false, s.ds, s.sc⟩ : Dec) bigD := by
 rw [below_V negBig_is.valid h, below_V h big_is.valid, below_V (abs_valid h) big_is.valid, negBig_V, big_V, abs_V]
 have hA : vM 130 s = if s.neg then -((num s : Int) * ((10 ^ (130 - scl s) : Nat) : Int)) else (num s : Int) * ((10 ^ (130 - scl s) : Nat) : Int) := by
  unfold vM sv
  split
  ·rw [Int.neg_mul]
  ·rfl
 have h0 : 0 ≤ (num s : Int) * ((10 ^ (130 - scl s) : Nat) : Int) := Int.mul_nonneg (Int.natCast_nonneg _) (Int.natCast_nonneg _)
 have hU : 0 < 1000000000000 * ((10 ^ 130 : Nat) : Int) := by have := p_pos 130; omega
 rw [hA]
 generalize (num s : Int) * ((10 ^ (130 - scl s) : Nat) : Int) = A at *
 generalize 1000000000000 * ((10 ^ 130 : Nat) : Int) = U at *
 cases s.neg
 ·simp only [Bool.false_eq_true, if_false]
  rw [decide_eq_true (show -U < A by omega), Bool.true_and]
 ·simp only [if_true]
  rw [decide_eq_true (show -A < U by omega), Bool.and_true]
  congr 1
  exact propext ⟨fun _ => by omega, fun _ => by omega⟩
theorem small_of {s : Dec} (h : Valid s) (hb : belowB (⟨false, s.ds, s.sc⟩ : Dec) bigD = true) : SmallD s := by
 rw [below_V (abs_valid h) big_is.valid, big_V, abs_V] at hb
 have h1 := of_decide_eq_true hb
 have hsc := h.is.le
 refine ⟨h, ?_⟩
 rw [← Int.natCast_mul, show (1000000000000 : Int) = ((1000000000000 : Nat) : Int) from rfl, ← Int.natCast_mul] at h1
 have h4 := Int.ofNat_lt.1 h1
 have h5 : 1000000000000 * 10 ^ 130 = 10 ^ 12 * 10 ^ scl s * 10 ^ (130 - scl s) := by rw [Nat.mul_assoc, ← Nat.pow_add, show scl s + (130 - scl s) = 130 by omega]
 rw [h5] at h4
 exact Nat.lt_of_mul_lt_mul_right h4
theorem sum_point {X : Mom} (h : OkF X) {s : Dec} (hs : SmallD s) : Part 130 (splitS s).f ∧ -1000000000001 ≤ (splitS s).w ∧ (splitS s).w ≤ 1000000000000 ∧ Part 130 (plusS (localS X) (splitS s)).f ∧ -600000000000000 ≤ (plusS (localS X) (splitS s)).w ∧ (plusS (localS X) (splitS s)).w ≤ 600000000000000 := by
 have h1 := (split_ok (M := 130) (by omega) hs.1 hs.vM).1
 have h2 := split_w hs
 have h3 := local_bd h
 refine ⟨h1, h2.1, h2.2, (plus_ok (M := 130) (by omega) (local_part h) h1).1, ?_, ?_⟩
 ·unfold plusS
  split <;> simp only <;> omega
 ·unfold plusS
  split <;> simp only <;> omega
end Go.Proofs.YtmdnijehoagamaaGreatDoor
