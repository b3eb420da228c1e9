/- MB LH LI LJ LK -/
import Derived.Test.YtmdnijehoagamaaGreatDoorK15
set_option linter.unusedVariables false
set_option linter.unusedSimpArgs false
namespace Go.Proofs.YtmdnijehoagamaaGreatDoor
set_option maxRecDepth 100000
set_option maxHeartbeats 2000000
open Go.RowKit
def twoL : Nat → Nat → List UInt8
 | _, 0 => []
 | n, k + 1 => twoL (n / 10) k ++ [UInt8.ofNat (48 + n % 10)]
theorem twoL_len : ∀ (k n : Nat), (twoL n k).length = k
 | 0, _ => rfl
 | k + 1, n => by rw [twoL, List.length_append, twoL_len k]; rfl
theorem twoL_all : ∀ (k n : Nat), AllD (twoL n k)
 | 0, _ => AllD.nil
 | k + 1, n => by
  rw [twoL]
  refine (twoL_all k _).append (AllD.cons ?_ AllD.nil)
  rw [dig_nat (by omega)]
  omega
def twoS (n k : Nat) : ByteArray := ⟨(twoL n k).toArray⟩
theorem twoS_list (n k : Nat) : (twoS n k).data.toList = twoL n k := bytes_mk _
theorem two_any (N K : Nat) (hN : N ≤ 1000000000) (hK : K ≤ 1000) (w : World) : Calls Tryz.prog 37 #[.int .i64 (N : Int), .int .i64 (K : Int)] w fun e w' => e = .returned (.string (twoS N K)) ∧ Below w.heap.size w w' := by
 have HK := Lib.hid hK
 obtain ⟨R, hR⟩ : ∃ R, twoL N K = R := ⟨_, rfl⟩
 have H0 : Hid (twoL N (K - 0) ++ (⟨#[]⟩ : ByteArray).data.toList = R) := by show _ = _; rw [← hR]; simp
 have HS : Hid (twoS N K = ⟨R.toArray⟩) := by show _ = _; unfold twoS; rw [hR]
 rw [HS.out]
 have hRK : Hid (R.length = K) := by show _ = _; rw [← hR, twoL_len]
 have hKi : (K : Int) ≤ 1000 := by omega
 clear hR HS hK
 go_enter Tryz.func37, Tryz.ntmps37
 go_wp2
 go_loopg [0, 5, 6] (K + 1) (fun gk v0 v5 v6 wr => ∃ (i q : Nat) (s : ByteArray), v6 = .int .i64 (i : Int) ∧ v5 = .string s ∧ v0 = .int .i64 (q : Int) ∧ i ≤ K ∧ gk + i = K + 1 ∧ (q : Int) ≤ 1000000000 ∧ Hid (twoL q (K - i) ++ s.data.toList = R) ∧ Below w.heap.size w wr)
 case atStart => exact ⟨0, N, ⟨#[]⟩, rfl, rfl, rfl, Nat.zero_le _, rfl, by omega, H0, Below.refl _ _⟩
 case round =>
  obtain ⟨i, q, s, rfl, rfl, rfl, hi, hgk, hq, HT, hB⟩ := hrel
  clear H0
  by_cases hlt : i < K
  ·have hlti : (i : Int) < (K : Int) := by omega
   have hsz : s.size + (K - i) = K := by
    have h1 := congrArg List.length HT.out
    rw [List.length_append, twoL_len, bytes_len, hRK.out] at h1
    omega
   have hnext : twoL (q / 10) (K - (i + 1)) ++ (UInt8.ofNat (48 + q % 10) :: s.data.toList) = R := by
    have h1 := HT.out
    rw [show K - i = (K - (i + 1)) + 1 by omega, twoL, List.append_assoc] at h1
    exact h1
   have d0 : 0 ≤ (q : Int) % 10 := by omega
   have d1 : (q : Int) % 10 ≤ 9 := by omega
   have HD : Hid ((q : Int) / 10 = ((q / 10 : Nat) : Int)) := Lib.hid (by omega)
   have HQ2 : Hid (((q / 10 : Nat) : Int) ≤ 1000000000) := Lib.hid (by omega)
   have w8 : IntKind.u8.wrap (48 + (q : Int) % 10) = 48 + (q : Int) % 10 := by rw [IntKind.wrap_u8]; omega
   have hcv := fun W => conv_one (48 + (q : Int) % 10) W
   have hcn : (strOfNums [48 + (q : Int) % 10]).data.toList = [UInt8.ofNat (48 + q % 10)] := by
    rw [strOfNums_data]
    show [UInt8.ofNat ((48 + (q : Int) % 10).toNat)] = _
    congr 2
    try omega
   have hcz : (strOfNums [48 + (q : Int) % 10]).size = 1 := by rw [strOfNums_size]; rfl
   generalize strOfNums [48 + (q : Int) % 10] = z at hcv hcn hcz
   have hK2 := HK.out
   have hsum : z.size + s.size ≤ 9223372036854775807 := by omega
   have HN : Hid (twoL (q / 10) (K - (i + 1)) ++ (z ++ s).data.toList = R) := by
    show _ = _
    rw [Joins.data_append, hcn]
    exact hnext
   clear hnext hcn hcz hsz HT hK2
   go_wp2
   go_roundg (gk - 1)
   case measure => omega
   case rel => exact ⟨i + 1, q / 10, z ++ s, by go_num, rfl, by first | rfl | rw [HD.out] | (have h1 := HD.out; have h2 := HQ2.out; rw [h1, IntWalk.wrap64_in _ (by omega)]), by omega, by omega, HQ2.out, HN, hB.alloc hB.size _⟩
  ·obtain rfl : i = K := by omega
   have HO : Hid (s = ⟨R.toArray⟩) := by
    show _ = _
    have h1 := HT.out
    rw [show i - i = 0 by omega] at h1
    exact bytes_of h1
   clear HT hlt
   go_wp2
   go_ret
   exact ⟨by rw [HO.out]; rfl, hB⟩
theorem small_any (n : Int) (h0 : -9223372036854775808 ≤ n) (h1 : n ≤ 9223372036854775807) (w : World) : Calls Tryz.prog 49 #[.int .i64 n] w fun e w' => e = .returned (ofSpec n).v ∧ Below w.heap.size w w' := by
 have c := fun W => r_of n h0 h1 W
 unfold Dec.v at c ⊢
 generalize (ofSpec n).neg = dn at c ⊢
 generalize (ofSpec n).ds = dd at c ⊢
 generalize (ofSpec n).sc = dk at c ⊢
 clear h0 h1
 go_enter Tryz.func49, Tryz.ntmps49
 go_wp2_with fail
 refine (c _).mono ?_
 rintro e w1 ⟨rfl, b1⟩
 obtain ⟨r0, r1, r2, f0, f1, f2, hB, hz⟩ := one_all b1
 have HB := Lib.hid hB
 clear c hB b1
 go_wp2
 exact bodyPost_ret (v := .agg #[.bool dn, .string dd, .int .i64 dk]) (by simp [results, Tryz.results49, go_sem, r0, r1, r2]) rfl ⟨rfl, ((HB.out.setCell (by simp) _).setCell (by simp) _).setCell (by simp) _⟩
theorem less6_any (a b : Dec) (za : a.ds.size ≤ 400) (zb : b.ds.size ≤ 400) (w : World) : Calls Tryz.prog 48 #[a.v, b.v] w fun e w' => e = .returned (.bool (decide ((cmpS a b).1 < 0))) ∧ Below w.heap.size w w' := by
 have c := fun W => r_cmp a b za zb W
 generalize (cmpS a b).1 = o at c ⊢
 generalize (cmpS a b).2 = q at c
 unfold Dec.v at c ⊢
 clear za zb
 obtain ⟨an, ad, ak⟩ := a
 obtain ⟨bn, bd, bk⟩ := b
 simp only at c ⊢
 go_enter Tryz.func48, Tryz.ntmps48
 go_wp2_with fail
 refine (c _).mono ?_
 rintro e w1 ⟨rfl, b1⟩
 have HB := Lib.hid (step (stepA (stepA (Below.refl w.heap.size w) (.cells #[.bool an, .string ad, .int .i64 ak] 23)) (.cells #[.bool bn, .string bd, .int .i64 bk] 23)) b1)
 clear b1 c
 go_wp2
 go_ret
 exact ⟨rfl, HB.out⟩
end Go.Proofs.YtmdnijehoagamaaGreatDoor
namespace Go.Proofs.YtmdnijehoagamaaGreatDoor
open Go.RowKit
theorem strip_spec : ∀ (s n : Nat), n ≠ 0 → (strip n s).2 ≤ s ∧ n = (strip n s).1 * 10 ^ (s - (strip n s).2) ∧ (strip n s).1 ≠ 0 ∧ (0 < (strip n s).2 → (strip n s).1 % 10 ≠ 0)
 | 0, n, h => by rw [strip_zero]; simp [h]
 | s + 1, n, h => by
  by_cases hg : 10 ≤ n ∧ n % 10 = 0
  ·rw [strip_go hg]
   obtain ⟨h1, h2, h3, h4⟩ := strip_spec s (n / 10) (by omega)
   refine ⟨by omega, ?_, h3, h4⟩
   rw [show s + 1 - (strip (n / 10) s).2 = (s - (strip (n / 10) s).2) + 1 by omega, Nat.pow_succ, ← Nat.mul_assoc, ← h2]
   omega
  ·rw [strip_stop hg]
   simp only [Nat.le_refl, Nat.sub_self, Nat.pow_zero, Nat.mul_one, true_and]
   exact ⟨h, fun _ => by omega⟩
theorem one_form {M n s m t : Nat} (hs : s ≤ M) (ht : t ≤ M) (h : n * 10 ^ (M - s) = m * 10 ^ (M - t)) (ln : 0 < s → n % 10 ≠ 0) (lm : 0 < t → m % 10 ≠ 0) : n = m ∧ s = t := by
 have key : ∀ {n s m t : Nat}, s ≤ M → t ≤ M → n * 10 ^ (M - s) = m * 10 ^ (M - t) → (0 < t → m % 10 ≠ 0) → ¬ s < t := by
  intro n s m t hs ht h lm hlt
  rw [show M - s = (t - s) + (M - t) by omega, Nat.pow_add, ← Nat.mul_assoc] at h
  have h2 := Nat.eq_of_mul_eq_mul_right (Nat.pow_pos (by omega)) h
  obtain ⟨k, hk⟩ : ∃ k, t - s = k + 1 := ⟨t - s - 1, by omega⟩
  rw [hk, Nat.pow_succ, ← Nat.mul_assoc] at h2
  have := lm (by omega)
  omega
 have h1 := key hs ht h lm
 have h2 := key ht hs h.symm ln
 have h3 : s = t := by omega
 subst h3
 exact ⟨Nat.eq_of_mul_eq_mul_right (Nat.pow_pos (by omega)) h, rfl⟩
def sv (a : Dec) : Int := if a.neg then -(num a : Int) else (num a : Int)
def vM (M : Nat) (a : Dec) : Int := sv a * ((10 ^ (M - scl a) : Nat) : Int)
def ofInt (v : Int) (K : Nat) : Option Dec := mkDec (decide (v < 0)) v.natAbs K
theorem mkDec_sign (neg : Bool) (n s : Nat) : mkDec neg n s = ofInt (if neg then -(n : Int) else (n : Int)) s := by
 unfold ofInt
 by_cases h : n = 0
 ·subst h
  unfold mkDec
  cases neg <;> simp
 ·cases neg with
  | true =>
   rw [if_pos rfl, decide_eq_true (by omega)]
   congr 1
   omega
  | false =>
   rw [if_neg (by simp), decide_eq_false (by omega)]
   congr 1
theorem decZero_is : IsDec decZero 0 0 := ⟨bytes_ext (by rw [numS_list, digs_zero]; rfl), rfl, by rw [digs_zero]; simp, by omega, fun _ => ⟨rfl, rfl⟩, fun h => absurd h (by omega)⟩
theorem sv_natAbs (a : Dec) : (sv a).natAbs = num a := by
 unfold sv
 split <;> omega
theorem sv_neg {a : Dec} (h : Valid a) : a.neg = decide (sv a < 0) := by
 have h1 := h.is.zero
 unfold sv
 cases hn : a.neg with
 | true =>
  rw [if_pos rfl]
  by_cases h0 : num a = 0
  ·have := (h1 h0).1; rw [hn] at this; cases this
  ·rw [decide_eq_true (by omega)]
 | false => rw [if_neg (by simp), decide_eq_false (by omega)]
theorem p_pos (k : Nat) : (0 : Int) < ((10 ^ k : Nat) : Int) := by
 have : 0 < 10 ^ k := Nat.pow_pos (by omega)
 omega
theorem mul_neg_iff {x p : Int} (hp : 0 < p) : x * p < 0 ↔ x < 0 := by
 constructor
 ·intro h
  rcases Int.lt_or_le x 0 with h1 | h1
  ·exact h1
  ·have := Int.mul_nonneg h1 (Int.le_of_lt hp); omega
 ·intro h
  exact Int.mul_neg_of_neg_of_pos h hp
theorem vM_inj {M : Nat} (hM : 60 ≤ M) {a b : Dec} (ha : Valid a) (hb : Valid b) (h : vM M a = vM M b) : a = b := by
 have ia := ha.is
 have ib := hb.is
 have hn : a.neg = b.neg := by
  rw [sv_neg ha, sv_neg hb]
  have h1 := mul_neg_iff (x := sv a) (p_pos (M - scl a))
  have h2 := mul_neg_iff (x := sv b) (p_pos (M - scl b))
  unfold vM at h
  rw [h] at h1
  exact decide_eq_decide.2 (h1.symm.trans h2)
 have h1 := congrArg Int.natAbs h
 unfold vM at h1
 rw [Int.natAbs_mul, Int.natAbs_mul, sv_natAbs, sv_natAbs, Int.natAbs_natCast, Int.natAbs_natCast] at h1
 have h60 := ia.le
 have h61 := ib.le
 obtain ⟨e1, e2⟩ := one_form (by omega) (by omega) h1 ia.last ib.last
 have d1 := ia.ds
 have d2 := ib.ds
 have s1 := ia.sc
 have s2 := ib.sc
 rw [e1] at d1
 rw [e2] at s1
 obtain ⟨an, ad, ak⟩ := a
 obtain ⟨bn, bd, bk⟩ := b
 simp only at hn d1 d2 s1 s2
 rw [Dec.mk.injEq]
 exact ⟨hn, d1.trans d2.symm, s1.trans s2.symm⟩
theorem ofInt_out {M : Nat} {v : Int} {K : Nat} {d : Dec} (h : ofInt v K = some d) (hK : K ≤ M) : Valid d ∧ vM M d = v * ((10 ^ (M - K) : Nat) : Int) ∧ scl d ≤ K := by
 unfold ofInt mkDec at h
 by_cases h0 : v.natAbs = 0
 ·rw [if_pos h0] at h
  obtain rfl := Option.some.inj h
  have hv : v = 0 := by omega
  refine ⟨⟨0, 0, decZero_is⟩, ?_, by rw [decZero_is.scl_eq]; omega⟩
  unfold vM sv
  rw [decZero_is.num_eq, hv]
  simp
 ·rw [if_neg h0] at h
  obtain ⟨h1, h2, h3, h4⟩ := strip_spec K v.natAbs h0
  by_cases hr : 60 < (digs (strip v.natAbs K).1).length ∨ 60 < (strip v.natAbs K).2
  ·rw [if_pos hr] at h; cases h
  ·rw [if_neg hr] at h
   obtain rfl := Option.some.inj h
   have hi : IsDec (⟨decide (v < 0), numS (strip v.natAbs K).1, ((strip v.natAbs K).2 : Int)⟩ : Dec) (strip v.natAbs K).1 (strip v.natAbs K).2 :=
    ⟨rfl, rfl, by omega, by omega, fun e => absurd e h3, h4⟩
   refine ⟨⟨_, _, hi⟩, ?_, by rw [hi.scl_eq]; exact h1⟩
   unfold vM sv
   rw [hi.num_eq, hi.scl_eq]
   generalize (strip v.natAbs K).1 = n at *
   generalize (strip v.natAbs K).2 = s at *
   have e : ((v.natAbs : Nat) : Int) * ((10 ^ (M - K) : Nat) : Int) = (n : Int) * ((10 ^ (M - s) : Nat) : Int) := by
    rw [h2, show M - s = (K - s) + (M - K) by omega, Nat.pow_add]
    simp only [Int.natCast_mul]
    rw [Int.mul_assoc]
   simp only
   by_cases hv : v < 0
   ·rw [decide_eq_true hv, if_pos rfl, Int.neg_mul, ← e, ← Int.neg_mul]
    congr 1
    omega
   ·rw [decide_eq_false hv, if_neg (by simp), ← e]
    congr 1
    omega
theorem ofInt_some {v : Int} {K : Nat} (hv : v.natAbs < 10 ^ 60) (hK : K ≤ 60) : ∃ d, ofInt v K = some d := by
 unfold ofInt mkDec
 by_cases h0 : v.natAbs = 0
 ·exact ⟨_, if_pos h0⟩
 ·rw [if_neg h0]
  obtain ⟨h1, h2, h3, h4⟩ := strip_spec K v.natAbs h0
  have h5 : (strip v.natAbs K).1 ≤ v.natAbs := by
   have : (strip v.natAbs K).1 * 1 ≤ (strip v.natAbs K).1 * 10 ^ (K - (strip v.natAbs K).2) := Nat.mul_le_mul_left _ (Nat.pow_pos (by omega))
   rw [← h2] at this
   omega
  have h6 : (digs (strip v.natAbs K).1).length ≤ 60 := digs_len_le (Nat.lt_of_le_of_lt h5 hv) (by omega)
  exact ⟨_, if_neg (by omega)⟩
theorem ofInt_in {M : Nat} {v : Int} {K : Nat} {x : Dec} (hx : Valid x) (hM : 60 ≤ M) (hK : K ≤ M) (h : vM M x = v * ((10 ^ (M - K) : Nat) : Int)) : ofInt v K = some x := by
 have ix := hx.is
 have h60 := ix.le
 have hneg : decide (v < 0) = x.neg := by
  rw [sv_neg hx]
  have h1 := mul_neg_iff (x := sv x) (p_pos (M - scl x))
  have h2 := mul_neg_iff (x := v) (p_pos (M - K))
  unfold vM at h
  rw [h] at h1
  exact decide_eq_decide.2 (h2.symm.trans h1)
 have h1 := congrArg Int.natAbs h
 unfold vM at h1
 rw [Int.natAbs_mul, Int.natAbs_mul, sv_natAbs, Int.natAbs_natCast, Int.natAbs_natCast] at h1
 unfold ofInt mkDec
 by_cases h0 : v.natAbs = 0
 ·rw [if_pos h0]
  rw [h0, Nat.zero_mul] at h1
  have hn : num x = 0 := by
   rcases Nat.mul_eq_zero.1 h1 with h2 | h2
   ·exact h2
   ·exact absurd h2 (Nat.ne_of_gt (Nat.pow_pos (by omega)))
  obtain ⟨z1, z2⟩ := ix.zero hn
  have d1 := ix.ds
  have s1 := ix.sc
  rw [hn] at d1
  rw [z2] at s1
  obtain ⟨an, ad, ak⟩ := x
  simp only at z1 d1 s1
  rw [z1, d1, s1]
  have : numS 0 = ⟨#[48]⟩ := bytes_ext (by rw [numS_list, digs_zero])
  rw [this]
  rfl
 ·rw [if_neg h0]
  obtain ⟨g1, g2, g3, g4⟩ := strip_spec K v.natAbs h0
  generalize (strip v.natAbs K).1 = n at *
  generalize (strip v.natAbs K).2 = s at *
  have h2 : num x * 10 ^ (M - scl x) = n * 10 ^ (M - s) := by
   rw [h1, g2, show M - s = (K - s) + (M - K) by omega, Nat.pow_add, Nat.mul_assoc]
  obtain ⟨e1, e2⟩ := one_form (by omega) (by omega) h2 ix.last g4
  subst e1
  subst e2
  have := ix.len
  rw [if_neg (by omega), hneg]
  have d1 := ix.ds
  have s1 := ix.sc
  obtain ⟨an, ad, ak⟩ := x
  simp only at d1 s1 ⊢
  rw [← d1, ← s1]
theorem ofOpt_out {M : Nat} {v : Int} {K : Nat} (h : (ofOpt (ofInt v K)).e = 0) (hK : K ≤ M) : Valid (ofOpt (ofInt v K)).d ∧ vM M (ofOpt (ofInt v K)).d = v * ((10 ^ (M - K) : Nat) : Int) ∧ scl (ofOpt (ofInt v K)).d ≤ K := by
 cases hd : ofInt v K with
 | none => rw [hd] at h; cases h
 | some d => exact ofInt_out hd hK
theorem ofOpt_in {M : Nat} {v : Int} {K : Nat} {x : Dec} (hx : Valid x) (hM : 60 ≤ M) (hK : K ≤ M) (h : vM M x = v * ((10 ^ (M - K) : Nat) : Int)) : ofOpt (ofInt v K) = ⟨x, 0⟩ := by
 rw [ofInt_in hx hM hK h]
 rfl
def sg (neg : Bool) (n : Nat) : Int := if neg then -(n : Int) else (n : Int)
theorem sum_int (neg1 : Bool) (n s : Nat) (neg2 : Bool) (m t : Nat) :
  sumSpec neg1 n s neg2 m t = ofInt (sg neg1 (n * 10 ^ (max s t - s)) + sg neg2 (m * 10 ^ (max s t - t))) (max s t) := by
 unfold sumSpec
 generalize n * 10 ^ (max s t - s) = x
 generalize m * 10 ^ (max s t - t) = y
 unfold sg
 cases neg1 <;> cases neg2
 ·rw [if_pos (show (false == false) = true from rfl), mkDec_sign]
  simp
 ·rw [if_neg (by simp)]
  by_cases h : x < y
  ·rw [if_pos h, mkDec_sign]
   simp only [if_true, Bool.false_eq_true, if_false]
   congr 1
   omega
  ·rw [if_neg h, mkDec_sign]
   simp only [if_true, Bool.false_eq_true, if_false]
   congr 1
   omega
 ·rw [if_neg (by simp)]
  by_cases h : x < y
  ·rw [if_pos h, mkDec_sign]
   simp only [if_true, Bool.false_eq_true, if_false]
   congr 1
   omega
  ·rw [if_neg h, mkDec_sign]
   simp only [if_true, Bool.false_eq_true, if_false]
   congr 1
   omega
 ·rw [if_pos (show (true == true) = true from rfl), mkDec_sign]
  simp only [if_true]
  congr 1
  simp only [Int.natCast_add]
  omega
theorem sg_mul (neg : Bool) (n p : Nat) : sg neg (n * p) = sg neg n * (p : Int) := by
 unfold sg
 cases neg <;> simp [Int.neg_mul]
theorem pow_join {K s M : Nat} (h1 : s ≤ K) (h2 : K ≤ M) : ((10 ^ (K - s) : Nat) : Int) * ((10 ^ (M - K) : Nat) : Int) = ((10 ^ (M - s) : Nat) : Int) := by
 rw [← Int.natCast_mul, ← Nat.pow_add, show K - s + (M - K) = M - s by omega]
section
variable {M : Nat} (hM : 130 ≤ M)
include hM
theorem add_form {a b : Dec} (ha : Valid a) (hb : Valid b) : ∃ z K, addS a b = ofOpt (ofInt z K) ∧ K ≤ 60 ∧ z * ((10 ^ (M - K) : Nat) : Int) = vM M a + vM M b ∧ z = sv a * ((10 ^ (K - scl a) : Nat) : Int) + sv b * ((10 ^ (K - scl b) : Nat) : Int) ∧ K = max (scl a) (scl b) := by
 refine ⟨_, max (scl a) (scl b), by rw [addS_ok ha.is hb.is, sum_int], ?_, ?_, ?_, rfl⟩
 ·have := ha.is.le; have := hb.is.le; omega
 ·have h1 := ha.is.le
  have h2 := hb.is.le
  rw [sg_mul, sg_mul, Int.add_mul, Int.mul_assoc, Int.mul_assoc, pow_join (by omega) (by omega), pow_join (by omega) (by omega)]
  rfl
 ·rw [sg_mul, sg_mul]
  rfl
theorem add_out {a b : Dec} (ha : Valid a) (hb : Valid b) (h : (addS a b).e = 0) : Valid (addS a b).d ∧ vM M (addS a b).d = vM M a + vM M b := by
 obtain ⟨z, K, e, hK, hz, _⟩ := add_form hM ha hb
 rw [e] at h ⊢
 obtain ⟨h1, h2, _⟩ := ofOpt_out (M := M) h (by omega)
 exact ⟨h1, h2.trans hz⟩
theorem sub_form {a b : Dec} (ha : Valid a) (hb : Valid b) : ∃ z K, subS a b = ofOpt (ofInt z K) ∧ K ≤ 60 ∧ z * ((10 ^ (M - K) : Nat) : Int) = vM M a - vM M b ∧ z = sv a * ((10 ^ (K - scl a) : Nat) : Int) - sv b * ((10 ^ (K - scl b) : Nat) : Int) ∧ K = max (scl a) (scl b) := by
 have hs : sg (!b.neg && decide (num b ≠ 0)) (num b) = -sv b := by
  unfold sv sg
  have hz := hb.is.zero
  cases hn : b.neg with
  | true => simp
  | false =>
   by_cases h0 : num b = 0
   ·simp [h0]
   ·simp [h0]
 refine ⟨_, max (scl a) (scl b), by rw [subS_ok ha.is hb.is, sum_int], ?_, ?_, ?_, rfl⟩
 ·have := ha.is.le; have := hb.is.le; omega
 ·have h1 := ha.is.le
  have h2 := hb.is.le
  rw [sg_mul, sg_mul, hs, Int.add_mul, Int.mul_assoc, Int.mul_assoc, pow_join (by omega) (by omega), pow_join (by omega) (by omega), Int.neg_mul]
  rfl
 ·rw [sg_mul, sg_mul, hs, Int.neg_mul]
  rfl
theorem sub_out {a b : Dec} (ha : Valid a) (hb : Valid b) (h : (subS a b).e = 0) : Valid (subS a b).d ∧ vM M (subS a b).d = vM M a - vM M b := by
 obtain ⟨z, K, e, hK, hz, _⟩ := sub_form hM ha hb
 rw [e] at h ⊢
 obtain ⟨h1, h2, _⟩ := ofOpt_out (M := M) h (by omega)
 exact ⟨h1, h2.trans hz⟩
theorem sub_in {a b x : Dec} (ha : Valid a) (hb : Valid b) (hx : Valid x) (h : vM M x = vM M a - vM M b) : subS a b = ⟨x, 0⟩ := by
 obtain ⟨z, K, e, hK, hz, _⟩ := sub_form hM ha hb
 rw [e]
 exact ofOpt_in hx (by omega) (by omega) (h.trans hz.symm)
theorem ord_V {a b : Dec} (ha : Valid a) (hb : Valid b) : ordS a b = if vM M a < vM M b then -1 else if vM M a = vM M b then 0 else 1 := by
 have h1 := ha.is.le
 have h2 := hb.is.le
 unfold ordS
 by_cases he : a.neg = b.neg ∧ a.ds = b.ds ∧ a.sc = b.sc
 ·have : a = b := by
   obtain ⟨an, ad, ak⟩ := a
   obtain ⟨bn, bd, bk⟩ := b
   simp only at he
   rw [Dec.mk.injEq]
   exact he
  subst this
  rw [if_pos he, if_neg (by omega), if_pos rfl]
 ·rw [if_neg he]
  have hne : vM M a ≠ vM M b := fun e => he (by rw [vM_inj (by omega) ha hb e]; exact ⟨rfl, rfl, rfl⟩)
  rw [if_neg hne]
  have ea : vM M a = sg a.neg (num a * 10 ^ (max (scl a) (scl b) - scl a)) * ((10 ^ (M - max (scl a) (scl b)) : Nat) : Int) := by
   rw [sg_mul, Int.mul_assoc, pow_join (by omega) (by omega)]
   rfl
  have eb : vM M b = sg b.neg (num b * 10 ^ (max (scl a) (scl b) - scl b)) * ((10 ^ (M - max (scl a) (scl b)) : Nat) : Int) := by
   rw [sg_mul, Int.mul_assoc, pow_join (by omega) (by omega)]
   rfl
  rw [ea, eb] at hne ⊢
  have hp := p_pos (M - max (scl a) (scl b))
  generalize ((10 ^ (M - max (scl a) (scl b)) : Nat) : Int) = p at *
  have za : a.neg = true → num a * 10 ^ (max (scl a) (scl b) - scl a) ≠ 0 := fun hn e => by
   rcases Nat.mul_eq_zero.1 e with e | e
   ·have := (ha.is.zero e).1; rw [hn] at this; cases this
   ·exact absurd e (Nat.ne_of_gt (Nat.pow_pos (by omega)))
  have zb : b.neg = true → num b * 10 ^ (max (scl a) (scl b) - scl b) ≠ 0 := fun hn e => by
   rcases Nat.mul_eq_zero.1 e with e | e
   ·have := (hb.is.zero e).1; rw [hn] at this; cases this
   ·exact absurd e (Nat.ne_of_gt (Nat.pow_pos (by omega)))
  generalize num a * 10 ^ (max (scl a) (scl b) - scl a) = x at *
  generalize num b * 10 ^ (max (scl a) (scl b) - scl b) = y at *
  have hlt : ∀ u v : Int, (u * p < v * p ↔ u < v) := fun u v => ⟨fun h => Int.lt_of_mul_lt_mul_right h (Int.le_of_lt hp), fun h => Int.mul_lt_mul_of_pos_right h hp⟩
  have hne2 : sg a.neg x ≠ sg b.neg y := fun e => hne (by rw [e])
  have hl := hlt (sg a.neg x) (sg b.neg y)
  unfold cmpSpec
  cases hn : a.neg <;> cases hm : b.neg <;> rw [hn, hm] at hl hne2 <;> unfold sg at hl hne2 ⊢ <;> simp only [if_true, Bool.false_eq_true, if_false] at hl hne2 ⊢
  ·by_cases hxy : x < y
   ·rw [if_pos (by simp [hxy]), if_pos (hl.2 (by omega))]
   ·rw [if_neg (by simp [hxy]), if_neg (fun h => by have := hl.1 h; omega)]
  ·rw [if_neg (by simp), if_neg (fun h => by have := hl.1 h; omega)]
  ·have := za hn
   rw [if_pos (by simp), if_pos (hl.2 (by omega))]
  ·by_cases hxy : x < y
   ·rw [if_neg (by simp [hxy]), if_neg (fun h => by have := hl.1 h; omega)]
   ·rw [if_pos (by simp [hxy]), if_pos (hl.2 (by omega))]
end
theorem vM_zero {M : Nat} {a : Dec} (ha : Valid a) : vM M a = 0 ↔ num a = 0 := by
 unfold vM
 constructor
 ·intro h
  rcases Int.mul_eq_zero.1 h with h | h
  ·rw [← sv_natAbs, h]; rfl
  ·have := p_pos (M - scl a); omega
 ·intro h
  have : sv a = 0 := by have := sv_natAbs a; omega
  rw [this, Int.zero_mul]
theorem vM_neg {M : Nat} {a : Dec} (ha : Valid a) : a.neg = decide (vM M a < 0) := by
 rw [sv_neg ha]
 exact decide_eq_decide.2 (mul_neg_iff (p_pos _)).symm
theorem upto_list (s : ByteArray) (k : Nat) : (s.extract 0 k).data.toList = s.data.toList.take k := by
 simp [ByteArray.data_extract]
theorem from_list (s : ByteArray) (k : Nat) : (s.extract k s.size).data.toList = s.data.toList.drop k := Lib.extract_to_end s k
theorem no_point {l : List UInt8} (h : AllD l) : ∀ c ∈ l, ((c == 46) = false) := fun c hc => by
 have := h c hc
 rw [beq_eq_false_iff_ne]
 rintro rfl
 exact absurd this (by decide)
theorem find_none {l : List UInt8} (h : AllD l) : l.findIdx (· == 46) = l.length := by
 rw [List.findIdx_eq_length]
 exact no_point h
theorem find_at {l r : List UInt8} (h : AllD l) : (l ++ 46 :: r).findIdx (· == 46) = l.length := by
 rw [List.findIdx_append, find_none h, if_neg (by omega)]
 have : List.findIdx (fun x => x == 46) (46 :: r) = 0 := by rw [List.findIdx_cons]; rfl
 rw [this]
 omega
theorem txtA_list {a : Dec} (ha : Valid a) : AllD (txtA a.ds (scl a)).data.toList ∧ val (txtA a.ds (scl a)).data.toList = num a ∧ scl a < (txtA a.ds (scl a)).size := by
 have h := ha.is.num
 have hp := h.pos
 unfold txtA
 split
 ·next hs =>
  rw [Joins.data_append, zs_list]
  refine ⟨(AllD.zeros _).append h.all, ?_, ?_⟩
  ·rw [val_append, val_zeros, Nat.zero_mul, Nat.zero_add]
   exact h.val
  ·rw [app_size, zs_size]
   omega
 ·next hs => exact ⟨h.all, h.val, by omega⟩
theorem textOf_size {a : Dec} (ha : Valid a) : (textOf a).size ≤ 400 := by
 have h60 := ha.is.le
 have h61 := ha.is.len
 have hd := ha.is.ds
 have hs : a.ds.size ≤ 60 := by rw [hd, numS_size]; exact h61
 unfold textOf txtC txtB txtA
 rw [show a.sc.toNat = scl a from rfl]
 have e : ∀ x y : Nat, y ≤ x → x ≤ 400 → y ≤ 400 := fun x y h g => by omega
 repeat' split
 all_goals (try simp only [app_size, ByteArray.size_extract, zs_size])
 all_goals (try (show 1 + _ ≤ _))
 all_goals (try simp only [show (⟨#[46]⟩ : ByteArray).size = 1 from rfl])
 all_goals omega
theorem order_fact {a b : Dec} (ha : Valid a) (hb : Valid b) (h : (subS a b).e = 0) : (subS a b).d.neg = decide (ordS a b < 0) ∧ ((subS a b).d.ds.toList == [48]) = (ordS a b == 0) := by
 obtain ⟨hv, hd⟩ := sub_out (M := 130) (by omega) ha hb h
 rw [vM_neg (M := 130) hv, is_zero hv, ord_V (M := 130) (by omega) ha hb]
 have hz := vM_zero (M := 130) hv
 rw [hd] at hz ⊢
 generalize vM 130 a = x at *
 generalize vM 130 b = y at *
 rcases Int.lt_trichotomy x y with h1 | h1 | h1
 ·rw [if_pos h1, decide_eq_true (show x - y < 0 by omega), decide_eq_false (show ¬ num (subS a b).d = 0 from fun e => by have := hz.2 e; omega)]
  exact ⟨rfl, rfl⟩
 ·rw [if_neg (by omega), if_pos h1, decide_eq_false (show ¬ x - y < 0 by omega), decide_eq_true (hz.1 (by omega))]
  exact ⟨rfl, rfl⟩
 ·rw [if_neg (by omega), if_neg (by omega), decide_eq_false (show ¬ x - y < 0 by omega), decide_eq_false (show ¬ num (subS a b).d = 0 from fun e => by have := hz.2 e; omega)]
  exact ⟨rfl, rfl⟩
theorem Valid.size {a : Dec} (h : Valid a) : a.ds.size ≤ 60 := by rw [h.is.ds, numS_size]; exact h.is.len
end Go.Proofs.YtmdnijehoagamaaGreatDoor
