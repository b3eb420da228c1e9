/- Decimals as numbers: what sums, products and orders of decimals are. -/
import Derived.Test.YtcpociafcjabkaaGreatDoorLE
set_option linter.unusedSimpArgs false
set_option linter.unusedVariables false
namespace Go.Proofs.YtcpociafcjabkaaGreatDoor
open Go.RowKit

theorem strip_spec : ∀ (s n : Nat), n ≠ 0 → (strip n s).2 ≤ s ∧ n = (strip n s).1 * 10 ^ (s - (strip n s).2) ∧ (strip n s).1 ≠ 0 ∧ (0 < (strip n s).2 → (strip n s).1 % 10 ≠ 0)
  | 0, n, h => by rw [strip_zero]; simp [h]
  | s + 1, n, h => by
    by_cases hg : 10 ≤ n ∧ n % 10 = 0
    · rw [strip_go hg]
      obtain ⟨h1, h2, h3, h4⟩ := strip_spec s (n / 10) (by omega)
      refine ⟨by omega, ?_, h3, h4⟩
      rw [show s + 1 - (strip (n / 10) s).2 = (s - (strip (n / 10) s).2) + 1 by omega, Nat.pow_succ, ← Nat.mul_assoc, ← h2]
      omega
    · rw [strip_stop hg]
      simp only [Nat.le_refl, Nat.sub_self, Nat.pow_zero, Nat.mul_one, true_and]
      exact ⟨h, fun _ => by omega⟩

/-- Digits and a scale, without zeros at the end, are those of one number alone. -/
theorem one_form {M n s m t : Nat} (hs : s ≤ M) (ht : t ≤ M) (h : n * 10 ^ (M - s) = m * 10 ^ (M - t)) (ln : 0 < s → n % 10 ≠ 0) (lm : 0 < t → m % 10 ≠ 0) : n = m ∧ s = t := by
  have key : ∀ {n s m t : Nat}, s ≤ M → t ≤ M → n * 10 ^ (M - s) = m * 10 ^ (M - t) → (0 < t → m % 10 ≠ 0) → ¬ s < t := by
    intro n s m t hs ht h lm hlt
    rw [show M - s = (t - s) + (M - t) by omega, Nat.pow_add, ← Nat.mul_assoc] at h
    have h2 := Nat.eq_of_mul_eq_mul_right (Nat.pow_pos (by omega)) h
    obtain ⟨k, hk⟩ : ∃ k, t - s = k + 1 := ⟨t - s - 1, by omega⟩
    rw [hk, Nat.pow_succ, ← Nat.mul_assoc] at h2
    have := lm (by omega)
    omega
  have h1 := key hs ht h lm
  have h2 := key ht hs h.symm ln
  have h3 : s = t := by omega
  subst h3
  exact ⟨Nat.eq_of_mul_eq_mul_right (Nat.pow_pos (by omega)) h, rfl⟩

/-- The signed digits of a decimal, and its number times 10 ^ M. -/
def sv (a : Dec) : Int := if a.neg then -(num a : Int) else (num a : Int)
def vM (M : Nat) (a : Dec) : Int := sv a * ((10 ^ (M - scl a) : Nat) : Int)
def ofInt (v : Int) (K : Nat) : Option Dec := mkDec (decide (v < 0)) v.natAbs K
theorem mkDec_sign (neg : Bool) (n s : Nat) : mkDec neg n s = ofInt (if neg then -(n : Int) else (n : Int)) s := by
  unfold ofInt
  by_cases h : n = 0
  · subst h
    unfold mkDec
    cases neg <;> simp
  · cases neg with
    | true =>
      rw [if_pos rfl, decide_eq_true (by omega)]
      congr 1
      omega
    | false =>
      rw [if_neg (by simp), decide_eq_false (by omega)]
      congr 1
theorem decZero_is : IsDec decZero 0 0 := ⟨bytes_ext (by rw [numS_list, digs_zero]; rfl), rfl, by rw [digs_zero]; simp, by omega, fun _ => ⟨rfl, rfl⟩, fun h => absurd h (by omega)⟩
theorem sv_natAbs (a : Dec) : (sv a).natAbs = num a := by
  unfold sv
  split <;> omega
theorem sv_neg {a : Dec} (h : Valid a) : a.neg = decide (sv a < 0) := by
  have h1 := h.is.zero
  unfold sv
  cases hn : a.neg with
  | true =>
    rw [if_pos rfl]
    by_cases h0 : num a = 0
    · have := (h1 h0).1; rw [hn] at this; cases this
    · rw [decide_eq_true (by omega)]
  | false => rw [if_neg (by simp), decide_eq_false (by omega)]
theorem p_pos (k : Nat) : (0 : Int) < ((10 ^ k : Nat) : Int) := by
  have : 0 < 10 ^ k := Nat.pow_pos (by omega)
  omega
theorem mul_neg_iff {x p : Int} (hp : 0 < p) : x * p < 0 ↔ x < 0 := by
  constructor
  · intro h
    rcases Int.lt_or_le x 0 with h1 | h1
    · exact h1
    · have := Int.mul_nonneg h1 (Int.le_of_lt hp); omega
  · intro h
    exact Int.mul_neg_of_neg_of_pos h hp
theorem vM_inj {M : Nat} (hM : 60 ≤ M) {a b : Dec} (ha : Valid a) (hb : Valid b) (h : vM M a = vM M b) : a = b := by
  have ia := ha.is
  have ib := hb.is
  have hn : a.neg = b.neg := by
    rw [sv_neg ha, sv_neg hb]
    have h1 := mul_neg_iff (x := sv a) (p_pos (M - scl a))
    have h2 := mul_neg_iff (x := sv b) (p_pos (M - scl b))
    unfold vM at h
    rw [h] at h1
    exact decide_eq_decide.2 (h1.symm.trans h2)
  have h1 := congrArg Int.natAbs h
  unfold vM at h1
  rw [Int.natAbs_mul, Int.natAbs_mul, sv_natAbs, sv_natAbs, Int.natAbs_natCast, Int.natAbs_natCast] at h1
  have h60 := ia.le
  have h61 := ib.le
  obtain ⟨e1, e2⟩ := one_form (by omega) (by omega) h1 ia.last ib.last
  have d1 := ia.ds
  have d2 := ib.ds
  have s1 := ia.sc
  have s2 := ib.sc
  rw [e1] at d1
  rw [e2] at s1
  obtain ⟨an, ad, ak⟩ := a
  obtain ⟨bn, bd, bk⟩ := b
  simp only at hn d1 d2 s1 s2
  rw [Dec.mk.injEq]
  exact ⟨hn, d1.trans d2.symm, s1.trans s2.symm⟩
theorem mk_cast (v : Int) (h : v < 0) : v = -(v.natAbs : Int) := by omega
theorem abs_split (v : Int) : v = (if decide (v < 0) = true then -(v.natAbs : Int) else (v.natAbs : Int)) := by
  by_cases h : v < 0
  · rw [decide_eq_true h, if_pos rfl]; omega
  · rw [decide_eq_false h, if_neg (by simp)]; omega
theorem ofInt_out {M : Nat} {v : Int} {K : Nat} {d : Dec} (h : ofInt v K = some d) (hK : K ≤ M) : Valid d ∧ vM M d = v * ((10 ^ (M - K) : Nat) : Int) ∧ scl d ≤ K := by
  unfold ofInt mkDec at h
  by_cases h0 : v.natAbs = 0
  · rw [if_pos h0] at h
    obtain rfl := Option.some.inj h
    have hv : v = 0 := by omega
    refine ⟨⟨0, 0, decZero_is⟩, ?_, by rw [decZero_is.scl_eq]; omega⟩
    unfold vM sv
    rw [decZero_is.num_eq, hv]
    simp
  · rw [if_neg h0] at h
    obtain ⟨h1, h2, h3, h4⟩ := strip_spec K v.natAbs h0
    by_cases hr : 60 < (digs (strip v.natAbs K).1).length ∨ 60 < (strip v.natAbs K).2
    · rw [if_pos hr] at h; cases h
    · rw [if_neg hr] at h
      obtain rfl := Option.some.inj h
      have hi : IsDec (⟨decide (v < 0), numS (strip v.natAbs K).1, ((strip v.natAbs K).2 : Int)⟩ : Dec) (strip v.natAbs K).1 (strip v.natAbs K).2 :=
        ⟨rfl, rfl, by omega, by omega, fun e => absurd e h3, h4⟩
      refine ⟨⟨_, _, hi⟩, ?_, by rw [hi.scl_eq]; exact h1⟩
      unfold vM sv
      rw [hi.num_eq, hi.scl_eq]
      generalize (strip v.natAbs K).1 = n at *
      generalize (strip v.natAbs K).2 = s at *
      have e : ((v.natAbs : Nat) : Int) * ((10 ^ (M - K) : Nat) : Int) = (n : Int) * ((10 ^ (M - s) : Nat) : Int) := by
        rw [h2, show M - s = (K - s) + (M - K) by omega, Nat.pow_add]
        simp only [Int.natCast_mul]
        rw [Int.mul_assoc]
      simp only
      by_cases hv : v < 0
      · rw [decide_eq_true hv, if_pos rfl, Int.neg_mul, ← e, ← Int.neg_mul]
        congr 1
        omega
      · rw [decide_eq_false hv, if_neg (by simp), ← e]
        congr 1
        omega
theorem ofInt_some {v : Int} {K : Nat} (hv : v.natAbs < 10 ^ 60) (hK : K ≤ 60) : ∃ d, ofInt v K = some d := by
  unfold ofInt mkDec
  by_cases h0 : v.natAbs = 0
  · exact ⟨_, if_pos h0⟩
  · rw [if_neg h0]
    obtain ⟨h1, h2, h3, h4⟩ := strip_spec K v.natAbs h0
    have h5 : (strip v.natAbs K).1 ≤ v.natAbs := by
      have : (strip v.natAbs K).1 * 1 ≤ (strip v.natAbs K).1 * 10 ^ (K - (strip v.natAbs K).2) := Nat.mul_le_mul_left _ (Nat.pow_pos (by omega))
      rw [← h2] at this
      omega
    have h6 : (digs (strip v.natAbs K).1).length ≤ 60 := digs_len_le (Nat.lt_of_le_of_lt h5 hv) (by omega)
    exact ⟨_, if_neg (by omega)⟩
theorem ofInt_in {M : Nat} {v : Int} {K : Nat} {x : Dec} (hx : Valid x) (hM : 60 ≤ M) (hK : K ≤ M) (h : vM M x = v * ((10 ^ (M - K) : Nat) : Int)) : ofInt v K = some x := by
  have ix := hx.is
  have h60 := ix.le
  have hneg : decide (v < 0) = x.neg := by
    rw [sv_neg hx]
    have h1 := mul_neg_iff (x := sv x) (p_pos (M - scl x))
    have h2 := mul_neg_iff (x := v) (p_pos (M - K))
    unfold vM at h
    rw [h] at h1
    exact decide_eq_decide.2 (h2.symm.trans h1)
  have h1 := congrArg Int.natAbs h
  unfold vM at h1
  rw [Int.natAbs_mul, Int.natAbs_mul, sv_natAbs, Int.natAbs_natCast, Int.natAbs_natCast] at h1
  unfold ofInt mkDec
  by_cases h0 : v.natAbs = 0
  · rw [if_pos h0]
    rw [h0, Nat.zero_mul] at h1
    have hn : num x = 0 := by
      rcases Nat.mul_eq_zero.1 h1 with h2 | h2
      · exact h2
      · exact absurd h2 (Nat.ne_of_gt (Nat.pow_pos (by omega)))
    obtain ⟨z1, z2⟩ := ix.zero hn
    have d1 := ix.ds
    have s1 := ix.sc
    rw [hn] at d1
    rw [z2] at s1
    obtain ⟨an, ad, ak⟩ := x
    simp only at z1 d1 s1
    rw [z1, d1, s1]
    have : numS 0 = ⟨#[48]⟩ := bytes_ext (by rw [numS_list, digs_zero])
    rw [this]
    rfl
  · rw [if_neg h0]
    obtain ⟨g1, g2, g3, g4⟩ := strip_spec K v.natAbs h0
    generalize (strip v.natAbs K).1 = n at *
    generalize (strip v.natAbs K).2 = s at *
    have h2 : num x * 10 ^ (M - scl x) = n * 10 ^ (M - s) := by
      rw [h1, g2, show M - s = (K - s) + (M - K) by omega, Nat.pow_add, Nat.mul_assoc]
    obtain ⟨e1, e2⟩ := one_form (by omega) (by omega) h2 ix.last g4
    subst e1
    subst e2
    have := ix.len
    rw [if_neg (by omega), hneg]
    have d1 := ix.ds
    have s1 := ix.sc
    obtain ⟨an, ad, ak⟩ := x
    simp only at d1 s1 ⊢
    rw [← d1, ← s1]

theorem ofOpt_out {M : Nat} {v : Int} {K : Nat} (h : (ofOpt (ofInt v K)).e = 0) (hK : K ≤ M) : Valid (ofOpt (ofInt v K)).d ∧ vM M (ofOpt (ofInt v K)).d = v * ((10 ^ (M - K) : Nat) : Int) ∧ scl (ofOpt (ofInt v K)).d ≤ K := by
  cases hd : ofInt v K with
  | none => rw [hd] at h; cases h
  | some d => exact ofInt_out hd hK
theorem ofOpt_in {M : Nat} {v : Int} {K : Nat} {x : Dec} (hx : Valid x) (hM : 60 ≤ M) (hK : K ≤ M) (h : vM M x = v * ((10 ^ (M - K) : Nat) : Int)) : ofOpt (ofInt v K) = ⟨x, 0⟩ := by
  rw [ofInt_in hx hM hK h]
  rfl
theorem ofOpt_e (r : Option Dec) : (ofOpt r).e = 0 ∨ (ofOpt r).e = 7 := by
  cases r with
  | none => exact .inr rfl
  | some => exact .inl rfl
end Go.Proofs.YtcpociafcjabkaaGreatDoor

/- What Add, Sub, Mul and Cmp answer, in numbers. -/
namespace Go.Proofs.YtcpociafcjabkaaGreatDoor
open Go.RowKit

def sg (neg : Bool) (n : Nat) : Int := if neg then -(n : Int) else (n : Int)
theorem sv_sg (a : Dec) : sv a = sg a.neg (num a) := rfl
theorem sum_int (neg1 : Bool) (n s : Nat) (neg2 : Bool) (m t : Nat) :
    sumSpec neg1 n s neg2 m t = ofInt (sg neg1 (n * 10 ^ (max s t - s)) + sg neg2 (m * 10 ^ (max s t - t))) (max s t) := by
  unfold sumSpec
  generalize n * 10 ^ (max s t - s) = x
  generalize m * 10 ^ (max s t - t) = y
  unfold sg
  cases neg1 <;> cases neg2
  · rw [if_pos (show (false == false) = true from rfl), mkDec_sign]
    simp
  · rw [if_neg (by simp)]
    by_cases h : x < y
    · rw [if_pos h, mkDec_sign]
      simp only [if_true, Bool.false_eq_true, if_false]
      congr 1
      omega
    · rw [if_neg h, mkDec_sign]
      simp only [if_true, Bool.false_eq_true, if_false]
      congr 1
      omega
  · rw [if_neg (by simp)]
    by_cases h : x < y
    · rw [if_pos h, mkDec_sign]
      simp only [if_true, Bool.false_eq_true, if_false]
      congr 1
      omega
    · rw [if_neg h, mkDec_sign]
      simp only [if_true, Bool.false_eq_true, if_false]
      congr 1
      omega
  · rw [if_pos (show (true == true) = true from rfl), mkDec_sign]
    simp only [if_true]
    congr 1
    simp only [Int.natCast_add]
    omega
theorem sg_mul (neg : Bool) (n p : Nat) : sg neg (n * p) = sg neg n * (p : Int) := by
  unfold sg
  cases neg <;> simp [Int.neg_mul]
theorem pow_join {K s M : Nat} (h1 : s ≤ K) (h2 : K ≤ M) : ((10 ^ (K - s) : Nat) : Int) * ((10 ^ (M - K) : Nat) : Int) = ((10 ^ (M - s) : Nat) : Int) := by
  rw [← Int.natCast_mul, ← Nat.pow_add, show K - s + (M - K) = M - s by omega]

section
variable {M : Nat} (hM : 130 ≤ M)
include hM
theorem add_form {a b : Dec} (ha : Valid a) (hb : Valid b) : ∃ z K, addS a b = ofOpt (ofInt z K) ∧ K ≤ 60 ∧ z * ((10 ^ (M - K) : Nat) : Int) = vM M a + vM M b ∧ z = sv a * ((10 ^ (K - scl a) : Nat) : Int) + sv b * ((10 ^ (K - scl b) : Nat) : Int) ∧ K = max (scl a) (scl b) := by
  refine ⟨_, max (scl a) (scl b), by rw [addS_ok ha.is hb.is, sum_int], ?_, ?_, ?_, rfl⟩
  · have := ha.is.le; have := hb.is.le; omega
  · have h1 := ha.is.le
    have h2 := hb.is.le
    rw [sg_mul, sg_mul, Int.add_mul, Int.mul_assoc, Int.mul_assoc, pow_join (by omega) (by omega), pow_join (by omega) (by omega)]
    rfl
  · rw [sg_mul, sg_mul]
    rfl
theorem add_out {a b : Dec} (ha : Valid a) (hb : Valid b) (h : (addS a b).e = 0) : Valid (addS a b).d ∧ vM M (addS a b).d = vM M a + vM M b := by
  obtain ⟨z, K, e, hK, hz, _⟩ := add_form hM ha hb
  rw [e] at h ⊢
  obtain ⟨h1, h2, _⟩ := ofOpt_out (M := M) h (by omega)
  exact ⟨h1, h2.trans hz⟩
theorem add_in {a b x : Dec} (ha : Valid a) (hb : Valid b) (hx : Valid x) (h : vM M x = vM M a + vM M b) : addS a b = ⟨x, 0⟩ := by
  obtain ⟨z, K, e, hK, hz, _⟩ := add_form hM ha hb
  rw [e]
  exact ofOpt_in hx (by omega) (by omega) (h.trans hz.symm)
theorem sub_form {a b : Dec} (ha : Valid a) (hb : Valid b) : ∃ z K, subS a b = ofOpt (ofInt z K) ∧ K ≤ 60 ∧ z * ((10 ^ (M - K) : Nat) : Int) = vM M a - vM M b ∧ z = sv a * ((10 ^ (K - scl a) : Nat) : Int) - sv b * ((10 ^ (K - scl b) : Nat) : Int) ∧ K = max (scl a) (scl b) := by
  have hs : sg (!b.neg && decide (num b ≠ 0)) (num b) = -sv b := by
    unfold sv sg
    have hz := hb.is.zero
    cases hn : b.neg with
    | true => simp
    | false =>
      by_cases h0 : num b = 0
      · simp [h0]
      · simp [h0]
  refine ⟨_, max (scl a) (scl b), by rw [subS_ok ha.is hb.is, sum_int], ?_, ?_, ?_, rfl⟩
  · have := ha.is.le; have := hb.is.le; omega
  · have h1 := ha.is.le
    have h2 := hb.is.le
    rw [sg_mul, sg_mul, hs, Int.add_mul, Int.mul_assoc, Int.mul_assoc, pow_join (by omega) (by omega), pow_join (by omega) (by omega), Int.neg_mul]
    rfl
  · rw [sg_mul, sg_mul, hs, Int.neg_mul]
    rfl
theorem sub_out {a b : Dec} (ha : Valid a) (hb : Valid b) (h : (subS a b).e = 0) : Valid (subS a b).d ∧ vM M (subS a b).d = vM M a - vM M b := by
  obtain ⟨z, K, e, hK, hz, _⟩ := sub_form hM ha hb
  rw [e] at h ⊢
  obtain ⟨h1, h2, _⟩ := ofOpt_out (M := M) h (by omega)
  exact ⟨h1, h2.trans hz⟩
theorem sub_in {a b x : Dec} (ha : Valid a) (hb : Valid b) (hx : Valid x) (h : vM M x = vM M a - vM M b) : subS a b = ⟨x, 0⟩ := by
  obtain ⟨z, K, e, hK, hz, _⟩ := sub_form hM ha hb
  rw [e]
  exact ofOpt_in hx (by omega) (by omega) (h.trans hz.symm)
theorem mul_form {a b : Dec} (ha : Valid a) (hb : Valid b) : ∃ z K, mulS a b = ofOpt (ofInt z K) ∧ K ≤ 120 ∧ z * ((10 ^ (M - K) : Nat) : Int) * ((10 ^ M : Nat) : Int) = vM M a * vM M b ∧ z = sv a * sv b ∧ K = scl a + scl b := by
  have h1 := ha.is.le
  have h2 := hb.is.le
  have hs : (if (a.neg != b.neg) = true then -((num a * num b : Nat) : Int) else ((num a * num b : Nat) : Int)) = sv a * sv b := by
    unfold sv
    cases a.neg <;> cases b.neg <;> simp [Int.neg_mul, Int.mul_neg]
  refine ⟨sv a * sv b, scl a + scl b, by rw [mulS_ok ha.is hb.is, mkDec_sign, hs], by omega, ?_, rfl, rfl⟩
  have e : ((10 ^ (M - (scl a + scl b)) : Nat) : Int) * ((10 ^ M : Nat) : Int) = ((10 ^ (M - scl a) : Nat) : Int) * ((10 ^ (M - scl b) : Nat) : Int) := by
    rw [← Int.natCast_mul, ← Int.natCast_mul, ← Nat.pow_add, ← Nat.pow_add]
    congr 2
    omega
  unfold vM
  rw [Int.mul_assoc, e]
  generalize ((10 ^ (M - scl a) : Nat) : Int) = p
  generalize ((10 ^ (M - scl b) : Nat) : Int) = q
  grind
theorem mul_out {a b : Dec} (ha : Valid a) (hb : Valid b) (h : (mulS a b).e = 0) : Valid (mulS a b).d ∧ vM M (mulS a b).d * ((10 ^ M : Nat) : Int) = vM M a * vM M b := by
  obtain ⟨z, K, e, hK, hz, _⟩ := mul_form hM ha hb
  rw [e] at h ⊢
  obtain ⟨h1, h2, _⟩ := ofOpt_out (M := M) h (by omega)
  exact ⟨h1, by rw [h2]; exact hz⟩
theorem mul_in {a b x : Dec} (ha : Valid a) (hb : Valid b) (hx : Valid x) (h : vM M x * ((10 ^ M : Nat) : Int) = vM M a * vM M b) : mulS a b = ⟨x, 0⟩ := by
  obtain ⟨z, K, e, hK, hz, _⟩ := mul_form hM ha hb
  rw [e]
  exact ofOpt_in hx (by omega) (by omega) (Int.eq_of_mul_eq_mul_right (Int.ne_of_gt (p_pos M)) (h.trans hz.symm))
theorem ord_V {a b : Dec} (ha : Valid a) (hb : Valid b) : ordS a b = if vM M a < vM M b then -1 else if vM M a = vM M b then 0 else 1 := by
  have h1 := ha.is.le
  have h2 := hb.is.le
  unfold ordS
  by_cases he : a.neg = b.neg ∧ a.ds = b.ds ∧ a.sc = b.sc
  · have : a = b := by
      obtain ⟨an, ad, ak⟩ := a
      obtain ⟨bn, bd, bk⟩ := b
      simp only at he
      rw [Dec.mk.injEq]
      exact he
    subst this
    rw [if_pos he, if_neg (by omega), if_pos rfl]
  · rw [if_neg he]
    have hne : vM M a ≠ vM M b := fun e => he (by rw [vM_inj (by omega) ha hb e]; exact ⟨rfl, rfl, rfl⟩)
    rw [if_neg hne]
    have ea : vM M a = sg a.neg (num a * 10 ^ (max (scl a) (scl b) - scl a)) * ((10 ^ (M - max (scl a) (scl b)) : Nat) : Int) := by
      rw [sg_mul, Int.mul_assoc, pow_join (by omega) (by omega)]
      rfl
    have eb : vM M b = sg b.neg (num b * 10 ^ (max (scl a) (scl b) - scl b)) * ((10 ^ (M - max (scl a) (scl b)) : Nat) : Int) := by
      rw [sg_mul, Int.mul_assoc, pow_join (by omega) (by omega)]
      rfl
    rw [ea, eb] at hne ⊢
    have hp := p_pos (M - max (scl a) (scl b))
    generalize ((10 ^ (M - max (scl a) (scl b)) : Nat) : Int) = p at *
    have za : a.neg = true → num a * 10 ^ (max (scl a) (scl b) - scl a) ≠ 0 := fun hn e => by
      rcases Nat.mul_eq_zero.1 e with e | e
      · have := (ha.is.zero e).1; rw [hn] at this; cases this
      · exact absurd e (Nat.ne_of_gt (Nat.pow_pos (by omega)))
    have zb : b.neg = true → num b * 10 ^ (max (scl a) (scl b) - scl b) ≠ 0 := fun hn e => by
      rcases Nat.mul_eq_zero.1 e with e | e
      · have := (hb.is.zero e).1; rw [hn] at this; cases this
      · exact absurd e (Nat.ne_of_gt (Nat.pow_pos (by omega)))
    generalize num a * 10 ^ (max (scl a) (scl b) - scl a) = x at *
    generalize num b * 10 ^ (max (scl a) (scl b) - scl b) = y at *
    have hlt : ∀ u v : Int, (u * p < v * p ↔ u < v) := fun u v => ⟨fun h => Int.lt_of_mul_lt_mul_right h (Int.le_of_lt hp), fun h => Int.mul_lt_mul_of_pos_right h hp⟩
    have hne2 : sg a.neg x ≠ sg b.neg y := fun e => hne (by rw [e])
    have hl := hlt (sg a.neg x) (sg b.neg y)
    unfold cmpSpec
    cases hn : a.neg <;> cases hm : b.neg <;> rw [hn, hm] at hl hne2 <;> unfold sg at hl hne2 ⊢ <;> simp only [if_true, Bool.false_eq_true, if_false] at hl hne2 ⊢
    · by_cases hxy : x < y
      · rw [if_pos (by simp [hxy]), if_pos (hl.2 (by omega))]
      · rw [if_neg (by simp [hxy]), if_neg (fun h => by have := hl.1 h; omega)]
    · rw [if_neg (by simp), if_neg (fun h => by have := hl.1 h; omega)]
    · have := za hn
      rw [if_pos (by simp), if_pos (hl.2 (by omega))]
    · by_cases hxy : x < y
      · rw [if_neg (by simp [hxy]), if_neg (fun h => by have := hl.1 h; omega)]
      · rw [if_pos (by simp [hxy]), if_pos (hl.2 (by omega))]
end
theorem vM_zero {M : Nat} {a : Dec} (ha : Valid a) : vM M a = 0 ↔ num a = 0 := by
  unfold vM
  constructor
  · intro h
    rcases Int.mul_eq_zero.1 h with h | h
    · rw [← sv_natAbs, h]; rfl
    · have := p_pos (M - scl a); omega
  · intro h
    have : sv a = 0 := by have := sv_natAbs a; omega
    rw [this, Int.zero_mul]
theorem vM_neg {M : Nat} {a : Dec} (ha : Valid a) : a.neg = decide (vM M a < 0) := by
  rw [sv_neg ha]
  exact decide_eq_decide.2 (mul_neg_iff (p_pos _)).symm
end Go.Proofs.YtcpociafcjabkaaGreatDoor

/- What is written is read again. -/
namespace Go.Proofs.YtcpociafcjabkaaGreatDoor
open Go.RowKit

theorem upto_list (s : ByteArray) (k : Nat) : (s.extract 0 k).data.toList = s.data.toList.take k := by
  simp [ByteArray.data_extract]
theorem from_list (s : ByteArray) (k : Nat) : (s.extract k s.size).data.toList = s.data.toList.drop k := Lib.extract_to_end s k
theorem mkDec_self {a : Dec} (ha : Valid a) : mkDec a.neg (num a) (scl a) = some a := by
  rw [mkDec_sign]
  have := ha.is.le
  exact ofInt_in (M := 60) ha (by omega) (by omega) rfl
theorem num_val {a : Dec} : num a = val a.ds.data.toList := rfl
theorem no_point {l : List UInt8} (h : AllD l) : ∀ c ∈ l, ((c == 46) = false) := fun c hc => by
  have := h c hc
  rw [beq_eq_false_iff_ne]
  rintro rfl
  exact absurd this (by decide)
theorem find_none {l : List UInt8} (h : AllD l) : l.findIdx (· == 46) = l.length := by
  rw [List.findIdx_eq_length]
  exact no_point h
theorem find_at {l r : List UInt8} (h : AllD l) : (l ++ 46 :: r).findIdx (· == 46) = l.length := by
  rw [List.findIdx_append, find_none h, if_neg (by omega)]
  have : List.findIdx (fun x => x == 46) (46 :: r) = 0 := by rw [List.findIdx_cons]; rfl
  rw [this]
  omega
theorem fin_self {a : Dec} (ha : Valid a) (t : ByteArray) (hall : AllD t.data.toList) (hne : t.data.toList ≠ []) (hv : val t.data.toList = num a) : finS a.neg t (scl a) = ⟨a, 0⟩ := by
  unfold finS
  rw [if_pos ((digB_iff _).2 ⟨hall, hne⟩), hv, mkDec_self ha]
  rfl
/-- The digits of the text, with zeros ahead of them. -/
theorem txtA_list {a : Dec} (ha : Valid a) : AllD (txtA a.ds (scl a)).data.toList ∧ val (txtA a.ds (scl a)).data.toList = num a ∧ scl a < (txtA a.ds (scl a)).size := by
  have h := ha.is.num
  have hp := h.pos
  unfold txtA
  split
  · next hs =>
    rw [Joins.data_append, zs_list]
    refine ⟨(AllD.zeros _).append h.all, ?_, ?_⟩
    · rw [val_append, val_zeros, Nat.zero_mul, Nat.zero_add]
      exact h.val
    · rw [app_size, zs_size]
      omega
  · next hs => exact ⟨h.all, h.val, by omega⟩
theorem body_self {a : Dec} (ha : Valid a) : bodyS a.neg (txtB (txtA a.ds (scl a)) (scl a)) = ⟨a, 0⟩ := by
  obtain ⟨hall, hv, hlt⟩ := txtA_list ha
  generalize txtA a.ds (scl a) = t at *
  have hlen := bytes_len t
  have hne : t.data.toList ≠ [] := by intro e; rw [e] at hlen; simp at hlen; omega
  unfold bodyS txtB
  by_cases h0 : 0 < scl a
  · rw [if_pos h0]
    have hu : (t.extract 0 (t.size - scl a) ++ ⟨#[46]⟩ ++ t.extract (t.size - scl a) t.size : ByteArray).data.toList = t.data.toList.take (t.size - scl a) ++ 46 :: t.data.toList.drop (t.size - scl a) := by
      rw [Joins.data_append, Joins.data_append, upto_list, from_list]
      simp
    generalize (t.extract 0 (t.size - scl a) ++ ⟨#[46]⟩ ++ t.extract (t.size - scl a) t.size : ByteArray) = u at *
    have hlt2 : (t.data.toList.take (t.size - scl a)).length = t.size - scl a := by rw [List.length_take, hlen]; omega
    have hus : u.size = t.size + 1 := by
      rw [← bytes_len, hu, List.length_append, hlt2, List.length_cons, List.length_drop, hlen]
      omega
    have hpt : ptAt u = t.size - scl a := by
      unfold ptAt
      rw [hu, find_at (hall.take _), hlt2]
    rw [if_pos (by rw [hpt, hus]; omega)]
    have hj : u.extract 0 (ptAt u) ++ u.extract (ptAt u + 1) u.size = t := by
      apply bytes_ext
      rw [Joins.data_append, upto_list, from_list, hpt, hu]
      have e1 : List.take (t.size - scl a) (t.data.toList.take (t.size - scl a) ++ 46 :: t.data.toList.drop (t.size - scl a)) = t.data.toList.take (t.size - scl a) := by
        rw [List.take_append_of_le_length (by omega), List.take_take, Nat.min_self]
      have e2 : List.drop (t.size - scl a + 1) (t.data.toList.take (t.size - scl a) ++ 46 :: t.data.toList.drop (t.size - scl a)) = t.data.toList.drop (t.size - scl a) := by
        rw [List.drop_append, List.drop_eq_nil_of_le (by omega), hlt2, show t.size - scl a + 1 - (t.size - scl a) = 1 by omega]
        rfl
      rw [e1, e2, List.take_append_drop]
    rw [hj, show u.size - ptAt u - 1 = scl a by rw [hpt, hus]; omega]
    exact fin_self ha t hall hne hv
  · rw [if_neg h0]
    have hz : scl a = 0 := by omega
    have hpt : ptAt t = t.size := by unfold ptAt; rw [find_none hall, hlen]
    rw [if_neg (by omega)]
    have := fin_self ha t hall hne hv
    rw [hz] at this
    exact this
theorem first_digit {a : Dec} (ha : Valid a) (hp : 0 < (txtB (txtA a.ds (scl a)) (scl a)).size) : 48 ≤ (txtB (txtA a.ds (scl a)) (scl a))[0].toNat := by
  obtain ⟨hall, hv, hlt⟩ := txtA_list ha
  generalize txtA a.ds (scl a) = t at *
  have hlen := bytes_len t
  have hd : ∃ c r, t.data.toList = c :: r ∧ 48 ≤ c.toNat := by
    cases hl : t.data.toList with
    | nil => rw [hl] at hlen; simp at hlen; omega
    | cons c r => exact ⟨c, r, rfl, (hall c (by rw [hl]; exact List.mem_cons_self)).1⟩
  obtain ⟨c, r, hl, hc⟩ := hd
  have hu : ∃ r', (txtB t (scl a)).data.toList = c :: r' := by
    unfold txtB
    split
    · rw [Joins.data_append, Joins.data_append, upto_list, hl]
      obtain ⟨k, hk⟩ : ∃ k, t.size - scl a = k + 1 := ⟨t.size - scl a - 1, by omega⟩
      rw [hk]
      exact ⟨_, rfl⟩
    · exact ⟨r, hl⟩
  obtain ⟨r', hu⟩ := hu
  rw [byte_at hu hp (by simp)]
  exact hc
theorem back {a : Dec} (ha : Valid a) : readS (textOf a) = ⟨a, 0⟩ := by
  have hb := body_self ha
  have hf := first_digit ha
  unfold textOf
  rw [show a.sc.toNat = scl a from rfl]
  generalize txtB (txtA a.ds (scl a)) (scl a) = u at *
  unfold txtC
  cases hn : a.neg with
  | true =>
    rw [if_pos rfl]
    have hl : ((⟨#[45]⟩ : ByteArray) ++ u).data.toList = 45 :: u.data.toList := by rw [Joins.data_append]; rfl
    have hz : 0 < ((⟨#[45]⟩ : ByteArray) ++ u).size := by rw [app_size]; show 0 < 1 + _; omega
    have he : ((⟨#[45]⟩ : ByteArray) ++ u).extract 1 ((⟨#[45]⟩ : ByteArray) ++ u).size = u := bytes_ext (by rw [from_list, hl]; rfl)
    unfold readS
    rw [dif_pos hz, if_pos (by rw [byte_at hl hz (by simp)]; rfl), he]
    rw [hn] at hb
    exact hb
  | false =>
    rw [if_neg (by simp)]
    rw [hn] at hb
    unfold readS
    by_cases hz : 0 < u.size
    · have h1 := hf hz
      rw [dif_pos hz, if_neg (by omega), if_neg (by omega)]
      exact hb
    · rw [dif_neg hz]
      exact hb
theorem textOf_size {a : Dec} (ha : Valid a) : (textOf a).size ≤ 400 := by
  have h60 := ha.is.le
  have h61 := ha.is.len
  have hd := ha.is.ds
  have hs : a.ds.size ≤ 60 := by rw [hd, numS_size]; exact h61
  unfold textOf txtC txtB txtA
  rw [show a.sc.toNat = scl a from rfl]
  have e : ∀ x y : Nat, y ≤ x → x ≤ 400 → y ≤ 400 := fun x y h g => by omega
  repeat' split
  all_goals (try simp only [app_size, ByteArray.size_extract, zs_size])
  all_goals (try (show 1 + _ ≤ _))
  all_goals (try simp only [show (⟨#[46]⟩ : ByteArray).size = 1 from rfl])
  all_goals omega
end Go.Proofs.YtcpociafcjabkaaGreatDoor

/- The laws of sums and products. -/
namespace Go.Proofs.YtcpociafcjabkaaGreatDoor
open Go.RowKit

theorem addS_comm {a b : Dec} (ha : Valid a) (hb : Valid b) : addS b a = addS a b := by
  obtain ⟨z, K, e, _, _, hz, hK⟩ := add_form (M := 130) (by omega) ha hb
  obtain ⟨z', K', e', _, _, hz', hK'⟩ := add_form (M := 130) (by omega) hb ha
  have hKK : K' = K := by omega
  subst hKK
  rw [e, e', hz, hz', Int.add_comm]
theorem mulS_comm {a b : Dec} (ha : Valid a) (hb : Valid b) : mulS b a = mulS a b := by
  obtain ⟨z, K, e, _, _, hz, hK⟩ := mul_form (M := 130) (by omega) ha hb
  obtain ⟨z', K', e', _, _, hz', hK'⟩ := mul_form (M := 130) (by omega) hb ha
  have hKK : K' = K := by omega
  subst hKK
  rw [e, e', hz, hz', Int.mul_comm]
theorem order_fact {a b : Dec} (ha : Valid a) (hb : Valid b) (h : (subS a b).e = 0) : (subS a b).d.neg = decide (ordS a b < 0) ∧ ((subS a b).d.ds.toList == [48]) = (ordS a b == 0) := by
  obtain ⟨hv, hd⟩ := sub_out (M := 130) (by omega) ha hb h
  rw [vM_neg (M := 130) hv, is_zero hv, ord_V (M := 130) (by omega) ha hb]
  have hz := vM_zero (M := 130) hv
  rw [hd] at hz ⊢
  generalize vM 130 a = x at *
  generalize vM 130 b = y at *
  rcases Int.lt_trichotomy x y with h1 | h1 | h1
  · rw [if_pos h1, decide_eq_true (show x - y < 0 by omega), decide_eq_false (show ¬ num (subS a b).d = 0 from fun e => by have := hz.2 e; omega)]
    exact ⟨rfl, rfl⟩
  · rw [if_neg (by omega), if_pos h1, decide_eq_false (show ¬ x - y < 0 by omega), decide_eq_true (hz.1 (by omega))]
    exact ⟨rfl, rfl⟩
  · rw [if_neg (by omega), if_neg (by omega), decide_eq_false (show ¬ x - y < 0 by omega), decide_eq_false (show ¬ num (subS a b).d = 0 from fun e => by have := hz.2 e; omega)]
    exact ⟨rfl, rfl⟩
theorem sub_back {a b : Dec} (ha : Valid a) (hb : Valid b) (h : (addS a b).e = 0) : subS (addS a b).d b = ⟨a, 0⟩ := by
  obtain ⟨hv, hd⟩ := add_out (M := 130) (by omega) ha hb h
  exact sub_in (M := 130) (by omega) hv hb ha (by rw [hd]; omega)
theorem distr {a b c : Dec} (ha : Valid a) (hb : Valid b) (hc : Valid c) (h : (addS a b).e = 0) (hj : (mulS (addS a b).d c).e = 0) (hk : (mulS a c).e = 0) (hl : (mulS b c).e = 0) :
    addS (mulS a c).d (mulS b c).d = ⟨(mulS (addS a b).d c).d, 0⟩ := by
  obtain ⟨vx, ex⟩ := add_out (M := 130) (by omega) ha hb h
  obtain ⟨v1, e1⟩ := mul_out (M := 130) (by omega) vx hc hj
  obtain ⟨v2, e2⟩ := mul_out (M := 130) (by omega) ha hc hk
  obtain ⟨v3, e3⟩ := mul_out (M := 130) (by omega) hb hc hl
  refine add_in (M := 130) (by omega) v2 v3 v1 ?_
  refine Int.eq_of_mul_eq_mul_right (Int.ne_of_gt (p_pos 130)) ?_
  rw [e1, ex, Int.add_mul, Int.add_mul, e2, e3]
theorem addS_valid {a b : Dec} (ha : Valid a) (hb : Valid b) (h : (addS a b).e = 0) : Valid (addS a b).d := (add_out (M := 130) (by omega) ha hb h).1
theorem subS_valid {a b : Dec} (ha : Valid a) (hb : Valid b) (h : (subS a b).e = 0) : Valid (subS a b).d := (sub_out (M := 130) (by omega) ha hb h).1
theorem mulS_valid {a b : Dec} (ha : Valid a) (hb : Valid b) (h : (mulS a b).e = 0) : Valid (mulS a b).d := (mul_out (M := 130) (by omega) ha hb h).1
theorem Valid.size {a : Dec} (h : Valid a) : a.ds.size ≤ 60 := by rw [h.is.ds, numS_size]; exact h.is.len
theorem addS_e {a b : Dec} (ha : Valid a) (hb : Valid b) : (addS a b).e = 0 ∨ (addS a b).e = 7 := by rw [addS_ok ha.is hb.is]; exact ofOpt_e _
theorem subS_e {a b : Dec} (ha : Valid a) (hb : Valid b) : (subS a b).e = 0 ∨ (subS a b).e = 7 := by rw [subS_ok ha.is hb.is]; exact ofOpt_e _
theorem mulS_e {a b : Dec} (ha : Valid a) (hb : Valid b) : (mulS a b).e = 0 ∨ (mulS a b).e = 7 := by rw [mulS_ok ha.is hb.is]; exact ofOpt_e _
end Go.Proofs.YtcpociafcjabkaaGreatDoor
