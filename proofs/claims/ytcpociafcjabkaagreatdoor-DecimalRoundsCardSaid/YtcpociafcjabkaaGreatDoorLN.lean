/- How far quotients and rounded numbers are from what they stand for. -/
import Derived.Test.YtcpociafcjabkaaGreatDoorLK
set_option linter.unusedSimpArgs false
set_option linter.unusedVariables false
namespace Go.Proofs.YtcpociafcjabkaaGreatDoor
open Go.RowKit

def plainD (a : Dec) : Dec := ⟨false, a.ds, a.sc⟩
theorem IsDec.plain {a : Dec} {n s : Nat} (h : IsDec a n s) : IsDec (plainD a) n s := ⟨h.ds, h.sc, h.len, h.le, fun e => ⟨rfl, (h.zero e).2⟩, h.last⟩
theorem Valid.plain {a : Dec} (h : Valid a) : Valid (plainD a) := ⟨_, _, h.is.plain⟩
theorem vM_abs (M : Nat) (a : Dec) : (vM M a).natAbs = num a * 10 ^ (M - scl a) := by
  unfold vM
  rw [Int.natAbs_mul, sv_natAbs, Int.natAbs_natCast]
theorem vM_plain (M : Nat) (a : Dec) : vM M (plainD a) = ((vM M a).natAbs : Int) := by
  rw [vM_abs, Int.natCast_mul]
  rfl
theorem unit_is (k : Nat) (hk : k ≤ 10) : IsDec (⟨false, ⟨#[49]⟩, (k : Int)⟩ : Dec) 1 k :=
  ⟨bytes_ext (by rw [numS_list, digs_small (by omega)]; rfl), rfl, by rw [digs_small (by omega)]; simp, by omega, fun h => absurd h (by omega), fun _ => by omega⟩

/-- Results that are in range. -/
theorem small_some {M K : Nat} {z : Int} (hK : K ≤ 20) (hM : 130 ≤ M) (h : (z * ((10 ^ (M - K) : Nat) : Int)).natAbs < 10 ^ (M + 40)) : (ofOpt (ofInt z K)).e = 0 := by
  have h1 : z.natAbs < 10 ^ 60 := by
    rw [Int.natAbs_mul, Int.natAbs_natCast] at h
    refine Nat.lt_of_mul_lt_mul_right (a := 10 ^ (M - K)) (Nat.lt_of_lt_of_le h ?_)
    rw [← Nat.pow_add]
    exact Nat.pow_le_pow_right (by omega) (by omega)
  obtain ⟨d, hd⟩ := ofInt_some h1 (show K ≤ 60 by omega)
  rw [hd]
  rfl
section
variable {M : Nat} (hM : 130 ≤ M)
include hM
theorem add_range {a b : Dec} (ha : Valid a) (hb : Valid b) (sa : scl a ≤ 20) (sb : scl b ≤ 20) (h : (vM M a + vM M b).natAbs < 10 ^ (M + 40)) : (addS a b).e = 0 ∧ scl (addS a b).d ≤ 20 := by
  obtain ⟨z, K, e, hK, hz, _, hKm⟩ := add_form hM ha hb
  rw [e]
  rw [← hz] at h
  have h1 := small_some (by omega) hM h
  exact ⟨h1, Nat.le_trans (ofOpt_out (M := M) h1 (by omega)).2.2 (by omega)⟩
theorem sub_range {a b : Dec} (ha : Valid a) (hb : Valid b) (sa : scl a ≤ 20) (sb : scl b ≤ 20) (h : (vM M a - vM M b).natAbs < 10 ^ (M + 40)) : (subS a b).e = 0 ∧ scl (subS a b).d ≤ 20 := by
  obtain ⟨z, K, e, hK, hz, _, hKm⟩ := sub_form hM ha hb
  rw [e]
  rw [← hz] at h
  have h1 := small_some (by omega) hM h
  exact ⟨h1, Nat.le_trans (ofOpt_out (M := M) h1 (by omega)).2.2 (by omega)⟩
theorem mul_range {a b : Dec} (ha : Valid a) (hb : Valid b) (sab : scl a + scl b ≤ 20) (h : (vM M a * vM M b).natAbs < 10 ^ (M + 40) * 10 ^ M) : (mulS a b).e = 0 ∧ scl (mulS a b).d ≤ 20 := by
  obtain ⟨z, K, e, hK, hz, _, hKm⟩ := mul_form hM ha hb
  rw [e]
  rw [← hz, Int.natAbs_mul, Int.natAbs_natCast] at h
  have h1 := small_some (by omega) hM (Nat.lt_of_mul_lt_mul_right h)
  exact ⟨h1, Nat.le_trans (ofOpt_out (M := M) h1 (by omega)).2.2 (by omega)⟩
end
theorem div_nat {n s m t k K M : Nat} (hm : m ≠ 0) (hs : s ≤ K) (ht : t ≤ K) (hM : k + K ≤ 2 * M) :
    n * 10 ^ (K - s) * 10 ^ k / (m * 10 ^ (K - t)) * m * 10 ^ (2 * M - k - t) ≤ n * 10 ^ (2 * M - s) ∧ n * 10 ^ (2 * M - s) < n * 10 ^ (K - s) * 10 ^ k / (m * 10 ^ (K - t)) * m * 10 ^ (2 * M - k - t) + m * 10 ^ (2 * M - k - t) := by
  have hD : 0 < m * 10 ^ (K - t) := Nat.mul_pos (by omega) (Nat.pow_pos (by omega))
  have h1 := Nat.div_mul_le_self (n * 10 ^ (K - s) * 10 ^ k) (m * 10 ^ (K - t))
  have h2 := Nat.lt_mul_div_succ (n * 10 ^ (K - s) * 10 ^ k) hD
  have hN : n * 10 ^ (K - s) * 10 ^ k * 10 ^ (2 * M - k - K) = n * 10 ^ (2 * M - s) := by
    rw [Nat.mul_assoc, Nat.mul_assoc, ← Nat.pow_add, ← Nat.pow_add]
    congr 2
    omega
  have hE : m * 10 ^ (K - t) * 10 ^ (2 * M - k - K) = m * 10 ^ (2 * M - k - t) := by
    rw [Nat.mul_assoc, ← Nat.pow_add]
    congr 2
    omega
  generalize n * 10 ^ (K - s) * 10 ^ k / (m * 10 ^ (K - t)) = q at *
  have hp : 0 < 10 ^ (2 * M - k - K) := Nat.pow_pos (by omega)
  have g1 := Nat.mul_le_mul_right (10 ^ (2 * M - k - K)) h1
  have g2 := Nat.mul_lt_mul_of_pos_right h2 hp
  rw [hN] at g1 g2
  rw [Nat.mul_assoc, hE] at g1
  rw [Nat.mul_comm (m * 10 ^ (K - t)) (q + 1), Nat.mul_assoc, hE, Nat.add_mul, Nat.one_mul] at g2
  rw [Nat.mul_assoc]
  exact ⟨g1, g2⟩
theorem sg_sg (x y : Bool) (q m : Nat) : sg (x != y) q * sg y m = sg x (q * m) := by
  unfold sg
  cases x <;> cases y <;> simp [Int.neg_mul, Int.mul_neg]
theorem sg_abs (x : Bool) (n : Nat) : (sg x n).natAbs = n := by
  unfold sg
  cases x <;> simp
theorem sg_sub (x : Bool) {p q : Nat} (h : q ≤ p) : sg x p - sg x q = sg x (p - q) := by
  unfold sg
  cases x <;> simp <;> omega
theorem sg_neg (x : Bool) (n : Nat) : (if x = true then -(n : Int) else (n : Int)) = sg x n := rfl

/-- The quotient. -/
structure DivFacts (a b : Dec) (k : Nat) (q p rest small : Dec) : Prop where
  hq : divS a b (k : Int) = ⟨q, 0⟩
  hp : mulS q b = ⟨p, 0⟩
  hr : subS a p = ⟨rest, 0⟩
  hs : mulS b ⟨false, ⟨#[49]⟩, (k : Int)⟩ = ⟨small, 0⟩
  vq : Valid q
  vp : Valid p
  vr : Valid rest
  vs : Valid small
  le : ordS (plainD p) (plainD a) < 0 ∨ (true = true ∧ ordS (plainD p) (plainD a) = 0)
  lt : ordS (plainD rest) (plainD small) < 0 ∨ (false = true ∧ ordS (plainD rest) (plainD small) = 0)
  sc : q.sc ≤ (k : Int)
theorem eta (r : DRes) (h : r.e = 0) : r = ⟨r.d, 0⟩ := by
  obtain ⟨d, e⟩ := r
  simp only at h
  rw [h]
theorem div_facts {a b : Dec} {k : Nat} (ha : Valid a) (hb : Valid b) (na : num a < 10 ^ 20) (nb : num b < 10 ^ 20) (sa : scl a ≤ 10) (sb : scl b ≤ 10) (hk : k ≤ 10) (hm : num b ≠ 0) :
    DivFacts a b k (divS a b (k : Int)).d (mulS (divS a b (k : Int)).d b).d (subS a (mulS (divS a b (k : Int)).d b).d).d (mulS b ⟨false, ⟨#[49]⟩, (k : Int)⟩).d := by
  have hM : 130 ≤ 130 := Nat.le_refl _
  obtain ⟨M, hMM⟩ : ∃ M, M = 130 := ⟨130, rfl⟩
  rw [← hMM] at hM
  have hM1 : 130 ≤ M := by omega
  clear hM
  obtain ⟨K, hKe⟩ : ∃ K, max (scl a) (scl b) = K := ⟨_, rfl⟩
  have hKs : scl a ≤ K := by omega
  have hKt : scl b ≤ K := by omega
  have hK10 : K ≤ 10 := by omega
  obtain ⟨d1, d2⟩ := div_nat (n := num a) (s := scl a) (m := num b) (t := scl b) (k := k) (K := K) (M := M) hm hKs hKt (by omega)
  have hdiv : divS a b (k : Int) = ofOpt (ofInt (sg (a.neg != b.neg) (num a * 10 ^ (K - scl a) * 10 ^ k / (num b * 10 ^ (K - scl b)))) k) := by
    rw [divS_ok ha.is hb.is hm (by omega)]
    unfold divSpec
    rw [hKe, mkDec_sign]
    rfl
  have hQ : num a * 10 ^ (K - scl a) * 10 ^ k / (num b * 10 ^ (K - scl b)) < 10 ^ 60 := by
    refine Nat.lt_of_le_of_lt (Nat.div_le_self _ _) ?_
    rw [Nat.mul_assoc, ← Nat.pow_add]
    have h1 : num a * 10 ^ (K - scl a + k) ≤ num a * 10 ^ 20 := Nat.mul_le_mul_left _ (Nat.pow_le_pow_right (by omega) (by omega))
    have h2 : num a * 10 ^ 20 < 10 ^ 20 * 10 ^ 20 := Nat.mul_lt_mul_of_pos_right na (Nat.pow_pos (by omega))
    rw [← Nat.pow_add] at h2
    have h3 : (10 : Nat) ^ (20 + 20) ≤ 10 ^ 60 := Nat.pow_le_pow_right (by omega) (by omega)
    omega
  generalize num a * 10 ^ (K - scl a) * 10 ^ k / (num b * 10 ^ (K - scl b)) = Q at *
  have e0 : (divS a b (k : Int)).e = 0 := by
    obtain ⟨d, hd⟩ := ofInt_some (v := sg (a.neg != b.neg) Q) (K := k) (by rw [sg_abs]; exact hQ) (by omega)
    rw [hdiv, hd]
    rfl
  have o := ofOpt_out (M := M) (v := sg (a.neg != b.neg) Q) (K := k) (by rw [← hdiv]; exact e0) (by omega)
  rw [← hdiv] at o
  obtain ⟨vq, eq, sq⟩ := o
  generalize hq : (divS a b (k : Int)).d = q at *
  have ea : vM M a * ((10 ^ M : Nat) : Int) = sg a.neg (num a * 10 ^ (2 * M - scl a)) := by
    unfold vM
    rw [Int.mul_assoc, ← Int.natCast_mul, ← Nat.pow_add, sg_mul, sv_sg]
    congr 4
    omega
  have hpow : ((10 ^ (M - k) : Nat) : Int) * ((10 ^ (M - scl b) : Nat) : Int) = ((10 ^ (2 * M - k - scl b) : Nat) : Int) := by
    rw [← Int.natCast_mul, ← Nat.pow_add]
    congr 2
    omega
  have eqb : vM M q * vM M b = sg a.neg (Q * num b * 10 ^ (2 * M - k - scl b)) := by
    rw [eq, sg_mul, ← sg_sg a.neg b.neg, ← hpow]
    unfold vM
    rw [sv_sg]
    generalize ((10 ^ (M - k) : Nat) : Int) = x
    generalize ((10 ^ (M - scl b) : Nat) : Int) = y
    generalize sg (a.neg != b.neg) Q = u
    generalize sg b.neg (num b) = v
    grind
  have hA : (vM M a).natAbs < 10 ^ (M + 20) := by
    rw [vM_abs]
    have h1 : num a * 10 ^ (M - scl a) ≤ num a * 10 ^ M := Nat.mul_le_mul_left _ (Nat.pow_le_pow_right (by omega) (by omega))
    have h2 : num a * 10 ^ M < 10 ^ 20 * 10 ^ M := Nat.mul_lt_mul_of_pos_right na (Nat.pow_pos (by omega))
    rw [← Nat.pow_add] at h2
    rw [show M + 20 = 20 + M by omega]
    omega
  have hB : (vM M b).natAbs < 10 ^ (M + 20) := by
    rw [vM_abs]
    have h1 : num b * 10 ^ (M - scl b) ≤ num b * 10 ^ M := Nat.mul_le_mul_left _ (Nat.pow_le_pow_right (by omega) (by omega))
    have h2 : num b * 10 ^ M < 10 ^ 20 * 10 ^ M := Nat.mul_lt_mul_of_pos_right nb (Nat.pow_pos (by omega))
    rw [← Nat.pow_add] at h2
    rw [show M + 20 = 20 + M by omega]
    omega
  have hT : 0 < 10 ^ M := Nat.pow_pos (by omega)
  have h2040 : 10 ^ (M + 20) + 10 ^ (M + 20) ≤ 10 ^ (M + 40) := by
    have h1 : 10 ^ (M + 40) = 10 ^ (M + 20) * 10 ^ 20 := by rw [← Nat.pow_add]
    rw [h1]
    have h2 : 10 ^ (M + 20) * 2 ≤ 10 ^ (M + 20) * 10 ^ 20 := Nat.mul_le_mul_left _ (by decide)
    omega
  have eaN : (vM M a).natAbs * 10 ^ M = num a * 10 ^ (2 * M - scl a) := by
    have := congrArg Int.natAbs ea
    rw [Int.natAbs_mul, Int.natAbs_natCast, sg_abs] at this
    exact this
  have hPr : (vM M q * vM M b).natAbs < 10 ^ (M + 40) * 10 ^ M := by
    rw [eqb, sg_abs]
    refine Nat.lt_of_le_of_lt d1 ?_
    rw [← eaN]
    exact Nat.mul_lt_mul_of_pos_right (by omega) hT
  obtain ⟨ep0, sp⟩ := mul_range hM1 vq hb (by omega) hPr
  obtain ⟨vp, ep⟩ := mul_out hM1 vq hb ep0
  generalize hp : (mulS q b).d = p at *
  have epN : (vM M p).natAbs * 10 ^ M = Q * num b * 10 ^ (2 * M - k - scl b) := by
    have := congrArg Int.natAbs (ep.trans eqb)
    rw [Int.natAbs_mul, Int.natAbs_natCast, sg_abs] at this
    exact this
  have hPA : (vM M p).natAbs ≤ (vM M a).natAbs := Nat.le_of_mul_le_mul_right (by rw [epN, eaN]; exact d1) hT
  obtain ⟨er0, sr⟩ := sub_range hM1 ha vp (by omega) sp (by omega)
  obtain ⟨vr, er⟩ := sub_out hM1 ha vp er0
  generalize hr : (subS a p).d = rest at *
  have erN : (vM M rest).natAbs * 10 ^ M = num a * 10 ^ (2 * M - scl a) - Q * num b * 10 ^ (2 * M - k - scl b) := by
    have h1 : vM M rest * ((10 ^ M : Nat) : Int) = sg a.neg (num a * 10 ^ (2 * M - scl a) - Q * num b * 10 ^ (2 * M - k - scl b)) := by
      rw [er, Int.sub_mul, ea, ep, eqb, sg_sub _ d1]
    have := congrArg Int.natAbs h1
    rw [Int.natAbs_mul, Int.natAbs_natCast, sg_abs] at this
    exact this
  have iu := unit_is k hk
  have vu : Valid ⟨false, ⟨#[49]⟩, (k : Int)⟩ := ⟨_, _, iu⟩
  have eu : vM M ⟨false, ⟨#[49]⟩, (k : Int)⟩ = ((10 ^ (M - k) : Nat) : Int) := by
    unfold vM sv
    rw [iu.num_eq, iu.scl_eq]
    simp
  have hSr : (vM M b * vM M ⟨false, ⟨#[49]⟩, (k : Int)⟩).natAbs < 10 ^ (M + 40) * 10 ^ M := by
    rw [eu, Int.natAbs_mul, Int.natAbs_natCast]
    have h1 : (vM M b).natAbs * 10 ^ (M - k) ≤ (vM M b).natAbs * 10 ^ M := Nat.mul_le_mul_left _ (Nat.pow_le_pow_right (by omega) (by omega))
    have h2 : (vM M b).natAbs * 10 ^ M < 10 ^ (M + 40) * 10 ^ M := Nat.mul_lt_mul_of_pos_right (by omega) hT
    omega
  obtain ⟨es0, ss⟩ := mul_range hM1 hb vu (by rw [iu.scl_eq]; omega) hSr
  obtain ⟨vs, es⟩ := mul_out hM1 hb vu es0
  generalize hs : (mulS b ⟨false, ⟨#[49]⟩, (k : Int)⟩).d = small at *
  have esN : (vM M small).natAbs * 10 ^ M = num b * 10 ^ (2 * M - k - scl b) := by
    have := congrArg Int.natAbs es
    rw [eu, Int.natAbs_mul, Int.natAbs_natCast, Int.natAbs_mul, Int.natAbs_natCast, vM_abs M b, Nat.mul_assoc (num b), ← Nat.pow_add, show M - scl b + (M - k) = 2 * M - k - scl b by omega] at this
    exact this
  have hRS : (vM M rest).natAbs < (vM M small).natAbs := Nat.lt_of_mul_lt_mul_right (a := 10 ^ M) (by rw [erN, esN]; omega)
  refine ⟨by rw [← hq]; exact eta _ e0, by rw [← hp]; exact eta _ ep0, by rw [← hr]; exact eta _ er0, by rw [← hs]; exact eta _ es0, vq, vp, vr, vs, ?_, ?_, by rw [vq.sc]; omega⟩
  · rw [ord_V hM1 vp.plain ha.plain, vM_plain, vM_plain]
    by_cases h : ((vM M p).natAbs : Int) < ((vM M a).natAbs : Int)
    · left; rw [if_pos h]; omega
    · right; refine ⟨rfl, ?_⟩; rw [if_neg h, if_pos (by omega)]
  · rw [ord_V hM1 vr.plain vs.plain, vM_plain, vM_plain]
    left
    rw [if_pos (by omega)]
    omega
end Go.Proofs.YtcpociafcjabkaaGreatDoor

/- Rounded numbers. -/
namespace Go.Proofs.YtcpociafcjabkaaGreatDoor
open Go.RowKit

structure RoundFacts (a : Dec) (k : Nat) (r rest twice : Dec) : Prop where
  hr : roundS a (k : Int) = ⟨r, 0⟩
  hs : subS a r = ⟨rest, 0⟩
  ht : addS rest rest = ⟨twice, 0⟩
  vr : Valid r
  vs : Valid rest
  vt : Valid twice
  sc : r.sc ≤ (k : Int)
  le : ordS (plainD twice) ⟨false, ⟨#[49]⟩, (k : Int)⟩ < 0 ∨ (true = true ∧ ordS (plainD twice) ⟨false, ⟨#[49]⟩, (k : Int)⟩ = 0)
theorem round_nat {n s k U : Nat} (hU : 10 ^ (s - k) = U) : ((n : Int) - ((roundTo n s k * U : Nat) : Int)).natAbs * 2 ≤ U ∧ roundTo n s k ≤ n + 1 := by
  have hp : 0 < U := by rw [← hU]; exact Nat.pow_pos (by omega)
  have h1 := Nat.div_add_mod n U
  have h2 := Nat.mod_lt n hp
  have h3 := Nat.div_le_self n U
  unfold roundTo
  rw [hU]
  generalize n / U = q at *
  generalize n % U = r at *
  split
  · next h =>
    refine ⟨?_, by omega⟩
    rw [Nat.add_mul, Nat.one_mul, Nat.mul_comm q U]
    generalize U * q = x at *
    omega
  · next h =>
    refine ⟨?_, by omega⟩
    rw [Nat.mul_comm q U]
    generalize U * q = x at *
    omega
theorem round_near {M : Nat} (hM : 130 ≤ M) {a : Dec} {k : Nat} (ha : Valid a) (na : num a < 10 ^ 20) (sa : scl a ≤ 10) (hk : k ≤ 10) :
    (roundS a (k : Int)).e = 0 ∧ Valid (roundS a (k : Int)).d ∧ scl (roundS a (k : Int)).d ≤ k ∧ (vM M a - vM M (roundS a (k : Int)).d).natAbs * 2 ≤ 10 ^ (M - k) := by
  rw [roundS_ok ha.is (by omega)]
  by_cases hsk : scl a ≤ k
  · rw [if_pos hsk]
    refine ⟨rfl, ha, hsk, ?_⟩
    simp only [Int.sub_self, Int.natAbs_zero, Nat.zero_mul]
    exact Nat.zero_le _
  · rw [if_neg hsk]
    obtain ⟨h1, h2⟩ := round_nat (n := num a) (s := scl a) (k := k) rfl
    have e : mkDec a.neg (roundTo (num a) (scl a) k) k = ofInt (sg a.neg (roundTo (num a) (scl a) k)) k := by rw [mkDec_sign]; rfl
    rw [e]
    have e0 : (ofOpt (ofInt (sg a.neg (roundTo (num a) (scl a) k)) k)).e = 0 := by
      have h20 : (10 : Nat) ^ 20 + 1 < 10 ^ 60 := by decide
      obtain ⟨d, hd⟩ := ofInt_some (v := sg a.neg (roundTo (num a) (scl a) k)) (K := k) (by rw [sg_abs]; omega) (by omega)
      rw [hd]
      rfl
    obtain ⟨vr, er, sr⟩ := ofOpt_out (M := M) e0 (by omega)
    refine ⟨e0, vr, sr, ?_⟩
    rw [er]
    have hpow : (10 ^ (M - k) : Nat) = 10 ^ (scl a - k) * 10 ^ (M - scl a) := by rw [← Nat.pow_add]; congr 1; omega
    have hd : vM M a - sg a.neg (roundTo (num a) (scl a) k) * ((10 ^ (M - k) : Nat) : Int) = sg a.neg 1 * ((num a : Int) - ((roundTo (num a) (scl a) k * 10 ^ (scl a - k) : Nat) : Int)) * ((10 ^ (M - scl a) : Nat) : Int) := by
      unfold vM
      rw [hpow, sv_sg]
      generalize 10 ^ (scl a - k) = u
      generalize 10 ^ (M - scl a) = p
      generalize roundTo (num a) (scl a) k = q
      generalize num a = n
      unfold sg
      cases a.neg <;> simp <;> grind
    rw [hd, Int.natAbs_mul, Int.natAbs_mul, sg_abs, Nat.one_mul, Int.natAbs_natCast, hpow, Nat.mul_right_comm]
    exact Nat.mul_le_mul_right _ h1
theorem round_facts {a : Dec} {k : Nat} (ha : Valid a) (na : num a < 10 ^ 20) (sa : scl a ≤ 10) (hk : k ≤ 10) :
    RoundFacts a k (roundS a (k : Int)).d (subS a (roundS a (k : Int)).d).d (addS (subS a (roundS a (k : Int)).d).d (subS a (roundS a (k : Int)).d).d).d := by
  obtain ⟨M, hMM⟩ : ∃ M, M = 130 := ⟨130, rfl⟩
  have hM : 130 ≤ M := by omega
  clear hMM
  obtain ⟨e0, vr, sr, hd⟩ := round_near hM ha na sa hk
  generalize hr : (roundS a (k : Int)).d = r at *
  have hp : 10 ^ (M - k) < 10 ^ (M + 40) := Nat.pow_lt_pow_right (by omega) (by omega)
  obtain ⟨es, ss⟩ := sub_range hM ha vr (by omega) (by omega) (by omega)
  obtain ⟨vs, hs⟩ := sub_out hM ha vr es
  rw [← hs] at hd
  generalize hre : (subS a r).d = rest at *
  obtain ⟨et, _⟩ := add_range hM vs vs ss ss (by omega)
  obtain ⟨vt, ht⟩ := add_out hM vs vs et
  generalize htw : (addS rest rest).d = twice at *
  have iu := unit_is k hk
  have eu : vM M ⟨false, ⟨#[49]⟩, (k : Int)⟩ = ((10 ^ (M - k) : Nat) : Int) := by
    unfold vM sv
    rw [iu.num_eq, iu.scl_eq]
    simp
  refine ⟨by rw [← hr]; exact eta _ e0, by rw [← hre]; exact eta _ es, by rw [← htw]; exact eta _ et, vr, vs, vt, by rw [vr.sc]; omega, ?_⟩
  rw [ord_V hM vt.plain ⟨_, _, iu⟩, vM_plain, eu, ht]
  by_cases h : (((vM M rest + vM M rest).natAbs : Nat) : Int) < ((10 ^ (M - k) : Nat) : Int)
  · left; rw [if_pos h]; omega
  · right; refine ⟨rfl, ?_⟩; rw [if_neg h, if_pos (by omega)]

set_option maxRecDepth 100000 in
set_option maxHeartbeats 2000000 in
theorem l_plain (an : Bool) (ad : ByteArray) (ak : Int) (w : World) : Calls Tryz.prog 34 #[.agg #[.bool an, .string ad, .int .i64 ak]] w fun e w' => e = .returned (.agg #[.bool false, .string ad, .int .i64 ak]) ∧ Below w.heap.size w w' := by
  go_enter Tryz.func34, Tryz.ntmps34
  go_wp2
  exact bodyPost_ret (v := .agg #[.bool false, .string ad, .int .i64 ak]) (by simp [results, Tryz.results34, go_sem]) rfl ⟨rfl, stepA (stepA (Below.refl _ _) _) _⟩
set_option maxRecDepth 100000 in
set_option maxHeartbeats 2000000 in
theorem l_below {P : World → Prop} (ok : ProgOk P) (a b : Dec) (also : Bool) (ha : Valid a) (hb : Valid b) (h : ordS a b < 0 ∨ (also = true ∧ ordS a b = 0)) (w : World) (hP : P w) : Calls Tryz.prog 33 #[a.v, b.v, .bool also] w fun e w' => e = .returned (.bool true) ∧ Below w.heap.size w w' := by
  have za := ha.size
  have zb := hb.size
  have c := fun W => ok.cmp a b W (by omega) (by omega)
  rw [cmpS_ok ha hb] at c
  simp only at c
  generalize ordS a b = o at c h
  have HP1 := Lib.hid (ok.below hP (stepA (stepA (Below.refl w.heap.size w) (.cells #[.bool a.neg, .string a.ds, .int .i64 a.sc] 23)) (.cells #[.bool b.neg, .string b.ds, .int .i64 b.sc] 23)))
  unfold Dec.v at c ⊢
  clear ha hb za zb hP
  obtain ⟨an, ad, ak⟩ := a
  obtain ⟨bn, bd, bk⟩ := b
  simp only at c HP1 ⊢
  go_enter Tryz.func33, Tryz.ntmps33
  go_wp2_with fail
  refine (c _ HP1.out).mono ?_
  rintro e w1 ⟨rfl, b1⟩
  have HB := Lib.hid (step (stepA (stepA (Below.refl w.heap.size w) (.cells #[.bool an, .string ad, .int .i64 ak] 23)) (.cells #[.bool bn, .string bd, .int .i64 bk] 23)) b1)
  clear b1 c
  rcases h with h | ⟨rfl, rfl⟩
  · go_wp2
    go_ret
    exact ⟨rfl, HB.out⟩
  · go_wp2
    go_ret
    exact ⟨rfl, HB.out⟩
end Go.Proofs.YtcpociafcjabkaaGreatDoor
