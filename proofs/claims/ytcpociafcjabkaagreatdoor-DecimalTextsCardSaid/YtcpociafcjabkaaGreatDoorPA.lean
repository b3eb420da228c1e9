/- Numbers in fourteen parts of nine digits each: what is carried from part to part. -/
import Derived.Test.YtcpociafcjabkaaGreatDoorG
set_option linter.unusedSimpArgs false
set_option linter.unusedVariables false
namespace Go.Proofs.YtcpociafcjabkaaGreatDoor

/-- A part of a number. -/
def part (n p : Nat) : Nat := n / 10 ^ (9 * p) % 1000000000
theorem part_lt (n p : Nat) : part n p < 1000000000 := Nat.mod_lt _ (by omega)
theorem pw_pos (i : Nat) : (0 : Int) < 10 ^ (9 * i) := Int.pow_pos (by omega)
theorem pw_succ (i : Nat) : (10 : Int) ^ (9 * (i + 1)) = 10 ^ (9 * i) * 1000000000 := by
  rw [Nat.mul_add, Int.pow_add]
  rfl
theorem pwn_succ (i : Nat) : 10 ^ (9 * (i + 1)) = 10 ^ (9 * i) * 1000000000 := by
  rw [Nat.mul_add, Nat.pow_add]
theorem pwn_pos (i : Nat) : 0 < 10 ^ (9 * i) := Nat.pow_pos (by omega)

/-- What the terms come to so far; what is carried; what the parts of the result are. -/
def csum (t : Nat → Int) (c : Int) : Nat → Int
  | 0 => c
  | i + 1 => csum t c i + t i * 10 ^ (9 * i)
def car (t : Nat → Int) (c : Int) (i : Nat) : Int := csum t c i / 10 ^ (9 * i)
def rpt (t : Nat → Int) (c : Int) (i : Nat) : Int := csum t c (i + 1) / 10 ^ (9 * i) % 1000000000
theorem car_zero (t : Nat → Int) (c : Int) : car t c 0 = c := by
  unfold car csum
  simp
theorem car_both (t : Nat → Int) (c : Int) (i : Nat) : csum t c (i + 1) / 10 ^ (9 * i) = t i + car t c i := by
  unfold car
  rw [csum, Int.add_mul_ediv_right _ _ (Int.ne_of_gt (pw_pos i)), Int.add_comm]
theorem car_succ (t : Nat → Int) (c : Int) (i : Nat) : car t c (i + 1) = (t i + car t c i) / 1000000000 := by
  rw [← car_both]
  unfold car
  rw [pw_succ, Int.ediv_ediv, if_neg (fun h => absurd h.1 (Int.not_lt.2 (Int.le_of_lt (pw_pos i)))), Int.sub_zero]
theorem rpt_eq (t : Nat → Int) (c : Int) (i : Nat) : rpt t c i = (t i + car t c i) % 1000000000 := by
  unfold rpt
  rw [car_both]
theorem csum_more (t : Nat → Int) (c : Int) (i : Nat) : ∀ k, ∃ q : Int, csum t c (i + k) = csum t c i + 10 ^ (9 * i) * q
  | 0 => ⟨0, by simp⟩
  | k + 1 => by
    obtain ⟨q, h⟩ := csum_more t c i k
    refine ⟨q + t (i + k) * 10 ^ (9 * k), ?_⟩
    rw [← Nat.add_assoc, csum, h, show 9 * (i + k) = 9 * i + 9 * k by omega, Int.pow_add]
    generalize (10 : Int) ^ (9 * i) = a
    generalize (10 : Int) ^ (9 * k) = b
    grind
theorem rpt_part (t : Nat → Int) (c : Int) (R : Nat) (h : csum t c 14 = (R : Int)) (i : Nat) (hi : i < 14) : rpt t c i = (part R i : Int) := by
  obtain ⟨q, hq⟩ := csum_more t c (i + 1) (14 - (i + 1))
  rw [show i + 1 + (14 - (i + 1)) = 14 by omega, h] at hq
  have e1 : csum t c (i + 1) = (R : Int) + (-q * 1000000000) * 10 ^ (9 * i) := by
    rw [hq, pw_succ]
    generalize (10 : Int) ^ (9 * i) = a
    grind
  unfold rpt part
  rw [e1, Int.add_mul_ediv_right _ _ (Int.ne_of_gt (pw_pos i))]
  rw [Int.natCast_emod, Int.natCast_ediv, Int.natCast_pow]
  show _ = (R : Int) / 10 ^ (9 * i) % 1000000000
  generalize (R : Int) / 10 ^ (9 * i) = x
  omega

/-- The parts of a number, put together. -/
theorem csum_part (n : Nat) : ∀ i, csum (fun p => (part n p : Int)) 0 i = ((n % 10 ^ (9 * i) : Nat) : Int)
  | 0 => by simp [csum, Nat.mod_one]
  | i + 1 => by
    rw [csum, csum_part n i, pwn_succ, Nat.mod_mul]
    unfold part
    rw [Int.natCast_add, Int.natCast_mul, Int.natCast_pow, Int.mul_comm (((n / 10 ^ (9 * i) % 1000000000 : Nat)) : Int)]
    rfl
theorem csum_all (n : Nat) (h : n < 10 ^ 126) : csum (fun p => (part n p : Int)) 0 14 = (n : Int) := by
  rw [csum_part, Nat.mod_eq_of_lt h]
theorem csum_add (t u : Nat → Int) (c d : Int) : ∀ i, csum (fun p => t p + u p) (c + d) i = csum t c i + csum u d i
  | 0 => rfl
  | i + 1 => by
    rw [csum, csum_add t u c d i, csum, csum]
    generalize (10 : Int) ^ (9 * i) = a
    grind
theorem csum_sub (t u : Nat → Int) : ∀ i, csum (fun p => t p - u p) 0 i = csum t 0 i - csum u 0 i
  | 0 => rfl
  | i + 1 => by
    rw [csum, csum_sub t u i, csum, csum]
    generalize (10 : Int) ^ (9 * i) = a
    grind
theorem csum_ten (t : Nat → Int) (c : Int) : ∀ i, csum (fun p => 10 * t p) c i = 10 * csum t 0 i + c
  | 0 => by simp [csum]
  | i + 1 => by
    rw [csum, csum_ten t c i, csum]
    generalize (10 : Int) ^ (9 * i) = a
    grind
theorem sum_parts (n m : Nat) (hn : n < 10 ^ 126) (hm : m < 10 ^ 126) : csum (fun p => (part n p : Int) + (part m p : Int)) 0 14 = ((n + m : Nat) : Int) := by
  have h := csum_add (fun p => (part n p : Int)) (fun p => (part m p : Int)) 0 0 14
  rw [csum_all n hn, csum_all m hm] at h
  rw [Int.natCast_add]
  exact h
theorem diff_parts (n m : Nat) (hn : n < 10 ^ 126) (hm : m ≤ n) : csum (fun p => (part n p : Int) - (part m p : Int)) 0 14 = ((n - m : Nat) : Int) := by
  have h := csum_sub (fun p => (part n p : Int)) (fun p => (part m p : Int)) 14
  rw [csum_all n hn, csum_all m (Nat.lt_of_le_of_lt hm hn)] at h
  rw [h]
  omega
theorem ten_parts (n d : Nat) (hn : n < 10 ^ 126) : csum (fun p => 10 * (part n p : Int)) (d : Int) 14 = ((10 * n + d : Nat) : Int) := by
  rw [csum_ten, csum_all n hn]
  omega

/-- One part of a product. -/
def cv (f g : Nat → Int) (i : Nat) : Nat → Int
  | 0 => 0
  | k + 1 => cv f g i k + f k * g (i - k)
theorem cv_pow (f g : Nat → Int) (N : Nat) : ∀ k, k ≤ N → csum (fun p => f p * csum g 0 (N + 1 - p)) 0 k = csum (fun p => f p * csum g 0 (N - p)) 0 k + cv f g N k * 10 ^ (9 * N)
  | 0, _ => by simp [csum, cv]
  | k + 1, h => by
    rw [csum, cv_pow f g N k (by omega), csum, cv]
    show _ + f k * csum g 0 (N + 1 - k) * _ = _
    rw [show N + 1 - k = (N - k) + 1 by omega, csum, show 9 * N = 9 * (N - k) + 9 * k by omega, Int.pow_add]
    generalize (10 : Int) ^ (9 * k) = a
    generalize (10 : Int) ^ (9 * (N - k)) = b
    grind
theorem cv_all (f g : Nat → Int) : ∀ N, csum (fun i => cv f g i (i + 1)) 0 N = csum (fun p => f p * csum g 0 (N - p)) 0 N
  | 0 => rfl
  | N + 1 => by
    rw [csum, cv_all f g N, csum, cv_pow f g N N (Nat.le_refl _)]
    show csum (fun p => f p * csum g 0 (N - p)) 0 N + cv f g N (N + 1) * _ = csum (fun p => f p * csum g 0 (N - p)) 0 N + cv f g N N * _ + f N * csum g 0 (N + 1 - N) * _
    rw [show N + 1 - N = 0 + 1 by omega, csum, csum, cv, Nat.sub_self]
    generalize (10 : Int) ^ (9 * N) = a
    simp only [Nat.mul_zero, Int.pow_zero]
    grind
theorem csum_zeros (t : Nat → Int) (k : Nat) (h : ∀ i, k ≤ i → t i = 0) : ∀ j, csum t 0 (k + j) = csum t 0 k
  | 0 => rfl
  | j + 1 => by
    rw [← Nat.add_assoc, csum, csum_zeros t k h j, h (k + j) (by omega)]
    simp
theorem csum_congr (t u : Nat → Int) (c : Int) : ∀ k, (∀ i, i < k → t i = u i) → csum t c k = csum u c k
  | 0, _ => rfl
  | k + 1, h => by rw [csum, csum, csum_congr t u c k (fun i hi => h i (by omega)), h k (by omega)]
theorem csum_scale (t : Nat → Int) (m : Int) : ∀ k, csum (fun p => t p * m) 0 k = csum t 0 k * m
  | 0 => by simp [csum]
  | k + 1 => by
    rw [csum, csum_scale t m k, csum]
    generalize (10 : Int) ^ (9 * k) = a
    grind
theorem part_zero (n p : Nat) (h : n < 10 ^ (9 * p)) : part n p = 0 := by
  unfold part
  rw [Nat.div_eq_of_lt h]
theorem part_far (n : Nat) (h : n < 10 ^ 63) (p : Nat) (hp : 7 ≤ p) : part n p = 0 :=
  part_zero n p (Nat.lt_of_lt_of_le h (Nat.pow_le_pow_right (by omega) (by omega)))
theorem mul_parts (n m : Nat) (hn : n < 10 ^ 63) (hm : m < 10 ^ 63) : csum (fun i => cv (fun p => (part n p : Int)) (fun p => (part m p : Int)) i (i + 1)) 0 14 = ((n * m : Nat) : Int) := by
  rw [cv_all]
  have hm2 : ∀ k, 7 ≤ k → csum (fun p => (part m p : Int)) 0 k = (m : Int) := fun k hk => by
    obtain ⟨j, rfl⟩ : ∃ j, k = 7 + j := ⟨k - 7, by omega⟩
    rw [csum_zeros _ 7 (fun i hi => by rw [part_far m hm i hi]; rfl), csum_part, Nat.mod_eq_of_lt hm]
  have hn2 : csum (fun p => (part n p : Int)) 0 7 = (n : Int) := by rw [csum_part, Nat.mod_eq_of_lt hn]
  rw [show 14 = 7 + 7 from rfl, csum_zeros _ 7 (fun i hi => by rw [part_far n hn i hi]; simp)]
  rw [csum_congr _ (fun p => (part n p : Int) * (m : Int)) 0 7 (fun i hi => by rw [hm2 _ (by omega)]), csum_scale, hn2, Int.natCast_mul]
theorem cv_bound (n m i : Nat) (hn : n < 10 ^ 63) : ∀ k, 0 ≤ cv (fun p => (part n p : Int)) (fun p => (part m p : Int)) i k ∧ cv (fun p => (part n p : Int)) (fun p => (part m p : Int)) i k ≤ (min k 7 : Nat) * 1000000000000000000
  | 0 => by simp [cv]
  | k + 1 => by
    have ih := cv_bound n m i hn k
    have h1 := part_lt n k
    have h2 := part_lt m (i - k)
    rw [cv]
    generalize cv (fun p => (part n p : Int)) (fun p => (part m p : Int)) i k = x at ih
    by_cases h7 : 7 ≤ k
    · show 0 ≤ x + (part n k : Int) * _ ∧ x + (part n k : Int) * _ ≤ _
      rw [part_far n hn k h7, show min (k + 1) 7 = 7 by omega]
      rw [show min k 7 = 7 by omega] at ih
      simp only [Int.natCast_zero, Int.zero_mul, Int.add_zero]
      exact ih
    · show 0 ≤ x + (part n k : Int) * (part m (i - k) : Int) ∧ x + (part n k : Int) * (part m (i - k) : Int) ≤ _
      have h3 : part n k * part m (i - k) ≤ 1000000000 * 1000000000 := Nat.mul_le_mul (by omega) (by omega)
      rw [← Int.natCast_mul]
      generalize part n k * part m (i - k) = y at h3
      rw [show min (k + 1) 7 = k + 1 by omega]
      rw [show min k 7 = k by omega] at ih
      omega
theorem car_bound (t : Nat → Int) (c : Int) (M : Int) (h0 : ∀ i, 0 ≤ t i) (h1 : ∀ i, t i ≤ 7000000000000000000) (c0 : 0 ≤ c) (c1 : c ≤ 10000000000) : ∀ i, 0 ≤ car t c i ∧ car t c i ≤ 10000000000
  | 0 => by rw [car_zero]; exact ⟨c0, c1⟩
  | i + 1 => by
    have ih := car_bound t c M h0 h1 c0 c1 i
    have := h0 i
    have := h1 i
    rw [car_succ]
    omega
theorem car_small (t : Nat → Int) (c : Int) (h0 : ∀ i, -1000000000 ≤ t i) (h1 : ∀ i, t i ≤ 10000000000) (c0 : -10 ≤ c) (c1 : c ≤ 10) : ∀ i, -10 ≤ car t c i ∧ car t c i ≤ 20
  | 0 => by rw [car_zero]; omega
  | i + 1 => by
    have ih := car_small t c h0 h1 c0 c1 i
    have := h0 i
    have := h1 i
    rw [car_succ]
    omega

/-- Numbers are told apart by their parts, from above. -/
theorem parts_eq (n m : Nat) (hn : n < 10 ^ 126) (hm : m < 10 ^ 126) : ∀ k i, i + k = 14 → (∀ j, i ≤ j → j < 14 → part n j = part m j) → n / 10 ^ (9 * i) = m / 10 ^ (9 * i)
  | 0, i, hi, _ => by
    obtain rfl : i = 14 := by omega
    rw [Nat.div_eq_of_lt hn, Nat.div_eq_of_lt hm]
  | k + 1, i, hi, h => by
    have ih := parts_eq n m hn hm k (i + 1) (by omega) (fun j h1 h2 => h j (by omega) h2)
    have h2 := h i (Nat.le_refl _) (by omega)
    unfold part at h2
    rw [pwn_succ, ← Nat.div_div_eq_div_mul, ← Nat.div_div_eq_div_mul] at ih
    omega
theorem parts_lt (n m : Nat) (hn : n < 10 ^ 126) (hm : m < 10 ^ 126) (i : Nat) (hi : i < 14) (h : ∀ j, i < j → j < 14 → part n j = part m j) (hl : part n i < part m i) : n < m := by
  have ih := parts_eq n m hn hm (13 - i) (i + 1) (by omega) (fun j h1 h2 => h j (by omega) h2)
  rw [pwn_succ, ← Nat.div_div_eq_div_mul, ← Nat.div_div_eq_div_mul] at ih
  unfold part at hl
  have : n / 10 ^ (9 * i) < m / 10 ^ (9 * i) := by omega
  exact Nat.lt_of_not_le fun hle => absurd (Nat.div_le_div_right (c := 10 ^ (9 * i)) hle) (by omega)
/-- How two numbers are ordered. -/
def cmpN (n m : Nat) : Int := if n < m then -1 else if n = m then 0 else 1
theorem parts_same (n m : Nat) (hn : n < 10 ^ 126) (hm : m < 10 ^ 126) (h : ∀ j, j < 14 → part n j = part m j) : n = m := by
  have := parts_eq n m hn hm 14 0 rfl (fun j _ => h j)
  simpa using this

/-- The digits of the first ones. -/
theorem part_top (n i : Nat) : n / 10 ^ (9 * i) = n / 10 ^ (9 * (i + 1)) * 1000000000 + part n i := by
  unfold part
  rw [pwn_succ, ← Nat.div_div_eq_div_mul]
  omega
/-- What has been read of a part when m digits are left. -/
def pread (V p m : Nat) : Nat := part V p / 10 ^ (m - 9 * p)
theorem pread_done (V p : Nat) : pread V p 0 = part V p := by simp [pread]
theorem pread_none (V p m : Nat) (h : 9 * p + 9 ≤ m) : pread V p m = 0 := by
  unfold pread
  refine Nat.div_eq_of_lt (Nat.lt_of_lt_of_le (part_lt V p) ?_)
  show 10 ^ 9 ≤ _
  exact Nat.pow_le_pow_right (by omega) (by omega)
theorem pread_other (V p m : Nat) (h : p ≠ m / 9) : pread V p (m + 1) = pread V p m := by
  by_cases h2 : m + 1 ≤ 9 * p
  · unfold pread
    rw [show m + 1 - 9 * p = 0 by omega, show m - 9 * p = 0 by omega]
  · rw [pread_none V p (m + 1) (by omega), pread_none V p m (by omega)]
theorem mod_dig (a k : Nat) (hk : k < 9) : a % 1000000000 / 10 ^ k % 10 = a / 10 ^ k % 10 := by
  have e : 1000000000 = 10 ^ k * 10 ^ (9 - k) := by
    rw [← Nat.pow_add, show k + (9 - k) = 9 by omega]
  rw [e, Nat.mod_mul_right_div_self, Nat.mod_mod_of_dvd]
  obtain ⟨j, hj⟩ : ∃ j, 9 - k = j + 1 := ⟨9 - k - 1, by omega⟩
  rw [hj, Nat.pow_succ]
  exact Nat.dvd_mul_left _ _
theorem pread_this (V m : Nat) : pread V (m / 9) m = pread V (m / 9) (m + 1) * 10 + V / 10 ^ m % 10 := by
  obtain ⟨k, hk⟩ : ∃ k, m - 9 * (m / 9) = k := ⟨_, rfl⟩
  have hk9 : k < 9 := by omega
  have hm : m = 9 * (m / 9) + k := by omega
  have h1 : V / 10 ^ m % 10 = part V (m / 9) / 10 ^ k % 10 := by
    unfold part
    rw [mod_dig _ k hk9]
    conv => lhs; rw [hm, Nat.pow_add, ← Nat.div_div_eq_div_mul]
  unfold pread
  rw [h1, hk, show m + 1 - 9 * (m / 9) = k + 1 by omega, Nat.pow_succ, ← Nat.div_div_eq_div_mul]
  omega
theorem val_dig {A T : List UInt8} {c : UInt8} (hT : AllD T) (hc : 48 ≤ c.toNat ∧ c.toNat ≤ 57) : val (A ++ c :: T) / 10 ^ T.length % 10 = dg c := by
  have h1 := val_lt hT
  have h2 := dg_eq c hc.1
  rw [show A ++ c :: T = (A ++ [c]) ++ T by simp, val_append, val_snoc, Nat.mul_comm, Nat.mul_add_div (Nat.pow_pos (by omega)), Nat.div_eq_of_lt h1]
  omega
end Go.Proofs.YtcpociafcjabkaaGreatDoor
