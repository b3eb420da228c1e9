/- LA LB PA PB PC -/
import Derived.Deep.MidRow
import Derived.Deep.WholeRow
import Derived.Laws.Rows
import Derived.Laws.Tables
import Derived.Test.YtmdnijehoagamaaGreatDoorK04
set_option linter.unusedVariables false
set_option linter.unusedSimpArgs false
namespace Go.Proofs.YtmdnijehoagamaaGreatDoor
open Go.RowKit
structure DRes where
 d : Dec
 e : Int
def DRes.v (r : DRes) : Value := .tuple #[r.d.v, .int .i64 r.e]
def ofOpt (r : Option Dec) : DRes := ⟨r.getD decNil, if r.isSome then 0 else 7⟩
theorem ofOpt_v (r : Option Dec) : decR r = (ofOpt r).v := rfl
def argRes : DRes := ⟨decNil, 2⟩
def num (a : Dec) : Nat := val a.ds.data.toList
def scl (a : Dec) : Nat := a.sc.toNat
theorem IsDec.num_eq {a : Dec} {n s : Nat} (h : IsDec a n s) : Go.Proofs.YtmdnijehoagamaaGreatDoor.num a = n := by
 unfold Go.Proofs.YtmdnijehoagamaaGreatDoor.num
 rw [h.ds, numS_list, digs_val]
theorem IsDec.scl_eq {a : Dec} {n s : Nat} (h : IsDec a n s) : scl a = s := by
 unfold scl
 rw [h.sc]
 rfl
theorem Valid.is {a : Dec} (h : Valid a) : IsDec a (num a) (scl a) := by
 obtain ⟨n, s, h⟩ := h
 rw [h.num_eq, h.scl_eq]
 exact h
theorem Valid.sc {a : Dec} (h : Valid a) : a.sc = (scl a : Int) := h.is.sc
open Classical in
noncomputable def addS (a b : Dec) : DRes := if Valid a ∧ Valid b then ofOpt (sumSpec a.neg (num a) (scl a) b.neg (num b) (scl b)) else argRes
open Classical in
noncomputable def subS (a b : Dec) : DRes := if Valid a ∧ Valid b then ofOpt (sumSpec a.neg (num a) (scl a) (!b.neg && decide (num b ≠ 0)) (num b) (scl b)) else argRes
open Classical in
noncomputable def divS (a b : Dec) (k : Int) : DRes := if (Valid a ∧ Valid b) ∧ num b ≠ 0 ∧ 0 ≤ k ∧ k ≤ 60 then ofOpt (divSpec a.neg (num a) (scl a) b.neg (num b) (scl b) k.toNat) else argRes
def ordS (a b : Dec) : Int := if a.neg = b.neg ∧ a.ds = b.ds ∧ a.sc = b.sc then 0 else cmpSpec a.neg (num a * 10 ^ (max (scl a) (scl b) - scl a)) b.neg (num b * 10 ^ (max (scl a) (scl b) - scl b))
open Classical in
noncomputable def cmpS (a b : Dec) : Int × Int := if Valid a ∧ Valid b then (ordS a b, 0) else (0, 2)
open Classical in
noncomputable def textS (a : Dec) : ByteArray × Int := if Valid a then (textOf a, 0) else (⟨#[]⟩, 2)
def finS (neg : Bool) (a : ByteArray) (sc : Nat) : DRes := if digB a.data.toList then ofOpt (mkDec neg (val a.data.toList) sc) else ⟨decNil, 6⟩
def bodyS (neg : Bool) (t : ByteArray) : DRes := if ptAt t < t.size then finS neg (t.extract 0 (ptAt t) ++ t.extract (ptAt t + 1) t.size) (t.size - ptAt t - 1) else finS neg t 0
def readS (s : ByteArray) : DRes :=
 if h : 0 < s.size then
  if s[0].toNat = 45 then bodyS true (s.extract 1 s.size) else if s[0].toNat = 43 then bodyS false (s.extract 1 s.size) else bodyS false s
 else bodyS false s
theorem finV_eq (neg : Bool) (a : ByteArray) (sc : Nat) : finV neg a sc = (finS neg a sc).v := by
 unfold finV finS
 split <;> rfl
theorem readV_eq (neg : Bool) (t : ByteArray) : readV neg t = (bodyS neg t).v := by
 unfold readV bodyS
 split <;> exact finV_eq _ _ _
theorem readSpec_eq (s : ByteArray) : readSpec s = (readS s).v := by
 unfold readSpec readS
 split
 ·split
  ·exact readV_eq _ _
  ·split <;> exact readV_eq _ _
 ·exact readV_eq _ _
theorem r_check (a : Dec) (za : a.ds.size ≤ maxLen) (w : World) : Calls Tryz.prog 47 #[a.v] w fun e w' => e = .returned (.int .i64 (chkR a)) ∧ Below w.heap.size w w' :=
 check_any a.neg a.ds a.sc za w
theorem r_of (n : Int) (h0 : -9223372036854775808 ≤ n) (h1 : n ≤ 9223372036854775807) (w : World) : Calls Tryz.prog 88 #[.int .i64 n] w fun e w' => e = .returned (ofSpec n).v ∧ Below w.heap.size w w' := of_any n h0 h1 w
theorem r_read (s : ByteArray) (hs : s.size ≤ 400) (w : World) : Calls Tryz.prog 27 #[.string s] w fun e w' => e = .returned (readS s).v ∧ Below w.heap.size w w' := by
 rw [← readSpec_eq]
 exact read_any s (by omega) w
theorem is_zero {a : Dec} (h : Valid a) : (a.ds.toList == [48]) = decide (num a = 0) := by
 have h1 := h.is.ds
 rw [h1, numS_toList, ← digs_zero]
 have h2 := numS_inj (m := num a) (n := 0)
 rw [numS_toList, numS_toList] at h2
 exact h2
theorem r_cmp (a b : Dec) (za : a.ds.size ≤ 400) (zb : b.ds.size ≤ 400) (w : World) : Calls Tryz.prog 87 #[a.v, b.v] w fun e w' => e = .returned (.tuple #[.int .i64 (cmpS a b).1, .int .i64 (cmpS a b).2]) ∧ Below w.heap.size w w' := by
 unfold cmpS
 split
 ·next h =>
  unfold ordS
  obtain ⟨n1, d1, s1⟩ := a
  obtain ⟨n2, d2, s2⟩ := b
  have h1 := h.1.is
  have h2 := h.2.is
  have k1 := h.1.sc
  have k2 := h.2.sc
  simp only at k1 k2 h1 h2 ⊢
  generalize scl ⟨n1, d1, s1⟩ = s at h1 k1 ⊢
  generalize scl ⟨n2, d2, s2⟩ = t at h2 k2 ⊢
  generalize num ⟨n1, d1, s1⟩ = n at h1 ⊢
  generalize num ⟨n2, d2, s2⟩ = m at h2 ⊢
  clear h za zb
  subst k1 k2
  by_cases hn : n1 = n2
  ·subst hn
   by_cases hd : d1 = d2
   ·subst hd
    by_cases hs : (s : Int) = (t : Int)
    ·rw [if_pos ⟨rfl, rfl, hs⟩]
     have : s = t := by omega
     subst this
     exact cmp_eq n1 d1 s n h1 w
    ·rw [if_neg (fun h => hs h.2.2)]
     cases n1 with
     | true => exact cmp_scale_t d1 s t n m h1 h2 hs w
     | false => exact cmp_scale_f d1 s t n m h1 h2 hs w
   ·have hl : ¬ d1.toList = d2.toList := fun e => hd (bytes_ext (by rw [← Lib.toList_data, ← Lib.toList_data]; exact e))
    rw [if_neg (fun h => hd h.2.1)]
    cases n1 with
    | true => exact cmp_text_t d1 d2 s t n m h1 h2 hl w
    | false => exact cmp_text_f d1 d2 s t n m h1 h2 hl w
  ·rw [if_neg (fun h => hn h.1)]
   cases n1 with
   | true =>
    cases n2 with
    | true => exact absurd rfl hn
    | false => exact cmp_tf d1 d2 s t n m h1 h2 w
   | false =>
    cases n2 with
    | true => exact cmp_ft d1 d2 s t n m h1 h2 w
    | false => exact absurd rfl hn
 ·next h =>
  by_cases h1 : Valid a
  ·exact cmp_bad2 a.neg b.neg a.ds b.ds a.sc b.sc (by unfold maxLen; omega) (by unfold maxLen; omega) h1 (fun h2 => h ⟨h1, h2⟩) w
  ·exact cmp_bad1 a.neg b.neg a.ds b.ds a.sc b.sc (by unfold maxLen; omega) h1 w
structure ProgOk (P : World → Prop) : Prop where
 below : ∀ {w w' : World}, P w → Below w.heap.size w w' → P w'
 check : ∀ (a : Dec) (w : World), a.ds.size ≤ maxLen → P w → Calls Tryz.prog 59 #[a.v] w fun e w' => e = .returned (.int .i64 (chkR a)) ∧ Below w.heap.size w w'
 of : ∀ (n : Int) (w : World), -9223372036854775808 ≤ n → n ≤ 9223372036854775807 → P w → Calls Tryz.prog 62 #[.int .i64 n] w fun e w' => e = .returned (ofSpec n).v ∧ Below w.heap.size w w'
 read : ∀ (s : ByteArray) (w : World), s.size ≤ 400 → P w → Calls Tryz.prog 101 #[.string s] w fun e w' => e = .returned (readS s).v ∧ Below w.heap.size w w'
 text : ∀ (a : Dec) (w : World), a.ds.size ≤ 400 → P w → Calls Tryz.prog 82 #[a.v] w fun e w' => e = .returned (.tuple #[.string (textS a).1, .int .i64 (textS a).2]) ∧ Below w.heap.size w w'
 add : ∀ (a b : Dec) (w : World), a.ds.size ≤ 400 → b.ds.size ≤ 400 → P w → Calls Tryz.prog 94 #[a.v, b.v] w fun e w' => e = .returned (addS a b).v ∧ Below w.heap.size w w'
 sub : ∀ (a b : Dec) (w : World), a.ds.size ≤ 400 → b.ds.size ≤ 400 → P w → Calls Tryz.prog 104 #[a.v, b.v] w fun e w' => e = .returned (subS a b).v ∧ Below w.heap.size w w'
 div : ∀ (a b : Dec) (k : Int) (w : World), a.ds.size ≤ 400 → b.ds.size ≤ 400 → P w → Calls Tryz.prog 105 #[a.v, b.v, .int .i64 k] w fun e w' => e = .returned (divS a b k).v ∧ Below w.heap.size w w'
 cmp : ∀ (a b : Dec) (w : World), a.ds.size ≤ 400 → b.ds.size ≤ 400 → P w → Calls Tryz.prog 99 #[a.v, b.v] w fun e w' => e = .returned (.tuple #[.int .i64 (cmpS a b).1, .int .i64 (cmpS a b).2]) ∧ Below w.heap.size w w'
end Go.Proofs.YtmdnijehoagamaaGreatDoor
namespace Go.Proofs.YtmdnijehoagamaaGreatDoor
def part (n p : Nat) : Nat := n / 10 ^ (9 * p) % 1000000000
theorem part_lt (n p : Nat) : part n p < 1000000000 := Nat.mod_lt _ (by omega)
theorem pw_pos (i : Nat) : (0 : Int) < 10 ^ (9 * i) := Int.pow_pos (by omega)
theorem pw_succ (i : Nat) : (10 : Int) ^ (9 * (i + 1)) = 10 ^ (9 * i) * 1000000000 := by
 rw [Nat.mul_add, Int.pow_add]
 rfl
theorem pwn_succ (i : Nat) : 10 ^ (9 * (i + 1)) = 10 ^ (9 * i) * 1000000000 := by
 rw [Nat.mul_add, Nat.pow_add]
def csum (t : Nat → Int) (c : Int) : Nat → Int
 | 0 => c
 | i + 1 => csum t c i + t i * 10 ^ (9 * i)
def car (t : Nat → Int) (c : Int) (i : Nat) : Int := csum t c i / 10 ^ (9 * i)
def rpt (t : Nat → Int) (c : Int) (i : Nat) : Int := csum t c (i + 1) / 10 ^ (9 * i) % 1000000000
theorem car_zero (t : Nat → Int) (c : Int) : car t c 0 = c := by
 unfold car csum
 simp
theorem car_both (t : Nat → Int) (c : Int) (i : Nat) : csum t c (i + 1) / 10 ^ (9 * i) = t i + car t c i := by
 unfold car
 rw [csum, Int.add_mul_ediv_right _ _ (Int.ne_of_gt (pw_pos i)), Int.add_comm]
theorem car_succ (t : Nat → Int) (c : Int) (i : Nat) : car t c (i + 1) = (t i + car t c i) / 1000000000 := by
 rw [← car_both]
 unfold car
 rw [pw_succ, Int.ediv_ediv, if_neg (fun h => absurd h.1 (Int.not_lt.2 (Int.le_of_lt (pw_pos i)))), Int.sub_zero]
theorem rpt_eq (t : Nat → Int) (c : Int) (i : Nat) : rpt t c i = (t i + car t c i) % 1000000000 := by
 unfold rpt
 rw [car_both]
theorem csum_more (t : Nat → Int) (c : Int) (i : Nat) : ∀ k, ∃ q : Int, csum t c (i + k) = csum t c i + 10 ^ (9 * i) * q
 | 0 => ⟨0, by simp⟩
 | k + 1 => by
  obtain ⟨q, h⟩ := csum_more t c i k
  refine ⟨q + t (i + k) * 10 ^ (9 * k), ?_⟩
  rw [← Nat.add_assoc, csum, h, show 9 * (i + k) = 9 * i + 9 * k by omega, Int.pow_add]
  generalize (10 : Int) ^ (9 * i) = a
  generalize (10 : Int) ^ (9 * k) = b
  grind
theorem rpt_part (t : Nat → Int) (c : Int) (R : Nat) (h : csum t c 14 = (R : Int)) (i : Nat) (hi : i < 14) : rpt t c i = (part R i : Int) := by
 obtain ⟨q, hq⟩ := csum_more t c (i + 1) (14 - (i + 1))
 rw [show i + 1 + (14 - (i + 1)) = 14 by omega, h] at hq
 have e1 : csum t c (i + 1) = (R : Int) + (-q * 1000000000) * 10 ^ (9 * i) := by
  rw [hq, pw_succ]
  generalize (10 : Int) ^ (9 * i) = a
  grind
 unfold rpt part
 rw [e1, Int.add_mul_ediv_right _ _ (Int.ne_of_gt (pw_pos i))]
 rw [Int.natCast_emod, Int.natCast_ediv, Int.natCast_pow]
 show _ = (R : Int) / 10 ^ (9 * i) % 1000000000
 generalize (R : Int) / 10 ^ (9 * i) = x
 omega
theorem csum_part (n : Nat) : ∀ i, csum (fun p => (part n p : Int)) 0 i = ((n % 10 ^ (9 * i) : Nat) : Int)
 | 0 => by simp [csum, Nat.mod_one]
 | i + 1 => by
  rw [csum, csum_part n i, pwn_succ, Nat.mod_mul]
  unfold part
  rw [Int.natCast_add, Int.natCast_mul, Int.natCast_pow, Int.mul_comm (((n / 10 ^ (9 * i) % 1000000000 : Nat)) : Int)]
  rfl
theorem csum_all (n : Nat) (h : n < 10 ^ 126) : csum (fun p => (part n p : Int)) 0 14 = (n : Int) := by
 rw [csum_part, Nat.mod_eq_of_lt h]
theorem csum_add (t u : Nat → Int) (c d : Int) : ∀ i, csum (fun p => t p + u p) (c + d) i = csum t c i + csum u d i
 | 0 => rfl
 | i + 1 => by
  rw [csum, csum_add t u c d i, csum, csum]
  generalize (10 : Int) ^ (9 * i) = a
  grind
theorem csum_sub (t u : Nat → Int) : ∀ i, csum (fun p => t p - u p) 0 i = csum t 0 i - csum u 0 i
 | 0 => rfl
 | i + 1 => by
  rw [csum, csum_sub t u i, csum, csum]
  generalize (10 : Int) ^ (9 * i) = a
  grind
theorem csum_ten (t : Nat → Int) (c : Int) : ∀ i, csum (fun p => 10 * t p) c i = 10 * csum t 0 i + c
 | 0 => by simp [csum]
 | i + 1 => by
  rw [csum, csum_ten t c i, csum]
  generalize (10 : Int) ^ (9 * i) = a
  grind
theorem sum_parts (n m : Nat) (hn : n < 10 ^ 126) (hm : m < 10 ^ 126) : csum (fun p => (part n p : Int) + (part m p : Int)) 0 14 = ((n + m : Nat) : Int) := by
 have h := csum_add (fun p => (part n p : Int)) (fun p => (part m p : Int)) 0 0 14
 rw [csum_all n hn, csum_all m hm] at h
 rw [Int.natCast_add]
 exact h
theorem diff_parts (n m : Nat) (hn : n < 10 ^ 126) (hm : m ≤ n) : csum (fun p => (part n p : Int) - (part m p : Int)) 0 14 = ((n - m : Nat) : Int) := by
 have h := csum_sub (fun p => (part n p : Int)) (fun p => (part m p : Int)) 14
 rw [csum_all n hn, csum_all m (Nat.lt_of_le_of_lt hm hn)] at h
 rw [h]
 omega
theorem ten_parts (n d : Nat) (hn : n < 10 ^ 126) : csum (fun p => 10 * (part n p : Int)) (d : Int) 14 = ((10 * n + d : Nat) : Int) := by
 rw [csum_ten, csum_all n hn]
 omega
def cv (f g : Nat → Int) (i : Nat) : Nat → Int
 | 0 => 0
 | k + 1 => cv f g i k + f k * g (i - k)
theorem car_small (t : Nat → Int) (c : Int) (h0 : ∀ i, -1000000000 ≤ t i) (h1 : ∀ i, t i ≤ 10000000000) (c0 : -10 ≤ c) (c1 : c ≤ 10) : ∀ i, -10 ≤ car t c i ∧ car t c i ≤ 20
 | 0 => by rw [car_zero]; omega
 | i + 1 => by
  have ih := car_small t c h0 h1 c0 c1 i
  have := h0 i
  have := h1 i
  rw [car_succ]
  omega
theorem parts_eq (n m : Nat) (hn : n < 10 ^ 126) (hm : m < 10 ^ 126) : ∀ k i, i + k = 14 → (∀ j, i ≤ j → j < 14 → part n j = part m j) → n / 10 ^ (9 * i) = m / 10 ^ (9 * i)
 | 0, i, hi, _ => by
  obtain rfl : i = 14 := by omega
  rw [Nat.div_eq_of_lt hn, Nat.div_eq_of_lt hm]
 | k + 1, i, hi, h => by
  have ih := parts_eq n m hn hm k (i + 1) (by omega) (fun j h1 h2 => h j (by omega) h2)
  have h2 := h i (Nat.le_refl _) (by omega)
  unfold part at h2
  rw [pwn_succ, ← Nat.div_div_eq_div_mul, ← Nat.div_div_eq_div_mul] at ih
  omega
theorem parts_lt (n m : Nat) (hn : n < 10 ^ 126) (hm : m < 10 ^ 126) (i : Nat) (hi : i < 14) (h : ∀ j, i < j → j < 14 → part n j = part m j) (hl : part n i < part m i) : n < m := by
 have ih := parts_eq n m hn hm (13 - i) (i + 1) (by omega) (fun j h1 h2 => h j (by omega) h2)
 rw [pwn_succ, ← Nat.div_div_eq_div_mul, ← Nat.div_div_eq_div_mul] at ih
 unfold part at hl
 have : n / 10 ^ (9 * i) < m / 10 ^ (9 * i) := by omega
 exact Nat.lt_of_not_le fun hle => absurd (Nat.div_le_div_right (c := 10 ^ (9 * i)) hle) (by omega)
def cmpN (n m : Nat) : Int := if n < m then -1 else if n = m then 0 else 1
theorem parts_same (n m : Nat) (hn : n < 10 ^ 126) (hm : m < 10 ^ 126) (h : ∀ j, j < 14 → part n j = part m j) : n = m := by
 have := parts_eq n m hn hm 14 0 rfl (fun j _ => h j)
 simpa using this
theorem part_top (n i : Nat) : n / 10 ^ (9 * i) = n / 10 ^ (9 * (i + 1)) * 1000000000 + part n i := by
 unfold part
 rw [pwn_succ, ← Nat.div_div_eq_div_mul]
 omega
def pread (V p m : Nat) : Nat := part V p / 10 ^ (m - 9 * p)
theorem pread_done (V p : Nat) : pread V p 0 = part V p := by simp [pread]
theorem pread_none (V p m : Nat) (h : 9 * p + 9 ≤ m) : pread V p m = 0 := by
 unfold pread
 refine Nat.div_eq_of_lt (Nat.lt_of_lt_of_le (part_lt V p) ?_)
 show 10 ^ 9 ≤ _
 exact Nat.pow_le_pow_right (by omega) (by omega)
theorem pread_other (V p m : Nat) (h : p ≠ m / 9) : pread V p (m + 1) = pread V p m := by
 by_cases h2 : m + 1 ≤ 9 * p
 ·unfold pread
  rw [show m + 1 - 9 * p = 0 by omega, show m - 9 * p = 0 by omega]
 ·rw [pread_none V p (m + 1) (by omega), pread_none V p m (by omega)]
theorem mod_dig (a k : Nat) (hk : k < 9) : a % 1000000000 / 10 ^ k % 10 = a / 10 ^ k % 10 := by
 have e : 1000000000 = 10 ^ k * 10 ^ (9 - k) := by
  rw [← Nat.pow_add, show k + (9 - k) = 9 by omega]
 rw [e, Nat.mod_mul_right_div_self, Nat.mod_mod_of_dvd]
 obtain ⟨j, hj⟩ : ∃ j, 9 - k = j + 1 := ⟨9 - k - 1, by omega⟩
 rw [hj, Nat.pow_succ]
 exact Nat.dvd_mul_left _ _
theorem pread_this (V m : Nat) : pread V (m / 9) m = pread V (m / 9) (m + 1) * 10 + V / 10 ^ m % 10 := by
 obtain ⟨k, hk⟩ : ∃ k, m - 9 * (m / 9) = k := ⟨_, rfl⟩
 have hk9 : k < 9 := by omega
 have hm : m = 9 * (m / 9) + k := by omega
 have h1 : V / 10 ^ m % 10 = part V (m / 9) / 10 ^ k % 10 := by
  unfold part
  rw [mod_dig _ k hk9]
  conv => lhs; rw [hm, Nat.pow_add, ← Nat.div_div_eq_div_mul]
 unfold pread
 rw [h1, hk, show m + 1 - 9 * (m / 9) = k + 1 by omega, Nat.pow_succ, ← Nat.div_div_eq_div_mul]
 omega
theorem val_dig {A T : List UInt8} {c : UInt8} (hT : AllD T) (hc : 48 ≤ c.toNat ∧ c.toNat ≤ 57) : val (A ++ c :: T) / 10 ^ T.length % 10 = dg c := by
 have h1 := val_lt hT
 have h2 := dg_eq c hc.1
 rw [show A ++ c :: T = (A ++ [c]) ++ T by simp, val_append, val_snoc, Nat.mul_comm, Nat.mul_add_div (Nat.pow_pos (by omega)), Nat.div_eq_of_lt h1]
 omega
end Go.Proofs.YtmdnijehoagamaaGreatDoor
namespace Go.Proofs.YtmdnijehoagamaaGreatDoor
set_option maxRecDepth 100000
set_option maxHeartbeats 1000000
open Go.RowKit
def natL (f : Nat → Int) : List Value := (List.range 14).map fun p => Value.int .i64 (f p)
def arrV (f : Nat → Int) : Value := .agg (natL f).toArray
def ptsOf (n : Nat) : Nat → Int := fun p => (part n p : Int)
def natV (n : Nat) : Value := arrV (ptsOf n)
theorem natL_len (f : Nat → Int) : (natL f).length = 14 := by simp [natL]
theorem natL_one (f : Nat → Int) : ∀ v ∈ natL f, v.oneCell' = true := fun v hv => by
 obtain ⟨p, _, rfl⟩ := List.mem_map.1 hv
 rfl
theorem natL_at (f : Nat → Int) (p : Nat) (h : p < 14) : (natL f)[p]? = some (.int .i64 (f p)) := by
 unfold natL
 rw [List.getElem?_map, List.getElem?_range h]
 rfl
def upd (f : Nat → Int) (i : Nat) (v : Int) : Nat → Int := fun p => if p = i then v else f p
theorem natL_set (f : Nat → Int) (i : Nat) (v : Int) : (natL f).set i (.int .i64 v) = natL (upd f i v) := by
 apply List.ext_getElem?
 intro j
 unfold natL
 rw [List.getElem?_set, List.getElem?_map, List.getElem?_map, List.length_map, List.length_range]
 by_cases hj : j < 14
 ·rw [List.getElem?_range hj]
  by_cases hij : i = j
  ·subst hij
   simp [upd, hj]
  ·simp [upd, hij, show ¬ j = i from fun e => hij e.symm]
 ·rw [List.getElem?_eq_none (by simpa using hj)]
  by_cases hij : i = j <;> simp [hij, hj]
theorem natL_congr {f g : Nat → Int} (h : ∀ p, p < 14 → f p = g p) : natL f = natL g := List.map_congr_left fun p hp => by rw [h p (List.mem_range.1 hp)]
def Blk (W : World) (b : Nat) (f : Nat → Int) : Prop := W.heap[b]? = some (.cells (natL f).toArray 125 (0, 0))
theorem Blk.lt {W : World} {b : Nat} {f : Nat → Int} (h : Blk W b f) : b < W.heap.size := (Array.getElem?_eq_some_iff.1 h).1
theorem Blk.cell {W : World} {b : Nat} {f : Nat → Int} (h : Blk W b f) {p : Nat} (hp : p < 14) : W.cell? ⟨b, p, none⟩ = some (.int .i64 (f p)) := by
 rw [cell_of_row W b p _ _ _ h]
 simpa using natL_at f p hp
theorem Blk.free {W : World} {b : Nat} {f : Nat → Int} (h : Blk W b f) (p : Nat) : W.frozen? ⟨b, p, none⟩ = false := by
 simp [World.frozen?, show W.heap[b]? = _ from h]
theorem Blk.call {W W' : World} {b : Nat} {f : Nat → Int} (h : Blk W b f) (B : Below W.heap.size W W') : Blk W' b f := (B.block b h.lt).trans h
theorem Blk.set {W : World} {b : Nat} {f : Nat → Int} (h : Blk W b f) (i : Nat) (v : Int) : Blk (W.setCell ⟨b, i, none⟩ (.int .i64 v)) b (upd f i v) := by
 have h2 := heap_setCell_same W b i _ 125 (.int .i64 v) h
 unfold Blk
 rw [h2, ← natL_set]
 simp
theorem Blk.far {W : World} {b c : Nat} {f : Nat → Int} (h : Blk W b f) (i : Nat) (v : Value) (hne : c ≠ b) : Blk (W.setCell ⟨c, i, none⟩ v) b f :=
 (Below.heap_setCell W ⟨c, i, none⟩ v b (fun e => hne e.symm)).trans h
theorem Blk.new (W : World) (f : Nat → Int) : Blk (W.alloc (.cells (natL f).toArray 125)) W.heap.size f := heap_alloc_last W _
theorem Blk.alloc {W : World} {b : Nat} {f : Nat → Int} (h : Blk W b f) (o : Obj) : Blk (W.alloc o) b f := h.call ((Below.refl _ _).alloc (Nat.le_refl _) o)
theorem Blk.range {W : World} {b : Nat} {f : Nat → Int} (h : Blk W b f) : W.rangeAt b 0 (natL f) := fun j v hv => by
 rw [Nat.zero_add, cell_of_row W b j _ _ _ h]
 simpa using hv
theorem Blk.there {W : World} {b : Nat} {f : Nat → Int} (h : Blk W b f) : W.there b 0 14 := fun j hj => by
 rw [Nat.zero_add]
 exact ⟨by rw [h.cell hj]; rfl, h.free j⟩
def Cel (W : World) (b : Nat) (c : Int) : Prop := W.heap[b]? = some (.cells #[.int .i64 c] 2 (0, 0))
structure Turn (b : Nat) (w w' : World) : Prop where
 bel : Below b w w'
 size : w'.heap.size = w.heap.size
 oth : ∀ k, k ≠ b → w'.heap[k]? = w.heap[k]?
theorem Turn.refl (b : Nat) (w : World) : Turn b w w := ⟨Below.refl _ _, rfl, fun _ _ => rfl⟩
theorem Turn.drew {b : Nat} {w w' : World} (h : Turn b w w') (n : Nat) : Turn b w (w'.drewN n) := ⟨below_drewN h.bel n, h.size, h.oth⟩
theorem Turn.drew1 {b : Nat} {w w' : World} (h : Turn b w w') : Turn b w w'.drew := ⟨below_drewN h.bel 1, h.size, h.oth⟩
theorem Cel.set {W : World} {b : Nat} {c : Int} (h : Cel W b c) (v : Int) : Cel (W.setCell ⟨b, 0, none⟩ (.int .i64 v)) b v := by
 have h2 := heap_setCell_same W b 0 _ 2 (.int .i64 v) h
 exact h2
theorem Cel.drew1 {W : World} {b : Nat} {c : Int} (h : Cel W b c) : Cel W.drew b c := h
theorem Turn.set {b : Nat} {w w' : World} (h : Turn b w w') (v : Value) : Turn b w (w'.setCell ⟨b, 0, none⟩ v) :=
 ⟨h.bel.setCell (p := ⟨b, 0, none⟩) (Nat.le_refl _) v, by rw [World.size_setCell]; exact h.size, fun k hk => (Below.heap_setCell w' ⟨b, 0, none⟩ v k hk).trans (h.oth k hk)⟩
theorem Turn.blk {b c : Nat} {w w' : World} {f : Nat → Int} (h : Turn b w w') (hb : Blk w c f) (hne : c ≠ b) : Blk w' c f := (h.oth c hne).trans hb
theorem carrier_call (c : Int) (w : World) :
  Calls Tryz.prog 157 #[.int .i64 c] w fun e w' => e = .returned (.func (.func 188) #[] #[.pointer (some ⟨w.heap.size, 0, none⟩)]) ∧ w' = w.alloc (.cells #[.int .i64 c] 2) := by
 go_enter Tryz.func157, Tryz.ntmps157
 go_wp2
 go_ret
 exact ⟨rfl, rfl⟩
theorem fdiv_neg (v : Int) (h : Int.tmod v 1000000000 < 0) : Int.tmod v 1000000000 + 1000000000 = v % 1000000000 ∧ Int.tdiv v 1000000000 - 1 = v / 1000000000 := by
 have h0 : v < 0 := by
  rcases Int.lt_or_le v 0 with h1 | h1
  ·exact h1
  ·have := Int.tmod_nonneg 1000000000 h1
   omega
 have e1 := Int.mul_tdiv_add_tmod v 1000000000
 have e2 : -1000000000 < Int.tmod v 1000000000 := by
  have := Int.lt_tmod_of_pos v (b := 1000000000) (by omega)
  omega
 omega
theorem fdiv_pos (v : Int) (h : ¬ Int.tmod v 1000000000 < 0) : Int.tmod v 1000000000 = v % 1000000000 ∧ Int.tdiv v 1000000000 = v / 1000000000 := by
 have e1 := Int.mul_tdiv_add_tmod v 1000000000
 have e2 : Int.tmod v 1000000000 < 1000000000 := Int.tmod_lt_of_pos v (by omega)
 omega
theorem carry_call (n c : Int) (b : Nat) (w : World) (hb : Cel w b c) (h0 : -8000000000000000000 ≤ n + c) (h1 : n + c ≤ 8000000000000000000) :
  Calls Tryz.prog 188 #[.int .i64 n, .pointer (some ⟨b, 0, none⟩)] w fun e w' => e = .returned (.int .i64 ((n + c) % 1000000000)) ∧ Cel w' b ((n + c) / 1000000000) ∧ Turn b w w' := by
 have hc : w.cell? ⟨b, 0, none⟩ = some (.int .i64 c) := by rw [cell_of_row w b 0 _ _ _ hb]; rfl
 have hf : w.frozen? ⟨b, 0, none⟩ = false := by simp [World.frozen?, show w.heap[b]? = _ from hb]
 obtain ⟨v, hv⟩ : ∃ v, n + c = v := ⟨_, rfl⟩
 have w1 : IntKind.i64.wrap (n + c) = v := by rw [hv]; exact IntWalk.i64_in _ (by omega)
 have hbl := Lib.hid hb
 rw [hv] at h0 h1 ⊢
 clear hb
 have HV := Lib.hid hv
 by_cases hneg : Int.tmod v 1000000000 < 0
 ·obtain ⟨e1, e2⟩ := fdiv_neg v hneg
  go_enter Tryz.func188, Tryz.ntmps188
  go_wp2
  go_region
  all_goals go_wp2
  all_goals go_ret
  all_goals exact ⟨rfl, Cel.drew1 (Cel.set (Cel.set hbl.out _) _), (((Turn.refl b w).set _).set _).drew1⟩
 ·obtain ⟨e1, e2⟩ := fdiv_pos v hneg
  go_enter Tryz.func188, Tryz.ntmps188
  go_wp2
  go_ret
  exact ⟨rfl, Cel.set hbl.out _, (Turn.refl b w).set _⟩
end Go.Proofs.YtmdnijehoagamaaGreatDoor
namespace Go.Proofs.YtmdnijehoagamaaGreatDoor
set_option maxRecDepth 100000
set_option maxHeartbeats 4000000
open Go.RowKit
theorem Turn.trans {b : Nat} {u v w : World} (h : Turn b u v) (k : Turn b v w) : Turn b u w := ⟨h.bel.trans k.bel, k.size.trans h.size, fun j hj => (k.oth j hj).trans (h.oth j hj)⟩
theorem nat_size (f : Nat → Int) : (Tryz.prog.info? 125).map (·.size) = some (natL f).toArray.size := by
 rw [List.size_toArray, natL_len]
 kernel_rfl
theorem nat_one (f : Nat → Int) : (natL f).toArray.all (·.oneCell') = true := all_oneCell_toArray (natL_one f)
theorem below_row {B : Nat} {w w' : World} (h : Below B w w') {g : Nat} (hg : B ≤ g) (cs : Array Value) : Below B w (w'.setRow g cs) :=
 h.trans ⟨rfl, rfl, rfl, by simp [World.setRow], fun k hk => setRow_other _ _ _ _ (by omega)⟩
def tAdd (n m : Nat) : Nat → Int := fun p => (part n p : Int) + (part m p : Int)
def tSub (n m : Nat) : Nat → Int := fun p => (part n p : Int) - (part m p : Int)
structure SumAt (w W : World) (n m i : Nat) : Prop where
 x : Blk W w.heap.size (fun p => if p < i then rpt (tAdd n m) 0 p else ptsOf n p)
 y : Blk W (w.heap.size + 1) (ptsOf m)
 r : Blk W (w.heap.size + 1 + 1) (fun _ => 0)
 c : Cel W (w.heap.size + 1 + 1 + 1) (car (tAdd n m) 0 i)
 below : Below w.heap.size w W
 size : w.heap.size + 4 ≤ W.heap.size
theorem SumAt.next {w W W2 : World} {n m i : Nat} (h : SumAt w W n m i) (hT : Turn (w.heap.size + 1 + 1 + 1) W W2) (hC : Cel W2 (w.heap.size + 1 + 1 + 1) (car (tAdd n m) 0 (i + 1))) : SumAt w (W2.setCell ⟨w.heap.size, i, none⟩ (.int .i64 (rpt (tAdd n m) 0 i))) n m (i + 1) := by
 refine ⟨?_, (hT.blk h.y (by omega)).far _ _ (by omega), (hT.blk h.r (by omega)).far _ _ (by omega), (Below.heap_setCell W2 ⟨w.heap.size, i, none⟩ _ _ (by show w.heap.size + 1 + 1 + 1 ≠ w.heap.size; omega)).trans hC, (h.below.trans (hT.bel.mono (by omega))).setCell (p := ⟨w.heap.size, i, none⟩) (Nat.le_refl _) _, by rw [World.size_setCell, hT.size]; exact h.size⟩
 have h2 := (hT.blk h.x (by omega)).set i (rpt (tAdd n m) 0 i)
 unfold Blk at h2 ⊢
 rw [h2]
 refine congrArg (fun l => some (Obj.cells (List.toArray l) 125 (0, 0))) (natL_congr fun p hp => ?_)
 unfold upd
 by_cases hpi : p = i
 ·subst hpi
  simp
 ·by_cases hlt : p < i
  ·simp [hpi, hlt, show p < i + 1 by omega]
  ·simp [hpi, hlt, show ¬ p < i + 1 by omega]
theorem Sum_call (n m : Nat) (hn : n < 10 ^ 126) (hm : m < 10 ^ 126) (w : World) :
  Calls Tryz.prog 123 #[natV n, natV m] w fun e w' => e = .returned (natV (n + m)) ∧ Below w.heap.size w w' := by
 have hR : csum (tAdd n m) 0 14 = ((n + m : Nat) : Int) := sum_parts n m hn hm
 have hfin : ∀ p, p < 14 → rpt (tAdd n m) 0 p = ptsOf (n + m) p := fun p hp => rpt_part _ _ _ hR p hp
 have hcar := car_small (tAdd n m) 0 (fun i => by have := part_lt n i; have := part_lt m i; show _ ≤ (part n i : Int) + (part m i : Int); omega) (fun i => by have := part_lt n i; have := part_lt m i; show (part n i : Int) + (part m i : Int) ≤ _; omega) (by omega) (by omega)
 have HF := Lib.hid (And.intro hfin hcar)
 clear hR hfin hcar
 show Calls Tryz.prog 123 #[.agg (natL (ptsOf n)).toArray, .agg (natL (ptsOf m)).toArray] w _
 obtain ⟨X, hX⟩ : ∃ X, (natL (ptsOf n)).toArray = X := ⟨_, rfl⟩
 obtain ⟨Y, hY⟩ : ∃ Y, (natL (ptsOf m)).toArray = Y := ⟨_, rfl⟩
 obtain ⟨Q, hQ⟩ : ∃ Q, natV (n + m) = Q := ⟨_, rfl⟩
 rw [hX, hY, hQ]
 have HXY := Lib.hid (And.intro hX (And.intro hY hQ))
 clear hX hY hQ
 go_enter Tryz.func123, Tryz.ntmps123
 go_wp2_with fail
 refine (carrier_call _ _).mono ?_
 rintro e w1 ⟨rfl, hw1⟩
 have hA : SumAt w w1 n m 0 := by
  obtain ⟨rfl, rfl, _⟩ := HXY.out
  rw [hw1]
  have b0 := Blk.new w (ptsOf n)
  have b1 := Blk.new (w.alloc (.cells (natL (ptsOf n)).toArray 125)) (ptsOf m)
  have b2 := Blk.new ((w.alloc (.cells (natL (ptsOf n)).toArray 125)).alloc (.cells (natL (ptsOf m)).toArray 125)) (fun _ => 0)
  rw [World.size_alloc] at b1
  rw [World.size_alloc, World.size_alloc] at b2
  refine ⟨?_, (b1.alloc _).alloc _, b2.alloc _, ?_, ?_, by simp⟩
  ·have := ((b0.alloc (.cells (natL (ptsOf m)).toArray 125)).alloc (.cells (natL fun _ => 0).toArray 125)).alloc (.cells #[.int .i64 0] 2)
   unfold Blk at this ⊢
   simp only [Nat.not_lt_zero, if_false]
   exact this
  ·rw [car_zero]
   have h3 := heap_alloc_last (((w.alloc (.cells (natL (ptsOf n)).toArray 125)).alloc (.cells (natL (ptsOf m)).toArray 125)).alloc (.cells (natL fun _ => 0).toArray 125)) (.cells #[.int .i64 0] 2)
   rw [World.size_alloc, World.size_alloc, World.size_alloc] at h3
   exact h3
  ·exact ((((Below.refl w.heap.size w).alloc (Nat.le_refl _) _).alloc (by simp) _).alloc (by simp; omega) _).alloc (by simp; omega) _
 simp only [World.size_alloc]
 clear hw1
 go_wp2
 go_loopg [8] 15 (fun gk v8 wr => ∃ i : Nat, v8 = .int .i64 (i : Int) ∧ i ≤ 14 ∧ gk + i = 15 ∧ Hid (SumAt w wr n m i))
 case atStart => exact ⟨0, rfl, by omega, rfl, hA⟩
 case round =>
  obtain ⟨i, rfl, hi, hgk, HA⟩ := hrel
  by_cases hlt : i < 14
  ·have hx := HA.out.x.cell hlt
   rw [if_neg (by omega)] at hx
   have hy := HA.out.y.cell hlt
   have n1 := part_lt n i
   have m1 := part_lt m i
   have hx0 : ∃ a : Nat, ptsOf n i = (a : Int) ∧ a < 1000000000 := ⟨_, rfl, n1⟩
   have hy0 : ∃ a : Nat, ptsOf m i = (a : Int) ∧ a < 1000000000 := ⟨_, rfl, m1⟩
   obtain ⟨a, ha, ha9⟩ := hx0
   obtain ⟨b, hb, hb9⟩ := hy0
   clear n1 m1
   rw [ha] at hx
   rw [hb] at hy
   have hcb := HF.out.2 i
   have e1 : (tAdd n m) i = (a : Int) + (b : Int) := by show ptsOf n i + ptsOf m i = _; rw [ha, hb]
   have e2 : rpt (tAdd n m) 0 i = ((a : Int) + (b : Int) + car (tAdd n m) 0 i) % 1000000000 := by rw [rpt_eq, e1]
   have e3 : car (tAdd n m) 0 (i + 1) = ((a : Int) + (b : Int) + car (tAdd n m) 0 i) / 1000000000 := by rw [car_succ, e1]
   have hfz := HA.out.x.free i
   obtain ⟨R, hRR⟩ : ∃ R, ((a : Int) + (b : Int) + car (tAdd n m) 0 i) % 1000000000 = R := ⟨_, rfl⟩
   rw [hRR] at e2
   have wr1 : IntKind.i64.wrap ((a : Int) + (b : Int)) = (a : Int) + (b : Int) := IntWalk.i64_in _ (by omega)
   have HE := Lib.hid (And.intro e2 (And.intro e3 (And.intro hcb hRR)))
   clear e1 e2 e3 ha hb hcb hRR
   go_wp2_with fail
   go_region_with (go_at_call 188; refine (carry_call _ _ _ _ (Cel.drew1 HA.out.c) (by have := HE.out.2.2.1; omega) (by have := HE.out.2.2.1; omega)).mono ?_; rw [HE.out.2.2.2]; rintro e w2 ⟨rfl, hc2, ht2⟩; have hA2 : Hid (SumAt w (w2.setCell ⟨w.heap.size, i, none⟩ (.int .i64 R)) n m (i + 1)) := (by show SumAt _ _ _ _ _; rw [← HE.out.1]; exact HA.out.next ((Turn.refl _ wr).drew1.trans ht2) (by rw [HE.out.2.1]; exact hc2)); have hx2 := (ht2.blk (show Blk _ w.heap.size _ from HA.out.x) (by omega)).cell hlt; have hf2 := (ht2.blk (show Blk _ w.heap.size _ from HA.out.x) (by omega)).free i; clear hc2 ht2)
   all_goals go_wp2
   all_goals (
    go_roundg (14 - i)
    case measure => omega
    case rel => exact ⟨i + 1, by go_num, by omega, by omega, hA2⟩)
  ·obtain rfl : i = 14 := by omega
   clear hlt
   have hxB : Blk wr w.heap.size (ptsOf (n + m)) := by
    have h := HA.out.x
    unfold Blk at h ⊢
    rw [h]
    refine congrArg (fun l => some (Obj.cells (List.toArray l) 125 (0, 0))) (natL_congr fun p hp => ?_)
    rw [if_pos hp, HF.out.1 p hp]
   have hrB := HA.out.r
   have hl1 := hxB.lt
   go_wp2_with (first
    | (refine wpList_load_row rfl 125 _ rfl w.heap.size rfl 125 _ (0, 0) _ hxB Tryz.underlying125 rfl (nat_size _) ?_)
    | (refine wpList_store_row rfl 125 _ _ rfl (w.heap.size + 1 + 1) _ rfl rfl 125 _ hrB (nat_size _) (by simp [natL_len]) (nat_one _) ?_))
   exact bodyPost_ret (results_cell_row (fn := Tryz.f123) rfl _ _ (w.heap.size + 1 + 1) 125 _ (0, 0) _ rfl (setRow_heap _ _ _ _ _ _ hrB) Tryz.underlying125 rfl (nat_size _)) rfl ⟨HXY.out.2.2 ▸ rfl, below_row HA.out.below (by omega) _⟩
end Go.Proofs.YtmdnijehoagamaaGreatDoor
