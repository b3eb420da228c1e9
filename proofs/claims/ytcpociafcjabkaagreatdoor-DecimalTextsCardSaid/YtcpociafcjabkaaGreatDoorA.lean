/- Digits, and the numbers that they write. -/
import Derived.Lib.Strings
set_option linter.unusedSimpArgs false
set_option linter.unusedVariables false
namespace Go.Proofs.YtcpociafcjabkaaGreatDoor

/-- The value of a digit. -/
def dg (c : UInt8) : Nat := (c - 48).toNat
theorem dg_eq (c : UInt8) (h : 48 ≤ c.toNat) : dg c = c.toNat - 48 := by
  unfold dg
  rw [UInt8.toNat_sub_of_le]
  · rfl
  · rw [UInt8.le_iff_toNat_le]
    exact h
def dStep (n : Nat) (c : UInt8) : Nat := n * 10 + dg c
def dval (acc : Nat) (l : List UInt8) : Nat := l.foldl dStep acc
def val (l : List UInt8) : Nat := dval 0 l
def AllD (l : List UInt8) : Prop := ∀ c ∈ l, 48 ≤ c.toNat ∧ c.toNat ≤ 57
def isD (c : UInt8) : Bool := decide (48 ≤ c.toNat ∧ c.toNat ≤ 57)
def allDB (l : List UInt8) : Bool := l.all isD
theorem allDB_iff (l : List UInt8) : allDB l = true ↔ AllD l := by
  unfold allDB AllD isD
  rw [List.all_eq_true]
  simp only [decide_eq_true_eq]

theorem AllD.nil : AllD [] := fun c h => by cases h
theorem AllD.cons {c : UInt8} {l : List UInt8} (h : 48 ≤ c.toNat ∧ c.toNat ≤ 57) (hl : AllD l) : AllD (c :: l) := fun x hx => by
  rcases List.mem_cons.1 hx with rfl | hx
  · exact h
  · exact hl x hx
theorem AllD.head {c : UInt8} {l : List UInt8} (h : AllD (c :: l)) : 48 ≤ c.toNat ∧ c.toNat ≤ 57 := h c List.mem_cons_self
theorem AllD.tail {c : UInt8} {l : List UInt8} (h : AllD (c :: l)) : AllD l := fun x hx => h x (List.mem_cons_of_mem _ hx)
theorem AllD.append {a b : List UInt8} (ha : AllD a) (hb : AllD b) : AllD (a ++ b) := fun x hx => (List.mem_append.1 hx).elim (ha x) (hb x)
theorem AllD.left {a b : List UInt8} (h : AllD (a ++ b)) : AllD a := fun x hx => h x (List.mem_append_left _ hx)
theorem AllD.right {a b : List UInt8} (h : AllD (a ++ b)) : AllD b := fun x hx => h x (List.mem_append_right _ hx)
theorem AllD.take {a : List UInt8} (h : AllD a) (n : Nat) : AllD (a.take n) := fun x hx => h x (List.mem_of_mem_take hx)
theorem AllD.drop {a : List UInt8} (h : AllD a) (n : Nat) : AllD (a.drop n) := fun x hx => h x (List.mem_of_mem_drop hx)
theorem AllD.zeros (n : Nat) : AllD (List.replicate n 48) := fun x hx => by
  rw [List.eq_of_mem_replicate hx]
  decide

theorem dval_acc (acc d p v : Nat) : (acc * 10 + d) * p + v = acc * (p * 10) + (d * p + v) := by
  rw [Nat.add_mul, Nat.mul_right_comm, ← Nat.mul_assoc, Nat.add_assoc]
theorem dval_nil (acc : Nat) : dval acc [] = acc := rfl
theorem dval_cons (acc : Nat) (c : UInt8) (l : List UInt8) : dval acc (c :: l) = dval (acc * 10 + dg c) l := rfl
theorem dval_eq (l : List UInt8) : ∀ acc, dval acc l = acc * 10 ^ l.length + dval 0 l := by
  induction l with
  | nil => intro acc; rw [dval_nil, dval_nil, List.length_nil, Nat.pow_zero, Nat.mul_one, Nat.add_zero]
  | cons c l ih =>
    intro acc
    rw [dval_cons, dval_cons, ih (acc * 10 + dg c), ih (0 * 10 + dg c), List.length_cons, Nat.pow_succ, Nat.zero_mul, Nat.zero_add, dval_acc]
theorem val_nil : val [] = 0 := rfl
theorem val_cons (c : UInt8) (l : List UInt8) : val (c :: l) = dg c * 10 ^ l.length + val l := by
  unfold val
  rw [dval_cons, dval_eq, Nat.zero_mul, Nat.zero_add]
theorem val_append (a b : List UInt8) : val (a ++ b) = val a * 10 ^ b.length + val b := by
  induction a with
  | nil => simp [val_nil]
  | cons c l ih =>
    rw [List.cons_append, val_cons, val_cons, ih, List.length_append, Nat.pow_add, Nat.add_mul, Nat.mul_assoc]
    omega
theorem val_snoc (a : List UInt8) (c : UInt8) : val (a ++ [c]) = val a * 10 + dg c := by
  rw [val_append, val_cons, val_nil]
  simp
theorem val_zeros (n : Nat) : val (List.replicate n 48) = 0 := by
  induction n with
  | zero => rfl
  | succ n ih =>
    rw [List.replicate_succ, val_cons, ih, show dg 48 = 0 from rfl]
    simp
theorem val_lt {l : List UInt8} (h : AllD l) : val l < 10 ^ l.length := by
  induction l with
  | nil => simp [val_nil]
  | cons c l ih =>
    have h1 := ih h.tail
    have h2 := h.head
    have h3 := dg_eq c h2.1
    rw [val_cons, List.length_cons, Nat.pow_succ]
    have : dg c * 10 ^ l.length ≤ 9 * 10 ^ l.length := Nat.mul_le_mul_right _ (by omega)
    omega
theorem val_ge {c : UInt8} {l : List UInt8} (h : AllD (c :: l)) (hc : c ≠ 48) : 10 ^ l.length ≤ val (c :: l) := by
  have h2 := h.head
  have h3 := dg_eq c h2.1
  have hne : c.toNat ≠ 48 := fun e => hc (UInt8.toNat_inj.1 (by rw [e]; rfl))
  rw [val_cons]
  have : 1 * 10 ^ l.length ≤ dg c * 10 ^ l.length := Nat.mul_le_mul_right _ (by omega)
  omega

/-- The digits of a number. -/
def digsF : Nat → Nat → List UInt8
  | 0, n => [UInt8.ofNat (48 + n)]
  | k + 1, n => if n < 10 then [UInt8.ofNat (48 + n)] else digsF k (n / 10) ++ [UInt8.ofNat (48 + n % 10)]
def digs (n : Nat) : List UInt8 := digsF n n
theorem digsF_small {k n : Nat} (h : n < 10) : digsF k n = [UInt8.ofNat (48 + n)] := by
  cases k with
  | zero => rfl
  | succ k => rw [digsF, if_pos h]
theorem digsF_fuel (n : Nat) : ∀ k, n ≤ k → digsF k n = digsF n n := by
  induction n using Nat.strongRecOn with
  | ind n ih =>
    intro k hk
    by_cases h : n < 10
    · rw [digsF_small h, digsF_small h]
    · obtain ⟨k', rfl⟩ : ∃ k', k = k' + 1 := ⟨k - 1, by omega⟩
      obtain ⟨n', hn'⟩ : ∃ n', n = n' + 1 := ⟨n - 1, by omega⟩
      have e1 : digsF (k' + 1) n = digsF k' (n / 10) ++ [UInt8.ofNat (48 + n % 10)] := by rw [digsF, if_neg h]
      have e2 : digsF n n = digsF n' (n / 10) ++ [UInt8.ofNat (48 + n % 10)] := by
        rw [show digsF n n = digsF (n' + 1) n by rw [← hn'], digsF, if_neg h]
      rw [e1, e2, ih (n / 10) (by omega) k' (by omega), ih (n / 10) (by omega) n' (by omega)]
theorem digs_small {n : Nat} (h : n < 10) : digs n = [UInt8.ofNat (48 + n)] := digsF_small h
theorem digs_big {n : Nat} (h : ¬ n < 10) : digs n = digs (n / 10) ++ [UInt8.ofNat (48 + n % 10)] := by
  obtain ⟨n', hn'⟩ : ∃ n', n = n' + 1 := ⟨n - 1, by omega⟩
  show digsF n n = digsF (n / 10) (n / 10) ++ _
  rw [show digsF n n = digsF (n' + 1) n by rw [← hn'], digsF, if_neg h, digsF_fuel (n / 10) n' (by omega)]
theorem dig_nat {d : Nat} (h : d < 10) : (UInt8.ofNat (48 + d)).toNat = 48 + d := by
  rw [UInt8.toNat_ofNat']
  omega
theorem dg_nat {d : Nat} (h : d < 10) : dg (UInt8.ofNat (48 + d)) = d := by
  rw [dg_eq _ (by rw [dig_nat h]; omega), dig_nat h]
  omega
theorem dg_48 : dg 48 = 0 := rfl
theorem digs_all (n : Nat) : AllD (digs n) := by
  induction n using Nat.strongRecOn with
  | ind n ih =>
    by_cases h : n < 10
    · rw [digs_small h]
      exact AllD.cons (by rw [dig_nat h]; omega) AllD.nil
    · rw [digs_big h]
      refine (ih (n / 10) (by omega)).append (AllD.cons ?_ AllD.nil)
      rw [dig_nat (by omega)]
      omega
theorem digs_val (n : Nat) : val (digs n) = n := by
  induction n using Nat.strongRecOn with
  | ind n ih =>
    by_cases h : n < 10
    · rw [digs_small h, val_cons, val_nil, dg_nat h]
      simp
    · rw [digs_big h, val_snoc, ih (n / 10) (by omega), dg_nat (by omega)]
      omega
theorem digs_ne (n : Nat) : digs n ≠ [] := by
  by_cases h : n < 10
  · rw [digs_small h]; simp
  · rw [digs_big h]; simp
theorem digs_zero : digs 0 = [48] := by rw [digs_small (by omega)]; rfl

/-- Digits as they are written: no zero in front, but for the zero alone. -/
def Canon (l : List UInt8) : Prop := AllD l ∧ l ≠ [] ∧ (l.head? = some 48 → l.length = 1)
theorem canon_eq_len : ∀ (n : Nat) (l : List UInt8), l.length = n → Canon l → l = digs (val l) := by
  intro n
  induction n with
  | zero =>
    intro l hl h
    exact absurd (List.eq_nil_of_length_eq_zero hl) h.2.1
  | succ n ih =>
    intro l hl h
    rcases List.eq_nil_or_concat l with rfl | ⟨a, c, rfl⟩
    · exact absurd rfl h.2.1
    · rw [List.concat_eq_append] at *
      have hc := h.1.right.head
      have h9 := dg_eq c hc.1
      have hal : a.length = n := by simpa using hl
      have hcc : UInt8.ofNat (48 + dg c) = c := UInt8.toNat_inj.1 (by rw [dig_nat (by omega)]; omega)
      cases a with
      | nil =>
        rw [List.nil_append, val_cons, val_nil]
        simp only [List.length_nil, Nat.pow_zero, Nat.mul_one, Nat.add_zero]
        rw [digs_small (by omega), hcc]
      | cons d r =>
        have hd : d ≠ 48 := by
          rintro rfl
          have := h.2.2 rfl
          simp at this
        have hca : Canon (d :: r) := ⟨h.1.left, by simp, fun e => by simp at e; exact absurd e hd⟩
        have h1 := ih (d :: r) hal hca
        have h2 := val_ge h.1.left hd
        have h3 : 0 < 10 ^ r.length := Nat.pow_pos (by omega)
        rw [val_snoc, digs_big (by omega)]
        have e1 : (val (d :: r) * 10 + dg c) / 10 = val (d :: r) := by omega
        have e2 : (val (d :: r) * 10 + dg c) % 10 = dg c := by omega
        rw [e1, e2, ← h1, hcc]
theorem canon_eq {l : List UInt8} (h : Canon l) : l = digs (val l) := canon_eq_len _ l rfl h
theorem digs_canon (n : Nat) : Canon (digs n) := by
  refine ⟨digs_all n, digs_ne n, ?_⟩
  induction n using Nat.strongRecOn with
  | ind n ih =>
    by_cases h : n < 10
    · rw [digs_small h]; intro _; rfl
    · rw [digs_big h]
      intro e
      exfalso
      cases hd : digs (n / 10) with
      | nil => exact digs_ne _ hd
      | cons c r =>
        rw [hd] at e
        simp only [List.cons_append, List.head?_cons, Option.some.injEq] at e
        have h1 := ih (n / 10) (by omega)
        rw [hd] at h1
        have h2 := h1 (by rw [e]; rfl)
        have h3 : r = [] := List.eq_nil_of_length_eq_zero (by simpa using h2)
        subst h3
        subst e
        have h4 := digs_val (n / 10)
        rw [hd] at h4
        have h5 : val [48] = 0 := by rw [val_cons, val_nil, dg_48]; simp
        omega

/-- The digits without zeros in front. -/
def bareL : List UInt8 → List UInt8
  | [] => []
  | [c] => [c]
  | c :: d :: l => if c = 48 then bareL (d :: l) else c :: d :: l
theorem bareL_skip (d : UInt8) (l : List UInt8) : bareL (48 :: d :: l) = bareL (d :: l) := by
  rw [bareL, if_pos rfl]
theorem bareL_stop {c : UInt8} {l : List UInt8} (h : c ≠ 48 ∨ l = []) : bareL (c :: l) = c :: l := by
  cases l with
  | nil => rfl
  | cons d l =>
    rw [bareL, if_neg (h.resolve_right (by simp))]
theorem bareL_canon : ∀ (l : List UInt8), AllD l → l ≠ [] → Canon (bareL l) ∧ val (bareL l) = val l
  | [], _, h => absurd rfl h
  | [c], h, _ => ⟨⟨h, by simp [bareL], fun _ => rfl⟩, rfl⟩
  | c :: d :: l, h, _ => by
    by_cases hc : c = 48
    · subst hc
      rw [bareL_skip]
      have ih := bareL_canon (d :: l) h.tail (by simp)
      refine ⟨ih.1, ih.2.trans ?_⟩
      rw [val_cons 48, dg_48]
      simp
    · rw [bareL_stop (.inl hc)]
      exact ⟨⟨h, by simp, fun e => by simp at e; exact absurd e hc⟩, rfl⟩
theorem bareL_digs {l : List UInt8} (h : AllD l) (hne : l ≠ []) : bareL l = digs (val l) := by
  obtain ⟨h1, h2⟩ := bareL_canon l h hne
  rw [← h2]
  exact canon_eq h1

/-- How long the digits are. -/
theorem digs_len_lt (n : Nat) : n < 10 ^ (digs n).length := by
  have := val_lt (digs_all n)
  rwa [digs_val] at this
theorem digs_len_le {n k : Nat} (h : n < 10 ^ k) (hk : 1 ≤ k) : (digs n).length ≤ k := by
  induction k generalizing n with
  | zero => omega
  | succ k ih =>
    by_cases h1 : n < 10
    · rw [digs_small h1]; simp
    · rw [digs_big h1, List.length_append]
      have h2 : n / 10 < 10 ^ k := by
        rw [Nat.pow_succ] at h
        omega
      have h3 : 1 ≤ k := by
        rcases Nat.eq_zero_or_pos k with rfl | h4
        · simp at h; omega
        · exact h4
      have := ih h2 h3
      simp
      omega
theorem digs_len_ge {n : Nat} (h : n ≠ 0) : 10 ^ ((digs n).length - 1) ≤ n := by
  induction n using Nat.strongRecOn with
  | ind n ih =>
    by_cases h1 : n < 10
    · rw [digs_small h1]; simp; omega
    · rw [digs_big h1, List.length_append]
      have h2 := ih (n / 10) (by omega) (by omega)
      have h3 : (digs (n / 10)).length ≠ 0 := fun e => digs_ne _ (List.eq_nil_of_length_eq_zero e)
      obtain ⟨k, hk⟩ : ∃ k, (digs (n / 10)).length = k + 1 := ⟨_, (Nat.succ_pred_eq_of_ne_zero h3).symm⟩
      rw [hk] at h2 ⊢
      simp only [Nat.add_sub_cancel, List.length_cons, List.length_nil] at h2 ⊢
      rw [Nat.pow_succ]
      omega
end Go.Proofs.YtcpociafcjabkaaGreatDoor
