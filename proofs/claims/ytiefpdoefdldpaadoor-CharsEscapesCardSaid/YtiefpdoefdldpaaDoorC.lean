/- What stands at the head of a string of bytes: a character or none, by the model's decoding and by the document's arithmetic: the same. -/
import Derived.Lib.DecodeN
import Derived.Lib.SpaceU
import Derived.Test.YtiefpdoefdldpaaDoorA
namespace Go.Proofs.YtiefpdoefdldpaaDoor

/-- The character at the head of a row of bytes, and how many bytes it takes: package chars' way (the model's decoding, the wrong ones left out). -/
def stepD (l : List UInt8) : Option (Nat × Nat) :=
  let d := Lib.decodeL l
  if l = [] ∨ (d.1 = 65533 ∧ d.2 = 1) ∨ vldB d.1 = false then none else some d

abbrev V (c : Nat) : Prop := c = 9 ∨ c = 10 ∨ c = 13 ∨ 32 ≤ c ∧ c ≤ 55295 ∨ 57344 ≤ c ∧ c ≤ 65533 ∨ 65536 ≤ c ∧ c ≤ 1114111
theorem vld_V (c : Nat) : vldB (c : Int) = decide (V c) := by
  rw [vld_eq, Bool.eq_iff_iff]
  unfold rvldB V
  simp only [Bool.or_eq_true, beq_iff_eq, decide_eq_true_eq]
  omega

/-- The same in numbers. -/
def stepN (n b0 b1 b2 b3 : Nat) : Option (Nat × Nat) :=
  if b0 < 128 then (if V b0 then some (b0, 1) else none)
  else if 192 ≤ b0 ∧ b0 < 224 then
    (if 1 < n ∧ 128 ≤ b1 ∧ b1 ≤ 191 ∧ 128 ≤ (b0 - 192) * 64 + (b1 - 128) then some ((b0 - 192) * 64 + (b1 - 128), 2) else none)
  else if 224 ≤ b0 ∧ b0 < 240 then
    (if 2 < n ∧ (128 ≤ b1 ∧ b1 ≤ 191) ∧ (128 ≤ b2 ∧ b2 ≤ 191) ∧ 2048 ≤ ((b0 - 224) * 64 + (b1 - 128)) * 64 + (b2 - 128) ∧ V (((b0 - 224) * 64 + (b1 - 128)) * 64 + (b2 - 128))
     then some (((b0 - 224) * 64 + (b1 - 128)) * 64 + (b2 - 128), 3) else none)
  else if 240 ≤ b0 ∧ b0 < 248 then
    (if 3 < n ∧ (128 ≤ b1 ∧ b1 ≤ 191) ∧ (128 ≤ b2 ∧ b2 ≤ 191) ∧ (128 ≤ b3 ∧ b3 ≤ 191) ∧ 65536 ≤ (((b0 - 240) * 64 + (b1 - 128)) * 64 + (b2 - 128)) * 64 + (b3 - 128) ∧ (((b0 - 240) * 64 + (b1 - 128)) * 64 + (b2 - 128)) * 64 + (b3 - 128) ≤ 1114111
     then some ((((b0 - 240) * 64 + (b1 - 128)) * 64 + (b2 - 128)) * 64 + (b3 - 128), 4) else none)
  else none

set_option maxHeartbeats 2000000 in
theorem decodeN_step (n b0 b1 b2 b3 : Nat) (h0 : b0 < 256) (h1 : b1 < 256) (h2 : b2 < 256) (h3 : b3 < 256) :
    (if (Lib.decodeN n b0 b1 b2 b3).1 = 65533 ∧ (Lib.decodeN n b0 b1 b2 b3).2 = 1 ∨ ¬ V (Lib.decodeN n b0 b1 b2 b3).1 then none else some (Lib.decodeN n b0 b1 b2 b3)) = stepN n b0 b1 b2 b3 := by
  unfold Lib.decodeN stepN V
  by_cases a1 : b0 < 128
  · simp only [a1, if_true]
    by_cases v : b0 = 9 ∨ b0 = 10 ∨ b0 = 13 ∨ 32 ≤ b0 ∧ b0 ≤ 55295 ∨ 57344 ≤ b0 ∧ b0 ≤ 65533 ∨ 65536 ≤ b0 ∧ b0 ≤ 1114111
    · rw [if_neg (by omega), if_pos v]
    · rw [if_pos (Or.inr v), if_neg v]
  simp only [a1, if_false]
  by_cases a2 : b0 < 192
  · rw [if_neg (show ¬ (192 ≤ b0 ∧ b0 < 224) by omega), if_neg (show ¬ (224 ≤ b0 ∧ b0 < 240) by omega), if_neg (show ¬ (240 ≤ b0 ∧ b0 < 248) by omega)]
    simp only [show ¬ b0 / 32 = 6 by omega, show ¬ b0 / 16 = 14 by omega, show ¬ b0 / 8 = 30 by omega, false_and, if_false]
    simp
  by_cases a3 : b0 < 224
  · rw [if_pos (show 192 ≤ b0 ∧ b0 < 224 by omega)]
    simp only [show b0 / 32 = 6 by omega, show ¬ b0 / 16 = 14 by omega, show ¬ b0 / 8 = 30 by omega, true_and, false_and, if_false]
    have e1 : b0 % 32 = b0 - 192 := by omega
    by_cases c1 : 1 < n ∧ b1 / 64 = 2
    · have e2 : b1 % 64 = b1 - 128 := by omega
      rw [if_pos c1, e1, e2]
      by_cases g : 128 ≤ (b0 - 192) * 64 + (b1 - 128)
      · rw [if_pos (show _ ≥ _ from g), if_neg (by omega), if_pos ⟨c1.1, by omega, by omega, g⟩]
      · rw [if_neg (show ¬ _ ≥ _ from g), if_neg (show ¬ (1 < n ∧ _) from fun h => g h.2.2.2)]
        simp
    · rw [if_neg c1, if_neg (show ¬ (1 < n ∧ _) from fun h => c1 ⟨h.1, by omega⟩)]
      simp
  by_cases a4 : b0 < 240
  · rw [if_neg (show ¬ (192 ≤ b0 ∧ b0 < 224) by omega), if_pos (show 224 ≤ b0 ∧ b0 < 240 by omega)]
    simp only [show ¬ b0 / 32 = 6 by omega, show b0 / 16 = 14 by omega, show ¬ b0 / 8 = 30 by omega, true_and, false_and, if_false]
    have e1 : b0 % 16 = b0 - 224 := by omega
    by_cases c1 : (1 < n ∧ b1 / 64 = 2) ∧ 2 < n ∧ b2 / 64 = 2
    · have e2 : b1 % 64 = b1 - 128 := by omega
      have e3 : b2 % 64 = b2 - 128 := by omega
      have e4 : (b0 - 224) * 4096 + (b1 - 128) * 64 + (b2 - 128) = ((b0 - 224) * 64 + (b1 - 128)) * 64 + (b2 - 128) := by omega
      rw [if_pos c1, e1, e2, e3, e4]
      have hc : ((b0 - 224) * 64 + (b1 - 128)) * 64 + (b2 - 128) < 65536 := by omega
      generalize ((b0 - 224) * 64 + (b1 - 128)) * 64 + (b2 - 128) = c at hc ⊢
      have d1 : 2 < n ∧ (128 ≤ b1 ∧ b1 ≤ 191) ∧ (128 ≤ b2 ∧ b2 ≤ 191) := by omega
      by_cases g : c ≥ 2048 ∧ (c < 55296 ∨ 57344 ≤ c ∧ c ≤ 1114111)
      · rw [if_pos g]
        by_cases v : c = 65534 ∨ c = 65535
        · rw [if_pos (by omega), if_neg (by omega)]
        · rw [if_neg (by omega), if_pos (by omega)]
      · rw [if_neg g, if_pos (Or.inl ⟨rfl, rfl⟩), if_neg (by omega)]
    · rw [if_neg c1, if_pos (Or.inl ⟨rfl, rfl⟩), if_neg (by omega)]
  by_cases a5 : b0 < 248
  · rw [if_neg (show ¬ (192 ≤ b0 ∧ b0 < 224) by omega), if_neg (show ¬ (224 ≤ b0 ∧ b0 < 240) by omega), if_pos (show 240 ≤ b0 ∧ b0 < 248 by omega)]
    simp only [show ¬ b0 / 32 = 6 by omega, show ¬ b0 / 16 = 14 by omega, show b0 / 8 = 30 by omega, true_and, false_and, if_false]
    have e1 : b0 % 8 = b0 - 240 := by omega
    by_cases c1 : (1 < n ∧ b1 / 64 = 2) ∧ (2 < n ∧ b2 / 64 = 2) ∧ 3 < n ∧ b3 / 64 = 2
    · have e2 : b1 % 64 = b1 - 128 := by omega
      have e3 : b2 % 64 = b2 - 128 := by omega
      have e5 : b3 % 64 = b3 - 128 := by omega
      have e4 : (b0 - 240) * 262144 + (b1 - 128) * 4096 + (b2 - 128) * 64 + (b3 - 128) = (((b0 - 240) * 64 + (b1 - 128)) * 64 + (b2 - 128)) * 64 + (b3 - 128) := by omega
      rw [if_pos c1, e1, e2, e3, e5, e4]
      generalize (((b0 - 240) * 64 + (b1 - 128)) * 64 + (b2 - 128)) * 64 + (b3 - 128) = c
      have d1 : 3 < n ∧ (128 ≤ b1 ∧ b1 ≤ 191) ∧ (128 ≤ b2 ∧ b2 ≤ 191) ∧ (128 ≤ b3 ∧ b3 ≤ 191) := by omega
      by_cases g : c ≥ 65536 ∧ (c < 55296 ∨ 57344 ≤ c ∧ c ≤ 1114111)
      · rw [if_pos g, if_neg (by omega), if_pos (by omega)]
      · rw [if_neg g, if_pos (Or.inl ⟨rfl, rfl⟩), if_neg (by omega)]
    · rw [if_neg c1, if_pos (Or.inl ⟨rfl, rfl⟩), if_neg (by omega)]
  · rw [if_neg (show ¬ (192 ≤ b0 ∧ b0 < 224) by omega), if_neg (show ¬ (224 ≤ b0 ∧ b0 < 240) by omega), if_neg (show ¬ (240 ≤ b0 ∧ b0 < 248) by omega)]
    simp only [show ¬ b0 / 32 = 6 by omega, show ¬ b0 / 16 = 14 by omega, show ¬ b0 / 8 = 30 by omega, false_and, if_false]
    simp

theorem get_list (l : List UInt8) (i : Nat) : (ByteArray.mk l.toArray).get! i = l.getD i 0 := by
  show l.toArray[i]! = _
  rw [List.getElem!_toArray, List.getElem!_eq_getElem?_getD, List.getD_eq_getElem?_getD]
  rfl

/-- PACKAGE chars' WAY IN NUMBERS. -/
theorem stepD_eq (l : List UInt8) (h : l ≠ []) : stepD l = stepN l.length (l.getD 0 0).toNat (l.getD 1 0).toNat (l.getD 2 0).toNat (l.getD 3 0).toNat := by
  rw [← decodeN_step _ _ _ _ _ (UInt8.toNat_lt _) (UInt8.toNat_lt _) (UInt8.toNat_lt _) (UInt8.toNat_lt _)]
  have hd : Lib.decodeL l = Lib.decodeN l.length (l.getD 0 0).toNat (l.getD 1 0).toNat (l.getD 2 0).toNat (l.getD 3 0).toNat := by
    unfold Lib.decodeL
    rw [Lib.decode_at]
    simp only [get_list]
    rfl
  unfold stepD
  rw [hd]
  generalize Lib.decodeN l.length (l.getD 0 0).toNat (l.getD 1 0).toNat (l.getD 2 0).toNat (l.getD 3 0).toNat = d
  have e : (l = [] ∨ (d.1 = 65533 ∧ d.2 = 1) ∨ vldB (d.1 : Int) = false) ↔ (d.1 = 65533 ∧ d.2 = 1 ∨ ¬ V d.1) := by
    rw [vld_V]
    simp [h]
  by_cases c : d.1 = 65533 ∧ d.2 = 1 ∨ ¬ V d.1
  · rw [if_pos c]
    simp only [e.2 c, if_true]
  · rw [if_neg c]
    simp only [show ¬ (l = [] ∨ (d.1 = 65533 ∧ d.2 = 1) ∨ vldB (d.1 : Int) = false) from fun h => c (e.1 h), if_false]

theorem stepN_le {n b0 b1 b2 b3 c m : Nat} (hn : 1 ≤ n) (h : stepN n b0 b1 b2 b3 = some (c, m)) : 1 ≤ m ∧ m ≤ 4 ∧ m ≤ n ∧ c ≤ 1114111 ∧ V c := by
  unfold stepN at h
  repeat' split at h
  all_goals simp only [Option.some.injEq, Prod.mk.injEq, reduceCtorEq] at h
  all_goals (obtain ⟨rfl, rfl⟩ := h; omega)
theorem stepD_le {l : List UInt8} {c m : Nat} (h : stepD l = some (c, m)) : 1 ≤ m ∧ m ≤ 4 ∧ m ≤ l.length ∧ c ≤ 1114111 ∧ V c := by
  have h0 : l ≠ [] := by
    rintro rfl
    simp [stepD] at h
  rw [stepD_eq l h0] at h
  refine stepN_le ?_ h
  cases l with
  | nil => exact absurd rfl h0
  | cons _ _ => simp
end Go.Proofs.YtiefpdoefdldpaaDoor
