/- The reference's Next, at every string: it finds what package chars finds. -/
import Derived.Test.YtiefpdoefdldpaaDoorG2
namespace Go.Proofs.YtiefpdoefdldpaaDoor
open Go.RowKit

theorem stepR_bad {l : List UInt8} {c : Int} (hf : foundR l = some c) (hv : vldB c = false) : stepR l = none := by
  unfold stepR
  rw [hf]
  simp [hv]
theorem stepR_long {l : List UInt8} {c : Int} (hf : foundR l = some c) (h : ¬ (bytesL c.toNat).length ≤ l.length) : stepR l = none := by
  unfold stepR
  rw [hf]
  simp only [h, false_and, and_false, if_false]
theorem stepR_same {l : List UInt8} {c : Int} (hf : foundR l = some c) (hv : vldB c = true) (h : (bytesL c.toNat).length ≤ l.length) :
    stepR l = if (l.take (bytesL c.toNat).length == bytesL c.toNat) = true then some (c.toNat, (bytesL c.toNat).length) else none := by
  unfold stepR
  rw [hf]
  simp only [hv, h, true_and, beq_iff_eq]

theorem vld_range {c : Int} (hv : vldB c = true) : 0 ≤ c ∧ c ≤ 1114111 := by
  rw [vld_eq] at hv
  unfold rvldB at hv
  simp only [Bool.or_eq_true, beq_iff_eq, decide_eq_true_eq] at hv
  omega

/-- The three ends of Next behind a number that has been found. -/
theorem next_of (s : ByteArray) (c : Int) (w : World) (hf : foundR s.data.toList = some c)
    (cbad : rvldB c = false → Calls Tryd.prog 32 #[.string s] w fun e w' => e = .returned (.tuple #[.int .i32 0, .bool false]) ∧ Below w.heap.size w w')
    (clong : rvldB c = true → ∀ B : ByteArray, (∀ X : World, Calls Tryd.prog 33 #[.int .i32 c] X fun e w' => e = .returned (.string B) ∧ Below X.heap.size X w') → ¬ ((B.size : Int) ≤ (s.size : Int)) →
      Calls Tryd.prog 32 #[.string s] w fun e w' => e = .returned (.tuple #[.int .i32 c, .bool false]) ∧ Below w.heap.size w w')
    (csame : rvldB c = true → ∀ B : ByteArray, (∀ X : World, Calls Tryd.prog 33 #[.int .i32 c] X fun e w' => e = .returned (.string B) ∧ Below X.heap.size X w') → (B.size : Int) ≤ (s.size : Int) → ∀ b : Bool, ((s.extract 0 B.size).toList == B.toList) = b →
      Calls Tryd.prog 32 #[.string s] w fun e w' => e = .returned (.tuple #[.int .i32 c, .bool b]) ∧ Below w.heap.size w w') :
    Calls Tryd.prog 32 #[.string s] w (NextPost s.data.toList w) := by
  cases hv : vldB c with
  | false =>
    refine (cbad (by rw [← vld_eq]; exact hv)).mono fun e w' ⟨he, hb⟩ => ⟨?_, hb⟩
    rw [stepR_bad hf hv]
    exact ⟨_, he⟩
  | true =>
    have hr := vld_range hv
    have cB : ∀ X : World, Calls Tryd.prog 33 #[.int .i32 c] X fun e w' => e = .returned (.string ⟨(bytesL c.toNat).toArray⟩) ∧ Below X.heap.size X w' := fun X => by
      have h := bytes_any c.toNat (by omega) X
      rw [Int.toNat_of_nonneg hr.1] at h
      exact h
    have hBs : (ByteArray.mk (bytesL c.toNat).toArray).size = (bytesL c.toNat).length := by simp [ByteArray.size]
    have hBl : (ByteArray.mk (bytesL c.toNat).toArray).toList = bytesL c.toNat := by rw [Lib.toList_data]
    have hsz : s.size = s.data.toList.length := by simp
    by_cases hle : (bytesL c.toNat).length ≤ s.data.toList.length
    · refine (csame (by rw [← vld_eq]; exact hv) _ cB (by rw [hBs, hsz]; omega) _ rfl).mono fun e w' ⟨he, hb⟩ => ⟨?_, hb⟩
      rw [stepR_same hf hv hle]
      rw [hBs, hBl, Lib.toList_data, Lib.extract_data, List.drop_zero, Nat.sub_zero] at he
      cases hq : (List.take (bytesL c.toNat).length s.data.toList == bytesL c.toNat) with
      | false =>
        rw [hq] at he
        exact ⟨_, he⟩
      | true =>
        rw [hq] at he
        simp only [if_true]
        rw [he, Int.toNat_of_nonneg hr.1]
    · refine (clong (by rw [← vld_eq]; exact hv) _ cB (by rw [hBs, hsz]; omega)).mono fun e w' ⟨he, hb⟩ => ⟨?_, hb⟩
      rw [stepR_long hf hle]
      exact ⟨_, he⟩

theorem head_get (s : ByteArray) (h0 : 0 < s.size) : s.data.toList.getD 0 0 = s[0] := by
  rw [List.getD_eq_getElem?_getD, List.getElem?_eq_getElem (by simpa using h0)]
  rfl

/-- **Next, AT EVERY STRING THAT IS NOT EMPTY.** -/
theorem next_any (s : ByteArray) (hs : s.size ≤ maxLen) (h0 : 0 < s.size) (w : World) : Calls Tryd.prog 32 #[.string s] w (NextPost s.data.toList w) := by
  have hx := head_get s h0
  have hlt := UInt8.toNat_lt s[0]
  have foundN : ∀ (hn : foundR s.data.toList = none), (Calls Tryd.prog 32 #[.string s] w fun e w' => e = .returned (.tuple #[.int .i32 0, .bool false]) ∧ Below w.heap.size w w') → Calls Tryd.prog 32 #[.string s] w (NextPost s.data.toList w) := fun hn h => h.mono fun e w' ⟨he, hb⟩ => ⟨by
    have : stepR s.data.toList = none := by unfold stepR; rw [hn]
    rw [this]
    exact ⟨_, he⟩, hb⟩
  by_cases a1 : s[0].toNat < 128
  · have hf : foundR s.data.toList = some (s[0].toNat : Int) := by unfold foundR; rw [hx, if_pos a1]
    exact next_of s _ w hf (fun hv => next_A_bad s h0 (by omega) hv w) (fun hv B cB hle => next_A_long s h0 (by omega) hv B w cB hle) (fun hv B cB hle b hb => next_A_same s h0 (by omega) hv B w cB hle b hb)
  by_cases a2 : 192 ≤ s[0].toNat ∧ s[0].toNat < 224
  · have hf : foundR s.data.toList = moreR ((s[0].toNat - 192 : Nat) : Int) s.data.toList 1 := by unfold foundR; rw [hx, if_neg a1, if_pos a2]
    have hn : ((s[0].toNat - 192 : Nat) : Int) = (s[0].toNat : Int) - 192 := by omega
    have cM : ∀ X : World, Calls Tryd.prog 51 #[.int .i32 ((s[0].toNat : Int) - 192), .string s, .int .i64 1] X fun e w' => e = .returned (.tuple #[.int .i32 (optI (moreR ((s[0].toNat - 192 : Nat) : Int) s.data.toList 1)), .bool (optB (moreR ((s[0].toNat - 192 : Nat) : Int) s.data.toList 1))]) ∧ w' = X := fun X => by
      rw [← hn]
      exact more_any _ (by omega) (by omega) s hs 1 (by omega) (by omega) X
    cases hm : moreR ((s[0].toNat - 192 : Nat) : Int) s.data.toList 1 with
    | none =>
      rw [hm] at hf cM
      exact foundN hf (next_1_none s h0 (by omega) (by omega) w _ cM)
    | some c =>
      rw [hm] at hf cM
      exact next_of s c w hf (fun hv => next_1_bad s h0 (by omega) (by omega) c cM hv w) (fun hv B cB hle => next_1_long s h0 (by omega) (by omega) c cM hv B w cB hle) (fun hv B cB hle b hb => next_1_same s h0 (by omega) (by omega) c cM hv B w cB hle b hb)
  by_cases a3 : 224 ≤ s[0].toNat ∧ s[0].toNat < 240
  · have hf : foundR s.data.toList = moreR ((s[0].toNat - 224 : Nat) : Int) s.data.toList 2 := by unfold foundR; rw [hx, if_neg a1, if_neg a2, if_pos a3]
    have hn : ((s[0].toNat - 224 : Nat) : Int) = (s[0].toNat : Int) - 224 := by omega
    have cM : ∀ X : World, Calls Tryd.prog 51 #[.int .i32 ((s[0].toNat : Int) - 224), .string s, .int .i64 2] X fun e w' => e = .returned (.tuple #[.int .i32 (optI (moreR ((s[0].toNat - 224 : Nat) : Int) s.data.toList 2)), .bool (optB (moreR ((s[0].toNat - 224 : Nat) : Int) s.data.toList 2))]) ∧ w' = X := fun X => by
      rw [← hn]
      exact more_any _ (by omega) (by omega) s hs 2 (by omega) (by omega) X
    cases hm : moreR ((s[0].toNat - 224 : Nat) : Int) s.data.toList 2 with
    | none =>
      rw [hm] at hf cM
      exact foundN hf (next_2_none s h0 (by omega) (by omega) w _ cM)
    | some c =>
      rw [hm] at hf cM
      exact next_of s c w hf (fun hv => next_2_bad s h0 (by omega) (by omega) c cM hv w) (fun hv B cB hle => next_2_long s h0 (by omega) (by omega) c cM hv B w cB hle) (fun hv B cB hle b hb => next_2_same s h0 (by omega) (by omega) c cM hv B w cB hle b hb)
  by_cases a4 : 240 ≤ s[0].toNat ∧ s[0].toNat < 248
  · have hf : foundR s.data.toList = moreR ((s[0].toNat - 240 : Nat) : Int) s.data.toList 3 := by unfold foundR; rw [hx, if_neg a1, if_neg a2, if_neg a3, if_pos a4]
    have hn : ((s[0].toNat - 240 : Nat) : Int) = (s[0].toNat : Int) - 240 := by omega
    have cM : ∀ X : World, Calls Tryd.prog 51 #[.int .i32 ((s[0].toNat : Int) - 240), .string s, .int .i64 3] X fun e w' => e = .returned (.tuple #[.int .i32 (optI (moreR ((s[0].toNat - 240 : Nat) : Int) s.data.toList 3)), .bool (optB (moreR ((s[0].toNat - 240 : Nat) : Int) s.data.toList 3))]) ∧ w' = X := fun X => by
      rw [← hn]
      exact more_any _ (by omega) (by omega) s hs 3 (by omega) (by omega) X
    cases hm : moreR ((s[0].toNat - 240 : Nat) : Int) s.data.toList 3 with
    | none =>
      rw [hm] at hf cM
      exact foundN hf (next_3_none s h0 (by omega) (by omega) w _ cM)
    | some c =>
      rw [hm] at hf cM
      exact next_of s c w hf (fun hv => next_3_bad s h0 (by omega) (by omega) c cM hv w) (fun hv B cB hle => next_3_long s h0 (by omega) (by omega) c cM hv B w cB hle) (fun hv B cB hle b hb => next_3_same s h0 (by omega) (by omega) c cM hv B w cB hle b hb)
  · have hf : foundR s.data.toList = none := by unfold foundR; rw [hx, if_neg a1, if_neg a2, if_neg a3, if_neg a4]
    exact foundN hf (next_no s h0 (by omega) (by omega) w)
end Go.Proofs.YtiefpdoefdldpaaDoor
