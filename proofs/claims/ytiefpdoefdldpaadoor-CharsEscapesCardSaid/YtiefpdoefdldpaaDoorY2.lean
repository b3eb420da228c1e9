/- Texts and their characters: what is decoded is encoded back, and the other way round. -/
import Derived.Test.YtiefpdoefdldpaaDoorZ
namespace Go.Proofs.YtiefpdoefdldpaaDoor
open Go.RowKit

theorem ofNat_toNat {n : Nat} (h : n < 256) : (UInt8.ofNat n).toNat = n := by
  simpa using Nat.mod_eq_of_lt h

theorem stepD_enc {c : Nat} (hv : V c) (r : List UInt8) : stepD (bytesL c ++ r) = some (c, (bytesL c).length) := by
  have hne : bytesL c ++ r ≠ [] := by
    unfold bytesL
    repeat' split
    all_goals simp
  rw [stepD_eq _ hne]
  unfold bytesL
  by_cases h1 : c < 128
  · rw [if_pos h1]
    simp only [List.cons_append, List.nil_append, List.getD_cons_zero, List.length_cons, List.length_nil]
    rw [ofNat_toNat (by omega)]
    unfold stepN
    rw [if_pos h1, if_pos hv]
  by_cases h2 : c < 2048
  · rw [if_neg h1, if_pos h2]
    simp only [List.cons_append, List.nil_append, List.getD_cons_zero, List.getD_cons_succ, List.length_cons, List.length_nil]
    rw [ofNat_toNat (show 192 + c / 64 < 256 by omega), ofNat_toNat (show 128 + c % 64 < 256 by omega)]
    unfold stepN
    rw [if_neg (by omega), if_pos (by omega), if_pos (by omega)]
    have e : (192 + c / 64 - 192) * 64 + (128 + c % 64 - 128) = c := by omega
    rw [e]
  by_cases h3 : c < 65536
  · rw [if_neg h1, if_neg h2, if_pos h3]
    simp only [List.cons_append, List.nil_append, List.getD_cons_zero, List.getD_cons_succ, List.length_cons, List.length_nil]
    rw [ofNat_toNat (show 224 + c / 4096 < 256 by omega), ofNat_toNat (show 128 + c / 64 % 64 < 256 by omega), ofNat_toNat (show 128 + c % 64 < 256 by omega)]
    have e : ((224 + c / 4096 - 224) * 64 + (128 + c / 64 % 64 - 128)) * 64 + (128 + c % 64 - 128) = c := by omega
    unfold stepN
    rw [if_neg (by omega), if_neg (by omega), if_pos (by omega), e, if_pos ⟨by omega, by omega, by omega, by omega, hv⟩]
  · have hm : c ≤ 1114111 := by omega
    rw [if_neg h1, if_neg h2, if_neg h3]
    simp only [List.cons_append, List.nil_append, List.getD_cons_zero, List.getD_cons_succ, List.length_cons, List.length_nil]
    rw [ofNat_toNat (show 240 + c / 262144 < 256 by omega), ofNat_toNat (show 128 + c / 4096 % 64 < 256 by omega), ofNat_toNat (show 128 + c / 64 % 64 < 256 by omega), ofNat_toNat (show 128 + c % 64 < 256 by omega)]
    have e : (((240 + c / 262144 - 240) * 64 + (128 + c / 4096 % 64 - 128)) * 64 + (128 + c / 64 % 64 - 128)) * 64 + (128 + c % 64 - 128) = c := by omega
    unfold stepN
    rw [if_neg (by omega), if_neg (by omega), if_neg (by omega), if_pos (by omega), e, if_pos ⟨by omega, by omega, by omega, by omega, by omega, hm⟩]

theorem stepD_take {l : List UInt8} {c n : Nat} (h : stepD l = some (c, n)) : l.take n = bytesL c ∧ n = (bytesL c).length := by
  have h0 : l ≠ [] := (stepD_some h).1
  rw [← stepR_eq l h0] at h
  unfold stepR at h
  split at h
  · cases h
  · split at h
    · rename_i hx
      simp only [Option.some.injEq, Prod.mk.injEq] at h
      obtain ⟨h1, h2⟩ := h
      rw [← h2, ← h1]
      exact ⟨hx.2.2, rfl⟩
    · cases h

theorem encAll_cons (c : Int) (zs : List Int) : encAll (c :: zs) = bytesL c.toNat ++ encAll zs := rfl
theorem bytesL_pos (c : Nat) : 1 ≤ (bytesL c).length := by
  unfold bytesL
  repeat' split
  all_goals simp

theorem enc_dec : ∀ (f k : Nat) (l : List UInt8), l.length ≤ f → (∀ x ∈ charsGo f k l, x.2 ≠ -1) → encAll ((charsGo f k l).map (·.2)) = l ∧ ((charsGo f k l).map (·.2)).all vldB = true
  | 0, k, l, hl, _ => by
    have : l = [] := List.eq_nil_of_length_eq_zero (by omega)
    subst this
    exact ⟨rfl, rfl⟩
  | f + 1, k, l, hl, hg => by
    unfold charsGo at hg ⊢
    by_cases h0 : l = []
    · subst h0
      exact ⟨rfl, rfl⟩
    · rw [if_neg h0] at hg ⊢
      cases hs : stepD l with
      | none =>
        rw [hs] at hg
        exact absurd rfl (hg (k, -1) (by simp))
      | some cn =>
        obtain ⟨c, n⟩ := cn
        rw [hs] at hg
        obtain ⟨h1, h2⟩ := stepD_take hs
        have hp := bytesL_pos c
        have hv := (stepD_some hs).2.2.1
        have ih := enc_dec f (k + n) (l.drop n) (by rw [List.length_drop]; omega) (fun x hx => hg x (List.mem_cons_of_mem _ hx))
        simp only [List.map_cons]
        refine ⟨?_, ?_⟩
        · rw [encAll_cons, ih.1, Int.toNat_natCast, ← h1, List.take_append_drop]
        · rw [List.all_cons, ih.2, hv]
          rfl

theorem dec_enc : ∀ (zs : List Int), zs.all vldB = true → ∀ f k, (encAll zs).length ≤ f → (charsGo f k (encAll zs)).map (·.2) = zs
  | [], _, f, k, _ => by
    cases f with
    | zero => rfl
    | succ f => rfl
  | c :: zs, hv, f, k, hl => by
    rw [List.all_cons, Bool.and_eq_true] at hv
    obtain ⟨n, rfl, hV, _⟩ := vld_nat hv.1
    have hp := bytesL_pos n
    rw [encAll_cons, Int.toNat_natCast] at hl ⊢
    rw [List.length_append] at hl
    obtain ⟨f, rfl⟩ : ∃ f', f = f' + 1 := ⟨f - 1, by omega⟩
    have hne : bytesL n ++ encAll zs ≠ [] := by
      intro e
      have := congrArg List.length e
      rw [List.length_append, List.length_nil] at this
      omega
    unfold charsGo
    rw [if_neg hne, stepD_enc hV]
    simp only [List.map_cons, List.drop_left]
    rw [dec_enc zs hv.2 f _ (by omega)]

theorem back_text {l : List UInt8} (h : decBad l = false) : encAll (decL l) = l ∧ (decL l).all vldB = true := by
  have hg : ∀ x ∈ charsOf l, x.2 ≠ -1 := by
    intro x hx e
    have : decBad l = true := List.any_eq_true.2 ⟨x, hx, by simp [isBad, e]⟩
    rw [h] at this
    cases this
  have hL : decL l = (charsOf l).map (·.2) := by unfold decL; rw [h]; rfl
  rw [hL]
  exact enc_dec l.length 0 l (Nat.le_refl _) hg
theorem back_list {zs : List Int} (h : zs.all vldB = true) : decBad (encAll zs) = false ∧ decL (encAll zs) = zs := by
  have hm := dec_enc zs h (encAll zs).length 0 (Nat.le_refl _)
  have hbad : decBad (encAll zs) = false := by
    rw [Bool.eq_false_iff]
    intro hb
    obtain ⟨x, hx, h2⟩ := List.any_eq_true.1 hb
    have hx2 : x.2 ∈ zs := by rw [← hm]; exact List.mem_map_of_mem hx
    have hv := List.all_eq_true.1 h _ hx2
    have e : x.2 = -1 := by simpa [isBad] using h2
    rw [e] at hv
    exact absurd hv (by decide)
  refine ⟨hbad, ?_⟩
  unfold decL
  rw [hbad]
  exact hm
end Go.Proofs.YtiefpdoefdldpaaDoor
