/- The reference's character of an escape, at every word. -/
import Derived.Test.YtiefpdoefdldpaaDoorY16
namespace Go.Proofs.YtiefpdoefdldpaaDoor
open Go.RowKit

/-- The reference's number. -/
def rfN (b : Int) : Int → List UInt8 → Option Int
  | acc, [] => some acc
  | acc, c :: l => if dgI (c.toNat : Int) b < 0 then none else rfN b (min (acc * b + dgI (c.toNat : Int) b) 2000000) l

theorem dig_both (bn : Nat) (hb : bn = 10 ∨ bn = 16) (c : UInt8) :
    (∃ d, digV c.toNat = some d ∧ d < bn ∧ dgI (c.toNat : Int) (bn : Int) = (d : Int)) ∨ ((digV c.toNat = none ∨ ∃ d, digV c.toNat = some d ∧ bn ≤ d) ∧ dgI (c.toNat : Int) (bn : Int) = -1) := by
  have k10 : ∀ m : Fin 256, dgI (m.val : Int) 10 = (match digV m.val with | some d => if d < 10 then (d : Int) else -1 | none => -1) := by decide +kernel
  have k16 : ∀ m : Fin 256, dgI (m.val : Int) 16 = (match digV m.val with | some d => if d < 16 then (d : Int) else -1 | none => -1) := by decide +kernel
  rcases hb with rfl | rfl
  · have h := k10 ⟨c.toNat, c.toNat_lt⟩
    simp only at h
    cases hv : digV c.toNat with
    | none => rw [hv] at h; exact .inr ⟨.inl rfl, h⟩
    | some d =>
      rw [hv] at h
      simp only at h
      by_cases hd : d < 10
      · rw [if_pos hd] at h; exact .inl ⟨d, rfl, hd, h⟩
      · rw [if_neg hd] at h; exact .inr ⟨.inr ⟨d, rfl, by omega⟩, h⟩
  · have h := k16 ⟨c.toNat, c.toNat_lt⟩
    simp only at h
    cases hv : digV c.toNat with
    | none => rw [hv] at h; exact .inr ⟨.inl rfl, h⟩
    | some d =>
      rw [hv] at h
      simp only at h
      by_cases hd : d < 16
      · rw [if_pos hd] at h; exact .inl ⟨d, rfl, hd, h⟩
      · rw [if_neg hd] at h; exact .inr ⟨.inr ⟨d, rfl, by omega⟩, h⟩

theorem rfN_clip (bn : Nat) (hb : bn = 10 ∨ bn = 16) : ∀ (l : List UInt8), rfN (bn : Int) 2000000 l = none ∨ rfN (bn : Int) 2000000 l = some 2000000
  | [] => .inr rfl
  | c :: l => by
    simp only [rfN]
    rcases dig_both bn hb c with ⟨d, _, hd, he⟩ | ⟨_, he⟩
    · rw [he, if_neg (by omega)]
      have : min ((2000000 : Int) * (bn : Int) + (d : Int)) 2000000 = 2000000 := by rcases hb with rfl | rfl <;> omega
      rw [this]
      exact rfN_clip bn hb l
    · rw [he, if_pos (by omega)]
      exact .inl rfl

theorem rf_pu (bn : Nat) (hb : bn = 10 ∨ bn = 16) : ∀ (l : List UInt8) (acc : Nat),
    (∀ n, pu bn acc l = some n → rfN (bn : Int) (min (acc : Int) 2000000) l = some (min (n : Int) 2000000)) ∧
    (pu bn acc l = none → rfN (bn : Int) (min (acc : Int) 2000000) l = none ∨ rfN (bn : Int) (min (acc : Int) 2000000) l = some 2000000)
  | [], acc => by
    refine ⟨fun n h => ?_, fun h => by cases h⟩
    simp only [pu, Option.some.injEq] at h
    subst h
    rfl
  | c :: l, acc => by
    simp only [pu, rfN]
    rcases dig_both bn hb c with ⟨d, hv, hd, he⟩ | ⟨hv, he⟩
    · rw [hv, he]
      simp only
      rw [if_neg (show ¬ (d : Int) < 0 by omega)]
      have ih := rf_pu bn hb l (acc * bn + d)
      have hm : min (min (acc : Int) 2000000 * (bn : Int) + (d : Int)) 2000000 = min ((acc * bn + d : Nat) : Int) 2000000 := by
        rcases hb with rfl | rfl <;> omega
      rw [hm]
      by_cases hov : 2147483647 < acc * bn + d
      · rw [if_pos (.inr hov)]
        refine ⟨fun n h => (by cases h), fun _ => ?_⟩
        have : min ((acc * bn + d : Nat) : Int) 2000000 = 2000000 := by omega
        rw [this]
        exact rfN_clip bn hb l
      · rw [if_neg (by omega)]
        exact ih
    · rw [he, if_pos (by omega)]
      rcases hv with hv | ⟨d, hv, hd⟩
      · rw [hv]
        exact ⟨fun n h => (by cases h), fun _ => by first | exact .inl rfl | exact .inl trivial⟩
      · rw [hv]
        simp only
        rw [if_pos (Or.inl hd)]
        exact ⟨fun n h => (by cases h), fun _ => by first | exact .inl rfl | exact .inl trivial⟩

/-- What the reference makes of a number. -/
def rnE (b : Int) (d : List UInt8) : Int := match rfN b 0 d with
  | none => -1
  | some n => if rvldB n then n else -1
theorem rvld_big : rvldB 2000000 = false := by decide
theorem rnE_eq (bn : Nat) (hb : bn = 10 ∨ bn = 16) (d : List UInt8) (hd : ¬ (d = [] ∨ 20 < d.length)) : numE bn d = rnE (bn : Int) d := by
  have h := rf_pu bn hb d 0
  unfold numE rnE
  rw [if_neg hd]
  have h0 : min ((0 : Nat) : Int) 2000000 = 0 := by omega
  rw [h0] at h
  cases hp : pu bn 0 d with
  | none =>
    rcases h.2 hp with h1 | h1
    · rw [h1]
    · rw [h1]
      simp only [rvld_big]
      rfl
  | some n =>
    rw [h.1 n hp]
    simp only [vld_eq]
    by_cases hn : (n : Int) ≤ 2000000
    · rw [show min (n : Int) 2000000 = (n : Int) by omega]
    · rw [show min (n : Int) 2000000 = 2000000 by omega, rvld_big]
      have : rvldB (n : Int) = false := by
        cases hv : rvldB (n : Int) with
        | false => rfl
        | true =>
          rw [← vld_eq] at hv
          obtain ⟨m, hm, _, hle⟩ := vld_nat hv
          omega
      rw [this]
      rfl

end Go.Proofs.YtiefpdoefdldpaaDoor
