/- Unescape of Escape is the text. -/
import Derived.Test.YtiefpdoefdldpaaDoorY2
namespace Go.Proofs.YtiefpdoefdldpaaDoor
open Go.RowKit

theorem cut_cons (b s : UInt8) (l : List UInt8) : Lib.cut (b :: l) [s] = if b = s then ([], l, true) else (b :: (Lib.cut l [s]).1, (Lib.cut l [s]).2.1, (Lib.cut l [s]).2.2) := by
  have hp : [s].isPrefixOf (b :: l) = (s == b) := by simp [List.isPrefixOf]
  by_cases h : b = s
  · subst h
    have hi : Lib.index (b :: l) [b] = 0 := by unfold Lib.index; rw [hp]; simp
    unfold Lib.cut
    rw [hi]
    simp
  · have hsb : (s == b) = false := beq_eq_false_iff_ne.2 (fun e => h e.symm)
    have hge := Lib.index_ge l [s]
    have hu : Lib.index (b :: l) [s] = (if ([s].isPrefixOf (b :: l)) = true then 0 else if (Lib.index l [s] == -1) = true then -1 else Lib.index l [s] + 1) := rfl
    rw [hp, hsb] at hu
    rw [if_neg h]
    by_cases h1 : Lib.index l [s] = -1
    · have hi : Lib.index (b :: l) [s] = -1 := by rw [hu, h1]; rfl
      unfold Lib.cut
      rw [hi, h1]
      simp
    · have h2 : (Lib.index l [s] == -1) = false := beq_eq_false_iff_ne.2 h1
      have hi : Lib.index (b :: l) [s] = Lib.index l [s] + 1 := by rw [hu, h2]; rfl
      have e1 : (Lib.index l [s] + 1).toNat = (Lib.index l [s]).toNat + 1 := by omega
      unfold Lib.cut
      rw [hi, if_pos (show 0 ≤ Lib.index l [s] + 1 by omega), if_pos (show 0 ≤ Lib.index l [s] by omega), e1, Nat.add_right_comm]
      simp only [List.take_succ_cons, List.drop_succ_cons]

theorem cut_skip (s : UInt8) : ∀ (p l : List UInt8), s ∉ p → Lib.cut (p ++ l) [s] = (p ++ (Lib.cut l [s]).1, (Lib.cut l [s]).2.1, (Lib.cut l [s]).2.2)
  | [], l, _ => rfl
  | b :: p, l, h => by
    have hb : ¬ b = s := fun e => h (e ▸ List.mem_cons_self)
    rw [List.cons_append, cut_cons, if_neg hb, cut_skip s p l (fun hm => h (List.mem_cons_of_mem _ hm))]
    rfl
theorem cut_at (s : UInt8) (p l : List UInt8) (h : s ∉ p) : Lib.cut (p ++ s :: l) [s] = (p, l, true) := by
  rw [cut_skip s p _ h, cut_cons, if_pos rfl, List.append_nil]

/-- What stands before may as well have been written already. -/
theorem ug_acc (E : List UInt8 → Int) (S f : Nat) (acc p be re : List UInt8) (fd : Bool) : ug E S f acc (p ++ be) re fd = ug E S f (acc ++ p) be re fd := by
  cases f with
  | zero => rfl
  | succ f =>
    cases fd with
    | false => simp only [ug, List.append_assoc]
    | true => simp only [ug, List.append_assoc]

/-- The words of the escapes that Escape writes. -/
def wordOf (attr : Bool) (c : Int) : Option (List UInt8) :=
  if c = 60 then some [108, 116] else if c = 62 then some [103, 116] else if c = 38 then some [97, 109, 112] else if c = 13 then some [35, 49, 51]
  else if attr = true ∧ c = 34 then some [113, 117, 111, 116] else if attr = true ∧ c = 9 then some [35, 57] else if attr = true ∧ c = 10 then some [35, 49, 48] else none
def bkE (l : List UInt8) : Int :=
  if l = [108, 116] then 60 else if l = [103, 116] then 62 else if l = [97, 109, 112] then 38 else if l = [113, 117, 111, 116] then 34
  else if l = [35, 49, 51] then 13 else if l = [35, 57] then 9 else if l = [35, 49, 48] then 10 else -1
def bkOk (l : List UInt8) : Bool := bkE l != -1

theorem esc_word (attr : Bool) (c : Int) : (escL attr c = none ∧ wordOf attr c = none ∧ c ≠ 38) ∨
    ∃ wd, escL attr c = some (38 :: (wd ++ [59])) ∧ bkE wd = c ∧ (38 : UInt8) ∉ wd ∧ (59 : UInt8) ∉ wd ∧ bkOk wd = true := by
  unfold escL wordOf
  by_cases h0 : c = 60
  · subst h0; exact .inr ⟨[108, 116], rfl, rfl, by decide, by decide, rfl⟩
  by_cases h1 : c = 62
  · subst h1; exact .inr ⟨[103, 116], rfl, rfl, by decide, by decide, rfl⟩
  by_cases h2 : c = 38
  · subst h2; exact .inr ⟨[97, 109, 112], rfl, rfl, by decide, by decide, rfl⟩
  by_cases h3 : c = 13
  · subst h3; exact .inr ⟨[35, 49, 51], rfl, rfl, by decide, by decide, rfl⟩
  rw [if_neg h0, if_neg h1, if_neg h2, if_neg h3, if_neg h0, if_neg h1, if_neg h2, if_neg h3]
  by_cases h4 : attr = true ∧ c = 34
  · obtain ⟨rfl, rfl⟩ := h4; exact .inr ⟨[113, 117, 111, 116], rfl, rfl, by decide, by decide, rfl⟩
  by_cases h5 : attr = true ∧ c = 9
  · obtain ⟨rfl, rfl⟩ := h5; exact .inr ⟨[35, 57], rfl, rfl, by decide, by decide, rfl⟩
  by_cases h6 : attr = true ∧ c = 10
  · obtain ⟨rfl, rfl⟩ := h6; exact .inr ⟨[35, 49, 48], rfl, rfl, by decide, by decide, rfl⟩
  rw [if_neg h4, if_neg h5, if_neg h6, if_neg h4, if_neg h5, if_neg h6]
  exact .inl ⟨rfl, rfl, h2⟩

theorem no_amp {c : Nat} (h : c ≠ 38) (hm : c ≤ 1114111) : (38 : UInt8) ∉ bytesL c := by
  have key : ∀ n : Nat, n < 256 → n ≠ 38 → ¬ (38 : UInt8) = UInt8.ofNat n := fun n hn h e => by
    have := congrArg UInt8.toNat e
    rw [ofNat_toNat hn] at this
    exact h this.symm
  unfold bytesL
  split
  · simp only [List.mem_singleton]
    exact key c (by omega) h
  split
  · simp only [List.mem_cons, List.mem_nil_iff, or_false, not_or]
    exact ⟨key _ (by omega) (by omega), key _ (by omega) (by omega)⟩
  split
  · simp only [List.mem_cons, List.mem_nil_iff, or_false, not_or]
    exact ⟨key _ (by omega) (by omega), key _ (by omega) (by omega), key _ (by omega) (by omega)⟩
  · simp only [List.mem_cons, List.mem_nil_iff, or_false, not_or]
    exact ⟨key _ (by omega) (by omega), key _ (by omega) (by omega), key _ (by omega) (by omega), key _ (by omega) (by omega)⟩

/-- The text with escapes, of characters. -/
def escAll (attr : Bool) (zs : List Int) : List UInt8 := zs.flatMap (encB attr)
theorem escAll_cons (attr : Bool) (c : Int) (zs : List Int) : escAll attr (c :: zs) = encB attr c ++ escAll attr zs := rfl

theorem unesc_esc (attr : Bool) (S : Nat) : ∀ (zs : List Int), zs.all vldB = true → ∀ (f : Nat) (acc : List UInt8), (escAll attr zs).length < f →
    ug bkE S f acc (Lib.cut (escAll attr zs) [38]).1 (Lib.cut (escAll attr zs) [38]).2.1 (Lib.cut (escAll attr zs) [38]).2.2 = (acc ++ encAll zs, 0, 0) ∧
    uok bkE bkOk f (Lib.cut (escAll attr zs) [38]).2.1 (Lib.cut (escAll attr zs) [38]).2.2 = true
  | [], _, f, acc, hf => by
    obtain ⟨f, rfl⟩ : ∃ g, f = g + 1 := ⟨f - 1, by omega⟩
    exact ⟨rfl, rfl⟩
  | c :: zs, hv, f, acc, hf => by
    rw [List.all_cons, Bool.and_eq_true] at hv
    obtain ⟨n, rfl, hV, hn⟩ := vld_nat hv.1
    rw [escAll_cons, List.length_append] at hf
    rw [escAll_cons, encAll_cons, Int.toNat_natCast]
    rcases esc_word attr (n : Int) with ⟨h1, _, h38⟩ | ⟨wd, h1, hE, hw38, hw59, hwok⟩
    · have he : encB attr (n : Int) = bytesL n := by unfold encB; rw [h1]; rfl
      rw [he] at hf ⊢
      have ih := unesc_esc attr S zs hv.2 f (acc ++ bytesL n) (by omega)
      rw [cut_skip 38 (bytesL n) _ (no_amp (by omega) hn)]
      simp only
      rw [ug_acc, ih.1, List.append_assoc]
      exact ⟨rfl, ih.2⟩
    · have he : encB attr (n : Int) = 38 :: (wd ++ [59]) := by unfold encB; rw [h1]; rfl
      rw [he] at hf ⊢
      obtain ⟨g, rfl⟩ : ∃ g, f = g + 1 := ⟨f - 1, by omega⟩
      have ih := unesc_esc attr S zs hv.2 g (acc ++ [] ++ bytesL n) (by simp only [List.length_cons] at hf; omega)
      have hc1 : Lib.cut (38 :: (wd ++ [59]) ++ escAll attr zs) [38] = ([], wd ++ 59 :: escAll attr zs, true) := by
        have h2 := cut_at 38 [] (wd ++ 59 :: escAll attr zs) (by simp)
        simpa using h2
      have hc2 : Lib.cut (wd ++ 59 :: escAll attr zs) [59] = (wd, escAll attr zs, true) := cut_at 59 wd _ hw59
      rw [hc1]
      simp only [ug, uok, hc2, hE, Int.toNat_natCast]
      have hno : ¬ (true = false ∨ (n : Int) = -1) := by
        intro h
        rcases h with h | h
        · cases h
        · omega
      rw [if_neg hno, ih.1, hwok, ih.2]
      refine ⟨?_, by simp⟩
      rw [List.append_nil, List.append_assoc]
end Go.Proofs.YtiefpdoefdldpaaDoor
