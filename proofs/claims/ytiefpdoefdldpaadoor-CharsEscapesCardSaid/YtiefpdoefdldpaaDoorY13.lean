/- The reference's digit. -/
import Derived.Test.YtiefpdoefdldpaaDoorY12
namespace Go.Proofs.YtiefpdoefdldpaaDoor
open Go.RowKit

def dgI (n b : Int) : Int :=
  if 48 ≤ n ∧ n ≤ 57 then n - 48 else if 97 ≤ n ∧ n ≤ 102 then (if b ≤ n - 97 + 10 then -1 else n - 97 + 10) else if 65 ≤ n ∧ n ≤ 70 then (if b ≤ n - 65 + 10 then -1 else n - 65 + 10) else -1

set_option maxRecDepth 100000 in
set_option maxHeartbeats 2000000 in
theorem digit_any (n b : Int) (h0 : 0 ≤ n) (h255 : n ≤ 255) (hb0 : 10 ≤ b) (hb1 : b ≤ 16) (w : World) :
    Calls Tryd.prog 57 #[.int .u8 n, .int .i64 b] w fun e w' => e = .returned (.int .i64 (dgI n b)) ∧ w' = w := by
  unfold dgI
  by_cases hd : 48 ≤ n ∧ n ≤ 57
  · rw [if_pos hd]
    obtain ⟨d0, d1⟩ := hd
    have e1 : ¬ 97 ≤ n := by omega
    have e2 : ¬ 65 ≤ n := by omega
    have e3 : ¬ b ≤ n - 48 := by omega
    go_enter Tryd.func57, Tryd.ntmps57
    go_wp2
    go_ret
    exact ⟨rfl, rfl⟩
  rw [if_neg hd]
  by_cases hl : 97 ≤ n ∧ n ≤ 102
  · rw [if_pos hl]
    obtain ⟨d0, d1⟩ := hl
    have e1 : ¬ n ≤ 57 := by omega
    have e2 : ¬ n ≤ 70 := by omega
    clear hd
    by_cases hbig : b ≤ n - 97 + 10
    · rw [if_pos hbig]
      go_enter Tryd.func57, Tryd.ntmps57
      go_wp2
      go_ret
      exact ⟨rfl, rfl⟩
    · rw [if_neg hbig]
      go_enter Tryd.func57, Tryd.ntmps57
      go_wp2
      go_ret
      exact ⟨rfl, rfl⟩
  rw [if_neg hl]
  by_cases hu : 65 ≤ n ∧ n ≤ 70
  · rw [if_pos hu]
    obtain ⟨d0, d1⟩ := hu
    have e1 : ¬ n ≤ 57 := by omega
    have e2 : ¬ 97 ≤ n := by omega
    clear hd hl
    by_cases hbig : b ≤ n - 65 + 10
    · rw [if_pos hbig]
      go_enter Tryd.func57, Tryd.ntmps57
      go_wp2
      go_ret
      exact ⟨rfl, rfl⟩
    · rw [if_neg hbig]
      go_enter Tryd.func57, Tryd.ntmps57
      go_wp2
      go_ret
      exact ⟨rfl, rfl⟩
  rw [if_neg hu]
  have e0 : ¬ b ≤ -1 := by omega
  have hcase : n < 48 ∨ (57 < n ∧ n < 65) ∨ (70 < n ∧ n < 97) ∨ 102 < n := by omega
  clear hd hl hu
  rcases hcase with h | ⟨h, h'⟩ | ⟨h, h'⟩ | h
  · go_enter Tryd.func57, Tryd.ntmps57
    go_wp2
    go_ret
    exact ⟨rfl, rfl⟩
  · go_enter Tryd.func57, Tryd.ntmps57
    go_wp2
    go_ret
    exact ⟨rfl, rfl⟩
  · go_enter Tryd.func57, Tryd.ntmps57
    go_wp2
    go_ret
    exact ⟨rfl, rfl⟩
  · go_enter Tryd.func57, Tryd.ntmps57
    go_wp2
    go_ret
    exact ⟨rfl, rfl⟩
end Go.Proofs.YtiefpdoefdldpaaDoor
