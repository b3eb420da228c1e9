/- The reference's digits of two decimals that are divided by 10 equally often; the opposite. -/
import Derived.Laws.Concat
import Derived.Test.YtcpociafcjabkaaGreatDoorI
set_option linter.unusedSimpArgs false
set_option linter.unusedVariables false
namespace Go.Proofs.YtcpociafcjabkaaGreatDoor
open Go.RowKit

theorem num_zeros {s : ByteArray} {n : Nat} (h : IsNum s n) (k : Nat) : IsNum (s ++ zs k) (n * 10 ^ k) := by
  refine ⟨?_, ?_, ?_⟩
  · rw [Joins.data_append, zs_list]
    exact h.all.append (AllD.zeros k)
  · rw [Joins.data_append]
    intro e
    exact h.ne (List.append_eq_nil_iff.1 e).1
  · rw [Joins.data_append, val_append, zs_list, val_zeros, List.length_replicate, h.val, Nat.add_zero]

set_option maxRecDepth 100000 in
set_option maxHeartbeats 2000000 in
theorem same_any (neg1 neg2 : Bool) (a b : ByteArray) (s t : Nat) (ha : a.size ≤ 1000) (hb : b.size ≤ 1000) (hs : s ≤ 1000) (ht : t ≤ 1000) (w : World) :
    Calls Tryz.prog 59 #[.agg #[.bool neg1, .string a, .int .i64 (s : Int)], .agg #[.bool neg2, .string b, .int .i64 (t : Int)]] w fun e w' =>
      e = .returned (.tuple #[.string (a ++ zs (max s t - s)), .string (b ++ zs (max s t - t)), .int .i64 ((max s t : Nat) : Int)]) ∧ Below w.heap.size w w' := by
  have hcase : (s < t ∧ max s t = t) ∨ (t ≤ s ∧ max s t = s) := by omega
  rcases hcase with ⟨h1, h2⟩ | ⟨h1, h2⟩
  · rw [h2]
    clear h2
    have y1 : ¬ 9223372036854775807 < a.size + (zs (t - s)).size := by rw [zs_size]; omega
    have y2 : ¬ 9223372036854775807 < b.size + (zs 0).size := by rw [zs_size]; omega
    have w1 : IntKind.i64.wrap ((t : Int) - s) = ((t : Int) - s) := IntWalk.i64_in _ (by omega)
    have w2 : ((t : Int) - s) ≤ 100000 := by omega
    have h1i : (s : Int) < (t : Int) := by omega
    clear h1
    rw [Nat.sub_self]
    go_enter Tryz.func59, Tryz.ntmps59
    go_wp2_with fail
    go_quiet ((go_at_call 46; exact Calls.quiet_of_same ((zeros_any _ (by omega) _).mono fun e w' h => ⟨h.1, h.2.symm⟩)))
    go_wp2
    go_ret3
    exact ⟨rfl, below_drewN (((Below.refl _ _).alloc (Nat.le_refl _) _).alloc (by simp) _) _⟩
  · rw [h2]
    clear h2
    have y1 : ¬ 9223372036854775807 < b.size + (zs (s - t)).size := by rw [zs_size]; omega
    have y2 : ¬ 9223372036854775807 < a.size + (zs 0).size := by rw [zs_size]; omega
    have w1 : IntKind.i64.wrap ((s : Int) - t) = ((s : Int) - t) := IntWalk.i64_in _ (by omega)
    have w2 : ((s : Int) - t) ≤ 100000 := by omega
    have h1i : (t : Int) ≤ (s : Int) := by omega
    clear h1
    rw [Nat.sub_self]
    go_enter Tryz.func59, Tryz.ntmps59
    go_wp2_with fail
    go_quiet ((go_at_call 46; exact Calls.quiet_of_same ((zeros_any _ (by omega) _).mono fun e w' h => ⟨h.1, h.2.symm⟩)))
    go_wp2
    go_ret3
    exact ⟨rfl, below_drewN (((Below.refl _ _).alloc (Nat.le_refl _) _).alloc (by simp) _) _⟩
end Go.Proofs.YtcpociafcjabkaaGreatDoor
