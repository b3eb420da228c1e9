/- The reference's Next, at the characters of three and of four bytes. -/
import Derived.BigQuiet
import Derived.Deep.QuietTactic
import Derived.Lib.Hide
import Derived.Test.YtiefpdoefdldpaaDoorG
namespace Go.Proofs.YtiefpdoefdldpaaDoor
open Go.RowKit

set_option maxRecDepth 100000 in
set_option maxHeartbeats 1000000 in
theorem next_2_bad (s : ByteArray) (h0 : 0 < s.size) (ha : 224 ≤ (s[0].toNat : Int)) (hz : (s[0].toNat : Int) < 240) (c : Int) (cM : ∀ X : World, Calls Tryd.prog 51 #[.int .i32 ((s[0].toNat : Int) - 224), .string s, .int .i64 2] X fun e w' => e = .returned (.tuple #[.int .i32 c, .bool true]) ∧ w' = X) (hv : rvldB c = false) (w : World) :
    Calls Tryd.prog 32 #[.string s] w fun e w' => e = .returned (.tuple #[.int .i32 0, .bool false]) ∧ Below w.heap.size w w' := by
  have hne := ne_of_pos h0
  have h1 : 128 ≤ (s[0].toNat : Int) := by omega
  have h2 : 192 ≤ (s[0].toNat : Int) := by omega
  have h5 : ¬ ((s[0].toNat : Int) < 224) := by omega
  have h4 : ¬ (240 ≤ (s[0].toNat : Int)) := by omega
  have cV := fun X : World => rvalid_any c X
  rw [hv] at cV
  clear hv
  go_enter Tryd.func32, Tryd.ntmps32
  go_wp2_with (first | (go_at_call 51; refine (cM _).mono ?_; rintro e w0 ⟨rfl, rfl⟩) | (go_at_call 9; refine (cV _).mono ?_; rintro e w1 ⟨rfl, rfl⟩))
  go_ret2
  exact ⟨rfl, Below.refl _ _⟩

set_option maxRecDepth 100000 in
set_option maxHeartbeats 1000000 in
theorem next_2_long (s : ByteArray) (h0 : 0 < s.size) (ha : 224 ≤ (s[0].toNat : Int)) (hz : (s[0].toNat : Int) < 240) (c : Int) (cM : ∀ X : World, Calls Tryd.prog 51 #[.int .i32 ((s[0].toNat : Int) - 224), .string s, .int .i64 2] X fun e w' => e = .returned (.tuple #[.int .i32 c, .bool true]) ∧ w' = X) (hv : rvldB c = true) (B : ByteArray) (w : World)
    (cB : ∀ X : World, Calls Tryd.prog 33 #[.int .i32 c] X fun e w' => e = .returned (.string B) ∧ Below X.heap.size X w') (hle : ¬ ((B.size : Int) ≤ (s.size : Int))) :
    Calls Tryd.prog 32 #[.string s] w fun e w' => e = .returned (.tuple #[.int .i32 c, .bool false]) ∧ Below w.heap.size w w' := by
  have HLE := Lib.hid hle
  clear hle
  have hne := ne_of_pos h0
  have h1 : 128 ≤ (s[0].toNat : Int) := by omega
  have h2 : 192 ≤ (s[0].toNat : Int) := by omega
  have h5 : ¬ ((s[0].toNat : Int) < 224) := by omega
  have h4 : ¬ (240 ≤ (s[0].toNat : Int)) := by omega
  have cV := fun X : World => rvalid_any c X
  rw [hv] at cV
  clear hv
  go_enter Tryd.func32, Tryd.ntmps32
  go_wp2_with (first | (go_at_call 51; refine (cM _).mono ?_; rintro e w0 ⟨rfl, rfl⟩) | (go_at_call 9; refine (cV _).mono ?_; rintro e w1 ⟨rfl, rfl⟩) | (go_at_call 33; refine (cB _).mono ?_; rintro e w2 ⟨rfl, hb2⟩))
  have hle := HLE.out
  have hle' : decide ((B.size : Int) ≤ (s.size : Int)) = false := by simpa using hle
  have hleN : decide (B.size ≤ s.size) = false := by simp only [decide_eq_false_iff_not]; omega
  have hleM : s.size < B.size := by omega
  go_quiet (fail)
  go_wp2
  go_ret2
  exact ⟨rfl, below_drewNx hb2 _⟩

set_option maxRecDepth 100000 in
set_option maxHeartbeats 1000000 in
theorem next_2_same (s : ByteArray) (h0 : 0 < s.size) (ha : 224 ≤ (s[0].toNat : Int)) (hz : (s[0].toNat : Int) < 240) (c : Int) (cM : ∀ X : World, Calls Tryd.prog 51 #[.int .i32 ((s[0].toNat : Int) - 224), .string s, .int .i64 2] X fun e w' => e = .returned (.tuple #[.int .i32 c, .bool true]) ∧ w' = X) (hv : rvldB c = true) (B : ByteArray) (w : World)
    (cB : ∀ X : World, Calls Tryd.prog 33 #[.int .i32 c] X fun e w' => e = .returned (.string B) ∧ Below X.heap.size X w') (hle : (B.size : Int) ≤ (s.size : Int)) (b : Bool) (hb : ((s.extract 0 B.size).toList == B.toList) = b) :
    Calls Tryd.prog 32 #[.string s] w fun e w' => e = .returned (.tuple #[.int .i32 c, .bool b]) ∧ Below w.heap.size w w' := by
  have HB := Lib.hid hb
  have HLE := Lib.hid hle
  clear hb hle
  have hne := ne_of_pos h0
  have h1 : 128 ≤ (s[0].toNat : Int) := by omega
  have h2 : 192 ≤ (s[0].toNat : Int) := by omega
  have h5 : ¬ ((s[0].toNat : Int) < 224) := by omega
  have h4 : ¬ (240 ≤ (s[0].toNat : Int)) := by omega
  have cV := fun X : World => rvalid_any c X
  rw [hv] at cV
  clear hv
  go_enter Tryd.func32, Tryd.ntmps32
  go_wp2_with (first | (go_at_call 51; refine (cM _).mono ?_; rintro e w0 ⟨rfl, rfl⟩) | (go_at_call 9; refine (cV _).mono ?_; rintro e w1 ⟨rfl, rfl⟩) | (go_at_call 33; refine (cB _).mono ?_; rintro e w2 ⟨rfl, hb2⟩))
  have hle := HLE.out
  have hleN : decide (B.size ≤ s.size) = true := by simp only [decide_eq_true_eq]; omega
  have hleI : decide ((B.size : Int) ≤ (s.size : Int)) = true := by simp only [decide_eq_true_eq]; omega
  have hleM : B.size ≤ s.size := by omega
  go_quiet (fail)
  go_wp2
  go_ret2
  exact ⟨ret_pair rfl HB.out, below_drewNx hb2 _⟩

set_option maxRecDepth 100000 in
set_option maxHeartbeats 1000000 in
theorem next_3_bad (s : ByteArray) (h0 : 0 < s.size) (ha : 240 ≤ (s[0].toNat : Int)) (hz : (s[0].toNat : Int) < 248) (c : Int) (cM : ∀ X : World, Calls Tryd.prog 51 #[.int .i32 ((s[0].toNat : Int) - 240), .string s, .int .i64 3] X fun e w' => e = .returned (.tuple #[.int .i32 c, .bool true]) ∧ w' = X) (hv : rvldB c = false) (w : World) :
    Calls Tryd.prog 32 #[.string s] w fun e w' => e = .returned (.tuple #[.int .i32 0, .bool false]) ∧ Below w.heap.size w w' := by
  have hne := ne_of_pos h0
  have h1 : 128 ≤ (s[0].toNat : Int) := by omega
  have h2 : 192 ≤ (s[0].toNat : Int) := by omega
  have h5 : ¬ ((s[0].toNat : Int) < 224) := by omega
  have h3 : 224 ≤ (s[0].toNat : Int) := by omega
  have h6 : ¬ ((s[0].toNat : Int) < 240) := by omega
  have cV := fun X : World => rvalid_any c X
  rw [hv] at cV
  clear hv
  go_enter Tryd.func32, Tryd.ntmps32
  go_wp2_with (first | (go_at_call 51; refine (cM _).mono ?_; rintro e w0 ⟨rfl, rfl⟩) | (go_at_call 9; refine (cV _).mono ?_; rintro e w1 ⟨rfl, rfl⟩))
  go_ret2
  exact ⟨rfl, Below.refl _ _⟩

set_option maxRecDepth 100000 in
set_option maxHeartbeats 1000000 in
theorem next_3_long (s : ByteArray) (h0 : 0 < s.size) (ha : 240 ≤ (s[0].toNat : Int)) (hz : (s[0].toNat : Int) < 248) (c : Int) (cM : ∀ X : World, Calls Tryd.prog 51 #[.int .i32 ((s[0].toNat : Int) - 240), .string s, .int .i64 3] X fun e w' => e = .returned (.tuple #[.int .i32 c, .bool true]) ∧ w' = X) (hv : rvldB c = true) (B : ByteArray) (w : World)
    (cB : ∀ X : World, Calls Tryd.prog 33 #[.int .i32 c] X fun e w' => e = .returned (.string B) ∧ Below X.heap.size X w') (hle : ¬ ((B.size : Int) ≤ (s.size : Int))) :
    Calls Tryd.prog 32 #[.string s] w fun e w' => e = .returned (.tuple #[.int .i32 c, .bool false]) ∧ Below w.heap.size w w' := by
  have HLE := Lib.hid hle
  clear hle
  have hne := ne_of_pos h0
  have h1 : 128 ≤ (s[0].toNat : Int) := by omega
  have h2 : 192 ≤ (s[0].toNat : Int) := by omega
  have h5 : ¬ ((s[0].toNat : Int) < 224) := by omega
  have h3 : 224 ≤ (s[0].toNat : Int) := by omega
  have h6 : ¬ ((s[0].toNat : Int) < 240) := by omega
  have cV := fun X : World => rvalid_any c X
  rw [hv] at cV
  clear hv
  go_enter Tryd.func32, Tryd.ntmps32
  go_wp2_with (first | (go_at_call 51; refine (cM _).mono ?_; rintro e w0 ⟨rfl, rfl⟩) | (go_at_call 9; refine (cV _).mono ?_; rintro e w1 ⟨rfl, rfl⟩) | (go_at_call 33; refine (cB _).mono ?_; rintro e w2 ⟨rfl, hb2⟩))
  have hle := HLE.out
  have hle' : decide ((B.size : Int) ≤ (s.size : Int)) = false := by simpa using hle
  have hleN : decide (B.size ≤ s.size) = false := by simp only [decide_eq_false_iff_not]; omega
  have hleM : s.size < B.size := by omega
  go_quiet (fail)
  go_wp2
  go_ret2
  exact ⟨rfl, below_drewNx hb2 _⟩

set_option maxRecDepth 100000 in
set_option maxHeartbeats 1000000 in
theorem next_3_same (s : ByteArray) (h0 : 0 < s.size) (ha : 240 ≤ (s[0].toNat : Int)) (hz : (s[0].toNat : Int) < 248) (c : Int) (cM : ∀ X : World, Calls Tryd.prog 51 #[.int .i32 ((s[0].toNat : Int) - 240), .string s, .int .i64 3] X fun e w' => e = .returned (.tuple #[.int .i32 c, .bool true]) ∧ w' = X) (hv : rvldB c = true) (B : ByteArray) (w : World)
    (cB : ∀ X : World, Calls Tryd.prog 33 #[.int .i32 c] X fun e w' => e = .returned (.string B) ∧ Below X.heap.size X w') (hle : (B.size : Int) ≤ (s.size : Int)) (b : Bool) (hb : ((s.extract 0 B.size).toList == B.toList) = b) :
    Calls Tryd.prog 32 #[.string s] w fun e w' => e = .returned (.tuple #[.int .i32 c, .bool b]) ∧ Below w.heap.size w w' := by
  have HB := Lib.hid hb
  have HLE := Lib.hid hle
  clear hb hle
  have hne := ne_of_pos h0
  have h1 : 128 ≤ (s[0].toNat : Int) := by omega
  have h2 : 192 ≤ (s[0].toNat : Int) := by omega
  have h5 : ¬ ((s[0].toNat : Int) < 224) := by omega
  have h3 : 224 ≤ (s[0].toNat : Int) := by omega
  have h6 : ¬ ((s[0].toNat : Int) < 240) := by omega
  have cV := fun X : World => rvalid_any c X
  rw [hv] at cV
  clear hv
  go_enter Tryd.func32, Tryd.ntmps32
  go_wp2_with (first | (go_at_call 51; refine (cM _).mono ?_; rintro e w0 ⟨rfl, rfl⟩) | (go_at_call 9; refine (cV _).mono ?_; rintro e w1 ⟨rfl, rfl⟩) | (go_at_call 33; refine (cB _).mono ?_; rintro e w2 ⟨rfl, hb2⟩))
  have hle := HLE.out
  have hleN : decide (B.size ≤ s.size) = true := by simp only [decide_eq_true_eq]; omega
  have hleI : decide ((B.size : Int) ≤ (s.size : Int)) = true := by simp only [decide_eq_true_eq]; omega
  have hleM : B.size ≤ s.size := by omega
  go_quiet (fail)
  go_wp2
  go_ret2
  exact ⟨ret_pair rfl HB.out, below_drewNx hb2 _⟩


end Go.Proofs.YtiefpdoefdldpaaDoor
