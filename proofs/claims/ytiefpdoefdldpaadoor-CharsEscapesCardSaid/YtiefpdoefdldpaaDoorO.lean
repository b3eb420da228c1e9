/- What the library reads of digits of the base 10 and of the base 16: the number. -/
import Derived.Lib.ConvBytes
import Derived.Lib.Hide
import Derived.Laws.Strings3
import Derived.Laws.Closers25
import Derived.Laws.Closers25b
import Derived.BigCall
import Derived.BigGuard
import Derived.Test.YtiefpdoefdldpaaDoorN
namespace Go.Proofs.YtiefpdoefdldpaaDoor
open Go.RowKit

/-- The number of digits 0 to 9, behind a number. -/
def numB (b : Nat) : Nat → List UInt8 → Nat
  | acc, [] => acc
  | acc, c :: l => numB b (acc * b + (c.toNat - 48)) l

theorem numB_le (b : Nat) (hb : 1 ≤ b) (l : List UInt8) : ∀ (acc : Nat), acc ≤ numB b acc l := by
  induction l with
  | nil => exact fun acc => Nat.le_refl _
  | cons c l ih =>
    intro acc
    refine Nat.le_trans ?_ (ih (acc * b + (c.toNat - 48)))
    exact Nat.le_trans (Nat.le_mul_of_pos_right acc hb) (Nat.le_add_right _ _)

set_option maxRecDepth 100000 in
set_option maxHeartbeats 16000000 in
theorem parse_10 (t : ByteArray) (hne : t.size ≠ 0) (hmax : t.size ≤ 1000) (hdg : ∀ c ∈ t.data.toList, 48 ≤ c.toNat ∧ c.toNat ≤ 57) (hval : numB 10 0 t.data.toList ≤ 2147483647) (w : World) :
    Calls Tryd.prog 74 #[.string t, .int .i64 10, .int .i64 31] w fun e w' => e = .returned (.tuple #[.int .u64 (numB 10 0 t.data.toList), .nilIface]) ∧ Below w.heap.size w w' := by
  have hemp : t.toList.isEmpty = false := by
    rw [← decide_eq_emptyBytes]
    exact decide_eq_false (fun h => hne (by rw [h]; rfl))
  have hcv := Lib.run_convert_string_bytes (P := Tryd.prog) w 9 47 5 t (u := .string) Tryd.underlying9 Tryd.underlying47 Tryd.underlying5
  have hB : ∀ j, j < t.size → (Lib.bytesWorld w 5 t).cell? ⟨w.heap.size, j, none⟩ = some (.int .u8 (t.data.toList.getD j 0).toNat) := fun j hj => Lib.bytesWorld_cell w 5 t j hj
  have hBel : Below w.heap.size w (Lib.bytesWorld w 5 t) := ⟨rfl, rfl, rfl, by rw [Lib.bytesWorld_size]; omega, fun k hk => Lib.bytesWorld_at_old w 5 t k hk⟩
  obtain ⟨W1, hW1⟩ : ∃ W1, W1 = Lib.bytesWorld w 5 t := ⟨_, rfl⟩
  rw [← hW1] at hcv hB hBel
  clear hW1
  obtain ⟨bs, hL⟩ : ∃ bs, bs = t.data.toList := ⟨_, rfl⟩
  have hLn : bs.length = t.size := by rw [hL, Lib.size_eq]
  rw [← hL] at hB hdg hval ⊢
  clear hL
  have hBelH := Lib.hid hBel
  clear hBel
  obtain ⟨M, hM⟩ : ∃ M, M = numB 10 0 bs := ⟨_, rfl⟩
  rw [← hM] at hval ⊢
  have hMH := Lib.hid hM
  clear hM
  have hdgH := Lib.hid hdg
  clear hdg
  have hmv : IntKind.u64.wrap (IntKind.u64.wrap 2147483648 - 1) = 2147483647 := by
    rw [IntKind.wrap_u64, IntKind.wrap_u64]
    decide
  go_enter Tryd.func74, Tryd.ntmps74
  go_wp2
  go_loop [12, 13, 101] (fun vu vn vi => ∃ (k acc : Nat) (a : Int), vu = .bool false ∧ vn = .int .u64 a ∧ vi = .int .i64 k ∧ k ≤ t.size ∧ Hid (a = (acc : Int) ∧ acc ≤ 2147483647 ∧ M = numB 10 acc (bs.drop k)))
    (fun _ _ vi => t.size - (intOf vi).toNat)
  case atStart => exact ⟨0, 0, 0, rfl, rfl, rfl, by omega, rfl, by omega, hMH.out⟩
  case round =>
    obtain ⟨k, acc, a, rfl, rfl, rfl, hk, hh⟩ := hrel
    obtain ⟨ha, hacc, hdec⟩ := hh.out
    clear hh
    have a0 : 0 ≤ a := by omega
    have a1 : a ≤ 2147483647 := by omega
    by_cases hkn : k < t.size
    · have hc := hB k hkn
      have hdrop : bs.drop k = bs[k]'(by omega) :: bs.drop (k + 1) := List.drop_eq_getElem_cons (by omega)
      have hget : bs.getD k 0 = bs[k]'(by omega) := by simp [List.getD, List.getElem?_eq_getElem (show k < bs.length by omega)]
      have hdig := hdgH.out (bs[k]'(by omega)) (List.getElem_mem _)
      rw [hdrop] at hdec
      rw [hget] at hc
      generalize bs[k]'(by omega) = c at hc hdec hdig
      have hc256 : c.toNat < 256 := c.toNat_lt
      clear hB hdrop hget
      obtain ⟨hd0, hd1⟩ := hdig
      have hnext : acc * 10 + (c.toNat - 48) ≤ M := by
        rw [hdec]
        exact numB_le 10 (by decide) _ _
      have hF : M = numB 10 (acc * 10 + (c.toNat - 48)) (bs.drop (k + 1)) := hdec
      have HN : Hid (a * 10 + ((c.toNat : Int) - 48) = ((acc * 10 + (c.toNat - 48) : Nat) : Int) ∧ acc * 10 + (c.toNat - 48) ≤ 2147483647 ∧ M = numB 10 (acc * 10 + (c.toNat - 48)) (bs.drop (k + 1))) := Lib.hid ⟨by omega, by omega, hF⟩
      have iov : a * 10 + ((c.toNat : Int) - 48) ≤ 2147483647 := by omega
      clear hacc hF hdec ha hnext
      go_wp2
      refine ⟨⟨k + 1, acc * 10 + (c.toNat - 48), a * 10 + ((c.toNat : Int) - 48), rfl, (by first | rfl | (congr 1; omega)), (by first | rfl | (congr 1; omega)), by omega, HN⟩, by simp [intOf]; omega⟩
    · have hkk : k = t.size := by omega
      subst hkk
      have hF : M = acc := by rw [hdec, List.drop_eq_nil_of_le (by omega)]; rfl
      subst ha
      have hF2 := Lib.hid hF
      clear hacc a0 a1 hdec hF
      go_wp2
      go_ret2
      exact ⟨congrArg (fun q : Nat => Ending.returned (.tuple #[.int .u64 (q : Int), .nilIface])) hF2.out.symm, hBelH.out⟩

set_option maxRecDepth 100000 in
set_option maxHeartbeats 16000000 in
theorem parse_16 (t : ByteArray) (hne : t.size ≠ 0) (hmax : t.size ≤ 1000) (hdg : ∀ c ∈ t.data.toList, 48 ≤ c.toNat ∧ c.toNat ≤ 57) (hval : numB 16 0 t.data.toList ≤ 2147483647) (w : World) :
    Calls Tryd.prog 74 #[.string t, .int .i64 16, .int .i64 31] w fun e w' => e = .returned (.tuple #[.int .u64 (numB 16 0 t.data.toList), .nilIface]) ∧ Below w.heap.size w w' := by
  have hemp : t.toList.isEmpty = false := by
    rw [← decide_eq_emptyBytes]
    exact decide_eq_false (fun h => hne (by rw [h]; rfl))
  have hcv := Lib.run_convert_string_bytes (P := Tryd.prog) w 9 47 5 t (u := .string) Tryd.underlying9 Tryd.underlying47 Tryd.underlying5
  have hB : ∀ j, j < t.size → (Lib.bytesWorld w 5 t).cell? ⟨w.heap.size, j, none⟩ = some (.int .u8 (t.data.toList.getD j 0).toNat) := fun j hj => Lib.bytesWorld_cell w 5 t j hj
  have hBel : Below w.heap.size w (Lib.bytesWorld w 5 t) := ⟨rfl, rfl, rfl, by rw [Lib.bytesWorld_size]; omega, fun k hk => Lib.bytesWorld_at_old w 5 t k hk⟩
  obtain ⟨W1, hW1⟩ : ∃ W1, W1 = Lib.bytesWorld w 5 t := ⟨_, rfl⟩
  rw [← hW1] at hcv hB hBel
  clear hW1
  obtain ⟨bs, hL⟩ : ∃ bs, bs = t.data.toList := ⟨_, rfl⟩
  have hLn : bs.length = t.size := by rw [hL, Lib.size_eq]
  rw [← hL] at hB hdg hval ⊢
  clear hL
  have hBelH := Lib.hid hBel
  clear hBel
  obtain ⟨M, hM⟩ : ∃ M, M = numB 16 0 bs := ⟨_, rfl⟩
  rw [← hM] at hval ⊢
  have hMH := Lib.hid hM
  clear hM
  have hdgH := Lib.hid hdg
  clear hdg
  have hmv : IntKind.u64.wrap (IntKind.u64.wrap 2147483648 - 1) = 2147483647 := by
    rw [IntKind.wrap_u64, IntKind.wrap_u64]
    decide
  go_enter Tryd.func74, Tryd.ntmps74
  go_wp2
  go_loop [12, 13, 101] (fun vu vn vi => ∃ (k acc : Nat) (a : Int), vu = .bool false ∧ vn = .int .u64 a ∧ vi = .int .i64 k ∧ k ≤ t.size ∧ Hid (a = (acc : Int) ∧ acc ≤ 2147483647 ∧ M = numB 16 acc (bs.drop k)))
    (fun _ _ vi => t.size - (intOf vi).toNat)
  case atStart => exact ⟨0, 0, 0, rfl, rfl, rfl, by omega, rfl, by omega, hMH.out⟩
  case round =>
    obtain ⟨k, acc, a, rfl, rfl, rfl, hk, hh⟩ := hrel
    obtain ⟨ha, hacc, hdec⟩ := hh.out
    clear hh
    have a0 : 0 ≤ a := by omega
    have a1 : a ≤ 2147483647 := by omega
    by_cases hkn : k < t.size
    · have hc := hB k hkn
      have hdrop : bs.drop k = bs[k]'(by omega) :: bs.drop (k + 1) := List.drop_eq_getElem_cons (by omega)
      have hget : bs.getD k 0 = bs[k]'(by omega) := by simp [List.getD, List.getElem?_eq_getElem (show k < bs.length by omega)]
      have hdig := hdgH.out (bs[k]'(by omega)) (List.getElem_mem _)
      rw [hdrop] at hdec
      rw [hget] at hc
      generalize bs[k]'(by omega) = c at hc hdec hdig
      have hc256 : c.toNat < 256 := c.toNat_lt
      clear hB hdrop hget
      obtain ⟨hd0, hd1⟩ := hdig
      have hnext : acc * 16 + (c.toNat - 48) ≤ M := by
        rw [hdec]
        exact numB_le 16 (by decide) _ _
      have hF : M = numB 16 (acc * 16 + (c.toNat - 48)) (bs.drop (k + 1)) := hdec
      have HN : Hid (a * 16 + ((c.toNat : Int) - 48) = ((acc * 16 + (c.toNat - 48) : Nat) : Int) ∧ acc * 16 + (c.toNat - 48) ≤ 2147483647 ∧ M = numB 16 (acc * 16 + (c.toNat - 48)) (bs.drop (k + 1))) := Lib.hid ⟨by omega, by omega, hF⟩
      have iov : a * 16 + ((c.toNat : Int) - 48) ≤ 2147483647 := by omega
      clear hacc hF hdec ha hnext
      go_wp2
      refine ⟨⟨k + 1, acc * 16 + (c.toNat - 48), a * 16 + ((c.toNat : Int) - 48), rfl, (by first | rfl | (congr 1; omega)), (by first | rfl | (congr 1; omega)), by omega, HN⟩, by simp [intOf]; omega⟩
    · have hkk : k = t.size := by omega
      subst hkk
      have hF : M = acc := by rw [hdec, List.drop_eq_nil_of_le (by omega)]; rfl
      subst ha
      have hF2 := Lib.hid hF
      clear hacc a0 a1 hdec hF
      go_wp2
      go_ret2
      exact ⟨congrArg (fun q : Nat => Ending.returned (.tuple #[.int .u64 (q : Int), .nilIface])) hF2.out.symm, hBelH.out⟩
end Go.Proofs.YtiefpdoefdldpaaDoor
