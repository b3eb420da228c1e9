/- The reference's quotient of two numbers of digits. -/
import Derived.Laws.Strings2
import Derived.Test.YtcpociafcjabkaaGreatDoorF
set_option linter.unusedSimpArgs false
set_option linter.unusedVariables false
namespace Go.Proofs.YtcpociafcjabkaaGreatDoor
open Go.RowKit

theorem div_next {x n d : Nat} (hn : 0 < n) : (x * 10 + d) / n = x / n * 10 + (x % n * 10 + d) / n ∧ (x * 10 + d) % n = (x % n * 10 + d) % n := by
  have h : x * 10 + d = n * (x / n * 10) + (x % n * 10 + d) := by
    have h1 := Nat.div_add_mod x n
    have h2 : n * (x / n * 10) = n * (x / n) * 10 := by rw [Nat.mul_assoc]
    omega
  constructor
  · rw [h, Nat.mul_add_div hn]
  · rw [h, Nat.mul_add_mod]
theorem div_end {y n k : Nat} (h1 : k * n ≤ y) (h2 : y - k * n < n) : y / n = k ∧ y % n = y - k * n := by
  have hn : 0 < n := by omega
  obtain ⟨r, hr⟩ : ∃ r, y - k * n = r := ⟨_, rfl⟩
  rw [hr] at h2 ⊢
  have h : y = n * k + r := by rw [Nat.mul_comm]; omega
  rw [h]
  constructor
  · rw [Nat.mul_add_div hn, Nat.div_eq_of_lt h2, Nat.add_zero]
  · rw [Nat.mul_add_mod, Nat.mod_eq_of_lt h2]

theorem conv_one (z : Int) (W : World) : (convert 60 9 (.slice (some ⟨W.heap.size, 0, none⟩) 1 1)).run Tryz.prog (W.alloc (.cells #[.int .u8 z] 5)) = .ok (.string (strOfNums [z])) (W.alloc (.cells #[.int .u8 z] 5)) :=
  run_convert_bytes_arg (P := Tryz.prog) (W.alloc (.cells #[.int .u8 z] 5)) 60 5 Tryz.underlying60 Tryz.underlying5 W.heap.size 0 1 1 [z] rfl (fun i hi => by
    obtain rfl : i = 0 := by omega
    simp) 9 Tryz.underlying9

/-- What has been written of a quotient. -/
structure OverAt (a : ByteArray) (n i : Nat) (s : ByteArray) : Prop where
  all : AllD s.data.toList
  val : val s.data.toList = val (a.data.toList.take i) / n
  size : s.size = i

set_option maxRecDepth 100000 in
set_option maxHeartbeats 2000000 in
theorem over_num {a b : ByteArray} {m n : Nat} (ha : IsNum a m) (hb : IsNum b n) (hn : 0 < n) (hsa : a.size ≤ 20000) (hsb : b.size ≤ 20000) (w : World) :
    Calls Tryz.prog 65 #[.string a, .string b] w fun e w' => e = .returned (.tuple #[.string (numS (m / n)), .string (numS (m % n))]) ∧ Below w.heap.size w w' := by
  obtain ⟨R, hR⟩ : ∃ R, numS (m / n) = R := ⟨_, rfl⟩
  obtain ⟨R2, hR2⟩ : ∃ R2, numS (m % n) = R2 := ⟨_, rfl⟩
  rw [hR, hR2]
  have HR := Lib.hid (And.intro hR hR2)
  have HA := Lib.hid ha
  have HB := Lib.hid (And.intro hb hn)
  have hbp := hb.pos
  clear hR hR2 ha hb hn
  go_enter Tryz.func65, Tryz.ntmps65
  go_wp2
  go_loopg [6, 7, 8] (a.size + 1) (fun gk v6 v7 v8 wr => ∃ (i : Nat) (s r : ByteArray), v8 = .int .i64 (i : Int) ∧ v6 = .string s ∧ v7 = .string r ∧ i ≤ a.size ∧ gk + i = a.size + 1 ∧ s.size ≤ 20000 ∧ r.size ≤ b.size ∧ Hid (OverAt a n i s ∧ r = numS (val (a.data.toList.take i) % n)) ∧ Below w.heap.size w wr)
  case atStart =>
    refine ⟨0, ⟨#[]⟩, ⟨#[48]⟩, rfl, rfl, rfl, Nat.zero_le _, rfl, by show 0 ≤ _; omega, by show 1 ≤ _; omega, ⟨⟨AllD.nil, ?_, rfl⟩, ?_⟩, Below.refl _ _⟩
    · simp [val_nil]
    · simp only [List.take_zero, val_nil, Nat.zero_mod]
      unfold numS
      rw [digs_zero]
  case round =>
    obtain ⟨i, s, r, rfl, rfl, rfl, hi, hgk, hsz, hrz, HS, hB⟩ := hrel
    by_cases hlt : i < a.size
    · have hil : i < a.data.toList.length := by rw [bytes_len]; exact hlt
      have ea : a[i] = a.data.toList[i] := byte_at rfl hlt hil
      have hd := HA.out.all a.data.toList[i] (List.getElem_mem hil)
      have hxs := val_take_succ hil
      generalize a.data.toList[i] = c at ea hd hxs
      obtain ⟨x, hx⟩ : ∃ x, val (a.data.toList.take i) = x := ⟨_, rfl⟩
      rw [hx] at hxs
      have hsv := HS.out.1.val
      rw [hx] at hsv
      have hrr := HS.out.2
      rw [hx] at hrr
      have hex : (a.extract i (i + 1)).data.toList = [c] := by
        rw [Lib.extract_data, show i + 1 - i = 1 by omega, List.drop_eq_getElem_cons hil, List.take_succ_cons, List.take_zero]
        rw [← ea]
        rfl
      obtain ⟨u, hu⟩ : ∃ u, a.extract i (i + 1) = u := ⟨_, rfl⟩
      rw [hu] at hex
      have hsl : ∀ W, (Instr.slice 9 (.string a) (some (.int .i64 (i : Int))) (some (.int .i64 ((i : Int) + 1))) none).run Tryz.prog W = .ok (.string u) W := fun W => by
        have h := run_slice_string (P := Tryz.prog) W 9 a .i64 .i64 (i : Int) ((i : Int) + 1) Tryz.underlying9 (by omega) (by omega) (by omega)
        rw [show (i : Int).toNat = i from rfl, show ((i : Int) + 1).toNat = i + 1 by omega, hu] at h
        exact h
      have huz : u.size = 1 := by rw [← bytes_len, hex]; rfl
      have hd9 := dg_le hd
      obtain ⟨y, hy⟩ : ∃ y, x % n * 10 + dg c = y := ⟨_, rfl⟩
      have hn := HB.out.2
      have hy10 : y < 10 * n := by
        have := Nat.mod_lt x hn
        omega
      have hN : IsNum (r ++ u) y := by
        rw [← hy]
        refine isNum_snoc ?_ ?_ c hd u hex
        · rw [hrr]; exact (IsNum.num _).all
        · rw [hrr]; exact (IsNum.num _).val
      have hruz : r.size + u.size ≤ 9223372036854775807 := by omega
      have cBare := fun W => bare_num hN (by rw [app_size]; unfold maxLen; omega) W
      have hyz : (numS y).size ≤ b.size + 1 := numS_len (by
        have h1 := HB.out.1.lt
        rw [Nat.pow_succ]
        have h2 : 10 * n < 10 * 10 ^ b.size := Nat.mul_lt_mul_of_pos_left h1 (by omega)
        omega) (by omega)
      obtain ⟨d1, d2⟩ := div_next (x := x) (d := dg c) hn
      rw [← hxs, hy] at d1 d2
      have HY := Lib.hid (And.intro hsv (And.intro d1 (And.intro d2 (And.intro hyz hy10))))
      have HSall := Lib.hid (And.intro HS.out.1.all HS.out.1.size)
      clear hsv d1 d2 hyz hxs hrr hex hd hd9 ea hN HS hy hy10 hn hx
      go_wp2_with fail
      refine (cBare _).mono ?_
      rintro e w1 ⟨rfl, rfl⟩
      clear cBare
      go_wp2_with fail
      go_loopg [7, 9] 11 (fun g2 v7 v9 wr2 => ∃ (k : Nat) (t : ByteArray), v9 = .int .u8 (48 + (k : Int)) ∧ v7 = .string t ∧ g2 + k = 11 ∧ k ≤ 9 ∧ t.size ≤ b.size + 1 ∧ Hid (t = numS (y - k * n) ∧ k * n ≤ y) ∧ Below w.heap.size w wr2)
      case atStart => exact ⟨0, _, rfl, rfl, rfl, by omega, HY.out.2.2.2.1, ⟨by rw [Nat.zero_mul, Nat.sub_zero], by omega⟩, hB⟩
      case round =>
        obtain ⟨k, t, rfl, rfl, hg2, hk9, htz, HT, hB2⟩ := hrel
        clear hB
        have hT : IsNum t (y - k * n) := by rw [HT.out.1]; exact IsNum.num _
        have cL := fun W => less_num hT HB.out.1 (by unfold maxLen; omega) (by unfold maxLen; omega) W
        by_cases hless : y - k * n < n
        · rw [decide_eq_true hless] at cL
          obtain ⟨q1, q2⟩ := div_end HT.out.2 hless
          have hcv := fun W => conv_one (48 + (k : Int)) W
          have hcn : (strOfNums [48 + (k : Int)]).data.toList = [UInt8.ofNat (48 + k)] := by
            rw [strOfNums_data]
            show [UInt8.ofNat ((48 + (k : Int)).toNat)] = _
            congr 2
          have hcz : (strOfNums [48 + (k : Int)]).size = 1 := by rw [strOfNums_size]; rfl
          generalize strOfNums [48 + (k : Int)] = z at hcv hcn hcz
          have HV : Hid (OverAt a n (i + 1) (s ++ z) ∧ t = numS (val (a.data.toList.take (i + 1)) % n)) := by
            have hD : 48 ≤ (UInt8.ofNat (48 + k)).toNat ∧ (UInt8.ofNat (48 + k)).toNat ≤ 57 := by rw [dig_nat (by omega)]; omega
            have hns := isNum_snoc HSall.out.1 HY.out.1 (UInt8.ofNat (48 + k)) hD z hcn
            refine ⟨⟨hns.all, ?_, by rw [app_size, HSall.out.2, hcz]⟩, ?_⟩
            · rw [hns.val, HY.out.2.1, q1, dg_nat (by omega)]
            · rw [HT.out.1, HY.out.2.2.1, q2]
          have htb : t.size ≤ b.size := by
            rw [HT.out.1]
            exact numS_len (Nat.lt_trans hless HB.out.1.lt) hbp
          have hsz2 : s.size + z.size ≤ 20000 := by rw [HSall.out.2, hcz]; omega
          have hsz3 : s.size + z.size ≤ 9223372036854775807 := by omega
          have HZ := Lib.hid hsz2
          clear hcn hcz q1 q2 hless HT hT hsz2
          go_wp2_with (go_at_call 60; refine (cL _).mono ?_; rintro e w3 ⟨rfl, rfl⟩)
          go_roundg (a.size - i)
          case measure => omega
          case rel => exact ⟨i + 1, s ++ z, t, by go_num, rfl, rfl, by omega, by omega, by rw [app_size]; exact HZ.out, htb, HV, hB2.alloc hB2.size _⟩
        · rw [decide_eq_false hless] at cL
          have hge : n ≤ y - k * n := by omega
          have hk8 : k + 1 ≤ 9 := by
            have h1 : (k + 1) * n < 10 * n := by
              rw [Nat.add_mul, Nat.one_mul]
              have := HY.out.2.2.2.2
              have := HT.out.2
              omega
            have := Nat.lt_of_mul_lt_mul_right h1
            omega
          have cM := fun W => minus_num hT HB.out.1 hge (by omega) (by omega) W
          have HV : Hid (numS (y - k * n - n) = numS (y - (k + 1) * n) ∧ (k + 1) * n ≤ y ∧ (numS (y - k * n - n)).size ≤ b.size + 1) := by
            have e : y - k * n - n = y - (k + 1) * n := by rw [Nat.add_mul, Nat.one_mul]; omega
            have h2 := HT.out.2
            refine ⟨by rw [e], by rw [Nat.add_mul, Nat.one_mul]; omega, numS_len ?_ (by omega)⟩
            have h1 := HB.out.1.lt
            have h3 := HY.out.2.2.2.2
            rw [Nat.pow_succ]
            have h4 : 10 * n < 10 * 10 ^ b.size := Nat.mul_lt_mul_of_pos_left h1 (by omega)
            omega
          generalize numS (y - k * n - n) = Z at cM HV
          have e1 : (48 + (k : Int) + 1) = 48 + ((k + 1 : Nat) : Int) := by omega
          clear hge hless HT hT
          go_wp2_with fail
          refine (cL _).mono ?_
          rintro e w3 ⟨rfl, rfl⟩
          clear cL
          go_wp2_with (go_at_call 82; refine (cM _).mono ?_; rintro e w3 ⟨rfl, b3⟩)
          go_roundg (10 - k)
          case measure => omega
          case rel => exact ⟨k + 1, Z, by go_num, rfl, by omega, hk8, HV.out.2.2, ⟨HV.out.1, HV.out.2.1⟩, hB2.trans (b3.mono hB2.size)⟩
    · obtain rfl : i = a.size := by omega
      have e := HS.out.1.val
      have e2 := HS.out.2
      rw [← bytes_len, List.take_length, HA.out.val] at e e2
      rw [HR.out.2] at e2
      have HV : IsNum s (m / n) := ⟨HS.out.1.all, by
        intro h
        have := HS.out.1.size
        rw [← bytes_len, h] at this
        have := HA.out.pos
        simp at *
        omega, e⟩
      have cb := fun W => bare_num HV (by unfold maxLen; omega) W
      rw [HR.out.1] at cb
      have HE := Lib.hid e2
      clear HV HS e e2
      go_wp2_with (go_at_call 75; refine (cb _).mono ?_; rintro e w3 ⟨rfl, rfl⟩)
      go_ret2
      exact ⟨by rw [← HE.out]; rfl, hB⟩
end Go.Proofs.YtcpociafcjabkaaGreatDoor
