/- The reference's sum of two numbers of digits. -/
import Derived.Lib.ConvBytes
import Derived.Laws.BytesArg
import Derived.Below
import Derived.Test.YtcpociafcjabkaaGreatDoorC
set_option linter.unusedSimpArgs false
set_option linter.unusedVariables false
namespace Go.Proofs.YtcpociafcjabkaaGreatDoor
open Go.RowKit

/-- A row of bytes that the call has made. -/
structure Buf (b : Nat) (O : List UInt8) (W : World) : Prop where
  cell : ∀ j c, O[j]? = some c → W.cell? ⟨b, j, none⟩ = some (.int .u8 (c.toNat : Int))
  free : ∀ j, j < O.length → W.frozen? ⟨b, j, none⟩ = false
theorem Buf.set {b : Nat} {O : List UInt8} {W : World} (h : Buf b O W) {i : Nat} (hi : i < O.length) (c : UInt8) : Buf b (O.set i c) (W.setCell ⟨b, i, none⟩ (.int .u8 (c.toNat : Int))) := by
  have hold := h.cell i O[i] (List.getElem?_eq_getElem hi)
  refine ⟨fun j x hj => ?_, fun j hj => ?_⟩
  · by_cases hij : i = j
    · subst hij
      rw [List.getElem?_set_self hi] at hj
      cases hj
      exact World.cell?_setCell_same _ _ _ hold
    · rw [List.getElem?_set_ne hij] at hj
      rw [World.cell?_setCell_other _ _ _ _ (fun e => hij (by cases e; rfl))]
      exact h.cell j x hj
  · rw [World.frozen?_setCell]
    exact h.free j (by simpa using hj)
theorem Buf.str {b : Nat} {O : List UInt8} {W : World} (h : Buf b O W) (cap : Nat) : (convert 60 9 (.slice (some ⟨b, 0, none⟩) O.length cap)).run Tryz.prog W = .ok (.string ⟨O.toArray⟩) W := by
  have hc := run_convert_bytes_arg (P := Tryz.prog) W 60 5 Tryz.underlying60 Tryz.underlying5 b 0 O.length cap (O.map fun c => (c.toNat : Int)) (by simp) (fun i hi => by
    rw [Nat.zero_add, h.cell i O[i] (List.getElem?_eq_getElem hi)]
    simp [List.getD, hi]) 9 Tryz.underlying9
  rw [hc]
  refine congrArg (fun z => Result.ok (Value.string z) W) ?_
  apply bytes_ext
  rw [strOfNums_data, List.map_map]
  show O.map _ = O
  conv => rhs; rw [← List.map_id O]
  exact List.map_congr_left fun c _ => UInt8.toNat_inj.1 (by
    have := c.toNat_lt
    show (UInt8.ofNat ((c.toNat : Int)).toNat).toNat = c.toNat
    rw [Int.toNat_natCast, UInt8.toNat_ofNat']
    omega)
theorem Buf.made (w : World) (s : ByteArray) : Buf w.heap.size s.data.toList (Lib.bytesWorld w 5 s) := by
  refine ⟨fun j c hj => ?_, fun j hj => ?_⟩
  · have hjs : j < s.size := by rw [← bytes_len]; exact (List.getElem?_eq_some_iff.1 hj).1
    rw [Lib.bytesWorld_cell w 5 s j hjs]
    simp [List.getD, hj]
  · have h1 := Lib.bytesWorld_at_new w 5 s
    have h2 : j < (Lib.bytesCells w 5 s).size := by
      have h3 := Lib.bytesWorld_cell w 5 s j (by rw [← bytes_len]; exact hj)
      unfold World.cell? at h3
      simp only [h1] at h3
      exact (Array.getElem?_eq_some_iff.1 h3).1
    unfold World.frozen?
    simp only [h1]
    simp
    omega

theorem Buf.drew {b : Nat} {O : List UInt8} {W : World} (h : Buf b O W) (n : Nat) : Buf b O (W.drewN n) := ⟨h.cell, h.free⟩
theorem below_drewN {B : Nat} {a w : World} (h : Below B a w) (n : Nat) : Below B a (w.drewN n) := h.trans ⟨rfl, rfl, rfl, Nat.le_refl _, fun _ _ => rfl⟩

theorem plus_step (p x y c r q vT vA vB : Nat) (h : vT + c * p = vA + vB) (hD : x + y + c = 10 * q + r) : (r * p + vT) + q * (p * 10) = (x * p + vA) + (y * p + vB) := by
  have h1 : (x + y + c) * p = (10 * q + r) * p := by rw [hD]
  rw [Nat.add_mul, Nat.add_mul, Nat.add_mul] at h1
  have e : q * (p * 10) = 10 * q * p := by rw [Nat.mul_comm p 10, ← Nat.mul_assoc, Nat.mul_comm q 10]
  omega

theorem longS_all {s : ByteArray} (h : AllD s.data.toList) (n : Int) : AllD (longS s n).data.toList := by
  rw [longS_list]
  exact (AllD.zeros _).append h
theorem longS_val (s : ByteArray) (n : Int) : val (longS s n).data.toList = val s.data.toList := by
  rw [longS_list, val_append, val_zeros]
  simp

/-- What the rounds of a sum have written. -/
structure PlusAt (A B : List UInt8) (N k c : Nat) (O : List UInt8) : Prop where
  form : ∃ T : List UInt8, O = A.take (N - k) ++ T ∧ T.length = k ∧ AllD T ∧ val T + c * 10 ^ k = val (A.drop (N - k)) + val (B.drop (N - k))
theorem PlusAt.next {A B O : List UInt8} {N k c j : Nat} (h : PlusAt A B N k c O) (hA : A.length = N) (hB : B.length = N) (hAD : AllD A) (hBD : AllD B) (hj : j + k + 1 = N) (ha : j < A.length) (hb : j < B.length)
    (d : UInt8) (hd : d.toNat = 48 + (A[j].toNat - 48 + (B[j].toNat - 48) + c) % 10) : PlusAt A B N (k + 1) ((A[j].toNat - 48 + (B[j].toNat - 48) + c) / 10) (O.set j d) := by
  obtain ⟨T, hO, hT, hTD, hv⟩ := h.form
  have e1 : N - k = j + 1 := by omega
  have e2 : N - (k + 1) = j := by omega
  have hx := hAD A[j] (List.getElem_mem ha)
  have hy := hBD B[j] (List.getElem_mem hb)
  refine ⟨d :: T, ?_, by simp [hT], AllD.cons (by omega) hTD, ?_⟩
  · rw [hO, e1, e2, List.take_add_one, List.getElem?_eq_getElem ha]
    have hl : (A.take j).length = j := by rw [List.length_take]; omega
    simp only [Option.toList_some, List.append_assoc, List.singleton_append]
    rw [List.set_append_right _ _ (by omega), hl, Nat.sub_self]
    rfl
  · rw [e2, List.drop_eq_getElem_cons ha, List.drop_eq_getElem_cons hb, val_cons, val_cons, val_cons]
    rw [e1] at hv
    have l1 : (A.drop (j + 1)).length = k := by rw [List.length_drop]; omega
    have l2 : (B.drop (j + 1)).length = k := by rw [List.length_drop]; omega
    rw [l1, l2, hT, dg_eq d (by omega), dg_eq _ hx.1, dg_eq _ hy.1, Nat.pow_succ]
    refine plus_step _ _ _ c _ _ _ _ _ hv ?_
    rw [hd]
    omega
theorem PlusAt.last {A B O : List UInt8} {N c m n : Nat} (h : PlusAt A B N N c O) (hm : val A = m) (hn : val B = n) (h1 : m + n < 10 ^ N) : AllD O ∧ O.length = N ∧ val O = m + n := by
  obtain ⟨T, hO, hT, hTD, hv⟩ := h.form
  rw [Nat.sub_self, List.take_zero, List.nil_append] at hO
  rw [Nat.sub_self, List.drop_zero, List.drop_zero, hm, hn] at hv
  subst hO
  refine ⟨hTD, hT, ?_⟩
  have hc : c = 0 := by
    rcases Nat.eq_zero_or_pos c with h0 | h0
    · exact h0
    · have : 1 * 10 ^ N ≤ c * 10 ^ N := Nat.mul_le_mul_right _ h0
      omega
  rw [hc] at hv
  omega

theorem IsNum.lt {s : ByteArray} {n : Nat} (h : IsNum s n) : n < 10 ^ s.size := by
  have h1 := val_lt h.all
  rw [h.val, bytes_len] at h1
  exact h1
theorem sum_lt {a b : ByteArray} {m n : Nat} (ha : IsNum a m) (hb : IsNum b n) (N : Nat) (h1 : a.size + 1 ≤ N) (h2 : b.size + 1 ≤ N) : m + n < 10 ^ N := by
  obtain ⟨k, rfl⟩ : ∃ k, N = k + 1 := ⟨N - 1, by omega⟩
  have h3 : 10 ^ a.size ≤ 10 ^ k := Nat.pow_le_pow_right (by omega) (by omega)
  have h4 : 10 ^ b.size ≤ 10 ^ k := Nat.pow_le_pow_right (by omega) (by omega)
  have h5 := Nat.lt_of_lt_of_le ha.lt h3
  have h6 := Nat.lt_of_lt_of_le hb.lt h4
  rw [Nat.pow_succ]
  generalize 10 ^ k = p at *
  omega

set_option maxRecDepth 100000 in
set_option maxHeartbeats 400000 in
theorem plus_num {a b : ByteArray} {m n : Nat} (ha : IsNum a m) (hb : IsNum b n) (hsa : a.size ≤ 50000) (hsb : b.size ≤ 50000) (w : World) :
    Calls Tryz.prog 67 #[.string a, .string b] w fun e w' => e = .returned (.string (numS (m + n))) ∧ Below w.heap.size w w' := by
  obtain ⟨N, hN⟩ : ∃ N : Nat, N = max a.size b.size + 1 := ⟨_, rfl⟩
  have hNi : max (a.size : Int) (b.size : Int) + 1 = (N : Int) := by omega
  have c1 := fun W => long_any a (N : Int) (by omega) (by omega) (by omega) W
  have c2 := fun W => long_any b (N : Int) (by omega) (by omega) (by omega) W
  have hA1 := longS_size a N (by omega)
  have hB1 := longS_size b N (by omega)
  have hAD := longS_all ha.all (N : Int)
  have hBD := longS_all hb.all (N : Int)
  have hAv := (longS_val a (N : Int)).trans ha.val
  have hBv := (longS_val b (N : Int)).trans hb.val
  have hsum := sum_lt ha hb N (by omega) (by omega)
  have hN1 : 1 ≤ N := by omega
  have hN2 : N ≤ 100000 := by omega
  generalize longS a (N : Int) = A at c1 hA1 hAD hAv
  generalize longS b (N : Int) = B at c2 hB1 hBD hBv
  obtain ⟨R, hR⟩ : ∃ R, numS (m + n) = R := ⟨_, rfl⟩
  rw [hR]
  have cb : ∀ O : List UInt8, AllD O → O.length = N → val O = m + n → ∀ W, Calls Tryz.prog 75 #[.string ⟨O.toArray⟩] W fun e w' => e = .returned (.string R) ∧ W = w' := fun O h1 h2 h3 W => by
    rw [← hR]
    refine bare_num ⟨by rw [bytes_mk]; exact h1, ?_, by rw [bytes_mk]; exact h3⟩ (by rw [bytes_mk_size]; unfold maxLen; omega) W
    rw [bytes_mk]
    intro e
    rw [e] at h2
    simp at h2
    omega
  have CB := Lib.hid cb
  have HF := Lib.hid (And.intro hAD (And.intro hBD (And.intro hAv (And.intro hBv hsum))))
  clear cb hAD hBD hAv hBv hsum hR ha hb hN
  have hcv := Lib.run_convert_string_bytes (P := Tryz.prog) w 9 60 5 A (u := .string) Tryz.underlying9 Tryz.underlying60 Tryz.underlying5
  have hBuf := Buf.made w A
  have hBel : Below w.heap.size w (Lib.bytesWorld w 5 A) := Joins.below_bytesWorld w.heap.size w 5 A (Nat.le_refl _)
  generalize Lib.bytesWorld w 5 A = W1 at hcv hBuf hBel
  have H0 : Hid (PlusAt A.data.toList B.data.toList N 0 0 A.data.toList ∧ Buf w.heap.size A.data.toList W1) := by
    refine ⟨⟨[], ?_, rfl, AllD.nil, ?_⟩, hBuf⟩
    · rw [Nat.sub_zero, List.append_nil, ← hA1, ← bytes_len, List.take_length]
    · have e1 : A.data.toList.drop N = [] := List.drop_eq_nil_of_le (by rw [bytes_len]; omega)
      have e2 : B.data.toList.drop N = [] := List.drop_eq_nil_of_le (by rw [bytes_len]; omega)
      rw [Nat.sub_zero, e1, e2]
      simp [val_nil]
  have HBel := Lib.hid hBel
  have HS := Lib.hid (And.intro hA1 hB1)
  clear hA1 hB1
  clear hBuf hBel
  rcases Nat.lt_or_ge a.size b.size with hlt | hge
  case' inl =>
    have i1 : (a.size : Int) < (b.size : Int) := by omega
    have i2 : (b.size : Int) + 1 = (N : Int) := by omega
    clear hNi hlt
  case' inr =>
    have i1 : (b.size : Int) ≤ (a.size : Int) := by omega
    have i2 : (a.size : Int) + 1 = (N : Int) := by omega
    clear hNi hge
  all_goals
    go_enter Tryz.func67, Tryz.ntmps67
    go_wp2_with fail
    refine (c1 _).mono ?_
    rintro e w1 ⟨rfl, rfl⟩
    clear i1 i2
    go_wp2_with fail
    refine (c2 _).mono ?_
    rintro e w2 ⟨rfl, rfl⟩
    clear c1 c2
    go_wp2_with fail
  all_goals
    go_loopg [7, 8, 9] (N + 1) (fun gk v7 v8 v9 wr => ∃ (k c : Nat) (i : Int) (O : List UInt8), v8 = .int .i64 i ∧ v7 = .int .u8 (c : Int) ∧ i + k + 1 = N ∧ -1 ≤ i ∧ c ≤ 1 ∧ gk + k = N + 1 ∧ Hid (PlusAt A.data.toList B.data.toList N k c O ∧ Buf w.heap.size O wr) ∧ Below w.heap.size w wr)
    case atStart => exact ⟨0, 0, (N : Int) - 1, A.data.toList, by go_num, rfl, by omega, by omega, by omega, rfl, H0, HBel.out⟩
    case round =>
      obtain ⟨k, c, i, O, rfl, rfl, hik, him, hc1, hgk, HP, hB⟩ := hrel
      by_cases hi : 0 ≤ i
      · obtain ⟨j, rfl⟩ : ∃ j : Nat, i = (j : Int) := ⟨i.toNat, by omega⟩
        have hAs := HS.out.1
        have hBs := HS.out.2
        have hjA : j < A.size := by omega
        have hjB : j < B.size := by omega
        have hjAl : j < A.data.toList.length := by rw [bytes_len]; exact hjA
        have hjBl : j < B.data.toList.length := by rw [bytes_len]; exact hjB
        have hx := HF.out.1 A.data.toList[j] (List.getElem_mem hjAl)
        have hy := HF.out.2.1 B.data.toList[j] (List.getElem_mem hjBl)
        have ex : A[j] = A.data.toList[j] := byte_at rfl hjA hjAl
        have ey : B[j] = B.data.toList[j] := byte_at rfl hjB hjBl
        rw [← ex] at hx
        rw [← ey] at hy
        obtain ⟨x0, x1⟩ := hx
        obtain ⟨y0, y1⟩ := hy
        have HX := Lib.hid (And.intro ex ey)
        have w1 : IntKind.u8.wrap ((A[j].toNat : Int) - 48) = (A[j].toNat : Int) - 48 := by rw [IntKind.wrap_u8]; omega
        have w2 : IntKind.u8.wrap ((A[j].toNat : Int) - 48 + (B[j].toNat : Int)) = (A[j].toNat : Int) - 48 + (B[j].toNat : Int) := by rw [IntKind.wrap_u8]; omega
        have w3 : IntKind.u8.wrap ((A[j].toNat : Int) - 48 + (B[j].toNat : Int) - 48) = (A[j].toNat : Int) - 48 + (B[j].toNat : Int) - 48 := by rw [IntKind.wrap_u8]; omega
        have w4 : IntKind.u8.wrap ((A[j].toNat : Int) - 48 + (B[j].toNat : Int) - 48 + (c : Int)) = (A[j].toNat : Int) - 48 + (B[j].toNat : Int) - 48 + (c : Int) := by rw [IntKind.wrap_u8]; omega
        have d0 : 0 ≤ (A[j].toNat : Int) - 48 + (B[j].toNat : Int) - 48 + (c : Int) := by omega
        have d1 : (A[j].toNat : Int) - 48 + (B[j].toNat : Int) - 48 + (c : Int) ≤ 19 := by omega
        have hOl : O.length = N := by
          obtain ⟨T, hO, hT, _, _⟩ := HP.out.1.form
          rw [hO, List.length_append, List.length_take, bytes_len, hT]
          omega
        obtain ⟨old, hcell⟩ : ∃ old : UInt8, wr.cell? ⟨w.heap.size, j, none⟩ = some (.int .u8 (old.toNat : Int)) := ⟨_, HP.out.2.cell j _ (List.getElem?_eq_getElem (by omega))⟩
        have hfree := HP.out.2.free j (by omega)
        have HO := Lib.hid hOl
        clear ex ey hAs hBs hOl
        go_wp2_with (go_quiet (fail))
        obtain ⟨d, hd⟩ : ∃ d : UInt8, d.toNat = 48 + (A.data.toList[j].toNat - 48 + (B.data.toList[j].toNat - 48) + c) % 10 := ⟨UInt8.ofNat _, dig_nat (Nat.mod_lt _ (by omega))⟩
        have hnext := HP.out.1.next (by rw [bytes_len]; exact HS.out.1) (by rw [bytes_len]; exact HS.out.2) HF.out.1 HF.out.2.1 (by omega) hjAl hjBl d hd
        have e1 : (48 + ((A[j].toNat : Int) - 48 + (B[j].toNat : Int) - 48 + (c : Int)) % 10) = (d.toNat : Int) := by rw [hd, ← HX.out.1, ← HX.out.2]; omega
        have e2 : (((A[j].toNat : Int) - 48 + (B[j].toNat : Int) - 48 + (c : Int)) / 10) = (((A.data.toList[j].toNat - 48 + (B.data.toList[j].toNat - 48) + c) / 10 : Nat) : Int) := by rw [← HX.out.1, ← HX.out.2]; omega
        have e3 : (A.data.toList[j].toNat - 48 + (B.data.toList[j].toNat - 48) + c) / 10 ≤ 1 := by rw [← HX.out.1, ← HX.out.2]; omega
        have hbuf := (HP.out.2.drew nq).set (i := j) (by rw [HO.out]; omega) d
        rw [e1, e2]
        go_roundg (gk - 1)
        case measure => omega
        case rel => exact ⟨k + 1, _, (j : Int) - 1, _, by go_num, rfl, by omega, by omega, e3, by omega, ⟨hnext, hbuf⟩, (below_drewN hB nq).setCell (by simp) _⟩
      · obtain rfl : i = -1 := by omega
        obtain rfl : k = N := by omega
        obtain ⟨l1, l2, l3⟩ := HP.out.1.last HF.out.2.2.1 HF.out.2.2.2.1 HF.out.2.2.2.2
        have cb := CB.out O l1 l2 l3
        have hst := HP.out.2.str (grownCap w A.size 0 5)
        rw [show O.length = A.size from l2.trans HS.out.1.symm] at hst
        generalize (ByteArray.mk O.toArray) = Z at cb hst
        clear l1 l2 l3 HP
        go_wp2_with (go_at_call 75; refine (cb _).mono ?_; rintro e w3 ⟨rfl, rfl⟩)
        go_ret
        exact ⟨rfl, hB⟩
end Go.Proofs.YtcpociafcjabkaaGreatDoor

/- The reference's difference of two numbers of digits. -/
namespace Go.Proofs.YtcpociafcjabkaaGreatDoor
open Go.RowKit

theorem minus_step (p x y c r q vT vA vB : Nat) (h : vT + vB = vA + c * p) (hq : q ≤ 1) (hD : 10 + x = y + c + (10 * q + r)) : (r * p + vT) + (y * p + vB) = (x * p + vA) + (1 - q) * (p * 10) := by
  have h1 : (10 + x) * p = (y + c + (10 * q + r)) * p := by rw [hD]
  rw [Nat.add_mul, Nat.add_mul, Nat.add_mul, Nat.add_mul] at h1
  have hq2 : q = 0 ∨ q = 1 := by omega
  rcases hq2 with rfl | rfl
  · simp only [Nat.mul_zero, Nat.zero_mul] at h1
    simp only [Nat.sub_zero, Nat.one_mul]
    omega
  · simp only [Nat.mul_one] at h1
    simp only [Nat.sub_self, Nat.zero_mul]
    omega
theorem diff_lt {a : ByteArray} {m : Nat} (ha : IsNum a m) (N : Nat) (h1 : a.size ≤ N) : m < 10 ^ N := Nat.lt_of_lt_of_le ha.lt (Nat.pow_le_pow_right (by omega) h1)

/-- What the rounds of a difference have written. -/
structure MinusAt (A B : List UInt8) (N k c : Nat) (O : List UInt8) : Prop where
  form : ∃ T : List UInt8, O = A.take (N - k) ++ T ∧ T.length = k ∧ AllD T ∧ val T + val (B.drop (N - k)) = val (A.drop (N - k)) + c * 10 ^ k
theorem MinusAt.next {A B O : List UInt8} {N k c j : Nat} (h : MinusAt A B N k c O) (hA : A.length = N) (hB : B.length = N) (hAD : AllD A) (hBD : AllD B) (hc : c ≤ 1) (hj : j + k + 1 = N) (ha : j < A.length) (hb : j < B.length)
    (d : UInt8) (hd : d.toNat = 48 + (10 + A[j].toNat - B[j].toNat - c) % 10) : MinusAt A B N (k + 1) (1 - (10 + A[j].toNat - B[j].toNat - c) / 10) (O.set j d) := by
  obtain ⟨T, hO, hT, hTD, hv⟩ := h.form
  have e1 : N - k = j + 1 := by omega
  have e2 : N - (k + 1) = j := by omega
  have hx := hAD A[j] (List.getElem_mem ha)
  have hy := hBD B[j] (List.getElem_mem hb)
  refine ⟨d :: T, ?_, by simp [hT], AllD.cons (by omega) hTD, ?_⟩
  · rw [hO, e1, e2, List.take_add_one, List.getElem?_eq_getElem ha]
    have hl : (A.take j).length = j := by rw [List.length_take]; omega
    simp only [Option.toList_some, List.append_assoc, List.singleton_append]
    rw [List.set_append_right _ _ (by omega), hl, Nat.sub_self]
    rfl
  · rw [e2, List.drop_eq_getElem_cons ha, List.drop_eq_getElem_cons hb, val_cons, val_cons, val_cons]
    rw [e1] at hv
    have l1 : (A.drop (j + 1)).length = k := by rw [List.length_drop]; omega
    have l2 : (B.drop (j + 1)).length = k := by rw [List.length_drop]; omega
    rw [l1, l2, hT, dg_eq d (by omega), dg_eq _ hx.1, dg_eq _ hy.1, Nat.pow_succ]
    refine minus_step _ _ _ c _ _ _ _ _ hv ?_ ?_
    · omega
    · rw [hd]
      omega
theorem MinusAt.last {A B O : List UInt8} {N c m n : Nat} (h : MinusAt A B N N c O) (hm : val A = m) (hn : val B = n) (h1 : n ≤ m) (_ : m < 10 ^ N) : AllD O ∧ O.length = N ∧ val O = m - n := by
  obtain ⟨T, hO, hT, hTD, hv⟩ := h.form
  rw [Nat.sub_self, List.take_zero, List.nil_append] at hO
  rw [Nat.sub_self, List.drop_zero, List.drop_zero, hm, hn] at hv
  subst hO
  refine ⟨hTD, hT, ?_⟩
  have hlt := val_lt hTD
  rw [hT] at hlt
  have hc : c = 0 := by
    rcases Nat.eq_zero_or_pos c with h0 | h0
    · exact h0
    · have : 1 * 10 ^ N ≤ c * 10 ^ N := Nat.mul_le_mul_right _ h0
      omega
  rw [hc] at hv
  omega

set_option maxRecDepth 100000 in
set_option maxHeartbeats 400000 in
theorem minus_num {a b : ByteArray} {m n : Nat} (ha : IsNum a m) (hb : IsNum b n) (hnm : n ≤ m) (hsa : a.size ≤ 50000) (hsb : b.size ≤ 50000) (w : World) :
    Calls Tryz.prog 82 #[.string a, .string b] w fun e w' => e = .returned (.string (numS (m - n))) ∧ Below w.heap.size w w' := by
  obtain ⟨N, hN⟩ : ∃ N : Nat, N = max a.size b.size := ⟨_, rfl⟩
  have c1 := fun W => long_any a (N : Int) (by omega) (by omega) (by omega) W
  have c2 := fun W => long_any b (N : Int) (by omega) (by omega) (by omega) W
  have hA1 := longS_size a N (by omega)
  have hB1 := longS_size b N (by omega)
  have hAD := longS_all ha.all (N : Int)
  have hBD := longS_all hb.all (N : Int)
  have hAv := (longS_val a (N : Int)).trans ha.val
  have hBv := (longS_val b (N : Int)).trans hb.val
  have hsum := diff_lt ha N (by omega)
  have hN1 : 1 ≤ N := by have := ha.pos; omega
  have hN2 : N ≤ 100000 := by omega
  generalize longS a (N : Int) = A at c1 hA1 hAD hAv
  generalize longS b (N : Int) = B at c2 hB1 hBD hBv
  obtain ⟨R, hR⟩ : ∃ R, numS (m - n) = R := ⟨_, rfl⟩
  rw [hR]
  have cb : ∀ O : List UInt8, AllD O → O.length = N → val O = m - n → ∀ W, Calls Tryz.prog 75 #[.string ⟨O.toArray⟩] W fun e w' => e = .returned (.string R) ∧ W = w' := fun O h1 h2 h3 W => by
    rw [← hR]
    refine bare_num ⟨by rw [bytes_mk]; exact h1, ?_, by rw [bytes_mk]; exact h3⟩ (by rw [bytes_mk_size]; unfold maxLen; omega) W
    rw [bytes_mk]
    intro e
    rw [e] at h2
    simp at h2
    omega
  have CB := Lib.hid cb
  have HF := Lib.hid (And.intro hAD (And.intro hBD (And.intro hAv (And.intro hBv hsum))))
  have HNM := Lib.hid hnm
  clear cb hAD hBD hAv hBv hsum hR ha hb hnm
  have hcv := Lib.run_convert_string_bytes (P := Tryz.prog) w 9 60 5 A (u := .string) Tryz.underlying9 Tryz.underlying60 Tryz.underlying5
  have hBuf := Buf.made w A
  have hBel : Below w.heap.size w (Lib.bytesWorld w 5 A) := Joins.below_bytesWorld w.heap.size w 5 A (Nat.le_refl _)
  generalize Lib.bytesWorld w 5 A = W1 at hcv hBuf hBel
  have H0 : Hid (MinusAt A.data.toList B.data.toList N 0 0 A.data.toList ∧ Buf w.heap.size A.data.toList W1) := by
    refine ⟨⟨[], ?_, rfl, AllD.nil, ?_⟩, hBuf⟩
    · rw [Nat.sub_zero, List.append_nil, ← hA1, ← bytes_len, List.take_length]
    · have e1 : A.data.toList.drop N = [] := List.drop_eq_nil_of_le (by rw [bytes_len]; omega)
      have e2 : B.data.toList.drop N = [] := List.drop_eq_nil_of_le (by rw [bytes_len]; omega)
      rw [Nat.sub_zero, e1, e2]
      simp [val_nil]
  have HBel := Lib.hid hBel
  have HS := Lib.hid (And.intro hA1 hB1)
  clear hA1 hB1
  clear hBuf hBel
  rcases Nat.lt_or_ge a.size b.size with hlt | hge
  case' inl =>
    have i1 : (a.size : Int) < (b.size : Int) := by omega
    have i2 : (b.size : Int) = (N : Int) := by omega
    clear hN hlt
  case' inr =>
    have i1 : (b.size : Int) ≤ (a.size : Int) := by omega
    have i2 : (a.size : Int) = (N : Int) := by omega
    clear hN hge
  all_goals
    go_enter Tryz.func82, Tryz.ntmps82
    go_wp2_with fail
    refine (c1 _).mono ?_
    rintro e w1 ⟨rfl, rfl⟩
    clear i1 i2
    go_wp2_with fail
    refine (c2 _).mono ?_
    rintro e w2 ⟨rfl, rfl⟩
    clear c1 c2
    go_wp2_with fail
  all_goals
    go_loopg [7, 8, 9] (N + 1) (fun gk v7 v8 v9 wr => ∃ (k c : Nat) (i : Int) (O : List UInt8), v8 = .int .i64 i ∧ v7 = .int .u8 (c : Int) ∧ i + k + 1 = N ∧ -1 ≤ i ∧ c ≤ 1 ∧ gk + k = N + 1 ∧ Hid (MinusAt A.data.toList B.data.toList N k c O ∧ Buf w.heap.size O wr) ∧ Below w.heap.size w wr)
    case atStart => exact ⟨0, 0, (N : Int) - 1, A.data.toList, by go_num, rfl, by omega, by omega, by omega, rfl, H0, HBel.out⟩
    case round =>
      obtain ⟨k, c, i, O, rfl, rfl, hik, him, hc1, hgk, HP, hB⟩ := hrel
      by_cases hi : 0 ≤ i
      · obtain ⟨j, rfl⟩ : ∃ j : Nat, i = (j : Int) := ⟨i.toNat, by omega⟩
        have hAs := HS.out.1
        have hBs := HS.out.2
        have hjA : j < A.size := by omega
        have hjB : j < B.size := by omega
        have hjAl : j < A.data.toList.length := by rw [bytes_len]; exact hjA
        have hjBl : j < B.data.toList.length := by rw [bytes_len]; exact hjB
        have hx := HF.out.1 A.data.toList[j] (List.getElem_mem hjAl)
        have hy := HF.out.2.1 B.data.toList[j] (List.getElem_mem hjBl)
        have ex : A[j] = A.data.toList[j] := byte_at rfl hjA hjAl
        have ey : B[j] = B.data.toList[j] := byte_at rfl hjB hjBl
        rw [← ex] at hx
        rw [← ey] at hy
        obtain ⟨x0, x1⟩ := hx
        obtain ⟨y0, y1⟩ := hy
        have HX := Lib.hid (And.intro ex ey)
        have w1 : IntKind.u8.wrap (10 + (A[j].toNat : Int)) = 10 + (A[j].toNat : Int) := by rw [IntKind.wrap_u8]; omega
        have w2 : IntKind.u8.wrap (10 + (A[j].toNat : Int) - (B[j].toNat : Int)) = 10 + (A[j].toNat : Int) - (B[j].toNat : Int) := by rw [IntKind.wrap_u8]; omega
        have w3 : IntKind.u8.wrap (10 + (A[j].toNat : Int) - (B[j].toNat : Int) - (c : Int)) = 10 + (A[j].toNat : Int) - (B[j].toNat : Int) - (c : Int) := by rw [IntKind.wrap_u8]; omega
        have d0 : 0 ≤ 10 + (A[j].toNat : Int) - (B[j].toNat : Int) - (c : Int) := by omega
        have d1 : 10 + (A[j].toNat : Int) - (B[j].toNat : Int) - (c : Int) ≤ 19 := by omega
        have hOl : O.length = N := by
          obtain ⟨T, hO, hT, _, _⟩ := HP.out.1.form
          rw [hO, List.length_append, List.length_take, bytes_len, hT]
          omega
        obtain ⟨old, hcell⟩ : ∃ old : UInt8, wr.cell? ⟨w.heap.size, j, none⟩ = some (.int .u8 (old.toNat : Int)) := ⟨_, HP.out.2.cell j _ (List.getElem?_eq_getElem (by omega))⟩
        have hfree := HP.out.2.free j (by omega)
        have HO := Lib.hid hOl
        clear ex ey hAs hBs hOl
        go_wp2_with (go_quiet (fail))
        obtain ⟨d, hd⟩ : ∃ d : UInt8, d.toNat = 48 + (10 + A.data.toList[j].toNat - B.data.toList[j].toNat - c) % 10 := ⟨UInt8.ofNat _, dig_nat (Nat.mod_lt _ (by omega))⟩
        have hnext := HP.out.1.next (by rw [bytes_len]; exact HS.out.1) (by rw [bytes_len]; exact HS.out.2) HF.out.1 HF.out.2.1 hc1 (by omega) hjAl hjBl d hd
        have e1 : (48 + (10 + (A[j].toNat : Int) - (B[j].toNat : Int) - (c : Int)) % 10) = (d.toNat : Int) := by rw [hd, ← HX.out.1, ← HX.out.2]; omega
        have e2 : (1 - (10 + (A[j].toNat : Int) - (B[j].toNat : Int) - (c : Int)) / 10) = ((1 - (10 + A.data.toList[j].toNat - B.data.toList[j].toNat - c) / 10 : Nat) : Int) := by rw [← HX.out.1, ← HX.out.2]; omega
        have e3 : 1 - (10 + A.data.toList[j].toNat - B.data.toList[j].toNat - c) / 10 ≤ 1 := by omega
        have hbuf := (HP.out.2.drew nq).set (i := j) (by rw [HO.out]; omega) d
        rw [e1, e2]
        go_roundg (gk - 1)
        case measure => omega
        case rel => exact ⟨k + 1, _, (j : Int) - 1, _, by go_num, rfl, by omega, by omega, e3, by omega, ⟨hnext, hbuf⟩, (below_drewN hB nq).setCell (by simp) _⟩
      · obtain rfl : i = -1 := by omega
        obtain rfl : k = N := by omega
        obtain ⟨l1, l2, l3⟩ := HP.out.1.last HF.out.2.2.1 HF.out.2.2.2.1 HNM.out HF.out.2.2.2.2
        have cb := CB.out O l1 l2 l3
        have hst := HP.out.2.str (grownCap w A.size 0 5)
        rw [show O.length = A.size from l2.trans HS.out.1.symm] at hst
        generalize (ByteArray.mk O.toArray) = Z at cb hst
        clear l1 l2 l3 HP
        go_wp2_with (go_at_call 75; refine (cb _).mono ?_; rintro e w3 ⟨rfl, rfl⟩)
        go_ret
        exact ⟨rfl, hB⟩
end Go.Proofs.YtcpociafcjabkaaGreatDoor

/- The reference's product and quotient of two numbers of digits. -/
namespace Go.Proofs.YtcpociafcjabkaaGreatDoor
open Go.RowKit

theorem isNum_snoc {s : ByteArray} {n : Nat} (hs : AllD s.data.toList) (hv : val s.data.toList = n) (c : UInt8) (hc : 48 ≤ c.toNat ∧ c.toNat ≤ 57) (t : ByteArray) (ht : t.data.toList = [c]) : IsNum (s ++ t) (n * 10 + dg c) := by
  refine ⟨?_, ?_, ?_⟩
  · rw [Joins.data_append, ht]
    exact hs.append (AllD.cons hc AllD.nil)
  · rw [Joins.data_append, ht]
    simp
  · rw [Joins.data_append, ht, val_snoc, hv]
theorem app_size (s t : ByteArray) : (s ++ t).size = s.size + t.size := by
  rw [← bytes_len, Joins.data_append, List.length_append, bytes_len, bytes_len]
theorem numS_len {v k : Nat} (h : v < 10 ^ k) (hk : 1 ≤ k) : (numS v).size ≤ k := by
  rw [numS_size]
  exact digs_len_le h hk
theorem val_take_succ {l : List UInt8} {i : Nat} (hi : i < l.length) : val (l.take (i + 1)) = val (l.take i) * 10 + dg l[i] := by
  rw [List.take_add_one, List.getElem?_eq_getElem hi, Option.toList_some, val_snoc]
theorem dg_le {c : UInt8} (h : 48 ≤ c.toNat ∧ c.toNat ≤ 57) : dg c ≤ 9 := by
  rw [dg_eq c h.1]
  omega

/-- The product so far is not too long. -/
theorem times_lt {m x p q k : Nat} (hm : m < p) (hx : x < q) (hk : k ≤ 9) : m * x * 10 + m * k < p * (q * 10) := by
  have h1 : m * (x * 10 + k) ≤ m * (q * 10) := Nat.mul_le_mul_left _ (by omega)
  have h2 : m * (q * 10) < p * (q * 10) := Nat.mul_lt_mul_of_pos_right hm (by omega)
  have h3 : m * x * 10 + m * k = m * (x * 10 + k) := by rw [Nat.mul_add, Nat.mul_assoc]
  omega

set_option maxRecDepth 100000 in
set_option maxHeartbeats 1000000 in
theorem times_num {a b : ByteArray} {m n : Nat} (ha : IsNum a m) (hb : IsNum b n) (hsa : a.size ≤ 20000) (hsb : b.size ≤ 20000) (w : World) :
    Calls Tryz.prog 58 #[.string a, .string b] w fun e w' => e = .returned (.string (numS (m * n))) ∧ Below w.heap.size w w' := by
  obtain ⟨R, hR⟩ : ∃ R, numS (m * n) = R := ⟨_, rfl⟩
  rw [hR]
  have HR := Lib.hid hR
  have HA := Lib.hid ha
  have HB := Lib.hid hb
  have hma : m < 10 ^ a.size := ha.lt
  have HM := Lib.hid hma
  clear hR hb hma
  go_enter Tryz.func58, Tryz.ntmps58
  go_wp2
  go_loopg [5, 6] (b.size + 1) (fun gk v5 v6 wr => ∃ (i : Nat) (s : ByteArray), v6 = .int .i64 (i : Int) ∧ v5 = .string s ∧ i ≤ b.size ∧ gk + i = b.size + 1 ∧ s.size ≤ a.size + i + 1 ∧ Hid (IsNum s (m * val (b.data.toList.take i))) ∧ Below w.heap.size w wr)
  case atStart => exact ⟨0, ⟨#[48]⟩, rfl, rfl, Nat.zero_le _, rfl, by show 1 ≤ _; omega, ⟨AllD.cons (by decide) AllD.nil, by simp, by simp [val_nil]; rfl⟩, Below.refl _ _⟩
  case round =>
    obtain ⟨i, s, rfl, rfl, hi, hgk, hsz, HS, hB⟩ := hrel
    by_cases hlt : i < b.size
    · have hil : i < b.data.toList.length := by rw [bytes_len]; exact hlt
      have eb : b[i] = b.data.toList[i] := byte_at rfl hlt hil
      have hd := HB.out.all b.data.toList[i] (List.getElem_mem hil)
      rw [← eb] at hd
      obtain ⟨d0, d1⟩ := hd
      have hxl := val_lt (HB.out.all.take i)
      rw [List.length_take, bytes_len, show min i b.size = i by omega] at hxl
      have HX := Lib.hid (And.intro (val_take_succ hil) hxl)
      rw [← eb] at HX
      clear eb hxl
      have hss : s.size + 1 ≤ 9223372036854775807 := by omega
      go_wp2_with fail
      go_loopg [5, 7] (b[i].toNat + 1 - 48) (fun g2 v5 v7 wr2 => ∃ (k : Nat) (t : ByteArray), v7 = .int .u8 (48 + (k : Int)) ∧ v5 = .string t ∧ 48 + k ≤ b[i].toNat ∧ g2 + k = b[i].toNat + 1 - 48 ∧ t.size ≤ a.size + i + 2 ∧ Hid (IsNum t (m * val (b.data.toList.take i) * 10 + m * k)) ∧ Below w.heap.size w wr2)
      case atStart =>
        refine ⟨0, _, rfl, rfl, by omega, by omega, ?_, ?_, hB⟩
        · rw [app_size]; show s.size + 1 ≤ _; omega
        · have := isNum_snoc HS.out.all HS.out.val 48 (by decide) ⟨#[48]⟩ rfl
          rw [dg_48] at this
          exact this
      case round =>
        obtain ⟨k, t, rfl, rfl, hk, hg2, htz, HT, hB2⟩ := hrel
        clear hB HS
        by_cases hlt2 : (48 + (k : Int)) < (b[i].toNat : Int)
        · have cP := fun W => plus_num HT.out HA.out (by omega) (by omega) W
          have hk9 : k + 1 ≤ 9 := by omega
          have HV : Hid (IsNum (numS (m * val (b.data.toList.take i) * 10 + m * k + m)) (m * val (b.data.toList.take i) * 10 + m * (k + 1)) ∧ (numS (m * val (b.data.toList.take i) * 10 + m * k + m)).size ≤ a.size + i + 2) := by
            have e : m * val (b.data.toList.take i) * 10 + m * k + m = m * val (b.data.toList.take i) * 10 + m * (k + 1) := by rw [Nat.mul_add, Nat.mul_one]; omega
            rw [e]
            refine ⟨IsNum.num _, Nat.le_succ_of_le (numS_len ?_ (by omega))⟩
            have h1 := times_lt HM.out HX.out.2 hk9
            rw [Nat.pow_add, Nat.pow_add, Nat.pow_one, Nat.mul_assoc (10 ^ a.size)]
            exact h1
          generalize numS (m * val (b.data.toList.take i) * 10 + m * k + m) = Z at cP HV
          have e1 : (48 + (k : Int) + 1) = 48 + ((k + 1 : Nat) : Int) := by omega
          clear hk9
          go_wp2_with (go_at_call 67; refine (cP _).mono ?_; rintro e w3 ⟨rfl, b3⟩)
          go_roundg (b[i].toNat - 48 - k)
          case measure => omega
          case rel => exact ⟨k + 1, Z, by go_num, rfl, by omega, by omega, HV.out.2, HV.out.1, hB2.trans (b3.mono hB2.size)⟩
        · have hkd : 48 + k = b[i].toNat := by omega
          have HV : Hid (IsNum t (m * val (b.data.toList.take (i + 1)))) := by
            show IsNum _ _
            have h1 := HT.out
            have e : m * val (b.data.toList.take i) * 10 + m * k = m * val (b.data.toList.take (i + 1)) := by
              rw [HX.out.1, dg_eq _ d0, Nat.mul_add, Nat.mul_assoc]
              congr 2
              omega
            rw [e] at h1
            exact h1
          clear HT
          go_wp2_with fail
          go_roundg (b.size - i)
          case measure => omega
          case rel => exact ⟨i + 1, t, by go_num, rfl, by omega, by omega, by omega, HV, hB2⟩
    · obtain rfl : i = b.size := by omega
      have HV : IsNum s (m * n) := by
        have h1 := HS.out
        rw [← bytes_len, List.take_length, HB.out.val] at h1
        exact h1
      have cb := fun W => bare_num HV (by unfold maxLen; omega) W
      rw [HR.out] at cb
      clear HV HS
      go_wp2_with (go_at_call 75; refine (cb _).mono ?_; rintro e w3 ⟨rfl, rfl⟩)
      go_ret
      exact ⟨rfl, hB⟩
end Go.Proofs.YtcpociafcjabkaaGreatDoor
