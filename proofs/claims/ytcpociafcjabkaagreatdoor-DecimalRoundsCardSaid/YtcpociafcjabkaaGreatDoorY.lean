/- The reference's Round. -/
import Derived.Test.YtcpociafcjabkaaGreatDoorS
set_option linter.unusedSimpArgs false
set_option linter.unusedVariables false
namespace Go.Proofs.YtcpociafcjabkaaGreatDoor
open Go.RowKit

/-- A number, rounded. -/
def roundTo (n s k : Nat) : Nat :=
  if 10 ^ (s - k) < n % 10 ^ (s - k) + n % 10 ^ (s - k) ∨ (n % 10 ^ (s - k) + n % 10 ^ (s - k) = 10 ^ (s - k) ∧ n / 10 ^ (s - k) % 2 = 1) then n / 10 ^ (s - k) + 1 else n / 10 ^ (s - k)

theorem unit_num (j : Nat) : IsNum (⟨#[49]⟩ ++ zs j) (10 ^ j) ∧ ((⟨#[49]⟩ : ByteArray) ++ zs j) = numS (10 ^ j) := by
  have h1 : IsNum (⟨#[49]⟩ : ByteArray) 1 := ⟨AllD.cons (by decide) AllD.nil, by simp, by rfl⟩
  have h := num_zeros h1 j
  rw [Nat.one_mul] at h
  refine ⟨h, ?_⟩
  apply bytes_ext
  have hc : Canon ((⟨#[49]⟩ : ByteArray) ++ zs j).data.toList := by
    refine ⟨h.all, h.ne, fun e => ?_⟩
    rw [Joins.data_append] at e
    exact absurd e (by simp)
  have := canon_eq hc
  rw [h.val] at this
  rw [numS_list]
  exact this
theorem numS_inj {m n : Nat} : ((numS m).toList == (numS n).toList) = decide (m = n) := by
  rw [numS_toList, numS_toList]
  by_cases h : m = n
  · rw [h, decide_eq_true rfl]
    exact beq_self_eq_true _
  · rw [decide_eq_false h]
    refine beq_eq_false_iff_ne.2 fun e => h ?_
    have h1 := digs_val m
    rw [e, digs_val] at h1
    exact h1.symm
theorem one_num : IsNum (⟨#[49]⟩ : ByteArray) 1 := ⟨AllD.cons (by decide) AllD.nil, by simp, by rfl⟩

set_option maxRecDepth 100000 in
set_option maxHeartbeats 2000000 in
theorem round_same (neg : Bool) (a : ByteArray) (s n k : Nat) (h : IsDec ⟨neg, a, (s : Int)⟩ n s) (hsk : s ≤ k) (hk : k ≤ 60) (w : World) :
    Calls Tryz.prog 30 #[.agg #[.bool neg, .string a, .int .i64 (s : Int)], .int .i64 (k : Int)] w fun e w' => e = .returned (.tuple #[(Dec.mk neg a (s : Int)).v, .int .i64 0]) ∧ Below w.heap.size w w' := by
  have za : a.size ≤ 60 := by rw [show a = numS n from h.ds, numS_size]; exact h.len
  have c1 := fun W => check_val neg a (s : Int) (by unfold maxLen; omega) W 0 (chkR_ok ⟨n, s, h⟩)
  simp only [Dec.v]
  have k1 : (k : Int) ≤ 60 := by omega
  have k2 : (s : Int) ≤ (k : Int) := by omega
  clear h za
  go_enter Tryz.func30, Tryz.ntmps30
  go_wp2_with fail
  refine (c1 _).mono ?_
  rintro e w1 ⟨rfl, b1⟩
  obtain ⟨x0, x1, x2, r0, r1, r2, f0, f1, f2, hB, hz⟩ := two_all b1
  have HB := Lib.hid hB
  go_wp2
  exact bodyPost_ret (v := .tuple #[.agg #[.bool neg, .string a, .int .i64 (s : Int)], .int .i64 0]) (by simp [results, Tryz.results30, go_sem, r0, r1, r2]) rfl ⟨rfl, ((HB.out.setCell (by simp) _).setCell (by simp) _).setCell (by simp) _⟩

set_option maxRecDepth 100000 in
set_option maxHeartbeats 4000000 in
theorem round_A (neg : Bool) (a : ByteArray) (s n k : Nat) (h : IsDec ⟨neg, a, (s : Int)⟩ n s) (hsk : k < s) (hup : 10 ^ (s - k) < n % 10 ^ (s - k) + n % 10 ^ (s - k)) (w : World) :
    Calls Tryz.prog 30 #[.agg #[.bool neg, .string a, .int .i64 (s : Int)], .int .i64 (k : Int)] w fun e w' => e = .returned (decR (mkDec neg (n / 10 ^ (s - k) + 1) k)) ∧ Below w.heap.size w w' := by
  have za : a.size ≤ 60 := by rw [show a = numS n from h.ds, numS_size]; exact h.len
  have c1 := fun W => check_val neg a (s : Int) (by unfold maxLen; omega) W 0 (chkR_ok ⟨n, s, h⟩)
  have hs := h.le
  have cZ := fun W => zeros_any ((s : Int) - k) (by omega) W
  rw [show ((s : Int) - k).toNat = s - k by omega] at cZ
  obtain ⟨iu, hu⟩ := unit_num (s - k)
  have zu : ((⟨#[49]⟩ : ByteArray) ++ zs (s - k)).size ≤ 100 := by rw [app_size, zs_size]; show 1 + _ ≤ _; omega
  have hpos : 0 < 10 ^ (s - k) := Nat.pow_pos (by omega)
  have hadd : (⟨#[49]⟩ : ByteArray).size + (zs (s - k)).size ≤ 9223372036854775807 := by rw [← app_size]; omega
  have hadd2 : 1 + (zs (s - k)).size ≤ 9223372036854775807 := hadd
  generalize 10 ^ (s - k) = u at iu hu hpos hup ⊢
  generalize zs (s - k) = K at *
  have cO := fun W => over_num h.num iu hpos (by simp only; omega) (by omega) W
  have hrl : n % u < 10 ^ 100 := Nat.lt_trans (Nat.mod_lt _ hpos) (Nat.lt_of_lt_of_le iu.lt (Nat.pow_le_pow_right (by omega) zu))
  have zr : (numS (n % u)).size ≤ 100 := numS_len hrl (by omega)
  have hql : n / u < 10 ^ 60 := Nat.lt_of_le_of_lt (Nat.div_le_self _ _) (Nat.lt_of_lt_of_le h.num.lt (Nat.pow_le_pow_right (by omega) za))
  have zq : (numS (n / u)).size ≤ 60 := numS_len hql (by omega)
  have cP := fun W => plus_num (IsNum.num (n % u)) (IsNum.num (n % u)) (by omega) (by omega) W
  have zt : (numS (n % u + n % u)).size ≤ 101 := numS_len (by
    have h1 : 10 ^ 101 = 10 ^ 100 * 10 := Nat.pow_succ 10 100
    rw [h1]
    generalize 10 ^ 100 = p at hrl ⊢
    omega) (by omega)
  have cL := fun W => less_num iu (IsNum.num (n % u + n % u)) (by unfold maxLen; omega) (by unfold maxLen; omega) W
  have hte := numS_inj (m := n % u + n % u) (n := u)
  rw [← hu] at hte
  have cQ := fun W => plus_num (IsNum.num (n / u)) one_num (by omega) (by show 1 ≤ _; omega) W
  have zq1 : (numS (n / u + 1)).size ≤ 50000 := Nat.le_trans (numS_len (k := 61) (by
    have h1 : 10 ^ 61 = 10 ^ 60 * 10 := Nat.pow_succ 10 60
    rw [h1]
    generalize 10 ^ 60 = p at hql ⊢
    generalize n / u = v at hql ⊢
    omega) (by omega)) (by omega)
  have cM := fun W => made_num neg (numS (n / u + 1)) (n / u + 1) k (IsNum.num _) zq1 (by omega) W
  unfold decR at cM ⊢
  obtain ⟨j, hj⟩ : ∃ j, (numS (n / u)).size = j + 1 := ⟨(numS (n / u)).size - 1, by have := (IsNum.num (n / u)).pos; omega⟩
  have hld := last_dig (s := numS (n / u)) (n := n / u) rfl hj
  have hji : ((numS (n / u)).size : Int) - 1 = (j : Int) := by omega
  have hjl : j < (numS (n / u)).size := by omega
  have hj60 : (j : Int) ≤ 60 := by omega
  have hl : (u < n % u + n % u) := hup
  have hlB := decide_eq_true hl
  rw [hlB] at cL
  have o0 : 48 ≤ (numS (n / u))[j].toNat := by rw [hld]; omega
  have o1 : (numS (n / u))[j].toNat ≤ 57 := by rw [hld]; omega
  have o2 : True := trivial
  generalize (mkDec neg (n / u + 1) k).getD decNil = d at cM ⊢
  generalize (if (mkDec neg (n / u + 1) k).isSome then (0 : Int) else 7) = q at cM ⊢
  obtain ⟨dn, dd, dsc⟩ := d
  simp only [Dec.v] at cM ⊢
  have k1 : (k : Int) ≤ 60 := by omega
  have k2 : (k : Int) < (s : Int) := by omega
  have w1 : IntKind.i64.wrap ((s : Int) - (k : Int)) = (s : Int) - (k : Int) := IntWalk.i64_in _ (by omega)
  clear hld hj zq1 zt hql zr hrl hs h za hsk zu iu hu hpos hup hlB hl
  generalize numS (n % u + n % u) = T at *
  generalize numS (n % u) = Rr at *
  generalize numS (n / u) = Q at *
  generalize numS (n / u + 1) = Q1 at *
  go_enter Tryz.func30, Tryz.ntmps30
  go_wp2_with fail
  refine (c1 _).mono ?_
  rintro e w1 ⟨rfl, b1⟩
  obtain ⟨x0, x1, x2, r0, r1, r2, f0, f1, f2, hB, hz⟩ := two_all b1
  clear c1
  go_wp2_with fail
  refine (cZ _).mono ?_
  rintro e w2 ⟨rfl, rfl⟩
  clear cZ
  go_wp2_with fail
  refine (cO _).mono ?_
  rintro e w3 ⟨rfl, b3⟩
  have b13 := b1.trans (b3.mono b1.size)
  clear x0 x1 x2 r0 r1 r2 f0 f1 f2 hB hz b1 b3 cO
  obtain ⟨x0, x1, x2, r0, r1, r2, f0, f1, f2, hB, hz⟩ := two_all b13
  go_wp2_with fail
  refine (cP _).mono ?_
  rintro e w4 ⟨rfl, b4⟩
  have b14 := b13.trans (b4.mono b13.size)
  clear x0 x1 x2 r0 r1 r2 f0 f1 f2 hB hz b13 b4 cP
  obtain ⟨x0, x1, x2, r0, r1, r2, f0, f1, f2, hB, hz⟩ := two_all b14
  go_wp2_with fail
  refine (cL _).mono ?_
  rintro e w5 ⟨rfl, rfl⟩
  clear cL
  go_wp2_with fail
  refine (cQ _).mono ?_
  rintro e w6 ⟨rfl, b6⟩
  have b16 := b14.trans (b6.mono b14.size)
  clear x0 x1 x2 r0 r1 r2 f0 f1 f2 hB hz b14 b6 cQ
  obtain ⟨x0, x1, x2, r0, r1, r2, f0, f1, f2, hB, hz⟩ := two_all b16
  go_wp2_with fail
  refine (cM _).mono ?_
  rintro e w7 ⟨rfl, b7⟩
  have b17 := b16.trans (b7.mono b16.size)
  clear x0 x1 x2 r0 r1 r2 f0 f1 f2 hB hz b16 b7 cM
  obtain ⟨x0, x1, x2, r0, r1, r2, f0, f1, f2, hB, hz⟩ := two_all b17
  clear x0 x1 x2
  have HB := Lib.hid hB
  go_wp2
  exact bodyPost_ret (v := .tuple #[.agg #[.bool dn, .string dd, .int .i64 dsc], .int .i64 q]) (by simp [results, Tryz.results30, go_sem, r0, r1, r2]) rfl ⟨rfl, ((HB.out.setCell (by simp) _).setCell (by simp) _).setCell (by simp) _⟩

set_option maxRecDepth 100000 in
set_option maxHeartbeats 4000000 in
theorem round_B (neg : Bool) (a : ByteArray) (s n k : Nat) (h : IsDec ⟨neg, a, (s : Int)⟩ n s) (hsk : k < s) (hup : n % 10 ^ (s - k) + n % 10 ^ (s - k) = 10 ^ (s - k) ∧ n / 10 ^ (s - k) % 2 = 1) (w : World) :
    Calls Tryz.prog 30 #[.agg #[.bool neg, .string a, .int .i64 (s : Int)], .int .i64 (k : Int)] w fun e w' => e = .returned (decR (mkDec neg (n / 10 ^ (s - k) + 1) k)) ∧ Below w.heap.size w w' := by
  have za : a.size ≤ 60 := by rw [show a = numS n from h.ds, numS_size]; exact h.len
  have c1 := fun W => check_val neg a (s : Int) (by unfold maxLen; omega) W 0 (chkR_ok ⟨n, s, h⟩)
  have hs := h.le
  have cZ := fun W => zeros_any ((s : Int) - k) (by omega) W
  rw [show ((s : Int) - k).toNat = s - k by omega] at cZ
  obtain ⟨iu, hu⟩ := unit_num (s - k)
  have zu : ((⟨#[49]⟩ : ByteArray) ++ zs (s - k)).size ≤ 100 := by rw [app_size, zs_size]; show 1 + _ ≤ _; omega
  have hpos : 0 < 10 ^ (s - k) := Nat.pow_pos (by omega)
  have hadd : (⟨#[49]⟩ : ByteArray).size + (zs (s - k)).size ≤ 9223372036854775807 := by rw [← app_size]; omega
  have hadd2 : 1 + (zs (s - k)).size ≤ 9223372036854775807 := hadd
  generalize 10 ^ (s - k) = u at iu hu hpos hup ⊢
  generalize zs (s - k) = K at *
  have cO := fun W => over_num h.num iu hpos (by simp only; omega) (by omega) W
  have hrl : n % u < 10 ^ 100 := Nat.lt_trans (Nat.mod_lt _ hpos) (Nat.lt_of_lt_of_le iu.lt (Nat.pow_le_pow_right (by omega) zu))
  have zr : (numS (n % u)).size ≤ 100 := numS_len hrl (by omega)
  have hql : n / u < 10 ^ 60 := Nat.lt_of_le_of_lt (Nat.div_le_self _ _) (Nat.lt_of_lt_of_le h.num.lt (Nat.pow_le_pow_right (by omega) za))
  have zq : (numS (n / u)).size ≤ 60 := numS_len hql (by omega)
  have cP := fun W => plus_num (IsNum.num (n % u)) (IsNum.num (n % u)) (by omega) (by omega) W
  have zt : (numS (n % u + n % u)).size ≤ 101 := numS_len (by
    have h1 : 10 ^ 101 = 10 ^ 100 * 10 := Nat.pow_succ 10 100
    rw [h1]
    generalize 10 ^ 100 = p at hrl ⊢
    omega) (by omega)
  have cL := fun W => less_num iu (IsNum.num (n % u + n % u)) (by unfold maxLen; omega) (by unfold maxLen; omega) W
  have hte := numS_inj (m := n % u + n % u) (n := u)
  rw [← hu] at hte
  have cQ := fun W => plus_num (IsNum.num (n / u)) one_num (by omega) (by show 1 ≤ _; omega) W
  have zq1 : (numS (n / u + 1)).size ≤ 50000 := Nat.le_trans (numS_len (k := 61) (by
    have h1 : 10 ^ 61 = 10 ^ 60 * 10 := Nat.pow_succ 10 60
    rw [h1]
    generalize 10 ^ 60 = p at hql ⊢
    generalize n / u = v at hql ⊢
    omega) (by omega)) (by omega)
  have cM := fun W => made_num neg (numS (n / u + 1)) (n / u + 1) k (IsNum.num _) zq1 (by omega) W
  unfold decR at cM ⊢
  obtain ⟨j, hj⟩ : ∃ j, (numS (n / u)).size = j + 1 := ⟨(numS (n / u)).size - 1, by have := (IsNum.num (n / u)).pos; omega⟩
  have hld := last_dig (s := numS (n / u)) (n := n / u) rfl hj
  have hji : ((numS (n / u)).size : Int) - 1 = (j : Int) := by omega
  have hjl : j < (numS (n / u)).size := by omega
  have hj60 : (j : Int) ≤ 60 := by omega
  have hlB : decide (u < n % u + n % u) = false := decide_eq_false (by omega)
  have hteB : decide (n % u + n % u = u) = true := decide_eq_true hup.1
  have hodd : (n / u) % 10 % 2 = 1 := by omega
  rw [hlB] at cL
  rw [hteB] at hte
  have o0 : 48 ≤ (numS (n / u))[j].toNat := by rw [hld]; omega
  have o1 : (numS (n / u))[j].toNat ≤ 57 := by rw [hld]; omega
  have o2 : ((((numS (n / u))[j].toNat : Int) - 48) % 2 == 1) = true := by rw [beq_iff_eq]; omega
  generalize (mkDec neg (n / u + 1) k).getD decNil = d at cM ⊢
  generalize (if (mkDec neg (n / u + 1) k).isSome then (0 : Int) else 7) = q at cM ⊢
  obtain ⟨dn, dd, dsc⟩ := d
  simp only [Dec.v] at cM ⊢
  have k1 : (k : Int) ≤ 60 := by omega
  have k2 : (k : Int) < (s : Int) := by omega
  have w1 : IntKind.i64.wrap ((s : Int) - (k : Int)) = (s : Int) - (k : Int) := IntWalk.i64_in _ (by omega)
  clear hld hj zq1 zt hql zr hrl hs h za hsk zu iu hu hpos hup hlB hteB hodd
  generalize numS (n % u + n % u) = T at *
  generalize numS (n % u) = Rr at *
  generalize numS (n / u) = Q at *
  generalize numS (n / u + 1) = Q1 at *
  go_enter Tryz.func30, Tryz.ntmps30
  go_wp2_with fail
  refine (c1 _).mono ?_
  rintro e w1 ⟨rfl, b1⟩
  obtain ⟨x0, x1, x2, r0, r1, r2, f0, f1, f2, hB, hz⟩ := two_all b1
  clear c1
  go_wp2_with fail
  refine (cZ _).mono ?_
  rintro e w2 ⟨rfl, rfl⟩
  clear cZ
  go_wp2_with fail
  refine (cO _).mono ?_
  rintro e w3 ⟨rfl, b3⟩
  have b13 := b1.trans (b3.mono b1.size)
  clear x0 x1 x2 r0 r1 r2 f0 f1 f2 hB hz b1 b3 cO
  obtain ⟨x0, x1, x2, r0, r1, r2, f0, f1, f2, hB, hz⟩ := two_all b13
  go_wp2_with fail
  refine (cP _).mono ?_
  rintro e w4 ⟨rfl, b4⟩
  have b14 := b13.trans (b4.mono b13.size)
  clear x0 x1 x2 r0 r1 r2 f0 f1 f2 hB hz b13 b4 cP
  obtain ⟨x0, x1, x2, r0, r1, r2, f0, f1, f2, hB, hz⟩ := two_all b14
  go_wp2_with fail
  refine (cL _).mono ?_
  rintro e w5 ⟨rfl, rfl⟩
  clear cL
  go_wp2_with fail
  refine (cQ _).mono ?_
  rintro e w6 ⟨rfl, b6⟩
  have b16 := b14.trans (b6.mono b14.size)
  clear x0 x1 x2 r0 r1 r2 f0 f1 f2 hB hz b14 b6 cQ
  obtain ⟨x0, x1, x2, r0, r1, r2, f0, f1, f2, hB, hz⟩ := two_all b16
  go_wp2_with fail
  refine (cM _).mono ?_
  rintro e w7 ⟨rfl, b7⟩
  have b17 := b16.trans (b7.mono b16.size)
  clear x0 x1 x2 r0 r1 r2 f0 f1 f2 hB hz b16 b7 cM
  obtain ⟨x0, x1, x2, r0, r1, r2, f0, f1, f2, hB, hz⟩ := two_all b17
  clear x0 x1 x2
  have HB := Lib.hid hB
  go_wp2
  exact bodyPost_ret (v := .tuple #[.agg #[.bool dn, .string dd, .int .i64 dsc], .int .i64 q]) (by simp [results, Tryz.results30, go_sem, r0, r1, r2]) rfl ⟨rfl, ((HB.out.setCell (by simp) _).setCell (by simp) _).setCell (by simp) _⟩

set_option maxRecDepth 100000 in
set_option maxHeartbeats 4000000 in
theorem round_C (neg : Bool) (a : ByteArray) (s n k : Nat) (h : IsDec ⟨neg, a, (s : Int)⟩ n s) (hsk : k < s) (hup : n % 10 ^ (s - k) + n % 10 ^ (s - k) = 10 ^ (s - k) ∧ n / 10 ^ (s - k) % 2 = 0) (w : World) :
    Calls Tryz.prog 30 #[.agg #[.bool neg, .string a, .int .i64 (s : Int)], .int .i64 (k : Int)] w fun e w' => e = .returned (decR (mkDec neg (n / 10 ^ (s - k)) k)) ∧ Below w.heap.size w w' := by
  have za : a.size ≤ 60 := by rw [show a = numS n from h.ds, numS_size]; exact h.len
  have c1 := fun W => check_val neg a (s : Int) (by unfold maxLen; omega) W 0 (chkR_ok ⟨n, s, h⟩)
  have hs := h.le
  have cZ := fun W => zeros_any ((s : Int) - k) (by omega) W
  rw [show ((s : Int) - k).toNat = s - k by omega] at cZ
  obtain ⟨iu, hu⟩ := unit_num (s - k)
  have zu : ((⟨#[49]⟩ : ByteArray) ++ zs (s - k)).size ≤ 100 := by rw [app_size, zs_size]; show 1 + _ ≤ _; omega
  have hpos : 0 < 10 ^ (s - k) := Nat.pow_pos (by omega)
  have hadd : (⟨#[49]⟩ : ByteArray).size + (zs (s - k)).size ≤ 9223372036854775807 := by rw [← app_size]; omega
  have hadd2 : 1 + (zs (s - k)).size ≤ 9223372036854775807 := hadd
  generalize 10 ^ (s - k) = u at iu hu hpos hup ⊢
  generalize zs (s - k) = K at *
  have cO := fun W => over_num h.num iu hpos (by simp only; omega) (by omega) W
  have hrl : n % u < 10 ^ 100 := Nat.lt_trans (Nat.mod_lt _ hpos) (Nat.lt_of_lt_of_le iu.lt (Nat.pow_le_pow_right (by omega) zu))
  have zr : (numS (n % u)).size ≤ 100 := numS_len hrl (by omega)
  have hql : n / u < 10 ^ 60 := Nat.lt_of_le_of_lt (Nat.div_le_self _ _) (Nat.lt_of_lt_of_le h.num.lt (Nat.pow_le_pow_right (by omega) za))
  have zq : (numS (n / u)).size ≤ 60 := numS_len hql (by omega)
  have cP := fun W => plus_num (IsNum.num (n % u)) (IsNum.num (n % u)) (by omega) (by omega) W
  have zt : (numS (n % u + n % u)).size ≤ 101 := numS_len (by
    have h1 : 10 ^ 101 = 10 ^ 100 * 10 := Nat.pow_succ 10 100
    rw [h1]
    generalize 10 ^ 100 = p at hrl ⊢
    omega) (by omega)
  have cL := fun W => less_num iu (IsNum.num (n % u + n % u)) (by unfold maxLen; omega) (by unfold maxLen; omega) W
  have hte := numS_inj (m := n % u + n % u) (n := u)
  rw [← hu] at hte
  have cQ := fun W => plus_num (IsNum.num (n / u)) one_num (by omega) (by show 1 ≤ _; omega) W
  have zq1 : (numS (n / u)).size ≤ 50000 := Nat.le_trans (numS_len (k := 61) (by
    have h1 : 10 ^ 61 = 10 ^ 60 * 10 := Nat.pow_succ 10 60
    rw [h1]
    generalize 10 ^ 60 = p at hql ⊢
    generalize n / u = v at hql ⊢
    omega) (by omega)) (by omega)
  have cM := fun W => made_num neg (numS (n / u)) (n / u) k (IsNum.num _) zq1 (by omega) W
  unfold decR at cM ⊢
  obtain ⟨j, hj⟩ : ∃ j, (numS (n / u)).size = j + 1 := ⟨(numS (n / u)).size - 1, by have := (IsNum.num (n / u)).pos; omega⟩
  have hld := last_dig (s := numS (n / u)) (n := n / u) rfl hj
  have hji : ((numS (n / u)).size : Int) - 1 = (j : Int) := by omega
  have hjl : j < (numS (n / u)).size := by omega
  have hj60 : (j : Int) ≤ 60 := by omega
  have hlB : decide (u < n % u + n % u) = false := decide_eq_false (by omega)
  have hteB : decide (n % u + n % u = u) = true := decide_eq_true hup.1
  have hodd : (n / u) % 10 % 2 = 0 := by omega
  rw [hlB] at cL
  rw [hteB] at hte
  have o0 : 48 ≤ (numS (n / u))[j].toNat := by rw [hld]; omega
  have o1 : (numS (n / u))[j].toNat ≤ 57 := by rw [hld]; omega
  have o2 : ((((numS (n / u))[j].toNat : Int) - 48) % 2 == 1) = false := by rw [beq_eq_false_iff_ne]; omega
  generalize (mkDec neg (n / u) k).getD decNil = d at cM ⊢
  generalize (if (mkDec neg (n / u) k).isSome then (0 : Int) else 7) = q at cM ⊢
  obtain ⟨dn, dd, dsc⟩ := d
  simp only [Dec.v] at cM ⊢
  have k1 : (k : Int) ≤ 60 := by omega
  have k2 : (k : Int) < (s : Int) := by omega
  have w1 : IntKind.i64.wrap ((s : Int) - (k : Int)) = (s : Int) - (k : Int) := IntWalk.i64_in _ (by omega)
  clear hld hj zq1 zt hql zr hrl hs h za hsk zu iu hu hpos hup hlB hteB hodd
  generalize numS (n % u + n % u) = T at *
  generalize numS (n % u) = Rr at *
  generalize numS (n / u) = Q at *
  go_enter Tryz.func30, Tryz.ntmps30
  go_wp2_with fail
  refine (c1 _).mono ?_
  rintro e w1 ⟨rfl, b1⟩
  obtain ⟨x0, x1, x2, r0, r1, r2, f0, f1, f2, hB, hz⟩ := two_all b1
  clear c1
  go_wp2_with fail
  refine (cZ _).mono ?_
  rintro e w2 ⟨rfl, rfl⟩
  clear cZ
  go_wp2_with fail
  refine (cO _).mono ?_
  rintro e w3 ⟨rfl, b3⟩
  have b13 := b1.trans (b3.mono b1.size)
  clear x0 x1 x2 r0 r1 r2 f0 f1 f2 hB hz b1 b3 cO
  obtain ⟨x0, x1, x2, r0, r1, r2, f0, f1, f2, hB, hz⟩ := two_all b13
  go_wp2_with fail
  refine (cP _).mono ?_
  rintro e w4 ⟨rfl, b4⟩
  have b14 := b13.trans (b4.mono b13.size)
  clear x0 x1 x2 r0 r1 r2 f0 f1 f2 hB hz b13 b4 cP
  obtain ⟨x0, x1, x2, r0, r1, r2, f0, f1, f2, hB, hz⟩ := two_all b14
  go_wp2_with fail
  refine (cL _).mono ?_
  rintro e w5 ⟨rfl, rfl⟩
  clear cL
  go_wp2_with fail
  have b16 := b14
  clear b14 cQ
  refine (cM _).mono ?_
  rintro e w7 ⟨rfl, b7⟩
  have b17 := b16.trans (b7.mono b16.size)
  clear x0 x1 x2 r0 r1 r2 f0 f1 f2 hB hz b16 b7 cM
  obtain ⟨x0, x1, x2, r0, r1, r2, f0, f1, f2, hB, hz⟩ := two_all b17
  clear x0 x1 x2
  have HB := Lib.hid hB
  go_wp2
  exact bodyPost_ret (v := .tuple #[.agg #[.bool dn, .string dd, .int .i64 dsc], .int .i64 q]) (by simp [results, Tryz.results30, go_sem, r0, r1, r2]) rfl ⟨rfl, ((HB.out.setCell (by simp) _).setCell (by simp) _).setCell (by simp) _⟩

set_option maxRecDepth 100000 in
set_option maxHeartbeats 4000000 in
theorem round_D (neg : Bool) (a : ByteArray) (s n k : Nat) (h : IsDec ⟨neg, a, (s : Int)⟩ n s) (hsk : k < s) (hup : n % 10 ^ (s - k) + n % 10 ^ (s - k) < 10 ^ (s - k)) (w : World) :
    Calls Tryz.prog 30 #[.agg #[.bool neg, .string a, .int .i64 (s : Int)], .int .i64 (k : Int)] w fun e w' => e = .returned (decR (mkDec neg (n / 10 ^ (s - k)) k)) ∧ Below w.heap.size w w' := by
  have za : a.size ≤ 60 := by rw [show a = numS n from h.ds, numS_size]; exact h.len
  have c1 := fun W => check_val neg a (s : Int) (by unfold maxLen; omega) W 0 (chkR_ok ⟨n, s, h⟩)
  have hs := h.le
  have cZ := fun W => zeros_any ((s : Int) - k) (by omega) W
  rw [show ((s : Int) - k).toNat = s - k by omega] at cZ
  obtain ⟨iu, hu⟩ := unit_num (s - k)
  have zu : ((⟨#[49]⟩ : ByteArray) ++ zs (s - k)).size ≤ 100 := by rw [app_size, zs_size]; show 1 + _ ≤ _; omega
  have hpos : 0 < 10 ^ (s - k) := Nat.pow_pos (by omega)
  have hadd : (⟨#[49]⟩ : ByteArray).size + (zs (s - k)).size ≤ 9223372036854775807 := by rw [← app_size]; omega
  have hadd2 : 1 + (zs (s - k)).size ≤ 9223372036854775807 := hadd
  generalize 10 ^ (s - k) = u at iu hu hpos hup ⊢
  generalize zs (s - k) = K at *
  have cO := fun W => over_num h.num iu hpos (by simp only; omega) (by omega) W
  have hrl : n % u < 10 ^ 100 := Nat.lt_trans (Nat.mod_lt _ hpos) (Nat.lt_of_lt_of_le iu.lt (Nat.pow_le_pow_right (by omega) zu))
  have zr : (numS (n % u)).size ≤ 100 := numS_len hrl (by omega)
  have hql : n / u < 10 ^ 60 := Nat.lt_of_le_of_lt (Nat.div_le_self _ _) (Nat.lt_of_lt_of_le h.num.lt (Nat.pow_le_pow_right (by omega) za))
  have zq : (numS (n / u)).size ≤ 60 := numS_len hql (by omega)
  have cP := fun W => plus_num (IsNum.num (n % u)) (IsNum.num (n % u)) (by omega) (by omega) W
  have zt : (numS (n % u + n % u)).size ≤ 101 := numS_len (by
    have h1 : 10 ^ 101 = 10 ^ 100 * 10 := Nat.pow_succ 10 100
    rw [h1]
    generalize 10 ^ 100 = p at hrl ⊢
    omega) (by omega)
  have cL := fun W => less_num iu (IsNum.num (n % u + n % u)) (by unfold maxLen; omega) (by unfold maxLen; omega) W
  have hte := numS_inj (m := n % u + n % u) (n := u)
  rw [← hu] at hte
  have cQ := fun W => plus_num (IsNum.num (n / u)) one_num (by omega) (by show 1 ≤ _; omega) W
  have zq1 : (numS (n / u)).size ≤ 50000 := Nat.le_trans (numS_len (k := 61) (by
    have h1 : 10 ^ 61 = 10 ^ 60 * 10 := Nat.pow_succ 10 60
    rw [h1]
    generalize 10 ^ 60 = p at hql ⊢
    generalize n / u = v at hql ⊢
    omega) (by omega)) (by omega)
  have cM := fun W => made_num neg (numS (n / u)) (n / u) k (IsNum.num _) zq1 (by omega) W
  unfold decR at cM ⊢
  obtain ⟨j, hj⟩ : ∃ j, (numS (n / u)).size = j + 1 := ⟨(numS (n / u)).size - 1, by have := (IsNum.num (n / u)).pos; omega⟩
  have hld := last_dig (s := numS (n / u)) (n := n / u) rfl hj
  have hji : ((numS (n / u)).size : Int) - 1 = (j : Int) := by omega
  have hjl : j < (numS (n / u)).size := by omega
  have hj60 : (j : Int) ≤ 60 := by omega
  have hlB : decide (u < n % u + n % u) = false := decide_eq_false (by omega)
  have hteB : decide (n % u + n % u = u) = false := decide_eq_false (by omega)
  rw [hlB] at cL
  rw [hteB] at hte
  have o0 : 48 ≤ (numS (n / u))[j].toNat := by rw [hld]; omega
  have o1 : (numS (n / u))[j].toNat ≤ 57 := by rw [hld]; omega
  have o2 : True := trivial
  generalize (mkDec neg (n / u) k).getD decNil = d at cM ⊢
  generalize (if (mkDec neg (n / u) k).isSome then (0 : Int) else 7) = q at cM ⊢
  obtain ⟨dn, dd, dsc⟩ := d
  simp only [Dec.v] at cM ⊢
  have k1 : (k : Int) ≤ 60 := by omega
  have k2 : (k : Int) < (s : Int) := by omega
  have w1 : IntKind.i64.wrap ((s : Int) - (k : Int)) = (s : Int) - (k : Int) := IntWalk.i64_in _ (by omega)
  clear hld hj zq1 zt hql zr hrl hs h za hsk zu iu hu hpos hup hlB hteB
  generalize numS (n % u + n % u) = T at *
  generalize numS (n % u) = Rr at *
  generalize numS (n / u) = Q at *
  go_enter Tryz.func30, Tryz.ntmps30
  go_wp2_with fail
  refine (c1 _).mono ?_
  rintro e w1 ⟨rfl, b1⟩
  obtain ⟨x0, x1, x2, r0, r1, r2, f0, f1, f2, hB, hz⟩ := two_all b1
  clear c1
  go_wp2_with fail
  refine (cZ _).mono ?_
  rintro e w2 ⟨rfl, rfl⟩
  clear cZ
  go_wp2_with fail
  refine (cO _).mono ?_
  rintro e w3 ⟨rfl, b3⟩
  have b13 := b1.trans (b3.mono b1.size)
  clear x0 x1 x2 r0 r1 r2 f0 f1 f2 hB hz b1 b3 cO
  obtain ⟨x0, x1, x2, r0, r1, r2, f0, f1, f2, hB, hz⟩ := two_all b13
  go_wp2_with fail
  refine (cP _).mono ?_
  rintro e w4 ⟨rfl, b4⟩
  have b14 := b13.trans (b4.mono b13.size)
  clear x0 x1 x2 r0 r1 r2 f0 f1 f2 hB hz b13 b4 cP
  obtain ⟨x0, x1, x2, r0, r1, r2, f0, f1, f2, hB, hz⟩ := two_all b14
  go_wp2_with fail
  refine (cL _).mono ?_
  rintro e w5 ⟨rfl, rfl⟩
  clear cL
  go_wp2_with fail
  have b16 := b14
  clear b14 cQ
  refine (cM _).mono ?_
  rintro e w7 ⟨rfl, b7⟩
  have b17 := b16.trans (b7.mono b16.size)
  clear x0 x1 x2 r0 r1 r2 f0 f1 f2 hB hz b16 b7 cM
  obtain ⟨x0, x1, x2, r0, r1, r2, f0, f1, f2, hB, hz⟩ := two_all b17
  clear x0 x1 x2
  have HB := Lib.hid hB
  go_wp2
  exact bodyPost_ret (v := .tuple #[.agg #[.bool dn, .string dd, .int .i64 dsc], .int .i64 q]) (by simp [results, Tryz.results30, go_sem, r0, r1, r2]) rfl ⟨rfl, ((HB.out.setCell (by simp) _).setCell (by simp) _).setCell (by simp) _⟩

end Go.Proofs.YtcpociafcjabkaaGreatDoor

/- The reference's Round, put together; Round and Cmp at arguments that are none. -/
namespace Go.Proofs.YtcpociafcjabkaaGreatDoor
open Go.RowKit

theorem round_ok (neg : Bool) (a : ByteArray) (s n k : Nat) (h : IsDec ⟨neg, a, (s : Int)⟩ n s) (hsk : k < s) (w : World) :
    Calls Tryz.prog 30 #[.agg #[.bool neg, .string a, .int .i64 (s : Int)], .int .i64 (k : Int)] w fun e w' => e = .returned (decR (mkDec neg (roundTo n s k) k)) ∧ Below w.heap.size w w' := by
  unfold roundTo
  by_cases hA : 10 ^ (s - k) < n % 10 ^ (s - k) + n % 10 ^ (s - k)
  · rw [if_pos (.inl hA)]
    exact round_A neg a s n k h hsk hA w
  by_cases hE : n % 10 ^ (s - k) + n % 10 ^ (s - k) = 10 ^ (s - k)
  · by_cases ho : n / 10 ^ (s - k) % 2 = 1
    · rw [if_pos (.inr ⟨hE, ho⟩)]
      exact round_B neg a s n k h hsk ⟨hE, ho⟩ w
    · rw [if_neg (fun e => e.elim hA (fun e => ho e.2))]
      exact round_C neg a s n k h hsk ⟨hE, by omega⟩ w
  · rw [if_neg (fun e => e.elim hA (fun e => hE e.1))]
    exact round_D neg a s n k h hsk (Nat.lt_of_le_of_ne (Nat.le_of_not_lt hA) hE) w

set_option maxRecDepth 100000 in
set_option maxHeartbeats 2000000 in
theorem round_bad1 (neg : Bool) (a : ByteArray) (s k : Int) (za : a.size ≤ maxLen) (h : ¬ Valid ⟨neg, a, s⟩) (w : World) :
    Calls Tryz.prog 30 #[.agg #[.bool neg, .string a, .int .i64 s], .int .i64 k] w fun e w' => e = .returned argR ∧ Below w.heap.size w w' := by
  have c1 := fun W => check_val neg a s za W 2 (chkR_bad h)
  unfold argR Dec.v decNil
  clear h za
  go_enter Tryz.func30, Tryz.ntmps30
  go_wp2_with fail
  refine (c1 _).mono ?_
  rintro e w1 ⟨rfl, b1⟩
  obtain ⟨x0, x1, x2, r0, r1, r2, f0, f1, f2, hB, hz⟩ := two_all b1
  have HB := Lib.hid hB
  go_wp2
  exact bodyPost_ret (v := .tuple #[.agg #[.bool false, .string ⟨#[]⟩, .int .i64 0], .int .i64 2]) (by simp [results, Tryz.results30, go_sem, r0, r1, r2]) rfl ⟨rfl, ((HB.out.setCell (by simp) _).setCell (by simp) _).setCell (by simp) _⟩

set_option maxRecDepth 100000 in
set_option maxHeartbeats 2000000 in
theorem round_bad2 (neg : Bool) (a : ByteArray) (s k : Int) (za : a.size ≤ maxLen) (h : Valid ⟨neg, a, s⟩) (hk : k < 0) (w : World) :
    Calls Tryz.prog 30 #[.agg #[.bool neg, .string a, .int .i64 s], .int .i64 k] w fun e w' => e = .returned argR ∧ Below w.heap.size w w' := by
  have c1 := fun W => check_val neg a s za W 0 (chkR_ok h)
  unfold argR Dec.v decNil
  clear h za
  go_enter Tryz.func30, Tryz.ntmps30
  go_wp2_with fail
  refine (c1 _).mono ?_
  rintro e w1 ⟨rfl, b1⟩
  obtain ⟨x0, x1, x2, r0, r1, r2, f0, f1, f2, hB, hz⟩ := two_all b1
  have HB := Lib.hid hB
  go_wp2
  exact bodyPost_ret (v := .tuple #[.agg #[.bool false, .string ⟨#[]⟩, .int .i64 0], .int .i64 2]) (by simp [results, Tryz.results30, go_sem, r0, r1, r2]) rfl ⟨rfl, ((HB.out.setCell (by simp) _).setCell (by simp) _).setCell (by simp) _⟩

set_option maxRecDepth 100000 in
set_option maxHeartbeats 2000000 in
theorem round_bad3 (neg : Bool) (a : ByteArray) (s k : Int) (za : a.size ≤ maxLen) (h : Valid ⟨neg, a, s⟩) (hk : 60 < k) (w : World) :
    Calls Tryz.prog 30 #[.agg #[.bool neg, .string a, .int .i64 s], .int .i64 k] w fun e w' => e = .returned argR ∧ Below w.heap.size w w' := by
  have c1 := fun W => check_val neg a s za W 0 (chkR_ok h)
  unfold argR Dec.v decNil
  clear h za
  go_enter Tryz.func30, Tryz.ntmps30
  go_wp2_with fail
  refine (c1 _).mono ?_
  rintro e w1 ⟨rfl, b1⟩
  obtain ⟨x0, x1, x2, r0, r1, r2, f0, f1, f2, hB, hz⟩ := two_all b1
  have HB := Lib.hid hB
  go_wp2
  exact bodyPost_ret (v := .tuple #[.agg #[.bool false, .string ⟨#[]⟩, .int .i64 0], .int .i64 2]) (by simp [results, Tryz.results30, go_sem, r0, r1, r2]) rfl ⟨rfl, ((HB.out.setCell (by simp) _).setCell (by simp) _).setCell (by simp) _⟩

set_option maxRecDepth 100000 in
set_option maxHeartbeats 2000000 in
theorem cmp_bad1 (neg1 neg2 : Bool) (a b : ByteArray) (s t : Int) (za : a.size ≤ maxLen) (h : ¬ Valid ⟨neg1, a, s⟩) (w : World) :
    Calls Tryz.prog 26 #[.agg #[.bool neg1, .string a, .int .i64 s], .agg #[.bool neg2, .string b, .int .i64 t]] w fun e w' => e = .returned (.tuple #[.int .i64 0, .int .i64 2]) ∧ Below w.heap.size w w' := by
  have c1 := fun W => check_val neg1 a s za W 2 (chkR_bad h)
  clear h za
  go_enter Tryz.func26, Tryz.ntmps26
  go_wp2_with fail
  refine (c1 _).mono ?_
  rintro e w1 ⟨rfl, b1⟩
  obtain ⟨x0, x1, x2, y0, y1, y2, hB⟩ := two_both b1
  go_wp2
  go_ret2
  exact ⟨rfl, hB⟩

set_option maxRecDepth 100000 in
set_option maxHeartbeats 2000000 in
theorem cmp_bad2 (neg1 neg2 : Bool) (a b : ByteArray) (s t : Int) (za : a.size ≤ maxLen) (zb : b.size ≤ maxLen) (h1 : Valid ⟨neg1, a, s⟩) (h : ¬ Valid ⟨neg2, b, t⟩) (w : World) :
    Calls Tryz.prog 26 #[.agg #[.bool neg1, .string a, .int .i64 s], .agg #[.bool neg2, .string b, .int .i64 t]] w fun e w' => e = .returned (.tuple #[.int .i64 0, .int .i64 2]) ∧ Below w.heap.size w w' := by
  have c1 := fun W => check_val neg1 a s za W 0 (chkR_ok h1)
  have c2 := fun W => check_val neg2 b t zb W 2 (chkR_bad h)
  clear h h1 za zb
  go_enter Tryz.func26, Tryz.ntmps26
  go_wp2_with fail
  refine (c1 _).mono ?_
  rintro e w1 ⟨rfl, b1⟩
  obtain ⟨x0, x1, x2, y0, y1, y2, hB⟩ := two_both b1
  clear c1
  go_wp2_with fail
  refine (c2 _).mono ?_
  rintro e w2 ⟨rfl, b2⟩
  have b12 := b1.trans (b2.mono b1.size)
  clear x0 x1 x2 y0 y1 y2 hB b1 b2 c2
  obtain ⟨x0, x1, x2, y0, y1, y2, hB⟩ := two_both b12
  go_wp2
  go_ret2
  exact ⟨rfl, hB⟩

end Go.Proofs.YtcpociafcjabkaaGreatDoor

/- The reference's Of. -/
namespace Go.Proofs.YtcpociafcjabkaaGreatDoor
open Go.RowKit

/-- The decimal of an integer. -/
def ofSpec (n : Int) : Dec := if n = 0 then decZero else ⟨decide (n < 0), numS n.natAbs, 0⟩

theorem tmod_pos (q : Nat) : ((q : Int)).tmod 10 = ((q % 10 : Nat) : Int) := by rw [Int.tmod_eq_emod_of_nonneg (by omega)]; omega
theorem tmod_neg (q : Nat) : (-(q : Int)).tmod 10 = -((q % 10 : Nat) : Int) := by rw [Int.neg_tmod, tmod_pos]
theorem tdiv_pos (q : Nat) : ((q : Int)).tdiv 10 = ((q / 10 : Nat) : Int) := by rw [Int.tdiv_eq_ediv_of_nonneg (by omega)]; omega
theorem tdiv_neg (q : Nat) : (-(q : Int)).tdiv 10 = -((q / 10 : Nat) : Int) := by rw [Int.neg_tdiv, tdiv_pos]

/-- What the rounds have written, and what is left. -/
def OfAt (N q : Nat) (s : List UInt8) : Prop := (q ≠ 0 ∧ digs N = digs q ++ s) ∨ (q = 0 ∧ s = digs N)
theorem OfAt.next {N q : Nat} {s : List UInt8} (h : OfAt N q s) (hq : q ≠ 0) : OfAt N (q / 10) (UInt8.ofNat (48 + q % 10) :: s) := by
  obtain ⟨_, h⟩ := h.resolve_right (fun e => hq e.1)
  by_cases h10 : q < 10
  · right
    refine ⟨by omega, ?_⟩
    rw [h, digs_small h10, show q % 10 = q by omega]
    rfl
  · left
    refine ⟨by omega, ?_⟩
    rw [h, digs_big h10, List.append_assoc]
    rfl

set_option maxRecDepth 100000 in
set_option maxHeartbeats 2000000 in
theorem of_zero (w : World) : Calls Tryz.prog 16 #[.int .i64 0] w fun e w' => e = .returned (ofSpec 0).v ∧ Below w.heap.size w w' := by
  go_enter Tryz.func16, Tryz.ntmps16
  go_wp2
  go_loopg [3, 4, 5] 1 (fun gk v3 v4 v5 wr => v3 = .string ⟨#[]⟩ ∧ v4 = .int .i64 0 ∧ wr = w.alloc (.cells #[.bool false, .string ⟨#[]⟩, .int .i64 0] 23))
  case atStart => exact ⟨rfl, rfl, rfl⟩
  case round =>
    obtain ⟨rfl, rfl, rfl⟩ := hrel
    go_wp2
    exact bodyPost_ret (v := .agg #[.bool false, .string ⟨#[48]⟩, .int .i64 0]) (by simp [results, Tryz.results16, go_sem]) rfl ⟨rfl, (Below.refl _ _).alloc (Nat.le_refl _) _⟩
theorem one_all {w W : World} {a0 a1 a2 : Value} {T : TypeId} (hB : Below (w.alloc (.cells #[a0, a1, a2] T)).heap.size (w.alloc (.cells #[a0, a1, a2] T)) W) :
    W.cell? ⟨w.heap.size, 0, none⟩ = some a0 ∧ W.cell? ⟨w.heap.size, 1, none⟩ = some a1 ∧ W.cell? ⟨w.heap.size, 2, none⟩ = some a2 ∧
    W.frozen? ⟨w.heap.size, 0, none⟩ = false ∧ W.frozen? ⟨w.heap.size, 1, none⟩ = false ∧ W.frozen? ⟨w.heap.size, 2, none⟩ = false ∧ Below w.heap.size w W ∧ w.heap.size + 1 ≤ W.heap.size := by
  have hz : (w.alloc (.cells #[a0, a1, a2] T)).heap.size = w.heap.size + 1 := by simp
  refine ⟨?_, ?_, ?_, ?_, ?_, ?_, ?_, ?_⟩
  · rw [hB.cell (p := ⟨w.heap.size, 0, none⟩) (by show w.heap.size < _; omega), World.cell?_alloc_at _ _ _ _ rfl]
    rfl
  · rw [hB.cell (p := ⟨w.heap.size, 1, none⟩) (by show w.heap.size < _; omega), World.cell?_alloc_at _ _ _ _ rfl]
    rfl
  · rw [hB.cell (p := ⟨w.heap.size, 2, none⟩) (by show w.heap.size < _; omega), World.cell?_alloc_at _ _ _ _ rfl]
    rfl
  · rw [hB.frozen (p := ⟨w.heap.size, 0, none⟩) (by show w.heap.size < _; omega), World.frozen?_alloc_at _ _ _ _ rfl]
  · rw [hB.frozen (p := ⟨w.heap.size, 1, none⟩) (by show w.heap.size < _; omega), World.frozen?_alloc_at _ _ _ _ rfl]
  · rw [hB.frozen (p := ⟨w.heap.size, 2, none⟩) (by show w.heap.size < _; omega), World.frozen?_alloc_at _ _ _ _ rfl]
  · exact ((Below.refl _ _).alloc (Nat.le_refl _) _).trans (hB.mono (by omega))
  · have := hB.size
    omega

set_option maxRecDepth 100000 in
set_option maxHeartbeats 2000000 in
theorem of_pos (N : Nat) (hN : N ≠ 0) (hNm : N ≤ 9223372036854775807) (w : World) : Calls Tryz.prog 16 #[.int .i64 ((N : Int))] w fun e w' => e = .returned (Dec.mk false (numS N) 0).v ∧ Below w.heap.size w w' := by
  have H0 : Hid (OfAt N N ((⟨#[]⟩ : ByteArray).data.toList)) := Lib.hid (.inl ⟨hN, by simp⟩)
  have hn0 : 1 ≤ (N : Int) := by omega
  have hn1 : (N : Int) ≤ 9223372036854775807 := by omega
  have hlenN : (digs N).length ≤ 19 := digs_len_le (Nat.lt_of_le_of_lt hNm (by decide)) (by omega)
  simp only [Dec.v]
  have HL := Lib.hid hlenN
  clear hN hNm hlenN
  go_enter Tryz.func16, Tryz.ntmps16
  go_wp2
  go_loopg [3, 4, 5] (N + 1) (fun gk v3 v4 v5 wr => ∃ (q : Nat) (s : ByteArray), v3 = .string s ∧ v4 = .int .i64 ((q : Int)) ∧ gk = q + 1 ∧ (q : Int) ≤ 9223372036854775807 ∧ s.size ≤ 19 ∧ Hid (OfAt N q s.data.toList) ∧ Below (w.alloc (.cells #[.bool false, .string ⟨#[]⟩, .int .i64 0] 23)).heap.size (w.alloc (.cells #[.bool false, .string ⟨#[]⟩, .int .i64 0] 23)) wr)
  case atStart => exact ⟨N, ⟨#[]⟩, rfl, rfl, rfl, by omega, by show 0 ≤ _; omega, H0, Below.refl _ _⟩
  case round =>
    obtain ⟨q, s, rfl, rfl, hgk, hq1, hs, HO, hB⟩ := hrel
    obtain ⟨r0, r1, r2, f0, f1, f2, hB2, hz⟩ := one_all hB
    by_cases hq : q = 0
    · have hS : Hid (s = numS N ∧ (s.toList = []) = False) := by
        have h1 := (HO.out.resolve_left (fun e => e.1 hq)).2
        refine ⟨bytes_ext (by rw [h1, numS_list]), ?_⟩
        rw [Lib.toList_data, h1]
        exact eq_false (digs_ne N)
      have hE : s.toList.isEmpty = false := by
        rw [Lib.toList_data, (HO.out.resolve_left (fun e => e.1 hq)).2]
        cases hd : digs N with
        | nil => exact absurd hd (digs_ne N)
        | cons => rfl
      subst hq
      have HB2 := Lib.hid hB2
      clear HO H0 hB hB2
      go_wp2
      exact bodyPost_ret (v := .agg #[.bool false, .string s, .int .i64 0]) (by simp [results, Tryz.results16, go_sem, r0, r1, r2]) rfl ⟨by rw [hS.out.1]; try rfl, ((HB2.out.setCell (by simp) _).setCell (by simp) _).setCell (by simp) _⟩
    · have hqi : ¬ (q : Int) = 0 := by omega
      have hqp : 1 ≤ (q : Int) := by omega
      have hnext := HO.out.next hq
      have d0 : 0 ≤ (q : Int) % 10 := by omega
      have d1 : (q : Int) % 10 ≤ 9 := by omega
      have HD : Hid ((q : Int) / 10 = ((q / 10 : Nat) : Int)) := Lib.hid (by omega)
      have w8 : IntKind.u8.wrap (48 + (q : Int) % 10) = 48 + (q : Int) % 10 := by rw [IntKind.wrap_u8]; omega
      have hcv := fun W => conv_one (48 + (q : Int) % 10) W
      have hcn : (strOfNums [48 + (q : Int) % 10]).data.toList = [UInt8.ofNat (48 + q % 10)] := by
        rw [strOfNums_data]
        show [UInt8.ofNat ((48 + (q : Int) % 10).toNat)] = _
        congr 2
        try omega
      have hcz : (strOfNums [48 + (q : Int) % 10]).size = 1 := by rw [strOfNums_size]; rfl
      generalize strOfNums [48 + (q : Int) % 10] = z at hcv hcn hcz
      have hsz : z.size + s.size ≤ 9223372036854775807 := by omega
      have HN : Hid (OfAt N (q / 10) (z ++ s).data.toList ∧ (z ++ s).size ≤ 19) := by
        have h1 : OfAt N (q / 10) (z ++ s).data.toList := by rw [Joins.data_append, hcn]; exact hnext
        refine ⟨h1, ?_⟩
        rw [← bytes_len]
        rcases h1 with ⟨_, h⟩ | ⟨_, h⟩
        · have := HL.out
          rw [h, List.length_append] at this
          omega
        · rw [h]; exact HL.out
      clear hnext hcn hcz HO H0 hq r0 r1 r2 f0 f1 f2 hB2
      go_wp2
      go_roundg (q / 10 + 1)
      case measure => omega
      case rel => exact ⟨q / 10, z ++ s, rfl, by first | rfl | go_num | rw [HD.out] | (congr 1; omega), rfl, by omega, HN.out.2, HN.out.1, hB.alloc hB.size _⟩

end Go.Proofs.YtcpociafcjabkaaGreatDoor

/- The reference's Of, below 0. -/
namespace Go.Proofs.YtcpociafcjabkaaGreatDoor
open Go.RowKit

set_option maxRecDepth 100000 in
set_option maxHeartbeats 2000000 in
theorem of_neg (N : Nat) (hN : N ≠ 0) (hNm : N ≤ 9223372036854775808) (w : World) : Calls Tryz.prog 16 #[.int .i64 (-(N : Int))] w fun e w' => e = .returned (Dec.mk true (numS N) 0).v ∧ Below w.heap.size w w' := by
  have H0 : Hid (OfAt N N ((⟨#[]⟩ : ByteArray).data.toList)) := Lib.hid (.inl ⟨hN, by simp⟩)
  have hn0 : 1 ≤ (N : Int) := by omega
  have hn1 : (N : Int) ≤ 9223372036854775808 := by omega
  have hlenN : (digs N).length ≤ 19 := digs_len_le (Nat.lt_of_le_of_lt hNm (by decide)) (by omega)
  have hneg : -(N : Int) < 0 := by omega
  have hNp : 0 < N := by omega
  simp only [Dec.v]
  have HL := Lib.hid hlenN
  have HN1 := Lib.hid hn1
  clear hN hNm hlenN hn1
  go_enter Tryz.func16, Tryz.ntmps16
  go_wp2
  go_loopg [3, 4, 5] (N + 1) (fun gk v3 v4 v5 wr => ∃ (q : Nat) (s : ByteArray), v3 = .string s ∧ v4 = .int .i64 (-(q : Int)) ∧ gk = q + 1 ∧ Hid ((q : Int) ≤ 9223372036854775808) ∧ s.size ≤ 19 ∧ Hid (OfAt N q s.data.toList) ∧ Below (w.alloc (.cells #[.bool false, .string ⟨#[]⟩, .int .i64 0] 23)).heap.size (w.alloc (.cells #[.bool false, .string ⟨#[]⟩, .int .i64 0] 23)) wr)
  case atStart => exact ⟨N, ⟨#[]⟩, rfl, rfl, rfl, HN1, by show 0 ≤ _; omega, H0, Below.refl _ _⟩
  case round =>
    obtain ⟨q, s, rfl, rfl, hgk, HQ, hs, HO, hB⟩ := hrel
    obtain ⟨r0, r1, r2, f0, f1, f2, hB2, hz⟩ := one_all hB
    by_cases hq : q = 0
    · have hS : Hid (s = numS N ∧ (s.toList = []) = False) := by
        have h1 := (HO.out.resolve_left (fun e => e.1 hq)).2
        refine ⟨bytes_ext (by rw [h1, numS_list]), ?_⟩
        rw [Lib.toList_data, h1]
        exact eq_false (digs_ne N)
      have hE : s.toList.isEmpty = false := by
        rw [Lib.toList_data, (HO.out.resolve_left (fun e => e.1 hq)).2]
        cases hd : digs N with
        | nil => exact absurd hd (digs_ne N)
        | cons => rfl
      subst hq
      have HB2 := Lib.hid hB2
      clear HO H0 hB hB2 HQ
      go_wp2
      exact bodyPost_ret (v := .agg #[.bool true, .string s, .int .i64 0]) (by simp [results, Tryz.results16, go_sem, r0, r1, r2]) rfl ⟨by rw [hS.out.1]; try rfl, ((HB2.out.setCell (by simp) _).setCell (by simp) _).setCell (by simp) _⟩
    · have hqi : ¬ -(q : Int) = 0 := by omega
      have hqp : 1 ≤ (q : Int) := by omega
      have hnext := HO.out.next hq
      obtain ⟨p, hp⟩ : ∃ p, q % 10 = p := ⟨_, rfl⟩
      have e1 : (-(q : Int)).tmod 10 = -(p : Int) := by rw [tmod_neg, hp]
      have e2 : (-(q : Int)).tdiv 10 = -((q / 10 : Nat) : Int) := tdiv_neg q
      rw [hp] at hnext
      have hp9 : p ≤ 9 := by omega
      have HQ2 : Hid (((q / 10 : Nat) : Int) ≤ 9223372036854775808) := Lib.hid (by have := HQ.out; omega)
      have HD : Hid ((q : Int) / 10 = ((q / 10 : Nat) : Int)) := Lib.hid (by omega)
      have Hlt : Hid (q / 10 < q) := Lib.hid (by omega)
      clear hp
      by_cases hp0 : p = 0
      · subst hp0
        have hcv := fun W => conv_one (48) W
        have hcn : (strOfNums [48]).data.toList = [UInt8.ofNat (48)] := by
          rw [strOfNums_data]
          show [UInt8.ofNat ((48 : Int).toNat)] = _
          rfl
        have hcz : (strOfNums [48]).size = 1 := by rw [strOfNums_size]; rfl
        generalize strOfNums [48] = z at hcv hcn hcz
        have hsz : z.size + s.size ≤ 9223372036854775807 := by omega
        have HN : Hid (OfAt N (q / 10) (z ++ s).data.toList ∧ (z ++ s).size ≤ 19) := by
          have h1 : OfAt N (q / 10) (z ++ s).data.toList := by rw [Joins.data_append, hcn]; exact hnext
          refine ⟨h1, ?_⟩
          rw [← bytes_len]
          rcases h1 with ⟨_, h⟩ | ⟨_, h⟩
          · have := HL.out
            rw [h, List.length_append] at this
            omega
          · rw [h]; exact HL.out
        clear hnext hcn hcz HO H0 hq r0 r1 r2 f0 f1 f2 hB2 hqp HQ
        go_wp2
        go_roundg (q / 10 + 1)
        case measure => have := Hlt.out; omega
        case rel => exact ⟨q / 10, z ++ s, rfl, by have h1 := HD.out; have h2 := HQ2.out; rw [h1, IntWalk.wrap64_in _ (by omega)], rfl, HQ2, HN.out.2, HN.out.1, hB.alloc hB.size _⟩
      · have hpn : -(p : Int) < 0 := by omega
        clear hp0
        have w8 : IntKind.u8.wrap (48 + (p : Int)) = 48 + (p : Int) := by rw [IntKind.wrap_u8]; omega
        have hcv := fun W => conv_one (48 + (p : Int)) W
        have hcn : (strOfNums [48 + (p : Int)]).data.toList = [UInt8.ofNat (48 + p)] := by
          rw [strOfNums_data]
          show [UInt8.ofNat ((48 + (p : Int)).toNat)] = _
          congr 2
        have hcz : (strOfNums [48 + (p : Int)]).size = 1 := by rw [strOfNums_size]; rfl
        generalize strOfNums [48 + (p : Int)] = z at hcv hcn hcz
        have hsz : z.size + s.size ≤ 9223372036854775807 := by omega
        have HN : Hid (OfAt N (q / 10) (z ++ s).data.toList ∧ (z ++ s).size ≤ 19) := by
          have h1 : OfAt N (q / 10) (z ++ s).data.toList := by rw [Joins.data_append, hcn]; exact hnext
          refine ⟨h1, ?_⟩
          rw [← bytes_len]
          rcases h1 with ⟨_, h⟩ | ⟨_, h⟩
          · have := HL.out
            rw [h, List.length_append] at this
            omega
          · rw [h]; exact HL.out
        clear hnext hcn hcz HO H0 hq r0 r1 r2 f0 f1 f2 hB2 hqp HQ
        go_wp2
        go_roundg (q / 10 + 1)
        case measure => have := Hlt.out; omega
        case rel => exact ⟨q / 10, z ++ s, rfl, by have h1 := HD.out; have h2 := HQ2.out; rw [h1, IntWalk.wrap64_in _ (by omega)], rfl, HQ2, HN.out.2, HN.out.1, hB.alloc hB.size _⟩

theorem of_any (n : Int) (h0 : -9223372036854775808 ≤ n) (h1 : n ≤ 9223372036854775807) (w : World) : Calls Tryz.prog 16 #[.int .i64 n] w fun e w' => e = .returned (ofSpec n).v ∧ Below w.heap.size w w' := by
  by_cases hz : n = 0
  · subst hz
    exact of_zero w
  · by_cases hn : n < 0
    · have e : ofSpec n = ⟨true, numS n.natAbs, 0⟩ := by unfold ofSpec; rw [if_neg hz, decide_eq_true hn]
      have e2 : n = -(n.natAbs : Int) := by omega
      have := of_neg n.natAbs (by omega) (by omega) w
      rw [← e2] at this
      rw [e]
      exact this
    · have e : ofSpec n = ⟨false, numS n.natAbs, 0⟩ := by unfold ofSpec; rw [if_neg hz, decide_eq_false hn]
      have e2 : n = (n.natAbs : Int) := by omega
      have := of_pos n.natAbs (by omega) (by omega) w
      rw [← e2] at this
      rw [e]
      exact this
end Go.Proofs.YtcpociafcjabkaaGreatDoor

/- The reference's Digits. -/
namespace Go.Proofs.YtcpociafcjabkaaGreatDoor
open Go.RowKit

set_option maxRecDepth 100000 in
set_option maxHeartbeats 2000000 in
theorem digits_bad (neg : Bool) (a : ByteArray) (s : Int) (za : a.size ≤ maxLen) (h : ¬ Valid ⟨neg, a, s⟩) (w : World) :
    Calls Tryz.prog 32 #[.agg #[.bool neg, .string a, .int .i64 s]] w fun e w' => e = .returned (.tuple #[.int .i64 0, .int .i64 0, .int .i64 2]) ∧ Below w.heap.size w w' := by
  have c1 := fun W => check_val neg a s za W 2 (chkR_bad h)
  clear h za
  go_enter Tryz.func32, Tryz.ntmps32
  go_wp2_with fail
  refine (c1 _).mono ?_
  rintro e w1 ⟨rfl, b1⟩
  obtain ⟨r0, r1, r2, f0, f1, f2, hB, hz⟩ := one_all b1
  have HB := Lib.hid hB
  go_wp2
  go_ret3
  exact ⟨rfl, HB.out⟩

set_option maxRecDepth 100000 in
set_option maxHeartbeats 2000000 in
theorem digits_ok (neg : Bool) (a : ByteArray) (s n k : Nat) (h : IsDec ⟨neg, a, (s : Int)⟩ n k) (w : World) :
    Calls Tryz.prog 32 #[.agg #[.bool neg, .string a, .int .i64 (s : Int)]] w fun e w' => e = .returned (.tuple #[.int .i64 (max (a.size : Int) (s : Int)), .int .i64 (s : Int), .int .i64 0]) ∧ Below w.heap.size w w' := by
  have za : a.size ≤ 60 := by rw [show a = numS n from h.ds, numS_size]; exact h.len
  have c1 := fun W => check_val neg a (s : Int) (by unfold maxLen; omega) W 0 (chkR_ok ⟨n, k, h⟩)
  clear h
  go_enter Tryz.func32, Tryz.ntmps32
  go_wp2_with fail
  refine (c1 _).mono ?_
  rintro e w1 ⟨rfl, b1⟩
  obtain ⟨x0, x1, x2, f0, f1, f2, hB, hz⟩ := one_all b1
  have HB := Lib.hid hB
  clear c1 f0 f1 f2 hB hz b1
  go_wp2
  all_goals (go_region)
  go_wp2
  all_goals (
    go_ret3
    exact ⟨by first | rw [show max (a.size : Int) (s : Int) = (s : Int) by omega]; rfl | rw [show max (a.size : Int) (s : Int) = (a.size : Int) by omega]; rfl, below_drewN HB.out 1⟩)
end Go.Proofs.YtcpociafcjabkaaGreatDoor

/- The reference's Text. -/
namespace Go.Proofs.YtcpociafcjabkaaGreatDoor
open Go.RowKit

/-- The text of a decimal. -/
def txtA (a : ByteArray) (s : Nat) : ByteArray := if a.size ≤ s then zs (s - a.size + 1) ++ a else a
def txtB (t : ByteArray) (s : Nat) : ByteArray := if 0 < s then t.extract 0 (t.size - s) ++ ⟨#[46]⟩ ++ t.extract (t.size - s) t.size else t
def txtC (neg : Bool) (u : ByteArray) : ByteArray := if neg then ⟨#[45]⟩ ++ u else u
def textOf (d : Dec) : ByteArray := txtC d.neg (txtB (txtA d.ds d.sc.toNat) d.sc.toNat)

set_option maxRecDepth 100000 in
set_option maxHeartbeats 2000000 in
theorem text_bad (neg : Bool) (a : ByteArray) (s : Int) (za : a.size ≤ maxLen) (h : ¬ Valid ⟨neg, a, s⟩) (w : World) :
    Calls Tryz.prog 12 #[.agg #[.bool neg, .string a, .int .i64 s]] w fun e w' => e = .returned (.tuple #[.string ⟨#[]⟩, .int .i64 2]) ∧ Below w.heap.size w w' := by
  have c1 := fun W => check_val neg a s za W 2 (chkR_bad h)
  clear h za
  go_enter Tryz.func12, Tryz.ntmps12
  go_wp2_with fail
  refine (c1 _).mono ?_
  rintro e w1 ⟨rfl, b1⟩
  obtain ⟨r0, r1, r2, f0, f1, f2, hB, hz⟩ := one_all b1
  have HB := Lib.hid hB
  go_wp2
  go_ret2
  exact ⟨rfl, HB.out⟩

set_option maxRecDepth 100000 in
set_option maxHeartbeats 2000000 in
theorem text_whole (neg : Bool) (a : ByteArray) (n : Nat) (h : IsDec ⟨neg, a, 0⟩ n 0) (w : World) :
    Calls Tryz.prog 12 #[.agg #[.bool neg, .string a, .int .i64 0]] w fun e w' => e = .returned (.tuple #[.string (txtC neg a), .int .i64 0]) ∧ Below w.heap.size w w' := by
  have za : a.size ≤ 60 := by rw [show a = numS n from h.ds, numS_size]; exact h.len
  have zp : ¬ (a.size : Int) ≤ 0 := by have := h.num.pos; simp only at this; omega
  have c1 := fun W => check_val neg a 0 (by unfold maxLen; omega) W 0 (chkR_ok ⟨n, 0, h⟩)
  have hsum : 1 + a.size ≤ 9223372036854775807 := by omega
  have zq : ¬ a = ByteArray.empty := by rintro rfl; exact zp (by simp)
  clear h
  go_enter Tryz.func12, Tryz.ntmps12
  go_wp2_with fail
  refine (c1 _).mono ?_
  rintro e w1 ⟨rfl, b1⟩
  obtain ⟨r0, r1, r2, f0, f1, f2, hB, hz⟩ := one_all b1
  have HB := Lib.hid hB
  clear c1 f0 f1 f2 hB hz b1
  cases neg with
  | true =>
    go_wp2
    go_ret2
    exact ⟨rfl, HB.out⟩
  | false =>
    go_wp2
    go_ret2
    exact ⟨rfl, HB.out⟩

set_option maxRecDepth 100000 in
set_option maxHeartbeats 4000000 in
theorem text_part (neg : Bool) (a : ByteArray) (s n : Nat) (hs : 0 < s) (has : s < a.size) (h : IsDec ⟨neg, a, (s : Int)⟩ n s) (w : World) :
    Calls Tryz.prog 12 #[.agg #[.bool neg, .string a, .int .i64 (s : Int)]] w fun e w' => e = .returned (.tuple #[.string (txtC neg (a.extract 0 (a.size - s) ++ ⟨#[46]⟩ ++ a.extract (a.size - s) a.size)), .int .i64 0]) ∧ Below w.heap.size w w' := by
  have za : a.size ≤ 60 := by rw [show a = numS n from h.ds, numS_size]; exact h.len
  have zp : ¬ (a.size : Int) ≤ (s : Int) := by omega
  have hsi : (0 : Int) < (s : Int) := by omega
  have c1 := fun W => check_val neg a (s : Int) (by unfold maxLen; omega) W 0 (chkR_ok ⟨n, s, h⟩)
  have d0 : (0 : Int) ≤ (a.size : Int) - (s : Int) := by omega
  have d1 : (a.size : Int) - (s : Int) ≤ (a.size : Int) := by omega
  clear h
  go_enter Tryz.func12, Tryz.ntmps12
  go_wp2_with fail
  refine (c1 _).mono ?_
  rintro e w1 ⟨rfl, b1⟩
  obtain ⟨r0, r1, r2, f0, f1, f2, hB, hz⟩ := one_all b1
  have HB := Lib.hid hB
  clear c1 f0 f1 f2 hB hz b1
  cases neg with
  | true =>
    go_wp2
    go_quiet (fail)
    go_wp2
    go_ret2
    exact ⟨rfl, below_drewN HB.out _⟩
  | false =>
    go_wp2
    go_quiet (fail)
    go_wp2
    go_ret2
    exact ⟨rfl, below_drewN HB.out _⟩

set_option maxRecDepth 100000 in
set_option maxHeartbeats 4000000 in
theorem text_zeros (neg : Bool) (a : ByteArray) (s n : Nat) (hs : 0 < s) (has : a.size ≤ s) (h : IsDec ⟨neg, a, (s : Int)⟩ n s) (w : World) (t : ByteArray) (ht : zs (s - a.size + 1) ++ a = t) :
    Calls Tryz.prog 12 #[.agg #[.bool neg, .string a, .int .i64 (s : Int)]] w fun e w' => e = .returned (.tuple #[.string (txtC neg (t.extract 0 (t.size - s) ++ ⟨#[46]⟩ ++ t.extract (t.size - s) t.size)), .int .i64 0]) ∧ Below w.heap.size w w' := by
  have za : a.size ≤ 60 := by rw [show a = numS n from h.ds, numS_size]; exact h.len
  have hs60 := h.le
  have zp : (a.size : Int) ≤ (s : Int) := by omega
  have hsi : (0 : Int) < (s : Int) := by omega
  have c1 := fun W => check_val neg a (s : Int) (by unfold maxLen; omega) W 0 (chkR_ok ⟨n, s, h⟩)
  have cZ := fun W => zeros_any ((s : Int) - a.size + 1) (by omega) W
  rw [show ((s : Int) - a.size + 1).toNat = s - a.size + 1 by omega] at cZ
  have hts : t.size = s + 1 := by rw [← ht, app_size, zs_size]; omega
  have hZ : (zs (s - a.size + 1)).size + a.size ≤ 9223372036854775807 := by rw [zs_size]; omega
  generalize zs (s - a.size + 1) = Z at cZ hZ ht
  have HT := Lib.hid ht
  have d0 : (0 : Int) ≤ (t.size : Int) - (s : Int) := by omega
  have d1 : (t.size : Int) - (s : Int) ≤ (t.size : Int) := by omega
  have d2 : t.size ≤ 61 := by omega
  have w1 : IntKind.i64.wrap ((s : Int) - (a.size : Int)) = (s : Int) - (a.size : Int) := IntWalk.i64_in _ (by omega)
  clear h ht hts
  go_enter Tryz.func12, Tryz.ntmps12
  go_wp2_with fail
  refine (c1 _).mono ?_
  rintro e w1 ⟨rfl, b1⟩
  obtain ⟨r0, r1, r2, f0, f1, f2, hB, hz⟩ := one_all b1
  have HB := Lib.hid hB
  clear c1 f0 f1 f2 hB hz b1
  go_wp2_with fail
  refine (cZ _).mono ?_
  rintro e w2 ⟨rfl, rfl⟩
  clear cZ
  have ht := HT.out
  cases neg with
  | true =>
    go_wp2
    go_quiet (fail)
    go_wp2
    go_ret2
    exact ⟨rfl, below_drewN HB.out _⟩
  | false =>
    go_wp2
    go_quiet (fail)
    go_wp2
    go_ret2
    exact ⟨rfl, below_drewN HB.out _⟩

theorem text_ok (neg : Bool) (a : ByteArray) (s : Int) (n k : Nat) (h : IsDec ⟨neg, a, s⟩ n k) (w : World) :
    Calls Tryz.prog 12 #[.agg #[.bool neg, .string a, .int .i64 s]] w fun e w' => e = .returned (.tuple #[.string (textOf ⟨neg, a, s⟩), .int .i64 0]) ∧ Below w.heap.size w w' := by
  obtain rfl : s = (k : Int) := h.sc
  unfold textOf
  simp only [Int.toNat_natCast]
  by_cases hk : k = 0
  · subst hk
    have hp := h.num.pos
    simp only at hp
    have e : txtB (txtA a 0) 0 = a := by unfold txtB txtA; rw [if_neg (by omega), if_neg (by omega)]
    rw [e]
    exact text_whole neg a n h w
  · by_cases has : a.size ≤ k
    · have e : txtB (txtA a k) k = txtB (zs (k - a.size + 1) ++ a) k := by unfold txtA; rw [if_pos has]
      have e2 : txtB (zs (k - a.size + 1) ++ a) k = _ := if_pos (by omega)
      rw [e, e2]
      exact text_zeros neg a k n (by omega) has h w _ rfl
    · have e : txtB (txtA a k) k = txtB a k := by unfold txtA; rw [if_neg has]
      have e2 : txtB a k = _ := if_pos (by omega)
      rw [e, e2]
      exact text_part neg a k n (by omega) (by omega) h w
end Go.Proofs.YtcpociafcjabkaaGreatDoor
