/- The program's Div. -/
import Derived.Test.YtcpociafcjabkaaGreatDoorPV
set_option linter.unusedSimpArgs false
set_option linter.unusedVariables false
namespace Go.Proofs.YtcpociafcjabkaaGreatDoor
open Go.RowKit

theorem div_scale (n m s t k : Nat) (D : Int) (hD : (k : Int) + (t : Int) - (s : Int) = D) : n * 10 ^ D.toNat / (m * 10 ^ (-D).toNat) = n * 10 ^ (max s t - s) * 10 ^ k / (m * 10 ^ (max s t - t)) := by
  rcases Int.lt_or_le D 0 with h | h
  · have e1 : D.toNat = 0 := by omega
    have e3 : max s t - s = 0 := by omega
    have e4 : max s t - t = (-D).toNat + k := by omega
    rw [e1, e3, e4, Nat.pow_zero, Nat.mul_one, Nat.pow_add, ← Nat.mul_assoc, Nat.mul_div_mul_right _ _ (Nat.pow_pos (by omega))]
  · have e1 : (-D).toNat = 0 := by omega
    have e2 : max s t - s + k = D.toNat + (max s t - t) := by omega
    rw [e1, Nat.pow_zero, Nat.mul_one, Nat.mul_assoc, ← Nat.pow_add, e2, Nat.pow_add, ← Nat.mul_assoc, Nat.mul_div_mul_right _ _ (Nat.pow_pos (by omega))]

set_option maxRecDepth 100000 in
set_option maxHeartbeats 16000000 in
theorem div_prog (neg1 neg2 : Bool) (a b : ByteArray) (s t n m k : Nat) (ha : IsDec ⟨neg1, a, (s : Int)⟩ n s) (hb : IsDec ⟨neg2, b, (t : Int)⟩ m t) (hm0 : m ≠ 0) (hk : k ≤ 60) (w : World) :
    Calls Tryz.prog 27 #[.agg #[.bool neg1, .string a, .int .i64 (s : Int)], .agg #[.bool neg2, .string b, .int .i64 (t : Int)], .int .i64 (k : Int)] w fun e w' => e = .returned (decR (divSpec neg1 n s neg2 m t k)) ∧ Below w.heap.size w w' := by
  have za := dec_size ha
  have zb := dec_size hb
  simp only at za zb
  have hs := ha.le
  have ht := hb.le
  have cC := check_at2 ⟨neg1, a, (s : Int)⟩ ⟨neg2, b, (t : Int)⟩ (by unfold maxLen; simp only; omega) (by unfold maxLen; simp only; omega) 0 (by rw [vB_ok ⟨_, _, ha⟩, vB_ok ⟨_, _, hb⟩]; rfl)
  have cI := fun W => t_zero neg2 b (t : Int) W
  have hI : (!neg2 && (b.toList == [48]) && decide ((t : Int) = 0)) = false := by
    have hb2 := hb.ds
    simp only at hb2
    have hz : (b.toList == [48]) = false := by
      rw [hb2, numS_toList]
      refine beq_eq_false_iff_ne.2 fun e => hm0 ?_
      have := digs_val m
      rw [e] at this
      exact this.symm
    rw [hz]
    simp
  rw [hI] at cI
  have cS := fun W => t_scale (k : Int) W
  rw [decide_eq_true (show 0 ≤ (k : Int) ∧ (k : Int) ≤ 60 by omega)] at cS
  obtain ⟨D, hD⟩ : ∃ D, (k : Int) + (t : Int) - (s : Int) = D := ⟨_, rfl⟩
  have i1 := num_zeros ha.num D.toNat
  have i2 := num_zeros hb.num (-D).toNat
  have hdiv : n * 10 ^ D.toNat / (m * 10 ^ (-D).toNat) = _ := div_scale n m s t k D hD
  simp only at i1 i2
  have z1 : (a ++ zs D.toNat).size ≤ 200 := by rw [app_size, zs_size]; omega
  have z2 : (b ++ zs (-D).toNat).size ≤ 121 := by rw [app_size, zs_size]; omega
  have cZ1 := fun W => pzeros_call D (by omega) (by omega) W
  have cZ2 := fun W => pzeros_call (-D) (by omega) (by omega) W
  have cN := fun W => of_call (b ++ zs (-D).toNat) i2.all (by omega) W
  rw [i2.val] at cN
  have hmp : 0 < m * 10 ^ (-D).toNat := Nat.mul_pos (by omega) (Nat.pow_pos (by omega))
  have hml : m * 10 ^ (-D).toNat < 10 ^ 121 := by
    have h1 := i2.lt
    exact Nat.lt_of_lt_of_le h1 (Nat.pow_le_pow_right (by omega) z2)
  have cQ := fun W => quo_call (a ++ zs D.toNat) (m * 10 ^ (-D).toNat) i1.all z1 hmp hml W
  rw [i1.val, hdiv] at cQ
  unfold divSpec
  generalize n * 10 ^ (max s t - s) * 10 ^ k / (m * 10 ^ (max s t - t)) = X at cQ ⊢
  generalize m * 10 ^ (-D).toNat = Y at cQ cN
  generalize zs D.toNat = Z1 at *
  generalize zs (-D).toNat = Z2 at *
  have y1 : ¬ 9223372036854775807 < a.size + Z1.size := by rw [← app_size]; omega
  have y2 : ¬ 9223372036854775807 < b.size + Z2.size := by rw [← app_size]; omega
  have hT1 : ∃ T, a ++ Z1 = T := ⟨_, rfl⟩
  have hT2 : ∃ T, b ++ Z2 = T := ⟨_, rfl⟩
  obtain ⟨T1, hT1⟩ := hT1
  obtain ⟨T2, hT2⟩ := hT2
  rw [hT1] at cQ z1
  rw [hT2] at cN
  unfold natV arrV at cN cQ
  have w1 : IntKind.i64.wrap ((k : Int) + (t : Int)) = (k : Int) + (t : Int) := IntWalk.i64_in _ (by omega)
  have w2 : IntKind.i64.wrap ((k : Int) + (t : Int) - (s : Int)) = D := by rw [hD]; exact IntWalk.i64_in _ (by omega)
  have w3 : IntKind.i64.wrap (-D) = -D := IntWalk.i64_in _ (by omega)
  have HZ := Lib.hid z1
  have dl : -1000 ≤ D := by omega
  have dh : D ≤ 1000 := by omega
  have cM : ∀ sq : ByteArray, AllD sq.data.toList → val sq.data.toList = X → sq.size ≤ 200 → ∀ W, Calls Tryz.prog 41 #[.bool (neg1 != neg2), .string sq, .int .i64 (k : Int)] W fun e w' => e = .returned (decR (mkDec (neg1 != neg2) X k)) ∧ Below W.heap.size W w' := fun sq h1 h2 h3 W => by
    have c := decimalOf_call (neg1 != neg2) sq k h1 (by omega) (by omega) W
    rw [h2] at c
    exact c
  unfold decR at cM ⊢
  generalize (mkDec (neg1 != neg2) X k).getD decNil = d at cM ⊢
  generalize (if (mkDec (neg1 != neg2) X k).isSome then (0 : Int) else 7) = q at cM ⊢
  obtain ⟨dn, dd, dsc⟩ := d
  simp only [Dec.v] at cC cM ⊢
  clear ha hb za zb hs ht hm0 hI i1 i2 hdiv z1 z2 hmp hml
  go_enter Tryz.func27, Tryz.ntmps27
  go_wp2_with (first
    | (go_at_call 44; refine (cC _ _ (by simp)).mono ?_; rintro e w1 ⟨rfl, b1⟩; have b1 := past (by simp) b1; obtain ⟨x0, x1, x2, y0, y1, y2, r0, r1, r2, f0, f1, f2, hB, hz3⟩ := three_all b1; have KS := Lib.hid (And.intro x0 (And.intro x1 (And.intro x2 (And.intro y0 (And.intro y1 (And.intro y2 (ResAt.mk ⟨_, r0⟩ ⟨_, r1⟩ ⟨_, r2⟩ f0 f1 f2 hB hz3))))))); clear b1 hB cC r0 r1 r2 f0 f1 f2)
    | (go_at_call 61; refine (cI _).mono ?_; rintro e w2 ⟨rfl, b2⟩; have ks := mul_call KS.out b2; have KS := Lib.hid ks; obtain ⟨x0, x1, x2, y0, y1, y2, _⟩ := ks; clear b2 cI)
    | (go_at_call 62; refine (cS _).mono ?_; rintro e w3 ⟨rfl, rfl⟩))
  clear x0 x1 x2 y0 y1 y2
  go_region_held3 (fun W => W.cell? ⟨w.heap.size, 0, none⟩ = some (.bool neg1) ∧ W.cell? ⟨w.heap.size, 1, none⟩ = some (.string a) ∧ W.cell? ⟨w.heap.size, 2, none⟩ = some (.int .i64 (s : Int)) ∧ W.cell? ⟨w.heap.size + 1, 0, none⟩ = some (.bool neg2) ∧ W.cell? ⟨w.heap.size + 1, 1, none⟩ = some (.string b) ∧ W.cell? ⟨w.heap.size + 1, 2, none⟩ = some (.int .i64 (t : Int)) ∧ ResAt w W)
    (first | exact mul_call KS.out (below_drew1 _) | exact mul_call (by assumption) b8)
    (first
      | (go_at_call 64; refine (cZ1 _).mono ?_; rintro e w8 ⟨rfl, b8⟩)
      | (go_at_call 64; refine (cZ2 _).mono ?_; rintro e w8 ⟨rfl, b8⟩)
      | (go_at_call 57; refine (cN _).mono ?_; rintro e w8 ⟨rfl, b8⟩)
      | (go_at_call 63; refine (cQ _).mono ?_; rintro e w8 ⟨sq, rfl, hq1, hq2, hq3, b8⟩; have HQ := Lib.hid (And.intro hq1 (And.intro hq2 (And.intro hq3 (mul_call (by assumption) b8)))); clear hq1 hq2 hq3))
  obtain ⟨hq1, hq2, hq3, hq4⟩ := HQ.out
  have cM := cM sq hq1 hq2 (by have := HZ.out; omega)
  have H4 := Lib.hid hq4
  obtain ⟨x0, x1, x2, y0, y1, y2, _⟩ := hq4
  clear hq1 hq2 hq3 HQ KS
  go_wp2_with (go_at_call 41; refine (cM _).mono ?_; rintro e w9 ⟨rfl, b9⟩; have hr := (show ResAt w w9 from (mul_call H4.out b9).2.2.2.2.2.2); obtain ⟨⟨v0, q0⟩, ⟨v1, q1⟩, ⟨v2, q2⟩, g0, g1, g2, gB, gz⟩ := hr; have GB := Lib.hid gB; clear b9 gB)
  exact bodyPost_ret (v := .tuple #[.agg #[.bool dn, .string dd, .int .i64 dsc], .int .i64 q]) (by simp [results, Tryz.results27, go_sem, q0, q1, q2]) rfl ⟨rfl, ((GB.out.setCell (by simp; omega) _).setCell (by simp; omega) _).setCell (by simp; omega) _⟩

set_option maxRecDepth 100000 in
set_option maxHeartbeats 4000000 in
theorem p_div (a b : Dec) (k : Int) (za : a.ds.size ≤ 400) (zb : b.ds.size ≤ 400) (w : World) : Calls Tryz.prog 27 #[a.v, b.v, .int .i64 k] w fun e w' => e = .returned (divS a b k).v ∧ Below w.heap.size w w' := by
  by_cases hok : (Valid a ∧ Valid b) ∧ num b ≠ 0 ∧ 0 ≤ k ∧ k ≤ 60
  · have hd : divS a b k = ofOpt (divSpec a.neg (num a) (scl a) b.neg (num b) (scl b) k.toNat) := by unfold divS; rw [if_pos hok]
    rw [hd, ← ofOpt_v]
    obtain ⟨h, hm0, hk0, hk6⟩ := hok
    obtain ⟨k, rfl⟩ : ∃ j : Nat, k = (j : Int) := ⟨k.toNat, by omega⟩
    rw [Int.toNat_natCast]
    have ha := h.1.is
    have hb := h.2.is
    have h1 := h.1.sc
    have h2 := h.2.sc
    clear hd h
    generalize num a = n at *
    generalize num b = m at *
    generalize scl a = s at *
    generalize scl b = t at *
    obtain ⟨neg1, d1, s1⟩ := a
    obtain ⟨neg2, d2, s2⟩ := b
    simp only at h1 h2 za zb ⊢
    subst h1 h2
    unfold Dec.v
    exact div_prog neg1 neg2 d1 d2 s t n m k ha hb hm0 (by omega) w
  · have hd : divS a b k = argRes := by unfold divS; rw [if_neg hok]
    rw [hd]
    by_cases h : Valid a ∧ Valid b
    · have cC := check_at2 a b (by unfold maxLen; omega) (by unfold maxLen; omega) 0 (by rw [vB_ok h.1, vB_ok h.2]; rfl)
      have cI := fun W => t_zero b.neg b.ds b.sc W
      have hI := is_zero h.2
      have hzz := h.2.is.zero
      have hsc := h.2.sc
      have cS := fun W => t_scale k W
      by_cases hm0 : num b = 0
      · have hI2 : (!b.neg && (b.ds.toList == [48]) && decide (b.sc = 0)) = true := by
          rw [hI, decide_eq_true hm0, (hzz hm0).1, hsc, (hzz hm0).2]
          rfl
        rw [hI2] at cI
        obtain ⟨neg1, d1, s1⟩ := a
        obtain ⟨neg2, d2, s2⟩ := b
        unfold argRes DRes.v decNil Dec.v
        simp only at cC cI za zb ⊢
        clear hd hok h hI hzz hsc hm0 hI2
        go_enter Tryz.func27, Tryz.ntmps27
        go_wp2_with (first
          | (go_at_call 44; refine (cC _ _ (by simp)).mono ?_; rintro e w1 ⟨rfl, b1⟩; have b1 := past (by simp) b1; obtain ⟨x0, x1, x2, y0, y1, y2, r0, r1, r2, f0, f1, f2, hB, hz3⟩ := three_all b1; have KS := Lib.hid (And.intro x0 (And.intro x1 (And.intro x2 (And.intro y0 (And.intro y1 (And.intro y2 (ResAt.mk ⟨_, r0⟩ ⟨_, r1⟩ ⟨_, r2⟩ f0 f1 f2 hB hz3))))))); clear b1 hB cC r0 r1 r2 f0 f1 f2)
          | (go_at_call 61; refine (cI _).mono ?_; rintro e w2 ⟨rfl, b2⟩; obtain ⟨_, _, _, _, _, _, hr⟩ := mul_call KS.out b2; obtain ⟨⟨v0, q0⟩, ⟨v1, q1⟩, ⟨v2, q2⟩, g0, g1, g2, gB, gz⟩ := hr; have GB := Lib.hid gB; clear b2 gB cI x0 x1 x2 y0 y1 y2)
          | (go_at_call 62; refine (cS _).mono ?_; rintro e w3 ⟨rfl, rfl⟩))
        exact bodyPost_ret (v := .tuple #[.agg #[.bool false, .string ⟨#[]⟩, .int .i64 0], .int .i64 2]) (by simp [results, Tryz.results27, go_sem, q0, q1, q2]) rfl ⟨rfl, ((GB.out.setCell (by simp; omega) _).setCell (by simp; omega) _).setCell (by simp; omega) _⟩
      · have hI2 : (!b.neg && (b.ds.toList == [48]) && decide (b.sc = 0)) = false := by
          rw [hI, decide_eq_false hm0]
          simp
        rw [hI2] at cI
        rw [decide_eq_false (fun h2 => hok ⟨h, hm0, h2.1, h2.2⟩)] at cS
        obtain ⟨neg1, d1, s1⟩ := a
        obtain ⟨neg2, d2, s2⟩ := b
        unfold argRes DRes.v decNil Dec.v
        simp only at cC cI za zb ⊢
        clear hd hok h hI hzz hsc hm0 hI2
        go_enter Tryz.func27, Tryz.ntmps27
        go_wp2_with (first
          | (go_at_call 44; refine (cC _ _ (by simp)).mono ?_; rintro e w1 ⟨rfl, b1⟩; have b1 := past (by simp) b1; obtain ⟨x0, x1, x2, y0, y1, y2, r0, r1, r2, f0, f1, f2, hB, hz3⟩ := three_all b1; have KS := Lib.hid (And.intro x0 (And.intro x1 (And.intro x2 (And.intro y0 (And.intro y1 (And.intro y2 (ResAt.mk ⟨_, r0⟩ ⟨_, r1⟩ ⟨_, r2⟩ f0 f1 f2 hB hz3))))))); clear b1 hB cC r0 r1 r2 f0 f1 f2)
          | (go_at_call 61; refine (cI _).mono ?_; rintro e w2 ⟨rfl, b2⟩; obtain ⟨_, _, _, _, _, _, hr⟩ := mul_call KS.out b2; obtain ⟨⟨v0, q0⟩, ⟨v1, q1⟩, ⟨v2, q2⟩, g0, g1, g2, gB, gz⟩ := hr; have GB := Lib.hid gB; clear b2 gB cI x0 x1 x2 y0 y1 y2)
          | (go_at_call 62; refine (cS _).mono ?_; rintro e w3 ⟨rfl, rfl⟩))
        exact bodyPost_ret (v := .tuple #[.agg #[.bool false, .string ⟨#[]⟩, .int .i64 0], .int .i64 2]) (by simp [results, Tryz.results27, go_sem, q0, q1, q2]) rfl ⟨rfl, ((GB.out.setCell (by simp; omega) _).setCell (by simp; omega) _).setCell (by simp; omega) _⟩
    · have hv : chk1 (vB a && vB b) = 2 := by
        by_cases h1 : Valid a
        · rw [vB_bad (fun h2 => h ⟨h1, h2⟩), Bool.and_false]; rfl
        · rw [vB_bad h1, Bool.false_and]; rfl
      have cC := check_at2 a b (by unfold maxLen; omega) (by unfold maxLen; omega) 2 hv
      obtain ⟨neg1, d1, s1⟩ := a
      obtain ⟨neg2, d2, s2⟩ := b
      unfold argRes DRes.v decNil Dec.v
      simp only at cC za zb ⊢
      clear hd hok h hv
      go_enter Tryz.func27, Tryz.ntmps27
      go_wp2_with fail
      refine (cC _ _ (by simp)).mono ?_
      rintro e w1 ⟨rfl, b1⟩
      obtain ⟨x0, x1, x2, y0, y1, y2, r0, r1, r2, f0, f1, f2, hB, hz3⟩ := three_all (past (by simp) b1)
      have HB := Lib.hid hB
      clear b1 hB
      go_wp2
      exact bodyPost_ret (v := .tuple #[.agg #[.bool false, .string ⟨#[]⟩, .int .i64 0], .int .i64 2]) (by simp [results, Tryz.results27, go_sem, r0, r1, r2]) rfl ⟨rfl, ((HB.out.setCell (by simp; omega) _).setCell (by simp; omega) _).setCell (by simp; omega) _⟩
end Go.Proofs.YtcpociafcjabkaaGreatDoor
