/- The reference's Mul. -/
import Derived.Deep.RegionHeld3
import Derived.Test.YtcpociafcjabkaaGreatDoorO
set_option linter.unusedSimpArgs false
set_option linter.unusedVariables false
namespace Go.Proofs.YtcpociafcjabkaaGreatDoor
open Go.RowKit

/-- Where a result is put. -/
structure ResAt (w W : World) : Prop where
  r0 : ∃ v, W.cell? ⟨w.heap.size + 1 + 1, 0, none⟩ = some v
  r1 : ∃ v, W.cell? ⟨w.heap.size + 1 + 1, 1, none⟩ = some v
  r2 : ∃ v, W.cell? ⟨w.heap.size + 1 + 1, 2, none⟩ = some v
  f0 : W.frozen? ⟨w.heap.size + 1 + 1, 0, none⟩ = false
  f1 : W.frozen? ⟨w.heap.size + 1 + 1, 1, none⟩ = false
  f2 : W.frozen? ⟨w.heap.size + 1 + 1, 2, none⟩ = false
  below : Below w.heap.size w W
  size : w.heap.size + 3 ≤ W.heap.size
theorem ResAt.call {w W W' : World} (h : ResAt w W) (hB : Below W.heap.size W W') : ResAt w W' := by
  obtain ⟨⟨v0, h0⟩, ⟨v1, h1⟩, ⟨v2, h2⟩, f0, f1, f2, hb, hz⟩ := h
  have key : w.heap.size + 1 + 1 < W.heap.size := by omega
  exact ⟨⟨v0, (hB.cell (p := ⟨w.heap.size + 1 + 1, 0, none⟩) key).trans h0⟩, ⟨v1, (hB.cell (p := ⟨w.heap.size + 1 + 1, 1, none⟩) key).trans h1⟩, ⟨v2, (hB.cell (p := ⟨w.heap.size + 1 + 1, 2, none⟩) key).trans h2⟩,
    (hB.frozen (p := ⟨w.heap.size + 1 + 1, 0, none⟩) key).trans f0, (hB.frozen (p := ⟨w.heap.size + 1 + 1, 1, none⟩) key).trans f1, (hB.frozen (p := ⟨w.heap.size + 1 + 1, 2, none⟩) key).trans f2, hb.trans (hB.mono (by omega)), Nat.le_trans hz hB.size⟩
theorem ResAt.set {w W : World} (h : ResAt w W) (j : Nat) (u : Value) : ResAt w (W.setCell ⟨w.heap.size + 1 + 1, j, none⟩ u) := by
  obtain ⟨⟨v0, h0⟩, ⟨v1, h1⟩, ⟨v2, h2⟩, f0, f1, f2, hb, hz⟩ := h
  have key : ∀ k v, W.cell? ⟨w.heap.size + 1 + 1, k, none⟩ = some v → ∃ v', (W.setCell ⟨w.heap.size + 1 + 1, j, none⟩ u).cell? ⟨w.heap.size + 1 + 1, k, none⟩ = some v' := fun k v hv => by
    by_cases hjk : j = k
    · subst hjk
      exact ⟨u, World.cell?_setCell_same _ _ _ hv⟩
    · exact ⟨v, (World.cell?_setCell_other _ _ _ _ (fun e => hjk (by cases e; rfl))).trans hv⟩
  exact ⟨key 0 _ h0, key 1 _ h1, key 2 _ h2, by rw [World.frozen?_setCell]; exact f0, by rw [World.frozen?_setCell]; exact f1, by rw [World.frozen?_setCell]; exact f2, hb.setCell (by show w.heap.size ≤ w.heap.size + 1 + 1; omega) _, by
    show w.heap.size + 3 ≤ (W.setCell ⟨w.heap.size + 1 + 1, j, none⟩ u).heap.size
    rw [World.size_setCell]
    exact hz⟩
theorem mul_call {w W W' : World} {a0 a1 a2 b0 b1 b2 : Value} (h : W.cell? ⟨w.heap.size, 0, none⟩ = some a0 ∧ W.cell? ⟨w.heap.size, 1, none⟩ = some a1 ∧ W.cell? ⟨w.heap.size, 2, none⟩ = some a2 ∧ W.cell? ⟨w.heap.size + 1, 0, none⟩ = some b0 ∧ W.cell? ⟨w.heap.size + 1, 1, none⟩ = some b1 ∧ W.cell? ⟨w.heap.size + 1, 2, none⟩ = some b2 ∧ ResAt w W) (hB : Below W.heap.size W W') : W'.cell? ⟨w.heap.size, 0, none⟩ = some a0 ∧ W'.cell? ⟨w.heap.size, 1, none⟩ = some a1 ∧ W'.cell? ⟨w.heap.size, 2, none⟩ = some a2 ∧ W'.cell? ⟨w.heap.size + 1, 0, none⟩ = some b0 ∧ W'.cell? ⟨w.heap.size + 1, 1, none⟩ = some b1 ∧ W'.cell? ⟨w.heap.size + 1, 2, none⟩ = some b2 ∧ ResAt w W' := by
  obtain ⟨h0, h1, h2, k0, k1, k2, hR⟩ := h
  have hz := hR.size
  exact ⟨(hB.cell (p := ⟨w.heap.size, 0, none⟩) (by show w.heap.size < _; omega)).trans h0, (hB.cell (p := ⟨w.heap.size, 1, none⟩) (by show w.heap.size < _; omega)).trans h1, (hB.cell (p := ⟨w.heap.size, 2, none⟩) (by show w.heap.size < _; omega)).trans h2, (hB.cell (p := ⟨w.heap.size + 1, 0, none⟩) (by show w.heap.size + 1 < _; omega)).trans k0, (hB.cell (p := ⟨w.heap.size + 1, 1, none⟩) (by show w.heap.size + 1 < _; omega)).trans k1, (hB.cell (p := ⟨w.heap.size + 1, 2, none⟩) (by show w.heap.size + 1 < _; omega)).trans k2, hR.call hB⟩
theorem mul_set {w W : World} {a0 a1 a2 b0 b1 b2 : Value} (h : W.cell? ⟨w.heap.size, 0, none⟩ = some a0 ∧ W.cell? ⟨w.heap.size, 1, none⟩ = some a1 ∧ W.cell? ⟨w.heap.size, 2, none⟩ = some a2 ∧ W.cell? ⟨w.heap.size + 1, 0, none⟩ = some b0 ∧ W.cell? ⟨w.heap.size + 1, 1, none⟩ = some b1 ∧ W.cell? ⟨w.heap.size + 1, 2, none⟩ = some b2 ∧ ResAt w W) (j : Nat) (u : Value) : (W.setCell ⟨w.heap.size + 1 + 1, j, none⟩ u).cell? ⟨w.heap.size, 0, none⟩ = some a0 ∧ (W.setCell ⟨w.heap.size + 1 + 1, j, none⟩ u).cell? ⟨w.heap.size, 1, none⟩ = some a1 ∧ (W.setCell ⟨w.heap.size + 1 + 1, j, none⟩ u).cell? ⟨w.heap.size, 2, none⟩ = some a2 ∧ (W.setCell ⟨w.heap.size + 1 + 1, j, none⟩ u).cell? ⟨w.heap.size + 1, 0, none⟩ = some b0 ∧ (W.setCell ⟨w.heap.size + 1 + 1, j, none⟩ u).cell? ⟨w.heap.size + 1, 1, none⟩ = some b1 ∧ (W.setCell ⟨w.heap.size + 1 + 1, j, none⟩ u).cell? ⟨w.heap.size + 1, 2, none⟩ = some b2 ∧ ResAt w (W.setCell ⟨w.heap.size + 1 + 1, j, none⟩ u) := by
  obtain ⟨h0, h1, h2, k0, k1, k2, hR⟩ := h
  refine ⟨(World.cell?_setCell_far _ _ _ _ (by show w.heap.size + 1 + 1 ≠ w.heap.size; omega)).trans h0, (World.cell?_setCell_far _ _ _ _ (by show w.heap.size + 1 + 1 ≠ w.heap.size; omega)).trans h1, (World.cell?_setCell_far _ _ _ _ (by show w.heap.size + 1 + 1 ≠ w.heap.size; omega)).trans h2, (World.cell?_setCell_far _ _ _ _ (by show w.heap.size + 1 + 1 ≠ w.heap.size + 1; omega)).trans k0, (World.cell?_setCell_far _ _ _ _ (by show w.heap.size + 1 + 1 ≠ w.heap.size + 1; omega)).trans k1, (World.cell?_setCell_far _ _ _ _ (by show w.heap.size + 1 + 1 ≠ w.heap.size + 1; omega)).trans k2, hR.set j u⟩

set_option maxRecDepth 100000 in
set_option maxHeartbeats 4000000 in
theorem mul_ok (neg1 neg2 : Bool) (a b : ByteArray) (s t n m : Nat) (ha : IsDec ⟨neg1, a, (s : Int)⟩ n s) (hb : IsDec ⟨neg2, b, (t : Int)⟩ m t) (w : World) :
    Calls Tryz.prog 22 #[.agg #[.bool neg1, .string a, .int .i64 (s : Int)], .agg #[.bool neg2, .string b, .int .i64 (t : Int)]] w fun e w' =>
      e = .returned (decR (mkDec (neg1 != neg2) (n * m) (s + t))) ∧ Below w.heap.size w w' := by
  have za : a.size ≤ 60 := by rw [show a = numS n from ha.ds, numS_size]; exact ha.len
  have zb : b.size ≤ 60 := by rw [show b = numS m from hb.ds, numS_size]; exact hb.len
  have c1 := fun W => check_val neg1 a (s : Int) (by unfold maxLen; omega) W 0 (chkR_ok ⟨n, s, ha⟩)
  have c2 := fun W => check_val neg2 b (t : Int) (by unfold maxLen; omega) W 0 (chkR_ok ⟨m, t, hb⟩)
  have c3 := fun W => times_num ha.num hb.num (by simp only; omega) (by simp only; omega) W
  have hs := ha.le
  have ht := hb.le
  have hz : (numS (n * m)).size ≤ 50000 := by
    have h1 : n * m < 10 ^ (60 + 60) := by
      rw [Nat.pow_add]
      exact Nat.mul_lt_mul'' (Nat.lt_of_lt_of_le ha.num.lt (Nat.pow_le_pow_right (by omega) za)) (Nat.lt_of_lt_of_le hb.num.lt (Nat.pow_le_pow_right (by omega) zb))
    exact Nat.le_trans (numS_len h1 (by omega)) (by omega)
  have c4 := fun W => made_num (neg1 != neg2) (numS (n * m)) (n * m) (s + t) (IsNum.num _) hz (by omega) W
  have e4 : ((s + t : Nat) : Int) = (s : Int) + (t : Int) := by omega
  rw [e4] at c4
  unfold decR at c4 ⊢
  generalize (mkDec (neg1 != neg2) (n * m) (s + t)).getD decNil = d at c4 ⊢
  generalize (if (mkDec (neg1 != neg2) (n * m) (s + t)).isSome then (0 : Int) else 7) = q at c4 ⊢
  generalize numS (n * m) = Z at c3 c4
  obtain ⟨dn, dd, dsc⟩ := d
  simp only [Dec.v] at c3 c4 ⊢
  have w1 : IntKind.i64.wrap ((s : Int) + (t : Int)) = (s : Int) + (t : Int) := IntWalk.i64_in _ (by omega)
  clear ha hb za zb hz e4
  go_enter Tryz.func22, Tryz.ntmps22
  go_wp2_with fail
  refine (c1 _).mono ?_
  rintro e w1 ⟨rfl, b1⟩
  obtain ⟨x0, x1, x2, y0, y1, y2, r0, r1, r2, f0, f1, f2, hB, hz⟩ := three_all b1
  clear c1
  go_wp2_with fail
  refine (c2 _).mono ?_
  rintro e w2 ⟨rfl, b2⟩
  have b12 := b1.trans (b2.mono b1.size)
  clear x0 x1 x2 y0 y1 y2 r0 r1 r2 f0 f1 f2 hB hz b1 b2 c2
  obtain ⟨x0, x1, x2, y0, y1, y2, r0, r1, r2, f0, f1, f2, hB, hz⟩ := three_all b12
  have KS := Lib.hid (And.intro x0 (And.intro x1 (And.intro x2 (And.intro y0 (And.intro y1 (And.intro y2 (ResAt.mk ⟨_, r0⟩ ⟨_, r1⟩ ⟨_, r2⟩ f0 f1 f2 hB hz)))))))
  clear b12 x0 x1 x2 y0 y1 y2 r0 r1 r2 f0 f1 f2 hB
  go_wp2_with fail
  go_region_held3 (fun W => W.cell? ⟨w.heap.size, 0, none⟩ = some (.bool neg1) ∧ W.cell? ⟨w.heap.size, 1, none⟩ = some (.string a) ∧ W.cell? ⟨w.heap.size, 2, none⟩ = some (.int .i64 (s : Int)) ∧ W.cell? ⟨w.heap.size + 1, 0, none⟩ = some (.bool neg2) ∧ W.cell? ⟨w.heap.size + 1, 1, none⟩ = some (.string b) ∧ W.cell? ⟨w.heap.size + 1, 2, none⟩ = some (.int .i64 (t : Int)) ∧ ResAt w W)
    (first | exact mul_call KS.out (below_drew1 _) | exact mul_call (by assumption) b4 | exact mul_call (by assumption) b3 | exact mul_set (mul_set (mul_set (by assumption) 0 _) 1 _) 2 _)
    (first
      | (go_at_call 58; refine (c3 _).mono ?_; rintro e w3 ⟨rfl, b3⟩)
      | (go_at_call 43; refine (c4 _).mono ?_; rintro e w4 ⟨rfl, b4⟩; have hr := (show ResAt w w4 from (by first | exact (mul_call (by assumption) b4).2.2.2.2.2.2)); obtain ⟨⟨v0, q0⟩, ⟨v1, q1⟩, ⟨v2, q2⟩, g0, g1, g2, gB, gz⟩ := hr; have GB := Lib.hid gB))
  all_goals go_wp2
  all_goals exact bodyPost_ret (v := .tuple #[.agg #[.bool dn, .string dd, .int .i64 dsc], .int .i64 q]) (by simp [results, Tryz.results22, go_sem, q0, q1, q2]) rfl ⟨rfl, ((GB.out.setCell (by simp; omega) _).setCell (by simp; omega) _).setCell (by simp; omega) _⟩
end Go.Proofs.YtcpociafcjabkaaGreatDoor

/- The reference's Div and Neg. -/
namespace Go.Proofs.YtcpociafcjabkaaGreatDoor
open Go.RowKit

theorem zero_text {neg : Bool} {a : ByteArray} {s : Int} {n k : Nat} (h : IsDec ⟨neg, a, s⟩ n k) : (a.toList == [48]) = decide (n = 0) := by
  rw [show a = numS n from h.ds, numS_toList]
  by_cases h0 : n = 0
  · rw [h0, digs_zero]
    rfl
  · rw [decide_eq_false h0]
    refine beq_eq_false_iff_ne.2 fun e => h0 ?_
    have := digs_val n
    rw [e] at this
    exact this.symm

/-- The quotient of two decimals. -/
def divSpec (neg1 : Bool) (n s : Nat) (neg2 : Bool) (m t k : Nat) : Option Dec := mkDec (neg1 != neg2) (n * 10 ^ (max s t - s) * 10 ^ k / (m * 10 ^ (max s t - t))) k

set_option maxRecDepth 100000 in
set_option maxHeartbeats 4000000 in
theorem div_ok (neg1 neg2 : Bool) (a b : ByteArray) (s t n m k : Nat) (ha : IsDec ⟨neg1, a, (s : Int)⟩ n s) (hb : IsDec ⟨neg2, b, (t : Int)⟩ m t) (hm : m ≠ 0) (hk : k ≤ 60) (w : World) :
    Calls Tryz.prog 28 #[.agg #[.bool neg1, .string a, .int .i64 (s : Int)], .agg #[.bool neg2, .string b, .int .i64 (t : Int)], .int .i64 (k : Int)] w fun e w' =>
      e = .returned (decR (divSpec neg1 n s neg2 m t k)) ∧ Below w.heap.size w w' := by
  have za : a.size ≤ 60 := by rw [show a = numS n from ha.ds, numS_size]; exact ha.len
  have zb : b.size ≤ 60 := by rw [show b = numS m from hb.ds, numS_size]; exact hb.len
  have c1 := fun W => check_val neg1 a (s : Int) (by unfold maxLen; omega) W 0 (chkR_ok ⟨n, s, ha⟩)
  have c2 := fun W => check_val neg2 b (t : Int) (by unfold maxLen; omega) W 0 (chkR_ok ⟨m, t, hb⟩)
  have hs := ha.le
  have ht := hb.le
  have cS := fun W => same_any neg1 neg2 a b s t (by omega) (by omega) (by omega) (by omega) W
  have hb0 : (b.toList == [48]) = false := by rw [zero_text hb]; exact decide_eq_false hm
  have hN : max s t ≤ 60 := by omega
  have ix := num_zeros (num_zeros ha.num (max s t - s)) k
  have iy := num_zeros hb.num (max s t - t)
  have zx : ((a ++ zs (max s t - s)) ++ zs k).size ≤ 3000 := by rw [app_size, app_size, zs_size, zs_size]; omega
  have zy : (b ++ zs (max s t - t)).size ≤ 3000 := by rw [app_size, zs_size]; omega
  have hy : 0 < m * 10 ^ (max s t - t) := Nat.mul_pos (by omega) (Nat.pow_pos (by omega))
  unfold divSpec
  simp only at ix iy
  have hadd : (a ++ zs (max s t - s)).size + (zs k).size ≤ 9223372036854775807 := by rw [← app_size]; omega
  have cZ := fun W => zeros_any (k : Int) (by omega) W
  rw [show ((k : Int)).toNat = k from rfl] at cZ
  generalize n * 10 ^ (max s t - s) * 10 ^ k = x at ix ⊢
  generalize m * 10 ^ (max s t - t) = y at iy hy ⊢
  generalize a ++ zs (max s t - s) = X at *
  generalize b ++ zs (max s t - t) = Y at *
  generalize zs k = K at *
  generalize max s t = N at *
  have cO := fun W => over_num ix iy hy (by omega) (by omega) W
  have hsz : (numS (x / y)).size ≤ 50000 := Nat.le_trans (numS_len (Nat.lt_of_le_of_lt (Nat.div_le_self _ _) (diff_lt ix 3001 (by omega))) (by omega)) (by omega)
  have cM := fun W => made_num (neg1 != neg2) (numS (x / y)) (x / y) k (IsNum.num _) hsz (by omega) W
  unfold decR at cM ⊢
  generalize (mkDec (neg1 != neg2) (x / y) k).getD decNil = d at cM ⊢
  generalize (if (mkDec (neg1 != neg2) (x / y) k).isSome then (0 : Int) else 7) = q at cM ⊢
  generalize numS (x / y) = Z at cO cM
  generalize numS (x % y) = Z2 at cO
  obtain ⟨dn, dd, dsc⟩ := d
  simp only [Dec.v] at cM ⊢
  have hki : (k : Int) ≤ 60 := by omega
  clear ha hb za zb hsz ix iy zx zy hs ht hm hy hN hk
  go_enter Tryz.func28, Tryz.ntmps28
  go_wp2_with fail
  refine (c1 _).mono ?_
  rintro e w1 ⟨rfl, b1⟩
  obtain ⟨x0, x1, x2, y0, y1, y2, r0, r1, r2, f0, f1, f2, hB, hz⟩ := three_all b1
  clear c1
  go_wp2_with fail
  refine (c2 _).mono ?_
  rintro e w2 ⟨rfl, b2⟩
  have b12 := b1.trans (b2.mono b1.size)
  clear x0 x1 x2 y0 y1 y2 r0 r1 r2 f0 f1 f2 hB hz b1 b2 c2
  obtain ⟨x0, x1, x2, y0, y1, y2, r0, r1, r2, f0, f1, f2, hB, hz⟩ := three_all b12
  go_wp2_with fail
  refine (cS _).mono ?_
  rintro e w3 ⟨rfl, b3⟩
  have b13 := b12.trans (b3.mono b12.size)
  clear x0 x1 x2 y0 y1 y2 r0 r1 r2 f0 f1 f2 hB hz b12 b3 cS
  obtain ⟨x0, x1, x2, y0, y1, y2, r0, r1, r2, f0, f1, f2, hB, hz⟩ := three_all b13
  go_wp2_with fail
  refine (cZ _).mono ?_
  rintro e w4 ⟨rfl, rfl⟩
  clear cZ
  go_wp2_with fail
  refine (cO _).mono ?_
  rintro e w5 ⟨rfl, b5⟩
  have b15 := b13.trans (b5.mono b13.size)
  clear x0 x1 x2 y0 y1 y2 r0 r1 r2 f0 f1 f2 hB hz b13 b5 cO
  obtain ⟨x0, x1, x2, y0, y1, y2, r0, r1, r2, f0, f1, f2, hB, hz⟩ := three_all b15
  go_wp2_with fail
  refine (cM _).mono ?_
  rintro e w6 ⟨rfl, b6⟩
  have b16 := b15.trans (b6.mono b15.size)
  clear x0 x1 x2 y0 y1 y2 r0 r1 r2 f0 f1 f2 hB hz b15 b6 cM
  obtain ⟨x0, x1, x2, y0, y1, y2, r0, r1, r2, f0, f1, f2, hB, hz⟩ := three_all b16
  clear x0 x1 x2 y0 y1 y2 b16
  have HB := Lib.hid hB
  go_wp2
  exact bodyPost_ret (v := .tuple #[.agg #[.bool dn, .string dd, .int .i64 dsc], .int .i64 q]) (by simp [results, Tryz.results28, go_sem, r0, r1, r2]) rfl ⟨rfl, ((HB.out.setCell (by simp; omega) _).setCell (by simp; omega) _).setCell (by simp; omega) _⟩
end Go.Proofs.YtcpociafcjabkaaGreatDoor

/- The reference's Div at arguments that are none; its Neg; its Digits. -/
namespace Go.Proofs.YtcpociafcjabkaaGreatDoor
open Go.RowKit

set_option maxRecDepth 100000 in
set_option maxHeartbeats 2000000 in
theorem div_bad1 (neg1 neg2 : Bool) (a b : ByteArray) (s t k : Int) (za : a.size ≤ maxLen) (h : ¬ Valid ⟨neg1, a, s⟩) (w : World) :
    Calls Tryz.prog 28 #[.agg #[.bool neg1, .string a, .int .i64 s], .agg #[.bool neg2, .string b, .int .i64 t], .int .i64 k] w fun e w' => e = .returned argR ∧ Below w.heap.size w w' := by
  have c1 := fun W => check_val neg1 a s za W 2 (chkR_bad h)
  unfold argR Dec.v decNil
  clear h za
  go_enter Tryz.func28, Tryz.ntmps28
  go_wp2_with fail
  refine (c1 _).mono ?_
  rintro e w1 ⟨rfl, b1⟩
  obtain ⟨_, _, _, _, _, _, r0, r1, r2, f0, f1, f2, hB, hz⟩ := three_all b1
  have HB := Lib.hid hB
  go_wp2
  exact bodyPost_ret (v := .tuple #[.agg #[.bool false, .string ⟨#[]⟩, .int .i64 0], .int .i64 2]) (by simp [results, Tryz.results28, go_sem, r0, r1, r2]) rfl ⟨rfl, ((HB.out.setCell (by simp; omega) _).setCell (by simp; omega) _).setCell (by simp; omega) _⟩

set_option maxRecDepth 100000 in
set_option maxHeartbeats 2000000 in
theorem div_bad2 (neg1 neg2 : Bool) (a b : ByteArray) (s t k : Int) (za : a.size ≤ maxLen) (zb : b.size ≤ maxLen) (h1 : Valid ⟨neg1, a, s⟩) (h : ¬ Valid ⟨neg2, b, t⟩) (w : World) :
    Calls Tryz.prog 28 #[.agg #[.bool neg1, .string a, .int .i64 s], .agg #[.bool neg2, .string b, .int .i64 t], .int .i64 k] w fun e w' => e = .returned argR ∧ Below w.heap.size w w' := by
  have c1 := fun W => check_val neg1 a s za W 0 (chkR_ok h1)
  have c2 := fun W => check_val neg2 b t zb W 2 (chkR_bad h)
  unfold argR Dec.v decNil
  clear h h1 za zb
  go_enter Tryz.func28, Tryz.ntmps28
  go_wp2_with fail
  refine (c1 _).mono ?_
  rintro e w1 ⟨rfl, b1⟩
  obtain ⟨x0, x1, x2, y0, y1, y2, r0, r1, r2, f0, f1, f2, hB, hz⟩ := three_all b1
  clear c1
  go_wp2_with fail
  refine (c2 _).mono ?_
  rintro e w2 ⟨rfl, b2⟩
  have b12 := b1.trans (b2.mono b1.size)
  clear x0 x1 x2 y0 y1 y2 r0 r1 r2 f0 f1 f2 hB hz b1 b2 c2
  obtain ⟨x0, x1, x2, y0, y1, y2, r0, r1, r2, f0, f1, f2, hB, hz⟩ := three_all b12
  have HB := Lib.hid hB
  go_wp2
  exact bodyPost_ret (v := .tuple #[.agg #[.bool false, .string ⟨#[]⟩, .int .i64 0], .int .i64 2]) (by simp [results, Tryz.results28, go_sem, r0, r1, r2]) rfl ⟨rfl, ((HB.out.setCell (by simp; omega) _).setCell (by simp; omega) _).setCell (by simp; omega) _⟩

set_option maxRecDepth 100000 in
set_option maxHeartbeats 2000000 in
theorem div_bad3 (neg1 neg2 : Bool) (a b : ByteArray) (s t k : Int) (za : a.size ≤ maxLen) (zb : b.size ≤ maxLen) (h1 : Valid ⟨neg1, a, s⟩) (h : Valid ⟨neg2, b, t⟩) (hb : (b.toList == [48]) = true) (w : World) :
    Calls Tryz.prog 28 #[.agg #[.bool neg1, .string a, .int .i64 s], .agg #[.bool neg2, .string b, .int .i64 t], .int .i64 k] w fun e w' => e = .returned argR ∧ Below w.heap.size w w' := by
  have c1 := fun W => check_val neg1 a s za W 0 (chkR_ok h1)
  have c2 := fun W => check_val neg2 b t zb W 0 (chkR_ok h)
  unfold argR Dec.v decNil
  clear h h1 za zb
  go_enter Tryz.func28, Tryz.ntmps28
  go_wp2_with fail
  refine (c1 _).mono ?_
  rintro e w1 ⟨rfl, b1⟩
  obtain ⟨x0, x1, x2, y0, y1, y2, r0, r1, r2, f0, f1, f2, hB, hz⟩ := three_all b1
  clear c1
  go_wp2_with fail
  refine (c2 _).mono ?_
  rintro e w2 ⟨rfl, b2⟩
  have b12 := b1.trans (b2.mono b1.size)
  clear x0 x1 x2 y0 y1 y2 r0 r1 r2 f0 f1 f2 hB hz b1 b2 c2
  obtain ⟨x0, x1, x2, y0, y1, y2, r0, r1, r2, f0, f1, f2, hB, hz⟩ := three_all b12
  have HB := Lib.hid hB
  go_wp2
  exact bodyPost_ret (v := .tuple #[.agg #[.bool false, .string ⟨#[]⟩, .int .i64 0], .int .i64 2]) (by simp [results, Tryz.results28, go_sem, r0, r1, r2]) rfl ⟨rfl, ((HB.out.setCell (by simp; omega) _).setCell (by simp; omega) _).setCell (by simp; omega) _⟩

set_option maxRecDepth 100000 in
set_option maxHeartbeats 2000000 in
theorem div_bad4 (neg1 neg2 : Bool) (a b : ByteArray) (s t k : Int) (za : a.size ≤ maxLen) (zb : b.size ≤ maxLen) (h1 : Valid ⟨neg1, a, s⟩) (h : Valid ⟨neg2, b, t⟩) (hb : (b.toList == [48]) = false) (hk : k < 0) (w : World) :
    Calls Tryz.prog 28 #[.agg #[.bool neg1, .string a, .int .i64 s], .agg #[.bool neg2, .string b, .int .i64 t], .int .i64 k] w fun e w' => e = .returned argR ∧ Below w.heap.size w w' := by
  have c1 := fun W => check_val neg1 a s za W 0 (chkR_ok h1)
  have c2 := fun W => check_val neg2 b t zb W 0 (chkR_ok h)
  unfold argR Dec.v decNil
  clear h h1 za zb
  go_enter Tryz.func28, Tryz.ntmps28
  go_wp2_with fail
  refine (c1 _).mono ?_
  rintro e w1 ⟨rfl, b1⟩
  obtain ⟨x0, x1, x2, y0, y1, y2, r0, r1, r2, f0, f1, f2, hB, hz⟩ := three_all b1
  clear c1
  go_wp2_with fail
  refine (c2 _).mono ?_
  rintro e w2 ⟨rfl, b2⟩
  have b12 := b1.trans (b2.mono b1.size)
  clear x0 x1 x2 y0 y1 y2 r0 r1 r2 f0 f1 f2 hB hz b1 b2 c2
  obtain ⟨x0, x1, x2, y0, y1, y2, r0, r1, r2, f0, f1, f2, hB, hz⟩ := three_all b12
  have HB := Lib.hid hB
  go_wp2
  exact bodyPost_ret (v := .tuple #[.agg #[.bool false, .string ⟨#[]⟩, .int .i64 0], .int .i64 2]) (by simp [results, Tryz.results28, go_sem, r0, r1, r2]) rfl ⟨rfl, ((HB.out.setCell (by simp; omega) _).setCell (by simp; omega) _).setCell (by simp; omega) _⟩

set_option maxRecDepth 100000 in
set_option maxHeartbeats 2000000 in
theorem div_bad5 (neg1 neg2 : Bool) (a b : ByteArray) (s t k : Int) (za : a.size ≤ maxLen) (zb : b.size ≤ maxLen) (h1 : Valid ⟨neg1, a, s⟩) (h : Valid ⟨neg2, b, t⟩) (hb : (b.toList == [48]) = false) (hk : 60 < k) (w : World) :
    Calls Tryz.prog 28 #[.agg #[.bool neg1, .string a, .int .i64 s], .agg #[.bool neg2, .string b, .int .i64 t], .int .i64 k] w fun e w' => e = .returned argR ∧ Below w.heap.size w w' := by
  have c1 := fun W => check_val neg1 a s za W 0 (chkR_ok h1)
  have c2 := fun W => check_val neg2 b t zb W 0 (chkR_ok h)
  unfold argR Dec.v decNil
  clear h h1 za zb
  go_enter Tryz.func28, Tryz.ntmps28
  go_wp2_with fail
  refine (c1 _).mono ?_
  rintro e w1 ⟨rfl, b1⟩
  obtain ⟨x0, x1, x2, y0, y1, y2, r0, r1, r2, f0, f1, f2, hB, hz⟩ := three_all b1
  clear c1
  go_wp2_with fail
  refine (c2 _).mono ?_
  rintro e w2 ⟨rfl, b2⟩
  have b12 := b1.trans (b2.mono b1.size)
  clear x0 x1 x2 y0 y1 y2 r0 r1 r2 f0 f1 f2 hB hz b1 b2 c2
  obtain ⟨x0, x1, x2, y0, y1, y2, r0, r1, r2, f0, f1, f2, hB, hz⟩ := three_all b12
  have HB := Lib.hid hB
  go_wp2
  exact bodyPost_ret (v := .tuple #[.agg #[.bool false, .string ⟨#[]⟩, .int .i64 0], .int .i64 2]) (by simp [results, Tryz.results28, go_sem, r0, r1, r2]) rfl ⟨rfl, ((HB.out.setCell (by simp; omega) _).setCell (by simp; omega) _).setCell (by simp; omega) _⟩

theorem two_all {w W : World} {a0 a1 a2 c0 c1 c2 : Value} {T : TypeId} (hB : Below ((w.alloc (.cells #[a0, a1, a2] T)).alloc (.cells #[c0, c1, c2] T)).heap.size ((w.alloc (.cells #[a0, a1, a2] T)).alloc (.cells #[c0, c1, c2] T)) W) :
    W.cell? ⟨w.heap.size, 0, none⟩ = some a0 ∧ W.cell? ⟨w.heap.size, 1, none⟩ = some a1 ∧ W.cell? ⟨w.heap.size, 2, none⟩ = some a2 ∧ W.cell? ⟨w.heap.size + 1, 0, none⟩ = some c0 ∧ W.cell? ⟨w.heap.size + 1, 1, none⟩ = some c1 ∧ W.cell? ⟨w.heap.size + 1, 2, none⟩ = some c2 ∧
    W.frozen? ⟨w.heap.size + 1, 0, none⟩ = false ∧ W.frozen? ⟨w.heap.size + 1, 1, none⟩ = false ∧ W.frozen? ⟨w.heap.size + 1, 2, none⟩ = false ∧ Below w.heap.size w W ∧ w.heap.size + 2 ≤ W.heap.size := by
  have hz : ((w.alloc (.cells #[a0, a1, a2] T)).alloc (.cells #[c0, c1, c2] T)).heap.size = w.heap.size + 2 := by simp
  have z1 : (w.alloc (.cells #[a0, a1, a2] T)).heap.size = w.heap.size + 1 := by simp
  refine ⟨?_, ?_, ?_, ?_, ?_, ?_, ?_, ?_, ?_, ?_, ?_⟩
  · rw [hB.cell (p := ⟨w.heap.size, 0, none⟩) (by show w.heap.size < _; omega), World.cell?_alloc_past _ _ _ (by omega), World.cell?_alloc_at _ _ _ _ rfl]
    rfl
  · rw [hB.cell (p := ⟨w.heap.size, 1, none⟩) (by show w.heap.size < _; omega), World.cell?_alloc_past _ _ _ (by omega), World.cell?_alloc_at _ _ _ _ rfl]
    rfl
  · rw [hB.cell (p := ⟨w.heap.size, 2, none⟩) (by show w.heap.size < _; omega), World.cell?_alloc_past _ _ _ (by omega), World.cell?_alloc_at _ _ _ _ rfl]
    rfl
  · rw [hB.cell (p := ⟨w.heap.size + 1, 0, none⟩) (by show w.heap.size + 1 < _; omega), World.cell?_alloc_at _ _ _ _ z1.symm]
    rfl
  · rw [hB.cell (p := ⟨w.heap.size + 1, 1, none⟩) (by show w.heap.size + 1 < _; omega), World.cell?_alloc_at _ _ _ _ z1.symm]
    rfl
  · rw [hB.cell (p := ⟨w.heap.size + 1, 2, none⟩) (by show w.heap.size + 1 < _; omega), World.cell?_alloc_at _ _ _ _ z1.symm]
    rfl
  · rw [hB.frozen (p := ⟨w.heap.size + 1, 0, none⟩) (by show w.heap.size + 1 < _; omega), World.frozen?_alloc_at _ _ _ _ z1.symm]
  · rw [hB.frozen (p := ⟨w.heap.size + 1, 1, none⟩) (by show w.heap.size + 1 < _; omega), World.frozen?_alloc_at _ _ _ _ z1.symm]
  · rw [hB.frozen (p := ⟨w.heap.size + 1, 2, none⟩) (by show w.heap.size + 1 < _; omega), World.frozen?_alloc_at _ _ _ _ z1.symm]
  · exact (((Below.refl _ _).alloc (Nat.le_refl _) _).alloc (by simp) _).trans (hB.mono (by omega))
  · have := hB.size
    omega

set_option maxRecDepth 100000 in
set_option maxHeartbeats 2000000 in
theorem neg_bad (neg : Bool) (a : ByteArray) (s : Int) (za : a.size ≤ maxLen) (h : ¬ Valid ⟨neg, a, s⟩) (w : World) :
    Calls Tryz.prog 24 #[.agg #[.bool neg, .string a, .int .i64 s]] w fun e w' => e = .returned argR ∧ Below w.heap.size w w' := by
  have c1 := fun W => check_val neg a s za W 2 (chkR_bad h)
  unfold argR Dec.v decNil
  clear h za
  go_enter Tryz.func24, Tryz.ntmps24
  go_wp2_with fail
  refine (c1 _).mono ?_
  rintro e w1 ⟨rfl, b1⟩
  obtain ⟨x0, x1, x2, r0, r1, r2, f0, f1, f2, hB, hz⟩ := two_all b1
  have HB := Lib.hid hB
  go_wp2
  exact bodyPost_ret (v := .tuple #[.agg #[.bool false, .string ⟨#[]⟩, .int .i64 0], .int .i64 2]) (by simp [results, Tryz.results24, go_sem, r0, r1, r2]) rfl ⟨rfl, ((HB.out.setCell (by simp) _).setCell (by simp) _).setCell (by simp) _⟩

set_option maxRecDepth 100000 in
set_option maxHeartbeats 2000000 in
theorem neg_ok (neg : Bool) (a : ByteArray) (s : Int) (n k : Nat) (h : IsDec ⟨neg, a, s⟩ n k) (w : World) :
    Calls Tryz.prog 24 #[.agg #[.bool neg, .string a, .int .i64 s]] w fun e w' => e = .returned (.tuple #[(Dec.mk (!neg && decide (n ≠ 0)) a s).v, .int .i64 0]) ∧ Below w.heap.size w w' := by
  have za : a.size ≤ 60 := by rw [show a = numS n from h.ds, numS_size]; exact h.len
  have c1 := fun W => check_val neg a s (by unfold maxLen; omega) W 0 (chkR_ok ⟨n, k, h⟩)
  have c4 := fun W => opp_any neg a s W
  rw [opp_valid h] at c4
  generalize (!neg && decide (n ≠ 0)) = ng at c4 ⊢
  simp only [Dec.v] at c4 ⊢
  clear h za
  go_enter Tryz.func24, Tryz.ntmps24
  go_wp2_with fail
  refine (c1 _).mono ?_
  rintro e w1 ⟨rfl, b1⟩
  obtain ⟨x0, x1, x2, r0, r1, r2, f0, f1, f2, hB, hz⟩ := two_all b1
  clear c1
  go_wp2_with fail
  refine (c4 _).mono ?_
  rintro e w2 ⟨rfl, b2⟩
  have b12 := b1.trans (b2.mono b1.size)
  clear x0 x1 x2 r0 r1 r2 f0 f1 f2 hB hz b1 b2 c4
  obtain ⟨x0, x1, x2, r0, r1, r2, f0, f1, f2, hB, hz⟩ := two_all b12
  clear x0 x1 x2
  have HB := Lib.hid hB
  go_wp2
  exact bodyPost_ret (v := .tuple #[.agg #[.bool ng, .string a, .int .i64 s], .int .i64 0]) (by simp [results, Tryz.results24, go_sem, r0, r1, r2]) rfl ⟨rfl, ((HB.out.setCell (by simp) _).setCell (by simp) _).setCell (by simp) _⟩
end Go.Proofs.YtcpociafcjabkaaGreatDoor

/- The reference's Cmp. -/
namespace Go.Proofs.YtcpociafcjabkaaGreatDoor
open Go.RowKit

theorem two_both {w W : World} {a0 a1 a2 b0 b1 b2 : Value} {T : TypeId} (hB : Below ((w.alloc (.cells #[a0, a1, a2] T)).alloc (.cells #[b0, b1, b2] T)).heap.size ((w.alloc (.cells #[a0, a1, a2] T)).alloc (.cells #[b0, b1, b2] T)) W) :
    W.cell? ⟨w.heap.size, 0, none⟩ = some a0 ∧ W.cell? ⟨w.heap.size, 1, none⟩ = some a1 ∧ W.cell? ⟨w.heap.size, 2, none⟩ = some a2 ∧ W.cell? ⟨w.heap.size + 1, 0, none⟩ = some b0 ∧ W.cell? ⟨w.heap.size + 1, 1, none⟩ = some b1 ∧ W.cell? ⟨w.heap.size + 1, 2, none⟩ = some b2 ∧ Below w.heap.size w W := by
  obtain ⟨h0, h1, h2, k0, k1, k2, _, _, _, hb, _⟩ := two_all hB
  exact ⟨h0, h1, h2, k0, k1, k2, hb⟩

/-- How two different decimals are ordered. -/
def cmpSpec (neg1 : Bool) (x : Nat) (neg2 : Bool) (y : Nat) : Int := if (neg1 && !neg2 || (neg1 == neg2 && (decide (x < y) != neg1))) = true then -1 else 1

set_option maxRecDepth 100000 in
set_option maxHeartbeats 2000000 in
theorem cmp_eq (neg : Bool) (a : ByteArray) (s n : Nat) (ha : IsDec ⟨neg, a, (s : Int)⟩ n s) (w : World) :
    Calls Tryz.prog 26 #[.agg #[.bool neg, .string a, .int .i64 (s : Int)], .agg #[.bool neg, .string a, .int .i64 (s : Int)]] w fun e w' =>
      e = .returned (.tuple #[.int .i64 0, .int .i64 0]) ∧ Below w.heap.size w w' := by
  have za : a.size ≤ 60 := by rw [show a = numS n from ha.ds, numS_size]; exact ha.len
  have c1 := fun W => check_val neg a (s : Int) (by unfold maxLen; omega) W 0 (chkR_ok ⟨n, s, ha⟩)
  clear ha za
  go_enter Tryz.func26, Tryz.ntmps26
  go_wp2_with fail
  refine (c1 _).mono ?_
  rintro e w1 ⟨rfl, b1⟩
  obtain ⟨x0, x1, x2, y0, y1, y2, hB⟩ := two_both b1
  go_wp2_with fail
  refine (c1 _).mono ?_
  rintro e w2 ⟨rfl, b2⟩
  have b12 := b1.trans (b2.mono b1.size)
  clear x0 x1 x2 y0 y1 y2 hB b1 b2 c1
  obtain ⟨x0, x1, x2, y0, y1, y2, hB⟩ := two_both b12
  go_wp2
  go_ret2
  exact ⟨rfl, hB⟩

set_option maxRecDepth 100000 in
set_option maxHeartbeats 4000000 in
theorem cmp_tf (a b : ByteArray) (s t n m : Nat) (ha : IsDec ⟨true, a, (s : Int)⟩ n s) (hb : IsDec ⟨false, b, (t : Int)⟩ m t) (w : World) :
    Calls Tryz.prog 26 #[.agg #[.bool true, .string a, .int .i64 (s : Int)], .agg #[.bool false, .string b, .int .i64 (t : Int)]] w fun e w' =>
      e = .returned (.tuple #[.int .i64 (cmpSpec true (n * 10 ^ (max s t - s)) false (m * 10 ^ (max s t - t))), .int .i64 0]) ∧ Below w.heap.size w w' := by
  have za : a.size ≤ 60 := by rw [show a = numS n from ha.ds, numS_size]; exact ha.len
  have zb : b.size ≤ 60 := by rw [show b = numS m from hb.ds, numS_size]; exact hb.len
  have c1 := fun W => check_val true a (s : Int) (by unfold maxLen; omega) W 0 (chkR_ok ⟨n, s, ha⟩)
  have c2 := fun W => check_val false b (t : Int) (by unfold maxLen; omega) W 0 (chkR_ok ⟨m, t, hb⟩)
  have hs := ha.le
  have ht := hb.le
  have cS := fun W => same_any true false a b s t (by omega) (by omega) (by omega) (by omega) W
  have ix := num_zeros ha.num (max s t - s)
  have iy := num_zeros hb.num (max s t - t)
  have zx : (a ++ zs (max s t - s)).size ≤ 3000 := by rw [app_size, zs_size]; omega
  have zy : (b ++ zs (max s t - t)).size ≤ 3000 := by rw [app_size, zs_size]; omega
  simp only at ix iy
  generalize n * 10 ^ (max s t - s) = x at ix ⊢
  generalize m * 10 ^ (max s t - t) = y at iy ⊢
  generalize a ++ zs (max s t - s) = X at *
  generalize b ++ zs (max s t - t) = Y at *
  have cL := fun W => less_num ix iy (by unfold maxLen; omega) (by unfold maxLen; omega) W
  unfold cmpSpec
  generalize decide (x < y) = q at cL ⊢
  clear ha hb za zb hs ht ix iy zx zy
  go_enter Tryz.func26, Tryz.ntmps26
  go_wp2_with fail
  refine (c1 _).mono ?_
  rintro e w1 ⟨rfl, b1⟩
  obtain ⟨x0, x1, x2, y0, y1, y2, hB⟩ := two_both b1
  clear c1
  go_wp2_with fail
  refine (c2 _).mono ?_
  rintro e w2 ⟨rfl, b2⟩
  have b12 := b1.trans (b2.mono b1.size)
  clear x0 x1 x2 y0 y1 y2 hB b1 b2 c2
  obtain ⟨x0, x1, x2, y0, y1, y2, hB⟩ := two_both b12
  go_wp2_with fail
  refine (cS _).mono ?_
  rintro e w3 ⟨rfl, b3⟩
  have b13 := b12.trans (b3.mono b12.size)
  clear x0 x1 x2 y0 y1 y2 hB b12 b3 cS
  obtain ⟨x0, x1, x2, y0, y1, y2, hB⟩ := two_both b13
  have HB := Lib.hid hB
  clear b13 hB
  go_wp2_with fail
  go_quiet (fail)
  go_wp2
  go_ret2
  exact ⟨by cases q <;> rfl, below_drewN HB.out _⟩

set_option maxRecDepth 100000 in
set_option maxHeartbeats 4000000 in
theorem cmp_ft (a b : ByteArray) (s t n m : Nat) (ha : IsDec ⟨false, a, (s : Int)⟩ n s) (hb : IsDec ⟨true, b, (t : Int)⟩ m t) (w : World) :
    Calls Tryz.prog 26 #[.agg #[.bool false, .string a, .int .i64 (s : Int)], .agg #[.bool true, .string b, .int .i64 (t : Int)]] w fun e w' =>
      e = .returned (.tuple #[.int .i64 (cmpSpec false (n * 10 ^ (max s t - s)) true (m * 10 ^ (max s t - t))), .int .i64 0]) ∧ Below w.heap.size w w' := by
  have za : a.size ≤ 60 := by rw [show a = numS n from ha.ds, numS_size]; exact ha.len
  have zb : b.size ≤ 60 := by rw [show b = numS m from hb.ds, numS_size]; exact hb.len
  have c1 := fun W => check_val false a (s : Int) (by unfold maxLen; omega) W 0 (chkR_ok ⟨n, s, ha⟩)
  have c2 := fun W => check_val true b (t : Int) (by unfold maxLen; omega) W 0 (chkR_ok ⟨m, t, hb⟩)
  have hs := ha.le
  have ht := hb.le
  have cS := fun W => same_any false true a b s t (by omega) (by omega) (by omega) (by omega) W
  have ix := num_zeros ha.num (max s t - s)
  have iy := num_zeros hb.num (max s t - t)
  have zx : (a ++ zs (max s t - s)).size ≤ 3000 := by rw [app_size, zs_size]; omega
  have zy : (b ++ zs (max s t - t)).size ≤ 3000 := by rw [app_size, zs_size]; omega
  simp only at ix iy
  generalize n * 10 ^ (max s t - s) = x at ix ⊢
  generalize m * 10 ^ (max s t - t) = y at iy ⊢
  generalize a ++ zs (max s t - s) = X at *
  generalize b ++ zs (max s t - t) = Y at *
  have cL := fun W => less_num ix iy (by unfold maxLen; omega) (by unfold maxLen; omega) W
  unfold cmpSpec
  generalize decide (x < y) = q at cL ⊢
  clear ha hb za zb hs ht ix iy zx zy
  go_enter Tryz.func26, Tryz.ntmps26
  go_wp2_with fail
  refine (c1 _).mono ?_
  rintro e w1 ⟨rfl, b1⟩
  obtain ⟨x0, x1, x2, y0, y1, y2, hB⟩ := two_both b1
  clear c1
  go_wp2_with fail
  refine (c2 _).mono ?_
  rintro e w2 ⟨rfl, b2⟩
  have b12 := b1.trans (b2.mono b1.size)
  clear x0 x1 x2 y0 y1 y2 hB b1 b2 c2
  obtain ⟨x0, x1, x2, y0, y1, y2, hB⟩ := two_both b12
  go_wp2_with fail
  refine (cS _).mono ?_
  rintro e w3 ⟨rfl, b3⟩
  have b13 := b12.trans (b3.mono b12.size)
  clear x0 x1 x2 y0 y1 y2 hB b12 b3 cS
  obtain ⟨x0, x1, x2, y0, y1, y2, hB⟩ := two_both b13
  have HB := Lib.hid hB
  clear b13 hB
  go_wp2_with fail
  go_quiet (fail)
  go_wp2
  go_ret2
  exact ⟨by cases q <;> rfl, below_drewN HB.out _⟩

set_option maxRecDepth 100000 in
set_option maxHeartbeats 4000000 in
theorem cmp_text_t (a b : ByteArray) (s t n m : Nat) (ha : IsDec ⟨true, a, (s : Int)⟩ n s) (hb : IsDec ⟨true, b, (t : Int)⟩ m t) (hne : ¬ a.toList = b.toList) (w : World) :
    Calls Tryz.prog 26 #[.agg #[.bool true, .string a, .int .i64 (s : Int)], .agg #[.bool true, .string b, .int .i64 (t : Int)]] w fun e w' =>
      e = .returned (.tuple #[.int .i64 (cmpSpec true (n * 10 ^ (max s t - s)) true (m * 10 ^ (max s t - t))), .int .i64 0]) ∧ Below w.heap.size w w' := by
  have za : a.size ≤ 60 := by rw [show a = numS n from ha.ds, numS_size]; exact ha.len
  have zb : b.size ≤ 60 := by rw [show b = numS m from hb.ds, numS_size]; exact hb.len
  have c1 := fun W => check_val true a (s : Int) (by unfold maxLen; omega) W 0 (chkR_ok ⟨n, s, ha⟩)
  have c2 := fun W => check_val true b (t : Int) (by unfold maxLen; omega) W 0 (chkR_ok ⟨m, t, hb⟩)
  have hs := ha.le
  have ht := hb.le
  have cS := fun W => same_any true true a b s t (by omega) (by omega) (by omega) (by omega) W
  have ix := num_zeros ha.num (max s t - s)
  have iy := num_zeros hb.num (max s t - t)
  have zx : (a ++ zs (max s t - s)).size ≤ 3000 := by rw [app_size, zs_size]; omega
  have zy : (b ++ zs (max s t - t)).size ≤ 3000 := by rw [app_size, zs_size]; omega
  simp only at ix iy
  generalize n * 10 ^ (max s t - s) = x at ix ⊢
  generalize m * 10 ^ (max s t - t) = y at iy ⊢
  generalize a ++ zs (max s t - s) = X at *
  generalize b ++ zs (max s t - t) = Y at *
  have cL := fun W => less_num ix iy (by unfold maxLen; omega) (by unfold maxLen; omega) W
  unfold cmpSpec
  generalize decide (x < y) = q at cL ⊢
  clear ha hb za zb hs ht ix iy zx zy
  go_enter Tryz.func26, Tryz.ntmps26
  go_wp2_with fail
  refine (c1 _).mono ?_
  rintro e w1 ⟨rfl, b1⟩
  obtain ⟨x0, x1, x2, y0, y1, y2, hB⟩ := two_both b1
  clear c1
  go_wp2_with fail
  refine (c2 _).mono ?_
  rintro e w2 ⟨rfl, b2⟩
  have b12 := b1.trans (b2.mono b1.size)
  clear x0 x1 x2 y0 y1 y2 hB b1 b2 c2
  obtain ⟨x0, x1, x2, y0, y1, y2, hB⟩ := two_both b12
  go_wp2_with fail
  refine (cS _).mono ?_
  rintro e w3 ⟨rfl, b3⟩
  have b13 := b12.trans (b3.mono b12.size)
  clear x0 x1 x2 y0 y1 y2 hB b12 b3 cS
  obtain ⟨x0, x1, x2, y0, y1, y2, hB⟩ := two_both b13
  have HB := Lib.hid hB
  clear b13 hB
  go_wp2_with fail
  go_quiet ((go_at_call 60; exact Calls.quiet_of_same ((cL _).mono fun e w' h => ⟨h.1, h.2.symm⟩)))
  cases q
  all_goals go_wp2
  all_goals go_ret2
  all_goals exact ⟨rfl, below_drewN HB.out _⟩

set_option maxRecDepth 100000 in
set_option maxHeartbeats 4000000 in
theorem cmp_scale_t (a : ByteArray) (s t n m : Nat) (ha : IsDec ⟨true, a, (s : Int)⟩ n s) (hb : IsDec ⟨true, a, (t : Int)⟩ m t) (hne : ¬ (s : Int) = (t : Int)) (w : World) :
    Calls Tryz.prog 26 #[.agg #[.bool true, .string a, .int .i64 (s : Int)], .agg #[.bool true, .string a, .int .i64 (t : Int)]] w fun e w' =>
      e = .returned (.tuple #[.int .i64 (cmpSpec true (n * 10 ^ (max s t - s)) true (m * 10 ^ (max s t - t))), .int .i64 0]) ∧ Below w.heap.size w w' := by
  have za : a.size ≤ 60 := by rw [show a = numS n from ha.ds, numS_size]; exact ha.len
  have zb := za
  have c1 := fun W => check_val true a (s : Int) (by unfold maxLen; omega) W 0 (chkR_ok ⟨n, s, ha⟩)
  have c2 := fun W => check_val true a (t : Int) (by unfold maxLen; omega) W 0 (chkR_ok ⟨m, t, hb⟩)
  have hs := ha.le
  have ht := hb.le
  have cS := fun W => same_any true true a a s t (by omega) (by omega) (by omega) (by omega) W
  have ix := num_zeros ha.num (max s t - s)
  have iy := num_zeros hb.num (max s t - t)
  have zx : (a ++ zs (max s t - s)).size ≤ 3000 := by rw [app_size, zs_size]; omega
  have zy : (a ++ zs (max s t - t)).size ≤ 3000 := by rw [app_size, zs_size]; omega
  simp only at ix iy
  generalize n * 10 ^ (max s t - s) = x at ix ⊢
  generalize m * 10 ^ (max s t - t) = y at iy ⊢
  generalize a ++ zs (max s t - s) = X at *
  generalize a ++ zs (max s t - t) = Y at *
  have cL := fun W => less_num ix iy (by unfold maxLen; omega) (by unfold maxLen; omega) W
  unfold cmpSpec
  generalize decide (x < y) = q at cL ⊢
  clear ha hb za zb hs ht ix iy zx zy
  go_enter Tryz.func26, Tryz.ntmps26
  go_wp2_with fail
  refine (c1 _).mono ?_
  rintro e w1 ⟨rfl, b1⟩
  obtain ⟨x0, x1, x2, y0, y1, y2, hB⟩ := two_both b1
  clear c1
  go_wp2_with fail
  refine (c2 _).mono ?_
  rintro e w2 ⟨rfl, b2⟩
  have b12 := b1.trans (b2.mono b1.size)
  clear x0 x1 x2 y0 y1 y2 hB b1 b2 c2
  obtain ⟨x0, x1, x2, y0, y1, y2, hB⟩ := two_both b12
  go_wp2_with fail
  refine (cS _).mono ?_
  rintro e w3 ⟨rfl, b3⟩
  have b13 := b12.trans (b3.mono b12.size)
  clear x0 x1 x2 y0 y1 y2 hB b12 b3 cS
  obtain ⟨x0, x1, x2, y0, y1, y2, hB⟩ := two_both b13
  have HB := Lib.hid hB
  clear b13 hB
  go_wp2_with fail
  go_quiet ((go_at_call 60; exact Calls.quiet_of_same ((cL _).mono fun e w' h => ⟨h.1, h.2.symm⟩)))
  cases q
  all_goals go_wp2
  all_goals go_ret2
  all_goals exact ⟨rfl, below_drewN HB.out _⟩

set_option maxRecDepth 100000 in
set_option maxHeartbeats 4000000 in
theorem cmp_text_f (a b : ByteArray) (s t n m : Nat) (ha : IsDec ⟨false, a, (s : Int)⟩ n s) (hb : IsDec ⟨false, b, (t : Int)⟩ m t) (hne : ¬ a.toList = b.toList) (w : World) :
    Calls Tryz.prog 26 #[.agg #[.bool false, .string a, .int .i64 (s : Int)], .agg #[.bool false, .string b, .int .i64 (t : Int)]] w fun e w' =>
      e = .returned (.tuple #[.int .i64 (cmpSpec false (n * 10 ^ (max s t - s)) false (m * 10 ^ (max s t - t))), .int .i64 0]) ∧ Below w.heap.size w w' := by
  have za : a.size ≤ 60 := by rw [show a = numS n from ha.ds, numS_size]; exact ha.len
  have zb : b.size ≤ 60 := by rw [show b = numS m from hb.ds, numS_size]; exact hb.len
  have c1 := fun W => check_val false a (s : Int) (by unfold maxLen; omega) W 0 (chkR_ok ⟨n, s, ha⟩)
  have c2 := fun W => check_val false b (t : Int) (by unfold maxLen; omega) W 0 (chkR_ok ⟨m, t, hb⟩)
  have hs := ha.le
  have ht := hb.le
  have cS := fun W => same_any false false a b s t (by omega) (by omega) (by omega) (by omega) W
  have ix := num_zeros ha.num (max s t - s)
  have iy := num_zeros hb.num (max s t - t)
  have zx : (a ++ zs (max s t - s)).size ≤ 3000 := by rw [app_size, zs_size]; omega
  have zy : (b ++ zs (max s t - t)).size ≤ 3000 := by rw [app_size, zs_size]; omega
  simp only at ix iy
  generalize n * 10 ^ (max s t - s) = x at ix ⊢
  generalize m * 10 ^ (max s t - t) = y at iy ⊢
  generalize a ++ zs (max s t - s) = X at *
  generalize b ++ zs (max s t - t) = Y at *
  have cL := fun W => less_num ix iy (by unfold maxLen; omega) (by unfold maxLen; omega) W
  unfold cmpSpec
  generalize decide (x < y) = q at cL ⊢
  clear ha hb za zb hs ht ix iy zx zy
  go_enter Tryz.func26, Tryz.ntmps26
  go_wp2_with fail
  refine (c1 _).mono ?_
  rintro e w1 ⟨rfl, b1⟩
  obtain ⟨x0, x1, x2, y0, y1, y2, hB⟩ := two_both b1
  clear c1
  go_wp2_with fail
  refine (c2 _).mono ?_
  rintro e w2 ⟨rfl, b2⟩
  have b12 := b1.trans (b2.mono b1.size)
  clear x0 x1 x2 y0 y1 y2 hB b1 b2 c2
  obtain ⟨x0, x1, x2, y0, y1, y2, hB⟩ := two_both b12
  go_wp2_with fail
  refine (cS _).mono ?_
  rintro e w3 ⟨rfl, b3⟩
  have b13 := b12.trans (b3.mono b12.size)
  clear x0 x1 x2 y0 y1 y2 hB b12 b3 cS
  obtain ⟨x0, x1, x2, y0, y1, y2, hB⟩ := two_both b13
  have HB := Lib.hid hB
  clear b13 hB
  go_wp2_with fail
  go_quiet ((go_at_call 60; exact Calls.quiet_of_same ((cL _).mono fun e w' h => ⟨h.1, h.2.symm⟩)))
  cases q
  all_goals go_wp2
  all_goals go_ret2
  all_goals exact ⟨rfl, below_drewN HB.out _⟩

set_option maxRecDepth 100000 in
set_option maxHeartbeats 4000000 in
theorem cmp_scale_f (a : ByteArray) (s t n m : Nat) (ha : IsDec ⟨false, a, (s : Int)⟩ n s) (hb : IsDec ⟨false, a, (t : Int)⟩ m t) (hne : ¬ (s : Int) = (t : Int)) (w : World) :
    Calls Tryz.prog 26 #[.agg #[.bool false, .string a, .int .i64 (s : Int)], .agg #[.bool false, .string a, .int .i64 (t : Int)]] w fun e w' =>
      e = .returned (.tuple #[.int .i64 (cmpSpec false (n * 10 ^ (max s t - s)) false (m * 10 ^ (max s t - t))), .int .i64 0]) ∧ Below w.heap.size w w' := by
  have za : a.size ≤ 60 := by rw [show a = numS n from ha.ds, numS_size]; exact ha.len
  have zb := za
  have c1 := fun W => check_val false a (s : Int) (by unfold maxLen; omega) W 0 (chkR_ok ⟨n, s, ha⟩)
  have c2 := fun W => check_val false a (t : Int) (by unfold maxLen; omega) W 0 (chkR_ok ⟨m, t, hb⟩)
  have hs := ha.le
  have ht := hb.le
  have cS := fun W => same_any false false a a s t (by omega) (by omega) (by omega) (by omega) W
  have ix := num_zeros ha.num (max s t - s)
  have iy := num_zeros hb.num (max s t - t)
  have zx : (a ++ zs (max s t - s)).size ≤ 3000 := by rw [app_size, zs_size]; omega
  have zy : (a ++ zs (max s t - t)).size ≤ 3000 := by rw [app_size, zs_size]; omega
  simp only at ix iy
  generalize n * 10 ^ (max s t - s) = x at ix ⊢
  generalize m * 10 ^ (max s t - t) = y at iy ⊢
  generalize a ++ zs (max s t - s) = X at *
  generalize a ++ zs (max s t - t) = Y at *
  have cL := fun W => less_num ix iy (by unfold maxLen; omega) (by unfold maxLen; omega) W
  unfold cmpSpec
  generalize decide (x < y) = q at cL ⊢
  clear ha hb za zb hs ht ix iy zx zy
  go_enter Tryz.func26, Tryz.ntmps26
  go_wp2_with fail
  refine (c1 _).mono ?_
  rintro e w1 ⟨rfl, b1⟩
  obtain ⟨x0, x1, x2, y0, y1, y2, hB⟩ := two_both b1
  clear c1
  go_wp2_with fail
  refine (c2 _).mono ?_
  rintro e w2 ⟨rfl, b2⟩
  have b12 := b1.trans (b2.mono b1.size)
  clear x0 x1 x2 y0 y1 y2 hB b1 b2 c2
  obtain ⟨x0, x1, x2, y0, y1, y2, hB⟩ := two_both b12
  go_wp2_with fail
  refine (cS _).mono ?_
  rintro e w3 ⟨rfl, b3⟩
  have b13 := b12.trans (b3.mono b12.size)
  clear x0 x1 x2 y0 y1 y2 hB b12 b3 cS
  obtain ⟨x0, x1, x2, y0, y1, y2, hB⟩ := two_both b13
  have HB := Lib.hid hB
  clear b13 hB
  go_wp2_with fail
  go_quiet ((go_at_call 60; exact Calls.quiet_of_same ((cL _).mono fun e w' h => ⟨h.1, h.2.symm⟩)))
  cases q
  all_goals go_wp2
  all_goals go_ret2
  all_goals exact ⟨rfl, below_drewN HB.out _⟩

end Go.Proofs.YtcpociafcjabkaaGreatDoor
