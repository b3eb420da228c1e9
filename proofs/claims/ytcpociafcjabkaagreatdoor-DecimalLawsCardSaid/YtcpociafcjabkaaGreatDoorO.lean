/- The reference's sum of two decimals. -/
import Derived.Deep.RegionWith
import Derived.Test.YtcpociafcjabkaaGreatDoorJ
set_option linter.unusedSimpArgs false
set_option linter.unusedVariables false
namespace Go.Proofs.YtcpociafcjabkaaGreatDoor
open Go.RowKit

def oppR (d : Dec) : Dec := ⟨!d.neg && !(d.ds.toList == [48]), d.ds, d.sc⟩
set_option maxRecDepth 100000 in
set_option maxHeartbeats 1000000 in
theorem opp_any (neg : Bool) (a : ByteArray) (s : Int) (w : World) :
    Calls Tryz.prog 55 #[.agg #[.bool neg, .string a, .int .i64 s]] w fun e w' => e = .returned (oppR ⟨neg, a, s⟩).v ∧ Below w.heap.size w w' := by
  unfold oppR Dec.v
  cases neg with
  | true =>
    go_enter Tryz.func55, Tryz.ntmps55
    go_wp2
    exact bodyPost_ret (v := .agg #[.bool false, .string a, .int .i64 s]) (by simp [results, Tryz.results55, go_sem]) rfl ⟨rfl, ((Below.refl _ _).alloc (Nat.le_refl _) _).alloc (by simp) _⟩
  | false =>
    obtain ⟨q, hq⟩ : ∃ q, (a.toList == [48]) = q := ⟨_, rfl⟩
    simp only [hq]
    go_enter Tryz.func55, Tryz.ntmps55
    go_wp2
    exact bodyPost_ret (v := .agg #[.bool (!q), .string a, .int .i64 s]) (by simp [results, Tryz.results55, go_sem]) rfl ⟨by simp, ((Below.refl _ _).alloc (Nat.le_refl _) _).alloc (by simp) _⟩

/-- What a region of the sum reads, and where it writes. -/
theorem sum_keep {n b : Nat} {v r0 r1 r2 : Value} {W0 W W' : World} (hb : b < n + 3)
    (h : W.cell? ⟨b, 0, none⟩ = some v ∧ W.cell? ⟨n + 1 + 1, 0, none⟩ = some r0 ∧ W.cell? ⟨n + 1 + 1, 1, none⟩ = some r1 ∧ W.cell? ⟨n + 1 + 1, 2, none⟩ = some r2 ∧ W.frozen? ⟨n + 1 + 1, 0, none⟩ = false ∧ W.frozen? ⟨n + 1 + 1, 1, none⟩ = false ∧ W.frozen? ⟨n + 1 + 1, 2, none⟩ = false ∧ Below n W0 W ∧ n + 3 ≤ W.heap.size)
    (hB : Below W.heap.size W W') :
    W'.cell? ⟨b, 0, none⟩ = some v ∧ W'.cell? ⟨n + 1 + 1, 0, none⟩ = some r0 ∧ W'.cell? ⟨n + 1 + 1, 1, none⟩ = some r1 ∧ W'.cell? ⟨n + 1 + 1, 2, none⟩ = some r2 ∧ W'.frozen? ⟨n + 1 + 1, 0, none⟩ = false ∧ W'.frozen? ⟨n + 1 + 1, 1, none⟩ = false ∧ W'.frozen? ⟨n + 1 + 1, 2, none⟩ = false ∧ Below n W0 W' ∧ n + 3 ≤ W'.heap.size := by
  obtain ⟨h1, h2, h3, h4, h5, h6, h7, h8, hW⟩ := h
  refine ⟨(hB.cell (p := ⟨b, 0, none⟩) (by show b < _; omega)).trans h1, (hB.cell (p := ⟨n + 1 + 1, 0, none⟩) (by show n + 1 + 1 < _; omega)).trans h2, (hB.cell (p := ⟨n + 1 + 1, 1, none⟩) (by show n + 1 + 1 < _; omega)).trans h3, (hB.cell (p := ⟨n + 1 + 1, 2, none⟩) (by show n + 1 + 1 < _; omega)).trans h4,
    (hB.frozen (p := ⟨n + 1 + 1, 0, none⟩) (by show n + 1 + 1 < _; omega)).trans h5, (hB.frozen (p := ⟨n + 1 + 1, 1, none⟩) (by show n + 1 + 1 < _; omega)).trans h6, (hB.frozen (p := ⟨n + 1 + 1, 2, none⟩) (by show n + 1 + 1 < _; omega)).trans h7, h8.trans (hB.mono (by omega)), Nat.le_trans hW hB.size⟩
theorem below_drew1 (W : World) : Below W.heap.size W W.drew := ⟨rfl, rfl, rfl, Nat.le_refl _, fun _ _ => rfl⟩
theorem three_at (w : World) (a0 a1 a2 b0 b1 b2 c0 c1 c2 : Value) (T : TypeId) (W : World) (hB : Below (((w.alloc (.cells #[a0, a1, a2] T)).alloc (.cells #[b0, b1, b2] T)).alloc (.cells #[c0, c1, c2] T)).heap.size (((w.alloc (.cells #[a0, a1, a2] T)).alloc (.cells #[b0, b1, b2] T)).alloc (.cells #[c0, c1, c2] T)) W) :
    (W.cell? ⟨w.heap.size, 0, none⟩ = some a0 ∧ W.cell? ⟨w.heap.size + 1, 0, none⟩ = some b0) ∧ W.cell? ⟨w.heap.size + 1 + 1, 0, none⟩ = some c0 ∧ W.cell? ⟨w.heap.size + 1 + 1, 1, none⟩ = some c1 ∧ W.cell? ⟨w.heap.size + 1 + 1, 2, none⟩ = some c2 ∧ W.frozen? ⟨w.heap.size + 1 + 1, 0, none⟩ = false ∧ W.frozen? ⟨w.heap.size + 1 + 1, 1, none⟩ = false ∧ W.frozen? ⟨w.heap.size + 1 + 1, 2, none⟩ = false ∧ Below w.heap.size w W ∧ w.heap.size + 3 ≤ W.heap.size := by
  have hz : (((w.alloc (.cells #[a0, a1, a2] T)).alloc (.cells #[b0, b1, b2] T)).alloc (.cells #[c0, c1, c2] T)).heap.size = w.heap.size + 3 := by simp
  have z1 : (w.alloc (.cells #[a0, a1, a2] T)).heap.size = w.heap.size + 1 := by simp
  have z2 : ((w.alloc (.cells #[a0, a1, a2] T)).alloc (.cells #[b0, b1, b2] T)).heap.size = w.heap.size + 1 + 1 := by simp
  refine ⟨⟨?_, ?_⟩, ?_, ?_, ?_, ?_, ?_, ?_, ?_, ?_⟩
  · rw [hB.cell (p := ⟨w.heap.size, 0, none⟩) (by show w.heap.size < _; omega), World.cell?_alloc_past _ _ _ (by omega), World.cell?_alloc_past _ _ _ (by omega), World.cell?_alloc_at _ _ _ _ rfl]
    rfl
  · rw [hB.cell (p := ⟨w.heap.size + 1, 0, none⟩) (by show w.heap.size + 1 < _; omega), World.cell?_alloc_past _ _ _ (by omega), World.cell?_alloc_at _ _ _ _ z1.symm]
    rfl
  · rw [hB.cell (p := ⟨w.heap.size + 1 + 1, 0, none⟩) (by show w.heap.size + 1 + 1 < _; omega), World.cell?_alloc_at _ _ _ _ z2.symm]
    rfl
  · rw [hB.cell (p := ⟨w.heap.size + 1 + 1, 1, none⟩) (by show w.heap.size + 1 + 1 < _; omega), World.cell?_alloc_at _ _ _ _ z2.symm]
    rfl
  · rw [hB.cell (p := ⟨w.heap.size + 1 + 1, 2, none⟩) (by show w.heap.size + 1 + 1 < _; omega), World.cell?_alloc_at _ _ _ _ z2.symm]
    rfl
  · rw [hB.frozen (p := ⟨w.heap.size + 1 + 1, 0, none⟩) (by show w.heap.size + 1 + 1 < _; omega), World.frozen?_alloc_at _ _ _ _ z2.symm]
  · rw [hB.frozen (p := ⟨w.heap.size + 1 + 1, 1, none⟩) (by show w.heap.size + 1 + 1 < _; omega), World.frozen?_alloc_at _ _ _ _ z2.symm]
  · rw [hB.frozen (p := ⟨w.heap.size + 1 + 1, 2, none⟩) (by show w.heap.size + 1 + 1 < _; omega), World.frozen?_alloc_at _ _ _ _ z2.symm]
  · exact ((((Below.refl _ _).alloc (Nat.le_refl _) _).alloc (by simp) _).alloc (by simp; omega) _).trans (hB.mono (by omega))
  · have := hB.size
    omega

set_option maxRecDepth 100000 in
set_option maxHeartbeats 4000000 in
set_option maxRecDepth 100000 in
/-- Equal signs. -/
theorem sum_eq (neg : Bool) (a b : ByteArray) (s t n m : Nat) (ha : IsNum a n) (hb : IsNum b m) (za : a.size ≤ 1000) (zb : b.size ≤ 1000) (hs : s ≤ 1000) (ht : t ≤ 1000) (w : World) :
    Calls Tryz.prog 53 #[.agg #[.bool neg, .string a, .int .i64 (s : Int)], .agg #[.bool neg, .string b, .int .i64 (t : Int)]] w fun e w' =>
      e = .returned (decR (mkDec neg (n * 10 ^ (max s t - s) + m * 10 ^ (max s t - t)) (max s t))) ∧ Below w.heap.size w w' := by
  have cS := fun W => same_any neg neg a b s t za zb hs ht W
  have hN : max s t ≤ 1000 := by omega
  have ix := num_zeros ha (max s t - s)
  have iy := num_zeros hb (max s t - t)
  have zx : (a ++ zs (max s t - s)).size ≤ 3000 := by rw [app_size, zs_size]; omega
  have zy : (b ++ zs (max s t - t)).size ≤ 3000 := by rw [app_size, zs_size]; omega
  generalize n * 10 ^ (max s t - s) = x at ix ⊢
  generalize m * 10 ^ (max s t - t) = y at iy ⊢
  generalize a ++ zs (max s t - s) = X at *
  generalize b ++ zs (max s t - t) = Y at *
  generalize max s t = N at *
  have cP := fun W => plus_num ix iy (by omega) (by omega) W
  have hsz : (numS (x + y)).size ≤ 50000 := by
    have h1 := sum_lt ix iy 3001 (by omega) (by omega)
    exact Nat.le_trans (numS_len h1 (by omega)) (by omega)
  have cM := fun W => made_num neg (numS (x + y)) (x + y) N (IsNum.num _) hsz (by omega) W
  unfold decR at cM ⊢
  generalize (mkDec neg (x + y) N).getD decNil = d at cM ⊢
  generalize (if (mkDec neg (x + y) N).isSome then (0 : Int) else 7) = q at cM ⊢
  generalize numS (x + y) = Z at cP cM
  obtain ⟨dn, dd, dsc⟩ := d
  simp only [Dec.v] at cM ⊢
  clear hsz ix iy zx zy ha hb za zb hs ht
  go_enter Tryz.func53, Tryz.ntmps53
  go_wp2_with fail
  refine (cS _).mono ?_
  rintro e w1 ⟨rfl, b1⟩
  obtain ⟨⟨k0, k1⟩, kr⟩ := three_at w _ _ _ _ _ _ _ _ _ _ w1 b1
  have KS := Lib.hid (And.intro k0 kr)
  clear b1 cS kr
  go_wp2_with fail
  clear k1
  go_region_with (first
    | (go_at_call 67; refine (cP _).mono ?_; rintro e w2 ⟨rfl, b2⟩; have ks2 := sum_keep (by omega) KS.out ((below_drew1 _).trans b2); have KS2 := Lib.hid ks2; obtain ⟨p0, _⟩ := ks2)
    | (go_at_call 43; refine (cM _).mono ?_; rintro e w3 ⟨rfl, b3⟩; obtain ⟨_, q2, q3, q4, q5, q6, q7, q8, q9⟩ := sum_keep (by omega) KS2.out b3; have Q8 := Lib.hid q8))
  all_goals go_wp2
  all_goals exact bodyPost_ret (v := .tuple #[.agg #[.bool dn, .string dd, .int .i64 dsc], .int .i64 q]) (by simp [results, Tryz.results53, go_sem, q2, q3, q4]) rfl ⟨rfl, ((Q8.out.setCell (by simp; omega) _).setCell (by simp; omega) _).setCell (by simp; omega) _⟩
end Go.Proofs.YtcpociafcjabkaaGreatDoor

/- The reference's sum of two decimals with other signs. -/
namespace Go.Proofs.YtcpociafcjabkaaGreatDoor
open Go.RowKit

set_option maxRecDepth 100000 in
set_option maxHeartbeats 4000000 in
set_option maxRecDepth 100000 in
/-- Other signs, and the first number is less. -/
theorem sum_less (neg1 neg2 : Bool) (hne : (neg1 == neg2) = false) (a b : ByteArray) (s t n m : Nat) (ha : IsNum a n) (hb : IsNum b m) (za : a.size ≤ 1000) (zb : b.size ≤ 1000) (hs : s ≤ 1000) (ht : t ≤ 1000) (hxy : n * 10 ^ (max s t - s) < m * 10 ^ (max s t - t)) (w : World) :
    Calls Tryz.prog 53 #[.agg #[.bool neg1, .string a, .int .i64 (s : Int)], .agg #[.bool neg2, .string b, .int .i64 (t : Int)]] w fun e w' =>
      e = .returned (decR (mkDec neg2 (m * 10 ^ (max s t - t) - n * 10 ^ (max s t - s)) (max s t))) ∧ Below w.heap.size w w' := by
  have cS := fun W => same_any neg1 neg2 a b s t za zb hs ht W
  have hN : max s t ≤ 1000 := by omega
  have ix := num_zeros ha (max s t - s)
  have iy := num_zeros hb (max s t - t)
  have zx : (a ++ zs (max s t - s)).size ≤ 3000 := by rw [app_size, zs_size]; omega
  have zy : (b ++ zs (max s t - t)).size ≤ 3000 := by rw [app_size, zs_size]; omega
  generalize n * 10 ^ (max s t - s) = x at ix hxy ⊢
  generalize m * 10 ^ (max s t - t) = y at iy hxy ⊢
  generalize a ++ zs (max s t - s) = X at *
  generalize b ++ zs (max s t - t) = Y at *
  generalize max s t = N at *
  have cL := fun W => less_num ix iy (by unfold maxLen; omega) (by unfold maxLen; omega) W
  rw [decide_eq_true hxy] at cL
  have cP := fun W => minus_num iy ix (by omega) (by omega) (by omega) W
  have hsz : (numS (y - x)).size ≤ 50000 := by
    have h1 : y - x < 10 ^ 3001 := Nat.lt_of_le_of_lt (Nat.sub_le _ _) (diff_lt iy 3001 (by omega))
    exact Nat.le_trans (numS_len h1 (by omega)) (by omega)
  have cM := fun W => made_num neg2 (numS (y - x)) (y - x) N (IsNum.num _) hsz (by omega) W
  unfold decR at cM ⊢
  generalize (mkDec neg2 (y - x) N).getD decNil = d at cM ⊢
  generalize (if (mkDec neg2 (y - x) N).isSome then (0 : Int) else 7) = q at cM ⊢
  generalize numS (y - x) = Z at cP cM
  obtain ⟨dn, dd, dsc⟩ := d
  simp only [Dec.v] at cM ⊢
  clear hsz ix iy zx zy ha hb za zb hs ht hxy
  go_enter Tryz.func53, Tryz.ntmps53
  go_wp2_with fail
  refine (cS _).mono ?_
  rintro e w1 ⟨rfl, b1⟩
  obtain ⟨⟨k0, k1⟩, kr⟩ := three_at w _ _ _ _ _ _ _ _ _ _ w1 b1
  have KS := Lib.hid (And.intro k1 kr)
  clear b1 cS kr
  go_wp2_with fail
  refine (cL _).mono ?_
  rintro e w1b ⟨rfl, rfl⟩
  clear cL
  go_wp2_with fail
  clear k0
  go_region_with (first
    | (go_at_call 82; refine (cP _).mono ?_; rintro e w2 ⟨rfl, b2⟩; have ks2 := sum_keep (by omega) KS.out ((below_drew1 _).trans b2); have KS2 := Lib.hid ks2; obtain ⟨p0, _⟩ := ks2)
    | (go_at_call 43; refine (cM _).mono ?_; rintro e w3 ⟨rfl, b3⟩; obtain ⟨_, q2, q3, q4, q5, q6, q7, q8, q9⟩ := sum_keep (by omega) KS2.out b3; have Q8 := Lib.hid q8))
  all_goals go_wp2
  all_goals exact bodyPost_ret (v := .tuple #[.agg #[.bool dn, .string dd, .int .i64 dsc], .int .i64 q]) (by simp [results, Tryz.results53, go_sem, q2, q3, q4]) rfl ⟨rfl, ((Q8.out.setCell (by simp; omega) _).setCell (by simp; omega) _).setCell (by simp; omega) _⟩

set_option maxRecDepth 100000 in
set_option maxHeartbeats 4000000 in
set_option maxRecDepth 100000 in
/-- Other signs, and the first number is not less. -/
theorem sum_more (neg1 neg2 : Bool) (hne : (neg1 == neg2) = false) (a b : ByteArray) (s t n m : Nat) (ha : IsNum a n) (hb : IsNum b m) (za : a.size ≤ 1000) (zb : b.size ≤ 1000) (hs : s ≤ 1000) (ht : t ≤ 1000) (hxy : ¬ n * 10 ^ (max s t - s) < m * 10 ^ (max s t - t)) (w : World) :
    Calls Tryz.prog 53 #[.agg #[.bool neg1, .string a, .int .i64 (s : Int)], .agg #[.bool neg2, .string b, .int .i64 (t : Int)]] w fun e w' =>
      e = .returned (decR (mkDec neg1 (n * 10 ^ (max s t - s) - m * 10 ^ (max s t - t)) (max s t))) ∧ Below w.heap.size w w' := by
  have cS := fun W => same_any neg1 neg2 a b s t za zb hs ht W
  have hN : max s t ≤ 1000 := by omega
  have ix := num_zeros ha (max s t - s)
  have iy := num_zeros hb (max s t - t)
  have zx : (a ++ zs (max s t - s)).size ≤ 3000 := by rw [app_size, zs_size]; omega
  have zy : (b ++ zs (max s t - t)).size ≤ 3000 := by rw [app_size, zs_size]; omega
  generalize n * 10 ^ (max s t - s) = x at ix hxy ⊢
  generalize m * 10 ^ (max s t - t) = y at iy hxy ⊢
  generalize a ++ zs (max s t - s) = X at *
  generalize b ++ zs (max s t - t) = Y at *
  generalize max s t = N at *
  have cL := fun W => less_num ix iy (by unfold maxLen; omega) (by unfold maxLen; omega) W
  rw [decide_eq_false hxy] at cL
  have cP := fun W => minus_num ix iy (by omega) (by omega) (by omega) W
  have hsz : (numS (x - y)).size ≤ 50000 := by
    have h1 : x - y < 10 ^ 3001 := Nat.lt_of_le_of_lt (Nat.sub_le _ _) (diff_lt ix 3001 (by omega))
    exact Nat.le_trans (numS_len h1 (by omega)) (by omega)
  have cM := fun W => made_num neg1 (numS (x - y)) (x - y) N (IsNum.num _) hsz (by omega) W
  unfold decR at cM ⊢
  generalize (mkDec neg1 (x - y) N).getD decNil = d at cM ⊢
  generalize (if (mkDec neg1 (x - y) N).isSome then (0 : Int) else 7) = q at cM ⊢
  generalize numS (x - y) = Z at cP cM
  obtain ⟨dn, dd, dsc⟩ := d
  simp only [Dec.v] at cM ⊢
  clear hsz ix iy zx zy ha hb za zb hs ht hxy
  go_enter Tryz.func53, Tryz.ntmps53
  go_wp2_with fail
  refine (cS _).mono ?_
  rintro e w1 ⟨rfl, b1⟩
  obtain ⟨⟨k0, k1⟩, kr⟩ := three_at w _ _ _ _ _ _ _ _ _ _ w1 b1
  have KS := Lib.hid (And.intro k0 kr)
  clear b1 cS kr
  go_wp2_with fail
  refine (cL _).mono ?_
  rintro e w1b ⟨rfl, rfl⟩
  clear cL
  go_wp2_with fail
  clear k1
  go_region_with (first
    | (go_at_call 82; refine (cP _).mono ?_; rintro e w2 ⟨rfl, b2⟩; have ks2 := sum_keep (by omega) KS.out ((below_drew1 _).trans b2); have KS2 := Lib.hid ks2; obtain ⟨p0, _⟩ := ks2)
    | (go_at_call 43; refine (cM _).mono ?_; rintro e w3 ⟨rfl, b3⟩; obtain ⟨_, q2, q3, q4, q5, q6, q7, q8, q9⟩ := sum_keep (by omega) KS2.out b3; have Q8 := Lib.hid q8))
  all_goals go_wp2
  all_goals exact bodyPost_ret (v := .tuple #[.agg #[.bool dn, .string dd, .int .i64 dsc], .int .i64 q]) (by simp [results, Tryz.results53, go_sem, q2, q3, q4]) rfl ⟨rfl, ((Q8.out.setCell (by simp; omega) _).setCell (by simp; omega) _).setCell (by simp; omega) _⟩
/-- The sum of two decimals. -/
def sumSpec (neg1 : Bool) (n s : Nat) (neg2 : Bool) (m t : Nat) : Option Dec :=
  if (neg1 == neg2) = true then mkDec neg1 (n * 10 ^ (max s t - s) + m * 10 ^ (max s t - t)) (max s t)
  else if n * 10 ^ (max s t - s) < m * 10 ^ (max s t - t) then mkDec neg2 (m * 10 ^ (max s t - t) - n * 10 ^ (max s t - s)) (max s t)
  else mkDec neg1 (n * 10 ^ (max s t - s) - m * 10 ^ (max s t - t)) (max s t)
theorem sum_any (neg1 neg2 : Bool) (a b : ByteArray) (s t n m : Nat) (ha : IsNum a n) (hb : IsNum b m) (za : a.size ≤ 1000) (zb : b.size ≤ 1000) (hs : s ≤ 1000) (ht : t ≤ 1000) (w : World) :
    Calls Tryz.prog 53 #[.agg #[.bool neg1, .string a, .int .i64 (s : Int)], .agg #[.bool neg2, .string b, .int .i64 (t : Int)]] w fun e w' =>
      e = .returned (decR (sumSpec neg1 n s neg2 m t)) ∧ Below w.heap.size w w' := by
  unfold sumSpec
  cases hne : (neg1 == neg2) with
  | true =>
    have e : neg1 = neg2 := by simpa using hne
    subst e
    rw [if_pos rfl]
    exact sum_eq neg1 a b s t n m ha hb za zb hs ht w
  | false =>
    rw [if_neg (by decide)]
    by_cases hxy : n * 10 ^ (max s t - s) < m * 10 ^ (max s t - t)
    · rw [if_pos hxy]
      exact sum_less neg1 neg2 hne a b s t n m ha hb za zb hs ht hxy w
    · rw [if_neg hxy]
      exact sum_more neg1 neg2 hne a b s t n m ha hb za zb hs ht hxy w
end Go.Proofs.YtcpociafcjabkaaGreatDoor

/- The reference's Add. -/
namespace Go.Proofs.YtcpociafcjabkaaGreatDoor
open Go.RowKit

/-- Three blocks that the call has made, as they were. -/
theorem three_all {w W : World} {a0 a1 a2 b0 b1 b2 c0 c1 c2 : Value} {T : TypeId} (hB : Below (((w.alloc (.cells #[a0, a1, a2] T)).alloc (.cells #[b0, b1, b2] T)).alloc (.cells #[c0, c1, c2] T)).heap.size (((w.alloc (.cells #[a0, a1, a2] T)).alloc (.cells #[b0, b1, b2] T)).alloc (.cells #[c0, c1, c2] T)) W) :
    W.cell? ⟨w.heap.size, 0, none⟩ = some a0 ∧ W.cell? ⟨w.heap.size, 1, none⟩ = some a1 ∧ W.cell? ⟨w.heap.size, 2, none⟩ = some a2 ∧ W.cell? ⟨w.heap.size + 1, 0, none⟩ = some b0 ∧ W.cell? ⟨w.heap.size + 1, 1, none⟩ = some b1 ∧ W.cell? ⟨w.heap.size + 1, 2, none⟩ = some b2 ∧ W.cell? ⟨w.heap.size + 1 + 1, 0, none⟩ = some c0 ∧ W.cell? ⟨w.heap.size + 1 + 1, 1, none⟩ = some c1 ∧ W.cell? ⟨w.heap.size + 1 + 1, 2, none⟩ = some c2 ∧ W.frozen? ⟨w.heap.size + 1 + 1, 0, none⟩ = false ∧ W.frozen? ⟨w.heap.size + 1 + 1, 1, none⟩ = false ∧ W.frozen? ⟨w.heap.size + 1 + 1, 2, none⟩ = false ∧ Below w.heap.size w W ∧ w.heap.size + 3 ≤ W.heap.size := by
  have hz : (((w.alloc (.cells #[a0, a1, a2] T)).alloc (.cells #[b0, b1, b2] T)).alloc (.cells #[c0, c1, c2] T)).heap.size = w.heap.size + 3 := by simp
  have z1 : (w.alloc (.cells #[a0, a1, a2] T)).heap.size = w.heap.size + 1 := by simp
  have z2 : ((w.alloc (.cells #[a0, a1, a2] T)).alloc (.cells #[b0, b1, b2] T)).heap.size = w.heap.size + 1 + 1 := by simp
  refine ⟨?_, ?_, ?_, ?_, ?_, ?_, ?_, ?_, ?_, ?_, ?_, ?_, ?_, ?_⟩
  · rw [hB.cell (p := ⟨w.heap.size, 0, none⟩) (by show w.heap.size < _; omega), World.cell?_alloc_past _ _ _ (by omega), World.cell?_alloc_past _ _ _ (by omega), World.cell?_alloc_at _ _ _ _ rfl]
    rfl
  · rw [hB.cell (p := ⟨w.heap.size, 1, none⟩) (by show w.heap.size < _; omega), World.cell?_alloc_past _ _ _ (by omega), World.cell?_alloc_past _ _ _ (by omega), World.cell?_alloc_at _ _ _ _ rfl]
    rfl
  · rw [hB.cell (p := ⟨w.heap.size, 2, none⟩) (by show w.heap.size < _; omega), World.cell?_alloc_past _ _ _ (by omega), World.cell?_alloc_past _ _ _ (by omega), World.cell?_alloc_at _ _ _ _ rfl]
    rfl
  · rw [hB.cell (p := ⟨w.heap.size + 1, 0, none⟩) (by show w.heap.size + 1 < _; omega), World.cell?_alloc_past _ _ _ (by omega), World.cell?_alloc_at _ _ _ _ z1.symm]
    rfl
  · rw [hB.cell (p := ⟨w.heap.size + 1, 1, none⟩) (by show w.heap.size + 1 < _; omega), World.cell?_alloc_past _ _ _ (by omega), World.cell?_alloc_at _ _ _ _ z1.symm]
    rfl
  · rw [hB.cell (p := ⟨w.heap.size + 1, 2, none⟩) (by show w.heap.size + 1 < _; omega), World.cell?_alloc_past _ _ _ (by omega), World.cell?_alloc_at _ _ _ _ z1.symm]
    rfl
  · rw [hB.cell (p := ⟨w.heap.size + 1 + 1, 0, none⟩) (by show w.heap.size + 1 + 1 < _; omega), World.cell?_alloc_at _ _ _ _ z2.symm]
    rfl
  · rw [hB.cell (p := ⟨w.heap.size + 1 + 1, 1, none⟩) (by show w.heap.size + 1 + 1 < _; omega), World.cell?_alloc_at _ _ _ _ z2.symm]
    rfl
  · rw [hB.cell (p := ⟨w.heap.size + 1 + 1, 2, none⟩) (by show w.heap.size + 1 + 1 < _; omega), World.cell?_alloc_at _ _ _ _ z2.symm]
    rfl
  · rw [hB.frozen (p := ⟨w.heap.size + 1 + 1, 0, none⟩) (by show w.heap.size + 1 + 1 < _; omega), World.frozen?_alloc_at _ _ _ _ z2.symm]
  · rw [hB.frozen (p := ⟨w.heap.size + 1 + 1, 1, none⟩) (by show w.heap.size + 1 + 1 < _; omega), World.frozen?_alloc_at _ _ _ _ z2.symm]
  · rw [hB.frozen (p := ⟨w.heap.size + 1 + 1, 2, none⟩) (by show w.heap.size + 1 + 1 < _; omega), World.frozen?_alloc_at _ _ _ _ z2.symm]
  · exact ((((Below.refl _ _).alloc (Nat.le_refl _) _).alloc (by simp) _).alloc (by simp; omega) _).trans (hB.mono (by omega))
  · have := hB.size
    omega

theorem check_val (neg : Bool) (ds : ByteArray) (sc : Int) (hz : ds.size ≤ maxLen) (w : World) (r : Int) (h : chkR ⟨neg, ds, sc⟩ = r) :
    Calls Tryz.prog 14 #[.agg #[.bool neg, .string ds, .int .i64 sc]] w fun e w' => e = .returned (.int .i64 r) ∧ Below w.heap.size w w' := by
  rw [← h]
  exact check_any neg ds sc hz w
/-- The answer at an argument that is none. -/
def argR : Value := .tuple #[decNil.v, .int .i64 2]

set_option maxRecDepth 100000 in
set_option maxHeartbeats 4000000 in
theorem add_ok (neg1 neg2 : Bool) (a b : ByteArray) (s t n m : Nat) (ha : IsDec ⟨neg1, a, (s : Int)⟩ n s) (hb : IsDec ⟨neg2, b, (t : Int)⟩ m t) (w : World) :
    Calls Tryz.prog 18 #[.agg #[.bool neg1, .string a, .int .i64 (s : Int)], .agg #[.bool neg2, .string b, .int .i64 (t : Int)]] w fun e w' =>
      e = .returned (decR (sumSpec neg1 n s neg2 m t)) ∧ Below w.heap.size w w' := by
  have za : a.size ≤ 60 := by rw [show a = numS n from ha.ds, numS_size]; exact ha.len
  have zb : b.size ≤ 60 := by rw [show b = numS m from hb.ds, numS_size]; exact hb.len
  have c1 := fun W => check_val neg1 a (s : Int) (by unfold maxLen; omega) W 0 (chkR_ok ⟨n, s, ha⟩)
  have c2 := fun W => check_val neg2 b (t : Int) (by unfold maxLen; omega) W 0 (chkR_ok ⟨m, t, hb⟩)
  have c3 := fun W => sum_any neg1 neg2 a b s t n m ha.num hb.num (by omega) (by omega) (by have := ha.le; omega) (by have := hb.le; omega) W
  unfold decR at c3 ⊢
  generalize (sumSpec neg1 n s neg2 m t).getD decNil = d at c3 ⊢
  generalize (if (sumSpec neg1 n s neg2 m t).isSome then (0 : Int) else 7) = q at c3 ⊢
  obtain ⟨dn, dd, dsc⟩ := d
  simp only [Dec.v] at c3 ⊢
  clear ha hb za zb
  go_enter Tryz.func18, Tryz.ntmps18
  go_wp2_with fail
  refine (c1 _).mono ?_
  rintro e w1 ⟨rfl, b1⟩
  obtain ⟨x0, x1, x2, y0, y1, y2, r0, r1, r2, f0, f1, f2, hB, hz⟩ := three_all b1
  clear c1
  go_wp2_with fail
  refine (c2 _).mono ?_
  rintro e w2 ⟨rfl, b2⟩
  have b12 := b1.trans (b2.mono b1.size)
  clear x0 x1 x2 y0 y1 y2 r0 r1 r2 f0 f1 f2 hB hz b1 b2 c2
  obtain ⟨x0, x1, x2, y0, y1, y2, r0, r1, r2, f0, f1, f2, hB, hz⟩ := three_all b12
  go_wp2_with fail
  refine (c3 _).mono ?_
  rintro e w3 ⟨rfl, b3⟩
  have b13 := b12.trans (b3.mono b12.size)
  clear x0 x1 x2 y0 y1 y2 r0 r1 r2 f0 f1 f2 hB hz b12 b3 c3
  obtain ⟨x0, x1, x2, y0, y1, y2, r0, r1, r2, f0, f1, f2, hB, hz⟩ := three_all b13
  clear x0 x1 x2 y0 y1 y2 b13
  have HB := Lib.hid hB
  go_wp2
  exact bodyPost_ret (v := .tuple #[.agg #[.bool dn, .string dd, .int .i64 dsc], .int .i64 q]) (by simp [results, Tryz.results18, go_sem, r0, r1, r2]) rfl ⟨rfl, ((HB.out.setCell (by simp; omega) _).setCell (by simp; omega) _).setCell (by simp; omega) _⟩
end Go.Proofs.YtcpociafcjabkaaGreatDoor

/- The reference's Add, Sub, Mul at arguments that are none; its Neg. -/
namespace Go.Proofs.YtcpociafcjabkaaGreatDoor
open Go.RowKit

set_option maxRecDepth 100000 in
set_option maxHeartbeats 2000000 in
theorem add_bad1 (neg1 neg2 : Bool) (a b : ByteArray) (s t : Int) (za : a.size ≤ maxLen) (h : ¬ Valid ⟨neg1, a, s⟩) (w : World) :
    Calls Tryz.prog 18 #[.agg #[.bool neg1, .string a, .int .i64 s], .agg #[.bool neg2, .string b, .int .i64 t]] w fun e w' => e = .returned argR ∧ Below w.heap.size w w' := by
  have c1 := fun W => check_val neg1 a s za W 2 (chkR_bad h)
  unfold argR Dec.v decNil
  clear h za
  go_enter Tryz.func18, Tryz.ntmps18
  go_wp2_with fail
  refine (c1 _).mono ?_
  rintro e w1 ⟨rfl, b1⟩
  obtain ⟨_, _, _, _, _, _, r0, r1, r2, f0, f1, f2, hB, hz⟩ := three_all b1
  have HB := Lib.hid hB
  go_wp2
  exact bodyPost_ret (v := .tuple #[.agg #[.bool false, .string ⟨#[]⟩, .int .i64 0], .int .i64 2]) (by simp [results, Tryz.results18, go_sem, r0, r1, r2]) rfl ⟨rfl, ((HB.out.setCell (by simp; omega) _).setCell (by simp; omega) _).setCell (by simp; omega) _⟩

set_option maxRecDepth 100000 in
set_option maxHeartbeats 2000000 in
theorem add_bad2 (neg1 neg2 : Bool) (a b : ByteArray) (s t : Int) (za : a.size ≤ maxLen) (zb : b.size ≤ maxLen) (h1 : Valid ⟨neg1, a, s⟩) (h : ¬ Valid ⟨neg2, b, t⟩) (w : World) :
    Calls Tryz.prog 18 #[.agg #[.bool neg1, .string a, .int .i64 s], .agg #[.bool neg2, .string b, .int .i64 t]] w fun e w' => e = .returned argR ∧ Below w.heap.size w w' := by
  have c1 := fun W => check_val neg1 a s za W 0 (chkR_ok h1)
  have c2 := fun W => check_val neg2 b t zb W 2 (chkR_bad h)
  unfold argR Dec.v decNil
  clear h h1 za zb
  go_enter Tryz.func18, Tryz.ntmps18
  go_wp2_with fail
  refine (c1 _).mono ?_
  rintro e w1 ⟨rfl, b1⟩
  obtain ⟨x0, x1, x2, y0, y1, y2, r0, r1, r2, f0, f1, f2, hB, hz⟩ := three_all b1
  clear c1
  go_wp2_with fail
  refine (c2 _).mono ?_
  rintro e w2 ⟨rfl, b2⟩
  have b12 := b1.trans (b2.mono b1.size)
  clear x0 x1 x2 y0 y1 y2 r0 r1 r2 f0 f1 f2 hB hz b1 b2 c2
  obtain ⟨_, _, _, _, _, _, r0, r1, r2, f0, f1, f2, hB, hz⟩ := three_all b12
  have HB := Lib.hid hB
  go_wp2
  exact bodyPost_ret (v := .tuple #[.agg #[.bool false, .string ⟨#[]⟩, .int .i64 0], .int .i64 2]) (by simp [results, Tryz.results18, go_sem, r0, r1, r2]) rfl ⟨rfl, ((HB.out.setCell (by simp; omega) _).setCell (by simp; omega) _).setCell (by simp; omega) _⟩

set_option maxRecDepth 100000 in
set_option maxHeartbeats 2000000 in
theorem sub_bad1 (neg1 neg2 : Bool) (a b : ByteArray) (s t : Int) (za : a.size ≤ maxLen) (h : ¬ Valid ⟨neg1, a, s⟩) (w : World) :
    Calls Tryz.prog 20 #[.agg #[.bool neg1, .string a, .int .i64 s], .agg #[.bool neg2, .string b, .int .i64 t]] w fun e w' => e = .returned argR ∧ Below w.heap.size w w' := by
  have c1 := fun W => check_val neg1 a s za W 2 (chkR_bad h)
  unfold argR Dec.v decNil
  clear h za
  go_enter Tryz.func20, Tryz.ntmps20
  go_wp2_with fail
  refine (c1 _).mono ?_
  rintro e w1 ⟨rfl, b1⟩
  obtain ⟨_, _, _, _, _, _, r0, r1, r2, f0, f1, f2, hB, hz⟩ := three_all b1
  have HB := Lib.hid hB
  go_wp2
  exact bodyPost_ret (v := .tuple #[.agg #[.bool false, .string ⟨#[]⟩, .int .i64 0], .int .i64 2]) (by simp [results, Tryz.results20, go_sem, r0, r1, r2]) rfl ⟨rfl, ((HB.out.setCell (by simp; omega) _).setCell (by simp; omega) _).setCell (by simp; omega) _⟩

set_option maxRecDepth 100000 in
set_option maxHeartbeats 2000000 in
theorem sub_bad2 (neg1 neg2 : Bool) (a b : ByteArray) (s t : Int) (za : a.size ≤ maxLen) (zb : b.size ≤ maxLen) (h1 : Valid ⟨neg1, a, s⟩) (h : ¬ Valid ⟨neg2, b, t⟩) (w : World) :
    Calls Tryz.prog 20 #[.agg #[.bool neg1, .string a, .int .i64 s], .agg #[.bool neg2, .string b, .int .i64 t]] w fun e w' => e = .returned argR ∧ Below w.heap.size w w' := by
  have c1 := fun W => check_val neg1 a s za W 0 (chkR_ok h1)
  have c2 := fun W => check_val neg2 b t zb W 2 (chkR_bad h)
  unfold argR Dec.v decNil
  clear h h1 za zb
  go_enter Tryz.func20, Tryz.ntmps20
  go_wp2_with fail
  refine (c1 _).mono ?_
  rintro e w1 ⟨rfl, b1⟩
  obtain ⟨x0, x1, x2, y0, y1, y2, r0, r1, r2, f0, f1, f2, hB, hz⟩ := three_all b1
  clear c1
  go_wp2_with fail
  refine (c2 _).mono ?_
  rintro e w2 ⟨rfl, b2⟩
  have b12 := b1.trans (b2.mono b1.size)
  clear x0 x1 x2 y0 y1 y2 r0 r1 r2 f0 f1 f2 hB hz b1 b2 c2
  obtain ⟨_, _, _, _, _, _, r0, r1, r2, f0, f1, f2, hB, hz⟩ := three_all b12
  have HB := Lib.hid hB
  go_wp2
  exact bodyPost_ret (v := .tuple #[.agg #[.bool false, .string ⟨#[]⟩, .int .i64 0], .int .i64 2]) (by simp [results, Tryz.results20, go_sem, r0, r1, r2]) rfl ⟨rfl, ((HB.out.setCell (by simp; omega) _).setCell (by simp; omega) _).setCell (by simp; omega) _⟩

set_option maxRecDepth 100000 in
set_option maxHeartbeats 2000000 in
theorem mul_bad1 (neg1 neg2 : Bool) (a b : ByteArray) (s t : Int) (za : a.size ≤ maxLen) (h : ¬ Valid ⟨neg1, a, s⟩) (w : World) :
    Calls Tryz.prog 22 #[.agg #[.bool neg1, .string a, .int .i64 s], .agg #[.bool neg2, .string b, .int .i64 t]] w fun e w' => e = .returned argR ∧ Below w.heap.size w w' := by
  have c1 := fun W => check_val neg1 a s za W 2 (chkR_bad h)
  unfold argR Dec.v decNil
  clear h za
  go_enter Tryz.func22, Tryz.ntmps22
  go_wp2_with fail
  refine (c1 _).mono ?_
  rintro e w1 ⟨rfl, b1⟩
  obtain ⟨_, _, _, _, _, _, r0, r1, r2, f0, f1, f2, hB, hz⟩ := three_all b1
  have HB := Lib.hid hB
  go_wp2
  exact bodyPost_ret (v := .tuple #[.agg #[.bool false, .string ⟨#[]⟩, .int .i64 0], .int .i64 2]) (by simp [results, Tryz.results22, go_sem, r0, r1, r2]) rfl ⟨rfl, ((HB.out.setCell (by simp; omega) _).setCell (by simp; omega) _).setCell (by simp; omega) _⟩

set_option maxRecDepth 100000 in
set_option maxHeartbeats 2000000 in
theorem mul_bad2 (neg1 neg2 : Bool) (a b : ByteArray) (s t : Int) (za : a.size ≤ maxLen) (zb : b.size ≤ maxLen) (h1 : Valid ⟨neg1, a, s⟩) (h : ¬ Valid ⟨neg2, b, t⟩) (w : World) :
    Calls Tryz.prog 22 #[.agg #[.bool neg1, .string a, .int .i64 s], .agg #[.bool neg2, .string b, .int .i64 t]] w fun e w' => e = .returned argR ∧ Below w.heap.size w w' := by
  have c1 := fun W => check_val neg1 a s za W 0 (chkR_ok h1)
  have c2 := fun W => check_val neg2 b t zb W 2 (chkR_bad h)
  unfold argR Dec.v decNil
  clear h h1 za zb
  go_enter Tryz.func22, Tryz.ntmps22
  go_wp2_with fail
  refine (c1 _).mono ?_
  rintro e w1 ⟨rfl, b1⟩
  obtain ⟨x0, x1, x2, y0, y1, y2, r0, r1, r2, f0, f1, f2, hB, hz⟩ := three_all b1
  clear c1
  go_wp2_with fail
  refine (c2 _).mono ?_
  rintro e w2 ⟨rfl, b2⟩
  have b12 := b1.trans (b2.mono b1.size)
  clear x0 x1 x2 y0 y1 y2 r0 r1 r2 f0 f1 f2 hB hz b1 b2 c2
  obtain ⟨_, _, _, _, _, _, r0, r1, r2, f0, f1, f2, hB, hz⟩ := three_all b12
  have HB := Lib.hid hB
  go_wp2
  exact bodyPost_ret (v := .tuple #[.agg #[.bool false, .string ⟨#[]⟩, .int .i64 0], .int .i64 2]) (by simp [results, Tryz.results22, go_sem, r0, r1, r2]) rfl ⟨rfl, ((HB.out.setCell (by simp; omega) _).setCell (by simp; omega) _).setCell (by simp; omega) _⟩

end Go.Proofs.YtcpociafcjabkaaGreatDoor

/- The reference's Sub and Mul. -/
namespace Go.Proofs.YtcpociafcjabkaaGreatDoor
open Go.RowKit

theorem opp_valid {neg : Bool} {a : ByteArray} {s : Int} {n k : Nat} (h : IsDec ⟨neg, a, s⟩ n k) : oppR ⟨neg, a, s⟩ = ⟨!neg && decide (n ≠ 0), a, s⟩ := by
  unfold oppR
  have e : (a.toList == [48]) = decide (n = 0) := by
    rw [show a = numS n from h.ds, numS_toList]
    by_cases h0 : n = 0
    · rw [h0, digs_zero]
      rfl
    · rw [decide_eq_false h0]
      refine beq_eq_false_iff_ne.2 fun e => h0 ?_
      have := digs_val n
      rw [e] at this
      exact this.symm
  simp only [e]
  congr 2
  by_cases h0 : n = 0 <;> simp [h0]

set_option maxRecDepth 100000 in
set_option maxHeartbeats 4000000 in
theorem sub_ok (neg1 neg2 : Bool) (a b : ByteArray) (s t n m : Nat) (ha : IsDec ⟨neg1, a, (s : Int)⟩ n s) (hb : IsDec ⟨neg2, b, (t : Int)⟩ m t) (w : World) :
    Calls Tryz.prog 20 #[.agg #[.bool neg1, .string a, .int .i64 (s : Int)], .agg #[.bool neg2, .string b, .int .i64 (t : Int)]] w fun e w' =>
      e = .returned (decR (sumSpec neg1 n s (!neg2 && decide (m ≠ 0)) m t)) ∧ Below w.heap.size w w' := by
  have za : a.size ≤ 60 := by rw [show a = numS n from ha.ds, numS_size]; exact ha.len
  have zb : b.size ≤ 60 := by rw [show b = numS m from hb.ds, numS_size]; exact hb.len
  have c1 := fun W => check_val neg1 a (s : Int) (by unfold maxLen; omega) W 0 (chkR_ok ⟨n, s, ha⟩)
  have c2 := fun W => check_val neg2 b (t : Int) (by unfold maxLen; omega) W 0 (chkR_ok ⟨m, t, hb⟩)
  have c4 := fun W => opp_any neg2 b (t : Int) W
  rw [opp_valid hb] at c4
  have c3 := fun W => sum_any neg1 (!neg2 && decide (m ≠ 0)) a b s t n m ha.num hb.num (by omega) (by omega) (by have := ha.le; omega) (by have := hb.le; omega) W
  unfold decR at c3 ⊢
  generalize (sumSpec neg1 n s (!neg2 && decide (m ≠ 0)) m t).getD decNil = d at c3 ⊢
  generalize (if (sumSpec neg1 n s (!neg2 && decide (m ≠ 0)) m t).isSome then (0 : Int) else 7) = q at c3 ⊢
  obtain ⟨dn, dd, dsc⟩ := d
  simp only [Dec.v] at c3 ⊢
  generalize (!neg2 && decide (m ≠ 0)) = ng at c3 c4
  simp only [Dec.v] at c4
  clear ha hb za zb
  go_enter Tryz.func20, Tryz.ntmps20
  go_wp2_with fail
  refine (c1 _).mono ?_
  rintro e w1 ⟨rfl, b1⟩
  obtain ⟨x0, x1, x2, y0, y1, y2, r0, r1, r2, f0, f1, f2, hB, hz⟩ := three_all b1
  clear c1
  go_wp2_with fail
  refine (c2 _).mono ?_
  rintro e w2 ⟨rfl, b2⟩
  have b12 := b1.trans (b2.mono b1.size)
  clear x0 x1 x2 y0 y1 y2 r0 r1 r2 f0 f1 f2 hB hz b1 b2 c2
  obtain ⟨x0, x1, x2, y0, y1, y2, r0, r1, r2, f0, f1, f2, hB, hz⟩ := three_all b12
  have B12 := Lib.hid b12
  clear b12
  have HB0 := Lib.hid (And.intro hB hz)
  clear hB
  go_wp2_with fail
  go_region_with (first
    | (go_at_call 55; refine (c4 _).mono ?_; rintro e w3 ⟨rfl, b3⟩; have B13 := Lib.hid (B12.out.trans (((below_drew1 _).trans b3).mono B12.out.size)); obtain ⟨s0, s1, s2, _⟩ := three_all B13.out)
    | (go_at_call 53; refine (c3 _).mono ?_; rintro e w4 ⟨rfl, b4⟩; have B14 := Lib.hid (B13.out.trans (b4.mono B13.out.size)); obtain ⟨_, _, _, _, _, _, q0, q1, q2, g0, g1, g2, gB, gz⟩ := three_all B14.out; have GB := Lib.hid gB))
  all_goals go_wp2
  all_goals exact bodyPost_ret (v := .tuple #[.agg #[.bool dn, .string dd, .int .i64 dsc], .int .i64 q]) (by simp [results, Tryz.results20, go_sem, q0, q1, q2]) rfl ⟨rfl, ((GB.out.setCell (by simp; omega) _).setCell (by simp; omega) _).setCell (by simp; omega) _⟩
end Go.Proofs.YtcpociafcjabkaaGreatDoor
