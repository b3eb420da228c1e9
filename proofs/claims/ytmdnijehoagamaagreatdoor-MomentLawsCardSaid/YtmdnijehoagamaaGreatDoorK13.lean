/- PT -/
import Derived.Test.YtmdnijehoagamaaGreatDoorK11
import Derived.Test.YtmdnijehoagamaaGreatDoorK12
set_option linter.unusedVariables false
set_option linter.unusedSimpArgs false
namespace Go.Proofs.YtmdnijehoagamaaGreatDoor
set_option maxRecDepth 100000
set_option maxHeartbeats 8000000
open Go.RowKit
def AddK (w : World) (p : Nat) (neg1 neg2 : Bool) (XL YL : List Value) (W : World) : Prop :=
 W.cell? ⟨w.heap.size, 0, none⟩ = some (.bool neg1) ∧ W.cell? ⟨w.heap.size + 1, 0, none⟩ = some (.bool neg2) ∧ W.rangeAt p 0 XL ∧ W.rangeAt (p + 1) 0 YL ∧ ResAt w W ∧ p + 2 ≤ W.heap.size ∧ w.heap.size + 3 ≤ p ∧ Tabs W
theorem range_call {W W' : World} {p : Nat} {L : List Value} (h : W.rangeAt p 0 L) (hp : p < W.heap.size) (B : Below W.heap.size W W') : W'.rangeAt p 0 L := fun j v hv => (B.cell (p := ⟨p, 0 + j, none⟩) hp).trans (h j v hv)
theorem range_far {W : World} {p c : Nat} {L : List Value} (h : W.rangeAt p 0 L) (hp : c ≠ p) (j : Nat) (u : Value) : (W.setCell ⟨c, j, none⟩ u).rangeAt p 0 L := fun k v hv => (World.cell?_setCell_far _ _ _ _ hp).trans (h k v hv)
theorem AddK.call {w W W' : World} {p : Nat} {neg1 neg2 : Bool} {XL YL : List Value} (h : AddK w p neg1 neg2 XL YL W) (B : Below W.heap.size W W') : AddK w p neg1 neg2 XL YL W' := by
 obtain ⟨h0, h1, h2, h3, h4, h5, h6, h7⟩ := h
 exact ⟨(B.cell (p := ⟨w.heap.size, 0, none⟩) (by show w.heap.size < _; omega)).trans h0, (B.cell (p := ⟨w.heap.size + 1, 0, none⟩) (by show w.heap.size + 1 < _; omega)).trans h1, range_call h2 (by omega) B, range_call h3 (by omega) B, h4.call B, Nat.le_trans h5 B.size, h6, h7.next B⟩
theorem AddK.set {w W : World} {p : Nat} {neg1 neg2 : Bool} {XL YL : List Value} (h : AddK w p neg1 neg2 XL YL W) (hw : 9 ≤ w.heap.size) (j : Nat) (u : Value) : AddK w p neg1 neg2 XL YL (W.setCell ⟨w.heap.size + 1 + 1, j, none⟩ u) := by
 obtain ⟨h0, h1, h2, h3, h4, h5, h6, h7⟩ := h
 exact ⟨(World.cell?_setCell_far _ _ _ _ (by show w.heap.size + 1 + 1 ≠ w.heap.size; omega)).trans h0, (World.cell?_setCell_far _ _ _ _ (by show w.heap.size + 1 + 1 ≠ w.heap.size + 1; omega)).trans h1, range_far h2 (by omega) _ _, range_far h3 (by omega) _ _, h4.set j u, by rw [World.size_setCell]; exact h5, h6,
  h7.below ((Below.refl 9 W).setCell (p := ⟨w.heap.size + 1 + 1, j, none⟩) (by show 9 ≤ w.heap.size + 1 + 1; omega) u) (Nat.le_refl _)⟩
theorem AddK.tabs {w W : World} {p : Nat} {neg1 neg2 : Bool} {XL YL : List Value} (h : AddK w p neg1 neg2 XL YL W) : Tabs W := h.2.2.2.2.2.2.2
theorem AddK.res {w W : World} {p : Nat} {neg1 neg2 : Bool} {XL YL : List Value} (h : AddK w p neg1 neg2 XL YL W) : ResAt w W := h.2.2.2.2.1
theorem padS_small {z : Nat} (h : z < 10 ^ 126) (neg : Bool) (M : Nat) (hM : M ≤ 1000) (w : World) : Calls Tryz.prog 122 #[.bool neg, .string (padS z), .int .i64 (M : Int)] w fun e w' => e = .returned (decR (mkDec neg z M)) ∧ Below w.heap.size w w' := by
 have c := decimalOf_call neg (padS z) M (padS_all z) (by rw [padS_size]; omega) (by omega) w
 rw [padS_val h] at c
 exact c
theorem dec_lt2 {a : Dec} {n s : Nat} (h : IsDec a n s) (k : Nat) (hk : k ≤ 60) : n * 10 ^ k < 10 ^ 121 := by
 have h1 := h.num.lt
 have h2 : a.ds.size ≤ 60 := by rw [h.ds, numS_size]; exact h.len
 have h3 : n < 10 ^ 60 := Nat.lt_of_lt_of_le h1 (Nat.pow_le_pow_right (by omega) h2)
 have h4 : n * 10 ^ k < 10 ^ 60 * 10 ^ k := Nat.mul_lt_mul_of_pos_right h3 (Nat.pow_pos (by omega))
 rw [← Nat.pow_add] at h4
 exact Nat.lt_of_lt_of_le h4 (Nat.pow_le_pow_right (by omega) (by omega))
theorem add_start {w w1 w2 W4 : World} {neg1 neg2 : Bool} {f g : Nat → Int} (h : w1.cell? ⟨w.heap.size, 0, none⟩ = some (.bool neg1) ∧ w1.cell? ⟨w.heap.size + 1, 0, none⟩ = some (.bool neg2) ∧ ResAt w w1 ∧ Tabs w1) (b2 : Below w1.heap.size w1 w2) (n3 : Blk W4 w2.heap.size f) (n4 : Blk W4 (w2.heap.size + 1) g) (n5 : Below w2.heap.size w2 W4) : AddK w w2.heap.size neg1 neg2 (natL f) (natL g) W4 := by
 obtain ⟨h0, h1, h2, h3⟩ := h
 have hz := h2.size
 have hz2 := b2.size
 have b : Below w1.heap.size w1 W4 := b2.trans (n5.mono hz2)
 have := n4.lt
 exact ⟨(b.cell (p := ⟨w.heap.size, 0, none⟩) (by show w.heap.size < _; omega)).trans h0, (b.cell (p := ⟨w.heap.size + 1, 0, none⟩) (by show w.heap.size + 1 < _; omega)).trans h1, n3.range, n4.range, h2.call b, by omega, by omega, h3.next b⟩
theorem add_sum (neg1 neg2 : Bool) (a b : ByteArray) (s t n m M : Nat) (ha : IsDec ⟨neg1, a, (s : Int)⟩ n s) (hb : IsDec ⟨neg2, b, (t : Int)⟩ m t) (hM : max s t = M) (hn : (neg1 == neg2) = true) (w : World) (hT : Tabs w) :
  Calls Tryz.prog 94 #[.agg #[.bool neg1, .string a, .int .i64 (s : Int)], .agg #[.bool neg2, .string b, .int .i64 (t : Int)]] w fun e w' => e = .returned (decR (mkDec neg1 (n * 10 ^ (M - s) + m * 10 ^ (M - t)) M)) ∧ Below w.heap.size w w' := by
 have za := dec_size ha
 have zb := dec_size hb
 simp only at za zb
 have hM1 : M ≤ 60 := by have := ha.le; have := hb.le; omega
 have cC := check_at2 ⟨neg1, a, (s : Int)⟩ ⟨neg2, b, (t : Int)⟩ (by unfold maxLen; simp only; omega) (by unfold maxLen; simp only; omega) 0 (by rw [vB_ok ⟨_, _, ha⟩, vB_ok ⟨_, _, hb⟩]; rfl)
 have cA := fun W => aligned_call neg1 neg2 a b s t n m M ha.num hb.num za zb ha.le hb.le hM W
 have hx : n * 10 ^ (M - s) < 10 ^ 121 := dec_lt2 ha _ (by omega)
 have hy : m * 10 ^ (M - t) < 10 ^ 121 := dec_lt2 hb _ (by omega)
 clear ha hb za zb hM
 generalize n * 10 ^ (M - s) = x at *
 generalize m * 10 ^ (M - t) = y at *
 have hx2 : x < 10 ^ 126 := Nat.lt_of_lt_of_le hx (Nat.pow_le_pow_right (by omega) (by omega))
 have hy2 : y < 10 ^ 126 := Nat.lt_of_lt_of_le hy (Nat.pow_le_pow_right (by omega) (by omega))
 have hz : x + y < 10 ^ 126 := by
  have e : (10 : Nat) ^ 126 = 10 ^ 121 * 100000 := by rw [show (126 : Nat) = 121 + 5 from rfl, Nat.pow_add]
  rw [e]
  generalize (10 : Nat) ^ 121 = q at hx hy
  omega
 have cS := fun W => Sum_call x y hx2 hy2 W
 have cD := fun W hT => digits_call (x + y) W hT
 have cM := fun W => padS_small hz neg1 M (by omega) W
 unfold natV arrV at cA cS cD 
 unfold decR at cM ⊢
 generalize (mkDec neg1 (x + y) M).getD decNil = d at cM ⊢
 generalize (if (mkDec neg1 (x + y) M).isSome then (0 : Int) else 7) = q at cM ⊢
 generalize padS (x + y) = Z at cD cM
 generalize natL (ptsOf (x + y)) = ZL at cS cD
 obtain ⟨dn, dd, dsc⟩ := d
 simp only [Dec.v] at cC cM ⊢
 have hw6 := hT.size
 have HT := Lib.hid hT
 have hXl := natL_len (ptsOf x)
 have hYl := natL_len (ptsOf y)
 clear hz hx hy hx2 hy2 hT
 go_enter Tryz.func94, Tryz.ntmps94
 go_wp2_with fail
 refine (cC _ _ (by simp)).mono ?_
 rintro e w1 ⟨rfl, b1⟩
 have b1 := past (by simp) b1
 obtain ⟨x0, x1, x2, y0, y1, y2, r0, r1, r2, f0, f1, f2, hB, hz3⟩ := three_all b1
 have KR := Lib.hid (And.intro x0 (And.intro y0 (And.intro (ResAt.mk ⟨_, r0⟩ ⟨_, r1⟩ ⟨_, r2⟩ f0 f1 f2 hB hz3) (HT.out.below hB hw6))))
 clear b1 hB r0 r1 r2 f0 f1 f2
 go_wp2_with (first
  | (go_at_call 121; refine (cA _).mono ?_; rintro e w2 ⟨rfl, b2⟩; obtain ⟨n1, n2, n3, n4, n5⟩ := two_lit w2 (ptsOf x) (ptsOf y); have HN := Lib.hid (And.intro n3 (And.intro n4 n5)); clear n3 n4 n5; have B2 := Lib.hid b2; clear b2 x0 x1 x2 y0 y1 y2)
  | (refine wpList_store_row rfl 125 _ _ rfl w2.heap.size _ rfl rfl 125 _ n1 (nat_size _) (by simp [natL_len]) (nat_one _) ?_)
  | (refine wpList_store_row rfl 125 _ _ rfl (w2.heap.size + 1) _ rfl rfl 125 _ n2 (nat_size _) (by simp [natL_len]) (nat_one _) ?_; obtain ⟨n3, n4, n5⟩ := HN.out; obtain ⟨W4, hW4⟩ : ∃ W4, ((((w2.alloc (.cells #[.int .i64 0, .int .i64 0, .int .i64 0, .int .i64 0, .int .i64 0, .int .i64 0, .int .i64 0, .int .i64 0, .int .i64 0, .int .i64 0, .int .i64 0, .int .i64 0, .int .i64 0, .int .i64 0] 125)).alloc (.cells #[.int .i64 0, .int .i64 0, .int .i64 0, .int .i64 0, .int .i64 0, .int .i64 0, .int .i64 0, .int .i64 0, .int .i64 0, .int .i64 0, .int .i64 0, .int .i64 0, .int .i64 0, .int .i64 0] 125)).setRow w2.heap.size (natL (ptsOf x)).toArray).setRow (w2.heap.size + 1) (natL (ptsOf y)).toArray) = W4 := ⟨_, rfl⟩; rw [hW4] at n3 n4 n5 ⊢; clear hW4 n1 n2 HN; have HK := Lib.hid (add_start KR.out B2.out n3 n4 n5); obtain ⟨x0, y0, _⟩ := HK.out; clear n5))
 have hu : Tryz.prog.underlying 125 = some (.array 14 2) := Tryz.underlying125
 have hi14 : (Tryz.prog.info? 125).map (·.size) = some 14 := by kernel_rfl
 refine wp_region_held_drew (S := AddK w w2.heap.size neg1 neg2 (natL (ptsOf x)) (natL (ptsOf y))) (by kernel_rfl) (AddK.call HK.out (below_drew1 _)) (fun hHeld => ?_)
 refine tk (v := ?_) 0 (by assumption) ?_ ?_
 rotate_left
 ·intro w hSw
  (try dsimp only at hSw)
  go_simp
  (try with_reducible rfl)
 try simp only [fl]
 refine tk (v := ?_) 1 (by assumption) ?_ ?_
 rotate_left
 ·intro w hSw
  obtain ⟨h0, h1, hSw⟩ := hSw
  go_simp
  (try with_reducible rfl)
 try simp only [fl]
 refine wpAnyH_take (i := 2) rfl (by kernel_rfl) (by kernel_rfl) (by kernel_rfl) (fun _ _ _ h => h) (yieldsIf_load_mid (by rfl) 125 _ rfl _ _ rfl _ _ (fun w hSw => hSw.2.2.1) hu rfl (by rw [natL_len]; exact hi14)) (by assumption) ?_
 try simp only [fl]
 refine wpAnyH_take (i := 3) rfl (by kernel_rfl) (by kernel_rfl) (by kernel_rfl) (fun _ _ _ h => h) (yieldsIf_load_mid (by rfl) 125 _ rfl _ _ rfl _ _ (fun w hSw => hSw.2.2.2.1) hu rfl (by rw [natL_len]; exact hi14)) (by assumption) ?_
 try simp only [fl]
 refine tk (v := ?_) 6 (by assumption) ?_ ?_
 rotate_left
 ·intro w hSw
  (try dsimp only at hSw)
  go_simp
  (try with_reducible rfl)
 try simp only [fl]
 refine wpAnyH_ready (rs := [4]) (by kernel_rfl) (by simp) ?_
 refine AllReadyH.cons rfl (fun K hK => ?_) AllReadyH.nil
 go_simp
 refine (cS _).mono ?_
 rintro e w8 ⟨rfl, b8⟩
 have b8 := b8
 refine hK.out _ _ (AddK.call hHeld b8) (fun hHeld => ?_)
 clear hK K
 try simp only [fl]
 refine wpAnyH_ready (rs := [5]) (by kernel_rfl) (by simp) ?_
 refine AllReadyH.cons rfl (fun K hK => ?_) AllReadyH.nil
 go_simp
 refine (cD _ hHeld.tabs).mono ?_
 rintro e w8 ⟨rfl, b8⟩
 have b8 := b8
 refine hK.out _ _ (AddK.call hHeld b8) (fun hHeld => ?_)
 clear hK K
 try simp only [fl]
 refine wpAnyH_ready (rs := [7]) (by kernel_rfl) (by simp) ?_
 refine AllReadyH.cons rfl (fun K hK => ?_) AllReadyH.nil
 go_simp
 refine (cM _).mono ?_
 rintro e w8 ⟨rfl, b8⟩
 have hr := (show ResAt w w8 from (AddK.call hHeld b8).res)
 obtain ⟨⟨v0, q0⟩, ⟨v1, q1⟩, ⟨v2, q2⟩, g0, g1, g2, gB, gz⟩ := hr
 have GB := Lib.hid gB
 refine hK.out _ _ (AddK.call hHeld b8) (fun hHeld => ?_)
 clear hK K
 try simp only [fl]
 refine tk (v := ?_) 8 (by assumption) ?_ ?_
 rotate_left
 ·intro w hSw
  (try dsimp only at hSw)
  go_simp
  (try with_reducible rfl)
 try simp only [fl]
 refine tk (v := ?_) 9 (by assumption) ?_ ?_
 rotate_left
 ·intro w hSw
  (try dsimp only at hSw)
  go_simp
  (try with_reducible rfl)
 try simp only [fl]
 refine wpAnyH_ready (rs := [10]) (by kernel_rfl) (by simp) ?_
 refine AllReadyH.cons rfl (fun K hK => ?_) AllReadyH.nil
 go_simp
 refine hK.out _ _ (AddK.set (AddK.set (AddK.set hHeld hw6 0 _) hw6 1 _) hw6 2 _) (fun hHeld => ?_)
 clear hK K
 try simp only [fl]
 refine tk (v := ?_) 11 (by assumption) ?_ ?_
 rotate_left
 ·intro w hSw
  (try dsimp only at hSw)
  go_simp
  (try with_reducible rfl)
 try simp only [fl]
 refine wpAnyH_done (by kernel_rfl) ?_ _
 go_wp2
 exact bodyPost_ret (v := .tuple #[.agg #[.bool dn, .string dd, .int .i64 dsc], .int .i64 q]) (by simp [results, Tryz.results94, go_sem, q0, q1, q2]) rfl ⟨rfl, ((GB.out.setCell (by simp; omega) _).setCell (by simp; omega) _).setCell (by simp; omega) _⟩
theorem add_dif1 (neg1 neg2 : Bool) (a b : ByteArray) (s t n m M : Nat) (ha : IsDec ⟨neg1, a, (s : Int)⟩ n s) (hb : IsDec ⟨neg2, b, (t : Int)⟩ m t) (hM : max s t = M) (hn : (neg1 == neg2) = false) (hl : n * 10 ^ (M - s) < m * 10 ^ (M - t)) (w : World) (hT : Tabs w) :
  Calls Tryz.prog 94 #[.agg #[.bool neg1, .string a, .int .i64 (s : Int)], .agg #[.bool neg2, .string b, .int .i64 (t : Int)]] w fun e w' => e = .returned (decR (mkDec neg2 (m * 10 ^ (M - t) - n * 10 ^ (M - s)) M)) ∧ Below w.heap.size w w' := by
 have za := dec_size ha
 have zb := dec_size hb
 simp only at za zb
 have hM1 : M ≤ 60 := by have := ha.le; have := hb.le; omega
 have cC := check_at2 ⟨neg1, a, (s : Int)⟩ ⟨neg2, b, (t : Int)⟩ (by unfold maxLen; simp only; omega) (by unfold maxLen; simp only; omega) 0 (by rw [vB_ok ⟨_, _, ha⟩, vB_ok ⟨_, _, hb⟩]; rfl)
 have cA := fun W => aligned_call neg1 neg2 a b s t n m M ha.num hb.num za zb ha.le hb.le hM W
 have hx : n * 10 ^ (M - s) < 10 ^ 121 := dec_lt2 ha _ (by omega)
 have hy : m * 10 ^ (M - t) < 10 ^ 121 := dec_lt2 hb _ (by omega)
 clear ha hb za zb hM
 generalize n * 10 ^ (M - s) = x at *
 generalize m * 10 ^ (M - t) = y at *
 have hx2 : x < 10 ^ 126 := Nat.lt_of_lt_of_le hx (Nat.pow_le_pow_right (by omega) (by omega))
 have hy2 : y < 10 ^ 126 := Nat.lt_of_lt_of_le hy (Nat.pow_le_pow_right (by omega) (by omega))
 have hz : y - x < 10 ^ 126 := by
  have e : (10 : Nat) ^ 126 = 10 ^ 121 * 100000 := by rw [show (126 : Nat) = 121 + 5 from rfl, Nat.pow_add]
  rw [e]
  generalize (10 : Nat) ^ 121 = q at hx hy
  omega
 have cQ := fun W => cmp_call x y hx2 hy2 W
 rw [show cmpN x y = -1 by unfold cmpN; rw [if_pos hl]] at cQ
 have cS := fun W => Dif_call y x hy2 (by omega) W
 have cD := fun W hT => digits_call (y - x) W hT
 have cM := fun W => padS_small hz neg2 M (by omega) W
 unfold natV arrV at cA cS cD cQ
 unfold decR at cM ⊢
 generalize (mkDec neg2 (y - x) M).getD decNil = d at cM ⊢
 generalize (if (mkDec neg2 (y - x) M).isSome then (0 : Int) else 7) = q at cM ⊢
 generalize padS (y - x) = Z at cD cM
 generalize natL (ptsOf (y - x)) = ZL at cS cD
 obtain ⟨dn, dd, dsc⟩ := d
 simp only [Dec.v] at cC cM ⊢
 have hw6 := hT.size
 have HT := Lib.hid hT
 have hXl := natL_len (ptsOf x)
 have hYl := natL_len (ptsOf y)
 clear hz hx hy hx2 hy2 hT hl
 go_enter Tryz.func94, Tryz.ntmps94
 go_wp2_with fail
 refine (cC _ _ (by simp)).mono ?_
 rintro e w1 ⟨rfl, b1⟩
 have b1 := past (by simp) b1
 obtain ⟨x0, x1, x2, y0, y1, y2, r0, r1, r2, f0, f1, f2, hB, hz3⟩ := three_all b1
 have KR := Lib.hid (And.intro x0 (And.intro y0 (And.intro (ResAt.mk ⟨_, r0⟩ ⟨_, r1⟩ ⟨_, r2⟩ f0 f1 f2 hB hz3) (HT.out.below hB hw6))))
 clear b1 hB r0 r1 r2 f0 f1 f2
 go_wp2_with (first
  | (go_at_call 121; refine (cA _).mono ?_; rintro e w2 ⟨rfl, b2⟩; obtain ⟨n1, n2, n3, n4, n5⟩ := two_lit w2 (ptsOf x) (ptsOf y); have HN := Lib.hid (And.intro n3 (And.intro n4 n5)); clear n3 n4 n5; have B2 := Lib.hid b2; clear b2 x0 x1 x2 y0 y1 y2)
  | (refine wpList_store_row rfl 125 _ _ rfl w2.heap.size _ rfl rfl 125 _ n1 (nat_size _) (by simp [natL_len]) (nat_one _) ?_)
  | (refine wpList_store_row rfl 125 _ _ rfl (w2.heap.size + 1) _ rfl rfl 125 _ n2 (nat_size _) (by simp [natL_len]) (nat_one _) ?_; obtain ⟨n3, n4, n5⟩ := HN.out; obtain ⟨W4, hW4⟩ : ∃ W4, ((((w2.alloc (.cells #[.int .i64 0, .int .i64 0, .int .i64 0, .int .i64 0, .int .i64 0, .int .i64 0, .int .i64 0, .int .i64 0, .int .i64 0, .int .i64 0, .int .i64 0, .int .i64 0, .int .i64 0, .int .i64 0] 125)).alloc (.cells #[.int .i64 0, .int .i64 0, .int .i64 0, .int .i64 0, .int .i64 0, .int .i64 0, .int .i64 0, .int .i64 0, .int .i64 0, .int .i64 0, .int .i64 0, .int .i64 0, .int .i64 0, .int .i64 0] 125)).setRow w2.heap.size (natL (ptsOf x)).toArray).setRow (w2.heap.size + 1) (natL (ptsOf y)).toArray) = W4 := ⟨_, rfl⟩; rw [hW4] at n3 n4 n5 ⊢; clear hW4 n1 n2 HN; have HK := Lib.hid (add_start KR.out B2.out n3 n4 n5); obtain ⟨x0, y0, _⟩ := HK.out; clear n5)
  | (refine wpList_load_row rfl 125 _ rfl w2.heap.size rfl 125 _ (0, 0) _ n3 Tryz.underlying125 rfl (nat_size _) ?_)
  | (refine wpList_load_row rfl 125 _ rfl (w2.heap.size + 1) rfl 125 _ (0, 0) _ n4 Tryz.underlying125 rfl (nat_size _) ?_)
  | (go_at_call 125; refine (cQ _).mono ?_; rintro e w5 ⟨rfl, b5⟩; have HK := Lib.hid (HK.out.call b5); obtain ⟨x0, y0, _⟩ := HK.out; clear b5))
 have hu : Tryz.prog.underlying 125 = some (.array 14 2) := Tryz.underlying125
 have hi14 : (Tryz.prog.info? 125).map (·.size) = some 14 := by kernel_rfl
 refine wp_region_held_drew (S := AddK w w2.heap.size neg1 neg2 (natL (ptsOf x)) (natL (ptsOf y))) (by kernel_rfl) (AddK.call HK.out (below_drew1 _)) (fun hHeld => ?_)
 refine tk (v := ?_) 0 (by assumption) ?_ ?_
 rotate_left
 ·intro w hSw
  (try dsimp only at hSw)
  go_simp
  (try with_reducible rfl)
 try simp only [fl]
 refine tk (v := ?_) 1 (by assumption) ?_ ?_
 rotate_left
 ·intro w hSw
  obtain ⟨h0, h1, hSw⟩ := hSw
  go_simp
  (try with_reducible rfl)
 try simp only [fl]
 refine wpAnyH_take (i := 2) rfl (by kernel_rfl) (by kernel_rfl) (by kernel_rfl) (fun _ _ _ h => h) (yieldsIf_load_mid (by rfl) 125 _ rfl _ _ rfl _ _ (fun w hSw => hSw.2.2.2.1) hu rfl (by rw [natL_len]; exact hi14)) (by assumption) ?_
 try simp only [fl]
 refine wpAnyH_take (i := 3) rfl (by kernel_rfl) (by kernel_rfl) (by kernel_rfl) (fun _ _ _ h => h) (yieldsIf_load_mid (by rfl) 125 _ rfl _ _ rfl _ _ (fun w hSw => hSw.2.2.1) hu rfl (by rw [natL_len]; exact hi14)) (by assumption) ?_
 try simp only [fl]
 refine tk (v := ?_) 6 (by assumption) ?_ ?_
 rotate_left
 ·intro w hSw
  (try dsimp only at hSw)
  go_simp
  (try with_reducible rfl)
 try simp only [fl]
 refine wpAnyH_ready (rs := [4]) (by kernel_rfl) (by simp) ?_
 refine AllReadyH.cons rfl (fun K hK => ?_) AllReadyH.nil
 go_simp
 refine (cS _).mono ?_
 rintro e w8 ⟨rfl, b8⟩
 have b8 := b8
 refine hK.out _ _ (AddK.call hHeld b8) (fun hHeld => ?_)
 clear hK K
 try simp only [fl]
 refine wpAnyH_ready (rs := [5]) (by kernel_rfl) (by simp) ?_
 refine AllReadyH.cons rfl (fun K hK => ?_) AllReadyH.nil
 go_simp
 refine (cD _ hHeld.tabs).mono ?_
 rintro e w8 ⟨rfl, b8⟩
 have b8 := b8
 refine hK.out _ _ (AddK.call hHeld b8) (fun hHeld => ?_)
 clear hK K
 try simp only [fl]
 refine wpAnyH_ready (rs := [7]) (by kernel_rfl) (by simp) ?_
 refine AllReadyH.cons rfl (fun K hK => ?_) AllReadyH.nil
 go_simp
 refine (cM _).mono ?_
 rintro e w8 ⟨rfl, b8⟩
 have hr := (show ResAt w w8 from (AddK.call hHeld b8).res)
 obtain ⟨⟨v0, q0⟩, ⟨v1, q1⟩, ⟨v2, q2⟩, g0, g1, g2, gB, gz⟩ := hr
 have GB := Lib.hid gB
 refine hK.out _ _ (AddK.call hHeld b8) (fun hHeld => ?_)
 clear hK K
 try simp only [fl]
 refine tk (v := ?_) 8 (by assumption) ?_ ?_
 rotate_left
 ·intro w hSw
  (try dsimp only at hSw)
  go_simp
  (try with_reducible rfl)
 try simp only [fl]
 refine tk (v := ?_) 9 (by assumption) ?_ ?_
 rotate_left
 ·intro w hSw
  (try dsimp only at hSw)
  go_simp
  (try with_reducible rfl)
 try simp only [fl]
 refine wpAnyH_ready (rs := [10]) (by kernel_rfl) (by simp) ?_
 refine AllReadyH.cons rfl (fun K hK => ?_) AllReadyH.nil
 go_simp
 refine hK.out _ _ (AddK.set (AddK.set (AddK.set hHeld hw6 0 _) hw6 1 _) hw6 2 _) (fun hHeld => ?_)
 clear hK K
 try simp only [fl]
 refine tk (v := ?_) 11 (by assumption) ?_ ?_
 rotate_left
 ·intro w hSw
  (try dsimp only at hSw)
  go_simp
  (try with_reducible rfl)
 try simp only [fl]
 refine wpAnyH_done (by kernel_rfl) ?_ _
 go_wp2
 exact bodyPost_ret (v := .tuple #[.agg #[.bool dn, .string dd, .int .i64 dsc], .int .i64 q]) (by simp [results, Tryz.results94, go_sem, q0, q1, q2]) rfl ⟨rfl, ((GB.out.setCell (by simp; omega) _).setCell (by simp; omega) _).setCell (by simp; omega) _⟩
theorem add_dif2 (neg1 neg2 : Bool) (a b : ByteArray) (s t n m M : Nat) (ha : IsDec ⟨neg1, a, (s : Int)⟩ n s) (hb : IsDec ⟨neg2, b, (t : Int)⟩ m t) (hM : max s t = M) (hn : (neg1 == neg2) = false) (hl : ¬ n * 10 ^ (M - s) < m * 10 ^ (M - t)) (w : World) (hT : Tabs w) :
  Calls Tryz.prog 94 #[.agg #[.bool neg1, .string a, .int .i64 (s : Int)], .agg #[.bool neg2, .string b, .int .i64 (t : Int)]] w fun e w' => e = .returned (decR (mkDec neg1 (n * 10 ^ (M - s) - m * 10 ^ (M - t)) M)) ∧ Below w.heap.size w w' := by
 have za := dec_size ha
 have zb := dec_size hb
 simp only at za zb
 have hM1 : M ≤ 60 := by have := ha.le; have := hb.le; omega
 have cC := check_at2 ⟨neg1, a, (s : Int)⟩ ⟨neg2, b, (t : Int)⟩ (by unfold maxLen; simp only; omega) (by unfold maxLen; simp only; omega) 0 (by rw [vB_ok ⟨_, _, ha⟩, vB_ok ⟨_, _, hb⟩]; rfl)
 have cA := fun W => aligned_call neg1 neg2 a b s t n m M ha.num hb.num za zb ha.le hb.le hM W
 have hx : n * 10 ^ (M - s) < 10 ^ 121 := dec_lt2 ha _ (by omega)
 have hy : m * 10 ^ (M - t) < 10 ^ 121 := dec_lt2 hb _ (by omega)
 clear ha hb za zb hM
 generalize n * 10 ^ (M - s) = x at *
 generalize m * 10 ^ (M - t) = y at *
 have hx2 : x < 10 ^ 126 := Nat.lt_of_lt_of_le hx (Nat.pow_le_pow_right (by omega) (by omega))
 have hy2 : y < 10 ^ 126 := Nat.lt_of_lt_of_le hy (Nat.pow_le_pow_right (by omega) (by omega))
 have hz : x - y < 10 ^ 126 := by
  have e : (10 : Nat) ^ 126 = 10 ^ 121 * 100000 := by rw [show (126 : Nat) = 121 + 5 from rfl, Nat.pow_add]
  rw [e]
  generalize (10 : Nat) ^ 121 = q at hx hy
  omega
 have cQ := fun W => cmp_call x y hx2 hy2 W
 obtain ⟨R, hR⟩ : ∃ R, cmpN x y = R := ⟨_, rfl⟩
 have hR0 : 0 ≤ R := by
  rw [← hR]
  unfold cmpN
  rw [if_neg hl]
  split <;> omega
 rw [hR] at cQ
 have cS := fun W => Dif_call x y hx2 (by omega) W
 have cD := fun W hT => digits_call (x - y) W hT
 have cM := fun W => padS_small hz neg1 M (by omega) W
 unfold natV arrV at cA cS cD cQ
 unfold decR at cM ⊢
 generalize (mkDec neg1 (x - y) M).getD decNil = d at cM ⊢
 generalize (if (mkDec neg1 (x - y) M).isSome then (0 : Int) else 7) = q at cM ⊢
 generalize padS (x - y) = Z at cD cM
 generalize natL (ptsOf (x - y)) = ZL at cS cD
 obtain ⟨dn, dd, dsc⟩ := d
 simp only [Dec.v] at cC cM ⊢
 have hw6 := hT.size
 have HT := Lib.hid hT
 have hXl := natL_len (ptsOf x)
 have hYl := natL_len (ptsOf y)
 clear hz hx hy hx2 hy2 hT hl hR
 go_enter Tryz.func94, Tryz.ntmps94
 go_wp2_with fail
 refine (cC _ _ (by simp)).mono ?_
 rintro e w1 ⟨rfl, b1⟩
 have b1 := past (by simp) b1
 obtain ⟨x0, x1, x2, y0, y1, y2, r0, r1, r2, f0, f1, f2, hB, hz3⟩ := three_all b1
 have KR := Lib.hid (And.intro x0 (And.intro y0 (And.intro (ResAt.mk ⟨_, r0⟩ ⟨_, r1⟩ ⟨_, r2⟩ f0 f1 f2 hB hz3) (HT.out.below hB hw6))))
 clear b1 hB r0 r1 r2 f0 f1 f2
 go_wp2_with (first
  | (go_at_call 121; refine (cA _).mono ?_; rintro e w2 ⟨rfl, b2⟩; obtain ⟨n1, n2, n3, n4, n5⟩ := two_lit w2 (ptsOf x) (ptsOf y); have HN := Lib.hid (And.intro n3 (And.intro n4 n5)); clear n3 n4 n5; have B2 := Lib.hid b2; clear b2 x0 x1 x2 y0 y1 y2)
  | (refine wpList_store_row rfl 125 _ _ rfl w2.heap.size _ rfl rfl 125 _ n1 (nat_size _) (by simp [natL_len]) (nat_one _) ?_)
  | (refine wpList_store_row rfl 125 _ _ rfl (w2.heap.size + 1) _ rfl rfl 125 _ n2 (nat_size _) (by simp [natL_len]) (nat_one _) ?_; obtain ⟨n3, n4, n5⟩ := HN.out; obtain ⟨W4, hW4⟩ : ∃ W4, ((((w2.alloc (.cells #[.int .i64 0, .int .i64 0, .int .i64 0, .int .i64 0, .int .i64 0, .int .i64 0, .int .i64 0, .int .i64 0, .int .i64 0, .int .i64 0, .int .i64 0, .int .i64 0, .int .i64 0, .int .i64 0] 125)).alloc (.cells #[.int .i64 0, .int .i64 0, .int .i64 0, .int .i64 0, .int .i64 0, .int .i64 0, .int .i64 0, .int .i64 0, .int .i64 0, .int .i64 0, .int .i64 0, .int .i64 0, .int .i64 0, .int .i64 0] 125)).setRow w2.heap.size (natL (ptsOf x)).toArray).setRow (w2.heap.size + 1) (natL (ptsOf y)).toArray) = W4 := ⟨_, rfl⟩; rw [hW4] at n3 n4 n5 ⊢; clear hW4 n1 n2 HN; have HK := Lib.hid (add_start KR.out B2.out n3 n4 n5); obtain ⟨x0, y0, _⟩ := HK.out; clear n5)
  | (refine wpList_load_row rfl 125 _ rfl w2.heap.size rfl 125 _ (0, 0) _ n3 Tryz.underlying125 rfl (nat_size _) ?_)
  | (refine wpList_load_row rfl 125 _ rfl (w2.heap.size + 1) rfl 125 _ (0, 0) _ n4 Tryz.underlying125 rfl (nat_size _) ?_)
  | (go_at_call 125; refine (cQ _).mono ?_; rintro e w5 ⟨rfl, b5⟩; have HK := Lib.hid (HK.out.call b5); obtain ⟨x0, y0, _⟩ := HK.out; clear b5))
 have hu : Tryz.prog.underlying 125 = some (.array 14 2) := Tryz.underlying125
 have hi14 : (Tryz.prog.info? 125).map (·.size) = some 14 := by kernel_rfl
 refine wp_region_held_drew (S := AddK w w2.heap.size neg1 neg2 (natL (ptsOf x)) (natL (ptsOf y))) (by kernel_rfl) (AddK.call HK.out (below_drew1 _)) (fun hHeld => ?_)
 refine tk (v := ?_) 0 (by assumption) ?_ ?_
 rotate_left
 ·intro w hSw
  (try dsimp only at hSw)
  go_simp
  (try with_reducible rfl)
 try simp only [fl]
 refine tk (v := ?_) 1 (by assumption) ?_ ?_
 rotate_left
 ·intro w hSw
  obtain ⟨h0, h1, hSw⟩ := hSw
  go_simp
  (try with_reducible rfl)
 try simp only [fl]
 refine wpAnyH_take (i := 2) rfl (by kernel_rfl) (by kernel_rfl) (by kernel_rfl) (fun _ _ _ h => h) (yieldsIf_load_mid (by rfl) 125 _ rfl _ _ rfl _ _ (fun w hSw => hSw.2.2.1) hu rfl (by rw [natL_len]; exact hi14)) (by assumption) ?_
 try simp only [fl]
 refine wpAnyH_take (i := 3) rfl (by kernel_rfl) (by kernel_rfl) (by kernel_rfl) (fun _ _ _ h => h) (yieldsIf_load_mid (by rfl) 125 _ rfl _ _ rfl _ _ (fun w hSw => hSw.2.2.2.1) hu rfl (by rw [natL_len]; exact hi14)) (by assumption) ?_
 try simp only [fl]
 refine tk (v := ?_) 6 (by assumption) ?_ ?_
 rotate_left
 ·intro w hSw
  (try dsimp only at hSw)
  go_simp
  (try with_reducible rfl)
 try simp only [fl]
 refine wpAnyH_ready (rs := [4]) (by kernel_rfl) (by simp) ?_
 refine AllReadyH.cons rfl (fun K hK => ?_) AllReadyH.nil
 go_simp
 refine (cS _).mono ?_
 rintro e w8 ⟨rfl, b8⟩
 have b8 := b8
 refine hK.out _ _ (AddK.call hHeld b8) (fun hHeld => ?_)
 clear hK K
 try simp only [fl]
 refine wpAnyH_ready (rs := [5]) (by kernel_rfl) (by simp) ?_
 refine AllReadyH.cons rfl (fun K hK => ?_) AllReadyH.nil
 go_simp
 refine (cD _ hHeld.tabs).mono ?_
 rintro e w8 ⟨rfl, b8⟩
 have b8 := b8
 refine hK.out _ _ (AddK.call hHeld b8) (fun hHeld => ?_)
 clear hK K
 try simp only [fl]
 refine wpAnyH_ready (rs := [7]) (by kernel_rfl) (by simp) ?_
 refine AllReadyH.cons rfl (fun K hK => ?_) AllReadyH.nil
 go_simp
 refine (cM _).mono ?_
 rintro e w8 ⟨rfl, b8⟩
 have hr := (show ResAt w w8 from (AddK.call hHeld b8).res)
 obtain ⟨⟨v0, q0⟩, ⟨v1, q1⟩, ⟨v2, q2⟩, g0, g1, g2, gB, gz⟩ := hr
 have GB := Lib.hid gB
 refine hK.out _ _ (AddK.call hHeld b8) (fun hHeld => ?_)
 clear hK K
 try simp only [fl]
 refine tk (v := ?_) 8 (by assumption) ?_ ?_
 rotate_left
 ·intro w hSw
  (try dsimp only at hSw)
  go_simp
  (try with_reducible rfl)
 try simp only [fl]
 refine tk (v := ?_) 9 (by assumption) ?_ ?_
 rotate_left
 ·intro w hSw
  (try dsimp only at hSw)
  go_simp
  (try with_reducible rfl)
 try simp only [fl]
 refine wpAnyH_ready (rs := [10]) (by kernel_rfl) (by simp) ?_
 refine AllReadyH.cons rfl (fun K hK => ?_) AllReadyH.nil
 go_simp
 refine hK.out _ _ (AddK.set (AddK.set (AddK.set hHeld hw6 0 _) hw6 1 _) hw6 2 _) (fun hHeld => ?_)
 clear hK K
 try simp only [fl]
 refine tk (v := ?_) 11 (by assumption) ?_ ?_
 rotate_left
 ·intro w hSw
  (try dsimp only at hSw)
  go_simp
  (try with_reducible rfl)
 try simp only [fl]
 refine wpAnyH_done (by kernel_rfl) ?_ _
 go_wp2
 exact bodyPost_ret (v := .tuple #[.agg #[.bool dn, .string dd, .int .i64 dsc], .int .i64 q]) (by simp [results, Tryz.results94, go_sem, q0, q1, q2]) rfl ⟨rfl, ((GB.out.setCell (by simp; omega) _).setCell (by simp; omega) _).setCell (by simp; omega) _⟩
theorem p_add (a b : Dec) (za : a.ds.size ≤ 400) (zb : b.ds.size ≤ 400) (w : World) (hT : Tabs w) : Calls Tryz.prog 94 #[a.v, b.v] w fun e w' => e = .returned (addS a b).v ∧ Below w.heap.size w w' := by
 by_cases h : Valid a ∧ Valid b
 ·have hd : addS a b = ofOpt (sumSpec a.neg (num a) (scl a) b.neg (num b) (scl b)) := by unfold addS; rw [if_pos h]
  rw [hd, ← ofOpt_v]
  have ha := h.1.is
  have hb := h.2.is
  have h1 := h.1.sc
  have h2 := h.2.sc
  clear hd h
  generalize num a = n at *
  generalize num b = m at *
  generalize scl a = s at *
  generalize scl b = t at *
  obtain ⟨neg1, d1, s1⟩ := a
  obtain ⟨neg2, d2, s2⟩ := b
  simp only at h1 h2 za zb ⊢
  subst h1 h2
  unfold sumSpec Dec.v
  split
  ·next hn => exact add_sum neg1 neg2 d1 d2 s t n m _ ha hb rfl hn w hT
  ·next hn =>
   have hn2 : (neg1 == neg2) = false := by simpa using hn
   split
   ·next hl => exact add_dif1 neg1 neg2 d1 d2 s t n m _ ha hb rfl hn2 hl w hT
   ·next hl => exact add_dif2 neg1 neg2 d1 d2 s t n m _ ha hb rfl hn2 hl w hT
 ·have hd : addS a b = argRes := by unfold addS; rw [if_neg h]
  have hv : chk1 (vB a && vB b) = 2 := by
   by_cases h1 : Valid a
   ·rw [vB_bad (fun h2 => h ⟨h1, h2⟩), Bool.and_false]; rfl
   ·rw [vB_bad h1, Bool.false_and]; rfl
  have cC := check_at2 a b (by unfold maxLen; omega) (by unfold maxLen; omega) 2 hv
  rw [hd]
  obtain ⟨neg1, d1, s1⟩ := a
  obtain ⟨neg2, d2, s2⟩ := b
  unfold argRes DRes.v decNil Dec.v
  simp only at cC za zb ⊢
  clear hd hv h
  go_enter Tryz.func94, Tryz.ntmps94
  go_wp2_with fail
  refine (cC _ _ (by simp)).mono ?_
  rintro e w1 ⟨rfl, b1⟩
  obtain ⟨x0, x1, x2, y0, y1, y2, r0, r1, r2, f0, f1, f2, hB, hz3⟩ := three_all (past (by simp) b1)
  have HB := Lib.hid hB
  clear b1 hB
  go_wp2
  exact bodyPost_ret (v := .tuple #[.agg #[.bool false, .string ⟨#[]⟩, .int .i64 0], .int .i64 2]) (by simp [results, Tryz.results94, go_sem, r0, r1, r2]) rfl ⟨rfl, ((HB.out.setCell (by simp; omega) _).setCell (by simp; omega) _).setCell (by simp; omega) _⟩
end Go.Proofs.YtmdnijehoagamaaGreatDoor
