/- PQ PR -/
import Derived.Test.YtmdnijehoagamaaGreatDoorK10
set_option linter.unusedVariables false
set_option linter.unusedSimpArgs false
namespace Go.Proofs.YtmdnijehoagamaaGreatDoor
set_option maxRecDepth 100000
set_option maxHeartbeats 4000000
open Go.RowKit
theorem chk_ok {a : Dec} (h : Valid a) : chk1 (vB a) = 0 := by rw [vB_ok h]; rfl
theorem chk_bad {a : Dec} (h : ¬ Valid a) : chk1 (vB a) = 2 := by rw [vB_bad h]; rfl
theorem chk_R (a : Dec) : chk1 (vB a) = chkR a := by
 by_cases h : Valid a
 ·rw [chk_ok h, chkR_ok h]
 ·rw [chk_bad h, chkR_bad h]
theorem check_at (d : Dec) (hz : d.ds.size ≤ maxLen) (r : Int) (hr : chk1 (vB d) = r) (b : Nat) (X : World) (hb : b = X.heap.size) :
  Calls Tryz.prog 100 #[.slice (some ⟨b, 0, none⟩) 1 1] (X.alloc (.cells #[.bool d.neg, .string d.ds, .int .i64 d.sc] 23)) fun e w' => e = .returned (.int .i64 r) ∧ Below b (X.alloc (.cells #[.bool d.neg, .string d.ds, .int .i64 d.sc] 23)) w' := by
 subst hb hr
 have h := Has.new X (.bool d.neg) (.string d.ds) (.int .i64 d.sc) 23
 exact (check_one d hz X.heap.size _ h.lt h.1 h.2.1 h.2.2.1).mono fun e w' ⟨he, hB⟩ => ⟨he, hB.mono (by simp)⟩
theorem check_at2 (d d2 : Dec) (hz : d.ds.size ≤ maxLen) (hz2 : d2.ds.size ≤ maxLen) (r : Int) (hr : chk1 (vB d && vB d2) = r) (b : Nat) (X : World) (hb : b = X.heap.size) :
  Calls Tryz.prog 100 #[.slice (some ⟨b, 0, none⟩) 2 2] (X.alloc (.cells #[.bool d.neg, .string d.ds, .int .i64 d.sc, .bool d2.neg, .string d2.ds, .int .i64 d2.sc] 23)) fun e w' => e = .returned (.int .i64 r) ∧ Below b (X.alloc (.cells #[.bool d.neg, .string d.ds, .int .i64 d.sc, .bool d2.neg, .string d2.ds, .int .i64 d2.sc] 23)) w' := by
 subst hb hr
 have h : ∀ i v, #[Value.bool d.neg, .string d.ds, .int .i64 d.sc, .bool d2.neg, .string d2.ds, .int .i64 d2.sc][i]? = some v → (X.alloc (.cells #[.bool d.neg, .string d.ds, .int .i64 d.sc, .bool d2.neg, .string d2.ds, .int .i64 d2.sc] 23)).cell? ⟨X.heap.size, i, none⟩ = some v := fun i v hv => by
  rw [cell_of_row _ X.heap.size i _ _ _ (heap_alloc_last X _)]
  exact hv
 exact (check_two d d2 hz hz2 X.heap.size _ (by simp) (h 0 _ rfl) (h 1 _ rfl) (h 2 _ rfl) (h 3 _ rfl) (h 4 _ rfl) (h 5 _ rfl)).mono fun e w' ⟨he, hB⟩ => ⟨he, hB.mono (by simp)⟩
theorem past {X W : World} {b : Nat} {o : Obj} (hb : b = X.heap.size) (h : Below b (X.alloc o) W) : Below X.heap.size X W := by
 subst hb
 exact ((Below.refl _ _).alloc (Nat.le_refl _) o).trans h
theorem p_check (a : Dec) (za : a.ds.size ≤ maxLen) (w : World) : Calls Tryz.prog 59 #[a.v] w fun e w' => e = .returned (.int .i64 (chkR a)) ∧ Below w.heap.size w w' := by
 have cC := check_at a za (chkR a) (chk_R a)
 obtain ⟨neg, ds, sc⟩ := a
 unfold Dec.v
 simp only at cC
 generalize chkR ⟨neg, ds, sc⟩ = r at cC ⊢
 go_enter Tryz.func59, Tryz.ntmps59
 go_wp2_with fail
 refine (cC _ _ (by simp)).mono ?_
 rintro e w1 ⟨rfl, b1⟩
 have HB := Lib.hid (((Below.refl w.heap.size w).alloc (Nat.le_refl _) _).trans ((past (by simp) b1).mono (by simp)))
 clear b1
 go_wp2
 go_ret
 exact ⟨rfl, HB.out⟩
theorem popp_valid {a : Dec} (h : Valid a) : (⟨!a.neg && !(!a.neg && (a.ds.toList == [48]) && decide (a.sc = 0)), a.ds, a.sc⟩ : Dec) = ⟨!a.neg && decide (num a ≠ 0), a.ds, a.sc⟩ := by
 have h0 := is_zero h
 have hz := h.is.zero
 have hs := h.sc
 obtain ⟨neg, ds, sc⟩ := a
 simp only at h0 hz hs ⊢
 rw [h0]
 congr 1
 cases neg with
 | true => rfl
 | false =>
  by_cases hn : num ⟨false, ds, sc⟩ = 0
  ·have h2 := (hz hn).2
   have h3 : sc = 0 := by rw [hs, h2]; rfl
   simp [h3]
  ·simp [hn]
end Go.Proofs.YtmdnijehoagamaaGreatDoor
namespace Go.Proofs.YtmdnijehoagamaaGreatDoor
set_option maxRecDepth 100000
set_option maxHeartbeats 8000000
open Go.RowKit
theorem dec_lt {a : Dec} {n s : Nat} (h : IsDec a n s) (k : Nat) (hk : k ≤ 60) : n * 10 ^ k < 10 ^ 126 := by
 have h1 := h.num.lt
 have h2 : a.ds.size ≤ 60 := by rw [h.ds, numS_size]; exact h.len
 have h3 : n < 10 ^ 60 := Nat.lt_of_lt_of_le h1 (Nat.pow_le_pow_right (by omega) h2)
 have h4 : n * 10 ^ k < 10 ^ 60 * 10 ^ k := Nat.mul_lt_mul_of_pos_right h3 (Nat.pow_pos (by omega))
 rw [← Nat.pow_add] at h4
 exact Nat.lt_of_lt_of_le h4 (Nat.pow_le_pow_right (by omega) (by omega))
theorem dec_size {a : Dec} {n s : Nat} (h : IsDec a n s) : a.ds.size ≤ 60 := by rw [h.ds, numS_size]; exact h.len
theorem dec_same {a b : Dec} {n m s t : Nat} (ha : IsDec a n s) (hb : IsDec b m t) (h : n * 10 ^ (max s t - s) = m * 10 ^ (max s t - t)) : n = m ∧ s = t := by
 have key : ∀ {a b : Dec} {n m s t : Nat}, IsDec a n s → IsDec b m t → n * 10 ^ (max s t - s) = m * 10 ^ (max s t - t) → ¬ s < t := fun {a b n m s t} ha hb h hlt => by
  rw [show max s t - t = 0 by omega, Nat.pow_zero, Nat.mul_one] at h
  obtain ⟨j, hj⟩ : ∃ j, max s t - s = j + 1 := ⟨max s t - s - 1, by omega⟩
  rw [hj, Nat.pow_succ, ← Nat.mul_assoc] at h
  exact hb.last (by omega) (by omega)
 have h1 := key ha hb h
 have h2 := key hb ha (by rw [Nat.max_comm]; exact h.symm)
 have e : s = t := by omega
 subst e
 rw [Nat.max_self, Nat.sub_self, Nat.pow_zero, Nat.mul_one, Nat.mul_one] at h
 exact ⟨h, rfl⟩
def cmpP (neg1 : Bool) (x : Nat) (neg2 : Bool) (y : Nat) : Int := if (neg1 && neg2) = true then cmpN y x else if neg1 = true then -1 else if neg2 = true then 1 else cmpN x y
theorem cmpP_ord {a b : Dec} (ha : Valid a) (hb : Valid b) : cmpP a.neg (num a * 10 ^ (max (scl a) (scl b) - scl a)) b.neg (num b * 10 ^ (max (scl a) (scl b) - scl b)) = ordS a b := by
 have hs := dec_same ha.is hb.is
 have h1 := ha.sc
 have h2 := hb.sc
 have d1 := ha.is.ds
 have d2 := hb.is.ds
 have hne : ¬ (a.neg = b.neg ∧ a.ds = b.ds ∧ a.sc = b.sc) → a.neg = b.neg → num a * 10 ^ (max (scl a) (scl b) - scl a) ≠ num b * 10 ^ (max (scl a) (scl b) - scl b) := fun h hn e => by
  obtain ⟨e1, e2⟩ := hs e
  exact h ⟨hn, by rw [d1, d2, e1], by rw [h1, h2, e2]⟩
 have heq : (a.neg = b.neg ∧ a.ds = b.ds ∧ a.sc = b.sc) → num a * 10 ^ (max (scl a) (scl b) - scl a) = num b * 10 ^ (max (scl a) (scl b) - scl b) := fun h => by
  have e1 : num a = num b := by unfold num; rw [h.2.1]
  have e2 : scl a = scl b := by unfold scl; rw [h.2.2]
  rw [e1, e2]
 unfold ordS
 by_cases h : a.neg = b.neg ∧ a.ds = b.ds ∧ a.sc = b.sc
 ·rw [if_pos h, heq h, ← h.1]
  unfold cmpP cmpN
  cases a.neg <;> simp
 ·rw [if_neg h]
  have hne2 := hne h
  clear hne heq hs h h1 h2 d1 d2
  generalize num a * 10 ^ (max (scl a) (scl b) - scl a) = x at *
  generalize num b * 10 ^ (max (scl a) (scl b) - scl b) = y at *
  generalize a.neg = p at *
  generalize b.neg = q at *
  unfold cmpP cmpSpec cmpN
  cases p <;> cases q <;> simp at hne2 ⊢
  ·rcases Nat.lt_or_ge x y with h | h
   ·simp [h]
   ·simp [show ¬ x < y by omega, hne2]
  ·rcases Nat.lt_or_ge x y with h | h
   ·simp [h, show ¬ y < x by omega, show ¬ y = x by omega]
   ·simp [show y < x by omega, show ¬ x < y by omega]
theorem two_nat (w : World) (f g : Nat → Int) :
  Blk ((w.alloc (.cells (natL fun _ => 0).toArray 125)).alloc (.cells (natL fun _ => 0).toArray 125)) w.heap.size (fun _ => 0) ∧
  Blk (((w.alloc (.cells (natL fun _ => 0).toArray 125)).alloc (.cells (natL fun _ => 0).toArray 125)).setRow w.heap.size (natL f).toArray) (w.heap.size + 1) (fun _ => 0) ∧
  Blk ((((w.alloc (.cells (natL fun _ => 0).toArray 125)).alloc (.cells (natL fun _ => 0).toArray 125)).setRow w.heap.size (natL f).toArray).setRow (w.heap.size + 1) (natL g).toArray) w.heap.size f ∧
  Blk ((((w.alloc (.cells (natL fun _ => 0).toArray 125)).alloc (.cells (natL fun _ => 0).toArray 125)).setRow w.heap.size (natL f).toArray).setRow (w.heap.size + 1) (natL g).toArray) (w.heap.size + 1) g ∧
  Below w.heap.size w ((((w.alloc (.cells (natL fun _ => 0).toArray 125)).alloc (.cells (natL fun _ => 0).toArray 125)).setRow w.heap.size (natL f).toArray).setRow (w.heap.size + 1) (natL g).toArray) := by
 have k1 := (Blk.new w (fun _ => 0)).alloc (.cells (natL fun _ => 0).toArray 125)
 have k2 := Blk.new (w.alloc (.cells (natL fun _ => 0).toArray 125)) (fun _ => 0)
 rw [World.size_alloc] at k2
 have k3 : Blk _ w.heap.size f := setRow_heap _ _ _ (natL f).toArray _ _ k1
 have k4 : Blk _ (w.heap.size + 1) (fun _ => 0) := (setRow_other _ w.heap.size (w.heap.size + 1) (natL f).toArray (by omega)).trans k2
 refine ⟨k1, k4, (setRow_other _ (w.heap.size + 1) w.heap.size (natL g).toArray (by omega)).trans k3, setRow_heap _ _ _ (natL g).toArray _ _ k4, ?_⟩
 exact below_row (below_row (((Below.refl w.heap.size w).alloc (Nat.le_refl _) _).alloc (by simp) _) (Nat.le_refl _) _) (by omega) _
theorem two_lit (w : World) (f g : Nat → Int) :
  Blk ((w.alloc (.cells #[.int .i64 0, .int .i64 0, .int .i64 0, .int .i64 0, .int .i64 0, .int .i64 0, .int .i64 0, .int .i64 0, .int .i64 0, .int .i64 0, .int .i64 0, .int .i64 0, .int .i64 0, .int .i64 0] 125)).alloc (.cells #[.int .i64 0, .int .i64 0, .int .i64 0, .int .i64 0, .int .i64 0, .int .i64 0, .int .i64 0, .int .i64 0, .int .i64 0, .int .i64 0, .int .i64 0, .int .i64 0, .int .i64 0, .int .i64 0] 125)) w.heap.size (fun _ => 0) ∧
  Blk (((w.alloc (.cells #[.int .i64 0, .int .i64 0, .int .i64 0, .int .i64 0, .int .i64 0, .int .i64 0, .int .i64 0, .int .i64 0, .int .i64 0, .int .i64 0, .int .i64 0, .int .i64 0, .int .i64 0, .int .i64 0] 125)).alloc (.cells #[.int .i64 0, .int .i64 0, .int .i64 0, .int .i64 0, .int .i64 0, .int .i64 0, .int .i64 0, .int .i64 0, .int .i64 0, .int .i64 0, .int .i64 0, .int .i64 0, .int .i64 0, .int .i64 0] 125)).setRow w.heap.size (natL f).toArray) (w.heap.size + 1) (fun _ => 0) ∧
  Blk ((((w.alloc (.cells #[.int .i64 0, .int .i64 0, .int .i64 0, .int .i64 0, .int .i64 0, .int .i64 0, .int .i64 0, .int .i64 0, .int .i64 0, .int .i64 0, .int .i64 0, .int .i64 0, .int .i64 0, .int .i64 0] 125)).alloc (.cells #[.int .i64 0, .int .i64 0, .int .i64 0, .int .i64 0, .int .i64 0, .int .i64 0, .int .i64 0, .int .i64 0, .int .i64 0, .int .i64 0, .int .i64 0, .int .i64 0, .int .i64 0, .int .i64 0] 125)).setRow w.heap.size (natL f).toArray).setRow (w.heap.size + 1) (natL g).toArray) w.heap.size f ∧
  Blk ((((w.alloc (.cells #[.int .i64 0, .int .i64 0, .int .i64 0, .int .i64 0, .int .i64 0, .int .i64 0, .int .i64 0, .int .i64 0, .int .i64 0, .int .i64 0, .int .i64 0, .int .i64 0, .int .i64 0, .int .i64 0] 125)).alloc (.cells #[.int .i64 0, .int .i64 0, .int .i64 0, .int .i64 0, .int .i64 0, .int .i64 0, .int .i64 0, .int .i64 0, .int .i64 0, .int .i64 0, .int .i64 0, .int .i64 0, .int .i64 0, .int .i64 0] 125)).setRow w.heap.size (natL f).toArray).setRow (w.heap.size + 1) (natL g).toArray) (w.heap.size + 1) g ∧
  Below w.heap.size w ((((w.alloc (.cells #[.int .i64 0, .int .i64 0, .int .i64 0, .int .i64 0, .int .i64 0, .int .i64 0, .int .i64 0, .int .i64 0, .int .i64 0, .int .i64 0, .int .i64 0, .int .i64 0, .int .i64 0, .int .i64 0] 125)).alloc (.cells #[.int .i64 0, .int .i64 0, .int .i64 0, .int .i64 0, .int .i64 0, .int .i64 0, .int .i64 0, .int .i64 0, .int .i64 0, .int .i64 0, .int .i64 0, .int .i64 0, .int .i64 0, .int .i64 0] 125)).setRow w.heap.size (natL f).toArray).setRow (w.heap.size + 1) (natL g).toArray) := two_nat w f g
theorem p_cmp (a b : Dec) (za : a.ds.size ≤ 400) (zb : b.ds.size ≤ 400) (w : World) : Calls Tryz.prog 99 #[a.v, b.v] w fun e w' => e = .returned (.tuple #[.int .i64 (cmpS a b).1, .int .i64 (cmpS a b).2]) ∧ Below w.heap.size w w' := by
 by_cases h : Valid a ∧ Valid b
 ·have hd : cmpS a b = (ordS a b, 0) := by unfold cmpS; rw [if_pos h]
  have cC := check_at2 a b (by unfold maxLen; omega) (by unfold maxLen; omega) 0 (by rw [vB_ok h.1, vB_ok h.2]; rfl)
  have ha := h.1.is
  have hb := h.2.is
  have hord := cmpP_ord h.1 h.2
  obtain ⟨M, hM⟩ : ∃ M, max (scl a) (scl b) = M := ⟨_, rfl⟩
  rw [hM] at hord
  have hx := dec_lt ha (M - scl a) (by have := ha.le; have := hb.le; omega)
  have hy := dec_lt hb (M - scl b) (by have := ha.le; have := hb.le; omega)
  have cA := fun W => aligned_call a.neg b.neg a.ds b.ds (scl a) (scl b) (num a) (num b) M ha.num hb.num (dec_size ha) (dec_size hb) ha.le hb.le hM W
  rw [hd, ← hord, ← h.1.sc, ← h.2.sc] at *
  clear ha hb hord hM hd h
  generalize num a * 10 ^ (M - scl a) = x at *
  generalize num b * 10 ^ (M - scl b) = y at *
  have c1 := fun W => cmp_call x y hx hy W
  have c2 := fun W => cmp_call y x hy hx W
  unfold natV arrV at cA c1 c2
  obtain ⟨neg1, d1, s1⟩ := a
  obtain ⟨neg2, d2, s2⟩ := b
  unfold Dec.v
  simp only at cC cA za zb ⊢
  clear hx hy
  cases neg1 with
  | true =>
   cases neg2 with
   | true =>
    go_enter Tryz.func99, Tryz.ntmps99
    go_wp2_with fail
    refine (cC _ _ (by simp)).mono ?_
    rintro e w1 ⟨rfl, b1⟩
    have b1 := past (by simp) b1
    have K0 := ((Has.new w (.bool true) (.string d1) (.int .i64 s1) 23).alloc (.cells #[.bool true, .string d2, .int .i64 s2] 23)).call b1
    have K1 := (Has.new (w.alloc (.cells #[.bool true, .string d1, .int .i64 s1] 23)) (.bool true) (.string d2) (.int .i64 s2) 23).call b1
    rw [World.size_alloc] at K1
    have hB1 : Below w.heap.size w w1 := (((Below.refl w.heap.size w).alloc (Nat.le_refl _) _).alloc (by simp) _).trans (b1.mono (by simp; omega))
    have HK := Lib.hid (And.intro K0 (And.intro K1 hB1))
    obtain ⟨x0, x1, x2, f0, f1, f2, _⟩ := K0
    obtain ⟨y0, y1, y2, g0, g1, g2, _⟩ := K1
    clear b1 hB1 cC
    go_wp2_with (first
     | (go_at_call 121; refine (cA _).mono ?_; rintro e w2 ⟨rfl, b2⟩; obtain ⟨n1, n2, n3, n4, n5⟩ := two_lit w2 (ptsOf x) (ptsOf y); have HN := Lib.hid (And.intro n3 (And.intro n4 n5)); clear n3 n4 n5; have hL := HK.out.1.lt; have hL2 := HK.out.2.1.lt; have B2 := Lib.hid b2; clear b2 x0 x1 x2 f0 f1 f2 y0 y1 y2 g0 g1 g2)
     | (refine wpList_store_row rfl 125 _ _ rfl w2.heap.size _ rfl rfl 125 _ n1 (nat_size _) (by simp [natL_len]) (nat_one _) ?_)
     | (refine wpList_store_row rfl 125 _ _ rfl (w2.heap.size + 1) _ rfl rfl 125 _ n2 (nat_size _) (by simp [natL_len]) (nat_one _) ?_; obtain ⟨n3, n4, n5⟩ := HN.out; obtain ⟨W4, hW4⟩ : ∃ W4, ((((w2.alloc (.cells #[.int .i64 0, .int .i64 0, .int .i64 0, .int .i64 0, .int .i64 0, .int .i64 0, .int .i64 0, .int .i64 0, .int .i64 0, .int .i64 0, .int .i64 0, .int .i64 0, .int .i64 0, .int .i64 0] 125)).alloc (.cells #[.int .i64 0, .int .i64 0, .int .i64 0, .int .i64 0, .int .i64 0, .int .i64 0, .int .i64 0, .int .i64 0, .int .i64 0, .int .i64 0, .int .i64 0, .int .i64 0, .int .i64 0, .int .i64 0] 125)).setRow w2.heap.size (natL (ptsOf x)).toArray).setRow (w2.heap.size + 1) (natL (ptsOf y)).toArray) = W4 := ⟨_, rfl⟩; rw [hW4] at n3 n4 n5 ⊢; clear hW4 n1 n2 HN; obtain ⟨x0, x1, x2, f0, f1, f2, _⟩ := (HK.out.1.call B2.out).call n5; obtain ⟨y0, y1, y2, g0, g1, g2, _⟩ := (HK.out.2.1.call B2.out).call n5; have HB4 := Lib.hid (HK.out.2.2.trans ((B2.out.trans (n5.mono B2.out.size)).mono HK.out.2.2.size)); clear n5 hL hL2)
     | (refine wpList_load_row rfl 125 _ rfl w2.heap.size rfl 125 _ (0, 0) _ n3 Tryz.underlying125 rfl (nat_size _) ?_)
     | (refine wpList_load_row rfl 125 _ rfl (w2.heap.size + 1) rfl 125 _ (0, 0) _ n4 Tryz.underlying125 rfl (nat_size _) ?_)
     | (go_at_call 125; refine (c2 _).mono ?_; rintro e w5 ⟨rfl, b5⟩; have HB5 := Lib.hid (HB4.out.trans (b5.mono HB4.out.size)); clear b5))
    go_ret2
    exact ⟨rfl, HB5.out⟩
   | false =>
    go_enter Tryz.func99, Tryz.ntmps99
    go_wp2_with fail
    refine (cC _ _ (by simp)).mono ?_
    rintro e w1 ⟨rfl, b1⟩
    have b1 := past (by simp) b1
    have K0 := ((Has.new w (.bool true) (.string d1) (.int .i64 s1) 23).alloc (.cells #[.bool false, .string d2, .int .i64 s2] 23)).call b1
    have K1 := (Has.new (w.alloc (.cells #[.bool true, .string d1, .int .i64 s1] 23)) (.bool false) (.string d2) (.int .i64 s2) 23).call b1
    rw [World.size_alloc] at K1
    have hB1 : Below w.heap.size w w1 := (((Below.refl w.heap.size w).alloc (Nat.le_refl _) _).alloc (by simp) _).trans (b1.mono (by simp; omega))
    have HK := Lib.hid (And.intro K0 (And.intro K1 hB1))
    obtain ⟨x0, x1, x2, f0, f1, f2, _⟩ := K0
    obtain ⟨y0, y1, y2, g0, g1, g2, _⟩ := K1
    clear b1 hB1 cC
    go_wp2_with (first
     | (go_at_call 121; refine (cA _).mono ?_; rintro e w2 ⟨rfl, b2⟩; obtain ⟨n1, n2, n3, n4, n5⟩ := two_lit w2 (ptsOf x) (ptsOf y); have HN := Lib.hid (And.intro n3 (And.intro n4 n5)); clear n3 n4 n5; have hL := HK.out.1.lt; have hL2 := HK.out.2.1.lt; have B2 := Lib.hid b2; clear b2 x0 x1 x2 f0 f1 f2 y0 y1 y2 g0 g1 g2)
     | (refine wpList_store_row rfl 125 _ _ rfl w2.heap.size _ rfl rfl 125 _ n1 (nat_size _) (by simp [natL_len]) (nat_one _) ?_)
     | (refine wpList_store_row rfl 125 _ _ rfl (w2.heap.size + 1) _ rfl rfl 125 _ n2 (nat_size _) (by simp [natL_len]) (nat_one _) ?_; obtain ⟨n3, n4, n5⟩ := HN.out; obtain ⟨W4, hW4⟩ : ∃ W4, ((((w2.alloc (.cells #[.int .i64 0, .int .i64 0, .int .i64 0, .int .i64 0, .int .i64 0, .int .i64 0, .int .i64 0, .int .i64 0, .int .i64 0, .int .i64 0, .int .i64 0, .int .i64 0, .int .i64 0, .int .i64 0] 125)).alloc (.cells #[.int .i64 0, .int .i64 0, .int .i64 0, .int .i64 0, .int .i64 0, .int .i64 0, .int .i64 0, .int .i64 0, .int .i64 0, .int .i64 0, .int .i64 0, .int .i64 0, .int .i64 0, .int .i64 0] 125)).setRow w2.heap.size (natL (ptsOf x)).toArray).setRow (w2.heap.size + 1) (natL (ptsOf y)).toArray) = W4 := ⟨_, rfl⟩; rw [hW4] at n3 n4 n5 ⊢; clear hW4 n1 n2 HN; obtain ⟨x0, x1, x2, f0, f1, f2, _⟩ := (HK.out.1.call B2.out).call n5; obtain ⟨y0, y1, y2, g0, g1, g2, _⟩ := (HK.out.2.1.call B2.out).call n5; have HB4 := Lib.hid (HK.out.2.2.trans ((B2.out.trans (n5.mono B2.out.size)).mono HK.out.2.2.size)); clear n5 hL hL2)
     | fail)
    go_ret2
    exact ⟨rfl, HB4.out⟩
  | false =>
   cases neg2 with
   | true =>
    go_enter Tryz.func99, Tryz.ntmps99
    go_wp2_with fail
    refine (cC _ _ (by simp)).mono ?_
    rintro e w1 ⟨rfl, b1⟩
    have b1 := past (by simp) b1
    have K0 := ((Has.new w (.bool false) (.string d1) (.int .i64 s1) 23).alloc (.cells #[.bool true, .string d2, .int .i64 s2] 23)).call b1
    have K1 := (Has.new (w.alloc (.cells #[.bool false, .string d1, .int .i64 s1] 23)) (.bool true) (.string d2) (.int .i64 s2) 23).call b1
    rw [World.size_alloc] at K1
    have hB1 : Below w.heap.size w w1 := (((Below.refl w.heap.size w).alloc (Nat.le_refl _) _).alloc (by simp) _).trans (b1.mono (by simp; omega))
    have HK := Lib.hid (And.intro K0 (And.intro K1 hB1))
    obtain ⟨x0, x1, x2, f0, f1, f2, _⟩ := K0
    obtain ⟨y0, y1, y2, g0, g1, g2, _⟩ := K1
    clear b1 hB1 cC
    go_wp2_with (first
     | (go_at_call 121; refine (cA _).mono ?_; rintro e w2 ⟨rfl, b2⟩; obtain ⟨n1, n2, n3, n4, n5⟩ := two_lit w2 (ptsOf x) (ptsOf y); have HN := Lib.hid (And.intro n3 (And.intro n4 n5)); clear n3 n4 n5; have hL := HK.out.1.lt; have hL2 := HK.out.2.1.lt; have B2 := Lib.hid b2; clear b2 x0 x1 x2 f0 f1 f2 y0 y1 y2 g0 g1 g2)
     | (refine wpList_store_row rfl 125 _ _ rfl w2.heap.size _ rfl rfl 125 _ n1 (nat_size _) (by simp [natL_len]) (nat_one _) ?_)
     | (refine wpList_store_row rfl 125 _ _ rfl (w2.heap.size + 1) _ rfl rfl 125 _ n2 (nat_size _) (by simp [natL_len]) (nat_one _) ?_; obtain ⟨n3, n4, n5⟩ := HN.out; obtain ⟨W4, hW4⟩ : ∃ W4, ((((w2.alloc (.cells #[.int .i64 0, .int .i64 0, .int .i64 0, .int .i64 0, .int .i64 0, .int .i64 0, .int .i64 0, .int .i64 0, .int .i64 0, .int .i64 0, .int .i64 0, .int .i64 0, .int .i64 0, .int .i64 0] 125)).alloc (.cells #[.int .i64 0, .int .i64 0, .int .i64 0, .int .i64 0, .int .i64 0, .int .i64 0, .int .i64 0, .int .i64 0, .int .i64 0, .int .i64 0, .int .i64 0, .int .i64 0, .int .i64 0, .int .i64 0] 125)).setRow w2.heap.size (natL (ptsOf x)).toArray).setRow (w2.heap.size + 1) (natL (ptsOf y)).toArray) = W4 := ⟨_, rfl⟩; rw [hW4] at n3 n4 n5 ⊢; clear hW4 n1 n2 HN; obtain ⟨x0, x1, x2, f0, f1, f2, _⟩ := (HK.out.1.call B2.out).call n5; obtain ⟨y0, y1, y2, g0, g1, g2, _⟩ := (HK.out.2.1.call B2.out).call n5; have HB4 := Lib.hid (HK.out.2.2.trans ((B2.out.trans (n5.mono B2.out.size)).mono HK.out.2.2.size)); clear n5 hL hL2)
     | fail)
    go_ret2
    exact ⟨rfl, HB4.out⟩
   | false =>
    go_enter Tryz.func99, Tryz.ntmps99
    go_wp2_with fail
    refine (cC _ _ (by simp)).mono ?_
    rintro e w1 ⟨rfl, b1⟩
    have b1 := past (by simp) b1
    have K0 := ((Has.new w (.bool false) (.string d1) (.int .i64 s1) 23).alloc (.cells #[.bool false, .string d2, .int .i64 s2] 23)).call b1
    have K1 := (Has.new (w.alloc (.cells #[.bool false, .string d1, .int .i64 s1] 23)) (.bool false) (.string d2) (.int .i64 s2) 23).call b1
    rw [World.size_alloc] at K1
    have hB1 : Below w.heap.size w w1 := (((Below.refl w.heap.size w).alloc (Nat.le_refl _) _).alloc (by simp) _).trans (b1.mono (by simp; omega))
    have HK := Lib.hid (And.intro K0 (And.intro K1 hB1))
    obtain ⟨x0, x1, x2, f0, f1, f2, _⟩ := K0
    obtain ⟨y0, y1, y2, g0, g1, g2, _⟩ := K1
    clear b1 hB1 cC
    go_wp2_with (first
     | (go_at_call 121; refine (cA _).mono ?_; rintro e w2 ⟨rfl, b2⟩; obtain ⟨n1, n2, n3, n4, n5⟩ := two_lit w2 (ptsOf x) (ptsOf y); have HN := Lib.hid (And.intro n3 (And.intro n4 n5)); clear n3 n4 n5; have hL := HK.out.1.lt; have hL2 := HK.out.2.1.lt; have B2 := Lib.hid b2; clear b2 x0 x1 x2 f0 f1 f2 y0 y1 y2 g0 g1 g2)
     | (refine wpList_store_row rfl 125 _ _ rfl w2.heap.size _ rfl rfl 125 _ n1 (nat_size _) (by simp [natL_len]) (nat_one _) ?_)
     | (refine wpList_store_row rfl 125 _ _ rfl (w2.heap.size + 1) _ rfl rfl 125 _ n2 (nat_size _) (by simp [natL_len]) (nat_one _) ?_; obtain ⟨n3, n4, n5⟩ := HN.out; obtain ⟨W4, hW4⟩ : ∃ W4, ((((w2.alloc (.cells #[.int .i64 0, .int .i64 0, .int .i64 0, .int .i64 0, .int .i64 0, .int .i64 0, .int .i64 0, .int .i64 0, .int .i64 0, .int .i64 0, .int .i64 0, .int .i64 0, .int .i64 0, .int .i64 0] 125)).alloc (.cells #[.int .i64 0, .int .i64 0, .int .i64 0, .int .i64 0, .int .i64 0, .int .i64 0, .int .i64 0, .int .i64 0, .int .i64 0, .int .i64 0, .int .i64 0, .int .i64 0, .int .i64 0, .int .i64 0] 125)).setRow w2.heap.size (natL (ptsOf x)).toArray).setRow (w2.heap.size + 1) (natL (ptsOf y)).toArray) = W4 := ⟨_, rfl⟩; rw [hW4] at n3 n4 n5 ⊢; clear hW4 n1 n2 HN; obtain ⟨x0, x1, x2, f0, f1, f2, _⟩ := (HK.out.1.call B2.out).call n5; obtain ⟨y0, y1, y2, g0, g1, g2, _⟩ := (HK.out.2.1.call B2.out).call n5; have HB4 := Lib.hid (HK.out.2.2.trans ((B2.out.trans (n5.mono B2.out.size)).mono HK.out.2.2.size)); clear n5 hL hL2)
     | (refine wpList_load_row rfl 125 _ rfl w2.heap.size rfl 125 _ (0, 0) _ n3 Tryz.underlying125 rfl (nat_size _) ?_)
     | (refine wpList_load_row rfl 125 _ rfl (w2.heap.size + 1) rfl 125 _ (0, 0) _ n4 Tryz.underlying125 rfl (nat_size _) ?_)
     | (go_at_call 125; refine (c1 _).mono ?_; rintro e w5 ⟨rfl, b5⟩; have HB5 := Lib.hid (HB4.out.trans (b5.mono HB4.out.size)); clear b5))
    go_ret2
    exact ⟨rfl, HB5.out⟩
 ·have hd : cmpS a b = (0, 2) := by unfold cmpS; rw [if_neg h]
  have hv : chk1 (vB a && vB b) = 2 := by
   by_cases h1 : Valid a
   ·rw [vB_bad (fun h2 => h ⟨h1, h2⟩), Bool.and_false]; rfl
   ·rw [vB_bad h1, Bool.false_and]; rfl
  have cC := check_at2 a b (by unfold maxLen; omega) (by unfold maxLen; omega) 2 hv
  rw [hd]
  obtain ⟨neg1, d1, s1⟩ := a
  obtain ⟨neg2, d2, s2⟩ := b
  unfold Dec.v
  simp only at cC za zb ⊢
  clear hd hv h
  go_enter Tryz.func99, Tryz.ntmps99
  go_wp2_with fail
  refine (cC _ _ (by simp)).mono ?_
  rintro e w1 ⟨rfl, b1⟩
  have b1 := past (by simp) b1
  have HB := Lib.hid ((((Below.refl w.heap.size w).alloc (Nat.le_refl _) _).alloc (by simp) _).trans (b1.mono (by simp; omega)))
  clear b1
  go_wp2
  go_ret2
  exact ⟨rfl, HB.out⟩
end Go.Proofs.YtmdnijehoagamaaGreatDoor
