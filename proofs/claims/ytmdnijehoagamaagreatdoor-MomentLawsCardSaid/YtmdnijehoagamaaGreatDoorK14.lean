/- PU PF PV PW PX -/
import Derived.Test.YtmdnijehoagamaaGreatDoorK13
set_option linter.unusedVariables false
set_option linter.unusedSimpArgs false
namespace Go.Proofs.YtmdnijehoagamaaGreatDoor
set_option maxRecDepth 100000
set_option maxHeartbeats 8000000
open Go.RowKit
theorem opp_valid2 {b : Dec} (h : Valid b) : Valid ⟨!b.neg && decide (num b ≠ 0), b.ds, b.sc⟩ := by
 have h1 := h.is
 refine ⟨num b, scl b, h1.ds, h1.sc, h1.len, h1.le, fun h0 => ⟨by simp [h0], (h1.zero h0).2⟩, h1.last⟩
theorem sub_add {a b : Dec} (ha : Valid a) (hb : Valid b) : subS a b = addS a ⟨!b.neg && decide (num b ≠ 0), b.ds, b.sc⟩ := by
 unfold subS addS
 rw [if_pos ⟨ha, hb⟩, if_pos ⟨ha, opp_valid2 hb⟩]
 rfl
theorem res_tabs {w W : World} {a0 a1 a2 b0 b1 b2 : Value} (hT : Tabs w) (h : W.cell? ⟨w.heap.size, 0, none⟩ = some a0 ∧ W.cell? ⟨w.heap.size, 1, none⟩ = some a1 ∧ W.cell? ⟨w.heap.size, 2, none⟩ = some a2 ∧ W.cell? ⟨w.heap.size + 1, 0, none⟩ = some b0 ∧ W.cell? ⟨w.heap.size + 1, 1, none⟩ = some b1 ∧ W.cell? ⟨w.heap.size + 1, 2, none⟩ = some b2 ∧ ResAt w W) : Tabs W := hT.below h.2.2.2.2.2.2.below hT.size
theorem p_sub (a b : Dec) (za : a.ds.size ≤ 400) (zb : b.ds.size ≤ 400) (w : World) (hT : Tabs w) : Calls Tryz.prog 104 #[a.v, b.v] w fun e w' => e = .returned (subS a b).v ∧ Below w.heap.size w w' := by
 by_cases h : Valid a ∧ Valid b
 ·have cC := check_at2 a b (by unfold maxLen; omega) (by unfold maxLen; omega) 0 (by rw [vB_ok h.1, vB_ok h.2]; rfl)
  have cO := fun W => popp_any b.neg b.ds b.sc W
  rw [popp_valid h.2] at cO
  rw [sub_add h.1 h.2]
  have cA := fun W hW => p_add a ⟨!b.neg && decide (num b ≠ 0), b.ds, b.sc⟩ za zb W hW
  generalize addS a ⟨!b.neg && decide (num b ≠ 0), b.ds, b.sc⟩ = r at cA ⊢
  generalize (!b.neg && decide (num b ≠ 0)) = ng at cO cA
  obtain ⟨⟨dn, dd, dsc⟩, q⟩ := r
  obtain ⟨neg1, a, s⟩ := a
  obtain ⟨neg2, b, t⟩ := b
  unfold DRes.v Dec.v at cA ⊢
  unfold Dec.v at cO
  simp only at cC cA cO za zb ⊢
  have hw6 := hT.size
  have HT := Lib.hid hT
  clear hT h
  go_enter Tryz.func104, Tryz.ntmps104
  go_wp2_with fail
  refine (cC _ _ (by simp)).mono ?_
  rintro e w1 ⟨rfl, b1⟩
  obtain ⟨x0, x1, x2, y0, y1, y2, r0, r1, r2, f0, f1, f2, hB, hz3⟩ := three_all (past (by simp) b1)
  have KS := Lib.hid (And.intro x0 (And.intro x1 (And.intro x2 (And.intro y0 (And.intro y1 (And.intro y2 (ResAt.mk ⟨_, r0⟩ ⟨_, r1⟩ ⟨_, r2⟩ f0 f1 f2 hB hz3)))))))
  clear b1 hB x0 x1 x2 y0 y1 y2 r0 r1 r2 f0 f1 f2 cC
  go_wp2_with fail
  go_region_held3 (fun W => W.cell? ⟨w.heap.size, 0, none⟩ = some (.bool neg1) ∧ W.cell? ⟨w.heap.size, 1, none⟩ = some (.string a) ∧ W.cell? ⟨w.heap.size, 2, none⟩ = some (.int .i64 s) ∧ W.cell? ⟨w.heap.size + 1, 0, none⟩ = some (.bool neg2) ∧ W.cell? ⟨w.heap.size + 1, 1, none⟩ = some (.string b) ∧ W.cell? ⟨w.heap.size + 1, 2, none⟩ = some (.int .i64 t) ∧ ResAt w W)
   (first | exact mul_call KS.out (below_drew1 _) | exact mul_call (by assumption) b8 | exact mul_set (mul_set (mul_set (by assumption) 0 _) 1 _) 2 _)
   (first
    | (go_at_call 134; refine (cO _).mono ?_; rintro e w8 ⟨rfl, b8⟩)
    | (go_at_call 94; refine (cA _ (res_tabs HT.out (by assumption))).mono ?_; rintro e w8 ⟨rfl, b8⟩; have hr := (show ResAt w w8 from (mul_call (by assumption) b8).2.2.2.2.2.2); obtain ⟨⟨v0, q0⟩, ⟨v1, q1⟩, ⟨v2, q2⟩, g0, g1, g2, gB, gz⟩ := hr; have GB := Lib.hid gB))
  all_goals go_wp2
  all_goals exact bodyPost_ret (v := .tuple #[.agg #[.bool dn, .string dd, .int .i64 dsc], .int .i64 q]) (by simp [results, Tryz.results104, go_sem, q0, q1, q2]) rfl ⟨rfl, ((GB.out.setCell (by simp; omega) _).setCell (by simp; omega) _).setCell (by simp; omega) _⟩
 ·have hd : subS a b = argRes := by unfold subS; rw [if_neg h]
  have hv : chk1 (vB a && vB b) = 2 := by
   by_cases h1 : Valid a
   ·rw [vB_bad (fun h2 => h ⟨h1, h2⟩), Bool.and_false]; rfl
   ·rw [vB_bad h1, Bool.false_and]; rfl
  have cC := check_at2 a b (by unfold maxLen; omega) (by unfold maxLen; omega) 2 hv
  rw [hd]
  obtain ⟨neg1, d1, s1⟩ := a
  obtain ⟨neg2, d2, s2⟩ := b
  unfold argRes DRes.v decNil Dec.v
  simp only at cC za zb ⊢
  clear hd hv h
  go_enter Tryz.func104, Tryz.ntmps104
  go_wp2_with fail
  refine (cC _ _ (by simp)).mono ?_
  rintro e w1 ⟨rfl, b1⟩
  obtain ⟨x0, x1, x2, y0, y1, y2, r0, r1, r2, f0, f1, f2, hB, hz3⟩ := three_all (past (by simp) b1)
  have HB := Lib.hid hB
  clear b1 hB
  go_wp2
  exact bodyPost_ret (v := .tuple #[.agg #[.bool false, .string ⟨#[]⟩, .int .i64 0], .int .i64 2]) (by simp [results, Tryz.results104, go_sem, r0, r1, r2]) rfl ⟨rfl, ((HB.out.setCell (by simp; omega) _).setCell (by simp; omega) _).setCell (by simp; omega) _⟩
end Go.Proofs.YtmdnijehoagamaaGreatDoor
namespace Go.Proofs.YtmdnijehoagamaaGreatDoor
open Go.RowKit
def tMul (n m : Nat) : Nat → Int := fun i => cv (ptsOf n) (ptsOf m) i (i + 1)
structure MulAt (w W : World) (n m i : Nat) : Prop where
 x : Blk W w.heap.size (ptsOf n)
 y : Blk W (w.heap.size + 1) (ptsOf m)
 r : Blk W (w.heap.size + 1 + 1) (fun _ => 0)
 c : Cel W (w.heap.size + 1 + 1 + 1) (car (tMul n m) 0 i)
 z : Blk W (w.heap.size + 1 + 1 + 1 + 1) (fun p => if p < i then rpt (tMul n m) 0 p else 0)
 below : Below w.heap.size w W
 size : w.heap.size + 5 ≤ W.heap.size
theorem MulAt.drew {w W : World} {n m i : Nat} (h : MulAt w W n m i) (d : Nat) : MulAt w (W.drewN d) n m i := ⟨h.x, h.y, h.r, h.c, h.z, below_drewN h.below d, h.size⟩
theorem MulAt.drew1 {w W : World} {n m i : Nat} (h : MulAt w W n m i) : MulAt w W.drew n m i := h.drew 1
theorem MulAt.next {w W W2 : World} {n m i : Nat} (h : MulAt w W n m i) (hT : Turn (w.heap.size + 1 + 1 + 1) W W2) (hC : Cel W2 (w.heap.size + 1 + 1 + 1) (car (tMul n m) 0 (i + 1))) : MulAt w (W2.setCell ⟨w.heap.size + 1 + 1 + 1 + 1, i, none⟩ (.int .i64 (rpt (tMul n m) 0 i))) n m (i + 1) := by
 refine ⟨(hT.blk h.x (by omega)).far _ _ (by omega), (hT.blk h.y (by omega)).far _ _ (by omega), (hT.blk h.r (by omega)).far _ _ (by omega), (Below.heap_setCell W2 ⟨w.heap.size + 1 + 1 + 1 + 1, i, none⟩ _ _ (by show w.heap.size + 1 + 1 + 1 ≠ w.heap.size + 1 + 1 + 1 + 1; omega)).trans hC, ?_, (h.below.trans (hT.bel.mono (by omega))).setCell (p := ⟨w.heap.size + 1 + 1 + 1 + 1, i, none⟩) (by show w.heap.size ≤ w.heap.size + 1 + 1 + 1 + 1; omega) _, by rw [World.size_setCell, hT.size]; exact h.size⟩
 have h2 := (hT.blk h.z (by omega)).set i (rpt (tMul n m) 0 i)
 unfold Blk at h2 ⊢
 rw [h2]
 refine congrArg (fun l => some (Obj.cells (List.toArray l) 125 (0, 0))) (natL_congr fun p hp => ?_)
 unfold upd
 by_cases hpi : p = i
 ·subst hpi
  simp
 ·by_cases hlt : p < i
  ·simp [hpi, hlt, show p < i + 1 by omega]
  ·simp [hpi, hlt, show ¬ p < i + 1 by omega]
def MulC (w : World) (neg1 : Bool) (a : ByteArray) (s : Int) (neg2 : Bool) (b : ByteArray) (t : Int) (W : World) : Prop :=
 W.cell? ⟨w.heap.size, 0, none⟩ = some (.bool neg1) ∧ W.cell? ⟨w.heap.size, 1, none⟩ = some (.string a) ∧ W.cell? ⟨w.heap.size, 2, none⟩ = some (.int .i64 s) ∧ W.cell? ⟨w.heap.size + 1, 0, none⟩ = some (.bool neg2) ∧ W.cell? ⟨w.heap.size + 1, 1, none⟩ = some (.string b) ∧ W.cell? ⟨w.heap.size + 1, 2, none⟩ = some (.int .i64 t) ∧ ResAt w W ∧ Tabs W
theorem MulC.call {w W W' : World} {neg1 neg2 : Bool} {a b : ByteArray} {s t : Int} (h : MulC w neg1 a s neg2 b t W) (B : Below W.heap.size W W') : MulC w neg1 a s neg2 b t W' := by
 obtain ⟨h0, h1, h2, h3, h4, h5, h6, h7⟩ := h
 obtain ⟨k0, k1, k2, k3, k4, k5, k6⟩ := mul_call ⟨h0, h1, h2, h3, h4, h5, h6⟩ B
 exact ⟨k0, k1, k2, k3, k4, k5, k6, h7.next B⟩
theorem MulC.set {w W : World} {neg1 neg2 : Bool} {a b : ByteArray} {s t : Int} (h : MulC w neg1 a s neg2 b t W) (hw : 9 ≤ w.heap.size) (j : Nat) (u : Value) : MulC w neg1 a s neg2 b t (W.setCell ⟨w.heap.size + 1 + 1, j, none⟩ u) := by
 obtain ⟨h0, h1, h2, h3, h4, h5, h6, h7⟩ := h
 obtain ⟨k0, k1, k2, k3, k4, k5, k6⟩ := mul_set ⟨h0, h1, h2, h3, h4, h5, h6⟩ j u
 exact ⟨k0, k1, k2, k3, k4, k5, k6, h7.below ((Below.refl 9 W).setCell (p := ⟨w.heap.size + 1 + 1, j, none⟩) (by show 9 ≤ w.heap.size + 1 + 1; omega) u) (Nat.le_refl _)⟩
theorem MulC.res {w W : World} {neg1 neg2 : Bool} {a b : ByteArray} {s t : Int} (h : MulC w neg1 a s neg2 b t W) : ResAt w W := h.2.2.2.2.2.2.1
theorem MulC.tabs {w W : World} {neg1 neg2 : Bool} {a b : ByteArray} {s t : Int} (h : MulC w neg1 a s neg2 b t W) : Tabs W := h.2.2.2.2.2.2.2
theorem MulC.cells {w W : World} {neg1 neg2 : Bool} {a b : ByteArray} {s t : Int} (h : MulC w neg1 a s neg2 b t W) {p : Nat} (hp : w.heap.size + 3 ≤ p) (hw : 9 ≤ w.heap.size) (L : List Value) : MulC w neg1 a s neg2 b t (W.setCells p 0 L) := by
 have e : ∀ k, k < w.heap.size + 3 → (W.setCells p 0 L).heap[k]? = W.heap[k]? := fun k hk => cells_other _ _ (by omega) _ _ _
 have e0 := e w.heap.size (by omega)
 have e1 := e (w.heap.size + 1) (by omega)
 have e2 := e (w.heap.size + 1 + 1) (by omega)
 obtain ⟨h0, h1, h2, h3, h4, h5, ⟨⟨v0, r0⟩, ⟨v1, r1⟩, ⟨v2, r2⟩, f0, f1, f2, hB, hz⟩, h7⟩ := h
 exact ⟨(World.cell?_of_block (w := W) e0).trans h0, (World.cell?_of_block (w := W) e0).trans h1, (World.cell?_of_block (w := W) e0).trans h2,
  (World.cell?_of_block (w := W) e1).trans h3, (World.cell?_of_block (w := W) e1).trans h4, (World.cell?_of_block (w := W) e1).trans h5,
  ⟨⟨v0, (World.cell?_of_block (w := W) e2).trans r0⟩, ⟨v1, (World.cell?_of_block (w := W) e2).trans r1⟩, ⟨v2, (World.cell?_of_block (w := W) e2).trans r2⟩,
   (World.frozen?_of_block (w := W) e2).trans f0, (World.frozen?_of_block (w := W) e2).trans f1, (World.frozen?_of_block (w := W) e2).trans f2, below_cells (by omega) _ _ _ hB, by rw [cells_size]; exact hz⟩,
  h7.below (below_cells (B := 9) (by omega) _ _ _ (Below.refl _ _)) (Nat.le_refl _)⟩
def MulD (w : World) (neg1 : Bool) (a : ByteArray) (s : Int) (neg2 : Bool) (b : ByteArray) (t : Int) (p : Nat) (f : Nat → Int) (W : World) : Prop :=
 MulC w neg1 a s neg2 b t W ∧ Blk W p f ∧ w.heap.size + 3 ≤ p
theorem MulD.call {w W W' : World} {neg1 neg2 : Bool} {a b : ByteArray} {s t : Int} {p : Nat} {f : Nat → Int} (h : MulD w neg1 a s neg2 b t p f W) (B : Below W.heap.size W W') : MulD w neg1 a s neg2 b t p f W' := ⟨h.1.call B, h.2.1.call B, h.2.2⟩
theorem MulD.set {w W : World} {neg1 neg2 : Bool} {a b : ByteArray} {s t : Int} {p : Nat} {f : Nat → Int} (h : MulD w neg1 a s neg2 b t p f W) (hw : 9 ≤ w.heap.size) (j : Nat) (u : Value) : MulD w neg1 a s neg2 b t p f (W.setCell ⟨w.heap.size + 1 + 1, j, none⟩ u) :=
 ⟨h.1.set hw j u, h.2.1.far _ _ (by have := h.2.2; omega), h.2.2⟩
theorem MulD.new {w W : World} {neg1 neg2 : Bool} {a b : ByteArray} {s t : Int} (h : MulC w neg1 a s neg2 b t W) : MulD w neg1 a s neg2 b t W.heap.size (fun _ => 0) (W.alloc (.cells (natL fun _ => 0).toArray 125)) :=
 ⟨h.call ((Below.refl _ _).alloc (Nat.le_refl _) _), Blk.new W _, h.res.size⟩
theorem MulD.cells {w W : World} {neg1 neg2 : Bool} {a b : ByteArray} {s t : Int} {p : Nat} {f : Nat → Int} (h : MulD w neg1 a s neg2 b t p f W) (hw : 9 ≤ w.heap.size) (g : Nat → Int) : MulD w neg1 a s neg2 b t p g (W.setCells p 0 (natL g)) :=
 ⟨h.1.cells h.2.2 hw _, h.2.1.setCells g, h.2.2⟩
end Go.Proofs.YtmdnijehoagamaaGreatDoor
namespace Go.Proofs.YtmdnijehoagamaaGreatDoor
set_option maxRecDepth 100000
set_option maxHeartbeats 16000000
open Go.RowKit
theorem div_scale (n m s t k : Nat) (D : Int) (hD : (k : Int) + (t : Int) - (s : Int) = D) : n * 10 ^ D.toNat / (m * 10 ^ (-D).toNat) = n * 10 ^ (max s t - s) * 10 ^ k / (m * 10 ^ (max s t - t)) := by
 rcases Int.lt_or_le D 0 with h | h
 ·have e1 : D.toNat = 0 := by omega
  have e3 : max s t - s = 0 := by omega
  have e4 : max s t - t = (-D).toNat + k := by omega
  rw [e1, e3, e4, Nat.pow_zero, Nat.mul_one, Nat.pow_add, ← Nat.mul_assoc, Nat.mul_div_mul_right _ _ (Nat.pow_pos (by omega))]
 ·have e1 : (-D).toNat = 0 := by omega
  have e2 : max s t - s + k = D.toNat + (max s t - t) := by omega
  rw [e1, Nat.pow_zero, Nat.mul_one, Nat.mul_assoc, ← Nat.pow_add, e2, Nat.pow_add, ← Nat.mul_assoc, Nat.mul_div_mul_right _ _ (Nat.pow_pos (by omega))]
theorem div_prog (neg1 neg2 : Bool) (a b : ByteArray) (s t n m k : Nat) (ha : IsDec ⟨neg1, a, (s : Int)⟩ n s) (hb : IsDec ⟨neg2, b, (t : Int)⟩ m t) (hm0 : m ≠ 0) (hk : k ≤ 60) (w : World) :
  Calls Tryz.prog 105 #[.agg #[.bool neg1, .string a, .int .i64 (s : Int)], .agg #[.bool neg2, .string b, .int .i64 (t : Int)], .int .i64 (k : Int)] w fun e w' => e = .returned (decR (divSpec neg1 n s neg2 m t k)) ∧ Below w.heap.size w w' := by
 have za := dec_size ha
 have zb := dec_size hb
 simp only at za zb
 have hs := ha.le
 have ht := hb.le
 have cC := check_at2 ⟨neg1, a, (s : Int)⟩ ⟨neg2, b, (t : Int)⟩ (by unfold maxLen; simp only; omega) (by unfold maxLen; simp only; omega) 0 (by rw [vB_ok ⟨_, _, ha⟩, vB_ok ⟨_, _, hb⟩]; rfl)
 have cI := fun W => t_zero neg2 b (t : Int) W
 have hI : (!neg2 && (b.toList == [48]) && decide ((t : Int) = 0)) = false := by
  have hb2 := hb.ds
  simp only at hb2
  have hz : (b.toList == [48]) = false := by
   rw [hb2, numS_toList]
   refine beq_eq_false_iff_ne.2 fun e => hm0 ?_
   have := digs_val m
   rw [e] at this
   exact this.symm
  rw [hz]
  simp
 rw [hI] at cI
 have cS := fun W => t_scale (k : Int) W
 rw [decide_eq_true (show 0 ≤ (k : Int) ∧ (k : Int) ≤ 60 by omega)] at cS
 obtain ⟨D, hD⟩ : ∃ D, (k : Int) + (t : Int) - (s : Int) = D := ⟨_, rfl⟩
 have i1 := num_zeros ha.num D.toNat
 have i2 := num_zeros hb.num (-D).toNat
 have hdiv : n * 10 ^ D.toNat / (m * 10 ^ (-D).toNat) = _ := div_scale n m s t k D hD
 simp only at i1 i2
 have z1 : (a ++ zs D.toNat).size ≤ 200 := by rw [app_size, zs_size]; omega
 have z2 : (b ++ zs (-D).toNat).size ≤ 121 := by rw [app_size, zs_size]; omega
 have cZ1 := fun W => pzeros_call D (by omega) (by omega) W
 have cZ2 := fun W => pzeros_call (-D) (by omega) (by omega) W
 have cN := fun W => of_call (b ++ zs (-D).toNat) i2.all (by omega) W
 rw [i2.val] at cN
 have hmp : 0 < m * 10 ^ (-D).toNat := Nat.mul_pos (by omega) (Nat.pow_pos (by omega))
 have hml : m * 10 ^ (-D).toNat < 10 ^ 121 := by
  have h1 := i2.lt
  exact Nat.lt_of_lt_of_le h1 (Nat.pow_le_pow_right (by omega) z2)
 have cQ := fun W => quo_call (a ++ zs D.toNat) (m * 10 ^ (-D).toNat) i1.all z1 hmp hml W
 rw [i1.val, hdiv] at cQ
 unfold divSpec
 generalize n * 10 ^ (max s t - s) * 10 ^ k / (m * 10 ^ (max s t - t)) = X at cQ ⊢
 generalize m * 10 ^ (-D).toNat = Y at cQ cN
 generalize zs D.toNat = Z1 at *
 generalize zs (-D).toNat = Z2 at *
 have y1 : ¬ 9223372036854775807 < a.size + Z1.size := by rw [← app_size]; omega
 have y2 : ¬ 9223372036854775807 < b.size + Z2.size := by rw [← app_size]; omega
 have hT1 : ∃ T, a ++ Z1 = T := ⟨_, rfl⟩
 have hT2 : ∃ T, b ++ Z2 = T := ⟨_, rfl⟩
 obtain ⟨T1, hT1⟩ := hT1
 obtain ⟨T2, hT2⟩ := hT2
 rw [hT1] at cQ z1
 rw [hT2] at cN
 unfold natV arrV at cN cQ
 have w1 : IntKind.i64.wrap ((k : Int) + (t : Int)) = (k : Int) + (t : Int) := IntWalk.i64_in _ (by omega)
 have w2 : IntKind.i64.wrap ((k : Int) + (t : Int) - (s : Int)) = D := by rw [hD]; exact IntWalk.i64_in _ (by omega)
 have w3 : IntKind.i64.wrap (-D) = -D := IntWalk.i64_in _ (by omega)
 have HZ := Lib.hid z1
 have dl : -1000 ≤ D := by omega
 have dh : D ≤ 1000 := by omega
 have cM : ∀ sq : ByteArray, AllD sq.data.toList → val sq.data.toList = X → sq.size ≤ 200 → ∀ W, Calls Tryz.prog 122 #[.bool (neg1 != neg2), .string sq, .int .i64 (k : Int)] W fun e w' => e = .returned (decR (mkDec (neg1 != neg2) X k)) ∧ Below W.heap.size W w' := fun sq h1 h2 h3 W => by
  have c := decimalOf_call (neg1 != neg2) sq k h1 (by omega) (by omega) W
  rw [h2] at c
  exact c
 unfold decR at cM ⊢
 generalize (mkDec (neg1 != neg2) X k).getD decNil = d at cM ⊢
 generalize (if (mkDec (neg1 != neg2) X k).isSome then (0 : Int) else 7) = q at cM ⊢
 obtain ⟨dn, dd, dsc⟩ := d
 simp only [Dec.v] at cC cM ⊢
 clear ha hb za zb hs ht hm0 hI i1 i2 hdiv z1 z2 hmp hml
 go_enter Tryz.func105, Tryz.ntmps105
 go_wp2_with (first
  | (go_at_call 100; refine (cC _ _ (by simp)).mono ?_; rintro e w1 ⟨rfl, b1⟩; have b1 := past (by simp) b1; obtain ⟨x0, x1, x2, y0, y1, y2, r0, r1, r2, f0, f1, f2, hB, hz3⟩ := three_all b1; have KS := Lib.hid (And.intro x0 (And.intro x1 (And.intro x2 (And.intro y0 (And.intro y1 (And.intro y2 (ResAt.mk ⟨_, r0⟩ ⟨_, r1⟩ ⟨_, r2⟩ f0 f1 f2 hB hz3))))))); clear b1 hB cC r0 r1 r2 f0 f1 f2)
  | (go_at_call 135; refine (cI _).mono ?_; rintro e w2 ⟨rfl, b2⟩; have ks := mul_call KS.out b2; have KS := Lib.hid ks; obtain ⟨x0, x1, x2, y0, y1, y2, _⟩ := ks; clear b2 cI)
  | (go_at_call 136; refine (cS _).mono ?_; rintro e w3 ⟨rfl, rfl⟩))
 clear x0 x1 x2 y0 y1 y2
 go_region_held3 (fun W => W.cell? ⟨w.heap.size, 0, none⟩ = some (.bool neg1) ∧ W.cell? ⟨w.heap.size, 1, none⟩ = some (.string a) ∧ W.cell? ⟨w.heap.size, 2, none⟩ = some (.int .i64 (s : Int)) ∧ W.cell? ⟨w.heap.size + 1, 0, none⟩ = some (.bool neg2) ∧ W.cell? ⟨w.heap.size + 1, 1, none⟩ = some (.string b) ∧ W.cell? ⟨w.heap.size + 1, 2, none⟩ = some (.int .i64 (t : Int)) ∧ ResAt w W)
  (first | exact mul_call KS.out (below_drew1 _) | exact mul_call (by assumption) b8)
  (first
   | (go_at_call 138; refine (cZ1 _).mono ?_; rintro e w8 ⟨rfl, b8⟩)
   | (go_at_call 138; refine (cZ2 _).mono ?_; rintro e w8 ⟨rfl, b8⟩)
   | (go_at_call 139; refine (cN _).mono ?_; rintro e w8 ⟨rfl, b8⟩)
   | (go_at_call 137; refine (cQ _).mono ?_; rintro e w8 ⟨sq, rfl, hq1, hq2, hq3, b8⟩; have HQ := Lib.hid (And.intro hq1 (And.intro hq2 (And.intro hq3 (mul_call (by assumption) b8)))); clear hq1 hq2 hq3))
 obtain ⟨hq1, hq2, hq3, hq4⟩ := HQ.out
 have cM := cM sq hq1 hq2 (by have := HZ.out; omega)
 have H4 := Lib.hid hq4
 obtain ⟨x0, x1, x2, y0, y1, y2, _⟩ := hq4
 clear hq1 hq2 hq3 HQ KS
 go_wp2_with (go_at_call 122; refine (cM _).mono ?_; rintro e w9 ⟨rfl, b9⟩; have hr := (show ResAt w w9 from (mul_call H4.out b9).2.2.2.2.2.2); obtain ⟨⟨v0, q0⟩, ⟨v1, q1⟩, ⟨v2, q2⟩, g0, g1, g2, gB, gz⟩ := hr; have GB := Lib.hid gB; clear b9 gB)
 exact bodyPost_ret (v := .tuple #[.agg #[.bool dn, .string dd, .int .i64 dsc], .int .i64 q]) (by simp [results, Tryz.results105, go_sem, q0, q1, q2]) rfl ⟨rfl, ((GB.out.setCell (by simp; omega) _).setCell (by simp; omega) _).setCell (by simp; omega) _⟩
theorem p_div (a b : Dec) (k : Int) (za : a.ds.size ≤ 400) (zb : b.ds.size ≤ 400) (w : World) : Calls Tryz.prog 105 #[a.v, b.v, .int .i64 k] w fun e w' => e = .returned (divS a b k).v ∧ Below w.heap.size w w' := by
 by_cases hok : (Valid a ∧ Valid b) ∧ num b ≠ 0 ∧ 0 ≤ k ∧ k ≤ 60
 ·have hd : divS a b k = ofOpt (divSpec a.neg (num a) (scl a) b.neg (num b) (scl b) k.toNat) := by unfold divS; rw [if_pos hok]
  rw [hd, ← ofOpt_v]
  obtain ⟨h, hm0, hk0, hk6⟩ := hok
  obtain ⟨k, rfl⟩ : ∃ j : Nat, k = (j : Int) := ⟨k.toNat, by omega⟩
  rw [Int.toNat_natCast]
  have ha := h.1.is
  have hb := h.2.is
  have h1 := h.1.sc
  have h2 := h.2.sc
  clear hd h
  generalize num a = n at *
  generalize num b = m at *
  generalize scl a = s at *
  generalize scl b = t at *
  obtain ⟨neg1, d1, s1⟩ := a
  obtain ⟨neg2, d2, s2⟩ := b
  simp only at h1 h2 za zb ⊢
  subst h1 h2
  unfold Dec.v
  exact div_prog neg1 neg2 d1 d2 s t n m k ha hb hm0 (by omega) w
 ·have hd : divS a b k = argRes := by unfold divS; rw [if_neg hok]
  rw [hd]
  by_cases h : Valid a ∧ Valid b
  ·have cC := check_at2 a b (by unfold maxLen; omega) (by unfold maxLen; omega) 0 (by rw [vB_ok h.1, vB_ok h.2]; rfl)
   have cI := fun W => t_zero b.neg b.ds b.sc W
   have hI := is_zero h.2
   have hzz := h.2.is.zero
   have hsc := h.2.sc
   have cS := fun W => t_scale k W
   by_cases hm0 : num b = 0
   ·have hI2 : (!b.neg && (b.ds.toList == [48]) && decide (b.sc = 0)) = true := by
     rw [hI, decide_eq_true hm0, (hzz hm0).1, hsc, (hzz hm0).2]
     rfl
    rw [hI2] at cI
    obtain ⟨neg1, d1, s1⟩ := a
    obtain ⟨neg2, d2, s2⟩ := b
    unfold argRes DRes.v decNil Dec.v
    simp only at cC cI za zb ⊢
    clear hd hok h hI hzz hsc hm0 hI2
    go_enter Tryz.func105, Tryz.ntmps105
    go_wp2_with (first
     | (go_at_call 100; refine (cC _ _ (by simp)).mono ?_; rintro e w1 ⟨rfl, b1⟩; have b1 := past (by simp) b1; obtain ⟨x0, x1, x2, y0, y1, y2, r0, r1, r2, f0, f1, f2, hB, hz3⟩ := three_all b1; have KS := Lib.hid (And.intro x0 (And.intro x1 (And.intro x2 (And.intro y0 (And.intro y1 (And.intro y2 (ResAt.mk ⟨_, r0⟩ ⟨_, r1⟩ ⟨_, r2⟩ f0 f1 f2 hB hz3))))))); clear b1 hB cC r0 r1 r2 f0 f1 f2)
     | (go_at_call 135; refine (cI _).mono ?_; rintro e w2 ⟨rfl, b2⟩; obtain ⟨_, _, _, _, _, _, hr⟩ := mul_call KS.out b2; obtain ⟨⟨v0, q0⟩, ⟨v1, q1⟩, ⟨v2, q2⟩, g0, g1, g2, gB, gz⟩ := hr; have GB := Lib.hid gB; clear b2 gB cI x0 x1 x2 y0 y1 y2)
     | (go_at_call 136; refine (cS _).mono ?_; rintro e w3 ⟨rfl, rfl⟩))
    exact bodyPost_ret (v := .tuple #[.agg #[.bool false, .string ⟨#[]⟩, .int .i64 0], .int .i64 2]) (by simp [results, Tryz.results105, go_sem, q0, q1, q2]) rfl ⟨rfl, ((GB.out.setCell (by simp; omega) _).setCell (by simp; omega) _).setCell (by simp; omega) _⟩
   ·have hI2 : (!b.neg && (b.ds.toList == [48]) && decide (b.sc = 0)) = false := by
     rw [hI, decide_eq_false hm0]
     simp
    rw [hI2] at cI
    rw [decide_eq_false (fun h2 => hok ⟨h, hm0, h2.1, h2.2⟩)] at cS
    obtain ⟨neg1, d1, s1⟩ := a
    obtain ⟨neg2, d2, s2⟩ := b
    unfold argRes DRes.v decNil Dec.v
    simp only at cC cI za zb ⊢
    clear hd hok h hI hzz hsc hm0 hI2
    go_enter Tryz.func105, Tryz.ntmps105
    go_wp2_with (first
     | (go_at_call 100; refine (cC _ _ (by simp)).mono ?_; rintro e w1 ⟨rfl, b1⟩; have b1 := past (by simp) b1; obtain ⟨x0, x1, x2, y0, y1, y2, r0, r1, r2, f0, f1, f2, hB, hz3⟩ := three_all b1; have KS := Lib.hid (And.intro x0 (And.intro x1 (And.intro x2 (And.intro y0 (And.intro y1 (And.intro y2 (ResAt.mk ⟨_, r0⟩ ⟨_, r1⟩ ⟨_, r2⟩ f0 f1 f2 hB hz3))))))); clear b1 hB cC r0 r1 r2 f0 f1 f2)
     | (go_at_call 135; refine (cI _).mono ?_; rintro e w2 ⟨rfl, b2⟩; obtain ⟨_, _, _, _, _, _, hr⟩ := mul_call KS.out b2; obtain ⟨⟨v0, q0⟩, ⟨v1, q1⟩, ⟨v2, q2⟩, g0, g1, g2, gB, gz⟩ := hr; have GB := Lib.hid gB; clear b2 gB cI x0 x1 x2 y0 y1 y2)
     | (go_at_call 136; refine (cS _).mono ?_; rintro e w3 ⟨rfl, rfl⟩))
    exact bodyPost_ret (v := .tuple #[.agg #[.bool false, .string ⟨#[]⟩, .int .i64 0], .int .i64 2]) (by simp [results, Tryz.results105, go_sem, q0, q1, q2]) rfl ⟨rfl, ((GB.out.setCell (by simp; omega) _).setCell (by simp; omega) _).setCell (by simp; omega) _⟩
  ·have hv : chk1 (vB a && vB b) = 2 := by
    by_cases h1 : Valid a
    ·rw [vB_bad (fun h2 => h ⟨h1, h2⟩), Bool.and_false]; rfl
    ·rw [vB_bad h1, Bool.false_and]; rfl
   have cC := check_at2 a b (by unfold maxLen; omega) (by unfold maxLen; omega) 2 hv
   obtain ⟨neg1, d1, s1⟩ := a
   obtain ⟨neg2, d2, s2⟩ := b
   unfold argRes DRes.v decNil Dec.v
   simp only at cC za zb ⊢
   clear hd hok h hv
   go_enter Tryz.func105, Tryz.ntmps105
   go_wp2_with fail
   refine (cC _ _ (by simp)).mono ?_
   rintro e w1 ⟨rfl, b1⟩
   obtain ⟨x0, x1, x2, y0, y1, y2, r0, r1, r2, f0, f1, f2, hB, hz3⟩ := three_all (past (by simp) b1)
   have HB := Lib.hid hB
   clear b1 hB
   go_wp2
   exact bodyPost_ret (v := .tuple #[.agg #[.bool false, .string ⟨#[]⟩, .int .i64 0], .int .i64 2]) (by simp [results, Tryz.results105, go_sem, r0, r1, r2]) rfl ⟨rfl, ((HB.out.setCell (by simp; omega) _).setCell (by simp; omega) _).setCell (by simp; omega) _⟩
end Go.Proofs.YtmdnijehoagamaaGreatDoor
namespace Go.Proofs.YtmdnijehoagamaaGreatDoor
set_option maxRecDepth 100000
set_option maxHeartbeats 8000000
open Go.RowKit
theorem dec_size2 {a : Dec} {n s : Nat} (h : IsDec a n s) : a.ds.size ≤ 60 := by rw [h.ds, numS_size]; exact h.len
theorem cutD_txt (a : ByteArray) (s : Nat) : cutD a s = txtA a s := by
 unfold cutD txtA
 split
 ·next h => rw [show ((s : Int) + 1 - (a.size : Int)).toNat = s - a.size + 1 by omega]
 ·next h =>
  rw [show ((s : Int) + 1 - (a.size : Int)).toNat = 0 by omega]
  apply bytes_ext
  rw [Joins.data_append, zs_list]
  rfl
theorem whole (t : ByteArray) : t.extract 0 t.size = t := by
 apply bytes_ext
 rw [Lib.extract_data, List.drop_zero, Nat.sub_zero, ← bytes_len, List.take_length]
theorem text_zero (neg : Bool) (a : ByteArray) : textOf ⟨neg, a, 0⟩ = if neg then ⟨#[45]⟩ ++ cutD a 0 else cutD a 0 := by
 unfold textOf txtC txtB
 rw [cutD_txt]
 rfl
theorem text_some (neg : Bool) (a : ByteArray) (s : Nat) (hs : 0 < s) : textOf ⟨neg, a, (s : Int)⟩ = (if neg then ⟨#[45]⟩ ++ (cutD a s).extract 0 ((cutD a s).size - s) else (cutD a s).extract 0 ((cutD a s).size - s)) ++ (⟨#[46]⟩ ++ (cutD a s).extract ((cutD a s).size - s) (cutD a s).size) := by
 unfold textOf txtC txtB
 simp only [Int.toNat_natCast]
 rw [cutD_txt, if_pos hs]
 cases neg with
 | true =>
  apply bytes_ext
  simp only [if_true, Joins.data_append, List.append_assoc]
 | false =>
  apply bytes_ext
  simp only [Bool.false_eq_true, if_false, Joins.data_append, List.append_assoc]
theorem text_prog (neg : Bool) (a : ByteArray) (s n : Nat) (ha : IsDec ⟨neg, a, (s : Int)⟩ n s) (w : World) :
  Calls Tryz.prog 82 #[.agg #[.bool neg, .string a, .int .i64 (s : Int)]] w fun e w' => e = .returned (.tuple #[.string (textOf ⟨neg, a, (s : Int)⟩), .int .i64 0]) ∧ Below w.heap.size w w' := by
 have za := dec_size2 ha
 simp only at za
 have hs := ha.le
 have cC := check_at ⟨neg, a, (s : Int)⟩ (by unfold maxLen; simp only; omega) 0 (chk_ok ⟨_, _, ha⟩)
 have cT := fun W => cut_call a s (by omega) (by omega) W
 have hsz := cutD_size a s
 by_cases h0 : s = 0
 ·subst h0
  have ht := text_zero neg a
  rw [show (((0 : Nat) : Int)) = 0 from rfl] at *
  rw [ht]
  rw [Nat.sub_zero, whole] at cT
  generalize cutD a 0 = K at *
  generalize K.extract K.size K.size = B at cT
  have hK : ¬ 9223372036854775807 < (ByteArray.mk #[45]).size + K.size := by show ¬ 9223372036854775807 < 1 + K.size; omega
  have hK2 : ¬ 9223372036854775807 < 1 + K.size := by omega
  simp only at cC
  clear ha hs hsz ht za
  cases neg with
  | true =>
   go_enter Tryz.func82, Tryz.ntmps82
   go_wp2_with (first
    | (go_at_call 100; refine (cC _ _ (by simp)).mono ?_; rintro e w1 ⟨rfl, b1⟩; have b1 := past (by simp) b1; have HK := Lib.hid (And.intro ((Has.new w (.bool true) (.string a) (.int .i64 0) 23).call b1) (((Below.refl w.heap.size w).alloc (Nat.le_refl _) _).trans (b1.mono (by simp)))); obtain ⟨x0, x1, x2, f0, f1, f2, _⟩ := HK.out.1; clear b1)
    | (go_at_call 113; refine (cT _).mono ?_; rintro e w2 ⟨rfl, b2⟩; obtain ⟨x0, x1, x2, f0, f1, f2, _⟩ := HK.out.1.call b2; have HB := Lib.hid (HK.out.2.trans (b2.mono HK.out.2.size)); clear b2))
   go_ret2
   exact ⟨rfl, HB.out⟩
  | false =>
   go_enter Tryz.func82, Tryz.ntmps82
   go_wp2_with (first
    | (go_at_call 100; refine (cC _ _ (by simp)).mono ?_; rintro e w1 ⟨rfl, b1⟩; have b1 := past (by simp) b1; have HK := Lib.hid (And.intro ((Has.new w (.bool false) (.string a) (.int .i64 0) 23).call b1) (((Below.refl w.heap.size w).alloc (Nat.le_refl _) _).trans (b1.mono (by simp)))); obtain ⟨x0, x1, x2, f0, f1, f2, _⟩ := HK.out.1; clear b1)
    | (go_at_call 113; refine (cT _).mono ?_; rintro e w2 ⟨rfl, b2⟩; obtain ⟨x0, x1, x2, f0, f1, f2, _⟩ := HK.out.1.call b2; have HB := Lib.hid (HK.out.2.trans (b2.mono HK.out.2.size)); clear b2))
   go_ret2
   exact ⟨rfl, HB.out⟩
 ·have ht := text_some neg a s (by omega)
  rw [ht]
  have hp : (0 : Int) < (s : Int) := by omega
  have hU : ((cutD a s).extract 0 ((cutD a s).size - s)).size ≤ 1000 := by rw [ByteArray.size_extract]; omega
  have hB : ((cutD a s).extract ((cutD a s).size - s) (cutD a s).size).size ≤ 1000 := by rw [ByteArray.size_extract]; omega
  generalize (cutD a s).extract 0 ((cutD a s).size - s) = U at *
  generalize (cutD a s).extract ((cutD a s).size - s) (cutD a s).size = B at *
  have k1 : ¬ 9223372036854775807 < (ByteArray.mk #[45]).size + U.size := by show ¬ 9223372036854775807 < 1 + U.size; omega
  have k2 : ¬ 9223372036854775807 < (ByteArray.mk #[46]).size + B.size := by show ¬ 9223372036854775807 < 1 + B.size; omega
  have k3 : ¬ 9223372036854775807 < U.size + (ByteArray.mk #[46] ++ B).size := by rw [app_size]; show ¬ 9223372036854775807 < U.size + (1 + B.size); omega
  have k4 : ¬ 9223372036854775807 < (ByteArray.mk #[45] ++ U).size + (ByteArray.mk #[46] ++ B).size := by rw [app_size, app_size]; show ¬ 9223372036854775807 < 1 + U.size + (1 + B.size); omega
  simp only at cC
  clear ha hs hsz ht za h0
  cases neg with
  | true =>
   go_enter Tryz.func82, Tryz.ntmps82
   go_wp2_with (first
    | (go_at_call 100; refine (cC _ _ (by simp)).mono ?_; rintro e w1 ⟨rfl, b1⟩; have b1 := past (by simp) b1; have HK := Lib.hid (And.intro ((Has.new w (.bool true) (.string a) (.int .i64 (s : Int)) 23).call b1) (((Below.refl w.heap.size w).alloc (Nat.le_refl _) _).trans (b1.mono (by simp)))); obtain ⟨x0, x1, x2, f0, f1, f2, _⟩ := HK.out.1; clear b1)
    | (go_at_call 113; refine (cT _).mono ?_; rintro e w2 ⟨rfl, b2⟩; obtain ⟨x0, x1, x2, f0, f1, f2, _⟩ := HK.out.1.call b2; have HB := Lib.hid (HK.out.2.trans (b2.mono HK.out.2.size)); clear b2))
   go_ret2
   exact ⟨rfl, HB.out⟩
  | false =>
   go_enter Tryz.func82, Tryz.ntmps82
   go_wp2_with (first
    | (go_at_call 100; refine (cC _ _ (by simp)).mono ?_; rintro e w1 ⟨rfl, b1⟩; have b1 := past (by simp) b1; have HK := Lib.hid (And.intro ((Has.new w (.bool false) (.string a) (.int .i64 (s : Int)) 23).call b1) (((Below.refl w.heap.size w).alloc (Nat.le_refl _) _).trans (b1.mono (by simp)))); obtain ⟨x0, x1, x2, f0, f1, f2, _⟩ := HK.out.1; clear b1)
    | (go_at_call 113; refine (cT _).mono ?_; rintro e w2 ⟨rfl, b2⟩; obtain ⟨x0, x1, x2, f0, f1, f2, _⟩ := HK.out.1.call b2; have HB := Lib.hid (HK.out.2.trans (b2.mono HK.out.2.size)); clear b2))
   go_ret2
   exact ⟨rfl, HB.out⟩
theorem p_text (a : Dec) (za : a.ds.size ≤ 400) (w : World) : Calls Tryz.prog 82 #[a.v] w fun e w' => e = .returned (.tuple #[.string (textS a).1, .int .i64 (textS a).2]) ∧ Below w.heap.size w w' := by
 by_cases h : Valid a
 ·have hd : textS a = (textOf a, 0) := by unfold textS; rw [if_pos h]
  rw [hd]
  have ha := h.is
  have h1 := h.sc
  clear hd h
  generalize num a = n at *
  generalize scl a = s at *
  obtain ⟨neg, ds, sc⟩ := a
  simp only at h1 za ⊢
  subst h1
  exact text_prog neg ds s n ha w
 ·have cC := check_at a (by unfold maxLen; omega) 2 (chk_bad h)
  have hd : textS a = (⟨#[]⟩, 2) := by unfold textS; rw [if_neg h]
  rw [hd]
  obtain ⟨neg, ds, sc⟩ := a
  unfold Dec.v
  simp only at cC za ⊢
  clear hd h
  go_enter Tryz.func82, Tryz.ntmps82
  go_wp2_with fail
  refine (cC _ _ (by simp)).mono ?_
  rintro e w1 ⟨rfl, b1⟩
  have HB := Lib.hid (((Below.refl w.heap.size w).alloc (Nat.le_refl _) _).trans ((past (by simp) b1).mono (by simp)))
  clear b1
  go_wp2
  go_ret2
  exact ⟨rfl, HB.out⟩
end Go.Proofs.YtmdnijehoagamaaGreatDoor
