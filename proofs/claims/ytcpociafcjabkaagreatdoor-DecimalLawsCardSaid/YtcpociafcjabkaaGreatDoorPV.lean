/- The program's Sub. -/
import Derived.Test.YtcpociafcjabkaaGreatDoorPT
import Derived.Test.YtcpociafcjabkaaGreatDoorPF
set_option linter.unusedSimpArgs false
set_option linter.unusedVariables false
namespace Go.Proofs.YtcpociafcjabkaaGreatDoor
open Go.RowKit

theorem opp_valid2 {b : Dec} (h : Valid b) : Valid ⟨!b.neg && decide (num b ≠ 0), b.ds, b.sc⟩ := by
  have h1 := h.is
  refine ⟨num b, scl b, h1.ds, h1.sc, h1.len, h1.le, fun h0 => ⟨by simp [h0], (h1.zero h0).2⟩, h1.last⟩
theorem sub_add {a b : Dec} (ha : Valid a) (hb : Valid b) : subS a b = addS a ⟨!b.neg && decide (num b ≠ 0), b.ds, b.sc⟩ := by
  unfold subS addS
  rw [if_pos ⟨ha, hb⟩, if_pos ⟨ha, opp_valid2 hb⟩]
  rfl
theorem res_tabs {w W : World} {a0 a1 a2 b0 b1 b2 : Value} (hT : Tabs w) (h : W.cell? ⟨w.heap.size, 0, none⟩ = some a0 ∧ W.cell? ⟨w.heap.size, 1, none⟩ = some a1 ∧ W.cell? ⟨w.heap.size, 2, none⟩ = some a2 ∧ W.cell? ⟨w.heap.size + 1, 0, none⟩ = some b0 ∧ W.cell? ⟨w.heap.size + 1, 1, none⟩ = some b1 ∧ W.cell? ⟨w.heap.size + 1, 2, none⟩ = some b2 ∧ ResAt w W) : Tabs W := hT.below h.2.2.2.2.2.2.below hT.size
set_option maxRecDepth 100000 in
set_option maxHeartbeats 8000000 in
theorem p_sub (a b : Dec) (za : a.ds.size ≤ 400) (zb : b.ds.size ≤ 400) (w : World) (hT : Tabs w) : Calls Tryz.prog 19 #[a.v, b.v] w fun e w' => e = .returned (subS a b).v ∧ Below w.heap.size w w' := by
  by_cases h : Valid a ∧ Valid b
  · have cC := check_at2 a b (by unfold maxLen; omega) (by unfold maxLen; omega) 0 (by rw [vB_ok h.1, vB_ok h.2]; rfl)
    have cO := fun W => popp_any b.neg b.ds b.sc W
    rw [popp_valid h.2] at cO
    rw [sub_add h.1 h.2]
    have cA := fun W hW => p_add a ⟨!b.neg && decide (num b ≠ 0), b.ds, b.sc⟩ za zb W hW
    generalize addS a ⟨!b.neg && decide (num b ≠ 0), b.ds, b.sc⟩ = r at cA ⊢
    generalize (!b.neg && decide (num b ≠ 0)) = ng at cO cA
    obtain ⟨⟨dn, dd, dsc⟩, q⟩ := r
    obtain ⟨neg1, a, s⟩ := a
    obtain ⟨neg2, b, t⟩ := b
    unfold DRes.v Dec.v at cA ⊢
    unfold Dec.v at cO
    simp only at cC cA cO za zb ⊢
    have hw6 := hT.size
    have HT := Lib.hid hT
    clear hT h
    go_enter Tryz.func19, Tryz.ntmps19
    go_wp2_with fail
    refine (cC _ _ (by simp)).mono ?_
    rintro e w1 ⟨rfl, b1⟩
    obtain ⟨x0, x1, x2, y0, y1, y2, r0, r1, r2, f0, f1, f2, hB, hz3⟩ := three_all (past (by simp) b1)
    have KS := Lib.hid (And.intro x0 (And.intro x1 (And.intro x2 (And.intro y0 (And.intro y1 (And.intro y2 (ResAt.mk ⟨_, r0⟩ ⟨_, r1⟩ ⟨_, r2⟩ f0 f1 f2 hB hz3)))))))
    clear b1 hB x0 x1 x2 y0 y1 y2 r0 r1 r2 f0 f1 f2 cC
    go_wp2_with fail
    go_region_held3 (fun W => W.cell? ⟨w.heap.size, 0, none⟩ = some (.bool neg1) ∧ W.cell? ⟨w.heap.size, 1, none⟩ = some (.string a) ∧ W.cell? ⟨w.heap.size, 2, none⟩ = some (.int .i64 s) ∧ W.cell? ⟨w.heap.size + 1, 0, none⟩ = some (.bool neg2) ∧ W.cell? ⟨w.heap.size + 1, 1, none⟩ = some (.string b) ∧ W.cell? ⟨w.heap.size + 1, 2, none⟩ = some (.int .i64 t) ∧ ResAt w W)
      (first | exact mul_call KS.out (below_drew1 _) | exact mul_call (by assumption) b8 | exact mul_set (mul_set (mul_set (by assumption) 0 _) 1 _) 2 _)
      (first
        | (go_at_call 54; refine (cO _).mono ?_; rintro e w8 ⟨rfl, b8⟩)
        | (go_at_call 17; refine (cA _ (res_tabs HT.out (by assumption))).mono ?_; rintro e w8 ⟨rfl, b8⟩; have hr := (show ResAt w w8 from (mul_call (by assumption) b8).2.2.2.2.2.2); obtain ⟨⟨v0, q0⟩, ⟨v1, q1⟩, ⟨v2, q2⟩, g0, g1, g2, gB, gz⟩ := hr; have GB := Lib.hid gB))
    all_goals go_wp2
    all_goals exact bodyPost_ret (v := .tuple #[.agg #[.bool dn, .string dd, .int .i64 dsc], .int .i64 q]) (by simp [results, Tryz.results19, go_sem, q0, q1, q2]) rfl ⟨rfl, ((GB.out.setCell (by simp; omega) _).setCell (by simp; omega) _).setCell (by simp; omega) _⟩
  · have hd : subS a b = argRes := by unfold subS; rw [if_neg h]
    have hv : chk1 (vB a && vB b) = 2 := by
      by_cases h1 : Valid a
      · rw [vB_bad (fun h2 => h ⟨h1, h2⟩), Bool.and_false]; rfl
      · rw [vB_bad h1, Bool.false_and]; rfl
    have cC := check_at2 a b (by unfold maxLen; omega) (by unfold maxLen; omega) 2 hv
    rw [hd]
    obtain ⟨neg1, d1, s1⟩ := a
    obtain ⟨neg2, d2, s2⟩ := b
    unfold argRes DRes.v decNil Dec.v
    simp only at cC za zb ⊢
    clear hd hv h
    go_enter Tryz.func19, Tryz.ntmps19
    go_wp2_with fail
    refine (cC _ _ (by simp)).mono ?_
    rintro e w1 ⟨rfl, b1⟩
    obtain ⟨x0, x1, x2, y0, y1, y2, r0, r1, r2, f0, f1, f2, hB, hz3⟩ := three_all (past (by simp) b1)
    have HB := Lib.hid hB
    clear b1 hB
    go_wp2
    exact bodyPost_ret (v := .tuple #[.agg #[.bool false, .string ⟨#[]⟩, .int .i64 0], .int .i64 2]) (by simp [results, Tryz.results19, go_sem, r0, r1, r2]) rfl ⟨rfl, ((HB.out.setCell (by simp; omega) _).setCell (by simp; omega) _).setCell (by simp; omega) _⟩
end Go.Proofs.YtcpociafcjabkaaGreatDoor

/- The program's Mul. -/
namespace Go.Proofs.YtcpociafcjabkaaGreatDoor
open Go.RowKit

/-- What a product's statements read, and where they write. -/
def MulC (w : World) (neg1 : Bool) (a : ByteArray) (s : Int) (neg2 : Bool) (b : ByteArray) (t : Int) (W : World) : Prop :=
  W.cell? ⟨w.heap.size, 0, none⟩ = some (.bool neg1) ∧ W.cell? ⟨w.heap.size, 1, none⟩ = some (.string a) ∧ W.cell? ⟨w.heap.size, 2, none⟩ = some (.int .i64 s) ∧ W.cell? ⟨w.heap.size + 1, 0, none⟩ = some (.bool neg2) ∧ W.cell? ⟨w.heap.size + 1, 1, none⟩ = some (.string b) ∧ W.cell? ⟨w.heap.size + 1, 2, none⟩ = some (.int .i64 t) ∧ ResAt w W ∧ Tabs W
theorem MulC.call {w W W' : World} {neg1 neg2 : Bool} {a b : ByteArray} {s t : Int} (h : MulC w neg1 a s neg2 b t W) (B : Below W.heap.size W W') : MulC w neg1 a s neg2 b t W' := by
  obtain ⟨h0, h1, h2, h3, h4, h5, h6, h7⟩ := h
  obtain ⟨k0, k1, k2, k3, k4, k5, k6⟩ := mul_call ⟨h0, h1, h2, h3, h4, h5, h6⟩ B
  exact ⟨k0, k1, k2, k3, k4, k5, k6, h7.next B⟩
theorem MulC.set {w W : World} {neg1 neg2 : Bool} {a b : ByteArray} {s t : Int} (h : MulC w neg1 a s neg2 b t W) (hw : 6 ≤ w.heap.size) (j : Nat) (u : Value) : MulC w neg1 a s neg2 b t (W.setCell ⟨w.heap.size + 1 + 1, j, none⟩ u) := by
  obtain ⟨h0, h1, h2, h3, h4, h5, h6, h7⟩ := h
  obtain ⟨k0, k1, k2, k3, k4, k5, k6⟩ := mul_set ⟨h0, h1, h2, h3, h4, h5, h6⟩ j u
  exact ⟨k0, k1, k2, k3, k4, k5, k6, h7.below ((Below.refl 6 W).setCell (p := ⟨w.heap.size + 1 + 1, j, none⟩) (by show 6 ≤ w.heap.size + 1 + 1; omega) u) (Nat.le_refl _)⟩
theorem MulC.res {w W : World} {neg1 neg2 : Bool} {a b : ByteArray} {s t : Int} (h : MulC w neg1 a s neg2 b t W) : ResAt w W := h.2.2.2.2.2.2.1
theorem MulC.tabs {w W : World} {neg1 neg2 : Bool} {a b : ByteArray} {s t : Int} (h : MulC w neg1 a s neg2 b t W) : Tabs W := h.2.2.2.2.2.2.2
/-- A store into a block that is made later. -/
theorem MulC.cells {w W : World} {neg1 neg2 : Bool} {a b : ByteArray} {s t : Int} (h : MulC w neg1 a s neg2 b t W) {p : Nat} (hp : w.heap.size + 3 ≤ p) (hw : 6 ≤ w.heap.size) (L : List Value) : MulC w neg1 a s neg2 b t (W.setCells p 0 L) := by
  have e : ∀ k, k < w.heap.size + 3 → (W.setCells p 0 L).heap[k]? = W.heap[k]? := fun k hk => cells_other _ _ (by omega) _ _ _
  have e0 := e w.heap.size (by omega)
  have e1 := e (w.heap.size + 1) (by omega)
  have e2 := e (w.heap.size + 1 + 1) (by omega)
  obtain ⟨h0, h1, h2, h3, h4, h5, ⟨⟨v0, r0⟩, ⟨v1, r1⟩, ⟨v2, r2⟩, f0, f1, f2, hB, hz⟩, h7⟩ := h
  exact ⟨(World.cell?_of_block (w := W) e0).trans h0, (World.cell?_of_block (w := W) e0).trans h1, (World.cell?_of_block (w := W) e0).trans h2,
    (World.cell?_of_block (w := W) e1).trans h3, (World.cell?_of_block (w := W) e1).trans h4, (World.cell?_of_block (w := W) e1).trans h5,
    ⟨⟨v0, (World.cell?_of_block (w := W) e2).trans r0⟩, ⟨v1, (World.cell?_of_block (w := W) e2).trans r1⟩, ⟨v2, (World.cell?_of_block (w := W) e2).trans r2⟩,
      (World.frozen?_of_block (w := W) e2).trans f0, (World.frozen?_of_block (w := W) e2).trans f1, (World.frozen?_of_block (w := W) e2).trans f2, below_cells (by omega) _ _ _ hB, by rw [cells_size]; exact hz⟩,
    h7.below (below_cells (B := 6) (by omega) _ _ _ (Below.refl _ _)) (Nat.le_refl _)⟩
/-- .. and a number in a block of its own. -/
def MulD (w : World) (neg1 : Bool) (a : ByteArray) (s : Int) (neg2 : Bool) (b : ByteArray) (t : Int) (p : Nat) (f : Nat → Int) (W : World) : Prop :=
  MulC w neg1 a s neg2 b t W ∧ Blk W p f ∧ w.heap.size + 3 ≤ p
theorem MulD.call {w W W' : World} {neg1 neg2 : Bool} {a b : ByteArray} {s t : Int} {p : Nat} {f : Nat → Int} (h : MulD w neg1 a s neg2 b t p f W) (B : Below W.heap.size W W') : MulD w neg1 a s neg2 b t p f W' := ⟨h.1.call B, h.2.1.call B, h.2.2⟩
theorem MulD.set {w W : World} {neg1 neg2 : Bool} {a b : ByteArray} {s t : Int} {p : Nat} {f : Nat → Int} (h : MulD w neg1 a s neg2 b t p f W) (hw : 6 ≤ w.heap.size) (j : Nat) (u : Value) : MulD w neg1 a s neg2 b t p f (W.setCell ⟨w.heap.size + 1 + 1, j, none⟩ u) :=
  ⟨h.1.set hw j u, h.2.1.far _ _ (by have := h.2.2; omega), h.2.2⟩
theorem MulD.new {w W : World} {neg1 neg2 : Bool} {a b : ByteArray} {s t : Int} (h : MulC w neg1 a s neg2 b t W) : MulD w neg1 a s neg2 b t W.heap.size (fun _ => 0) (W.alloc (.cells (natL fun _ => 0).toArray 62)) :=
  ⟨h.call ((Below.refl _ _).alloc (Nat.le_refl _) _), Blk.new W _, h.res.size⟩
theorem MulD.cells {w W : World} {neg1 neg2 : Bool} {a b : ByteArray} {s t : Int} {p : Nat} {f : Nat → Int} (h : MulD w neg1 a s neg2 b t p f W) (hw : 6 ≤ w.heap.size) (g : Nat → Int) : MulD w neg1 a s neg2 b t p g (W.setCells p 0 (natL g)) :=
  ⟨h.1.cells h.2.2 hw _, h.2.1.setCells g, h.2.2⟩
theorem mul_lt {n m : Nat} (hn : n < 10 ^ 60) (hm : m < 10 ^ 60) : n * m < 10 ^ 126 := by
  have h := Nat.mul_lt_mul'' hn hm
  rw [← Nat.pow_add] at h
  exact Nat.lt_of_lt_of_le h (Nat.pow_le_pow_right (by omega) (by omega))

set_option maxRecDepth 100000 in
set_option maxHeartbeats 16000000 in
theorem mul_prog (neg1 neg2 : Bool) (a b : ByteArray) (s t n m : Nat) (ha : IsDec ⟨neg1, a, (s : Int)⟩ n s) (hb : IsDec ⟨neg2, b, (t : Int)⟩ m t) (w : World) (hT : Tabs w) :
    Calls Tryz.prog 21 #[.agg #[.bool neg1, .string a, .int .i64 (s : Int)], .agg #[.bool neg2, .string b, .int .i64 (t : Int)]] w fun e w' => e = .returned (decR (mkDec (neg1 != neg2) (n * m) (s + t))) ∧ Below w.heap.size w w' := by
  have za := dec_size ha
  have zb := dec_size hb
  simp only at za zb
  have hs := ha.le
  have ht := hb.le
  have cC := check_at2 ⟨neg1, a, (s : Int)⟩ ⟨neg2, b, (t : Int)⟩ (by unfold maxLen; simp only; omega) (by unfold maxLen; simp only; omega) 0 (by rw [vB_ok ⟨_, _, ha⟩, vB_ok ⟨_, _, hb⟩]; rfl)
  have cN1 := fun W => of_call a ha.num.all (by omega) W
  have cN2 := fun W => of_call b hb.num.all (by omega) W
  rw [ha.num.val] at cN1
  rw [hb.num.val] at cN2
  have hn : n < 10 ^ 60 := Nat.lt_of_lt_of_le ha.num.lt (Nat.pow_le_pow_right (by omega) za)
  have hm : m < 10 ^ 60 := Nat.lt_of_lt_of_le hb.num.lt (Nat.pow_le_pow_right (by omega) zb)
  have cP := fun W => Mul_call n m (Nat.lt_of_lt_of_le hn (Nat.pow_le_pow_right (by omega) (by omega))) (Nat.lt_of_lt_of_le hm (Nat.pow_le_pow_right (by omega) (by omega))) W
  have cD := fun W hT => digits_call (n * m) W hT
  have cM := fun W => padS_small (mul_lt hn hm) (neg1 != neg2) (s + t) (by omega) W
  have e4 : ((s + t : Nat) : Int) = (s : Int) + (t : Int) := by omega
  rw [e4] at cM
  have w1 : IntKind.i64.wrap ((s : Int) + (t : Int)) = (s : Int) + (t : Int) := IntWalk.i64_in _ (by omega)
  unfold natV arrV at cN1 cN2 cP cD
  unfold decR at cM ⊢
  generalize (mkDec (neg1 != neg2) (n * m) (s + t)).getD decNil = d at cM ⊢
  generalize (if (mkDec (neg1 != neg2) (n * m) (s + t)).isSome then (0 : Int) else 7) = q at cM ⊢
  generalize padS (n * m) = Z at cD cM
  generalize n * m = z at cP cD
  obtain ⟨dn, dd, dsc⟩ := d
  simp only [Dec.v] at cC cM ⊢
  have hw6 := hT.size
  have HT := Lib.hid hT
  clear ha hb za zb hs ht hn hm e4 hT
  go_enter Tryz.func21, Tryz.ntmps21
  go_wp2_with fail
  refine (cC _ _ (by simp)).mono ?_
  rintro e w1 ⟨rfl, b1⟩
  have b1 := past (by simp) b1
  obtain ⟨x0, x1, x2, y0, y1, y2, r0, r1, r2, f0, f1, f2, hB, hz3⟩ := three_all b1
  have KS : Hid (MulC w neg1 a (s : Int) neg2 b (t : Int) w1) := ⟨x0, x1, x2, y0, y1, y2, ResAt.mk ⟨_, r0⟩ ⟨_, r1⟩ ⟨_, r2⟩ f0 f1 f2 hB hz3, HT.out.below hB hw6⟩
  clear b1 hB x0 x1 x2 y0 y1 y2 r0 r1 r2 f0 f1 f2 cC
  go_wp2_with fail
  have hu : Tryz.prog.underlying 62 = some (.array 14 2) := Tryz.underlying62
  have hi14 : (Tryz.prog.info? 62).map (·.size) = some 14 := by kernel_rfl
  refine wp_region_held_drew (S := MulC w neg1 a (s : Int) neg2 b (t : Int)) (by kernel_rfl) (MulC.call KS.out (below_drew1 _)) (fun hHeld => ?_)
  refine wpAnyH_take (i := 0) (v := ?_) rfl (by kernel_rfl) (by kernel_rfl) (by kernel_rfl) (fun _ _ _ h => h) (Or.inl ⟨by rfl, ?_⟩) (by assumption) ?_
  rotate_left
  · intro w hSw
    (try dsimp only at hSw)
    go_simp
    (try with_reducible rfl)
  try simp only [List.getElem_toArray, List.getElem_cons_zero, List.getElem_cons_succ, Act.put, List.setIfInBounds_toArray, List.set_cons_zero, List.set_cons_succ]
  refine wpAnyH_take (i := 1) (v := ?_) rfl (by kernel_rfl) (by kernel_rfl) (by kernel_rfl) (fun _ _ _ h => h) (Or.inl ⟨by rfl, ?_⟩) (by assumption) ?_
  rotate_left
  · intro w hSw
    obtain ⟨h0, h1, h2, h3, h4, h5, _⟩ := hSw
    go_simp
    (try with_reducible rfl)
  try simp only [List.getElem_toArray, List.getElem_cons_zero, List.getElem_cons_succ, Act.put, List.setIfInBounds_toArray, List.set_cons_zero, List.set_cons_succ]
  refine wpAnyH_take (i := 3) (v := ?_) rfl (by kernel_rfl) (by kernel_rfl) (by kernel_rfl) (fun _ _ _ h => h) (Or.inl ⟨by rfl, ?_⟩) (by assumption) ?_
  rotate_left
  · intro w hSw
    (try dsimp only at hSw)
    go_simp
    (try with_reducible rfl)
  try simp only [List.getElem_toArray, List.getElem_cons_zero, List.getElem_cons_succ, Act.put, List.setIfInBounds_toArray, List.set_cons_zero, List.set_cons_succ]
  refine wpAnyH_take (i := 4) (v := ?_) rfl (by kernel_rfl) (by kernel_rfl) (by kernel_rfl) (fun _ _ _ h => h) (Or.inl ⟨by rfl, ?_⟩) (by assumption) ?_
  rotate_left
  · intro w hSw
    obtain ⟨h0, h1, h2, h3, h4, h5, _⟩ := hSw
    go_simp
    (try with_reducible rfl)
  try simp only [List.getElem_toArray, List.getElem_cons_zero, List.getElem_cons_succ, Act.put, List.setIfInBounds_toArray, List.set_cons_zero, List.set_cons_succ]
  refine wpAnyH_ready (rs := [2, 7]) (by kernel_rfl) (by simp) ?_
  refine AllReadyH.cons rfl (fun K hK => ?_) (AllReadyH.cons rfl (fun K hK => ?_) AllReadyH.nil)
  · go_simp
    refine (cN1 _).mono ?_
    rintro e w8 ⟨rfl, b8⟩
    refine hK.out _ _ (MulC.call hHeld b8) (fun hHeld => ?_)
    clear hK K b8
    try simp only [List.getElem_toArray, List.getElem_cons_zero, List.getElem_cons_succ, Act.put, List.setIfInBounds_toArray, List.set_cons_zero, List.set_cons_succ]
    refine wpAnyH_ready (rs := [5, 7]) (by kernel_rfl) (by simp) ?_
    refine AllReadyH.cons rfl (fun K hK => ?_) (AllReadyH.cons rfl (fun K hK => ?_) AllReadyH.nil)
    · go_simp
      refine (cN2 _).mono ?_
      rintro e w8 ⟨rfl, b8⟩
      refine hK.out _ _ (MulC.call hHeld b8) (fun hHeld => ?_)
      clear hK K b8
      try simp only [List.getElem_toArray, List.getElem_cons_zero, List.getElem_cons_succ, Act.put, List.setIfInBounds_toArray, List.set_cons_zero, List.set_cons_succ]
      refine wpAnyH_ready (rs := [6, 7]) (by kernel_rfl) (by simp) ?_
      refine AllReadyH.cons rfl (fun K hK => ?_) (AllReadyH.cons rfl (fun K hK => ?_) AllReadyH.nil)
      · go_simp
        refine (cP _).mono ?_
        rintro e w8 ⟨rfl, b8⟩
        refine hK.out _ _ (MulC.call hHeld b8) (fun hHeld => ?_)
        clear hK K b8
        try simp only [List.getElem_toArray, List.getElem_cons_zero, List.getElem_cons_succ, Act.put, List.setIfInBounds_toArray, List.set_cons_zero, List.set_cons_succ]
        refine wpAnyH_ready (rs := [7]) (by kernel_rfl) (by simp) ?_
        refine AllReadyH.cons rfl (fun K hK => ?_) AllReadyH.nil
        go_simp
        have HP := Lib.hid (MulD.new hHeld)
        refine hK.out _ _ HP.out.1 (fun hHeld => ?_)
        clear hK K
        try simp only [List.getElem_toArray, List.getElem_cons_zero, List.getElem_cons_succ, Act.put, List.setIfInBounds_toArray, List.set_cons_zero, List.set_cons_succ]
        refine wpAnyH_ready (rs := [8]) (by kernel_rfl) (by simp) ?_
        refine AllReadyH.cons rfl (fun K hK => ?_) AllReadyH.nil
        rw [if_pos (by rfl)]
        refine wp_store_mid 62 _ _ rfl _ _ (natL (ptsOf z)).toArray rfl rfl (by show World.there _ _ 0 (natL (ptsOf z)).length; rw [natL_len]; exact HP.out.2.1.there) (by show _ = some (natL (ptsOf z)).length; rw [natL_len]; exact hi14) (nat_one _) ?_
        have HQ := Lib.hid (HP.out.cells hw6 (ptsOf z))
        refine hK.out _ _ HQ.out.1 (fun hHeld => ?_)
        clear hK K HP
        try simp only [List.getElem_toArray, List.getElem_cons_zero, List.getElem_cons_succ, Act.put, List.setIfInBounds_toArray, List.set_cons_zero, List.set_cons_succ]
        refine wpAnyH_done (by kernel_rfl) ?_ _
        go_wp2_with fail
        refine wp_region_held_drew (S := MulD w neg1 a (s : Int) neg2 b (t : Int) _ (ptsOf z)) (by kernel_rfl) (MulD.call HQ.out (below_drew1 _)) (fun hHeld => ?_)
        refine wpAnyH_take (i := 0) (v := ?_) rfl (by kernel_rfl) (by kernel_rfl) (by kernel_rfl) (fun _ _ _ h => h) (Or.inl ⟨by rfl, ?_⟩) (by assumption) ?_
        rotate_left
        · intro w hSw
          (try dsimp only at hSw)
          go_simp
          (try with_reducible rfl)
        try simp only [List.getElem_toArray, List.getElem_cons_zero, List.getElem_cons_succ, Act.put, List.setIfInBounds_toArray, List.set_cons_zero, List.set_cons_succ]
        refine wpAnyH_take (i := 1) (v := ?_) rfl (by kernel_rfl) (by kernel_rfl) (by kernel_rfl) (fun _ _ _ h => h) (Or.inl ⟨by rfl, ?_⟩) (by assumption) ?_
        rotate_left
        · intro w hSw
          obtain ⟨⟨h0, h1, h2, h3, h4, h5, _⟩, _⟩ := hSw
          go_simp
          (try with_reducible rfl)
        try simp only [List.getElem_toArray, List.getElem_cons_zero, List.getElem_cons_succ, Act.put, List.setIfInBounds_toArray, List.set_cons_zero, List.set_cons_succ]
        refine wpAnyH_take (i := 2) (v := ?_) rfl (by kernel_rfl) (by kernel_rfl) (by kernel_rfl) (fun _ _ _ h => h) (Or.inl ⟨by rfl, ?_⟩) (by assumption) ?_
        rotate_left
        · intro w hSw
          (try dsimp only at hSw)
          go_simp
          (try with_reducible rfl)
        try simp only [List.getElem_toArray, List.getElem_cons_zero, List.getElem_cons_succ, Act.put, List.setIfInBounds_toArray, List.set_cons_zero, List.set_cons_succ]
        refine wpAnyH_take (i := 3) (v := ?_) rfl (by kernel_rfl) (by kernel_rfl) (by kernel_rfl) (fun _ _ _ h => h) (Or.inl ⟨by rfl, ?_⟩) (by assumption) ?_
        rotate_left
        · intro w hSw
          obtain ⟨⟨h0, h1, h2, h3, h4, h5, _⟩, _⟩ := hSw
          go_simp
          (try with_reducible rfl)
        try simp only [List.getElem_toArray, List.getElem_cons_zero, List.getElem_cons_succ, Act.put, List.setIfInBounds_toArray, List.set_cons_zero, List.set_cons_succ]
        refine wpAnyH_take (i := 4) (v := ?_) rfl (by kernel_rfl) (by kernel_rfl) (by kernel_rfl) (fun _ _ _ h => h) (Or.inl ⟨by rfl, ?_⟩) (by assumption) ?_
        rotate_left
        · intro w hSw
          (try dsimp only at hSw)
          go_simp
          (try with_reducible rfl)
        try simp only [List.getElem_toArray, List.getElem_cons_zero, List.getElem_cons_succ, Act.put, List.setIfInBounds_toArray, List.set_cons_zero, List.set_cons_succ]
        refine wpAnyH_take (i := 5) rfl (by kernel_rfl) (by kernel_rfl) (by kernel_rfl) (fun _ _ _ h => h) (yieldsIf_load_mid (by rfl) 62 _ rfl _ _ rfl _ _ (fun w hSw => hSw.2.1.range) hu rfl (by rw [natL_len]; exact hi14)) (by assumption) ?_
        try simp only [List.getElem_toArray, List.getElem_cons_zero, List.getElem_cons_succ, Act.put, List.setIfInBounds_toArray, List.set_cons_zero, List.set_cons_succ]
        refine wpAnyH_take (i := 7) (v := ?_) rfl (by kernel_rfl) (by kernel_rfl) (by kernel_rfl) (fun _ _ _ h => h) (Or.inl ⟨by rfl, ?_⟩) (by assumption) ?_
        rotate_left
        · intro w hSw
          (try dsimp only at hSw)
          go_simp
          (try with_reducible rfl)
        try simp only [List.getElem_toArray, List.getElem_cons_zero, List.getElem_cons_succ, Act.put, List.setIfInBounds_toArray, List.set_cons_zero, List.set_cons_succ]
        refine wpAnyH_take (i := 8) (v := ?_) rfl (by kernel_rfl) (by kernel_rfl) (by kernel_rfl) (fun _ _ _ h => h) (Or.inl ⟨by rfl, ?_⟩) (by assumption) ?_
        rotate_left
        · intro w hSw
          obtain ⟨⟨h0, h1, h2, h3, h4, h5, _⟩, _⟩ := hSw
          go_simp
          (try with_reducible rfl)
        try simp only [List.getElem_toArray, List.getElem_cons_zero, List.getElem_cons_succ, Act.put, List.setIfInBounds_toArray, List.set_cons_zero, List.set_cons_succ]
        refine wpAnyH_take (i := 9) (v := ?_) rfl (by kernel_rfl) (by kernel_rfl) (by kernel_rfl) (fun _ _ _ h => h) (Or.inl ⟨by rfl, ?_⟩) (by assumption) ?_
        rotate_left
        · intro w hSw
          (try dsimp only at hSw)
          go_simp
          (try with_reducible rfl)
        try simp only [List.getElem_toArray, List.getElem_cons_zero, List.getElem_cons_succ, Act.put, List.setIfInBounds_toArray, List.set_cons_zero, List.set_cons_succ]
        refine wpAnyH_take (i := 10) (v := ?_) rfl (by kernel_rfl) (by kernel_rfl) (by kernel_rfl) (fun _ _ _ h => h) (Or.inl ⟨by rfl, ?_⟩) (by assumption) ?_
        rotate_left
        · intro w hSw
          obtain ⟨⟨h0, h1, h2, h3, h4, h5, _⟩, _⟩ := hSw
          go_simp
          (try with_reducible rfl)
        try simp only [List.getElem_toArray, List.getElem_cons_zero, List.getElem_cons_succ, Act.put, List.setIfInBounds_toArray, List.set_cons_zero, List.set_cons_succ]
        refine wpAnyH_take (i := 11) (v := ?_) rfl (by kernel_rfl) (by kernel_rfl) (by kernel_rfl) (fun _ _ _ h => h) (Or.inl ⟨by rfl, ?_⟩) (by assumption) ?_
        rotate_left
        · intro w hSw
          (try dsimp only at hSw)
          go_simp
          (try with_reducible rfl)
        try simp only [List.getElem_toArray, List.getElem_cons_zero, List.getElem_cons_succ, Act.put, List.setIfInBounds_toArray, List.set_cons_zero, List.set_cons_succ]
        refine wpAnyH_ready (rs := [6]) (by kernel_rfl) (by simp) ?_
        refine AllReadyH.cons rfl (fun K hK => ?_) AllReadyH.nil
        go_simp
        refine (cD _ hHeld.1.tabs).mono ?_
        rintro e w8 ⟨rfl, b8⟩
        have b8 := b8
        refine hK.out _ _ (MulD.call hHeld b8) (fun hHeld => ?_)
        clear hK K
        try simp only [List.getElem_toArray, List.getElem_cons_zero, List.getElem_cons_succ, Act.put, List.setIfInBounds_toArray, List.set_cons_zero, List.set_cons_succ]
        refine wpAnyH_ready (rs := [12]) (by kernel_rfl) (by simp) ?_
        refine AllReadyH.cons rfl (fun K hK => ?_) AllReadyH.nil
        go_simp
        refine (cM _).mono ?_
        rintro e w8 ⟨rfl, b8⟩
        have hr := (show ResAt w w8 from (MulD.call hHeld b8).1.res)
        obtain ⟨⟨v0, q0⟩, ⟨v1, q1⟩, ⟨v2, q2⟩, g0, g1, g2, gB, gz⟩ := hr
        have GB := Lib.hid gB
        refine hK.out _ _ (MulD.call hHeld b8) (fun hHeld => ?_)
        clear hK K
        try simp only [List.getElem_toArray, List.getElem_cons_zero, List.getElem_cons_succ, Act.put, List.setIfInBounds_toArray, List.set_cons_zero, List.set_cons_succ]
        refine wpAnyH_take (i := 13) (v := ?_) rfl (by kernel_rfl) (by kernel_rfl) (by kernel_rfl) (fun _ _ _ h => h) (Or.inl ⟨by rfl, ?_⟩) (by assumption) ?_
        rotate_left
        · intro w hSw
          (try dsimp only at hSw)
          go_simp
          (try with_reducible rfl)
        try simp only [List.getElem_toArray, List.getElem_cons_zero, List.getElem_cons_succ, Act.put, List.setIfInBounds_toArray, List.set_cons_zero, List.set_cons_succ]
        refine wpAnyH_take (i := 14) (v := ?_) rfl (by kernel_rfl) (by kernel_rfl) (by kernel_rfl) (fun _ _ _ h => h) (Or.inl ⟨by rfl, ?_⟩) (by assumption) ?_
        rotate_left
        · intro w hSw
          (try dsimp only at hSw)
          go_simp
          (try with_reducible rfl)
        try simp only [List.getElem_toArray, List.getElem_cons_zero, List.getElem_cons_succ, Act.put, List.setIfInBounds_toArray, List.set_cons_zero, List.set_cons_succ]
        refine wpAnyH_ready (rs := [15]) (by kernel_rfl) (by simp) ?_
        refine AllReadyH.cons rfl (fun K hK => ?_) AllReadyH.nil
        go_simp
        refine hK.out _ _ (MulD.set (MulD.set (MulD.set hHeld hw6 0 _) hw6 1 _) hw6 2 _) (fun hHeld => ?_)
        clear hK K
        try simp only [List.getElem_toArray, List.getElem_cons_zero, List.getElem_cons_succ, Act.put, List.setIfInBounds_toArray, List.set_cons_zero, List.set_cons_succ]
        refine wpAnyH_take (i := 16) (v := ?_) rfl (by kernel_rfl) (by kernel_rfl) (by kernel_rfl) (fun _ _ _ h => h) (Or.inl ⟨by rfl, ?_⟩) (by assumption) ?_
        rotate_left
        · intro w hSw
          (try dsimp only at hSw)
          go_simp
          (try with_reducible rfl)
        try simp only [List.getElem_toArray, List.getElem_cons_zero, List.getElem_cons_succ, Act.put, List.setIfInBounds_toArray, List.set_cons_zero, List.set_cons_succ]
        refine wpAnyH_done (by kernel_rfl) ?_ _
        go_wp2
        exact bodyPost_ret (v := .tuple #[.agg #[.bool dn, .string dd, .int .i64 dsc], .int .i64 q]) (by simp [results, Tryz.results21, go_sem, q0, q1, q2]) rfl ⟨rfl, ((GB.out.setCell (by simp; omega) _).setCell (by simp; omega) _).setCell (by simp; omega) _⟩
      · go_simp
        have HP := Lib.hid (MulD.new hHeld)
        refine hK.out _ _ HP.out.1 (fun hHeld => ?_)
        clear hK K
        try simp only [List.getElem_toArray, List.getElem_cons_zero, List.getElem_cons_succ, Act.put, List.setIfInBounds_toArray, List.set_cons_zero, List.set_cons_succ]
        refine wpAnyH_ready (rs := [6]) (by kernel_rfl) (by simp) ?_
        refine AllReadyH.cons rfl (fun K hK => ?_) AllReadyH.nil
        go_simp
        refine (cP _).mono ?_
        rintro e w8 ⟨rfl, b8⟩
        have HP := Lib.hid (HP.out.call b8)
        refine hK.out _ _ (MulC.call hHeld b8) (fun hHeld => ?_)
        clear hK K b8
        try simp only [List.getElem_toArray, List.getElem_cons_zero, List.getElem_cons_succ, Act.put, List.setIfInBounds_toArray, List.set_cons_zero, List.set_cons_succ]
        refine wpAnyH_ready (rs := [8]) (by kernel_rfl) (by simp) ?_
        refine AllReadyH.cons rfl (fun K hK => ?_) AllReadyH.nil
        rw [if_pos (by rfl)]
        refine wp_store_mid 62 _ _ rfl _ _ (natL (ptsOf z)).toArray rfl rfl (by show World.there _ _ 0 (natL (ptsOf z)).length; rw [natL_len]; exact HP.out.2.1.there) (by show _ = some (natL (ptsOf z)).length; rw [natL_len]; exact hi14) (nat_one _) ?_
        have HQ := Lib.hid (HP.out.cells hw6 (ptsOf z))
        refine hK.out _ _ HQ.out.1 (fun hHeld => ?_)
        clear hK K HP
        try simp only [List.getElem_toArray, List.getElem_cons_zero, List.getElem_cons_succ, Act.put, List.setIfInBounds_toArray, List.set_cons_zero, List.set_cons_succ]
        refine wpAnyH_done (by kernel_rfl) ?_ _
        go_wp2_with fail
        refine wp_region_held_drew (S := MulD w neg1 a (s : Int) neg2 b (t : Int) _ (ptsOf z)) (by kernel_rfl) (MulD.call HQ.out (below_drew1 _)) (fun hHeld => ?_)
        refine wpAnyH_take (i := 0) (v := ?_) rfl (by kernel_rfl) (by kernel_rfl) (by kernel_rfl) (fun _ _ _ h => h) (Or.inl ⟨by rfl, ?_⟩) (by assumption) ?_
        rotate_left
        · intro w hSw
          (try dsimp only at hSw)
          go_simp
          (try with_reducible rfl)
        try simp only [List.getElem_toArray, List.getElem_cons_zero, List.getElem_cons_succ, Act.put, List.setIfInBounds_toArray, List.set_cons_zero, List.set_cons_succ]
        refine wpAnyH_take (i := 1) (v := ?_) rfl (by kernel_rfl) (by kernel_rfl) (by kernel_rfl) (fun _ _ _ h => h) (Or.inl ⟨by rfl, ?_⟩) (by assumption) ?_
        rotate_left
        · intro w hSw
          obtain ⟨⟨h0, h1, h2, h3, h4, h5, _⟩, _⟩ := hSw
          go_simp
          (try with_reducible rfl)
        try simp only [List.getElem_toArray, List.getElem_cons_zero, List.getElem_cons_succ, Act.put, List.setIfInBounds_toArray, List.set_cons_zero, List.set_cons_succ]
        refine wpAnyH_take (i := 2) (v := ?_) rfl (by kernel_rfl) (by kernel_rfl) (by kernel_rfl) (fun _ _ _ h => h) (Or.inl ⟨by rfl, ?_⟩) (by assumption) ?_
        rotate_left
        · intro w hSw
          (try dsimp only at hSw)
          go_simp
          (try with_reducible rfl)
        try simp only [List.getElem_toArray, List.getElem_cons_zero, List.getElem_cons_succ, Act.put, List.setIfInBounds_toArray, List.set_cons_zero, List.set_cons_succ]
        refine wpAnyH_take (i := 3) (v := ?_) rfl (by kernel_rfl) (by kernel_rfl) (by kernel_rfl) (fun _ _ _ h => h) (Or.inl ⟨by rfl, ?_⟩) (by assumption) ?_
        rotate_left
        · intro w hSw
          obtain ⟨⟨h0, h1, h2, h3, h4, h5, _⟩, _⟩ := hSw
          go_simp
          (try with_reducible rfl)
        try simp only [List.getElem_toArray, List.getElem_cons_zero, List.getElem_cons_succ, Act.put, List.setIfInBounds_toArray, List.set_cons_zero, List.set_cons_succ]
        refine wpAnyH_take (i := 4) (v := ?_) rfl (by kernel_rfl) (by kernel_rfl) (by kernel_rfl) (fun _ _ _ h => h) (Or.inl ⟨by rfl, ?_⟩) (by assumption) ?_
        rotate_left
        · intro w hSw
          (try dsimp only at hSw)
          go_simp
          (try with_reducible rfl)
        try simp only [List.getElem_toArray, List.getElem_cons_zero, List.getElem_cons_succ, Act.put, List.setIfInBounds_toArray, List.set_cons_zero, List.set_cons_succ]
        refine wpAnyH_take (i := 5) rfl (by kernel_rfl) (by kernel_rfl) (by kernel_rfl) (fun _ _ _ h => h) (yieldsIf_load_mid (by rfl) 62 _ rfl _ _ rfl _ _ (fun w hSw => hSw.2.1.range) hu rfl (by rw [natL_len]; exact hi14)) (by assumption) ?_
        try simp only [List.getElem_toArray, List.getElem_cons_zero, List.getElem_cons_succ, Act.put, List.setIfInBounds_toArray, List.set_cons_zero, List.set_cons_succ]
        refine wpAnyH_take (i := 7) (v := ?_) rfl (by kernel_rfl) (by kernel_rfl) (by kernel_rfl) (fun _ _ _ h => h) (Or.inl ⟨by rfl, ?_⟩) (by assumption) ?_
        rotate_left
        · intro w hSw
          (try dsimp only at hSw)
          go_simp
          (try with_reducible rfl)
        try simp only [List.getElem_toArray, List.getElem_cons_zero, List.getElem_cons_succ, Act.put, List.setIfInBounds_toArray, List.set_cons_zero, List.set_cons_succ]
        refine wpAnyH_take (i := 8) (v := ?_) rfl (by kernel_rfl) (by kernel_rfl) (by kernel_rfl) (fun _ _ _ h => h) (Or.inl ⟨by rfl, ?_⟩) (by assumption) ?_
        rotate_left
        · intro w hSw
          obtain ⟨⟨h0, h1, h2, h3, h4, h5, _⟩, _⟩ := hSw
          go_simp
          (try with_reducible rfl)
        try simp only [List.getElem_toArray, List.getElem_cons_zero, List.getElem_cons_succ, Act.put, List.setIfInBounds_toArray, List.set_cons_zero, List.set_cons_succ]
        refine wpAnyH_take (i := 9) (v := ?_) rfl (by kernel_rfl) (by kernel_rfl) (by kernel_rfl) (fun _ _ _ h => h) (Or.inl ⟨by rfl, ?_⟩) (by assumption) ?_
        rotate_left
        · intro w hSw
          (try dsimp only at hSw)
          go_simp
          (try with_reducible rfl)
        try simp only [List.getElem_toArray, List.getElem_cons_zero, List.getElem_cons_succ, Act.put, List.setIfInBounds_toArray, List.set_cons_zero, List.set_cons_succ]
        refine wpAnyH_take (i := 10) (v := ?_) rfl (by kernel_rfl) (by kernel_rfl) (by kernel_rfl) (fun _ _ _ h => h) (Or.inl ⟨by rfl, ?_⟩) (by assumption) ?_
        rotate_left
        · intro w hSw
          obtain ⟨⟨h0, h1, h2, h3, h4, h5, _⟩, _⟩ := hSw
          go_simp
          (try with_reducible rfl)
        try simp only [List.getElem_toArray, List.getElem_cons_zero, List.getElem_cons_succ, Act.put, List.setIfInBounds_toArray, List.set_cons_zero, List.set_cons_succ]
        refine wpAnyH_take (i := 11) (v := ?_) rfl (by kernel_rfl) (by kernel_rfl) (by kernel_rfl) (fun _ _ _ h => h) (Or.inl ⟨by rfl, ?_⟩) (by assumption) ?_
        rotate_left
        · intro w hSw
          (try dsimp only at hSw)
          go_simp
          (try with_reducible rfl)
        try simp only [List.getElem_toArray, List.getElem_cons_zero, List.getElem_cons_succ, Act.put, List.setIfInBounds_toArray, List.set_cons_zero, List.set_cons_succ]
        refine wpAnyH_ready (rs := [6]) (by kernel_rfl) (by simp) ?_
        refine AllReadyH.cons rfl (fun K hK => ?_) AllReadyH.nil
        go_simp
        refine (cD _ hHeld.1.tabs).mono ?_
        rintro e w8 ⟨rfl, b8⟩
        have b8 := b8
        refine hK.out _ _ (MulD.call hHeld b8) (fun hHeld => ?_)
        clear hK K
        try simp only [List.getElem_toArray, List.getElem_cons_zero, List.getElem_cons_succ, Act.put, List.setIfInBounds_toArray, List.set_cons_zero, List.set_cons_succ]
        refine wpAnyH_ready (rs := [12]) (by kernel_rfl) (by simp) ?_
        refine AllReadyH.cons rfl (fun K hK => ?_) AllReadyH.nil
        go_simp
        refine (cM _).mono ?_
        rintro e w8 ⟨rfl, b8⟩
        have hr := (show ResAt w w8 from (MulD.call hHeld b8).1.res)
        obtain ⟨⟨v0, q0⟩, ⟨v1, q1⟩, ⟨v2, q2⟩, g0, g1, g2, gB, gz⟩ := hr
        have GB := Lib.hid gB
        refine hK.out _ _ (MulD.call hHeld b8) (fun hHeld => ?_)
        clear hK K
        try simp only [List.getElem_toArray, List.getElem_cons_zero, List.getElem_cons_succ, Act.put, List.setIfInBounds_toArray, List.set_cons_zero, List.set_cons_succ]
        refine wpAnyH_take (i := 13) (v := ?_) rfl (by kernel_rfl) (by kernel_rfl) (by kernel_rfl) (fun _ _ _ h => h) (Or.inl ⟨by rfl, ?_⟩) (by assumption) ?_
        rotate_left
        · intro w hSw
          (try dsimp only at hSw)
          go_simp
          (try with_reducible rfl)
        try simp only [List.getElem_toArray, List.getElem_cons_zero, List.getElem_cons_succ, Act.put, List.setIfInBounds_toArray, List.set_cons_zero, List.set_cons_succ]
        refine wpAnyH_take (i := 14) (v := ?_) rfl (by kernel_rfl) (by kernel_rfl) (by kernel_rfl) (fun _ _ _ h => h) (Or.inl ⟨by rfl, ?_⟩) (by assumption) ?_
        rotate_left
        · intro w hSw
          (try dsimp only at hSw)
          go_simp
          (try with_reducible rfl)
        try simp only [List.getElem_toArray, List.getElem_cons_zero, List.getElem_cons_succ, Act.put, List.setIfInBounds_toArray, List.set_cons_zero, List.set_cons_succ]
        refine wpAnyH_ready (rs := [15]) (by kernel_rfl) (by simp) ?_
        refine AllReadyH.cons rfl (fun K hK => ?_) AllReadyH.nil
        go_simp
        refine hK.out _ _ (MulD.set (MulD.set (MulD.set hHeld hw6 0 _) hw6 1 _) hw6 2 _) (fun hHeld => ?_)
        clear hK K
        try simp only [List.getElem_toArray, List.getElem_cons_zero, List.getElem_cons_succ, Act.put, List.setIfInBounds_toArray, List.set_cons_zero, List.set_cons_succ]
        refine wpAnyH_take (i := 16) (v := ?_) rfl (by kernel_rfl) (by kernel_rfl) (by kernel_rfl) (fun _ _ _ h => h) (Or.inl ⟨by rfl, ?_⟩) (by assumption) ?_
        rotate_left
        · intro w hSw
          (try dsimp only at hSw)
          go_simp
          (try with_reducible rfl)
        try simp only [List.getElem_toArray, List.getElem_cons_zero, List.getElem_cons_succ, Act.put, List.setIfInBounds_toArray, List.set_cons_zero, List.set_cons_succ]
        refine wpAnyH_done (by kernel_rfl) ?_ _
        go_wp2
        exact bodyPost_ret (v := .tuple #[.agg #[.bool dn, .string dd, .int .i64 dsc], .int .i64 q]) (by simp [results, Tryz.results21, go_sem, q0, q1, q2]) rfl ⟨rfl, ((GB.out.setCell (by simp; omega) _).setCell (by simp; omega) _).setCell (by simp; omega) _⟩
    · go_simp
      have HP := Lib.hid (MulD.new hHeld)
      refine hK.out _ _ HP.out.1 (fun hHeld => ?_)
      clear hK K
      try simp only [List.getElem_toArray, List.getElem_cons_zero, List.getElem_cons_succ, Act.put, List.setIfInBounds_toArray, List.set_cons_zero, List.set_cons_succ]
      refine wpAnyH_ready (rs := [5]) (by kernel_rfl) (by simp) ?_
      refine AllReadyH.cons rfl (fun K hK => ?_) AllReadyH.nil
      go_simp
      refine (cN2 _).mono ?_
      rintro e w8 ⟨rfl, b8⟩
      have HP := Lib.hid (HP.out.call b8)
      refine hK.out _ _ (MulC.call hHeld b8) (fun hHeld => ?_)
      clear hK K b8
      try simp only [List.getElem_toArray, List.getElem_cons_zero, List.getElem_cons_succ, Act.put, List.setIfInBounds_toArray, List.set_cons_zero, List.set_cons_succ]
      refine wpAnyH_ready (rs := [6]) (by kernel_rfl) (by simp) ?_
      refine AllReadyH.cons rfl (fun K hK => ?_) AllReadyH.nil
      go_simp
      refine (cP _).mono ?_
      rintro e w8 ⟨rfl, b8⟩
      have HP := Lib.hid (HP.out.call b8)
      refine hK.out _ _ (MulC.call hHeld b8) (fun hHeld => ?_)
      clear hK K b8
      try simp only [List.getElem_toArray, List.getElem_cons_zero, List.getElem_cons_succ, Act.put, List.setIfInBounds_toArray, List.set_cons_zero, List.set_cons_succ]
      refine wpAnyH_ready (rs := [8]) (by kernel_rfl) (by simp) ?_
      refine AllReadyH.cons rfl (fun K hK => ?_) AllReadyH.nil
      rw [if_pos (by rfl)]
      refine wp_store_mid 62 _ _ rfl _ _ (natL (ptsOf z)).toArray rfl rfl (by show World.there _ _ 0 (natL (ptsOf z)).length; rw [natL_len]; exact HP.out.2.1.there) (by show _ = some (natL (ptsOf z)).length; rw [natL_len]; exact hi14) (nat_one _) ?_
      have HQ := Lib.hid (HP.out.cells hw6 (ptsOf z))
      refine hK.out _ _ HQ.out.1 (fun hHeld => ?_)
      clear hK K HP
      try simp only [List.getElem_toArray, List.getElem_cons_zero, List.getElem_cons_succ, Act.put, List.setIfInBounds_toArray, List.set_cons_zero, List.set_cons_succ]
      refine wpAnyH_done (by kernel_rfl) ?_ _
      go_wp2_with fail
      refine wp_region_held_drew (S := MulD w neg1 a (s : Int) neg2 b (t : Int) _ (ptsOf z)) (by kernel_rfl) (MulD.call HQ.out (below_drew1 _)) (fun hHeld => ?_)
      refine wpAnyH_take (i := 0) (v := ?_) rfl (by kernel_rfl) (by kernel_rfl) (by kernel_rfl) (fun _ _ _ h => h) (Or.inl ⟨by rfl, ?_⟩) (by assumption) ?_
      rotate_left
      · intro w hSw
        (try dsimp only at hSw)
        go_simp
        (try with_reducible rfl)
      try simp only [List.getElem_toArray, List.getElem_cons_zero, List.getElem_cons_succ, Act.put, List.setIfInBounds_toArray, List.set_cons_zero, List.set_cons_succ]
      refine wpAnyH_take (i := 1) (v := ?_) rfl (by kernel_rfl) (by kernel_rfl) (by kernel_rfl) (fun _ _ _ h => h) (Or.inl ⟨by rfl, ?_⟩) (by assumption) ?_
      rotate_left
      · intro w hSw
        obtain ⟨⟨h0, h1, h2, h3, h4, h5, _⟩, _⟩ := hSw
        go_simp
        (try with_reducible rfl)
      try simp only [List.getElem_toArray, List.getElem_cons_zero, List.getElem_cons_succ, Act.put, List.setIfInBounds_toArray, List.set_cons_zero, List.set_cons_succ]
      refine wpAnyH_take (i := 2) (v := ?_) rfl (by kernel_rfl) (by kernel_rfl) (by kernel_rfl) (fun _ _ _ h => h) (Or.inl ⟨by rfl, ?_⟩) (by assumption) ?_
      rotate_left
      · intro w hSw
        (try dsimp only at hSw)
        go_simp
        (try with_reducible rfl)
      try simp only [List.getElem_toArray, List.getElem_cons_zero, List.getElem_cons_succ, Act.put, List.setIfInBounds_toArray, List.set_cons_zero, List.set_cons_succ]
      refine wpAnyH_take (i := 3) (v := ?_) rfl (by kernel_rfl) (by kernel_rfl) (by kernel_rfl) (fun _ _ _ h => h) (Or.inl ⟨by rfl, ?_⟩) (by assumption) ?_
      rotate_left
      · intro w hSw
        obtain ⟨⟨h0, h1, h2, h3, h4, h5, _⟩, _⟩ := hSw
        go_simp
        (try with_reducible rfl)
      try simp only [List.getElem_toArray, List.getElem_cons_zero, List.getElem_cons_succ, Act.put, List.setIfInBounds_toArray, List.set_cons_zero, List.set_cons_succ]
      refine wpAnyH_take (i := 4) (v := ?_) rfl (by kernel_rfl) (by kernel_rfl) (by kernel_rfl) (fun _ _ _ h => h) (Or.inl ⟨by rfl, ?_⟩) (by assumption) ?_
      rotate_left
      · intro w hSw
        (try dsimp only at hSw)
        go_simp
        (try with_reducible rfl)
      try simp only [List.getElem_toArray, List.getElem_cons_zero, List.getElem_cons_succ, Act.put, List.setIfInBounds_toArray, List.set_cons_zero, List.set_cons_succ]
      refine wpAnyH_take (i := 5) rfl (by kernel_rfl) (by kernel_rfl) (by kernel_rfl) (fun _ _ _ h => h) (yieldsIf_load_mid (by rfl) 62 _ rfl _ _ rfl _ _ (fun w hSw => hSw.2.1.range) hu rfl (by rw [natL_len]; exact hi14)) (by assumption) ?_
      try simp only [List.getElem_toArray, List.getElem_cons_zero, List.getElem_cons_succ, Act.put, List.setIfInBounds_toArray, List.set_cons_zero, List.set_cons_succ]
      refine wpAnyH_take (i := 7) (v := ?_) rfl (by kernel_rfl) (by kernel_rfl) (by kernel_rfl) (fun _ _ _ h => h) (Or.inl ⟨by rfl, ?_⟩) (by assumption) ?_
      rotate_left
      · intro w hSw
        (try dsimp only at hSw)
        go_simp
        (try with_reducible rfl)
      try simp only [List.getElem_toArray, List.getElem_cons_zero, List.getElem_cons_succ, Act.put, List.setIfInBounds_toArray, List.set_cons_zero, List.set_cons_succ]
      refine wpAnyH_take (i := 8) (v := ?_) rfl (by kernel_rfl) (by kernel_rfl) (by kernel_rfl) (fun _ _ _ h => h) (Or.inl ⟨by rfl, ?_⟩) (by assumption) ?_
      rotate_left
      · intro w hSw
        obtain ⟨⟨h0, h1, h2, h3, h4, h5, _⟩, _⟩ := hSw
        go_simp
        (try with_reducible rfl)
      try simp only [List.getElem_toArray, List.getElem_cons_zero, List.getElem_cons_succ, Act.put, List.setIfInBounds_toArray, List.set_cons_zero, List.set_cons_succ]
      refine wpAnyH_take (i := 9) (v := ?_) rfl (by kernel_rfl) (by kernel_rfl) (by kernel_rfl) (fun _ _ _ h => h) (Or.inl ⟨by rfl, ?_⟩) (by assumption) ?_
      rotate_left
      · intro w hSw
        (try dsimp only at hSw)
        go_simp
        (try with_reducible rfl)
      try simp only [List.getElem_toArray, List.getElem_cons_zero, List.getElem_cons_succ, Act.put, List.setIfInBounds_toArray, List.set_cons_zero, List.set_cons_succ]
      refine wpAnyH_take (i := 10) (v := ?_) rfl (by kernel_rfl) (by kernel_rfl) (by kernel_rfl) (fun _ _ _ h => h) (Or.inl ⟨by rfl, ?_⟩) (by assumption) ?_
      rotate_left
      · intro w hSw
        obtain ⟨⟨h0, h1, h2, h3, h4, h5, _⟩, _⟩ := hSw
        go_simp
        (try with_reducible rfl)
      try simp only [List.getElem_toArray, List.getElem_cons_zero, List.getElem_cons_succ, Act.put, List.setIfInBounds_toArray, List.set_cons_zero, List.set_cons_succ]
      refine wpAnyH_take (i := 11) (v := ?_) rfl (by kernel_rfl) (by kernel_rfl) (by kernel_rfl) (fun _ _ _ h => h) (Or.inl ⟨by rfl, ?_⟩) (by assumption) ?_
      rotate_left
      · intro w hSw
        (try dsimp only at hSw)
        go_simp
        (try with_reducible rfl)
      try simp only [List.getElem_toArray, List.getElem_cons_zero, List.getElem_cons_succ, Act.put, List.setIfInBounds_toArray, List.set_cons_zero, List.set_cons_succ]
      refine wpAnyH_ready (rs := [6]) (by kernel_rfl) (by simp) ?_
      refine AllReadyH.cons rfl (fun K hK => ?_) AllReadyH.nil
      go_simp
      refine (cD _ hHeld.1.tabs).mono ?_
      rintro e w8 ⟨rfl, b8⟩
      have b8 := b8
      refine hK.out _ _ (MulD.call hHeld b8) (fun hHeld => ?_)
      clear hK K
      try simp only [List.getElem_toArray, List.getElem_cons_zero, List.getElem_cons_succ, Act.put, List.setIfInBounds_toArray, List.set_cons_zero, List.set_cons_succ]
      refine wpAnyH_ready (rs := [12]) (by kernel_rfl) (by simp) ?_
      refine AllReadyH.cons rfl (fun K hK => ?_) AllReadyH.nil
      go_simp
      refine (cM _).mono ?_
      rintro e w8 ⟨rfl, b8⟩
      have hr := (show ResAt w w8 from (MulD.call hHeld b8).1.res)
      obtain ⟨⟨v0, q0⟩, ⟨v1, q1⟩, ⟨v2, q2⟩, g0, g1, g2, gB, gz⟩ := hr
      have GB := Lib.hid gB
      refine hK.out _ _ (MulD.call hHeld b8) (fun hHeld => ?_)
      clear hK K
      try simp only [List.getElem_toArray, List.getElem_cons_zero, List.getElem_cons_succ, Act.put, List.setIfInBounds_toArray, List.set_cons_zero, List.set_cons_succ]
      refine wpAnyH_take (i := 13) (v := ?_) rfl (by kernel_rfl) (by kernel_rfl) (by kernel_rfl) (fun _ _ _ h => h) (Or.inl ⟨by rfl, ?_⟩) (by assumption) ?_
      rotate_left
      · intro w hSw
        (try dsimp only at hSw)
        go_simp
        (try with_reducible rfl)
      try simp only [List.getElem_toArray, List.getElem_cons_zero, List.getElem_cons_succ, Act.put, List.setIfInBounds_toArray, List.set_cons_zero, List.set_cons_succ]
      refine wpAnyH_take (i := 14) (v := ?_) rfl (by kernel_rfl) (by kernel_rfl) (by kernel_rfl) (fun _ _ _ h => h) (Or.inl ⟨by rfl, ?_⟩) (by assumption) ?_
      rotate_left
      · intro w hSw
        (try dsimp only at hSw)
        go_simp
        (try with_reducible rfl)
      try simp only [List.getElem_toArray, List.getElem_cons_zero, List.getElem_cons_succ, Act.put, List.setIfInBounds_toArray, List.set_cons_zero, List.set_cons_succ]
      refine wpAnyH_ready (rs := [15]) (by kernel_rfl) (by simp) ?_
      refine AllReadyH.cons rfl (fun K hK => ?_) AllReadyH.nil
      go_simp
      refine hK.out _ _ (MulD.set (MulD.set (MulD.set hHeld hw6 0 _) hw6 1 _) hw6 2 _) (fun hHeld => ?_)
      clear hK K
      try simp only [List.getElem_toArray, List.getElem_cons_zero, List.getElem_cons_succ, Act.put, List.setIfInBounds_toArray, List.set_cons_zero, List.set_cons_succ]
      refine wpAnyH_take (i := 16) (v := ?_) rfl (by kernel_rfl) (by kernel_rfl) (by kernel_rfl) (fun _ _ _ h => h) (Or.inl ⟨by rfl, ?_⟩) (by assumption) ?_
      rotate_left
      · intro w hSw
        (try dsimp only at hSw)
        go_simp
        (try with_reducible rfl)
      try simp only [List.getElem_toArray, List.getElem_cons_zero, List.getElem_cons_succ, Act.put, List.setIfInBounds_toArray, List.set_cons_zero, List.set_cons_succ]
      refine wpAnyH_done (by kernel_rfl) ?_ _
      go_wp2
      exact bodyPost_ret (v := .tuple #[.agg #[.bool dn, .string dd, .int .i64 dsc], .int .i64 q]) (by simp [results, Tryz.results21, go_sem, q0, q1, q2]) rfl ⟨rfl, ((GB.out.setCell (by simp; omega) _).setCell (by simp; omega) _).setCell (by simp; omega) _⟩
  · go_simp
    have HP := Lib.hid (MulD.new hHeld)
    refine hK.out _ _ HP.out.1 (fun hHeld => ?_)
    clear hK K
    try simp only [List.getElem_toArray, List.getElem_cons_zero, List.getElem_cons_succ, Act.put, List.setIfInBounds_toArray, List.set_cons_zero, List.set_cons_succ]
    refine wpAnyH_ready (rs := [2]) (by kernel_rfl) (by simp) ?_
    refine AllReadyH.cons rfl (fun K hK => ?_) AllReadyH.nil
    go_simp
    refine (cN1 _).mono ?_
    rintro e w8 ⟨rfl, b8⟩
    have HP := Lib.hid (HP.out.call b8)
    refine hK.out _ _ (MulC.call hHeld b8) (fun hHeld => ?_)
    clear hK K b8
    try simp only [List.getElem_toArray, List.getElem_cons_zero, List.getElem_cons_succ, Act.put, List.setIfInBounds_toArray, List.set_cons_zero, List.set_cons_succ]
    refine wpAnyH_ready (rs := [5]) (by kernel_rfl) (by simp) ?_
    refine AllReadyH.cons rfl (fun K hK => ?_) AllReadyH.nil
    go_simp
    refine (cN2 _).mono ?_
    rintro e w8 ⟨rfl, b8⟩
    have HP := Lib.hid (HP.out.call b8)
    refine hK.out _ _ (MulC.call hHeld b8) (fun hHeld => ?_)
    clear hK K b8
    try simp only [List.getElem_toArray, List.getElem_cons_zero, List.getElem_cons_succ, Act.put, List.setIfInBounds_toArray, List.set_cons_zero, List.set_cons_succ]
    refine wpAnyH_ready (rs := [6]) (by kernel_rfl) (by simp) ?_
    refine AllReadyH.cons rfl (fun K hK => ?_) AllReadyH.nil
    go_simp
    refine (cP _).mono ?_
    rintro e w8 ⟨rfl, b8⟩
    have HP := Lib.hid (HP.out.call b8)
    refine hK.out _ _ (MulC.call hHeld b8) (fun hHeld => ?_)
    clear hK K b8
    try simp only [List.getElem_toArray, List.getElem_cons_zero, List.getElem_cons_succ, Act.put, List.setIfInBounds_toArray, List.set_cons_zero, List.set_cons_succ]
    refine wpAnyH_ready (rs := [8]) (by kernel_rfl) (by simp) ?_
    refine AllReadyH.cons rfl (fun K hK => ?_) AllReadyH.nil
    rw [if_pos (by rfl)]
    refine wp_store_mid 62 _ _ rfl _ _ (natL (ptsOf z)).toArray rfl rfl (by show World.there _ _ 0 (natL (ptsOf z)).length; rw [natL_len]; exact HP.out.2.1.there) (by show _ = some (natL (ptsOf z)).length; rw [natL_len]; exact hi14) (nat_one _) ?_
    have HQ := Lib.hid (HP.out.cells hw6 (ptsOf z))
    refine hK.out _ _ HQ.out.1 (fun hHeld => ?_)
    clear hK K HP
    try simp only [List.getElem_toArray, List.getElem_cons_zero, List.getElem_cons_succ, Act.put, List.setIfInBounds_toArray, List.set_cons_zero, List.set_cons_succ]
    refine wpAnyH_done (by kernel_rfl) ?_ _
    go_wp2_with fail
    refine wp_region_held_drew (S := MulD w neg1 a (s : Int) neg2 b (t : Int) _ (ptsOf z)) (by kernel_rfl) (MulD.call HQ.out (below_drew1 _)) (fun hHeld => ?_)
    refine wpAnyH_take (i := 0) (v := ?_) rfl (by kernel_rfl) (by kernel_rfl) (by kernel_rfl) (fun _ _ _ h => h) (Or.inl ⟨by rfl, ?_⟩) (by assumption) ?_
    rotate_left
    · intro w hSw
      (try dsimp only at hSw)
      go_simp
      (try with_reducible rfl)
    try simp only [List.getElem_toArray, List.getElem_cons_zero, List.getElem_cons_succ, Act.put, List.setIfInBounds_toArray, List.set_cons_zero, List.set_cons_succ]
    refine wpAnyH_take (i := 1) (v := ?_) rfl (by kernel_rfl) (by kernel_rfl) (by kernel_rfl) (fun _ _ _ h => h) (Or.inl ⟨by rfl, ?_⟩) (by assumption) ?_
    rotate_left
    · intro w hSw
      obtain ⟨⟨h0, h1, h2, h3, h4, h5, _⟩, _⟩ := hSw
      go_simp
      (try with_reducible rfl)
    try simp only [List.getElem_toArray, List.getElem_cons_zero, List.getElem_cons_succ, Act.put, List.setIfInBounds_toArray, List.set_cons_zero, List.set_cons_succ]
    refine wpAnyH_take (i := 2) (v := ?_) rfl (by kernel_rfl) (by kernel_rfl) (by kernel_rfl) (fun _ _ _ h => h) (Or.inl ⟨by rfl, ?_⟩) (by assumption) ?_
    rotate_left
    · intro w hSw
      (try dsimp only at hSw)
      go_simp
      (try with_reducible rfl)
    try simp only [List.getElem_toArray, List.getElem_cons_zero, List.getElem_cons_succ, Act.put, List.setIfInBounds_toArray, List.set_cons_zero, List.set_cons_succ]
    refine wpAnyH_take (i := 3) (v := ?_) rfl (by kernel_rfl) (by kernel_rfl) (by kernel_rfl) (fun _ _ _ h => h) (Or.inl ⟨by rfl, ?_⟩) (by assumption) ?_
    rotate_left
    · intro w hSw
      obtain ⟨⟨h0, h1, h2, h3, h4, h5, _⟩, _⟩ := hSw
      go_simp
      (try with_reducible rfl)
    try simp only [List.getElem_toArray, List.getElem_cons_zero, List.getElem_cons_succ, Act.put, List.setIfInBounds_toArray, List.set_cons_zero, List.set_cons_succ]
    refine wpAnyH_take (i := 4) (v := ?_) rfl (by kernel_rfl) (by kernel_rfl) (by kernel_rfl) (fun _ _ _ h => h) (Or.inl ⟨by rfl, ?_⟩) (by assumption) ?_
    rotate_left
    · intro w hSw
      (try dsimp only at hSw)
      go_simp
      (try with_reducible rfl)
    try simp only [List.getElem_toArray, List.getElem_cons_zero, List.getElem_cons_succ, Act.put, List.setIfInBounds_toArray, List.set_cons_zero, List.set_cons_succ]
    refine wpAnyH_take (i := 5) rfl (by kernel_rfl) (by kernel_rfl) (by kernel_rfl) (fun _ _ _ h => h) (yieldsIf_load_mid (by rfl) 62 _ rfl _ _ rfl _ _ (fun w hSw => hSw.2.1.range) hu rfl (by rw [natL_len]; exact hi14)) (by assumption) ?_
    try simp only [List.getElem_toArray, List.getElem_cons_zero, List.getElem_cons_succ, Act.put, List.setIfInBounds_toArray, List.set_cons_zero, List.set_cons_succ]
    refine wpAnyH_take (i := 7) (v := ?_) rfl (by kernel_rfl) (by kernel_rfl) (by kernel_rfl) (fun _ _ _ h => h) (Or.inl ⟨by rfl, ?_⟩) (by assumption) ?_
    rotate_left
    · intro w hSw
      (try dsimp only at hSw)
      go_simp
      (try with_reducible rfl)
    try simp only [List.getElem_toArray, List.getElem_cons_zero, List.getElem_cons_succ, Act.put, List.setIfInBounds_toArray, List.set_cons_zero, List.set_cons_succ]
    refine wpAnyH_take (i := 8) (v := ?_) rfl (by kernel_rfl) (by kernel_rfl) (by kernel_rfl) (fun _ _ _ h => h) (Or.inl ⟨by rfl, ?_⟩) (by assumption) ?_
    rotate_left
    · intro w hSw
      obtain ⟨⟨h0, h1, h2, h3, h4, h5, _⟩, _⟩ := hSw
      go_simp
      (try with_reducible rfl)
    try simp only [List.getElem_toArray, List.getElem_cons_zero, List.getElem_cons_succ, Act.put, List.setIfInBounds_toArray, List.set_cons_zero, List.set_cons_succ]
    refine wpAnyH_take (i := 9) (v := ?_) rfl (by kernel_rfl) (by kernel_rfl) (by kernel_rfl) (fun _ _ _ h => h) (Or.inl ⟨by rfl, ?_⟩) (by assumption) ?_
    rotate_left
    · intro w hSw
      (try dsimp only at hSw)
      go_simp
      (try with_reducible rfl)
    try simp only [List.getElem_toArray, List.getElem_cons_zero, List.getElem_cons_succ, Act.put, List.setIfInBounds_toArray, List.set_cons_zero, List.set_cons_succ]
    refine wpAnyH_take (i := 10) (v := ?_) rfl (by kernel_rfl) (by kernel_rfl) (by kernel_rfl) (fun _ _ _ h => h) (Or.inl ⟨by rfl, ?_⟩) (by assumption) ?_
    rotate_left
    · intro w hSw
      obtain ⟨⟨h0, h1, h2, h3, h4, h5, _⟩, _⟩ := hSw
      go_simp
      (try with_reducible rfl)
    try simp only [List.getElem_toArray, List.getElem_cons_zero, List.getElem_cons_succ, Act.put, List.setIfInBounds_toArray, List.set_cons_zero, List.set_cons_succ]
    refine wpAnyH_take (i := 11) (v := ?_) rfl (by kernel_rfl) (by kernel_rfl) (by kernel_rfl) (fun _ _ _ h => h) (Or.inl ⟨by rfl, ?_⟩) (by assumption) ?_
    rotate_left
    · intro w hSw
      (try dsimp only at hSw)
      go_simp
      (try with_reducible rfl)
    try simp only [List.getElem_toArray, List.getElem_cons_zero, List.getElem_cons_succ, Act.put, List.setIfInBounds_toArray, List.set_cons_zero, List.set_cons_succ]
    refine wpAnyH_ready (rs := [6]) (by kernel_rfl) (by simp) ?_
    refine AllReadyH.cons rfl (fun K hK => ?_) AllReadyH.nil
    go_simp
    refine (cD _ hHeld.1.tabs).mono ?_
    rintro e w8 ⟨rfl, b8⟩
    have b8 := b8
    refine hK.out _ _ (MulD.call hHeld b8) (fun hHeld => ?_)
    clear hK K
    try simp only [List.getElem_toArray, List.getElem_cons_zero, List.getElem_cons_succ, Act.put, List.setIfInBounds_toArray, List.set_cons_zero, List.set_cons_succ]
    refine wpAnyH_ready (rs := [12]) (by kernel_rfl) (by simp) ?_
    refine AllReadyH.cons rfl (fun K hK => ?_) AllReadyH.nil
    go_simp
    refine (cM _).mono ?_
    rintro e w8 ⟨rfl, b8⟩
    have hr := (show ResAt w w8 from (MulD.call hHeld b8).1.res)
    obtain ⟨⟨v0, q0⟩, ⟨v1, q1⟩, ⟨v2, q2⟩, g0, g1, g2, gB, gz⟩ := hr
    have GB := Lib.hid gB
    refine hK.out _ _ (MulD.call hHeld b8) (fun hHeld => ?_)
    clear hK K
    try simp only [List.getElem_toArray, List.getElem_cons_zero, List.getElem_cons_succ, Act.put, List.setIfInBounds_toArray, List.set_cons_zero, List.set_cons_succ]
    refine wpAnyH_take (i := 13) (v := ?_) rfl (by kernel_rfl) (by kernel_rfl) (by kernel_rfl) (fun _ _ _ h => h) (Or.inl ⟨by rfl, ?_⟩) (by assumption) ?_
    rotate_left
    · intro w hSw
      (try dsimp only at hSw)
      go_simp
      (try with_reducible rfl)
    try simp only [List.getElem_toArray, List.getElem_cons_zero, List.getElem_cons_succ, Act.put, List.setIfInBounds_toArray, List.set_cons_zero, List.set_cons_succ]
    refine wpAnyH_take (i := 14) (v := ?_) rfl (by kernel_rfl) (by kernel_rfl) (by kernel_rfl) (fun _ _ _ h => h) (Or.inl ⟨by rfl, ?_⟩) (by assumption) ?_
    rotate_left
    · intro w hSw
      (try dsimp only at hSw)
      go_simp
      (try with_reducible rfl)
    try simp only [List.getElem_toArray, List.getElem_cons_zero, List.getElem_cons_succ, Act.put, List.setIfInBounds_toArray, List.set_cons_zero, List.set_cons_succ]
    refine wpAnyH_ready (rs := [15]) (by kernel_rfl) (by simp) ?_
    refine AllReadyH.cons rfl (fun K hK => ?_) AllReadyH.nil
    go_simp
    refine hK.out _ _ (MulD.set (MulD.set (MulD.set hHeld hw6 0 _) hw6 1 _) hw6 2 _) (fun hHeld => ?_)
    clear hK K
    try simp only [List.getElem_toArray, List.getElem_cons_zero, List.getElem_cons_succ, Act.put, List.setIfInBounds_toArray, List.set_cons_zero, List.set_cons_succ]
    refine wpAnyH_take (i := 16) (v := ?_) rfl (by kernel_rfl) (by kernel_rfl) (by kernel_rfl) (fun _ _ _ h => h) (Or.inl ⟨by rfl, ?_⟩) (by assumption) ?_
    rotate_left
    · intro w hSw
      (try dsimp only at hSw)
      go_simp
      (try with_reducible rfl)
    try simp only [List.getElem_toArray, List.getElem_cons_zero, List.getElem_cons_succ, Act.put, List.setIfInBounds_toArray, List.set_cons_zero, List.set_cons_succ]
    refine wpAnyH_done (by kernel_rfl) ?_ _
    go_wp2
    exact bodyPost_ret (v := .tuple #[.agg #[.bool dn, .string dd, .int .i64 dsc], .int .i64 q]) (by simp [results, Tryz.results21, go_sem, q0, q1, q2]) rfl ⟨rfl, ((GB.out.setCell (by simp; omega) _).setCell (by simp; omega) _).setCell (by simp; omega) _⟩

set_option maxRecDepth 100000 in
set_option maxHeartbeats 4000000 in
theorem p_mul (a b : Dec) (za : a.ds.size ≤ 400) (zb : b.ds.size ≤ 400) (w : World) (hT : Tabs w) : Calls Tryz.prog 21 #[a.v, b.v] w fun e w' => e = .returned (mulS a b).v ∧ Below w.heap.size w w' := by
  by_cases h : Valid a ∧ Valid b
  · have hd : mulS a b = ofOpt (mkDec (a.neg != b.neg) (num a * num b) (scl a + scl b)) := by unfold mulS; rw [if_pos h]
    rw [hd, ← ofOpt_v]
    have ha := h.1.is
    have hb := h.2.is
    have h1 := h.1.sc
    have h2 := h.2.sc
    clear hd h
    generalize num a = n at *
    generalize num b = m at *
    generalize scl a = s at *
    generalize scl b = t at *
    obtain ⟨neg1, d1, s1⟩ := a
    obtain ⟨neg2, d2, s2⟩ := b
    simp only at h1 h2 za zb ⊢
    subst h1 h2
    unfold Dec.v
    exact mul_prog neg1 neg2 d1 d2 s t n m ha hb w hT
  · have hd : mulS a b = argRes := by unfold mulS; rw [if_neg h]
    have hv : chk1 (vB a && vB b) = 2 := by
      by_cases h1 : Valid a
      · rw [vB_bad (fun h2 => h ⟨h1, h2⟩), Bool.and_false]; rfl
      · rw [vB_bad h1, Bool.false_and]; rfl
    have cC := check_at2 a b (by unfold maxLen; omega) (by unfold maxLen; omega) 2 hv
    rw [hd]
    obtain ⟨neg1, d1, s1⟩ := a
    obtain ⟨neg2, d2, s2⟩ := b
    unfold argRes DRes.v decNil Dec.v
    simp only at cC za zb ⊢
    clear hd hv h
    go_enter Tryz.func21, Tryz.ntmps21
    go_wp2_with fail
    refine (cC _ _ (by simp)).mono ?_
    rintro e w1 ⟨rfl, b1⟩
    obtain ⟨x0, x1, x2, y0, y1, y2, r0, r1, r2, f0, f1, f2, hB, hz3⟩ := three_all (past (by simp) b1)
    have HB := Lib.hid hB
    clear b1 hB
    go_wp2
    exact bodyPost_ret (v := .tuple #[.agg #[.bool false, .string ⟨#[]⟩, .int .i64 0], .int .i64 2]) (by simp [results, Tryz.results21, go_sem, r0, r1, r2]) rfl ⟨rfl, ((HB.out.setCell (by simp; omega) _).setCell (by simp; omega) _).setCell (by simp; omega) _⟩
end Go.Proofs.YtcpociafcjabkaaGreatDoor
