/- The program's Round. -/
import Derived.Test.YtcpociafcjabkaaGreatDoorPZ
import Derived.Laws.Cover1
import Derived.Test.YtcpociafcjabkaaGreatDoorPW
set_option linter.unusedSimpArgs false
set_option linter.unusedVariables false
namespace Go.Proofs.YtcpociafcjabkaaGreatDoor
open Go.RowKit

/-- A number in a block of its own. -/
theorem one_lit (w : World) (g : Nat → Int) :
    Blk (w.alloc (.cells #[.int .i64 0, .int .i64 0, .int .i64 0, .int .i64 0, .int .i64 0, .int .i64 0, .int .i64 0, .int .i64 0, .int .i64 0, .int .i64 0, .int .i64 0, .int .i64 0, .int .i64 0, .int .i64 0] 62)) w.heap.size (fun _ => 0) ∧
    Blk ((w.alloc (.cells #[.int .i64 0, .int .i64 0, .int .i64 0, .int .i64 0, .int .i64 0, .int .i64 0, .int .i64 0, .int .i64 0, .int .i64 0, .int .i64 0, .int .i64 0, .int .i64 0, .int .i64 0, .int .i64 0] 62)).setRow w.heap.size (natL g).toArray) w.heap.size g ∧
    Below w.heap.size w ((w.alloc (.cells #[.int .i64 0, .int .i64 0, .int .i64 0, .int .i64 0, .int .i64 0, .int .i64 0, .int .i64 0, .int .i64 0, .int .i64 0, .int .i64 0, .int .i64 0, .int .i64 0, .int .i64 0, .int .i64 0] 62)).setRow w.heap.size (natL g).toArray) := by
  have k1 : Blk (w.alloc (.cells #[.int .i64 0, .int .i64 0, .int .i64 0, .int .i64 0, .int .i64 0, .int .i64 0, .int .i64 0, .int .i64 0, .int .i64 0, .int .i64 0, .int .i64 0, .int .i64 0, .int .i64 0, .int .i64 0] 62)) w.heap.size (fun _ => 0) := Blk.new w (fun _ => 0)
  exact ⟨k1, setRow_heap _ _ _ (natL g).toArray _ _ k1, below_row ((Below.refl w.heap.size w).alloc (Nat.le_refl _) _) (Nat.le_refl _) _⟩

/-- What rounding reads, and where it writes. -/
def RndA (w : World) (neg : Bool) (a : ByteArray) (s : Int) (W : World) : Prop :=
  Has W w.heap.size (.bool neg) (.string a) (.int .i64 s) ∧ (∃ v0 v1 v2, Has W (w.heap.size + 1) v0 v1 v2) ∧ Below w.heap.size w W ∧ Tabs W
theorem RndA.call {w W W' : World} {neg : Bool} {a : ByteArray} {s : Int} (h : RndA w neg a s W) (B : Below W.heap.size W W') : RndA w neg a s W' := by
  obtain ⟨h0, ⟨v0, v1, v2, h1⟩, h2, h3⟩ := h
  exact ⟨h0.call B, ⟨v0, v1, v2, h1.call B⟩, h2.trans (B.mono h2.size), h3.next B⟩
theorem RndA.size {w W : World} {neg : Bool} {a : ByteArray} {s : Int} (h : RndA w neg a s W) : w.heap.size + 2 ≤ W.heap.size := by
  obtain ⟨_, ⟨_, _, _, h1⟩, _⟩ := h
  exact h1.lt
def RndB (w : World) (neg : Bool) (a : ByteArray) (s : Int) (p : Nat) (f : Nat → Int) (W : World) : Prop :=
  RndA w neg a s W ∧ Blk W p f ∧ w.heap.size + 2 ≤ p
theorem RndB.call {w W W' : World} {neg : Bool} {a : ByteArray} {s : Int} {p : Nat} {f : Nat → Int} (h : RndB w neg a s p f W) (B : Below W.heap.size W W') : RndB w neg a s p f W' := ⟨h.1.call B, h.2.1.call B, h.2.2⟩
theorem RndB.set3 {w W : World} {neg : Bool} {a : ByteArray} {s : Int} {p : Nat} {f : Nat → Int} (h : RndB w neg a s p f W) (hw : 6 ≤ w.heap.size) (u0 u1 u2 : Value) : RndB w neg a s p f (((W.setCell ⟨w.heap.size + 1, 0, none⟩ u0).setCell ⟨w.heap.size + 1, 1, none⟩ u1).setCell ⟨w.heap.size + 1, 2, none⟩ u2) := by
  obtain ⟨⟨h0, ⟨v0, v1, v2, h1⟩, h2, h3⟩, h4, h5⟩ := h
  have e0 := h0.far (c := w.heap.size + 1) (by omega) u0 u1 u2
  have e1 := h1.set u0 u1 u2
  have e2 := stepS h2 (b := w.heap.size + 1) (by omega) u0 u1 u2
  have e3 : Below 6 W (((W.setCell ⟨w.heap.size + 1, 0, none⟩ u0).setCell ⟨w.heap.size + 1, 1, none⟩ u1).setCell ⟨w.heap.size + 1, 2, none⟩ u2) := (((Below.refl 6 W).setCell (p := ⟨w.heap.size + 1, 0, none⟩) (by show 6 ≤ w.heap.size + 1; omega) u0).setCell (p := ⟨w.heap.size + 1, 1, none⟩) (by show 6 ≤ w.heap.size + 1; omega) u1).setCell (p := ⟨w.heap.size + 1, 2, none⟩) (by show 6 ≤ w.heap.size + 1; omega) u2
  have e4 := ((h4.far (c := w.heap.size + 1) 0 u0 (by omega)).far (c := w.heap.size + 1) 1 u1 (by omega)).far (c := w.heap.size + 1) 2 u2 (by omega)
  exact ⟨⟨e0, ⟨_, _, _, e1⟩, e2, h3.below e3 (Nat.le_refl _)⟩, e4, h5⟩
theorem RndA.cells {w W : World} {neg : Bool} {a : ByteArray} {s : Int} (h : RndA w neg a s W) {p : Nat} (hp : w.heap.size + 2 ≤ p) (hw : 6 ≤ w.heap.size) (L : List Value) : RndA w neg a s (W.setCells p 0 L) := by
  obtain ⟨h0, ⟨v0, v1, v2, h1⟩, h2, h3⟩ := h
  have keep : ∀ b, b ≠ p → ∀ x0 x1 x2, Has W b x0 x1 x2 → Has (W.setCells p 0 L) b x0 x1 x2 := fun b hb x0 x1 x2 hh => by
    have e : (W.setCells p 0 L).heap[b]? = W.heap[b]? := cells_other p b hb L 0 W
    obtain ⟨k0, k1, k2, f0, f1, f2, hl⟩ := hh
    exact ⟨(World.cell?_of_block (w := W) e).trans k0, (World.cell?_of_block (w := W) e).trans k1, (World.cell?_of_block (w := W) e).trans k2, (World.frozen?_of_block (w := W) e).trans f0, (World.frozen?_of_block (w := W) e).trans f1, (World.frozen?_of_block (w := W) e).trans f2, by rw [cells_size]; exact hl⟩
  exact ⟨keep _ (by omega) _ _ _ h0, ⟨v0, v1, v2, keep _ (by omega) _ _ _ h1⟩, below_cells (by omega) _ _ _ h2, h3.below (below_cells (B := 6) (by omega) _ _ _ (Below.refl _ _)) (Nat.le_refl _)⟩
theorem RndB.cells {w W : World} {neg : Bool} {a : ByteArray} {s : Int} {p : Nat} {f : Nat → Int} (h : RndB w neg a s p f W) (hw : 6 ≤ w.heap.size) (g : Nat → Int) : RndB w neg a s p g (W.setCells p 0 (natL g)) :=
  ⟨h.1.cells h.2.2 hw _, h.2.1.setCells g, h.2.2⟩

theorem part_bound {n : Nat} (h : n < 10 ^ 60) (j : Nat) : n / 10 ^ j < 10 ^ 126 ∧ n / 10 ^ j + 1 < 10 ^ 126 := by
  have h1 : n / 10 ^ j ≤ n := Nat.div_le_self _ _
  have h2 : 10 ^ 60 * 10 ≤ 10 ^ 126 := by
    rw [← Nat.pow_succ]
    exact Nat.pow_le_pow_right (by omega) (by omega)
  omega

set_option maxRecDepth 100000 in
set_option maxHeartbeats 16000000 in
theorem round_gt (neg : Bool) (a : ByteArray) (s n k j : Nat) (ha : IsDec ⟨neg, a, (s : Int)⟩ n s) (hj : 0 < j) (hkj : k + j = s) (hcase : 10 ^ j < n % 10 ^ j + n % 10 ^ j) (w : World) (hT : Tabs w) :
    Calls Tryz.prog 29 #[.agg #[.bool neg, .string a, .int .i64 (s : Int)], .int .i64 (k : Int)] w fun e w' => e = .returned (decR (mkDec neg (n / 10 ^ j + 1) k)) ∧ Below w.heap.size w w' := by
  have za := dec_size ha
  simp only at za
  have hs := ha.le
  have hks : k < s := by omega
  have hk := hks
  have cC := check_at ⟨neg, a, (s : Int)⟩ (by unfold maxLen; simp only; omega) 0 (by rw [vB_ok ⟨_, _, ha⟩]; rfl)
  have cS := fun W => t_scale (k : Int) W
  rw [decide_eq_true (show 0 ≤ (k : Int) ∧ (k : Int) ≤ 60 by omega)] at cS
  have cK := fun W => cut_call a j (by omega) (by omega) W
  obtain ⟨U, B, eU, eB, hU, vU, zU, hB, vB, zB⟩ := cut_facts ha.num za j (by omega)
  obtain ⟨H, eH, hH, vH, zH⟩ := half_facts j hj
  rw [eU, eB] at cK
  have hn : n < 10 ^ 60 := Nat.lt_of_lt_of_le ha.num.lt (Nat.pow_le_pow_right (by omega) za)
  obtain ⟨hx1, hx2⟩ := part_bound hn j
  obtain ⟨hl0, he0⟩ := cmp_texts hB hH zB zH
  have cZ := fun W => pzeros_call ((j : Int) - 1) (by omega) (by omega) W
  have cN := fun W => of_call U hU (by omega) W
  rw [vU] at cN
  have hl : Op.bytesLess B.toList H.toList = false := by rw [hl0, vB]; exact decide_eq_false (by omega)
  have he : (B.toList == H.toList) = false := by rw [he0, vB]; exact decide_eq_false (by omega)
  have cN1 := fun W => of_call (⟨#[49]⟩ : ByteArray) (AllD.cons (by decide) AllD.nil) (by decide) W
  rw [show val (ByteArray.mk #[49]).data.toList = 1 by rfl] at cN1
  have cP := fun W => Sum_call (n / 10 ^ j) 1 hx1 (by rw [show (126 : Nat) = 125 + 1 from rfl, Nat.pow_succ]; have := Nat.pow_pos (n := 125) (show 0 < 10 by omega); omega) W
  have cD := fun W hT => digits_call (n / 10 ^ j + 1) W hT
  have cM := fun W => padS_small hx2 neg k (by omega) W
  unfold natV arrV at cN cD cN1 cP
  unfold decR at cM ⊢
  generalize (mkDec neg (n / 10 ^ j + 1) k).getD decNil = d at cM ⊢
  generalize (if (mkDec neg (n / 10 ^ j + 1) k).isSome then (0 : Int) else 7) = q at cM ⊢
  generalize padS (n / 10 ^ j + 1) = Z at cD cM
  generalize n / 10 ^ j + 1 = y at cP cD
  generalize n / 10 ^ j = x at cN cP
  obtain ⟨dn, dd, dsc⟩ := d
  simp only [Dec.v] at cC cM ⊢
  have zBi : (B.size : Int) = (j : Int) := by rw [zB]
  have ejs : (s : Int) - (k : Int) = (j : Int) := by omega
  have wj : IntKind.i64.wrap ((s : Int) - (k : Int)) = (j : Int) := by rw [ejs]; exact IntWalk.i64_in _ (by omega)
  have wj1 : IntKind.i64.wrap ((B.size : Int) - 1) = (j : Int) - 1 := by rw [zBi]; exact IntWalk.i64_in _ (by omega)
  have hj2 : j ≤ 60 := by omega
  generalize zs ((j : Int) - 1).toNat = ZZ at cZ eH
  have yH : ¬ 9223372036854775807 < (ByteArray.mk #[53]).size + ZZ.size := by rw [← app_size, eH, zH]; omega
  have hw6 := hT.size
  have HT := Lib.hid hT
  clear hl0 he0 ha za hs hcase eU eB hU vU zU hB vB hH vH zH hn hx1 hx2 hT
  go_enter Tryz.func29, Tryz.ntmps29
  go_wp2_with fail
  refine (cC _ _ (by simp)).mono ?_
  rintro e w1 ⟨rfl, b1⟩
  have b1 := past (by simp) b1
  have K0 := ((Has.new w (.bool neg) (.string a) (.int .i64 (s : Int)) 23).alloc (.cells #[.bool false, .string ⟨#[]⟩, .int .i64 0] 23)).call b1
  have K1 := (Has.new (w.alloc (.cells #[.bool neg, .string a, .int .i64 (s : Int)] 23)) (.bool false) (.string ⟨#[]⟩) (.int .i64 0) 23).call b1
  rw [World.size_alloc] at K1
  have hB1 : Below w.heap.size w w1 := (((Below.refl w.heap.size w).alloc (Nat.le_refl _) _).alloc (by simp) _).trans (b1.mono (by simp; omega))
  have KS : Hid (RndA w neg a (s : Int) w1) := ⟨K0, ⟨_, _, _, K1⟩, hB1, HT.out.below hB1 hw6⟩
  obtain ⟨x0, x1, x2, f0, f1, f2, _⟩ := K0
  clear b1 hB1 cC K1
  go_wp2_with (first
    | (go_at_call 62; refine (cS _).mono ?_; rintro e w3 ⟨rfl, rfl⟩)
    | (go_at_call 45; refine (cK _).mono ?_; rintro e w4 ⟨rfl, b4⟩; have KS := Lib.hid (KS.out.call b4); clear b4 x0 x1 x2 f0 f1 f2)
    | (go_at_call 64; refine (cZ _).mono ?_; rintro e w5 ⟨rfl, b5⟩; have KS := Lib.hid (KS.out.call b5); clear b5)
    | (go_at_call 57; refine (cN _).mono ?_; rintro e w6 ⟨rfl, b6⟩; have ks := KS.out.call b6; obtain ⟨n1, n2, n3⟩ := one_lit w6 (ptsOf x); have KB : Hid (RndB w neg a (s : Int) w6.heap.size (ptsOf x) _) := ⟨ks.call n3, n2, ks.size⟩; clear n2 n3 b6 ks)
    | (refine wpList_store_row rfl 62 _ _ rfl w6.heap.size _ rfl rfl 62 _ n1 (nat_size _) (by simp [natL_len]) (nat_one _) ?_; obtain ⟨p, hp⟩ : ∃ p, w6.heap.size = p := ⟨_, rfl⟩; obtain ⟨W7, hW7⟩ : ∃ W7, ((w6.alloc (.cells #[.int .i64 0, .int .i64 0, .int .i64 0, .int .i64 0, .int .i64 0, .int .i64 0, .int .i64 0, .int .i64 0, .int .i64 0, .int .i64 0, .int .i64 0, .int .i64 0, .int .i64 0, .int .i64 0] 62)).setRow w6.heap.size (natL (ptsOf x)).toArray) = W7 := ⟨_, rfl⟩; rw [hW7] at KB ⊢; rw [hp] at KB ⊢;  clear hW7 n1 hp))
  have hu : Tryz.prog.underlying 62 = some (.array 14 2) := Tryz.underlying62
  have hi14 : (Tryz.prog.info? 62).map (·.size) = some 14 := by kernel_rfl
  refine wp_region_any (by kernel_rfl) ?_
  change wpAny _ _ _ _ _ _ _ (World.drew _)
  have KB := Lib.hid (KB.out.call (below_drew1 _))
  refine wpAny_ready (rs := [0, 1]) (by kernel_rfl) (by simp) ?_
  refine AllReady.cons rfl (fun K hK => ?_) (AllReady.cons rfl (fun K hK => ?_) AllReady.nil)
  · rw [if_pos (by rfl)]
    refine wp_load_mid 62 _ rfl _ _ rfl (natL (ptsOf x)) _ KB.out.2.1.range hu rfl (by rw [natL_len]; exact hi14) ?_
    refine hK _ _ ?_
    clear hK K
    refine wpAny_ready (rs := [1]) (by kernel_rfl) (by simp) ?_
    refine AllReady.cons rfl (fun K hK => ?_) AllReady.nil
    go_simp
    refine (cN1 _).mono ?_
    rintro e w9 ⟨rfl, b9⟩
    have KB := Lib.hid (KB.out.call b9)
    clear b9
    refine hK _ _ ?_
    clear hK K
    refine wpAny_ready (rs := [2]) (by kernel_rfl) (by simp) ?_
    refine AllReady.cons rfl (fun K hK => ?_) AllReady.nil
    go_simp
    refine (cP _).mono ?_
    rintro e w9 ⟨rfl, b9⟩
    have KB := Lib.hid (KB.out.call b9)
    clear b9
    refine hK _ _ ?_
    clear hK K
    refine wpAny_ready (rs := [3]) (by kernel_rfl) (by simp) ?_
    refine AllReady.cons rfl (fun K hK => ?_) AllReady.nil
    rw [if_pos (by rfl)]
    refine wp_store_mid 62 _ _ rfl _ _ (natL (ptsOf y)).toArray rfl rfl (by show World.there _ _ 0 (natL (ptsOf y)).length; rw [natL_len]; exact KB.out.2.1.there) (by show _ = some (natL (ptsOf y)).length; rw [natL_len]; exact hi14) (nat_one _) ?_
    have KB := Lib.hid (KB.out.cells hw6 (ptsOf y))
    refine hK _ _ ?_
    clear hK K
    refine wpAny_done (by kernel_rfl) ?_ _
    go_wp2_with fail
    refine wp_region_held_drew (S := RndB w neg a (s : Int) p (ptsOf y)) (by kernel_rfl) (RndB.call KB.out (below_drew1 _)) (fun hHeld => ?_)
    refine wpAnyH_take (i := 0) (v := ?_) rfl (by kernel_rfl) (by kernel_rfl) (by kernel_rfl) (fun _ _ _ h => h) (Or.inl ⟨by rfl, ?_⟩) (by assumption) ?_
    rotate_left
    · intro w hSw
      (try dsimp only at hSw)
      go_simp
      (try with_reducible rfl)
    try simp only [List.getElem_toArray, List.getElem_cons_zero, List.getElem_cons_succ, Act.put, List.setIfInBounds_toArray, List.set_cons_zero, List.set_cons_succ]
    refine wpAnyH_take (i := 1) (v := ?_) rfl (by kernel_rfl) (by kernel_rfl) (by kernel_rfl) (fun _ _ _ h => h) (Or.inl ⟨by rfl, ?_⟩) (by assumption) ?_
    rotate_left
    · intro w hSw
      obtain ⟨⟨⟨h0, h1, h2, _⟩, _⟩, _⟩ := hSw
      go_simp
      (try with_reducible rfl)
    try simp only [List.getElem_toArray, List.getElem_cons_zero, List.getElem_cons_succ, Act.put, List.setIfInBounds_toArray, List.set_cons_zero, List.set_cons_succ]
    refine wpAnyH_take (i := 2) rfl (by kernel_rfl) (by kernel_rfl) (by kernel_rfl) (fun _ _ _ h => h) (yieldsIf_load_mid (by rfl) 62 _ rfl _ _ rfl _ _ (fun w hSw => hSw.2.1.range) hu rfl (by rw [natL_len]; exact hi14)) (by assumption) ?_
    try simp only [List.getElem_toArray, List.getElem_cons_zero, List.getElem_cons_succ, Act.put, List.setIfInBounds_toArray, List.set_cons_zero, List.set_cons_succ]
    refine wpAnyH_take (i := 4) (v := ?_) rfl (by kernel_rfl) (by kernel_rfl) (by kernel_rfl) (fun _ _ _ h => h) (Or.inl ⟨by rfl, ?_⟩) (by assumption) ?_
    rotate_left
    · intro w hSw
      (try dsimp only at hSw)
      go_simp
      (try with_reducible rfl)
    try simp only [List.getElem_toArray, List.getElem_cons_zero, List.getElem_cons_succ, Act.put, List.setIfInBounds_toArray, List.set_cons_zero, List.set_cons_succ]
    refine wpAnyH_ready (rs := [3]) (by kernel_rfl) (by simp) ?_
    refine AllReadyH.cons rfl (fun K hK => ?_) AllReadyH.nil
    go_simp
    refine (cD _ hHeld.1.2.2.2).mono ?_
    rintro e w8 ⟨rfl, b8⟩
    have b8 := b8
    refine hK.out _ _ (RndB.call hHeld b8) (fun hHeld => ?_)
    clear hK K
    try simp only [List.getElem_toArray, List.getElem_cons_zero, List.getElem_cons_succ, Act.put, List.setIfInBounds_toArray, List.set_cons_zero, List.set_cons_succ]
    refine wpAnyH_ready (rs := [5]) (by kernel_rfl) (by simp) ?_
    refine AllReadyH.cons rfl (fun K hK => ?_) AllReadyH.nil
    go_simp
    refine (cM _).mono ?_
    rintro e w8 ⟨rfl, b8⟩
    have hr := RndB.call hHeld b8
    obtain ⟨⟨_, ⟨v0, v1, v2, q0, q1, q2, g0, g1, g2, _⟩, gB, _⟩, _⟩ := hr
    have GB := Lib.hid gB
    refine hK.out _ _ (RndB.call hHeld b8) (fun hHeld => ?_)
    clear hK K
    try simp only [List.getElem_toArray, List.getElem_cons_zero, List.getElem_cons_succ, Act.put, List.setIfInBounds_toArray, List.set_cons_zero, List.set_cons_succ]
    refine wpAnyH_take (i := 6) (v := ?_) rfl (by kernel_rfl) (by kernel_rfl) (by kernel_rfl) (fun _ _ _ h => h) (Or.inl ⟨by rfl, ?_⟩) (by assumption) ?_
    rotate_left
    · intro w hSw
      (try dsimp only at hSw)
      go_simp
      (try with_reducible rfl)
    try simp only [List.getElem_toArray, List.getElem_cons_zero, List.getElem_cons_succ, Act.put, List.setIfInBounds_toArray, List.set_cons_zero, List.set_cons_succ]
    refine wpAnyH_take (i := 7) (v := ?_) rfl (by kernel_rfl) (by kernel_rfl) (by kernel_rfl) (fun _ _ _ h => h) (Or.inl ⟨by rfl, ?_⟩) (by assumption) ?_
    rotate_left
    · intro w hSw
      (try dsimp only at hSw)
      go_simp
      (try with_reducible rfl)
    try simp only [List.getElem_toArray, List.getElem_cons_zero, List.getElem_cons_succ, Act.put, List.setIfInBounds_toArray, List.set_cons_zero, List.set_cons_succ]
    refine wpAnyH_ready (rs := [8]) (by kernel_rfl) (by simp) ?_
    refine AllReadyH.cons rfl (fun K hK => ?_) AllReadyH.nil
    go_simp
    refine hK.out _ _ (RndB.set3 hHeld hw6 _ _ _) (fun hHeld => ?_)
    clear hK K
    try simp only [List.getElem_toArray, List.getElem_cons_zero, List.getElem_cons_succ, Act.put, List.setIfInBounds_toArray, List.set_cons_zero, List.set_cons_succ]
    refine wpAnyH_take (i := 9) (v := ?_) rfl (by kernel_rfl) (by kernel_rfl) (by kernel_rfl) (fun _ _ _ h => h) (Or.inl ⟨by rfl, ?_⟩) (by assumption) ?_
    rotate_left
    · intro w hSw
      (try dsimp only at hSw)
      go_simp
      (try with_reducible rfl)
    try simp only [List.getElem_toArray, List.getElem_cons_zero, List.getElem_cons_succ, Act.put, List.setIfInBounds_toArray, List.set_cons_zero, List.set_cons_succ]
    refine wpAnyH_done (by kernel_rfl) ?_ _
    go_wp2
    exact bodyPost_ret (v := .tuple #[.agg #[.bool dn, .string dd, .int .i64 dsc], .int .i64 q]) (by simp [results, Tryz.results29, go_sem, q0, q1, q2]) rfl ⟨rfl, ((GB.out.setCell (by simp) _).setCell (by simp) _).setCell (by simp) _⟩
  · go_simp
    refine (cN1 _).mono ?_
    rintro e w9 ⟨rfl, b9⟩
    have KB := Lib.hid (KB.out.call b9)
    clear b9
    refine hK _ _ ?_
    clear hK K
    refine wpAny_ready (rs := [0]) (by kernel_rfl) (by simp) ?_
    refine AllReady.cons rfl (fun K hK => ?_) AllReady.nil
    rw [if_pos (by rfl)]
    refine wp_load_mid 62 _ rfl _ _ rfl (natL (ptsOf x)) _ KB.out.2.1.range hu rfl (by rw [natL_len]; exact hi14) ?_
    refine hK _ _ ?_
    clear hK K
    refine wpAny_ready (rs := [2]) (by kernel_rfl) (by simp) ?_
    refine AllReady.cons rfl (fun K hK => ?_) AllReady.nil
    go_simp
    refine (cP _).mono ?_
    rintro e w9 ⟨rfl, b9⟩
    have KB := Lib.hid (KB.out.call b9)
    clear b9
    refine hK _ _ ?_
    clear hK K
    refine wpAny_ready (rs := [3]) (by kernel_rfl) (by simp) ?_
    refine AllReady.cons rfl (fun K hK => ?_) AllReady.nil
    rw [if_pos (by rfl)]
    refine wp_store_mid 62 _ _ rfl _ _ (natL (ptsOf y)).toArray rfl rfl (by show World.there _ _ 0 (natL (ptsOf y)).length; rw [natL_len]; exact KB.out.2.1.there) (by show _ = some (natL (ptsOf y)).length; rw [natL_len]; exact hi14) (nat_one _) ?_
    have KB := Lib.hid (KB.out.cells hw6 (ptsOf y))
    refine hK _ _ ?_
    clear hK K
    refine wpAny_done (by kernel_rfl) ?_ _
    go_wp2_with fail
    refine wp_region_held_drew (S := RndB w neg a (s : Int) p (ptsOf y)) (by kernel_rfl) (RndB.call KB.out (below_drew1 _)) (fun hHeld => ?_)
    refine wpAnyH_take (i := 0) (v := ?_) rfl (by kernel_rfl) (by kernel_rfl) (by kernel_rfl) (fun _ _ _ h => h) (Or.inl ⟨by rfl, ?_⟩) (by assumption) ?_
    rotate_left
    · intro w hSw
      (try dsimp only at hSw)
      go_simp
      (try with_reducible rfl)
    try simp only [List.getElem_toArray, List.getElem_cons_zero, List.getElem_cons_succ, Act.put, List.setIfInBounds_toArray, List.set_cons_zero, List.set_cons_succ]
    refine wpAnyH_take (i := 1) (v := ?_) rfl (by kernel_rfl) (by kernel_rfl) (by kernel_rfl) (fun _ _ _ h => h) (Or.inl ⟨by rfl, ?_⟩) (by assumption) ?_
    rotate_left
    · intro w hSw
      obtain ⟨⟨⟨h0, h1, h2, _⟩, _⟩, _⟩ := hSw
      go_simp
      (try with_reducible rfl)
    try simp only [List.getElem_toArray, List.getElem_cons_zero, List.getElem_cons_succ, Act.put, List.setIfInBounds_toArray, List.set_cons_zero, List.set_cons_succ]
    refine wpAnyH_take (i := 2) rfl (by kernel_rfl) (by kernel_rfl) (by kernel_rfl) (fun _ _ _ h => h) (yieldsIf_load_mid (by rfl) 62 _ rfl _ _ rfl _ _ (fun w hSw => hSw.2.1.range) hu rfl (by rw [natL_len]; exact hi14)) (by assumption) ?_
    try simp only [List.getElem_toArray, List.getElem_cons_zero, List.getElem_cons_succ, Act.put, List.setIfInBounds_toArray, List.set_cons_zero, List.set_cons_succ]
    refine wpAnyH_take (i := 4) (v := ?_) rfl (by kernel_rfl) (by kernel_rfl) (by kernel_rfl) (fun _ _ _ h => h) (Or.inl ⟨by rfl, ?_⟩) (by assumption) ?_
    rotate_left
    · intro w hSw
      (try dsimp only at hSw)
      go_simp
      (try with_reducible rfl)
    try simp only [List.getElem_toArray, List.getElem_cons_zero, List.getElem_cons_succ, Act.put, List.setIfInBounds_toArray, List.set_cons_zero, List.set_cons_succ]
    refine wpAnyH_ready (rs := [3]) (by kernel_rfl) (by simp) ?_
    refine AllReadyH.cons rfl (fun K hK => ?_) AllReadyH.nil
    go_simp
    refine (cD _ hHeld.1.2.2.2).mono ?_
    rintro e w8 ⟨rfl, b8⟩
    have b8 := b8
    refine hK.out _ _ (RndB.call hHeld b8) (fun hHeld => ?_)
    clear hK K
    try simp only [List.getElem_toArray, List.getElem_cons_zero, List.getElem_cons_succ, Act.put, List.setIfInBounds_toArray, List.set_cons_zero, List.set_cons_succ]
    refine wpAnyH_ready (rs := [5]) (by kernel_rfl) (by simp) ?_
    refine AllReadyH.cons rfl (fun K hK => ?_) AllReadyH.nil
    go_simp
    refine (cM _).mono ?_
    rintro e w8 ⟨rfl, b8⟩
    have hr := RndB.call hHeld b8
    obtain ⟨⟨_, ⟨v0, v1, v2, q0, q1, q2, g0, g1, g2, _⟩, gB, _⟩, _⟩ := hr
    have GB := Lib.hid gB
    refine hK.out _ _ (RndB.call hHeld b8) (fun hHeld => ?_)
    clear hK K
    try simp only [List.getElem_toArray, List.getElem_cons_zero, List.getElem_cons_succ, Act.put, List.setIfInBounds_toArray, List.set_cons_zero, List.set_cons_succ]
    refine wpAnyH_take (i := 6) (v := ?_) rfl (by kernel_rfl) (by kernel_rfl) (by kernel_rfl) (fun _ _ _ h => h) (Or.inl ⟨by rfl, ?_⟩) (by assumption) ?_
    rotate_left
    · intro w hSw
      (try dsimp only at hSw)
      go_simp
      (try with_reducible rfl)
    try simp only [List.getElem_toArray, List.getElem_cons_zero, List.getElem_cons_succ, Act.put, List.setIfInBounds_toArray, List.set_cons_zero, List.set_cons_succ]
    refine wpAnyH_take (i := 7) (v := ?_) rfl (by kernel_rfl) (by kernel_rfl) (by kernel_rfl) (fun _ _ _ h => h) (Or.inl ⟨by rfl, ?_⟩) (by assumption) ?_
    rotate_left
    · intro w hSw
      (try dsimp only at hSw)
      go_simp
      (try with_reducible rfl)
    try simp only [List.getElem_toArray, List.getElem_cons_zero, List.getElem_cons_succ, Act.put, List.setIfInBounds_toArray, List.set_cons_zero, List.set_cons_succ]
    refine wpAnyH_ready (rs := [8]) (by kernel_rfl) (by simp) ?_
    refine AllReadyH.cons rfl (fun K hK => ?_) AllReadyH.nil
    go_simp
    refine hK.out _ _ (RndB.set3 hHeld hw6 _ _ _) (fun hHeld => ?_)
    clear hK K
    try simp only [List.getElem_toArray, List.getElem_cons_zero, List.getElem_cons_succ, Act.put, List.setIfInBounds_toArray, List.set_cons_zero, List.set_cons_succ]
    refine wpAnyH_take (i := 9) (v := ?_) rfl (by kernel_rfl) (by kernel_rfl) (by kernel_rfl) (fun _ _ _ h => h) (Or.inl ⟨by rfl, ?_⟩) (by assumption) ?_
    rotate_left
    · intro w hSw
      (try dsimp only at hSw)
      go_simp
      (try with_reducible rfl)
    try simp only [List.getElem_toArray, List.getElem_cons_zero, List.getElem_cons_succ, Act.put, List.setIfInBounds_toArray, List.set_cons_zero, List.set_cons_succ]
    refine wpAnyH_done (by kernel_rfl) ?_ _
    go_wp2
    exact bodyPost_ret (v := .tuple #[.agg #[.bool dn, .string dd, .int .i64 dsc], .int .i64 q]) (by simp [results, Tryz.results29, go_sem, q0, q1, q2]) rfl ⟨rfl, ((GB.out.setCell (by simp) _).setCell (by simp) _).setCell (by simp) _⟩

set_option maxRecDepth 100000 in
set_option maxHeartbeats 16000000 in
theorem round_odd (neg : Bool) (a : ByteArray) (s n k j : Nat) (ha : IsDec ⟨neg, a, (s : Int)⟩ n s) (hj : 0 < j) (hkj : k + j = s) (hcase : (n % 10 ^ j + n % 10 ^ j = 10 ^ j ∧ n / 10 ^ j % 2 = 1)) (w : World) (hT : Tabs w) :
    Calls Tryz.prog 29 #[.agg #[.bool neg, .string a, .int .i64 (s : Int)], .int .i64 (k : Int)] w fun e w' => e = .returned (decR (mkDec neg (n / 10 ^ j + 1) k)) ∧ Below w.heap.size w w' := by
  have za := dec_size ha
  simp only at za
  have hs := ha.le
  have hks : k < s := by omega
  have hk := hks
  have cC := check_at ⟨neg, a, (s : Int)⟩ (by unfold maxLen; simp only; omega) 0 (by rw [vB_ok ⟨_, _, ha⟩]; rfl)
  have cS := fun W => t_scale (k : Int) W
  rw [decide_eq_true (show 0 ≤ (k : Int) ∧ (k : Int) ≤ 60 by omega)] at cS
  have cK := fun W => cut_call a j (by omega) (by omega) W
  obtain ⟨U, B, eU, eB, hU, vU, zU, hB, vB, zB⟩ := cut_facts ha.num za j (by omega)
  obtain ⟨H, eH, hH, vH, zH⟩ := half_facts j hj
  rw [eU, eB] at cK
  have hn : n < 10 ^ 60 := Nat.lt_of_lt_of_le ha.num.lt (Nat.pow_le_pow_right (by omega) za)
  obtain ⟨hx1, hx2⟩ := part_bound hn j
  obtain ⟨hl0, he0⟩ := cmp_texts hB hH zB zH
  have cZ := fun W => pzeros_call ((j : Int) - 1) (by omega) (by omega) W
  have cN := fun W => of_call U hU (by omega) W
  rw [vU] at cN
  have hl : Op.bytesLess B.toList H.toList = false := by rw [hl0, vB]; exact decide_eq_false (by omega)
  have he : (B.toList == H.toList) = true := by rw [he0, vB]; exact decide_eq_true (by omega)
  have cO := fun W => odd_call (n / 10 ^ j) W
  rw [decide_eq_true (show  n / 10 ^ j % 2 = 1 by omega)] at cO
  have cN1 := fun W => of_call (⟨#[49]⟩ : ByteArray) (AllD.cons (by decide) AllD.nil) (by decide) W
  rw [show val (ByteArray.mk #[49]).data.toList = 1 by rfl] at cN1
  have cP := fun W => Sum_call (n / 10 ^ j) 1 hx1 (by rw [show (126 : Nat) = 125 + 1 from rfl, Nat.pow_succ]; have := Nat.pow_pos (n := 125) (show 0 < 10 by omega); omega) W
  have cD := fun W hT => digits_call (n / 10 ^ j + 1) W hT
  have cM := fun W => padS_small hx2 neg k (by omega) W
  unfold natV arrV at cN cD cN1 cP cO
  unfold decR at cM ⊢
  generalize (mkDec neg (n / 10 ^ j + 1) k).getD decNil = d at cM ⊢
  generalize (if (mkDec neg (n / 10 ^ j + 1) k).isSome then (0 : Int) else 7) = q at cM ⊢
  generalize padS (n / 10 ^ j + 1) = Z at cD cM
  generalize n / 10 ^ j + 1 = y at cP cD
  generalize n / 10 ^ j = x at cN cP cO
  obtain ⟨dn, dd, dsc⟩ := d
  simp only [Dec.v] at cC cM ⊢
  have zBi : (B.size : Int) = (j : Int) := by rw [zB]
  have ejs : (s : Int) - (k : Int) = (j : Int) := by omega
  have wj : IntKind.i64.wrap ((s : Int) - (k : Int)) = (j : Int) := by rw [ejs]; exact IntWalk.i64_in _ (by omega)
  have wj1 : IntKind.i64.wrap ((B.size : Int) - 1) = (j : Int) - 1 := by rw [zBi]; exact IntWalk.i64_in _ (by omega)
  have hj2 : j ≤ 60 := by omega
  generalize zs ((j : Int) - 1).toNat = ZZ at cZ eH
  have yH : ¬ 9223372036854775807 < (ByteArray.mk #[53]).size + ZZ.size := by rw [← app_size, eH, zH]; omega
  have hw6 := hT.size
  have HT := Lib.hid hT
  clear hl0 he0 ha za hs hcase eU eB hU vU zU hB vB hH vH zH hn hx1 hx2 hT
  go_enter Tryz.func29, Tryz.ntmps29
  go_wp2_with fail
  refine (cC _ _ (by simp)).mono ?_
  rintro e w1 ⟨rfl, b1⟩
  have b1 := past (by simp) b1
  have K0 := ((Has.new w (.bool neg) (.string a) (.int .i64 (s : Int)) 23).alloc (.cells #[.bool false, .string ⟨#[]⟩, .int .i64 0] 23)).call b1
  have K1 := (Has.new (w.alloc (.cells #[.bool neg, .string a, .int .i64 (s : Int)] 23)) (.bool false) (.string ⟨#[]⟩) (.int .i64 0) 23).call b1
  rw [World.size_alloc] at K1
  have hB1 : Below w.heap.size w w1 := (((Below.refl w.heap.size w).alloc (Nat.le_refl _) _).alloc (by simp) _).trans (b1.mono (by simp; omega))
  have KS : Hid (RndA w neg a (s : Int) w1) := ⟨K0, ⟨_, _, _, K1⟩, hB1, HT.out.below hB1 hw6⟩
  obtain ⟨x0, x1, x2, f0, f1, f2, _⟩ := K0
  clear b1 hB1 cC K1
  go_wp2_with (first
    | (go_at_call 62; refine (cS _).mono ?_; rintro e w3 ⟨rfl, rfl⟩)
    | (go_at_call 45; refine (cK _).mono ?_; rintro e w4 ⟨rfl, b4⟩; have KS := Lib.hid (KS.out.call b4); clear b4 x0 x1 x2 f0 f1 f2)
    | (go_at_call 64; refine (cZ _).mono ?_; rintro e w5 ⟨rfl, b5⟩; have KS := Lib.hid (KS.out.call b5); clear b5)
    | (go_at_call 57; refine (cN _).mono ?_; rintro e w6 ⟨rfl, b6⟩; have ks := KS.out.call b6; obtain ⟨n1, n2, n3⟩ := one_lit w6 (ptsOf x); have KB : Hid (RndB w neg a (s : Int) w6.heap.size (ptsOf x) _) := ⟨ks.call n3, n2, ks.size⟩; clear n2 n3 b6 ks)
    | (refine wpList_store_row rfl 62 _ _ rfl w6.heap.size _ rfl rfl 62 _ n1 (nat_size _) (by simp [natL_len]) (nat_one _) ?_; obtain ⟨p, hp⟩ : ∃ p, w6.heap.size = p := ⟨_, rfl⟩; obtain ⟨W7, hW7⟩ : ∃ W7, ((w6.alloc (.cells #[.int .i64 0, .int .i64 0, .int .i64 0, .int .i64 0, .int .i64 0, .int .i64 0, .int .i64 0, .int .i64 0, .int .i64 0, .int .i64 0, .int .i64 0, .int .i64 0, .int .i64 0, .int .i64 0] 62)).setRow w6.heap.size (natL (ptsOf x)).toArray) = W7 := ⟨_, rfl⟩; rw [hW7] at KB ⊢; rw [hp] at KB ⊢; have cc0 := KB.out.2.1.cell (p := 0) (by omega); have cc1 := KB.out.2.1.cell (p := 1) (by omega); have cc2 := KB.out.2.1.cell (p := 2) (by omega); have cc3 := KB.out.2.1.cell (p := 3) (by omega); have cc4 := KB.out.2.1.cell (p := 4) (by omega); have cc5 := KB.out.2.1.cell (p := 5) (by omega); have cc6 := KB.out.2.1.cell (p := 6) (by omega); have cc7 := KB.out.2.1.cell (p := 7) (by omega); have cc8 := KB.out.2.1.cell (p := 8) (by omega); have cc9 := KB.out.2.1.cell (p := 9) (by omega); have cc10 := KB.out.2.1.cell (p := 10) (by omega); have cc11 := KB.out.2.1.cell (p := 11) (by omega); have cc12 := KB.out.2.1.cell (p := 12) (by omega); have cc13 := KB.out.2.1.cell (p := 13) (by omega); clear hW7 n1 hp)
    | (go_at_call 66; refine (cO _).mono ?_; rintro e w8 ⟨rfl, b8⟩; have KB := Lib.hid (KB.out.call b8); clear b8 cc0 cc1 cc2 cc3 cc4 cc5 cc6 cc7 cc8 cc9 cc10 cc11 cc12 cc13))
  have hu : Tryz.prog.underlying 62 = some (.array 14 2) := Tryz.underlying62
  have hi14 : (Tryz.prog.info? 62).map (·.size) = some 14 := by kernel_rfl
  refine wp_region_any (by kernel_rfl) ?_
  change wpAny _ _ _ _ _ _ _ (World.drew _)
  have KB := Lib.hid (KB.out.call (below_drew1 _))
  refine wpAny_ready (rs := [0, 1]) (by kernel_rfl) (by simp) ?_
  refine AllReady.cons rfl (fun K hK => ?_) (AllReady.cons rfl (fun K hK => ?_) AllReady.nil)
  · rw [if_pos (by rfl)]
    refine wp_load_mid 62 _ rfl _ _ rfl (natL (ptsOf x)) _ KB.out.2.1.range hu rfl (by rw [natL_len]; exact hi14) ?_
    refine hK _ _ ?_
    clear hK K
    refine wpAny_ready (rs := [1]) (by kernel_rfl) (by simp) ?_
    refine AllReady.cons rfl (fun K hK => ?_) AllReady.nil
    go_simp
    refine (cN1 _).mono ?_
    rintro e w9 ⟨rfl, b9⟩
    have KB := Lib.hid (KB.out.call b9)
    clear b9
    refine hK _ _ ?_
    clear hK K
    refine wpAny_ready (rs := [2]) (by kernel_rfl) (by simp) ?_
    refine AllReady.cons rfl (fun K hK => ?_) AllReady.nil
    go_simp
    refine (cP _).mono ?_
    rintro e w9 ⟨rfl, b9⟩
    have KB := Lib.hid (KB.out.call b9)
    clear b9
    refine hK _ _ ?_
    clear hK K
    refine wpAny_ready (rs := [3]) (by kernel_rfl) (by simp) ?_
    refine AllReady.cons rfl (fun K hK => ?_) AllReady.nil
    rw [if_pos (by rfl)]
    refine wp_store_mid 62 _ _ rfl _ _ (natL (ptsOf y)).toArray rfl rfl (by show World.there _ _ 0 (natL (ptsOf y)).length; rw [natL_len]; exact KB.out.2.1.there) (by show _ = some (natL (ptsOf y)).length; rw [natL_len]; exact hi14) (nat_one _) ?_
    have KB := Lib.hid (KB.out.cells hw6 (ptsOf y))
    refine hK _ _ ?_
    clear hK K
    refine wpAny_done (by kernel_rfl) ?_ _
    go_wp2_with fail
    refine wp_region_held_drew (S := RndB w neg a (s : Int) p (ptsOf y)) (by kernel_rfl) (RndB.call KB.out (below_drew1 _)) (fun hHeld => ?_)
    refine wpAnyH_take (i := 0) (v := ?_) rfl (by kernel_rfl) (by kernel_rfl) (by kernel_rfl) (fun _ _ _ h => h) (Or.inl ⟨by rfl, ?_⟩) (by assumption) ?_
    rotate_left
    · intro w hSw
      (try dsimp only at hSw)
      go_simp
      (try with_reducible rfl)
    try simp only [List.getElem_toArray, List.getElem_cons_zero, List.getElem_cons_succ, Act.put, List.setIfInBounds_toArray, List.set_cons_zero, List.set_cons_succ]
    refine wpAnyH_take (i := 1) (v := ?_) rfl (by kernel_rfl) (by kernel_rfl) (by kernel_rfl) (fun _ _ _ h => h) (Or.inl ⟨by rfl, ?_⟩) (by assumption) ?_
    rotate_left
    · intro w hSw
      obtain ⟨⟨⟨h0, h1, h2, _⟩, _⟩, _⟩ := hSw
      go_simp
      (try with_reducible rfl)
    try simp only [List.getElem_toArray, List.getElem_cons_zero, List.getElem_cons_succ, Act.put, List.setIfInBounds_toArray, List.set_cons_zero, List.set_cons_succ]
    refine wpAnyH_take (i := 2) rfl (by kernel_rfl) (by kernel_rfl) (by kernel_rfl) (fun _ _ _ h => h) (yieldsIf_load_mid (by rfl) 62 _ rfl _ _ rfl _ _ (fun w hSw => hSw.2.1.range) hu rfl (by rw [natL_len]; exact hi14)) (by assumption) ?_
    try simp only [List.getElem_toArray, List.getElem_cons_zero, List.getElem_cons_succ, Act.put, List.setIfInBounds_toArray, List.set_cons_zero, List.set_cons_succ]
    refine wpAnyH_take (i := 4) (v := ?_) rfl (by kernel_rfl) (by kernel_rfl) (by kernel_rfl) (fun _ _ _ h => h) (Or.inl ⟨by rfl, ?_⟩) (by assumption) ?_
    rotate_left
    · intro w hSw
      (try dsimp only at hSw)
      go_simp
      (try with_reducible rfl)
    try simp only [List.getElem_toArray, List.getElem_cons_zero, List.getElem_cons_succ, Act.put, List.setIfInBounds_toArray, List.set_cons_zero, List.set_cons_succ]
    refine wpAnyH_ready (rs := [3]) (by kernel_rfl) (by simp) ?_
    refine AllReadyH.cons rfl (fun K hK => ?_) AllReadyH.nil
    go_simp
    refine (cD _ hHeld.1.2.2.2).mono ?_
    rintro e w8 ⟨rfl, b8⟩
    have b8 := b8
    refine hK.out _ _ (RndB.call hHeld b8) (fun hHeld => ?_)
    clear hK K
    try simp only [List.getElem_toArray, List.getElem_cons_zero, List.getElem_cons_succ, Act.put, List.setIfInBounds_toArray, List.set_cons_zero, List.set_cons_succ]
    refine wpAnyH_ready (rs := [5]) (by kernel_rfl) (by simp) ?_
    refine AllReadyH.cons rfl (fun K hK => ?_) AllReadyH.nil
    go_simp
    refine (cM _).mono ?_
    rintro e w8 ⟨rfl, b8⟩
    have hr := RndB.call hHeld b8
    obtain ⟨⟨_, ⟨v0, v1, v2, q0, q1, q2, g0, g1, g2, _⟩, gB, _⟩, _⟩ := hr
    have GB := Lib.hid gB
    refine hK.out _ _ (RndB.call hHeld b8) (fun hHeld => ?_)
    clear hK K
    try simp only [List.getElem_toArray, List.getElem_cons_zero, List.getElem_cons_succ, Act.put, List.setIfInBounds_toArray, List.set_cons_zero, List.set_cons_succ]
    refine wpAnyH_take (i := 6) (v := ?_) rfl (by kernel_rfl) (by kernel_rfl) (by kernel_rfl) (fun _ _ _ h => h) (Or.inl ⟨by rfl, ?_⟩) (by assumption) ?_
    rotate_left
    · intro w hSw
      (try dsimp only at hSw)
      go_simp
      (try with_reducible rfl)
    try simp only [List.getElem_toArray, List.getElem_cons_zero, List.getElem_cons_succ, Act.put, List.setIfInBounds_toArray, List.set_cons_zero, List.set_cons_succ]
    refine wpAnyH_take (i := 7) (v := ?_) rfl (by kernel_rfl) (by kernel_rfl) (by kernel_rfl) (fun _ _ _ h => h) (Or.inl ⟨by rfl, ?_⟩) (by assumption) ?_
    rotate_left
    · intro w hSw
      (try dsimp only at hSw)
      go_simp
      (try with_reducible rfl)
    try simp only [List.getElem_toArray, List.getElem_cons_zero, List.getElem_cons_succ, Act.put, List.setIfInBounds_toArray, List.set_cons_zero, List.set_cons_succ]
    refine wpAnyH_ready (rs := [8]) (by kernel_rfl) (by simp) ?_
    refine AllReadyH.cons rfl (fun K hK => ?_) AllReadyH.nil
    go_simp
    refine hK.out _ _ (RndB.set3 hHeld hw6 _ _ _) (fun hHeld => ?_)
    clear hK K
    try simp only [List.getElem_toArray, List.getElem_cons_zero, List.getElem_cons_succ, Act.put, List.setIfInBounds_toArray, List.set_cons_zero, List.set_cons_succ]
    refine wpAnyH_take (i := 9) (v := ?_) rfl (by kernel_rfl) (by kernel_rfl) (by kernel_rfl) (fun _ _ _ h => h) (Or.inl ⟨by rfl, ?_⟩) (by assumption) ?_
    rotate_left
    · intro w hSw
      (try dsimp only at hSw)
      go_simp
      (try with_reducible rfl)
    try simp only [List.getElem_toArray, List.getElem_cons_zero, List.getElem_cons_succ, Act.put, List.setIfInBounds_toArray, List.set_cons_zero, List.set_cons_succ]
    refine wpAnyH_done (by kernel_rfl) ?_ _
    go_wp2
    exact bodyPost_ret (v := .tuple #[.agg #[.bool dn, .string dd, .int .i64 dsc], .int .i64 q]) (by simp [results, Tryz.results29, go_sem, q0, q1, q2]) rfl ⟨rfl, ((GB.out.setCell (by simp) _).setCell (by simp) _).setCell (by simp) _⟩
  · go_simp
    refine (cN1 _).mono ?_
    rintro e w9 ⟨rfl, b9⟩
    have KB := Lib.hid (KB.out.call b9)
    clear b9
    refine hK _ _ ?_
    clear hK K
    refine wpAny_ready (rs := [0]) (by kernel_rfl) (by simp) ?_
    refine AllReady.cons rfl (fun K hK => ?_) AllReady.nil
    rw [if_pos (by rfl)]
    refine wp_load_mid 62 _ rfl _ _ rfl (natL (ptsOf x)) _ KB.out.2.1.range hu rfl (by rw [natL_len]; exact hi14) ?_
    refine hK _ _ ?_
    clear hK K
    refine wpAny_ready (rs := [2]) (by kernel_rfl) (by simp) ?_
    refine AllReady.cons rfl (fun K hK => ?_) AllReady.nil
    go_simp
    refine (cP _).mono ?_
    rintro e w9 ⟨rfl, b9⟩
    have KB := Lib.hid (KB.out.call b9)
    clear b9
    refine hK _ _ ?_
    clear hK K
    refine wpAny_ready (rs := [3]) (by kernel_rfl) (by simp) ?_
    refine AllReady.cons rfl (fun K hK => ?_) AllReady.nil
    rw [if_pos (by rfl)]
    refine wp_store_mid 62 _ _ rfl _ _ (natL (ptsOf y)).toArray rfl rfl (by show World.there _ _ 0 (natL (ptsOf y)).length; rw [natL_len]; exact KB.out.2.1.there) (by show _ = some (natL (ptsOf y)).length; rw [natL_len]; exact hi14) (nat_one _) ?_
    have KB := Lib.hid (KB.out.cells hw6 (ptsOf y))
    refine hK _ _ ?_
    clear hK K
    refine wpAny_done (by kernel_rfl) ?_ _
    go_wp2_with fail
    refine wp_region_held_drew (S := RndB w neg a (s : Int) p (ptsOf y)) (by kernel_rfl) (RndB.call KB.out (below_drew1 _)) (fun hHeld => ?_)
    refine wpAnyH_take (i := 0) (v := ?_) rfl (by kernel_rfl) (by kernel_rfl) (by kernel_rfl) (fun _ _ _ h => h) (Or.inl ⟨by rfl, ?_⟩) (by assumption) ?_
    rotate_left
    · intro w hSw
      (try dsimp only at hSw)
      go_simp
      (try with_reducible rfl)
    try simp only [List.getElem_toArray, List.getElem_cons_zero, List.getElem_cons_succ, Act.put, List.setIfInBounds_toArray, List.set_cons_zero, List.set_cons_succ]
    refine wpAnyH_take (i := 1) (v := ?_) rfl (by kernel_rfl) (by kernel_rfl) (by kernel_rfl) (fun _ _ _ h => h) (Or.inl ⟨by rfl, ?_⟩) (by assumption) ?_
    rotate_left
    · intro w hSw
      obtain ⟨⟨⟨h0, h1, h2, _⟩, _⟩, _⟩ := hSw
      go_simp
      (try with_reducible rfl)
    try simp only [List.getElem_toArray, List.getElem_cons_zero, List.getElem_cons_succ, Act.put, List.setIfInBounds_toArray, List.set_cons_zero, List.set_cons_succ]
    refine wpAnyH_take (i := 2) rfl (by kernel_rfl) (by kernel_rfl) (by kernel_rfl) (fun _ _ _ h => h) (yieldsIf_load_mid (by rfl) 62 _ rfl _ _ rfl _ _ (fun w hSw => hSw.2.1.range) hu rfl (by rw [natL_len]; exact hi14)) (by assumption) ?_
    try simp only [List.getElem_toArray, List.getElem_cons_zero, List.getElem_cons_succ, Act.put, List.setIfInBounds_toArray, List.set_cons_zero, List.set_cons_succ]
    refine wpAnyH_take (i := 4) (v := ?_) rfl (by kernel_rfl) (by kernel_rfl) (by kernel_rfl) (fun _ _ _ h => h) (Or.inl ⟨by rfl, ?_⟩) (by assumption) ?_
    rotate_left
    · intro w hSw
      (try dsimp only at hSw)
      go_simp
      (try with_reducible rfl)
    try simp only [List.getElem_toArray, List.getElem_cons_zero, List.getElem_cons_succ, Act.put, List.setIfInBounds_toArray, List.set_cons_zero, List.set_cons_succ]
    refine wpAnyH_ready (rs := [3]) (by kernel_rfl) (by simp) ?_
    refine AllReadyH.cons rfl (fun K hK => ?_) AllReadyH.nil
    go_simp
    refine (cD _ hHeld.1.2.2.2).mono ?_
    rintro e w8 ⟨rfl, b8⟩
    have b8 := b8
    refine hK.out _ _ (RndB.call hHeld b8) (fun hHeld => ?_)
    clear hK K
    try simp only [List.getElem_toArray, List.getElem_cons_zero, List.getElem_cons_succ, Act.put, List.setIfInBounds_toArray, List.set_cons_zero, List.set_cons_succ]
    refine wpAnyH_ready (rs := [5]) (by kernel_rfl) (by simp) ?_
    refine AllReadyH.cons rfl (fun K hK => ?_) AllReadyH.nil
    go_simp
    refine (cM _).mono ?_
    rintro e w8 ⟨rfl, b8⟩
    have hr := RndB.call hHeld b8
    obtain ⟨⟨_, ⟨v0, v1, v2, q0, q1, q2, g0, g1, g2, _⟩, gB, _⟩, _⟩ := hr
    have GB := Lib.hid gB
    refine hK.out _ _ (RndB.call hHeld b8) (fun hHeld => ?_)
    clear hK K
    try simp only [List.getElem_toArray, List.getElem_cons_zero, List.getElem_cons_succ, Act.put, List.setIfInBounds_toArray, List.set_cons_zero, List.set_cons_succ]
    refine wpAnyH_take (i := 6) (v := ?_) rfl (by kernel_rfl) (by kernel_rfl) (by kernel_rfl) (fun _ _ _ h => h) (Or.inl ⟨by rfl, ?_⟩) (by assumption) ?_
    rotate_left
    · intro w hSw
      (try dsimp only at hSw)
      go_simp
      (try with_reducible rfl)
    try simp only [List.getElem_toArray, List.getElem_cons_zero, List.getElem_cons_succ, Act.put, List.setIfInBounds_toArray, List.set_cons_zero, List.set_cons_succ]
    refine wpAnyH_take (i := 7) (v := ?_) rfl (by kernel_rfl) (by kernel_rfl) (by kernel_rfl) (fun _ _ _ h => h) (Or.inl ⟨by rfl, ?_⟩) (by assumption) ?_
    rotate_left
    · intro w hSw
      (try dsimp only at hSw)
      go_simp
      (try with_reducible rfl)
    try simp only [List.getElem_toArray, List.getElem_cons_zero, List.getElem_cons_succ, Act.put, List.setIfInBounds_toArray, List.set_cons_zero, List.set_cons_succ]
    refine wpAnyH_ready (rs := [8]) (by kernel_rfl) (by simp) ?_
    refine AllReadyH.cons rfl (fun K hK => ?_) AllReadyH.nil
    go_simp
    refine hK.out _ _ (RndB.set3 hHeld hw6 _ _ _) (fun hHeld => ?_)
    clear hK K
    try simp only [List.getElem_toArray, List.getElem_cons_zero, List.getElem_cons_succ, Act.put, List.setIfInBounds_toArray, List.set_cons_zero, List.set_cons_succ]
    refine wpAnyH_take (i := 9) (v := ?_) rfl (by kernel_rfl) (by kernel_rfl) (by kernel_rfl) (fun _ _ _ h => h) (Or.inl ⟨by rfl, ?_⟩) (by assumption) ?_
    rotate_left
    · intro w hSw
      (try dsimp only at hSw)
      go_simp
      (try with_reducible rfl)
    try simp only [List.getElem_toArray, List.getElem_cons_zero, List.getElem_cons_succ, Act.put, List.setIfInBounds_toArray, List.set_cons_zero, List.set_cons_succ]
    refine wpAnyH_done (by kernel_rfl) ?_ _
    go_wp2
    exact bodyPost_ret (v := .tuple #[.agg #[.bool dn, .string dd, .int .i64 dsc], .int .i64 q]) (by simp [results, Tryz.results29, go_sem, q0, q1, q2]) rfl ⟨rfl, ((GB.out.setCell (by simp) _).setCell (by simp) _).setCell (by simp) _⟩

set_option maxRecDepth 100000 in
set_option maxHeartbeats 16000000 in
theorem round_even (neg : Bool) (a : ByteArray) (s n k j : Nat) (ha : IsDec ⟨neg, a, (s : Int)⟩ n s) (hj : 0 < j) (hkj : k + j = s) (hcase : (n % 10 ^ j + n % 10 ^ j = 10 ^ j ∧ n / 10 ^ j % 2 = 0)) (w : World) (hT : Tabs w) :
    Calls Tryz.prog 29 #[.agg #[.bool neg, .string a, .int .i64 (s : Int)], .int .i64 (k : Int)] w fun e w' => e = .returned (decR (mkDec neg (n / 10 ^ j) k)) ∧ Below w.heap.size w w' := by
  have za := dec_size ha
  simp only at za
  have hs := ha.le
  have hks : k < s := by omega
  have hk := hks
  have cC := check_at ⟨neg, a, (s : Int)⟩ (by unfold maxLen; simp only; omega) 0 (by rw [vB_ok ⟨_, _, ha⟩]; rfl)
  have cS := fun W => t_scale (k : Int) W
  rw [decide_eq_true (show 0 ≤ (k : Int) ∧ (k : Int) ≤ 60 by omega)] at cS
  have cK := fun W => cut_call a j (by omega) (by omega) W
  obtain ⟨U, B, eU, eB, hU, vU, zU, hB, vB, zB⟩ := cut_facts ha.num za j (by omega)
  obtain ⟨H, eH, hH, vH, zH⟩ := half_facts j hj
  rw [eU, eB] at cK
  have hn : n < 10 ^ 60 := Nat.lt_of_lt_of_le ha.num.lt (Nat.pow_le_pow_right (by omega) za)
  obtain ⟨hx1, hx2⟩ := part_bound hn j
  obtain ⟨hl0, he0⟩ := cmp_texts hB hH zB zH
  have cZ := fun W => pzeros_call ((j : Int) - 1) (by omega) (by omega) W
  have cN := fun W => of_call U hU (by omega) W
  rw [vU] at cN
  have hl : Op.bytesLess B.toList H.toList = false := by rw [hl0, vB]; exact decide_eq_false (by omega)
  have he : (B.toList == H.toList) = true := by rw [he0, vB]; exact decide_eq_true (by omega)
  have cO := fun W => odd_call (n / 10 ^ j) W
  rw [decide_eq_false (show ¬ n / 10 ^ j % 2 = 1 by omega)] at cO
  have cD := fun W hT => digits_call (n / 10 ^ j) W hT
  have cM := fun W => padS_small hx1 neg k (by omega) W
  unfold natV arrV at cN cD cO
  unfold decR at cM ⊢
  generalize (mkDec neg (n / 10 ^ j) k).getD decNil = d at cM ⊢
  generalize (if (mkDec neg (n / 10 ^ j) k).isSome then (0 : Int) else 7) = q at cM ⊢
  generalize padS (n / 10 ^ j) = Z at cD cM
  generalize n / 10 ^ j = x at cN cD cO
  obtain ⟨dn, dd, dsc⟩ := d
  simp only [Dec.v] at cC cM ⊢
  have zBi : (B.size : Int) = (j : Int) := by rw [zB]
  have ejs : (s : Int) - (k : Int) = (j : Int) := by omega
  have wj : IntKind.i64.wrap ((s : Int) - (k : Int)) = (j : Int) := by rw [ejs]; exact IntWalk.i64_in _ (by omega)
  have wj1 : IntKind.i64.wrap ((B.size : Int) - 1) = (j : Int) - 1 := by rw [zBi]; exact IntWalk.i64_in _ (by omega)
  have hj2 : j ≤ 60 := by omega
  generalize zs ((j : Int) - 1).toNat = ZZ at cZ eH
  have yH : ¬ 9223372036854775807 < (ByteArray.mk #[53]).size + ZZ.size := by rw [← app_size, eH, zH]; omega
  have hw6 := hT.size
  have HT := Lib.hid hT
  clear hl0 he0 ha za hs hcase eU eB hU vU zU hB vB hH vH zH hn hx1 hx2 hT
  go_enter Tryz.func29, Tryz.ntmps29
  go_wp2_with fail
  refine (cC _ _ (by simp)).mono ?_
  rintro e w1 ⟨rfl, b1⟩
  have b1 := past (by simp) b1
  have K0 := ((Has.new w (.bool neg) (.string a) (.int .i64 (s : Int)) 23).alloc (.cells #[.bool false, .string ⟨#[]⟩, .int .i64 0] 23)).call b1
  have K1 := (Has.new (w.alloc (.cells #[.bool neg, .string a, .int .i64 (s : Int)] 23)) (.bool false) (.string ⟨#[]⟩) (.int .i64 0) 23).call b1
  rw [World.size_alloc] at K1
  have hB1 : Below w.heap.size w w1 := (((Below.refl w.heap.size w).alloc (Nat.le_refl _) _).alloc (by simp) _).trans (b1.mono (by simp; omega))
  have KS : Hid (RndA w neg a (s : Int) w1) := ⟨K0, ⟨_, _, _, K1⟩, hB1, HT.out.below hB1 hw6⟩
  obtain ⟨x0, x1, x2, f0, f1, f2, _⟩ := K0
  clear b1 hB1 cC K1
  go_wp2_with (first
    | (go_at_call 62; refine (cS _).mono ?_; rintro e w3 ⟨rfl, rfl⟩)
    | (go_at_call 45; refine (cK _).mono ?_; rintro e w4 ⟨rfl, b4⟩; have KS := Lib.hid (KS.out.call b4); clear b4 x0 x1 x2 f0 f1 f2)
    | (go_at_call 64; refine (cZ _).mono ?_; rintro e w5 ⟨rfl, b5⟩; have KS := Lib.hid (KS.out.call b5); clear b5)
    | (go_at_call 57; refine (cN _).mono ?_; rintro e w6 ⟨rfl, b6⟩; have ks := KS.out.call b6; obtain ⟨n1, n2, n3⟩ := one_lit w6 (ptsOf x); have KB : Hid (RndB w neg a (s : Int) w6.heap.size (ptsOf x) _) := ⟨ks.call n3, n2, ks.size⟩; clear n2 n3 b6 ks)
    | (refine wpList_store_row rfl 62 _ _ rfl w6.heap.size _ rfl rfl 62 _ n1 (nat_size _) (by simp [natL_len]) (nat_one _) ?_; obtain ⟨p, hp⟩ : ∃ p, w6.heap.size = p := ⟨_, rfl⟩; obtain ⟨W7, hW7⟩ : ∃ W7, ((w6.alloc (.cells #[.int .i64 0, .int .i64 0, .int .i64 0, .int .i64 0, .int .i64 0, .int .i64 0, .int .i64 0, .int .i64 0, .int .i64 0, .int .i64 0, .int .i64 0, .int .i64 0, .int .i64 0, .int .i64 0] 62)).setRow w6.heap.size (natL (ptsOf x)).toArray) = W7 := ⟨_, rfl⟩; rw [hW7] at KB ⊢; rw [hp] at KB ⊢; have cc0 := KB.out.2.1.cell (p := 0) (by omega); have cc1 := KB.out.2.1.cell (p := 1) (by omega); have cc2 := KB.out.2.1.cell (p := 2) (by omega); have cc3 := KB.out.2.1.cell (p := 3) (by omega); have cc4 := KB.out.2.1.cell (p := 4) (by omega); have cc5 := KB.out.2.1.cell (p := 5) (by omega); have cc6 := KB.out.2.1.cell (p := 6) (by omega); have cc7 := KB.out.2.1.cell (p := 7) (by omega); have cc8 := KB.out.2.1.cell (p := 8) (by omega); have cc9 := KB.out.2.1.cell (p := 9) (by omega); have cc10 := KB.out.2.1.cell (p := 10) (by omega); have cc11 := KB.out.2.1.cell (p := 11) (by omega); have cc12 := KB.out.2.1.cell (p := 12) (by omega); have cc13 := KB.out.2.1.cell (p := 13) (by omega); clear hW7 n1 hp)
    | (go_at_call 66; refine (cO _).mono ?_; rintro e w8 ⟨rfl, b8⟩; have KB := Lib.hid (KB.out.call b8); clear b8 cc0 cc1 cc2 cc3 cc4 cc5 cc6 cc7 cc8 cc9 cc10 cc11 cc12 cc13))
  have hu : Tryz.prog.underlying 62 = some (.array 14 2) := Tryz.underlying62
  have hi14 : (Tryz.prog.info? 62).map (·.size) = some 14 := by kernel_rfl
  refine wp_region_held_drew (S := RndB w neg a (s : Int) p (ptsOf x)) (by kernel_rfl) (RndB.call KB.out (below_drew1 _)) (fun hHeld => ?_)
  refine wpAnyH_take (i := 0) (v := ?_) rfl (by kernel_rfl) (by kernel_rfl) (by kernel_rfl) (fun _ _ _ h => h) (Or.inl ⟨by rfl, ?_⟩) (by assumption) ?_
  rotate_left
  · intro w hSw
    (try dsimp only at hSw)
    go_simp
    (try with_reducible rfl)
  try simp only [List.getElem_toArray, List.getElem_cons_zero, List.getElem_cons_succ, Act.put, List.setIfInBounds_toArray, List.set_cons_zero, List.set_cons_succ]
  refine wpAnyH_take (i := 1) (v := ?_) rfl (by kernel_rfl) (by kernel_rfl) (by kernel_rfl) (fun _ _ _ h => h) (Or.inl ⟨by rfl, ?_⟩) (by assumption) ?_
  rotate_left
  · intro w hSw
    obtain ⟨⟨⟨h0, h1, h2, _⟩, _⟩, _⟩ := hSw
    go_simp
    (try with_reducible rfl)
  try simp only [List.getElem_toArray, List.getElem_cons_zero, List.getElem_cons_succ, Act.put, List.setIfInBounds_toArray, List.set_cons_zero, List.set_cons_succ]
  refine wpAnyH_take (i := 2) rfl (by kernel_rfl) (by kernel_rfl) (by kernel_rfl) (fun _ _ _ h => h) (yieldsIf_load_mid (by rfl) 62 _ rfl _ _ rfl _ _ (fun w hSw => hSw.2.1.range) hu rfl (by rw [natL_len]; exact hi14)) (by assumption) ?_
  try simp only [List.getElem_toArray, List.getElem_cons_zero, List.getElem_cons_succ, Act.put, List.setIfInBounds_toArray, List.set_cons_zero, List.set_cons_succ]
  refine wpAnyH_take (i := 4) (v := ?_) rfl (by kernel_rfl) (by kernel_rfl) (by kernel_rfl) (fun _ _ _ h => h) (Or.inl ⟨by rfl, ?_⟩) (by assumption) ?_
  rotate_left
  · intro w hSw
    (try dsimp only at hSw)
    go_simp
    (try with_reducible rfl)
  try simp only [List.getElem_toArray, List.getElem_cons_zero, List.getElem_cons_succ, Act.put, List.setIfInBounds_toArray, List.set_cons_zero, List.set_cons_succ]
  refine wpAnyH_ready (rs := [3]) (by kernel_rfl) (by simp) ?_
  refine AllReadyH.cons rfl (fun K hK => ?_) AllReadyH.nil
  go_simp
  refine (cD _ hHeld.1.2.2.2).mono ?_
  rintro e w8 ⟨rfl, b8⟩
  have b8 := b8
  refine hK.out _ _ (RndB.call hHeld b8) (fun hHeld => ?_)
  clear hK K
  try simp only [List.getElem_toArray, List.getElem_cons_zero, List.getElem_cons_succ, Act.put, List.setIfInBounds_toArray, List.set_cons_zero, List.set_cons_succ]
  refine wpAnyH_ready (rs := [5]) (by kernel_rfl) (by simp) ?_
  refine AllReadyH.cons rfl (fun K hK => ?_) AllReadyH.nil
  go_simp
  refine (cM _).mono ?_
  rintro e w8 ⟨rfl, b8⟩
  have hr := RndB.call hHeld b8
  obtain ⟨⟨_, ⟨v0, v1, v2, q0, q1, q2, g0, g1, g2, _⟩, gB, _⟩, _⟩ := hr
  have GB := Lib.hid gB
  refine hK.out _ _ (RndB.call hHeld b8) (fun hHeld => ?_)
  clear hK K
  try simp only [List.getElem_toArray, List.getElem_cons_zero, List.getElem_cons_succ, Act.put, List.setIfInBounds_toArray, List.set_cons_zero, List.set_cons_succ]
  refine wpAnyH_take (i := 6) (v := ?_) rfl (by kernel_rfl) (by kernel_rfl) (by kernel_rfl) (fun _ _ _ h => h) (Or.inl ⟨by rfl, ?_⟩) (by assumption) ?_
  rotate_left
  · intro w hSw
    (try dsimp only at hSw)
    go_simp
    (try with_reducible rfl)
  try simp only [List.getElem_toArray, List.getElem_cons_zero, List.getElem_cons_succ, Act.put, List.setIfInBounds_toArray, List.set_cons_zero, List.set_cons_succ]
  refine wpAnyH_take (i := 7) (v := ?_) rfl (by kernel_rfl) (by kernel_rfl) (by kernel_rfl) (fun _ _ _ h => h) (Or.inl ⟨by rfl, ?_⟩) (by assumption) ?_
  rotate_left
  · intro w hSw
    (try dsimp only at hSw)
    go_simp
    (try with_reducible rfl)
  try simp only [List.getElem_toArray, List.getElem_cons_zero, List.getElem_cons_succ, Act.put, List.setIfInBounds_toArray, List.set_cons_zero, List.set_cons_succ]
  refine wpAnyH_ready (rs := [8]) (by kernel_rfl) (by simp) ?_
  refine AllReadyH.cons rfl (fun K hK => ?_) AllReadyH.nil
  go_simp
  refine hK.out _ _ (RndB.set3 hHeld hw6 _ _ _) (fun hHeld => ?_)
  clear hK K
  try simp only [List.getElem_toArray, List.getElem_cons_zero, List.getElem_cons_succ, Act.put, List.setIfInBounds_toArray, List.set_cons_zero, List.set_cons_succ]
  refine wpAnyH_take (i := 9) (v := ?_) rfl (by kernel_rfl) (by kernel_rfl) (by kernel_rfl) (fun _ _ _ h => h) (Or.inl ⟨by rfl, ?_⟩) (by assumption) ?_
  rotate_left
  · intro w hSw
    (try dsimp only at hSw)
    go_simp
    (try with_reducible rfl)
  try simp only [List.getElem_toArray, List.getElem_cons_zero, List.getElem_cons_succ, Act.put, List.setIfInBounds_toArray, List.set_cons_zero, List.set_cons_succ]
  refine wpAnyH_done (by kernel_rfl) ?_ _
  go_wp2
  exact bodyPost_ret (v := .tuple #[.agg #[.bool dn, .string dd, .int .i64 dsc], .int .i64 q]) (by simp [results, Tryz.results29, go_sem, q0, q1, q2]) rfl ⟨rfl, ((GB.out.setCell (by simp) _).setCell (by simp) _).setCell (by simp) _⟩

set_option maxRecDepth 100000 in
set_option maxHeartbeats 16000000 in
theorem round_lt (neg : Bool) (a : ByteArray) (s n k j : Nat) (ha : IsDec ⟨neg, a, (s : Int)⟩ n s) (hj : 0 < j) (hkj : k + j = s) (hcase : n % 10 ^ j + n % 10 ^ j < 10 ^ j) (w : World) (hT : Tabs w) :
    Calls Tryz.prog 29 #[.agg #[.bool neg, .string a, .int .i64 (s : Int)], .int .i64 (k : Int)] w fun e w' => e = .returned (decR (mkDec neg (n / 10 ^ j) k)) ∧ Below w.heap.size w w' := by
  have za := dec_size ha
  simp only at za
  have hs := ha.le
  have hks : k < s := by omega
  have hk := hks
  have cC := check_at ⟨neg, a, (s : Int)⟩ (by unfold maxLen; simp only; omega) 0 (by rw [vB_ok ⟨_, _, ha⟩]; rfl)
  have cS := fun W => t_scale (k : Int) W
  rw [decide_eq_true (show 0 ≤ (k : Int) ∧ (k : Int) ≤ 60 by omega)] at cS
  have cK := fun W => cut_call a j (by omega) (by omega) W
  obtain ⟨U, B, eU, eB, hU, vU, zU, hB, vB, zB⟩ := cut_facts ha.num za j (by omega)
  obtain ⟨H, eH, hH, vH, zH⟩ := half_facts j hj
  rw [eU, eB] at cK
  have hn : n < 10 ^ 60 := Nat.lt_of_lt_of_le ha.num.lt (Nat.pow_le_pow_right (by omega) za)
  obtain ⟨hx1, hx2⟩ := part_bound hn j
  obtain ⟨hl0, he0⟩ := cmp_texts hB hH zB zH
  have cZ := fun W => pzeros_call ((j : Int) - 1) (by omega) (by omega) W
  have cN := fun W => of_call U hU (by omega) W
  rw [vU] at cN
  have hl : Op.bytesLess B.toList H.toList = true := by rw [hl0, vB]; exact decide_eq_true (by omega)
  have he : (B.toList == H.toList) = false := by rw [he0, vB]; exact decide_eq_false (by omega)
  have cD := fun W hT => digits_call (n / 10 ^ j) W hT
  have cM := fun W => padS_small hx1 neg k (by omega) W
  unfold natV arrV at cN cD
  unfold decR at cM ⊢
  generalize (mkDec neg (n / 10 ^ j) k).getD decNil = d at cM ⊢
  generalize (if (mkDec neg (n / 10 ^ j) k).isSome then (0 : Int) else 7) = q at cM ⊢
  generalize padS (n / 10 ^ j) = Z at cD cM
  generalize n / 10 ^ j = x at cN cD
  obtain ⟨dn, dd, dsc⟩ := d
  simp only [Dec.v] at cC cM ⊢
  have zBi : (B.size : Int) = (j : Int) := by rw [zB]
  have ejs : (s : Int) - (k : Int) = (j : Int) := by omega
  have wj : IntKind.i64.wrap ((s : Int) - (k : Int)) = (j : Int) := by rw [ejs]; exact IntWalk.i64_in _ (by omega)
  have wj1 : IntKind.i64.wrap ((B.size : Int) - 1) = (j : Int) - 1 := by rw [zBi]; exact IntWalk.i64_in _ (by omega)
  have hj2 : j ≤ 60 := by omega
  generalize zs ((j : Int) - 1).toNat = ZZ at cZ eH
  have yH : ¬ 9223372036854775807 < (ByteArray.mk #[53]).size + ZZ.size := by rw [← app_size, eH, zH]; omega
  have hw6 := hT.size
  have HT := Lib.hid hT
  clear hl0 he0 ha za hs hcase eU eB hU vU zU hB vB hH vH zH hn hx1 hx2 hT
  go_enter Tryz.func29, Tryz.ntmps29
  go_wp2_with fail
  refine (cC _ _ (by simp)).mono ?_
  rintro e w1 ⟨rfl, b1⟩
  have b1 := past (by simp) b1
  have K0 := ((Has.new w (.bool neg) (.string a) (.int .i64 (s : Int)) 23).alloc (.cells #[.bool false, .string ⟨#[]⟩, .int .i64 0] 23)).call b1
  have K1 := (Has.new (w.alloc (.cells #[.bool neg, .string a, .int .i64 (s : Int)] 23)) (.bool false) (.string ⟨#[]⟩) (.int .i64 0) 23).call b1
  rw [World.size_alloc] at K1
  have hB1 : Below w.heap.size w w1 := (((Below.refl w.heap.size w).alloc (Nat.le_refl _) _).alloc (by simp) _).trans (b1.mono (by simp; omega))
  have KS : Hid (RndA w neg a (s : Int) w1) := ⟨K0, ⟨_, _, _, K1⟩, hB1, HT.out.below hB1 hw6⟩
  obtain ⟨x0, x1, x2, f0, f1, f2, _⟩ := K0
  clear b1 hB1 cC K1
  go_wp2_with (first
    | (go_at_call 62; refine (cS _).mono ?_; rintro e w3 ⟨rfl, rfl⟩)
    | (go_at_call 45; refine (cK _).mono ?_; rintro e w4 ⟨rfl, b4⟩; have KS := Lib.hid (KS.out.call b4); clear b4 x0 x1 x2 f0 f1 f2)
    | (go_at_call 64; refine (cZ _).mono ?_; rintro e w5 ⟨rfl, b5⟩; have KS := Lib.hid (KS.out.call b5); clear b5)
    | (go_at_call 57; refine (cN _).mono ?_; rintro e w6 ⟨rfl, b6⟩; have ks := KS.out.call b6; obtain ⟨n1, n2, n3⟩ := one_lit w6 (ptsOf x); have KB : Hid (RndB w neg a (s : Int) w6.heap.size (ptsOf x) _) := ⟨ks.call n3, n2, ks.size⟩; clear n2 n3 b6 ks)
    | (refine wpList_store_row rfl 62 _ _ rfl w6.heap.size _ rfl rfl 62 _ n1 (nat_size _) (by simp [natL_len]) (nat_one _) ?_; obtain ⟨p, hp⟩ : ∃ p, w6.heap.size = p := ⟨_, rfl⟩; obtain ⟨W7, hW7⟩ : ∃ W7, ((w6.alloc (.cells #[.int .i64 0, .int .i64 0, .int .i64 0, .int .i64 0, .int .i64 0, .int .i64 0, .int .i64 0, .int .i64 0, .int .i64 0, .int .i64 0, .int .i64 0, .int .i64 0, .int .i64 0, .int .i64 0] 62)).setRow w6.heap.size (natL (ptsOf x)).toArray) = W7 := ⟨_, rfl⟩; rw [hW7] at KB ⊢; rw [hp] at KB ⊢;  clear hW7 n1 hp))
  have hu : Tryz.prog.underlying 62 = some (.array 14 2) := Tryz.underlying62
  have hi14 : (Tryz.prog.info? 62).map (·.size) = some 14 := by kernel_rfl
  refine wp_region_held_drew (S := RndB w neg a (s : Int) p (ptsOf x)) (by kernel_rfl) (RndB.call KB.out (below_drew1 _)) (fun hHeld => ?_)
  refine wpAnyH_take (i := 0) (v := ?_) rfl (by kernel_rfl) (by kernel_rfl) (by kernel_rfl) (fun _ _ _ h => h) (Or.inl ⟨by rfl, ?_⟩) (by assumption) ?_
  rotate_left
  · intro w hSw
    (try dsimp only at hSw)
    go_simp
    (try with_reducible rfl)
  try simp only [List.getElem_toArray, List.getElem_cons_zero, List.getElem_cons_succ, Act.put, List.setIfInBounds_toArray, List.set_cons_zero, List.set_cons_succ]
  refine wpAnyH_take (i := 1) (v := ?_) rfl (by kernel_rfl) (by kernel_rfl) (by kernel_rfl) (fun _ _ _ h => h) (Or.inl ⟨by rfl, ?_⟩) (by assumption) ?_
  rotate_left
  · intro w hSw
    obtain ⟨⟨⟨h0, h1, h2, _⟩, _⟩, _⟩ := hSw
    go_simp
    (try with_reducible rfl)
  try simp only [List.getElem_toArray, List.getElem_cons_zero, List.getElem_cons_succ, Act.put, List.setIfInBounds_toArray, List.set_cons_zero, List.set_cons_succ]
  refine wpAnyH_take (i := 2) rfl (by kernel_rfl) (by kernel_rfl) (by kernel_rfl) (fun _ _ _ h => h) (yieldsIf_load_mid (by rfl) 62 _ rfl _ _ rfl _ _ (fun w hSw => hSw.2.1.range) hu rfl (by rw [natL_len]; exact hi14)) (by assumption) ?_
  try simp only [List.getElem_toArray, List.getElem_cons_zero, List.getElem_cons_succ, Act.put, List.setIfInBounds_toArray, List.set_cons_zero, List.set_cons_succ]
  refine wpAnyH_take (i := 4) (v := ?_) rfl (by kernel_rfl) (by kernel_rfl) (by kernel_rfl) (fun _ _ _ h => h) (Or.inl ⟨by rfl, ?_⟩) (by assumption) ?_
  rotate_left
  · intro w hSw
    (try dsimp only at hSw)
    go_simp
    (try with_reducible rfl)
  try simp only [List.getElem_toArray, List.getElem_cons_zero, List.getElem_cons_succ, Act.put, List.setIfInBounds_toArray, List.set_cons_zero, List.set_cons_succ]
  refine wpAnyH_ready (rs := [3]) (by kernel_rfl) (by simp) ?_
  refine AllReadyH.cons rfl (fun K hK => ?_) AllReadyH.nil
  go_simp
  refine (cD _ hHeld.1.2.2.2).mono ?_
  rintro e w8 ⟨rfl, b8⟩
  have b8 := b8
  refine hK.out _ _ (RndB.call hHeld b8) (fun hHeld => ?_)
  clear hK K
  try simp only [List.getElem_toArray, List.getElem_cons_zero, List.getElem_cons_succ, Act.put, List.setIfInBounds_toArray, List.set_cons_zero, List.set_cons_succ]
  refine wpAnyH_ready (rs := [5]) (by kernel_rfl) (by simp) ?_
  refine AllReadyH.cons rfl (fun K hK => ?_) AllReadyH.nil
  go_simp
  refine (cM _).mono ?_
  rintro e w8 ⟨rfl, b8⟩
  have hr := RndB.call hHeld b8
  obtain ⟨⟨_, ⟨v0, v1, v2, q0, q1, q2, g0, g1, g2, _⟩, gB, _⟩, _⟩ := hr
  have GB := Lib.hid gB
  refine hK.out _ _ (RndB.call hHeld b8) (fun hHeld => ?_)
  clear hK K
  try simp only [List.getElem_toArray, List.getElem_cons_zero, List.getElem_cons_succ, Act.put, List.setIfInBounds_toArray, List.set_cons_zero, List.set_cons_succ]
  refine wpAnyH_take (i := 6) (v := ?_) rfl (by kernel_rfl) (by kernel_rfl) (by kernel_rfl) (fun _ _ _ h => h) (Or.inl ⟨by rfl, ?_⟩) (by assumption) ?_
  rotate_left
  · intro w hSw
    (try dsimp only at hSw)
    go_simp
    (try with_reducible rfl)
  try simp only [List.getElem_toArray, List.getElem_cons_zero, List.getElem_cons_succ, Act.put, List.setIfInBounds_toArray, List.set_cons_zero, List.set_cons_succ]
  refine wpAnyH_take (i := 7) (v := ?_) rfl (by kernel_rfl) (by kernel_rfl) (by kernel_rfl) (fun _ _ _ h => h) (Or.inl ⟨by rfl, ?_⟩) (by assumption) ?_
  rotate_left
  · intro w hSw
    (try dsimp only at hSw)
    go_simp
    (try with_reducible rfl)
  try simp only [List.getElem_toArray, List.getElem_cons_zero, List.getElem_cons_succ, Act.put, List.setIfInBounds_toArray, List.set_cons_zero, List.set_cons_succ]
  refine wpAnyH_ready (rs := [8]) (by kernel_rfl) (by simp) ?_
  refine AllReadyH.cons rfl (fun K hK => ?_) AllReadyH.nil
  go_simp
  refine hK.out _ _ (RndB.set3 hHeld hw6 _ _ _) (fun hHeld => ?_)
  clear hK K
  try simp only [List.getElem_toArray, List.getElem_cons_zero, List.getElem_cons_succ, Act.put, List.setIfInBounds_toArray, List.set_cons_zero, List.set_cons_succ]
  refine wpAnyH_take (i := 9) (v := ?_) rfl (by kernel_rfl) (by kernel_rfl) (by kernel_rfl) (fun _ _ _ h => h) (Or.inl ⟨by rfl, ?_⟩) (by assumption) ?_
  rotate_left
  · intro w hSw
    (try dsimp only at hSw)
    go_simp
    (try with_reducible rfl)
  try simp only [List.getElem_toArray, List.getElem_cons_zero, List.getElem_cons_succ, Act.put, List.setIfInBounds_toArray, List.set_cons_zero, List.set_cons_succ]
  refine wpAnyH_done (by kernel_rfl) ?_ _
  go_wp2
  exact bodyPost_ret (v := .tuple #[.agg #[.bool dn, .string dd, .int .i64 dsc], .int .i64 q]) (by simp [results, Tryz.results29, go_sem, q0, q1, q2]) rfl ⟨rfl, ((GB.out.setCell (by simp) _).setCell (by simp) _).setCell (by simp) _⟩
end Go.Proofs.YtcpociafcjabkaaGreatDoor
