/- How the program compares two numbers. -/
import Derived.Test.YtcpociafcjabkaaGreatDoorPH
set_option linter.unusedSimpArgs false
set_option linter.unusedVariables false
namespace Go.Proofs.YtcpociafcjabkaaGreatDoor
open Go.RowKit Go.Shelf
attribute [local go_sem] Oper.semAt_some

theorem nan_call (a : Int) (w : World) : Calls Tryz.prog 101 #[.int .i64 a] w fun e w' => e = .returned (.bool false) ∧ w' = w := by
  go_enter Tryz.func101, Tryz.ntmps101
  go_wp2
  go_ret
  exact ⟨by simp, rfl⟩
def cmpI (a b : Int) : Int := if a < b then -1 else if b < a then 1 else 0
theorem ccmp_call (a b : Int) (w : World) : Calls Tryz.prog 81 #[.int .i64 a, .int .i64 b] w fun e w' => e = .returned (.int .i64 (cmpI a b)) ∧ w' = w := by
  have c := nan_call
  unfold cmpI
  by_cases h1 : a < b
  · rw [if_pos h1]
    go_enter Tryz.func81, Tryz.ntmps81
    go_wp2_with (go_at_call 101; refine (c _ _).mono ?_; rintro e w' ⟨rfl, rfl⟩)
    go_ret
    exact ⟨rfl, rfl⟩
  · rw [if_neg h1]
    by_cases h2 : b < a
    · rw [if_pos h2]
      go_enter Tryz.func81, Tryz.ntmps81
      go_wp2_with (go_at_call 101; refine (c _ _).mono ?_; rintro e w' ⟨rfl, rfl⟩)
      go_ret
      exact ⟨rfl, rfl⟩
    · rw [if_neg h2]
      go_enter Tryz.func81, Tryz.ntmps81
      go_wp2_with (go_at_call 101; refine (c _ _).mono ?_; rintro e w' ⟨rfl, rfl⟩)
      go_ret
      exact ⟨rfl, rfl⟩

def CelI (W : World) (b : Nat) (c : Int) : Prop := W.heap[b]? = some (.cells #[.int .i64 c] 3 (0, 0))
theorem CelI.cell {W : World} {b : Nat} {c : Int} (h : CelI W b c) : W.cell? ⟨b, 0, none⟩ = some (.int .i64 c) := by rw [cell_of_row W b 0 _ _ _ h]; rfl
theorem CelI.free {W : World} {b : Nat} {c : Int} (h : CelI W b c) : W.frozen? ⟨b, 0, none⟩ = false := by simp [World.frozen?, show W.heap[b]? = _ from h]
theorem CelI.set {W : World} {b : Nat} {c : Int} (h : CelI W b c) (v : Int) : CelI (W.setCell ⟨b, 0, none⟩ (.int .i64 v)) b v := heap_setCell_same W b 0 _ 3 (.int .i64 v) h
theorem CelI.kept {W W' : World} {b : Nat} {c : Int} {row : Option Nat} (h : CelI W b c) (hg : W.grownBy W' row) (hrow : ∀ r, row = some r → ∃ o : Obj, W.heap[r]? = some o ∧ o.isCells = false) : CelI W' b c := (grownBy_keeps_cells hg hrow h rfl).trans h
theorem Blk.kept {W W' : World} {b : Nat} {f : Nat → Int} {row : Option Nat} (h : Blk W b f) (hg : W.grownBy W' row) (hrow : ∀ r, row = some r → ∃ o : Obj, W.heap[r]? = some o ∧ o.isCells = false) : Blk W' b f := (grownBy_keeps_cells hg hrow h rfl).trans h

theorem cmp_same {n m : Nat} (hn : n < 10 ^ 126) (hm : m < 10 ^ 126) (h : ∀ x ∈ backF, ptsOf n x.1 = ptsOf m x.1) : cmpN n m = 0 := by
  have e : n = m := parts_same n m hn hm fun j hj => by
    have h1 := h ⟨j, hj⟩ (by
      have : ∀ x : Fin 14, x ∈ backF := by decide
      exact this _)
    exact Int.natCast_inj.1 h1
  unfold cmpN
  rw [if_neg (by omega), if_pos e]
theorem cmp_differ {n m : Nat} (hn : n < 10 ^ 126) (hm : m < 10 ^ 126) {ini : List (Fin 14)} {x : Fin 14} (hp : (ini ++ [x]) <+: backF) (h : ∀ y ∈ ini, ptsOf n y.1 = ptsOf m y.1) (hx : ptsOf n x.1 ≠ ptsOf m x.1) : cmpN n m = cmpI (ptsOf n x.1) (ptsOf m x.1) := by
  have ha : ∀ j, x.1 < j → j < 14 → part n j = part m j := fun j hj h14 => Int.natCast_inj.1 (h ⟨j, h14⟩ (backF_pre hp ⟨j, h14⟩ hj))
  have hne : part n x.1 ≠ part m x.1 := fun e => hx (by unfold ptsOf; rw [e])
  unfold cmpN cmpI ptsOf
  rcases Nat.lt_or_ge (part n x.1) (part m x.1) with hl | hl
  · have := parts_lt n m hn hm x.1 x.2 ha hl
    rw [if_pos this, if_pos (by omega)]
  · have := parts_lt m n hm hn x.1 x.2 (fun j h1 h2 => (ha j h1 h2).symm) (by omega)
    rw [if_neg (by omega), if_neg (by omega), if_neg (by omega), if_pos (by omega)]

set_option maxRecDepth 100000 in
set_option maxHeartbeats 2000000 in
theorem cmp_call (n m : Nat) (hn : n < 10 ^ 126) (hm : m < 10 ^ 126) (w : World) :
    Calls Tryz.prog 51 #[natV n, natV m] w fun e w' => e = .returned (.int .i64 (cmpN n m)) ∧ Below w.heap.size w w' := by
  have hsame := cmp_same hn hm
  have hdiff := @cmp_differ n m hn hm
  have HS := Lib.hid (And.intro hsame @hdiff)
  clear hsame hdiff hn hm
  refine (callsIn_wide (n := 4)).1 ?_
  have h1 : 1 ≤ 4 := by omega
  show CallsIn _ _ Tryz.prog 51 #[.agg (natL (ptsOf n)).toArray, .agg (natL (ptsOf m)).toArray] w _
  obtain ⟨X, hX⟩ : ∃ X, (natL (ptsOf n)).toArray = X := ⟨_, rfl⟩
  obtain ⟨Y, hY⟩ : ∃ Y, (natL (ptsOf m)).toArray = Y := ⟨_, rfl⟩
  rw [hX, hY]
  have HXY := Lib.hid (And.intro hX hY)
  clear hX hY
  refine callsIn_of_wp_marks Tryz.func51 rfl trivial ?_ rfl
  simp only [Tryz.ntmps51, List.size_toArray, List.length_cons, List.length_nil, Nat.reduceAdd, Nat.reduceSub, Array.replicate_succ, Array.replicate_zero, List.push_toArray, List.append_toArray, List.nil_append, List.cons_append]
  gi_wp2_with (refine ⟨trivial, ?_⟩; gi_at_call 78; refine (callsIn_wide.2 (back_call _ _)).mono ?_; rintro e w' ⟨rfl, rfl⟩)
  have hz0 : ((((w.alloc (.cells X 62)).alloc (.cells Y 62)).alloc (.cells #[.int .i64 0] 3)).alloc (.cells #[.slice (some ⟨w.heap.size, 0, none⟩) 14 14] 86)).heap.size = w.heap.size + 4 := by simp
  have hW : Blk ((((w.alloc (.cells X 62)).alloc (.cells Y 62)).alloc (.cells #[.int .i64 0] 3)).alloc (.cells #[.slice (some ⟨w.heap.size, 0, none⟩) 14 14] 86)) w.heap.size (ptsOf n) ∧
      Blk ((((w.alloc (.cells X 62)).alloc (.cells Y 62)).alloc (.cells #[.int .i64 0] 3)).alloc (.cells #[.slice (some ⟨w.heap.size, 0, none⟩) 14 14] 86)) (w.heap.size + 1) (ptsOf m) ∧
      CelI ((((w.alloc (.cells X 62)).alloc (.cells Y 62)).alloc (.cells #[.int .i64 0] 3)).alloc (.cells #[.slice (some ⟨w.heap.size, 0, none⟩) 14 14] 86)) (w.heap.size + 1 + 1) 0 ∧
      Below w.heap.size w ((((w.alloc (.cells X 62)).alloc (.cells Y 62)).alloc (.cells #[.int .i64 0] 3)).alloc (.cells #[.slice (some ⟨w.heap.size, 0, none⟩) 14 14] 86)) ∧
      World.cell? ((((w.alloc (.cells X 62)).alloc (.cells Y 62)).alloc (.cells #[.int .i64 0] 3)).alloc (.cells #[.slice (some ⟨w.heap.size, 0, none⟩) 14 14] 86)) ⟨w.heap.size + 1 + 1 + 1, 0, none⟩ = some (.slice (some ⟨w.heap.size, 0, none⟩) 14 14) := by
    obtain ⟨rfl, rfl⟩ := HXY.out
    have b0 := Blk.new w (ptsOf n)
    have b1 := Blk.new (w.alloc (.cells (natL (ptsOf n)).toArray 62)) (ptsOf m)
    rw [World.size_alloc] at b1
    refine ⟨((b0.alloc _).alloc _).alloc _, (b1.alloc _).alloc _, ?_, ?_, ?_⟩
    · have h3 := heap_alloc_last ((w.alloc (.cells (natL (ptsOf n)).toArray 62)).alloc (.cells (natL (ptsOf m)).toArray 62)) (.cells #[.int .i64 0] 3)
      rw [World.size_alloc, World.size_alloc] at h3
      exact (((Below.refl _ _).alloc (Nat.le_refl _) (.cells #[.slice (some ⟨w.heap.size, 0, none⟩) 14 14] 86)).block _ (by simp)).trans h3
    · exact ((((Below.refl w.heap.size w).alloc (Nat.le_refl _) _).alloc (by simp) _).alloc (by simp; omega) _).alloc (by simp; omega) _
    · rw [World.cell?_alloc_at _ _ _ _ (by simp)]
      rfl
  obtain ⟨W0, hW0⟩ : ∃ W0, ((((w.alloc (.cells X 62)).alloc (.cells Y 62)).alloc (.cells #[.int .i64 0] 3)).alloc (.cells #[.slice (some ⟨w.heap.size, 0, none⟩) 14 14] 86)) = W0 := ⟨_, rfl⟩
  rw [hW0] at hW hz0 ⊢
  clear hW0
  obtain ⟨hbX, hbY, hbR, hB0, hcS⟩ := hW
  refine wpIn_rangeFunc_ownG rfl h1 (gf := 99) (lb := #[.pointer (some ⟨w.heap.size + 1 + 1 + 1, 0, none⟩)]) rfl trivial (enters_of Tryz.func99 (by kernel_rfl) rfl)
    (back_stops 3 (by omega) w.heap.size (w.heap.size + 1 + 1 + 1) (ptsOf n) W0 hbX hcS) KpN.trans (KpN.put (by omega) (by omega)) (Below.refl _ _) (fun _ => rfl)
    (fun pre W => ((∀ y ∈ pre, ptsOf n y.1 = ptsOf m y.1) ∧ Blk W (w.heap.size + 1) (ptsOf m) ∧ CelI W (w.heap.size + 1 + 1) 0) ∧ Below w.heap.size W0 W)
    (fun c pre W => (c = .ret ∧ ∃ ini x, pre = ini ++ [x] ∧ (∀ y ∈ ini, ptsOf n y.1 = ptsOf m y.1) ∧ ptsOf n x.1 ≠ ptsOf m x.1 ∧ CelI W (w.heap.size + 1 + 1) (cmpI (ptsOf n x.1) (ptsOf m x.1))) ∧ Below w.heap.size W0 W)
    (OwnFrom.and (Own.from (fun s A B row hs hg hr => ⟨hs.1, hs.2.1.kept hg hr, hs.2.2.kept hg hr⟩) _) (ownFrom_below (by omega) (by omega)))
    (fun c => OwnFrom.and (Own.from (fun s A B row hs hg hr => by obtain ⟨hc, ini, x, e1, e2, e3, e4⟩ := hs; exact ⟨hc, ini, x, e1, e2, e3, e4.kept hg hr⟩) _) (ownFrom_below (by omega) (by omega)))
    ⟨⟨fun x hx => by simp at hx, hbY, hbR⟩, Below.refl _ _⟩
    (fun x => { tmps := #[.agg X, .agg Y, .pointer (some ⟨w.heap.size, 0, none⟩), .pointer (some ⟨w.heap.size + 1, 0, none⟩), .pointer (some ⟨w.heap.size + 1 + 1, 0, none⟩), .int .i64 (x.1 : Int), .int .i64 (ptsOf n x.1), .slice (some ⟨w.heap.size, 0, none⟩) 14 14, .func (.func 99) #[] #[.pointer (some ⟨w.heap.size + 1 + 1 + 1, 0, none⟩)], .int .i64 (x.1 : Int), .int .i64 (ptsOf n x.1), undef, undef, undef, undef, undef, undef, undef, undef, undef, undef], defers := [] }) ?assign ?body ?done ?stop
  case assign =>
    intro l x W K hK
    gi_wp2
    exact hK
  case body =>
    rintro l pre ⟨x, hx14⟩ W ⟨⟨hp, hbM, hbC⟩, hB⟩ _
    have hszW := hB.size
    have hy := hbM.cell hx14
    have hr := hbC.cell
    have hf := hbC.free
    have hx14i : (x : Int) < 14 := by omega
    have HI := Lib.hid (And.intro hp (And.intro hbM hbC))
    clear hp hbM hbC
    simp only
    by_cases hx : ptsOf n x = ptsOf m x
    · have HX := Lib.hid hx
      obtain ⟨a, ha⟩ : ∃ a, ptsOf n x = a := ⟨_, rfl⟩
      rw [← hx] at hy
      rw [ha] at hy ⊢
      have hne : (a != a) = false := by simp
      clear hx
      gi_wp2
      refine ⟨KeepsFrom.refl _ _, ⟨rfl, rfl⟩, ⟨fun y hy => ?_, HI.out.2.1, HI.out.2.2⟩, hB⟩
      rcases List.mem_append.1 hy with h | h
      · exact HI.out.1 y h
      · simp only [List.mem_singleton] at h
        rw [h]
        exact HX.out
    · have HX := Lib.hid hx
      have hne : (ptsOf n x != ptsOf m x) = true := by simp [hx]
      obtain ⟨R, hR⟩ : ∃ R, cmpI (ptsOf n x) (ptsOf m x) = R := ⟨_, rfl⟩
      have HR := Lib.hid hR
      have hc := fun W => ccmp_call (ptsOf n x) (ptsOf m x) W
      rw [hR] at hc
      obtain ⟨a, ha⟩ : ∃ a, ptsOf n x = a := ⟨_, rfl⟩
      obtain ⟨b, hb⟩ : ∃ b, ptsOf m x = b := ⟨_, rfl⟩
      rw [ha, hb] at hne hc
      rw [hb] at hy
      rw [ha]
      clear hx hR ha hb
      gi_wp2_with (refine ⟨trivial, ?_⟩; gi_at_call 81; refine (CallsIn.inRound l (callsIn_wide.2 (hc _))).mono ?_; rintro e w2 ⟨rfl, rfl⟩)
      exact ⟨(KeepsOthers.setCell _ _ _).from _, ⟨rfl, pre, ⟨x, hx14⟩, rfl, HI.out.1, HX.out, by rw [HR.out]; exact HI.out.2.2.set R⟩, hB.setCell (p := ⟨w.heap.size + 1 + 1, 0, none⟩) (by show w.heap.size ≤ w.heap.size + 1 + 1; omega) _⟩
  case done =>
    rintro D ys W hD rfl ⟨⟨hp, hbM, hbC⟩, hB⟩ hK
    have hr := hbC.cell
    have hf := hbC.free
    gi_wp2
    have hK' := (KeepsOthers.setCell W ⟨w.heap.size + 1 + 1, 0, none⟩ (.int .i64 0)).same D _ hK rfl
    have hB2 := hB.setCell (p := ⟨w.heap.size + 1 + 1, 0, none⟩) (by show w.heap.size ≤ w.heap.size + 1 + 1; omega) (.int .i64 0)
    have hcc := (hbC.set 0).cell
    obtain ⟨W2, hW2⟩ : ∃ W2, W.setCell ⟨w.heap.size + 1 + 1, 0, none⟩ (.int .i64 0) = W2 := ⟨_, rfl⟩
    rw [hW2] at hK' hB2 hcc ⊢
    refine ⟨by simp, .inl ⟨_, _, rfl, run_takeDeferred hK', ?_⟩⟩
    have hc5 := cell_kept hcc (grownBy_putObj' _ D (.deferred none)) (fun r e => by cases e; exact ⟨_, hK', rfl⟩)
    refine ⟨.int .i64 0, ?_, by rw [HS.out.1 hp], hB0.trans (hB2.trans (belowK_b (w := w) (Nat.le_refl _) _ D _ _ (by omega) hK' rfl rfl))⟩
    simp [results, Tryz.f51, go_sem, hc5]
  case stop =>
    rintro D c pre W hD hpre ⟨⟨rfl, ini, x, rfl, e2, e3, e4⟩, hB⟩ hK
    gi_wp2
    refine ⟨by simp, .inl ⟨_, _, rfl, run_takeDeferred hK, ?_⟩⟩
    have hc5 := cell_kept e4.cell (grownBy_putObj' _ D (.deferred none)) (fun r e => by cases e; exact ⟨_, hK, rfl⟩)
    refine ⟨.int .i64 (cmpI (ptsOf n x.1) (ptsOf m x.1)), ?_, by rw [HS.out.2 hpre e2 e3], hB0.trans (hB.trans (belowK_b (w := w) (Nat.le_refl _) W D _ _ (by omega) hK rfl rfl))⟩
    simp [results, Tryz.f51, go_sem, hc5]
end Go.Proofs.YtcpociafcjabkaaGreatDoor
