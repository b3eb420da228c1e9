/- Local of package chars: it ranges over the iterator, and leaves where a character may not stand. -/
import Derived.Test.YtiefpdoefdldpaaDoorD
namespace Go.Proofs.YtiefpdoefdldpaaDoor
open Go.RowKit Go.Shelf
attribute [local go_sem] Oper.semAt_some

def okL (x : Nat × Int) : Bool := innB x.2 && (x.1 != 0 || fstB x.2)
def localB (l : List UInt8) : Bool := !l.isEmpty && decide (l.length ≤ 200) && (charsOf l).all okL

theorem keeps_below {B : Nat} {W W' : World} (h : Below W.heap.size W W') : KeepsFrom B W W' :=
  ⟨h.size, fun k _ _ hk _ => (h.block k (Array.getElem?_eq_some_iff.1 hk).1).trans hk⟩

set_option maxRecDepth 100000 in
set_option maxHeartbeats 2000000 in
theorem local_some (s : ByteArray) (w : World) (h0 : s.data.toList.isEmpty = false) (h200 : s.size ≤ 200) (hT : Tabs w) :
    Calls Tryd.prog 16 #[.string s] w fun e W' => e = .returned (.bool ((charsOf s.data.toList).all okL)) ∧ Below w.heap.size w W' := by
  refine (callsIn_wide (n := 4)).1 ?_
  have h1 : 1 ≤ 4 := by omega
  have hne : s.toList.isEmpty = false := by rw [Lib.toList_data]; exact h0
  have h2' : ¬ ((200 : Int) < (s.size : Int)) := by omega
  have hmax : s.size ≤ maxLen := by unfold maxLen; omega
  have hsz := hT.size
  refine callsIn_of_wp_marks Tryd.func16 rfl trivial ?_ rfl
  simp only [Tryd.ntmps16, List.size_toArray, List.length_cons, List.length_nil, Nat.reduceAdd, Nat.reduceSub, Array.replicate_succ, Array.replicate_zero, List.push_toArray, List.append_toArray, List.nil_append, List.cons_append]
  gi_wp2_with (refine ⟨trivial, ?_⟩; gi_at_call 31; refine (callsIn_wide.2 (characters_calls _ _)).mono ?_; rintro e w' ⟨rfl, rfl⟩)
  have bR := Boxed.new w 4 (.bool false)
  have bN := Boxed.new (w.alloc (.cells #[.bool false] 4)) 9 (.string s)
  rw [World.size_alloc] at bN
  have hB0 : Below w.heap.size w ((w.alloc (.cells #[.bool false] 4)).alloc (.cells #[.string s] 9)) := ((Below.refl _ w).alloc (Nat.le_refl _) _).alloc (by simp) _
  have hcS := bN.cell
  have hcR := (bR.alloc (.cells #[.string s] 9)).cell
  have hfR := (bR.alloc (.cells #[.string s] 9)).frozen
  have hz0 : ((w.alloc (.cells #[.bool false] 4)).alloc (.cells #[.string s] 9)).heap.size = w.heap.size + 2 := by simp
  obtain ⟨W0, hW0⟩ : ∃ W0, (w.alloc (.cells #[.bool false] 4)).alloc (.cells #[.string s] 9) = W0 := ⟨_, rfl⟩
  rw [hW0] at hcS hcR hfR hz0 hB0 ⊢
  clear hW0 bR bN
  have hT0 := hT.below hB0 hsz
  refine wpIn_rangeFunc_ownG rfl h1 (gf := 49) (lb := #[.pointer (some ⟨w.heap.size + 1, 0, none⟩)]) rfl trivial (enters_of Tryd.func49 (by kernel_rfl) rfl)
    (iter_stops 3 (by omega) (w.heap.size + 1) (w.heap.size + 2) s hmax (by omega) (by omega) _ hT0 hcS) belowK_t (belowK_b (by omega)) (Below.refl _ _) (fun _ => rfl)
    (fun pre W => (pre.all okL = true ∧ W.cell? ⟨w.heap.size, 0, none⟩ = some (.bool false) ∧ W.frozen? ⟨w.heap.size, 0, none⟩ = false) ∧ Below w.heap.size W0 W)
    (fun c pre W => (c = .ret ∧ pre.all okL = false ∧ W.cell? ⟨w.heap.size, 0, none⟩ = some (.bool false)) ∧ Below w.heap.size W0 W)
    (OwnFrom.and (Own.from (fun s A B row hs hg hr => ⟨hs.1, cell_kept hs.2.1 hg hr, (frozen_kept hs.2.1 hg hr).trans hs.2.2⟩) _) (ownFrom_below (by omega) (by omega)))
    (fun c => OwnFrom.and (Own.from (fun s A B row hs hg hr => ⟨hs.1, hs.2.1, cell_kept hs.2.2 hg hr⟩) _) (ownFrom_below (by omega) (by omega)))
    ⟨⟨rfl, hcR, hfR⟩, Below.refl _ _⟩
    (fun x => { tmps := #[.string s, undef, .pointer (some ⟨w.heap.size, 0, none⟩), .int .i64 (x.1 : Int), .int .i32 x.2, .string s, .bool false, .bool false, .string s, .int .i64 (s.size : Int), .bool false, .bool false, .string s, .func (.func 49) #[] #[.pointer (some ⟨w.heap.size + 1, 0, none⟩)], .int .i64 (x.1 : Int), .int .i32 x.2, undef, undef, undef, undef, undef, undef, undef, undef, undef, undef, undef, undef], defers := [] }) ?assign ?body ?done ?stop
  case assign =>
    intro l x W K hK
    gi_wp2
    exact hK
  case body =>
    rintro l pre x W ⟨⟨hp, hcr, hfr⟩, hB⟩ _
    have hTW := hT0.below hB hsz
    have hszW := hB.size
    have cF := fun X (hX : Tabs X) => first_any x.2 X hX.ran
    have cI := fun X (hX : Tabs X) => inner_any x.2 X hX.ran
    have hok : okL x = (innB x.2 && (x.1 != 0 || fstB x.2)) := rfl
    obtain ⟨fb, hfb⟩ : ∃ fb, fstB x.2 = fb := ⟨_, rfl⟩
    obtain ⟨ib, hib⟩ : ∃ ib, innB x.2 = ib := ⟨_, rfl⟩
    rw [hfb] at cF hok
    rw [hib] at cI hok
    clear hfb hib
    have hcW : w.heap.size < W.heap.size := by omega
    -- what a call that turns nothing leaves of the result's cell
    have kc : ∀ X, Below W.heap.size W X → X.cell? ⟨w.heap.size, 0, none⟩ = some (.bool false) ∧ X.frozen? ⟨w.heap.size, 0, none⟩ = false := fun X hX => ⟨(hX.cell (p := ⟨w.heap.size, 0, none⟩) hcW).trans hcr, (hX.frozen (p := ⟨w.heap.size, 0, none⟩) hcW).trans hfr⟩
    have good : ∀ X, Below W.heap.size W X → okL x = true → KeepsFrom W0.heap.size W X ∧ Below (w.heap.size + 2) W X ∧ (((pre ++ [x]).all okL = true ∧ X.cell? ⟨w.heap.size, 0, none⟩ = some (.bool false) ∧ X.frozen? ⟨w.heap.size, 0, none⟩ = false) ∧ Below w.heap.size W0 X) := fun X hX ho =>
      ⟨keeps_below hX, hX.mono (by omega), ⟨by rw [List.all_append, hp]; simp [ho], kc X hX⟩, hB.trans (hX.mono (by omega))⟩
    have bad : ∀ X, Below W.heap.size W X → okL x = false → KeepsFrom W0.heap.size W (X.setCell ⟨w.heap.size, 0, none⟩ (.bool false)) ∧ (pre ++ [x]).all okL = false ∧ (X.setCell ⟨w.heap.size, 0, none⟩ (.bool false)).cell? ⟨w.heap.size, 0, none⟩ = some (.bool false) ∧ Below w.heap.size W0 (X.setCell ⟨w.heap.size, 0, none⟩ (.bool false)) := fun X hX ho =>
      ⟨(keeps_below hX).trans ((KeepsOthers.setCell _ _ _).from _), by rw [List.all_append, hp]; simp [ho], World.cell?_setCell_same' _ _ _ (by rw [(kc X hX).1]; rfl), (hB.trans (hX.mono (by omega))).setCell (p := ⟨w.heap.size, 0, none⟩) (Nat.le_refl _) _⟩
    by_cases hx : x.1 = 0
    · have hx' : ((x.1 : Int) == 0) = true := by simp; omega
      cases fb
      · have ho : okL x = false := by rw [hok, hx]; simp
        clear hok hx
        gi_wp2_with (refine ⟨trivial, ?_⟩; gi_at_call 12; refine (CallsIn.inRound l (callsIn_wide.2 (cF _ hTW))).mono ?_; rintro e w1 ⟨rfl, hb1⟩; have hk1 := (kc _ hb1).1; have hk2 := (kc _ hb1).2)
        refine ⟨trivial, ?_⟩
        gi_wp2
        exact ⟨(bad _ hb1 ho).1, ⟨rfl, (bad _ hb1 ho).2.1, (bad _ hb1 ho).2.2.1⟩, (bad _ hb1 ho).2.2.2⟩
      · have ho : okL x = ib := by rw [hok, hx]; simp
        clear hok hx
        cases ib
        · gi_wp2_with (first | (refine ⟨trivial, ?_⟩; gi_at_call 12; refine (CallsIn.inRound l (callsIn_wide.2 (cF _ hTW))).mono ?_; rintro e w1 ⟨rfl, hb1⟩) | (refine ⟨trivial, ?_⟩; gi_at_call 14; refine (CallsIn.inRound l (callsIn_wide.2 (cI _ (hTW.below hb1 hTW.size)))).mono ?_; rintro e w2 ⟨rfl, hb2⟩; have hk1 := (kc _ (hb1.trans (hb2.mono hb1.size))).1; have hk2 := (kc _ (hb1.trans (hb2.mono hb1.size))).2))
          have hbad := bad _ (hb1.trans (hb2.mono hb1.size)) ho
          exact ⟨hbad.1, ⟨rfl, hbad.2.1, hbad.2.2.1⟩, hbad.2.2.2⟩
        · gi_wp2_with (first | (refine ⟨trivial, ?_⟩; gi_at_call 12; refine (CallsIn.inRound l (callsIn_wide.2 (cF _ hTW))).mono ?_; rintro e w1 ⟨rfl, hb1⟩) | (refine ⟨trivial, ?_⟩; gi_at_call 14; refine (CallsIn.inRound l (callsIn_wide.2 (cI _ (hTW.below hb1 hTW.size)))).mono ?_; rintro e w2 ⟨rfl, hb2⟩))
          exact good _ (hb1.trans (hb2.mono hb1.size)) ho
    · have hx' : ((x.1 : Int) == 0) = false := by simp; omega
      have ho : okL x = ib := by rw [hok]; simp [hx]
      clear hok hx
      cases ib
      · gi_wp2
        refine ⟨trivial, ?_⟩
        gi_wp2_with (refine ⟨trivial, ?_⟩; gi_at_call 14; refine (CallsIn.inRound l (callsIn_wide.2 (cI _ hTW))).mono ?_; rintro e w1 ⟨rfl, hb1⟩; have hk1 := (kc _ hb1).1; have hk2 := (kc _ hb1).2)
        exact ⟨(bad _ hb1 ho).1, ⟨rfl, (bad _ hb1 ho).2.1, (bad _ hb1 ho).2.2.1⟩, (bad _ hb1 ho).2.2.2⟩
      · gi_wp2
        refine ⟨trivial, ?_⟩
        gi_wp2_with (refine ⟨trivial, ?_⟩; gi_at_call 14; refine (CallsIn.inRound l (callsIn_wide.2 (cI _ hTW))).mono ?_; rintro e w1 ⟨rfl, hb1⟩)
        exact good _ hb1 ho
  case done =>
    rintro D ys W hD rfl ⟨⟨hne, hcr, hfr⟩, hB⟩ hK
    gi_wp2
    have hK' := (KeepsOthers.setCell W ⟨w.heap.size, 0, none⟩ (.bool true)).same D _ hK rfl
    refine ⟨by simp, .inl ⟨_, _, rfl, run_takeDeferred hK', ?_⟩⟩
    have hc5 := cell_kept (World.cell?_setCell_same' W ⟨w.heap.size, 0, none⟩ (.bool true) (by rw [hcr]; rfl)) (grownBy_putObj' _ D (.deferred none)) (fun r e => by cases e; exact ⟨_, hK', rfl⟩)
    refine ⟨.bool true, ?_, by rw [hne], hB0.trans ((hB.setCell (p := ⟨w.heap.size, 0, none⟩) (Nat.le_refl _) _).trans (belowK_b (w := w) (Nat.le_refl _) _ D _ _ (by omega) hK' rfl rfl))⟩
    simp [results, Tryd.f16, go_sem, hc5]
  case stop =>
    rintro D c pre W hD hpre ⟨⟨rfl, hno, hcr⟩, hB⟩ hK
    have hall : (charsOf s.data.toList).all okL = false := by
      obtain ⟨t, ht⟩ := hpre
      rw [← ht, List.all_append, hno]
      rfl
    gi_wp2
    refine ⟨by simp, .inl ⟨_, _, rfl, run_takeDeferred hK, ?_⟩⟩
    have hc5 := cell_kept hcr (grownBy_putObj' _ D (.deferred none)) (fun r e => by cases e; exact ⟨_, hK, rfl⟩)
    refine ⟨.bool false, ?_, by rw [hall], hB0.trans (hB.trans (belowK_b (w := w) (Nat.le_refl _) W D _ _ (by omega) hK rfl rfl))⟩
    simp [results, Tryd.f16, go_sem, hc5]

set_option maxRecDepth 100000 in
/-- **Local OF PACKAGE chars, AT EVERY STRING.** -/
theorem local_any (s : ByteArray) (w : World) (hs : s.size ≤ maxLen) (hT : Tabs w) :
    Calls Tryd.prog 16 #[.string s] w fun e W' => e = .returned (.bool (localB s.data.toList)) ∧ Below w.heap.size w W' := by
  unfold maxLen at hs
  have hlen : s.data.toList.length = s.size := by simp
  unfold localB
  rw [hlen]
  cases h0 : s.data.toList.isEmpty with
  | true =>
    have hne : s.toList.isEmpty = true := by rw [Lib.toList_data]; exact h0
    go_enter Tryd.func16, Tryd.ntmps16
    go_wp2
    refine bodyPost_ret (v := .bool false) (by simp [results, Tryd.f16, go_sem]) rfl ⟨rfl, (Below.refl _ _).alloc (Nat.le_refl _) _⟩
  | false =>
    by_cases h : s.size ≤ 200
    · simp only [h, decide_true, Bool.not_false, Bool.true_and]
      exact local_some s w h0 h hT
    · have hne : s.toList.isEmpty = false := by rw [Lib.toList_data]; exact h0
      have h2 : (200 : Int) < (s.size : Int) := by omega
      simp only [h, decide_false, Bool.and_false, Bool.false_and]
      clear h
      go_enter Tryd.func16, Tryd.ntmps16
      go_wp2
      refine bodyPost_ret (v := .bool false) (by simp [results, Tryd.f16, go_sem]) rfl ⟨rfl, (Below.refl _ _).alloc (Nat.le_refl _) _⟩
end Go.Proofs.YtiefpdoefdldpaaDoor
