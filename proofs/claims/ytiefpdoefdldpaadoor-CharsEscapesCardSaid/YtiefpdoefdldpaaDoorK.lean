/- firstWrong of package chars: the first place where no character stands. -/
import Derived.Test.YtiefpdoefdldpaaDoorE
namespace Go.Proofs.YtiefpdoefdldpaaDoor
open Go.RowKit Go.Shelf
attribute [local go_sem] Oper.semAt_some

/-- Where it is, if there is one. -/
def badAt (l : List UInt8) : Option Nat := ((charsOf l).find? fun x => x.2 == -1).map (·.1)
def badI (l : List UInt8) : Int := ((badAt l).getD 0 : Nat)
def badB (l : List UInt8) : Bool := (badAt l).isSome
def isBad (x : Nat × Int) : Bool := x.2 == -1

theorem two_cells {W : World} {a b : Addr} {x y : Value} (u v : Value) (hne : a.block ≠ b.block) (ha : W.cell? a = some x) (hb : W.cell? b = some y) :
    ((W.setCell a u).setCell b v).cell? a = some u ∧ ((W.setCell a u).setCell b v).cell? b = some v := by
  have h1 : (W.setCell a u).cell? a = some u := World.cell?_setCell_same' _ _ _ (by rw [ha]; rfl)
  have h2 : (W.setCell a u).cell? b = some y := (World.cell?_of_block (w := W) (Below.heap_setCell W a u b.block (fun e => hne e.symm))).trans hb
  exact ⟨(World.cell?_of_block (w := W.setCell a u) (Below.heap_setCell (W.setCell a u) b v a.block hne)).trans h1, World.cell?_setCell_same' _ _ _ (by rw [h2]; rfl)⟩

theorem bad_none {l : List UInt8} (h : ∀ x ∈ charsOf l, isBad x = false) : badI l = 0 ∧ badB l = false := by
  have hf : (charsOf l).find? (fun x => x.2 == -1) = none := by
    rw [List.find?_eq_none]
    intro x hx e
    have := h x hx
    unfold isBad at this
    rw [this] at e
    cases e
  unfold badI badB badAt
  rw [hf]
  exact ⟨rfl, rfl⟩
theorem bad_some {l : List UInt8} {ini t : List (Nat × Int)} {x : Nat × Int} (hl : charsOf l = (ini ++ [x]) ++ t) (h : ∀ y ∈ ini, isBad y = false) (hx : isBad x = true) : badI l = (x.1 : Int) ∧ badB l = true := by
  have hf : (charsOf l).find? (fun x => x.2 == -1) = some x := by
    have hn : ini.find? (fun x => x.2 == -1) = none := by
      rw [List.find?_eq_none]
      intro y hy e
      have := h y hy
      unfold isBad at this
      rw [this] at e
      cases e
    rw [hl, List.append_assoc, List.find?_append, hn]
    unfold isBad at hx
    simp [hx]
  unfold badI badB badAt
  rw [hf]
  exact ⟨rfl, rfl⟩
theorem ret_ib {a b : Int} {x y : Bool} (h : a = b) (g : x = y) : Ending.returned (.tuple #[.int .i64 a, .bool x]) = .returned (.tuple #[.int .i64 b, .bool y]) := by rw [h, g]

set_option maxRecDepth 100000 in
set_option maxHeartbeats 2000000 in
theorem firstWrong_any (s : ByteArray) (w : World) (hmax : s.size ≤ maxLen) (hT : Tabs w) :
    Calls Tryd.prog 40 #[.string s] w fun e W' => e = .returned (.tuple #[.int .i64 (badI s.data.toList), .bool (badB s.data.toList)]) ∧ Below w.heap.size w W' := by
  refine (callsIn_wide (n := 4)).1 ?_
  have h1 : 1 ≤ 4 := by omega
  have hsz := hT.size
  refine callsIn_of_wp_marks Tryd.func40 rfl trivial ?_ rfl
  simp only [Tryd.ntmps40, List.size_toArray, List.length_cons, List.length_nil, Nat.reduceAdd, Nat.reduceSub, Array.replicate_succ, Array.replicate_zero, List.push_toArray, List.append_toArray, List.nil_append, List.cons_append]
  gi_wp2_with (refine ⟨trivial, ?_⟩; gi_at_call 31; refine (callsIn_wide.2 (characters_calls _ _)).mono ?_; rintro e w' ⟨rfl, rfl⟩)
  have bA := Boxed.new w 3 (.int .i64 0)
  have bB := Boxed.new (w.alloc (.cells #[.int .i64 0] 3)) 4 (.bool false)
  have bN := Boxed.new ((w.alloc (.cells #[.int .i64 0] 3)).alloc (.cells #[.bool false] 4)) 9 (.string s)
  rw [World.size_alloc] at bB
  rw [World.size_alloc, World.size_alloc] at bN
  have hB0 : Below w.heap.size w (((w.alloc (.cells #[.int .i64 0] 3)).alloc (.cells #[.bool false] 4)).alloc (.cells #[.string s] 9)) := (((Below.refl _ w).alloc (Nat.le_refl _) _).alloc (by simp) _).alloc (by simp; omega) _
  have hcS := bN.cell
  have hcA := ((bA.alloc (.cells #[.bool false] 4)).alloc (.cells #[.string s] 9)).cell
  have hfA := ((bA.alloc (.cells #[.bool false] 4)).alloc (.cells #[.string s] 9)).frozen
  have hcB := (bB.alloc (.cells #[.string s] 9)).cell
  have hfB := (bB.alloc (.cells #[.string s] 9)).frozen
  have hz0 : (((w.alloc (.cells #[.int .i64 0] 3)).alloc (.cells #[.bool false] 4)).alloc (.cells #[.string s] 9)).heap.size = w.heap.size + 3 := by simp
  obtain ⟨W0, hW0⟩ : ∃ W0, ((w.alloc (.cells #[.int .i64 0] 3)).alloc (.cells #[.bool false] 4)).alloc (.cells #[.string s] 9) = W0 := ⟨_, rfl⟩
  rw [hW0] at hcS hcA hfA hcB hfB hz0 hB0 ⊢
  clear hW0 bA bB bN
  have hT0 := hT.below hB0 hsz
  refine wpIn_rangeFunc_ownG rfl h1 (gf := 49) (lb := #[.pointer (some ⟨w.heap.size + 2, 0, none⟩)]) rfl trivial (enters_of Tryd.func49 (by kernel_rfl) rfl)
    (iter_stops 3 (by omega) (w.heap.size + 2) (w.heap.size + 3) s hmax (by omega) (by omega) _ hT0 hcS) belowK_t (belowK_b (by omega)) (Below.refl _ _) (fun _ => rfl)
    (fun pre W => ((∀ x ∈ pre, isBad x = false) ∧ (W.cell? ⟨w.heap.size, 0, none⟩ = some (.int .i64 0) ∧ W.frozen? ⟨w.heap.size, 0, none⟩ = false) ∧ W.cell? ⟨w.heap.size + 1, 0, none⟩ = some (.bool false) ∧ W.frozen? ⟨w.heap.size + 1, 0, none⟩ = false) ∧ Below w.heap.size W0 W)
    (fun c pre W => (c = .ret ∧ ∃ ini x, pre = ini ++ [x] ∧ (∀ y ∈ ini, isBad y = false) ∧ isBad x = true ∧ W.cell? ⟨w.heap.size, 0, none⟩ = some (.int .i64 (x.1 : Int)) ∧ W.cell? ⟨w.heap.size + 1, 0, none⟩ = some (.bool true)) ∧ Below w.heap.size W0 W)
    (OwnFrom.and (Own.from (fun s A B row hs hg hr => ⟨hs.1, ⟨cell_kept hs.2.1.1 hg hr, (frozen_kept hs.2.1.1 hg hr).trans hs.2.1.2⟩, cell_kept hs.2.2.1 hg hr, (frozen_kept hs.2.2.1 hg hr).trans hs.2.2.2⟩) _) (ownFrom_below (by omega) (by omega)))
    (fun c => OwnFrom.and (Own.from (fun s A B row hs hg hr => by obtain ⟨hc, ini, x, e1, e2, e3, e4, e5⟩ := hs; exact ⟨hc, ini, x, e1, e2, e3, cell_kept e4 hg hr, cell_kept e5 hg hr⟩) _) (ownFrom_below (by omega) (by omega)))
    ⟨⟨fun x hx => by simp at hx, ⟨hcA, hfA⟩, hcB, hfB⟩, Below.refl _ _⟩
    (fun x => { tmps := #[.string s, undef, .pointer (some ⟨w.heap.size, 0, none⟩), .pointer (some ⟨w.heap.size + 1, 0, none⟩), .int .i64 (x.1 : Int), .int .i32 x.2, .string s, .func (.func 49) #[] #[.pointer (some ⟨w.heap.size + 2, 0, none⟩)], .int .i64 (x.1 : Int), .int .i32 x.2, undef, undef, undef], defers := [] }) ?assign ?body ?done ?stop
  case assign =>
    intro l x W K hK
    gi_wp2
    exact hK
  case body =>
    rintro l pre x W ⟨⟨hp, ⟨hcA', hfA'⟩, hcB', hfB'⟩, hB⟩ _
    have hszW := hB.size
    by_cases hx : x.2 = -1
    · have hx' : (x.2 == -1) = true := by simp [hx]
      have ho : isBad x = true := hx'
      have HO := Lib.hid ho
      clear hx ho
      gi_wp2
      have h2 := two_cells (W := W) (a := ⟨w.heap.size, 0, none⟩) (b := ⟨w.heap.size + 1, 0, none⟩) (.int .i64 (x.1 : Int)) (.bool true) (show w.heap.size ≠ w.heap.size + 1 by omega) hcA' hcB'
      exact ⟨((KeepsOthers.setCell _ _ _).from _).trans ((KeepsOthers.setCell _ _ _).from _), ⟨rfl, pre, x, rfl, hp, HO.out, h2.1, h2.2⟩, (hB.setCell (p := ⟨w.heap.size, 0, none⟩) (Nat.le_refl _) _).setCell (p := ⟨w.heap.size + 1, 0, none⟩) (show w.heap.size ≤ w.heap.size + 1 by omega) _⟩
    · have hx' : (x.2 == -1) = false := by simp [hx]
      have ho : isBad x = false := hx'
      have HO := Lib.hid ho
      clear hx ho
      gi_wp2
      refine ⟨KeepsFrom.refl _ _, Below.refl _ _, ⟨fun y hy => ?_, ⟨hcA', hfA'⟩, hcB', hfB'⟩, hB⟩
      rcases List.mem_append.1 hy with h | h
      · exact hp y h
      · simp at h
        rw [h]
        exact HO.out
  case done =>
    rintro D ys W hD rfl ⟨⟨hne, ⟨hcA', hfA'⟩, hcB', hfB'⟩, hB⟩ hK
    gi_wp2
    have h2 := two_cells (W := W) (a := ⟨w.heap.size, 0, none⟩) (b := ⟨w.heap.size + 1, 0, none⟩) (.int .i64 0) (.bool false) (show w.heap.size ≠ w.heap.size + 1 by omega) hcA' hcB'
    have hK' := (KeepsOthers.setCell _ ⟨w.heap.size + 1, 0, none⟩ (.bool false)).same D _ ((KeepsOthers.setCell W ⟨w.heap.size, 0, none⟩ (.int .i64 0)).same D _ hK rfl) rfl
    have hB2 := (hB.setCell (p := ⟨w.heap.size, 0, none⟩) (Nat.le_refl _) (.int .i64 0)).setCell (p := ⟨w.heap.size + 1, 0, none⟩) (show w.heap.size ≤ w.heap.size + 1 by omega) (.bool false)
    obtain ⟨W2, hW2⟩ : ∃ W2, (W.setCell ⟨w.heap.size, 0, none⟩ (.int .i64 0)).setCell ⟨w.heap.size + 1, 0, none⟩ (.bool false) = W2 := ⟨_, rfl⟩
    rw [hW2] at h2 hK' hB2 ⊢
    refine ⟨by simp, .inl ⟨_, _, rfl, run_takeDeferred hK', ?_⟩⟩
    have hc5 := cell_kept h2.1 (grownBy_putObj' _ D (.deferred none)) (fun r e => by cases e; exact ⟨_, hK', rfl⟩)
    have hc6 := cell_kept h2.2 (grownBy_putObj' _ D (.deferred none)) (fun r e => by cases e; exact ⟨_, hK', rfl⟩)
    refine ⟨.tuple #[.int .i64 0, .bool false], ?_, ret_ib (bad_none hne).1.symm (bad_none hne).2.symm, hB0.trans (hB2.trans (belowK_b (w := w) (Nat.le_refl _) _ D _ _ (by omega) hK' rfl rfl))⟩
    simp [results, Tryd.f40, go_sem, hc5, hc6]
  case stop =>
    rintro D c pre W hD hpre ⟨⟨rfl, ini, x, rfl, e2, e3, e4, e5⟩, hB⟩ hK
    obtain ⟨t, ht⟩ := hpre
    have hbad := bad_some ht.symm e2 e3
    gi_wp2
    refine ⟨by simp, .inl ⟨_, _, rfl, run_takeDeferred hK, ?_⟩⟩
    have hc5 := cell_kept e4 (grownBy_putObj' _ D (.deferred none)) (fun r e => by cases e; exact ⟨_, hK, rfl⟩)
    have hc6 := cell_kept e5 (grownBy_putObj' _ D (.deferred none)) (fun r e => by cases e; exact ⟨_, hK, rfl⟩)
    refine ⟨.tuple #[.int .i64 (x.1 : Int), .bool true], ?_, ret_ib hbad.1.symm hbad.2.symm, hB0.trans (hB.trans (belowK_b (w := w) (Nat.le_refl _) W D _ _ (by omega) hK rfl rfl))⟩
    simp [results, Tryd.f40, go_sem, hc5, hc6]
end Go.Proofs.YtiefpdoefdldpaaDoor
