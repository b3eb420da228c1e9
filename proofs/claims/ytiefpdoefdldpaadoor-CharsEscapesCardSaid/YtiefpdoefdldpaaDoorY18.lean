/- The reference's character of an escape, at the words with a name. -/
import Derived.Test.YtiefpdoefdldpaaDoorY17
namespace Go.Proofs.YtiefpdoefdldpaaDoor
open Go.RowKit

def RePost (E : Int) (w : World) (e : Ending) (w' : World) : Prop :=
  e = .returned (.tuple #[.int .i32 (if E = -1 then 0 else E), .bool (E != -1)]) ∧ Below w.heap.size w w'

/-- The cells of the reference's words and characters. -/
structure RW (a : Nat) (W : World) : Prop where
  w0 : W.cell? ⟨a, 0, none⟩ = some (.string ⟨#[108, 116]⟩)
  w1 : W.cell? ⟨a, 1, none⟩ = some (.string ⟨#[103, 116]⟩)
  w2 : W.cell? ⟨a, 2, none⟩ = some (.string ⟨#[97, 109, 112]⟩)
  w3 : W.cell? ⟨a, 3, none⟩ = some (.string ⟨#[113, 117, 111, 116]⟩)
  w4 : W.cell? ⟨a, 4, none⟩ = some (.string ⟨#[97, 112, 111, 115]⟩)
  c0 : W.cell? ⟨a + 1, 0, none⟩ = some (.int .i32 60)
  c1 : W.cell? ⟨a + 1, 1, none⟩ = some (.int .i32 62)
  c2 : W.cell? ⟨a + 1, 2, none⟩ = some (.int .i32 38)
  c3 : W.cell? ⟨a + 1, 3, none⟩ = some (.int .i32 34)
  c4 : W.cell? ⟨a + 1, 4, none⟩ = some (.int .i32 39)

theorem rw_start (w : World) : RW w.heap.size ((w.alloc (.cells #[.string ⟨#[108, 116]⟩, .string ⟨#[103, 116]⟩, .string ⟨#[97, 109, 112]⟩, .string ⟨#[113, 117, 111, 116]⟩, .string ⟨#[97, 112, 111, 115]⟩] 81)).alloc (.cells #[.int .i32 60, .int .i32 62, .int .i32 38, .int .i32 34, .int .i32 39] 82)) :=
  ⟨(World.cell?_alloc2_first _ _ _ _).trans rfl, (World.cell?_alloc2_first _ _ _ _).trans rfl, (World.cell?_alloc2_first _ _ _ _).trans rfl, (World.cell?_alloc2_first _ _ _ _).trans rfl, (World.cell?_alloc2_first _ _ _ _).trans rfl,
   (World.cell?_alloc2_new _ _ _ _).trans rfl, (World.cell?_alloc2_new _ _ _ _).trans rfl, (World.cell?_alloc2_new _ _ _ _).trans rfl, (World.cell?_alloc2_new _ _ _ _).trans rfl, (World.cell?_alloc2_new _ _ _ _).trans rfl⟩
def rword : Nat → List UInt8
  | 0 => [108, 116] | 1 => [103, 116] | 2 => [97, 109, 112] | 3 => [113, 117, 111, 116] | _ => [97, 112, 111, 115]
def rchar : Nat → Int
  | 0 => 60 | 1 => 62 | 2 => 38 | 3 => 34 | _ => 39

set_option maxRecDepth 100000 in
set_option maxHeartbeats 4000000 in
theorem rescaped_named (s : ByteArray) (i : Nat) (hi : i < 5) (hL : s.toList = rword i) (w : World) :
    Calls Tryd.prog 44 #[.string s] w fun e w' => e = .returned (.tuple #[.int .i32 (rchar i), .bool true]) ∧ Below w.heap.size w w' := by
  have f0 : (s.toList == [108, 116]) = decide (i = 0) := by
    rw [hL]
    have : i = 0 ∨ i = 1 ∨ i = 2 ∨ i = 3 ∨ i = 4 := by omega
    rcases this with rfl | rfl | rfl | rfl | rfl <;> decide
  have f1 : (s.toList == [103, 116]) = decide (i = 1) := by
    rw [hL]
    have : i = 0 ∨ i = 1 ∨ i = 2 ∨ i = 3 ∨ i = 4 := by omega
    rcases this with rfl | rfl | rfl | rfl | rfl <;> decide
  have f2 : (s.toList == [97, 109, 112]) = decide (i = 2) := by
    rw [hL]
    have : i = 0 ∨ i = 1 ∨ i = 2 ∨ i = 3 ∨ i = 4 := by omega
    rcases this with rfl | rfl | rfl | rfl | rfl <;> decide
  have f3 : (s.toList == [113, 117, 111, 116]) = decide (i = 3) := by
    rw [hL]
    have : i = 0 ∨ i = 1 ∨ i = 2 ∨ i = 3 ∨ i = 4 := by omega
    rcases this with rfl | rfl | rfl | rfl | rfl <;> decide
  have f4 : (s.toList == [97, 112, 111, 115]) = decide (i = 4) := by
    rw [hL]
    have : i = 0 ∨ i = 1 ∨ i = 2 ∨ i = 3 ∨ i = 4 := by omega
    rcases this with rfl | rfl | rfl | rfl | rfl <;> decide
  clear hL
  go_enter Tryd.func44, Tryd.ntmps44
  go_wp2
  go_loopg [6] 6 (fun gk v6 wr => ∃ k : Nat, v6 = .int .i64 (k : Int) ∧ k ≤ i ∧ gk + k = 6 ∧ Below w.heap.size w wr ∧ RW w.heap.size wr)
  case atStart =>
    refine ⟨0, rfl, Nat.zero_le _, rfl, ((Below.refl _ _).alloc (Nat.le_refl _) _).alloc (by simp) _, rw_start w⟩
  case round =>
    obtain ⟨k, rfl, hk, hgk, hB, hW⟩ := hrel
    obtain ⟨g0, g1, g2, g3, g4, h0, h1, h2, h3, h4⟩ := hW
    by_cases hki : k = i
    · have hcase : i = 0 ∨ i = 1 ∨ i = 2 ∨ i = 3 ∨ i = 4 := by omega
      subst hki
      rcases hcase with rfl | rfl | rfl | rfl | rfl
      · have e : (s.toList == [108, 116]) = true := f0
        clear f0 f1 f2 f3 f4 hi hk
        go_wp2
        go_ret2
        exact ⟨rfl, hB⟩
      · have e : (s.toList == [103, 116]) = true := f1
        clear f0 f1 f2 f3 f4 hi hk
        go_wp2
        go_ret2
        exact ⟨rfl, hB⟩
      · have e : (s.toList == [97, 109, 112]) = true := f2
        clear f0 f1 f2 f3 f4 hi hk
        go_wp2
        go_ret2
        exact ⟨rfl, hB⟩
      · have e : (s.toList == [113, 117, 111, 116]) = true := f3
        clear f0 f1 f2 f3 f4 hi hk
        go_wp2
        go_ret2
        exact ⟨rfl, hB⟩
      · have e : (s.toList == [97, 112, 111, 115]) = true := f4
        clear f0 f1 f2 f3 f4 hi hk
        go_wp2
        go_ret2
        exact ⟨rfl, hB⟩
    · have hcase : k = 0 ∨ k = 1 ∨ k = 2 ∨ k = 3 := by omega
      have hW : RW w.heap.size wr := ⟨g0, g1, g2, g3, g4, h0, h1, h2, h3, h4⟩
      have HW := Lib.hid hW
      clear hW
      rcases hcase with rfl | rfl | rfl | rfl
      · have e : (s.toList == [108, 116]) = false := f0.trans (decide_eq_false (fun h => hki h.symm))
        have hk2 : 1 ≤ i := by omega
        clear f0 f1 f2 f3 f4 hk hki
        go_wp2
        go_roundg 5
        case measure => omega
        case rel => exact ⟨1, rfl, hk2, rfl, hB, HW.out⟩
      · have e : (s.toList == [103, 116]) = false := f1.trans (decide_eq_false (fun h => hki h.symm))
        have hk2 : 2 ≤ i := by omega
        clear f0 f1 f2 f3 f4 hk hki
        go_wp2
        go_roundg 4
        case measure => omega
        case rel => exact ⟨2, rfl, hk2, rfl, hB, HW.out⟩
      · have e : (s.toList == [97, 109, 112]) = false := f2.trans (decide_eq_false (fun h => hki h.symm))
        have hk2 : 3 ≤ i := by omega
        clear f0 f1 f2 f3 f4 hk hki
        go_wp2
        go_roundg 3
        case measure => omega
        case rel => exact ⟨3, rfl, hk2, rfl, hB, HW.out⟩
      · have e : (s.toList == [113, 117, 111, 116]) = false := f3.trans (decide_eq_false (fun h => hki h.symm))
        have hk2 : 4 ≤ i := by omega
        clear f0 f1 f2 f3 f4 hk hki
        go_wp2
        go_roundg 2
        case measure => omega
        case rel => exact ⟨4, rfl, hk2, rfl, hB, HW.out⟩
end Go.Proofs.YtiefpdoefdldpaaDoor
