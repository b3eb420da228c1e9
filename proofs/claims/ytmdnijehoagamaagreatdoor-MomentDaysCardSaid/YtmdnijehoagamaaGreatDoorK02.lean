/- M P Q R S T U -/
import Derived.Deep.RegionHeld3
import Derived.Test.YtmdnijehoagamaaGreatDoorK01
set_option linter.unusedVariables false
set_option linter.unusedSimpArgs false
namespace Go.Proofs.YtmdnijehoagamaaGreatDoor
set_option maxRecDepth 100000
set_option maxHeartbeats 4000000
open Go.RowKit
theorem three_all {w W : World} {a0 a1 a2 b0 b1 b2 c0 c1 c2 : Value} {T : TypeId} (hB : Below (((w.alloc (.cells #[a0, a1, a2] T)).alloc (.cells #[b0, b1, b2] T)).alloc (.cells #[c0, c1, c2] T)).heap.size (((w.alloc (.cells #[a0, a1, a2] T)).alloc (.cells #[b0, b1, b2] T)).alloc (.cells #[c0, c1, c2] T)) W) :
  W.cell? ⟨w.heap.size, 0, none⟩ = some a0 ∧ W.cell? ⟨w.heap.size, 1, none⟩ = some a1 ∧ W.cell? ⟨w.heap.size, 2, none⟩ = some a2 ∧ W.cell? ⟨w.heap.size + 1, 0, none⟩ = some b0 ∧ W.cell? ⟨w.heap.size + 1, 1, none⟩ = some b1 ∧ W.cell? ⟨w.heap.size + 1, 2, none⟩ = some b2 ∧ W.cell? ⟨w.heap.size + 1 + 1, 0, none⟩ = some c0 ∧ W.cell? ⟨w.heap.size + 1 + 1, 1, none⟩ = some c1 ∧ W.cell? ⟨w.heap.size + 1 + 1, 2, none⟩ = some c2 ∧ W.frozen? ⟨w.heap.size + 1 + 1, 0, none⟩ = false ∧ W.frozen? ⟨w.heap.size + 1 + 1, 1, none⟩ = false ∧ W.frozen? ⟨w.heap.size + 1 + 1, 2, none⟩ = false ∧ Below w.heap.size w W ∧ w.heap.size + 3 ≤ W.heap.size := by
 have hz : (((w.alloc (.cells #[a0, a1, a2] T)).alloc (.cells #[b0, b1, b2] T)).alloc (.cells #[c0, c1, c2] T)).heap.size = w.heap.size + 3 := by simp
 have z1 : (w.alloc (.cells #[a0, a1, a2] T)).heap.size = w.heap.size + 1 := by simp
 have z2 : ((w.alloc (.cells #[a0, a1, a2] T)).alloc (.cells #[b0, b1, b2] T)).heap.size = w.heap.size + 1 + 1 := by simp
 refine ⟨?_, ?_, ?_, ?_, ?_, ?_, ?_, ?_, ?_, ?_, ?_, ?_, ?_, ?_⟩
 ·rw [hB.cell (p := ⟨w.heap.size, 0, none⟩) (by show w.heap.size < _; omega), World.cell?_alloc_past _ _ _ (by omega), World.cell?_alloc_past _ _ _ (by omega), World.cell?_alloc_at _ _ _ _ rfl]
  rfl
 ·rw [hB.cell (p := ⟨w.heap.size, 1, none⟩) (by show w.heap.size < _; omega), World.cell?_alloc_past _ _ _ (by omega), World.cell?_alloc_past _ _ _ (by omega), World.cell?_alloc_at _ _ _ _ rfl]
  rfl
 ·rw [hB.cell (p := ⟨w.heap.size, 2, none⟩) (by show w.heap.size < _; omega), World.cell?_alloc_past _ _ _ (by omega), World.cell?_alloc_past _ _ _ (by omega), World.cell?_alloc_at _ _ _ _ rfl]
  rfl
 ·rw [hB.cell (p := ⟨w.heap.size + 1, 0, none⟩) (by show w.heap.size + 1 < _; omega), World.cell?_alloc_past _ _ _ (by omega), World.cell?_alloc_at _ _ _ _ z1.symm]
  rfl
 ·rw [hB.cell (p := ⟨w.heap.size + 1, 1, none⟩) (by show w.heap.size + 1 < _; omega), World.cell?_alloc_past _ _ _ (by omega), World.cell?_alloc_at _ _ _ _ z1.symm]
  rfl
 ·rw [hB.cell (p := ⟨w.heap.size + 1, 2, none⟩) (by show w.heap.size + 1 < _; omega), World.cell?_alloc_past _ _ _ (by omega), World.cell?_alloc_at _ _ _ _ z1.symm]
  rfl
 ·rw [hB.cell (p := ⟨w.heap.size + 1 + 1, 0, none⟩) (by show w.heap.size + 1 + 1 < _; omega), World.cell?_alloc_at _ _ _ _ z2.symm]
  rfl
 ·rw [hB.cell (p := ⟨w.heap.size + 1 + 1, 1, none⟩) (by show w.heap.size + 1 + 1 < _; omega), World.cell?_alloc_at _ _ _ _ z2.symm]
  rfl
 ·rw [hB.cell (p := ⟨w.heap.size + 1 + 1, 2, none⟩) (by show w.heap.size + 1 + 1 < _; omega), World.cell?_alloc_at _ _ _ _ z2.symm]
  rfl
 ·rw [hB.frozen (p := ⟨w.heap.size + 1 + 1, 0, none⟩) (by show w.heap.size + 1 + 1 < _; omega), World.frozen?_alloc_at _ _ _ _ z2.symm]
 ·rw [hB.frozen (p := ⟨w.heap.size + 1 + 1, 1, none⟩) (by show w.heap.size + 1 + 1 < _; omega), World.frozen?_alloc_at _ _ _ _ z2.symm]
 ·rw [hB.frozen (p := ⟨w.heap.size + 1 + 1, 2, none⟩) (by show w.heap.size + 1 + 1 < _; omega), World.frozen?_alloc_at _ _ _ _ z2.symm]
 ·exact ((((Below.refl _ _).alloc (Nat.le_refl _) _).alloc (by simp) _).alloc (by simp; omega) _).trans (hB.mono (by omega))
 ·have := hB.size
  omega
theorem check_val (neg : Bool) (ds : ByteArray) (sc : Int) (hz : ds.size ≤ maxLen) (w : World) (r : Int) (h : chkR ⟨neg, ds, sc⟩ = r) :
  Calls Tryz.prog 47 #[.agg #[.bool neg, .string ds, .int .i64 sc]] w fun e w' => e = .returned (.int .i64 r) ∧ Below w.heap.size w w' := by
 rw [← h]
 exact check_any neg ds sc hz w
end Go.Proofs.YtmdnijehoagamaaGreatDoor
namespace Go.Proofs.YtmdnijehoagamaaGreatDoor
open Go.RowKit
structure ResAt (w W : World) : Prop where
 r0 : ∃ v, W.cell? ⟨w.heap.size + 1 + 1, 0, none⟩ = some v
 r1 : ∃ v, W.cell? ⟨w.heap.size + 1 + 1, 1, none⟩ = some v
 r2 : ∃ v, W.cell? ⟨w.heap.size + 1 + 1, 2, none⟩ = some v
 f0 : W.frozen? ⟨w.heap.size + 1 + 1, 0, none⟩ = false
 f1 : W.frozen? ⟨w.heap.size + 1 + 1, 1, none⟩ = false
 f2 : W.frozen? ⟨w.heap.size + 1 + 1, 2, none⟩ = false
 below : Below w.heap.size w W
 size : w.heap.size + 3 ≤ W.heap.size
theorem ResAt.call {w W W' : World} (h : ResAt w W) (hB : Below W.heap.size W W') : ResAt w W' := by
 obtain ⟨⟨v0, h0⟩, ⟨v1, h1⟩, ⟨v2, h2⟩, f0, f1, f2, hb, hz⟩ := h
 have key : w.heap.size + 1 + 1 < W.heap.size := by omega
 exact ⟨⟨v0, (hB.cell (p := ⟨w.heap.size + 1 + 1, 0, none⟩) key).trans h0⟩, ⟨v1, (hB.cell (p := ⟨w.heap.size + 1 + 1, 1, none⟩) key).trans h1⟩, ⟨v2, (hB.cell (p := ⟨w.heap.size + 1 + 1, 2, none⟩) key).trans h2⟩,
  (hB.frozen (p := ⟨w.heap.size + 1 + 1, 0, none⟩) key).trans f0, (hB.frozen (p := ⟨w.heap.size + 1 + 1, 1, none⟩) key).trans f1, (hB.frozen (p := ⟨w.heap.size + 1 + 1, 2, none⟩) key).trans f2, hb.trans (hB.mono (by omega)), Nat.le_trans hz hB.size⟩
theorem ResAt.set {w W : World} (h : ResAt w W) (j : Nat) (u : Value) : ResAt w (W.setCell ⟨w.heap.size + 1 + 1, j, none⟩ u) := by
 obtain ⟨⟨v0, h0⟩, ⟨v1, h1⟩, ⟨v2, h2⟩, f0, f1, f2, hb, hz⟩ := h
 have key : ∀ k v, W.cell? ⟨w.heap.size + 1 + 1, k, none⟩ = some v → ∃ v', (W.setCell ⟨w.heap.size + 1 + 1, j, none⟩ u).cell? ⟨w.heap.size + 1 + 1, k, none⟩ = some v' := fun k v hv => by
  by_cases hjk : j = k
  ·subst hjk
   exact ⟨u, World.cell?_setCell_same _ _ _ hv⟩
  ·exact ⟨v, (World.cell?_setCell_other _ _ _ _ (fun e => hjk (by cases e; rfl))).trans hv⟩
 exact ⟨key 0 _ h0, key 1 _ h1, key 2 _ h2, by rw [World.frozen?_setCell]; exact f0, by rw [World.frozen?_setCell]; exact f1, by rw [World.frozen?_setCell]; exact f2, hb.setCell (by show w.heap.size ≤ w.heap.size + 1 + 1; omega) _, by
  show w.heap.size + 3 ≤ (W.setCell ⟨w.heap.size + 1 + 1, j, none⟩ u).heap.size
  rw [World.size_setCell]
  exact hz⟩
theorem mul_call {w W W' : World} {a0 a1 a2 b0 b1 b2 : Value} (h : W.cell? ⟨w.heap.size, 0, none⟩ = some a0 ∧ W.cell? ⟨w.heap.size, 1, none⟩ = some a1 ∧ W.cell? ⟨w.heap.size, 2, none⟩ = some a2 ∧ W.cell? ⟨w.heap.size + 1, 0, none⟩ = some b0 ∧ W.cell? ⟨w.heap.size + 1, 1, none⟩ = some b1 ∧ W.cell? ⟨w.heap.size + 1, 2, none⟩ = some b2 ∧ ResAt w W) (hB : Below W.heap.size W W') : W'.cell? ⟨w.heap.size, 0, none⟩ = some a0 ∧ W'.cell? ⟨w.heap.size, 1, none⟩ = some a1 ∧ W'.cell? ⟨w.heap.size, 2, none⟩ = some a2 ∧ W'.cell? ⟨w.heap.size + 1, 0, none⟩ = some b0 ∧ W'.cell? ⟨w.heap.size + 1, 1, none⟩ = some b1 ∧ W'.cell? ⟨w.heap.size + 1, 2, none⟩ = some b2 ∧ ResAt w W' := by
 obtain ⟨h0, h1, h2, k0, k1, k2, hR⟩ := h
 have hz := hR.size
 exact ⟨(hB.cell (p := ⟨w.heap.size, 0, none⟩) (by show w.heap.size < _; omega)).trans h0, (hB.cell (p := ⟨w.heap.size, 1, none⟩) (by show w.heap.size < _; omega)).trans h1, (hB.cell (p := ⟨w.heap.size, 2, none⟩) (by show w.heap.size < _; omega)).trans h2, (hB.cell (p := ⟨w.heap.size + 1, 0, none⟩) (by show w.heap.size + 1 < _; omega)).trans k0, (hB.cell (p := ⟨w.heap.size + 1, 1, none⟩) (by show w.heap.size + 1 < _; omega)).trans k1, (hB.cell (p := ⟨w.heap.size + 1, 2, none⟩) (by show w.heap.size + 1 < _; omega)).trans k2, hR.call hB⟩
theorem mul_set {w W : World} {a0 a1 a2 b0 b1 b2 : Value} (h : W.cell? ⟨w.heap.size, 0, none⟩ = some a0 ∧ W.cell? ⟨w.heap.size, 1, none⟩ = some a1 ∧ W.cell? ⟨w.heap.size, 2, none⟩ = some a2 ∧ W.cell? ⟨w.heap.size + 1, 0, none⟩ = some b0 ∧ W.cell? ⟨w.heap.size + 1, 1, none⟩ = some b1 ∧ W.cell? ⟨w.heap.size + 1, 2, none⟩ = some b2 ∧ ResAt w W) (j : Nat) (u : Value) : (W.setCell ⟨w.heap.size + 1 + 1, j, none⟩ u).cell? ⟨w.heap.size, 0, none⟩ = some a0 ∧ (W.setCell ⟨w.heap.size + 1 + 1, j, none⟩ u).cell? ⟨w.heap.size, 1, none⟩ = some a1 ∧ (W.setCell ⟨w.heap.size + 1 + 1, j, none⟩ u).cell? ⟨w.heap.size, 2, none⟩ = some a2 ∧ (W.setCell ⟨w.heap.size + 1 + 1, j, none⟩ u).cell? ⟨w.heap.size + 1, 0, none⟩ = some b0 ∧ (W.setCell ⟨w.heap.size + 1 + 1, j, none⟩ u).cell? ⟨w.heap.size + 1, 1, none⟩ = some b1 ∧ (W.setCell ⟨w.heap.size + 1 + 1, j, none⟩ u).cell? ⟨w.heap.size + 1, 2, none⟩ = some b2 ∧ ResAt w (W.setCell ⟨w.heap.size + 1 + 1, j, none⟩ u) := by
 obtain ⟨h0, h1, h2, k0, k1, k2, hR⟩ := h
 refine ⟨(World.cell?_setCell_far _ _ _ _ (by show w.heap.size + 1 + 1 ≠ w.heap.size; omega)).trans h0, (World.cell?_setCell_far _ _ _ _ (by show w.heap.size + 1 + 1 ≠ w.heap.size; omega)).trans h1, (World.cell?_setCell_far _ _ _ _ (by show w.heap.size + 1 + 1 ≠ w.heap.size; omega)).trans h2, (World.cell?_setCell_far _ _ _ _ (by show w.heap.size + 1 + 1 ≠ w.heap.size + 1; omega)).trans k0, (World.cell?_setCell_far _ _ _ _ (by show w.heap.size + 1 + 1 ≠ w.heap.size + 1; omega)).trans k1, (World.cell?_setCell_far _ _ _ _ (by show w.heap.size + 1 + 1 ≠ w.heap.size + 1; omega)).trans k2, hR.set j u⟩
end Go.Proofs.YtmdnijehoagamaaGreatDoor
namespace Go.Proofs.YtmdnijehoagamaaGreatDoor
set_option maxRecDepth 100000
set_option maxHeartbeats 4000000
open Go.RowKit
def divSpec (neg1 : Bool) (n s : Nat) (neg2 : Bool) (m t k : Nat) : Option Dec := mkDec (neg1 != neg2) (n * 10 ^ (max s t - s) * 10 ^ k / (m * 10 ^ (max s t - t))) k
end Go.Proofs.YtmdnijehoagamaaGreatDoor
namespace Go.Proofs.YtmdnijehoagamaaGreatDoor
set_option maxRecDepth 100000
set_option maxHeartbeats 2000000
open Go.RowKit
theorem two_all {w W : World} {a0 a1 a2 c0 c1 c2 : Value} {T : TypeId} (hB : Below ((w.alloc (.cells #[a0, a1, a2] T)).alloc (.cells #[c0, c1, c2] T)).heap.size ((w.alloc (.cells #[a0, a1, a2] T)).alloc (.cells #[c0, c1, c2] T)) W) :
  W.cell? ⟨w.heap.size, 0, none⟩ = some a0 ∧ W.cell? ⟨w.heap.size, 1, none⟩ = some a1 ∧ W.cell? ⟨w.heap.size, 2, none⟩ = some a2 ∧ W.cell? ⟨w.heap.size + 1, 0, none⟩ = some c0 ∧ W.cell? ⟨w.heap.size + 1, 1, none⟩ = some c1 ∧ W.cell? ⟨w.heap.size + 1, 2, none⟩ = some c2 ∧
  W.frozen? ⟨w.heap.size + 1, 0, none⟩ = false ∧ W.frozen? ⟨w.heap.size + 1, 1, none⟩ = false ∧ W.frozen? ⟨w.heap.size + 1, 2, none⟩ = false ∧ Below w.heap.size w W ∧ w.heap.size + 2 ≤ W.heap.size := by
 have hz : ((w.alloc (.cells #[a0, a1, a2] T)).alloc (.cells #[c0, c1, c2] T)).heap.size = w.heap.size + 2 := by simp
 have z1 : (w.alloc (.cells #[a0, a1, a2] T)).heap.size = w.heap.size + 1 := by simp
 refine ⟨?_, ?_, ?_, ?_, ?_, ?_, ?_, ?_, ?_, ?_, ?_⟩
 ·rw [hB.cell (p := ⟨w.heap.size, 0, none⟩) (by show w.heap.size < _; omega), World.cell?_alloc_past _ _ _ (by omega), World.cell?_alloc_at _ _ _ _ rfl]
  rfl
 ·rw [hB.cell (p := ⟨w.heap.size, 1, none⟩) (by show w.heap.size < _; omega), World.cell?_alloc_past _ _ _ (by omega), World.cell?_alloc_at _ _ _ _ rfl]
  rfl
 ·rw [hB.cell (p := ⟨w.heap.size, 2, none⟩) (by show w.heap.size < _; omega), World.cell?_alloc_past _ _ _ (by omega), World.cell?_alloc_at _ _ _ _ rfl]
  rfl
 ·rw [hB.cell (p := ⟨w.heap.size + 1, 0, none⟩) (by show w.heap.size + 1 < _; omega), World.cell?_alloc_at _ _ _ _ z1.symm]
  rfl
 ·rw [hB.cell (p := ⟨w.heap.size + 1, 1, none⟩) (by show w.heap.size + 1 < _; omega), World.cell?_alloc_at _ _ _ _ z1.symm]
  rfl
 ·rw [hB.cell (p := ⟨w.heap.size + 1, 2, none⟩) (by show w.heap.size + 1 < _; omega), World.cell?_alloc_at _ _ _ _ z1.symm]
  rfl
 ·rw [hB.frozen (p := ⟨w.heap.size + 1, 0, none⟩) (by show w.heap.size + 1 < _; omega), World.frozen?_alloc_at _ _ _ _ z1.symm]
 ·rw [hB.frozen (p := ⟨w.heap.size + 1, 1, none⟩) (by show w.heap.size + 1 < _; omega), World.frozen?_alloc_at _ _ _ _ z1.symm]
 ·rw [hB.frozen (p := ⟨w.heap.size + 1, 2, none⟩) (by show w.heap.size + 1 < _; omega), World.frozen?_alloc_at _ _ _ _ z1.symm]
 ·exact (((Below.refl _ _).alloc (Nat.le_refl _) _).alloc (by simp) _).trans (hB.mono (by omega))
 ·have := hB.size
  omega
end Go.Proofs.YtmdnijehoagamaaGreatDoor
namespace Go.Proofs.YtmdnijehoagamaaGreatDoor
set_option maxRecDepth 100000
set_option maxHeartbeats 4000000
open Go.RowKit
theorem two_both {w W : World} {a0 a1 a2 b0 b1 b2 : Value} {T : TypeId} (hB : Below ((w.alloc (.cells #[a0, a1, a2] T)).alloc (.cells #[b0, b1, b2] T)).heap.size ((w.alloc (.cells #[a0, a1, a2] T)).alloc (.cells #[b0, b1, b2] T)) W) :
  W.cell? ⟨w.heap.size, 0, none⟩ = some a0 ∧ W.cell? ⟨w.heap.size, 1, none⟩ = some a1 ∧ W.cell? ⟨w.heap.size, 2, none⟩ = some a2 ∧ W.cell? ⟨w.heap.size + 1, 0, none⟩ = some b0 ∧ W.cell? ⟨w.heap.size + 1, 1, none⟩ = some b1 ∧ W.cell? ⟨w.heap.size + 1, 2, none⟩ = some b2 ∧ Below w.heap.size w W := by
 obtain ⟨h0, h1, h2, k0, k1, k2, _, _, _, hb, _⟩ := two_all hB
 exact ⟨h0, h1, h2, k0, k1, k2, hb⟩
def cmpSpec (neg1 : Bool) (x : Nat) (neg2 : Bool) (y : Nat) : Int := if (neg1 && !neg2 || (neg1 == neg2 && (decide (x < y) != neg1))) = true then -1 else 1
theorem cmp_eq (neg : Bool) (a : ByteArray) (s n : Nat) (ha : IsDec ⟨neg, a, (s : Int)⟩ n s) (w : World) :
  Calls Tryz.prog 87 #[.agg #[.bool neg, .string a, .int .i64 (s : Int)], .agg #[.bool neg, .string a, .int .i64 (s : Int)]] w fun e w' =>
   e = .returned (.tuple #[.int .i64 0, .int .i64 0]) ∧ Below w.heap.size w w' := by
 have za : a.size ≤ 60 := by rw [show a = numS n from ha.ds, numS_size]; exact ha.len
 have c1 := fun W => check_val neg a (s : Int) (by unfold maxLen; omega) W 0 (chkR_ok ⟨n, s, ha⟩)
 clear ha za
 go_enter Tryz.func87, Tryz.ntmps87
 go_wp2_with fail
 refine (c1 _).mono ?_
 rintro e w1 ⟨rfl, b1⟩
 obtain ⟨x0, x1, x2, y0, y1, y2, hB⟩ := two_both b1
 go_wp2_with fail
 refine (c1 _).mono ?_
 rintro e w2 ⟨rfl, b2⟩
 have b12 := b1.trans (b2.mono b1.size)
 clear x0 x1 x2 y0 y1 y2 hB b1 b2 c1
 obtain ⟨x0, x1, x2, y0, y1, y2, hB⟩ := two_both b12
 go_wp2
 go_ret2
 exact ⟨rfl, hB⟩
theorem cmp_tf (a b : ByteArray) (s t n m : Nat) (ha : IsDec ⟨true, a, (s : Int)⟩ n s) (hb : IsDec ⟨false, b, (t : Int)⟩ m t) (w : World) :
  Calls Tryz.prog 87 #[.agg #[.bool true, .string a, .int .i64 (s : Int)], .agg #[.bool false, .string b, .int .i64 (t : Int)]] w fun e w' =>
   e = .returned (.tuple #[.int .i64 (cmpSpec true (n * 10 ^ (max s t - s)) false (m * 10 ^ (max s t - t))), .int .i64 0]) ∧ Below w.heap.size w w' := by
 have za : a.size ≤ 60 := by rw [show a = numS n from ha.ds, numS_size]; exact ha.len
 have zb : b.size ≤ 60 := by rw [show b = numS m from hb.ds, numS_size]; exact hb.len
 have c1 := fun W => check_val true a (s : Int) (by unfold maxLen; omega) W 0 (chkR_ok ⟨n, s, ha⟩)
 have c2 := fun W => check_val false b (t : Int) (by unfold maxLen; omega) W 0 (chkR_ok ⟨m, t, hb⟩)
 have hs := ha.le
 have ht := hb.le
 have cS := fun W => same_any true false a b s t (by omega) (by omega) (by omega) (by omega) W
 have ix := num_zeros ha.num (max s t - s)
 have iy := num_zeros hb.num (max s t - t)
 have zx : (a ++ zs (max s t - s)).size ≤ 3000 := by rw [app_size, zs_size]; omega
 have zy : (b ++ zs (max s t - t)).size ≤ 3000 := by rw [app_size, zs_size]; omega
 simp only at ix iy
 generalize n * 10 ^ (max s t - s) = x at ix ⊢
 generalize m * 10 ^ (max s t - t) = y at iy ⊢
 generalize a ++ zs (max s t - s) = X at *
 generalize b ++ zs (max s t - t) = Y at *
 have cL := fun W => less_num ix iy (by unfold maxLen; omega) (by unfold maxLen; omega) W
 unfold cmpSpec
 generalize decide (x < y) = q at cL ⊢
 clear ha hb za zb hs ht ix iy zx zy
 go_enter Tryz.func87, Tryz.ntmps87
 go_wp2_with fail
 refine (c1 _).mono ?_
 rintro e w1 ⟨rfl, b1⟩
 obtain ⟨x0, x1, x2, y0, y1, y2, hB⟩ := two_both b1
 clear c1
 go_wp2_with fail
 refine (c2 _).mono ?_
 rintro e w2 ⟨rfl, b2⟩
 have b12 := b1.trans (b2.mono b1.size)
 clear x0 x1 x2 y0 y1 y2 hB b1 b2 c2
 obtain ⟨x0, x1, x2, y0, y1, y2, hB⟩ := two_both b12
 go_wp2_with fail
 refine (cS _).mono ?_
 rintro e w3 ⟨rfl, b3⟩
 have b13 := b12.trans (b3.mono b12.size)
 clear x0 x1 x2 y0 y1 y2 hB b12 b3 cS
 obtain ⟨x0, x1, x2, y0, y1, y2, hB⟩ := two_both b13
 have HB := Lib.hid hB
 clear b13 hB
 go_wp2_with fail
 go_quiet (fail)
 go_wp2
 go_ret2
 exact ⟨by cases q <;> rfl, below_drewN HB.out _⟩
theorem cmp_ft (a b : ByteArray) (s t n m : Nat) (ha : IsDec ⟨false, a, (s : Int)⟩ n s) (hb : IsDec ⟨true, b, (t : Int)⟩ m t) (w : World) :
  Calls Tryz.prog 87 #[.agg #[.bool false, .string a, .int .i64 (s : Int)], .agg #[.bool true, .string b, .int .i64 (t : Int)]] w fun e w' =>
   e = .returned (.tuple #[.int .i64 (cmpSpec false (n * 10 ^ (max s t - s)) true (m * 10 ^ (max s t - t))), .int .i64 0]) ∧ Below w.heap.size w w' := by
 have za : a.size ≤ 60 := by rw [show a = numS n from ha.ds, numS_size]; exact ha.len
 have zb : b.size ≤ 60 := by rw [show b = numS m from hb.ds, numS_size]; exact hb.len
 have c1 := fun W => check_val false a (s : Int) (by unfold maxLen; omega) W 0 (chkR_ok ⟨n, s, ha⟩)
 have c2 := fun W => check_val true b (t : Int) (by unfold maxLen; omega) W 0 (chkR_ok ⟨m, t, hb⟩)
 have hs := ha.le
 have ht := hb.le
 have cS := fun W => same_any false true a b s t (by omega) (by omega) (by omega) (by omega) W
 have ix := num_zeros ha.num (max s t - s)
 have iy := num_zeros hb.num (max s t - t)
 have zx : (a ++ zs (max s t - s)).size ≤ 3000 := by rw [app_size, zs_size]; omega
 have zy : (b ++ zs (max s t - t)).size ≤ 3000 := by rw [app_size, zs_size]; omega
 simp only at ix iy
 generalize n * 10 ^ (max s t - s) = x at ix ⊢
 generalize m * 10 ^ (max s t - t) = y at iy ⊢
 generalize a ++ zs (max s t - s) = X at *
 generalize b ++ zs (max s t - t) = Y at *
 have cL := fun W => less_num ix iy (by unfold maxLen; omega) (by unfold maxLen; omega) W
 unfold cmpSpec
 generalize decide (x < y) = q at cL ⊢
 clear ha hb za zb hs ht ix iy zx zy
 go_enter Tryz.func87, Tryz.ntmps87
 go_wp2_with fail
 refine (c1 _).mono ?_
 rintro e w1 ⟨rfl, b1⟩
 obtain ⟨x0, x1, x2, y0, y1, y2, hB⟩ := two_both b1
 clear c1
 go_wp2_with fail
 refine (c2 _).mono ?_
 rintro e w2 ⟨rfl, b2⟩
 have b12 := b1.trans (b2.mono b1.size)
 clear x0 x1 x2 y0 y1 y2 hB b1 b2 c2
 obtain ⟨x0, x1, x2, y0, y1, y2, hB⟩ := two_both b12
 go_wp2_with fail
 refine (cS _).mono ?_
 rintro e w3 ⟨rfl, b3⟩
 have b13 := b12.trans (b3.mono b12.size)
 clear x0 x1 x2 y0 y1 y2 hB b12 b3 cS
 obtain ⟨x0, x1, x2, y0, y1, y2, hB⟩ := two_both b13
 have HB := Lib.hid hB
 clear b13 hB
 go_wp2_with fail
 go_quiet (fail)
 go_wp2
 go_ret2
 exact ⟨by cases q <;> rfl, below_drewN HB.out _⟩
theorem cmp_text_t (a b : ByteArray) (s t n m : Nat) (ha : IsDec ⟨true, a, (s : Int)⟩ n s) (hb : IsDec ⟨true, b, (t : Int)⟩ m t) (hne : ¬ a.toList = b.toList) (w : World) :
  Calls Tryz.prog 87 #[.agg #[.bool true, .string a, .int .i64 (s : Int)], .agg #[.bool true, .string b, .int .i64 (t : Int)]] w fun e w' =>
   e = .returned (.tuple #[.int .i64 (cmpSpec true (n * 10 ^ (max s t - s)) true (m * 10 ^ (max s t - t))), .int .i64 0]) ∧ Below w.heap.size w w' := by
 have za : a.size ≤ 60 := by rw [show a = numS n from ha.ds, numS_size]; exact ha.len
 have zb : b.size ≤ 60 := by rw [show b = numS m from hb.ds, numS_size]; exact hb.len
 have c1 := fun W => check_val true a (s : Int) (by unfold maxLen; omega) W 0 (chkR_ok ⟨n, s, ha⟩)
 have c2 := fun W => check_val true b (t : Int) (by unfold maxLen; omega) W 0 (chkR_ok ⟨m, t, hb⟩)
 have hs := ha.le
 have ht := hb.le
 have cS := fun W => same_any true true a b s t (by omega) (by omega) (by omega) (by omega) W
 have ix := num_zeros ha.num (max s t - s)
 have iy := num_zeros hb.num (max s t - t)
 have zx : (a ++ zs (max s t - s)).size ≤ 3000 := by rw [app_size, zs_size]; omega
 have zy : (b ++ zs (max s t - t)).size ≤ 3000 := by rw [app_size, zs_size]; omega
 simp only at ix iy
 generalize n * 10 ^ (max s t - s) = x at ix ⊢
 generalize m * 10 ^ (max s t - t) = y at iy ⊢
 generalize a ++ zs (max s t - s) = X at *
 generalize b ++ zs (max s t - t) = Y at *
 have cL := fun W => less_num ix iy (by unfold maxLen; omega) (by unfold maxLen; omega) W
 unfold cmpSpec
 generalize decide (x < y) = q at cL ⊢
 clear ha hb za zb hs ht ix iy zx zy
 go_enter Tryz.func87, Tryz.ntmps87
 go_wp2_with fail
 refine (c1 _).mono ?_
 rintro e w1 ⟨rfl, b1⟩
 obtain ⟨x0, x1, x2, y0, y1, y2, hB⟩ := two_both b1
 clear c1
 go_wp2_with fail
 refine (c2 _).mono ?_
 rintro e w2 ⟨rfl, b2⟩
 have b12 := b1.trans (b2.mono b1.size)
 clear x0 x1 x2 y0 y1 y2 hB b1 b2 c2
 obtain ⟨x0, x1, x2, y0, y1, y2, hB⟩ := two_both b12
 go_wp2_with fail
 refine (cS _).mono ?_
 rintro e w3 ⟨rfl, b3⟩
 have b13 := b12.trans (b3.mono b12.size)
 clear x0 x1 x2 y0 y1 y2 hB b12 b3 cS
 obtain ⟨x0, x1, x2, y0, y1, y2, hB⟩ := two_both b13
 have HB := Lib.hid hB
 clear b13 hB
 go_wp2_with fail
 go_quiet ((go_at_call 117; exact Calls.quiet_of_same ((cL _).mono fun e w' h => ⟨h.1, h.2.symm⟩)))
 cases q
 all_goals go_wp2
 all_goals go_ret2
 all_goals exact ⟨rfl, below_drewN HB.out _⟩
theorem cmp_scale_t (a : ByteArray) (s t n m : Nat) (ha : IsDec ⟨true, a, (s : Int)⟩ n s) (hb : IsDec ⟨true, a, (t : Int)⟩ m t) (hne : ¬ (s : Int) = (t : Int)) (w : World) :
  Calls Tryz.prog 87 #[.agg #[.bool true, .string a, .int .i64 (s : Int)], .agg #[.bool true, .string a, .int .i64 (t : Int)]] w fun e w' =>
   e = .returned (.tuple #[.int .i64 (cmpSpec true (n * 10 ^ (max s t - s)) true (m * 10 ^ (max s t - t))), .int .i64 0]) ∧ Below w.heap.size w w' := by
 have za : a.size ≤ 60 := by rw [show a = numS n from ha.ds, numS_size]; exact ha.len
 have zb := za
 have c1 := fun W => check_val true a (s : Int) (by unfold maxLen; omega) W 0 (chkR_ok ⟨n, s, ha⟩)
 have c2 := fun W => check_val true a (t : Int) (by unfold maxLen; omega) W 0 (chkR_ok ⟨m, t, hb⟩)
 have hs := ha.le
 have ht := hb.le
 have cS := fun W => same_any true true a a s t (by omega) (by omega) (by omega) (by omega) W
 have ix := num_zeros ha.num (max s t - s)
 have iy := num_zeros hb.num (max s t - t)
 have zx : (a ++ zs (max s t - s)).size ≤ 3000 := by rw [app_size, zs_size]; omega
 have zy : (a ++ zs (max s t - t)).size ≤ 3000 := by rw [app_size, zs_size]; omega
 simp only at ix iy
 generalize n * 10 ^ (max s t - s) = x at ix ⊢
 generalize m * 10 ^ (max s t - t) = y at iy ⊢
 generalize a ++ zs (max s t - s) = X at *
 generalize a ++ zs (max s t - t) = Y at *
 have cL := fun W => less_num ix iy (by unfold maxLen; omega) (by unfold maxLen; omega) W
 unfold cmpSpec
 generalize decide (x < y) = q at cL ⊢
 clear ha hb za zb hs ht ix iy zx zy
 go_enter Tryz.func87, Tryz.ntmps87
 go_wp2_with fail
 refine (c1 _).mono ?_
 rintro e w1 ⟨rfl, b1⟩
 obtain ⟨x0, x1, x2, y0, y1, y2, hB⟩ := two_both b1
 clear c1
 go_wp2_with fail
 refine (c2 _).mono ?_
 rintro e w2 ⟨rfl, b2⟩
 have b12 := b1.trans (b2.mono b1.size)
 clear x0 x1 x2 y0 y1 y2 hB b1 b2 c2
 obtain ⟨x0, x1, x2, y0, y1, y2, hB⟩ := two_both b12
 go_wp2_with fail
 refine (cS _).mono ?_
 rintro e w3 ⟨rfl, b3⟩
 have b13 := b12.trans (b3.mono b12.size)
 clear x0 x1 x2 y0 y1 y2 hB b12 b3 cS
 obtain ⟨x0, x1, x2, y0, y1, y2, hB⟩ := two_both b13
 have HB := Lib.hid hB
 clear b13 hB
 go_wp2_with fail
 go_quiet ((go_at_call 117; exact Calls.quiet_of_same ((cL _).mono fun e w' h => ⟨h.1, h.2.symm⟩)))
 cases q
 all_goals go_wp2
 all_goals go_ret2
 all_goals exact ⟨rfl, below_drewN HB.out _⟩
theorem cmp_text_f (a b : ByteArray) (s t n m : Nat) (ha : IsDec ⟨false, a, (s : Int)⟩ n s) (hb : IsDec ⟨false, b, (t : Int)⟩ m t) (hne : ¬ a.toList = b.toList) (w : World) :
  Calls Tryz.prog 87 #[.agg #[.bool false, .string a, .int .i64 (s : Int)], .agg #[.bool false, .string b, .int .i64 (t : Int)]] w fun e w' =>
   e = .returned (.tuple #[.int .i64 (cmpSpec false (n * 10 ^ (max s t - s)) false (m * 10 ^ (max s t - t))), .int .i64 0]) ∧ Below w.heap.size w w' := by
 have za : a.size ≤ 60 := by rw [show a = numS n from ha.ds, numS_size]; exact ha.len
 have zb : b.size ≤ 60 := by rw [show b = numS m from hb.ds, numS_size]; exact hb.len
 have c1 := fun W => check_val false a (s : Int) (by unfold maxLen; omega) W 0 (chkR_ok ⟨n, s, ha⟩)
 have c2 := fun W => check_val false b (t : Int) (by unfold maxLen; omega) W 0 (chkR_ok ⟨m, t, hb⟩)
 have hs := ha.le
 have ht := hb.le
 have cS := fun W => same_any false false a b s t (by omega) (by omega) (by omega) (by omega) W
 have ix := num_zeros ha.num (max s t - s)
 have iy := num_zeros hb.num (max s t - t)
 have zx : (a ++ zs (max s t - s)).size ≤ 3000 := by rw [app_size, zs_size]; omega
 have zy : (b ++ zs (max s t - t)).size ≤ 3000 := by rw [app_size, zs_size]; omega
 simp only at ix iy
 generalize n * 10 ^ (max s t - s) = x at ix ⊢
 generalize m * 10 ^ (max s t - t) = y at iy ⊢
 generalize a ++ zs (max s t - s) = X at *
 generalize b ++ zs (max s t - t) = Y at *
 have cL := fun W => less_num ix iy (by unfold maxLen; omega) (by unfold maxLen; omega) W
 unfold cmpSpec
 generalize decide (x < y) = q at cL ⊢
 clear ha hb za zb hs ht ix iy zx zy
 go_enter Tryz.func87, Tryz.ntmps87
 go_wp2_with fail
 refine (c1 _).mono ?_
 rintro e w1 ⟨rfl, b1⟩
 obtain ⟨x0, x1, x2, y0, y1, y2, hB⟩ := two_both b1
 clear c1
 go_wp2_with fail
 refine (c2 _).mono ?_
 rintro e w2 ⟨rfl, b2⟩
 have b12 := b1.trans (b2.mono b1.size)
 clear x0 x1 x2 y0 y1 y2 hB b1 b2 c2
 obtain ⟨x0, x1, x2, y0, y1, y2, hB⟩ := two_both b12
 go_wp2_with fail
 refine (cS _).mono ?_
 rintro e w3 ⟨rfl, b3⟩
 have b13 := b12.trans (b3.mono b12.size)
 clear x0 x1 x2 y0 y1 y2 hB b12 b3 cS
 obtain ⟨x0, x1, x2, y0, y1, y2, hB⟩ := two_both b13
 have HB := Lib.hid hB
 clear b13 hB
 go_wp2_with fail
 go_quiet ((go_at_call 117; exact Calls.quiet_of_same ((cL _).mono fun e w' h => ⟨h.1, h.2.symm⟩)))
 cases q
 all_goals go_wp2
 all_goals go_ret2
 all_goals exact ⟨rfl, below_drewN HB.out _⟩
theorem cmp_scale_f (a : ByteArray) (s t n m : Nat) (ha : IsDec ⟨false, a, (s : Int)⟩ n s) (hb : IsDec ⟨false, a, (t : Int)⟩ m t) (hne : ¬ (s : Int) = (t : Int)) (w : World) :
  Calls Tryz.prog 87 #[.agg #[.bool false, .string a, .int .i64 (s : Int)], .agg #[.bool false, .string a, .int .i64 (t : Int)]] w fun e w' =>
   e = .returned (.tuple #[.int .i64 (cmpSpec false (n * 10 ^ (max s t - s)) false (m * 10 ^ (max s t - t))), .int .i64 0]) ∧ Below w.heap.size w w' := by
 have za : a.size ≤ 60 := by rw [show a = numS n from ha.ds, numS_size]; exact ha.len
 have zb := za
 have c1 := fun W => check_val false a (s : Int) (by unfold maxLen; omega) W 0 (chkR_ok ⟨n, s, ha⟩)
 have c2 := fun W => check_val false a (t : Int) (by unfold maxLen; omega) W 0 (chkR_ok ⟨m, t, hb⟩)
 have hs := ha.le
 have ht := hb.le
 have cS := fun W => same_any false false a a s t (by omega) (by omega) (by omega) (by omega) W
 have ix := num_zeros ha.num (max s t - s)
 have iy := num_zeros hb.num (max s t - t)
 have zx : (a ++ zs (max s t - s)).size ≤ 3000 := by rw [app_size, zs_size]; omega
 have zy : (a ++ zs (max s t - t)).size ≤ 3000 := by rw [app_size, zs_size]; omega
 simp only at ix iy
 generalize n * 10 ^ (max s t - s) = x at ix ⊢
 generalize m * 10 ^ (max s t - t) = y at iy ⊢
 generalize a ++ zs (max s t - s) = X at *
 generalize a ++ zs (max s t - t) = Y at *
 have cL := fun W => less_num ix iy (by unfold maxLen; omega) (by unfold maxLen; omega) W
 unfold cmpSpec
 generalize decide (x < y) = q at cL ⊢
 clear ha hb za zb hs ht ix iy zx zy
 go_enter Tryz.func87, Tryz.ntmps87
 go_wp2_with fail
 refine (c1 _).mono ?_
 rintro e w1 ⟨rfl, b1⟩
 obtain ⟨x0, x1, x2, y0, y1, y2, hB⟩ := two_both b1
 clear c1
 go_wp2_with fail
 refine (c2 _).mono ?_
 rintro e w2 ⟨rfl, b2⟩
 have b12 := b1.trans (b2.mono b1.size)
 clear x0 x1 x2 y0 y1 y2 hB b1 b2 c2
 obtain ⟨x0, x1, x2, y0, y1, y2, hB⟩ := two_both b12
 go_wp2_with fail
 refine (cS _).mono ?_
 rintro e w3 ⟨rfl, b3⟩
 have b13 := b12.trans (b3.mono b12.size)
 clear x0 x1 x2 y0 y1 y2 hB b12 b3 cS
 obtain ⟨x0, x1, x2, y0, y1, y2, hB⟩ := two_both b13
 have HB := Lib.hid hB
 clear b13 hB
 go_wp2_with fail
 go_quiet ((go_at_call 117; exact Calls.quiet_of_same ((cL _).mono fun e w' h => ⟨h.1, h.2.symm⟩)))
 cases q
 all_goals go_wp2
 all_goals go_ret2
 all_goals exact ⟨rfl, below_drewN HB.out _⟩
end Go.Proofs.YtmdnijehoagamaaGreatDoor
namespace Go.Proofs.YtmdnijehoagamaaGreatDoor
open Go.RowKit
theorem numS_inj {m n : Nat} : ((numS m).toList == (numS n).toList) = decide (m = n) := by
 rw [numS_toList, numS_toList]
 by_cases h : m = n
 ·rw [h, decide_eq_true rfl]
  exact beq_self_eq_true _
 ·rw [decide_eq_false h]
  refine beq_eq_false_iff_ne.2 fun e => h ?_
  have h1 := digs_val m
  rw [e, digs_val] at h1
  exact h1.symm
end Go.Proofs.YtmdnijehoagamaaGreatDoor
namespace Go.Proofs.YtmdnijehoagamaaGreatDoor
set_option maxRecDepth 100000
set_option maxHeartbeats 2000000
open Go.RowKit
theorem cmp_bad1 (neg1 neg2 : Bool) (a b : ByteArray) (s t : Int) (za : a.size ≤ maxLen) (h : ¬ Valid ⟨neg1, a, s⟩) (w : World) :
  Calls Tryz.prog 87 #[.agg #[.bool neg1, .string a, .int .i64 s], .agg #[.bool neg2, .string b, .int .i64 t]] w fun e w' => e = .returned (.tuple #[.int .i64 0, .int .i64 2]) ∧ Below w.heap.size w w' := by
 have c1 := fun W => check_val neg1 a s za W 2 (chkR_bad h)
 clear h za
 go_enter Tryz.func87, Tryz.ntmps87
 go_wp2_with fail
 refine (c1 _).mono ?_
 rintro e w1 ⟨rfl, b1⟩
 obtain ⟨x0, x1, x2, y0, y1, y2, hB⟩ := two_both b1
 go_wp2
 go_ret2
 exact ⟨rfl, hB⟩
theorem cmp_bad2 (neg1 neg2 : Bool) (a b : ByteArray) (s t : Int) (za : a.size ≤ maxLen) (zb : b.size ≤ maxLen) (h1 : Valid ⟨neg1, a, s⟩) (h : ¬ Valid ⟨neg2, b, t⟩) (w : World) :
  Calls Tryz.prog 87 #[.agg #[.bool neg1, .string a, .int .i64 s], .agg #[.bool neg2, .string b, .int .i64 t]] w fun e w' => e = .returned (.tuple #[.int .i64 0, .int .i64 2]) ∧ Below w.heap.size w w' := by
 have c1 := fun W => check_val neg1 a s za W 0 (chkR_ok h1)
 have c2 := fun W => check_val neg2 b t zb W 2 (chkR_bad h)
 clear h h1 za zb
 go_enter Tryz.func87, Tryz.ntmps87
 go_wp2_with fail
 refine (c1 _).mono ?_
 rintro e w1 ⟨rfl, b1⟩
 obtain ⟨x0, x1, x2, y0, y1, y2, hB⟩ := two_both b1
 clear c1
 go_wp2_with fail
 refine (c2 _).mono ?_
 rintro e w2 ⟨rfl, b2⟩
 have b12 := b1.trans (b2.mono b1.size)
 clear x0 x1 x2 y0 y1 y2 hB b1 b2 c2
 obtain ⟨x0, x1, x2, y0, y1, y2, hB⟩ := two_both b12
 go_wp2
 go_ret2
 exact ⟨rfl, hB⟩
end Go.Proofs.YtmdnijehoagamaaGreatDoor
