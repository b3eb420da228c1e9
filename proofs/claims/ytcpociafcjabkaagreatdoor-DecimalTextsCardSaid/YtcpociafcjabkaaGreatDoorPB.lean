/- The program's numbers: blocks of fourteen cells; what carries from part to part. -/
import Derived.Laws.Rows
import Derived.Laws.Tables
import Derived.Deep.WholeRow
import Derived.Deep.MidRow
import Derived.Deep.RegionHeld3
import Derived.Test.YtcpociafcjabkaaGreatDoorPA
set_option linter.unusedSimpArgs false
set_option linter.unusedVariables false
namespace Go.Proofs.YtcpociafcjabkaaGreatDoor
open Go.RowKit

/-- Fourteen numbers, as cells. -/
def natL (f : Nat → Int) : List Value := (List.range 14).map fun p => Value.int .i64 (f p)
def arrV (f : Nat → Int) : Value := .agg (natL f).toArray
/-- A number in its parts. -/
def ptsOf (n : Nat) : Nat → Int := fun p => (part n p : Int)
def natV (n : Nat) : Value := arrV (ptsOf n)
theorem natL_len (f : Nat → Int) : (natL f).length = 14 := by simp [natL]
theorem natL_one (f : Nat → Int) : ∀ v ∈ natL f, v.oneCell' = true := fun v hv => by
  obtain ⟨p, _, rfl⟩ := List.mem_map.1 hv
  rfl
theorem natL_at (f : Nat → Int) (p : Nat) (h : p < 14) : (natL f)[p]? = some (.int .i64 (f p)) := by
  unfold natL
  rw [List.getElem?_map, List.getElem?_range h]
  rfl
def upd (f : Nat → Int) (i : Nat) (v : Int) : Nat → Int := fun p => if p = i then v else f p
theorem natL_set (f : Nat → Int) (i : Nat) (v : Int) : (natL f).set i (.int .i64 v) = natL (upd f i v) := by
  apply List.ext_getElem?
  intro j
  unfold natL
  rw [List.getElem?_set, List.getElem?_map, List.getElem?_map, List.length_map, List.length_range]
  by_cases hj : j < 14
  · rw [List.getElem?_range hj]
    by_cases hij : i = j
    · subst hij
      simp [upd, hj]
    · simp [upd, hij, show ¬ j = i from fun e => hij e.symm]
  · rw [List.getElem?_eq_none (by simpa using hj)]
    by_cases hij : i = j <;> simp [hij, hj]
theorem natL_congr {f g : Nat → Int} (h : ∀ p, p < 14 → f p = g p) : natL f = natL g := List.map_congr_left fun p hp => by rw [h p (List.mem_range.1 hp)]
theorem natL_zero : (natL fun _ => 0) = [.int .i64 0, .int .i64 0, .int .i64 0, .int .i64 0, .int .i64 0, .int .i64 0, .int .i64 0, .int .i64 0, .int .i64 0, .int .i64 0, .int .i64 0, .int .i64 0, .int .i64 0, .int .i64 0] := rfl

/-- Where they lie. -/
def Blk (W : World) (b : Nat) (f : Nat → Int) : Prop := W.heap[b]? = some (.cells (natL f).toArray 62 (0, 0))
theorem Blk.lt {W : World} {b : Nat} {f : Nat → Int} (h : Blk W b f) : b < W.heap.size := (Array.getElem?_eq_some_iff.1 h).1
theorem Blk.cell {W : World} {b : Nat} {f : Nat → Int} (h : Blk W b f) {p : Nat} (hp : p < 14) : W.cell? ⟨b, p, none⟩ = some (.int .i64 (f p)) := by
  rw [cell_of_row W b p _ _ _ h]
  simpa using natL_at f p hp
theorem Blk.free {W : World} {b : Nat} {f : Nat → Int} (h : Blk W b f) (p : Nat) : W.frozen? ⟨b, p, none⟩ = false := by
  simp [World.frozen?, show W.heap[b]? = _ from h]
theorem Blk.call {W W' : World} {b : Nat} {f : Nat → Int} (h : Blk W b f) (B : Below W.heap.size W W') : Blk W' b f := (B.block b h.lt).trans h
theorem Blk.set {W : World} {b : Nat} {f : Nat → Int} (h : Blk W b f) (i : Nat) (v : Int) : Blk (W.setCell ⟨b, i, none⟩ (.int .i64 v)) b (upd f i v) := by
  have h2 := heap_setCell_same W b i _ 62 (.int .i64 v) h
  unfold Blk
  rw [h2, ← natL_set]
  simp
theorem Blk.far {W : World} {b c : Nat} {f : Nat → Int} (h : Blk W b f) (i : Nat) (v : Value) (hne : c ≠ b) : Blk (W.setCell ⟨c, i, none⟩ v) b f :=
  (Below.heap_setCell W ⟨c, i, none⟩ v b (fun e => hne e.symm)).trans h
theorem Blk.new (W : World) (f : Nat → Int) : Blk (W.alloc (.cells (natL f).toArray 62)) W.heap.size f := heap_alloc_last W _
theorem Blk.alloc {W : World} {b : Nat} {f : Nat → Int} (h : Blk W b f) (o : Obj) : Blk (W.alloc o) b f := h.call ((Below.refl _ _).alloc (Nat.le_refl _) o)
theorem Blk.range {W : World} {b : Nat} {f : Nat → Int} (h : Blk W b f) : W.rangeAt b 0 (natL f) := fun j v hv => by
  rw [Nat.zero_add, cell_of_row W b j _ _ _ h]
  simpa using hv
theorem Blk.there {W : World} {b : Nat} {f : Nat → Int} (h : Blk W b f) : W.there b 0 14 := fun j hj => by
  rw [Nat.zero_add]
  exact ⟨by rw [h.cell hj]; rfl, h.free j⟩

/-- What lies in a cell of its own. -/
def Cel (W : World) (b : Nat) (c : Int) : Prop := W.heap[b]? = some (.cells #[.int .i64 c] 2 (0, 0))
/-- Only one block has turned. -/
structure Turn (b : Nat) (w w' : World) : Prop where
  bel : Below b w w'
  size : w'.heap.size = w.heap.size
  oth : ∀ k, k ≠ b → w'.heap[k]? = w.heap[k]?
theorem Turn.refl (b : Nat) (w : World) : Turn b w w := ⟨Below.refl _ _, rfl, fun _ _ => rfl⟩
theorem Turn.drew {b : Nat} {w w' : World} (h : Turn b w w') (n : Nat) : Turn b w (w'.drewN n) := ⟨below_drewN h.bel n, h.size, h.oth⟩
theorem Turn.drew1 {b : Nat} {w w' : World} (h : Turn b w w') : Turn b w w'.drew := ⟨below_drewN h.bel 1, h.size, h.oth⟩
theorem Cel.set {W : World} {b : Nat} {c : Int} (h : Cel W b c) (v : Int) : Cel (W.setCell ⟨b, 0, none⟩ (.int .i64 v)) b v := by
  have h2 := heap_setCell_same W b 0 _ 2 (.int .i64 v) h
  exact h2
theorem Cel.drew1 {W : World} {b : Nat} {c : Int} (h : Cel W b c) : Cel W.drew b c := h
theorem Turn.set {b : Nat} {w w' : World} (h : Turn b w w') (v : Value) : Turn b w (w'.setCell ⟨b, 0, none⟩ v) :=
  ⟨h.bel.setCell (p := ⟨b, 0, none⟩) (Nat.le_refl _) v, by rw [World.size_setCell]; exact h.size, fun k hk => (Below.heap_setCell w' ⟨b, 0, none⟩ v k hk).trans (h.oth k hk)⟩
theorem Turn.blk {b c : Nat} {w w' : World} {f : Nat → Int} (h : Turn b w w') (hb : Blk w c f) (hne : c ≠ b) : Blk w' c f := (h.oth c hne).trans hb

theorem carrier_call (c : Int) (w : World) :
    Calls Tryz.prog 77 #[.int .i64 c] w fun e w' => e = .returned (.func (.func 98) #[] #[.pointer (some ⟨w.heap.size, 0, none⟩)]) ∧ w' = w.alloc (.cells #[.int .i64 c] 2) := by
  go_enter Tryz.func77, Tryz.ntmps77
  go_wp2
  go_ret
  exact ⟨rfl, rfl⟩

theorem fdiv_neg (v : Int) (h : Int.tmod v 1000000000 < 0) : Int.tmod v 1000000000 + 1000000000 = v % 1000000000 ∧ Int.tdiv v 1000000000 - 1 = v / 1000000000 := by
  have h0 : v < 0 := by
    rcases Int.lt_or_le v 0 with h1 | h1
    · exact h1
    · have := Int.tmod_nonneg 1000000000 h1
      omega
  have e1 := Int.mul_tdiv_add_tmod v 1000000000
  have e2 : -1000000000 < Int.tmod v 1000000000 := by
    have := Int.lt_tmod_of_pos v (b := 1000000000) (by omega)
    omega
  omega
theorem fdiv_pos (v : Int) (h : ¬ Int.tmod v 1000000000 < 0) : Int.tmod v 1000000000 = v % 1000000000 ∧ Int.tdiv v 1000000000 = v / 1000000000 := by
  have e1 := Int.mul_tdiv_add_tmod v 1000000000
  have e2 : Int.tmod v 1000000000 < 1000000000 := Int.tmod_lt_of_pos v (by omega)
  omega

set_option maxRecDepth 100000 in
set_option maxHeartbeats 1000000 in
theorem carry_call (n c : Int) (b : Nat) (w : World) (hb : Cel w b c) (h0 : -8000000000000000000 ≤ n + c) (h1 : n + c ≤ 8000000000000000000) :
    Calls Tryz.prog 98 #[.int .i64 n, .pointer (some ⟨b, 0, none⟩)] w fun e w' => e = .returned (.int .i64 ((n + c) % 1000000000)) ∧ Cel w' b ((n + c) / 1000000000) ∧ Turn b w w' := by
  have hc : w.cell? ⟨b, 0, none⟩ = some (.int .i64 c) := by rw [cell_of_row w b 0 _ _ _ hb]; rfl
  have hf : w.frozen? ⟨b, 0, none⟩ = false := by simp [World.frozen?, show w.heap[b]? = _ from hb]
  obtain ⟨v, hv⟩ : ∃ v, n + c = v := ⟨_, rfl⟩
  have w1 : IntKind.i64.wrap (n + c) = v := by rw [hv]; exact IntWalk.i64_in _ (by omega)
  have hbl := Lib.hid hb
  rw [hv] at h0 h1 ⊢
  clear hb
  have HV := Lib.hid hv
  by_cases hneg : Int.tmod v 1000000000 < 0
  · obtain ⟨e1, e2⟩ := fdiv_neg v hneg
    go_enter Tryz.func98, Tryz.ntmps98
    go_wp2
    go_region
    all_goals go_wp2
    all_goals go_ret
    all_goals exact ⟨rfl, Cel.drew1 (Cel.set (Cel.set hbl.out _) _), (((Turn.refl b w).set _).set _).drew1⟩
  · obtain ⟨e1, e2⟩ := fdiv_pos v hneg
    go_enter Tryz.func98, Tryz.ntmps98
    go_wp2
    go_ret
    exact ⟨rfl, Cel.set hbl.out _, (Turn.refl b w).set _⟩
end Go.Proofs.YtcpociafcjabkaaGreatDoor
