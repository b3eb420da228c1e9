/- The library's iterator over a slice from its end, over the parts of a number. -/
import Derived.RangeFuncNested
import Derived.RangeFuncBound
import Derived.RangeFuncCalls
import Derived.RangeFuncLeaves
import Derived.RangeFuncBox
import Derived.Shelf.Abstract
import Derived.Shelf.RegionOpen
import Derived.WalkKit
import Derived.OwnWalkIn
import Derived.TacticsInMore
import Derived.LoopNIn
import Derived.LoopIn
import Derived.IntWalk
import Derived.Test.YtcpociafcjabkaaGreatDoorPG
set_option linter.unusedSimpArgs false
set_option linter.unusedVariables false
namespace Go.Proofs.YtcpociafcjabkaaGreatDoor
open Go.RowKit Go.Shelf
attribute [local go_sem] Oper.semAt_some

/-- The places, from above. -/
def backF : List (Fin 14) := [13, 12, 11, 10, 9, 8, 7, 6, 5, 4, 3, 2, 1, 0]
abbrev encP (f : Nat → Int) (x : Fin 14) : Array Value := #[.int .i64 (x.1 : Int), .int .i64 (f x.1)]
theorem backF_at : ∀ k : Fin 14, backF[k.1]? = some ⟨13 - k.1, by omega⟩ := by decide
theorem backF_take (k : Nat) (hk : k < 14) : backF.take (14 - (k + 1)) ++ [⟨k, hk⟩] = backF.take (14 - k) := by
  have h := backF_at ⟨13 - k, by omega⟩
  have e : 14 - k = 14 - (k + 1) + 1 := by omega
  rw [e, List.take_add_one]
  have e2 : 14 - (k + 1) = 13 - k := by omega
  rw [e2, h]
  congr 2
  simp
  omega
theorem backF_above : ∀ (k : Fin 14) (j : Fin 14), 13 - k.1 < j.1 → j ∈ backF.take k.1 := by decide
theorem backF_pre {ini : List (Fin 14)} {x : Fin 14} (h : (ini ++ [x]) <+: backF) : ∀ j : Fin 14, x.1 < j.1 → j ∈ ini := fun j hj => by
  have hl : ini.length < 14 := by
    have := h.length_le
    simp [backF] at this
    omega
  have h1 : ini = backF.take ini.length := by
    have := (List.prefix_append ini [x]).trans h
    exact List.prefix_iff_eq_take.1 this
  have h2 : backF[ini.length]? = some x := by
    obtain ⟨t, ht⟩ := h
    rw [← ht]
    simp
  have h3 := backF_at ⟨ini.length, hl⟩
  rw [h2] at h3
  have hx : x.1 = 13 - ini.length := by
    injection h3 with h3
    rw [h3]
  rw [h1]
  exact backF_above ⟨ini.length, hl⟩ j (by show 13 - ini.length < j.1; omega)

/-- WHAT THE ITERATOR READS BETWEEN TWO ROUNDS. -/
def KpN (b Bs : Nat) (W W' : World) : Prop := W'.heap[b]? = W.heap[b]? ∧ W'.heap[Bs]? = W.heap[Bs]?
theorem KpN.trans {b Bs : Nat} {A B C : World} (h : KpN b Bs A B) (k : KpN b Bs B C) : KpN b Bs A C := ⟨k.1.trans h.1, k.2.trans h.2⟩
theorem KpN.of_below {b Bs n : Nat} {A B : World} (h : Below n A B) (hb : b < n) (hBs : Bs < n) : KpN b Bs A B := ⟨h.block b hb, h.block Bs hBs⟩
theorem KpN.put {b Bs B : Nat} (hb : b < B) (hBs : Bs < B) : ∀ (W : World) (l : Nat) (o o' : Obj), B ≤ l → W.heap[l]? = some o → o.isCells = false → o.isWalk = false → KpN b Bs W (W.putObj l o') :=
  fun W l o o' hl h _ _ => KpN.of_below ((Below.refl B W).grown (grownBy_putObj' W l o') (by have := (Array.getElem?_eq_some_iff.1 h).1; omega) (fun k e => by cases e; omega)) hb hBs

theorem back_call (b : Nat) (w : World) :
    Calls Tryz.prog 78 #[.slice (some ⟨b, 0, none⟩) 14 14] w fun e w' => e = .returned (.func (.func 99) #[] #[.pointer (some ⟨w.heap.size, 0, none⟩)]) ∧ w' = w.alloc (.cells #[.slice (some ⟨b, 0, none⟩) 14 14] 86) := by
  go_enter Tryz.func78, Tryz.ntmps78
  go_wp2
  go_ret
  exact ⟨rfl, rfl⟩

set_option maxRecDepth 100000 in
set_option maxHeartbeats 2000000 in
theorem back_in (n : Nat) (hn : 1 ≤ n) (l b Bs : Nat) (f : Nat → Int) (J Jx : List (Fin 14) → World → Prop)
    (hY : ∀ pre x W, J pre W → pre.length < 14 → YieldAt Fence.wide (n - 1) Tryz.prog l (encP f x) W fun e W' =>
      (e = .returned (.bool true) ∧ J (pre ++ [x]) W' ∧ KpN b Bs W W') ∨ (e = .returned (.bool false) ∧ Jx (pre ++ [x]) W'))
    (W : World) (hb : Blk W b f) (hc : W.cell? ⟨Bs, 0, none⟩ = some (.slice (some ⟨b, 0, none⟩) 14 14)) (h0 : J [] W) :
    CallsIn Fence.wide n Tryz.prog 99 #[.func (.yield l) #[] #[], .pointer (some ⟨Bs, 0, none⟩)] W fun e W' => (∃ v, e = .returned v) ∧
      ((∃ ys, ys = backF ∧ J ys W') ∨ (∃ pre, pre <+: backF ∧ Jx pre W')) := by
  refine callsIn_of_wp Tryz.func99 rfl trivial ?_ rfl
  simp only [Tryz.ntmps99, List.size_toArray, List.length_cons, List.length_nil, Nat.reduceAdd, Nat.reduceSub, Array.replicate_succ, Array.replicate_zero, List.push_toArray, List.append_toArray, List.nil_append, List.cons_append]
  have HB := Lib.hid hb
  clear hb
  gi_wp2
  gi_loopw [3] (fun i wr => ∃ k : Nat, k ≤ 14 ∧ i = .int .i64 ((k : Int) - 1) ∧ J (backF.take (14 - k)) wr ∧ KpN b Bs W wr)
    (fun i _ => (intOf i + 1).toNat)
  case atStart => exact ⟨14, Nat.le_refl _, rfl, h0, rfl, rfl⟩
  case round =>
    obtain ⟨k, hk, rfl, hJs, hkp⟩ := hrel
    have hbr : Blk wr b f := hkp.1.trans HB.out
    have hcr : wr.cell? ⟨Bs, 0, none⟩ = some (.slice (some ⟨b, 0, none⟩) 14 14) := (World.cell?_of_block (w := W) hkp.2).trans hc
    cases k with
    | zero =>
      gi_wp2
      go_end0
      exact ⟨⟨_, rfl⟩, .inl ⟨_, by rfl, hJs⟩⟩
    | succ k =>
      have hk14 : k < 14 := hk
      have hx := hbr.cell hk14
      have hki : ((k + 1 : Nat) : Int) - 1 = (k : Int) := by omega
      have hk14i : (k : Int) < 14 := by omega
      rw [hki]
      obtain ⟨fn, tmps, assign, body, hy, hR⟩ := hY _ ⟨k, hk14⟩ wr hJs (by rw [List.length_take]; show min _ 14 < 14; omega)
      rw [backF_take] at hR
      dsimp only [encP] at hy
      clear hbr
      gi_wp2
      refine hR.mono ?_
      rintro e w3 (⟨rfl, hJ3, hk3⟩ | ⟨rfl, hJx3⟩)
      · gi_wp2
        exact ⟨⟨k, by omega, rfl, hJ3, hkp.trans hk3⟩, by simp only [intOf]; omega⟩
      · gi_wp2
        refine bodyPost_ret (results_none rfl _ _ _) rfl ?_
        exact ⟨⟨_, rfl⟩, .inr ⟨_, List.take_prefix _ _, hJx3⟩⟩

/-- WHAT THE ITERATOR's VALUE DOES AT WHATEVER LOOP BODY THAT KEEPS WHAT IT READS. -/
theorem back_stops (n : Nat) (hn : 1 ≤ n) (b Bs : Nat) (f : Nat → Int) (w : World) (hb : Blk w b f) (hc : w.cell? ⟨Bs, 0, none⟩ = some (.slice (some ⟨b, 0, none⟩) 14 14)) :
    SeqStopsK Fence.wide n Tryz.prog 99 #[.pointer (some ⟨Bs, 0, none⟩)] (encP f) (KpN b Bs) (fun ys => ys = backF) (fun pre => pre <+: backF) 14 w := fun l J Jx W hW hJ _ hY h0 => by
  have hB : Bs < w.heap.size := by
    rcases Nat.lt_or_ge Bs w.heap.size with h | h
    · exact h
    · simp [World.cell?, Array.getElem?_eq_none h] at hc
  exact back_in n hn l b Bs f J Jx hY W ((hW.block b hb.lt).trans hb) ((hW.cell (p := ⟨Bs, 0, none⟩) hB).trans hc) h0
end Go.Proofs.YtcpociafcjabkaaGreatDoor
