/- The iterator of package chars: it yields the characters of a string one by one, or one last time that none stands here. -/
import Derived.RangeFuncNested
import Derived.RangeFuncBound
import Derived.RangeFuncCalls
import Derived.RangeFuncLeaves
import Derived.RangeFuncBox
import Derived.Shelf.Abstract
import Derived.Shelf.RegionOpen
import Derived.WalkKit
import Derived.OwnWalkIn
import Derived.TacticsInMore
import Derived.LoopNIn
import Derived.LoopIn
import Derived.IntWalk
import Derived.Lib.PathFns
import Derived.Test.YtiefpdoefdldpaaDoorB
import Derived.Test.YtiefpdoefdldpaaDoorC
import Derived.Test.YtiefpdoefdldpaaDoorS
namespace Go.Proofs.YtiefpdoefdldpaaDoor
open Go.RowKit Go.Shelf
attribute [local go_sem] Oper.semAt_some

/-- What the program's tables hold. -/
structure Tabs (w : World) : Prop where
  ran : RanTab w
  utf : Lib.Utf8Tabs 1 2 w
  maxl : ∃ m, w.cell? ⟨3, 0, none⟩ = some (.int .i64 m)
  size : 9 ≤ w.heap.size
theorem Tabs.below {w w' : World} {B : Nat} (h : Tabs w) (hb : Below B w w') (hB : 9 ≤ B) : Tabs w' := by
  obtain ⟨⟨t, fr, h0⟩, hu, ⟨m, hm⟩, hs⟩ := h
  refine ⟨⟨t, fr, (hb.block 0 (by omega)).trans h0⟩, ⟨fun c hc => (hb.cell (show 1 < B by omega)).trans (hu.1 c hc), fun i hi => ⟨(hb.cell (show 2 < B by omega)).trans (hu.2 i hi).1, (hb.cell (show 2 < B by omega)).trans (hu.2 i hi).2⟩⟩, ⟨m, (hb.cell (show 3 < B by omega)).trans hm⟩, Nat.le_trans hs hb.size⟩

/-- What the iterator yields: places and characters; -1 where none stands. -/
def charsGo : Nat → Nat → List UInt8 → List (Nat × Int)
  | 0, _, _ => []
  | f + 1, k, l => if l = [] then [] else match stepD l with
    | none => [(k, -1)]
    | some (c, n) => (k, (c : Int)) :: charsGo f (k + n) (l.drop n)
def charsOf (l : List UInt8) : List (Nat × Int) := charsGo l.length 0 l

theorem stepD_some {l : List UInt8} {c n : Nat} (h : stepD l = some (c, n)) : l ≠ [] ∧ ¬ (c = 65533 ∧ n = 1) ∧ vldB c = true ∧ Lib.decodeL l = (c, n) := by
  unfold stepD at h
  by_cases h1 : l = [] ∨ ((Lib.decodeL l).1 = 65533 ∧ (Lib.decodeL l).2 = 1) ∨ vldB (Lib.decodeL l).1 = false
  · simp only [h1, if_true] at h
    cases h
  · simp only [h1, if_false, Option.some.injEq] at h
    rw [h] at h1
    refine ⟨fun e => h1 (.inl e), fun e => h1 (.inr (.inl e)), ?_, h⟩
    cases hv : vldB c with
    | true => rfl
    | false => exact absurd (.inr (.inr hv)) h1
theorem stepD_none {l : List UInt8} (h0 : l ≠ []) (h : stepD l = none) : ((Lib.decodeL l).1 = 65533 ∧ (Lib.decodeL l).2 = 1) ∨ vldB (Lib.decodeL l).1 = false := by
  unfold stepD at h
  by_cases h1 : l = [] ∨ ((Lib.decodeL l).1 = 65533 ∧ (Lib.decodeL l).2 = 1) ∨ vldB (Lib.decodeL l).1 = false
  · exact h1.resolve_left h0
  · simp only [h1, if_false] at h
    cases h

theorem decodeGo_extract (s : ByteArray) (k : Nat) (hk : k < s.size) : Lib.decodeGo (s.extract k s.size) = Lib.decodeL (s.data.toList.drop k) := by
  unfold Lib.decodeGo Lib.decodeL
  have h1 : (s.extract k s.size).size = s.size - k := by simp
  rw [if_neg (by omega)]
  rw [Lib.extract_from]

set_option maxRecDepth 100000 in
set_option maxHeartbeats 1000000 in
theorem characters_calls (s : ByteArray) (w : World) :
    Calls Tryd.prog 31 #[.string s] w fun e w' => e = .returned (.func (.func 49) #[] #[.pointer (some ⟨w.heap.size, 0, none⟩)]) ∧ w' = w.alloc (.cells #[.string s] 9) := by
  go_enter Tryd.func31, Tryd.ntmps31
  go_wp2
  go_ret
  exact ⟨rfl, rfl⟩

abbrev encC (x : Nat × Int) : Array Value := #[.int .i64 (x.1 : Int), .int .i32 x.2]

/-- WHAT THE ITERATOR READS BETWEEN TWO ROUNDS: the program's tables (they lie below 9) and the box that holds the string. -/
def KpC (Bs : Nat) (W W' : World) : Prop := Below 9 W W' ∧ W'.heap[Bs]? = W.heap[Bs]?
theorem KpC.trans {Bs : Nat} {A B C : World} (h : KpC Bs A B) (k : KpC Bs B C) : KpC Bs A C := ⟨h.1.trans k.1, k.2.trans h.2⟩
theorem KpC.of_below {Bs n : Nat} {A B : World} (h : Below n A B) (h9 : 9 ≤ n) (hBs : Bs < n) : KpC Bs A B := ⟨h.mono h9, h.block Bs hBs⟩
theorem KpC.put {Bs B : Nat} (h9 : 9 ≤ B) (hBs : Bs < B) : ∀ (W : World) (l : Nat) (o o' : Obj), B ≤ l → W.heap[l]? = some o → o.isCells = false → o.isWalk = false → KpC Bs W (W.putObj l o') :=
  fun W l o o' hl h _ _ => KpC.of_below ((Below.refl B W).grown (grownBy_putObj' W l o') (by have := (Array.getElem?_eq_some_iff.1 h).1; omega) (fun k e => by cases e; omega)) h9 hBs

set_option maxRecDepth 100000 in
set_option maxHeartbeats 2000000 in
theorem iter_in (n : Nat) (hn : 1 ≤ n) (l Bs : Nat) (s : ByteArray) (hs : s.size ≤ maxLen) (J Jx : List (Nat × Int) → World → Prop)
    (hY : ∀ pre x W, J pre W → (pre ++ [x]) <+: charsOf s.data.toList → YieldAt Fence.wide (n - 1) Tryd.prog l (encC x) W fun e W' =>
      (e = .returned (.bool true) ∧ J (pre ++ [x]) W' ∧ KpC Bs W W') ∨ (e = .returned (.bool false) ∧ Jx (pre ++ [x]) W'))
    (W : World) (hJB : ∀ pre A B, J pre A → Below A.heap.size A B → J pre B)
    (hT : Tabs W) (hc : W.cell? ⟨Bs, 0, none⟩ = some (.string s)) (h0 : J [] W) :
    CallsIn Fence.wide n Tryd.prog 49 #[.func (.yield l) #[] #[], .pointer (some ⟨Bs, 0, none⟩)] W fun e W' => (∃ v, e = .returned v) ∧
      ((∃ ys, ys = charsOf s.data.toList ∧ J ys W') ∨ (∃ pre, pre <+: charsOf s.data.toList ∧ Jx pre W')) := by
  unfold maxLen at hs
  obtain ⟨L, hL⟩ : ∃ L, s.data.toList = L := ⟨_, rfl⟩
  have hLs : s.size = L.length := by rw [← hL]; simp
  refine callsIn_of_wp Tryd.func49 rfl trivial ?_ rfl
  simp only [Tryd.ntmps49, List.size_toArray, List.length_cons, List.length_nil, Nat.reduceAdd, Nat.reduceSub, Array.replicate_succ, Array.replicate_zero, List.push_toArray, List.append_toArray, List.nil_append, List.cons_append]
  have HL := Lib.hid hL
  have HLs := Lib.hid hLs
  clear hL hLs
  gi_wp2
  gi_loopw [3] (fun i wr => ∃ (k f : Nat) (pre : List (Nat × Int)), k ≤ s.size ∧ i = .int .i64 k ∧ (Hid (charsOf L = pre ++ charsGo f k (L.drop k))) ∧ (L.drop k).length ≤ f ∧ J pre wr ∧ KpC Bs W wr)
    (fun i _ => s.size - (intOf i).toNat)
  case atStart => exact ⟨0, L.length, [], Nat.zero_le _, rfl, rfl, by simp, h0, Below.refl _ _, rfl⟩
  case round =>
    obtain ⟨k, f, pre, hk, rfl, HC, hf, hJs, hb⟩ := hrel
    have hTr := hT.below hb.1 (Nat.le_refl 9)
    have hcr : wr.cell? ⟨Bs, 0, none⟩ = some (.string s) := (World.cell?_of_block (w := W) hb.2).trans hc
    have hBr : Bs < wr.heap.size := by
      rcases Nat.lt_or_ge Bs wr.heap.size with h | h
      · exact h
      · simp [World.cell?, Array.getElem?_eq_none h] at hcr
    by_cases hlt : k < s.size
    · have cD : ∀ X, Tabs X → Calls Tryd.prog 50 #[.string (s.extract k s.size)] X fun e w' => e = .returned (.tuple #[.int .i32 ((Lib.decodeL (L.drop k)).1 : Int), .int .i64 ((Lib.decodeL (L.drop k)).2 : Int)]) ∧ Below X.heap.size X w' := fun X hX => by
        have h := Tryd.utf8_DecodeRuneInString (s.extract k s.size) X hX.utf
        rw [decodeGo_extract s k hlt, HL.out] at h
        exact h
      have hne : L.drop k ≠ [] := by
        intro e
        have h1 := congrArg List.length e
        have h2 := HLs.out
        simp at h1
        omega
      cases f with
      | zero => exact absurd (List.eq_nil_of_length_eq_zero (Nat.le_zero.1 hf)) hne
      | succ f =>
      cases hst : stepD (L.drop k) with
      | none =>
        have hCC : charsOf L = pre ++ [(k, -1)] := by rw [HC.out]; simp [charsGo, hne, hst]
        have hlen : (pre ++ [(k, (-1 : Int))]) <+: charsOf s.data.toList := by rw [HL.out, hCC]; exact List.prefix_refl _
        have hno := stepD_none hne hst
        obtain ⟨r, hr⟩ : ∃ r, (Lib.decodeL (L.drop k)).1 = r := ⟨_, rfl⟩
        obtain ⟨m, hm⟩ : ∃ m, (Lib.decodeL (L.drop k)).2 = m := ⟨_, rfl⟩
        rw [hr, hm] at hno
        rw [hr, hm] at cD
        have HCC := Lib.hid hCC
        clear hCC HC hst hr hm
        by_cases h3 : r = 65533
        · have hm1 : m = 1 := by
            rcases hno with h | h
            · exact h.2
            · rw [h3] at h
              exact absurd h (by decide)
          have h3' : ((r : Int) == 65533) = true := by simp; omega
          have hm' : ((m : Int) == 1) = true := by simp; omega
          clear hno h3 hm1
          gi_wp2_with (refine ⟨trivial, ?_⟩; gi_at_call 50; refine (callsIn_wide.2 (cD _ hTr)).mono ?_; rintro e w2 ⟨rfl, hb2⟩)
          refine ⟨trivial, ?_⟩
          gi_wp2
          obtain ⟨fn, tmps, assign, body, hy, hR⟩ := hY pre (k, -1) w2 (hJB _ _ _ hJs hb2) hlen
          dsimp only [encC] at hy
          rw [hy]
          gi_wp2
          refine hR.mono ?_
          rintro e w3 (⟨rfl, hJ3, hk3⟩ | ⟨rfl, hJx3⟩)
          · gi_wp2
            refine bodyPost_ret (results_none rfl _ _ _) rfl ?_
            exact ⟨⟨_, rfl⟩, .inl ⟨_, by rw [HL.out, HCC.out], hJ3⟩⟩
          · gi_wp2
            refine bodyPost_ret (results_none rfl _ _ _) rfl ?_
            exact ⟨⟨_, rfl⟩, .inr ⟨_, by rw [HL.out, HCC.out]; exact List.prefix_refl _, hJx3⟩⟩
        · have hv : vldB r = false := hno.resolve_left (fun h => h3 h.1)
          have h3' : ((r : Int) == 65533) = false := by simp; omega
          have cV : ∀ X, Tabs X → Calls Tryd.prog 8 #[.int .i32 (r : Int)] X fun e w' => e = .returned (.bool false) ∧ Below X.heap.size X w' := fun X hX => by
            have h := valid_any (r : Int) X hX.ran
            rw [hv] at h
            exact h
          clear hno hv
          gi_wp2_with (first | (refine ⟨trivial, ?_⟩; gi_at_call 50; refine (callsIn_wide.2 (cD _ hTr)).mono ?_; rintro e w1 ⟨rfl, hb1⟩) | (refine ⟨trivial, ?_⟩; gi_at_call 8; refine (callsIn_wide.2 (cV _ (hTr.below hb1 hTr.size))).mono ?_; rintro e w2 ⟨rfl, hb2⟩))
          have hb12 := hb1.trans (hb2.mono hb1.size)
          obtain ⟨fn, tmps, assign, body, hy, hR⟩ := hY pre (k, -1) w2 (hJB _ _ _ hJs hb12) hlen
          dsimp only [encC] at hy
          rw [hy]
          gi_wp2
          refine hR.mono ?_
          rintro e w3 (⟨rfl, hJ3, hk3⟩ | ⟨rfl, hJx3⟩)
          · gi_wp2
            refine bodyPost_ret (results_none rfl _ _ _) rfl ?_
            exact ⟨⟨_, rfl⟩, .inl ⟨_, by rw [HL.out, HCC.out], hJ3⟩⟩
          · gi_wp2
            refine bodyPost_ret (results_none rfl _ _ _) rfl ?_
            exact ⟨⟨_, rfl⟩, .inr ⟨_, by rw [HL.out, HCC.out]; exact List.prefix_refl _, hJx3⟩⟩
      | some cn =>
        obtain ⟨c, m⟩ := cn
        obtain ⟨_, hw, hv, hd⟩ := stepD_some hst
        have hmb := stepD_le hst
        rw [hd] at cD
        have hCC : charsOf L = (pre ++ [(k, (c : Int))]) ++ charsGo f (k + m) ((L.drop k).drop m) := by rw [HC.out]; simp [charsGo, hne, hst]
        have cV : ∀ X, Tabs X → Calls Tryd.prog 8 #[.int .i32 (c : Int)] X fun e w' => e = .returned (.bool true) ∧ Below X.heap.size X w' := fun X hX => by
          have h := valid_any (c : Int) X hX.ran
          rw [hv] at h
          exact h
        have hlen : (pre ++ [(k, (c : Int))]) <+: charsOf s.data.toList := by rw [HL.out, hCC]; exact List.prefix_append _ _
        have hmk : k + m ≤ s.size := by
          have h1 := hmb.2.2.1
          have h2 := HLs.out
          simp at h1
          omega
        have hm1 := hmb.1
        have hfm : (L.drop (k + m)).length ≤ f := by
          simp at hf ⊢
          omega
        have hCC2 : charsOf L = (pre ++ [(k, (c : Int))]) ++ charsGo f (k + m) (L.drop (k + m)) := by rw [hCC, List.drop_drop]
        have HCC := Lib.hid hCC2
        clear hCC hCC2 HC hd hst hv hmb
        have fin : ∀ (w2 w3 : World), Below wr.heap.size wr w2 → J (pre ++ [(k, (c : Int))]) w3 → KpC Bs w2 w3 →
            (∃ (k_1 f : Nat) (pre : List (Nat × Int)), k_1 ≤ s.size ∧ Value.int IntKind.i64 ((k : Int) + (m : Int)) = Value.int IntKind.i64 (k_1 : Int) ∧ Hid (charsOf L = pre ++ charsGo f k_1 (L.drop k_1)) ∧ (L.drop k_1).length ≤ f ∧ J pre w3 ∧ KpC Bs W w3) ∧
            s.size - (intOf (Value.int IntKind.i64 ((k : Int) + (m : Int)))).toNat < s.size - (intOf (Value.int IntKind.i64 (k : Int))).toNat := by
          intro w2 w3 hb2 hJ3 hk3
          rw [← Int.natCast_add]
          refine ⟨⟨k + m, f, _, hmk, rfl, HCC.out, hfm, hJ3, hb.trans ((KpC.of_below hb2 hTr.size hBr).trans hk3)⟩, ?_⟩
          simp only [intOf, Int.toNat_natCast]
          omega
        by_cases h3 : c = 65533
        · have hm' : ((m : Int) == 1) = false := by
            simp
            intro h
            exact hw ⟨h3, by omega⟩
          have h3' : ((c : Int) == 65533) = true := by simp; omega
          clear h3 hw
          gi_wp2_with (first | (refine ⟨trivial, ?_⟩; gi_at_call 50; refine (callsIn_wide.2 (cD _ hTr)).mono ?_; rintro e w1 ⟨rfl, hb1⟩) | (refine ⟨trivial, ?_⟩; gi_at_call 8; refine (callsIn_wide.2 (cV _ (hTr.below hb1 hTr.size))).mono ?_; rintro e w2 ⟨rfl, hb2⟩))
          have hb12 := hb1.trans (hb2.mono hb1.size)
          obtain ⟨fn, tmps, assign, body, hy, hR⟩ := hY pre (k, (c : Int)) w2 (hJB _ _ _ hJs hb12) hlen
          dsimp only [encC] at hy
          rw [hy]
          gi_wp2
          refine hR.mono ?_
          rintro e w3 (⟨rfl, hJ3, hk3⟩ | ⟨rfl, hJx3⟩)
          · gi_wp2
            exact fin _ _ hb12 hJ3 hk3
          · gi_wp2
            refine bodyPost_ret (results_none rfl _ _ _) rfl ?_
            exact ⟨⟨_, rfl⟩, .inr ⟨_, by rw [HL.out, HCC.out]; exact List.prefix_append _ _, hJx3⟩⟩
        · have h3' : ((c : Int) == 65533) = false := by simp; omega
          gi_wp2_with (first | (refine ⟨trivial, ?_⟩; gi_at_call 50; refine (callsIn_wide.2 (cD _ hTr)).mono ?_; rintro e w1 ⟨rfl, hb1⟩) | (refine ⟨trivial, ?_⟩; gi_at_call 8; refine (callsIn_wide.2 (cV _ (hTr.below hb1 hTr.size))).mono ?_; rintro e w2 ⟨rfl, hb2⟩))
          have hb12 := hb1.trans (hb2.mono hb1.size)
          obtain ⟨fn, tmps, assign, body, hy, hR⟩ := hY pre (k, (c : Int)) w2 (hJB _ _ _ hJs hb12) hlen
          dsimp only [encC] at hy
          rw [hy]
          gi_wp2
          refine hR.mono ?_
          rintro e w3 (⟨rfl, hJ3, hk3⟩ | ⟨rfl, hJx3⟩)
          · gi_wp2
            exact fin _ _ hb12 hJ3 hk3
          · gi_wp2
            refine bodyPost_ret (results_none rfl _ _ _) rfl ?_
            exact ⟨⟨_, rfl⟩, .inr ⟨_, by rw [HL.out, HCC.out]; exact List.prefix_append _ _, hJx3⟩⟩
    · have hke : k = s.size := by omega
      have hnil : L.drop k = [] := by
        have h2 := HLs.out
        exact List.drop_eq_nil_of_le (by omega)
      have hCC : charsOf L = pre := by
        rw [HC.out, hnil]
        cases f <;> simp [charsGo]
      subst hke
      have HCC := Lib.hid hCC
      clear hCC hnil HC
      gi_wp2
      go_end0
      exact ⟨⟨_, rfl⟩, .inl ⟨_, by rw [HL.out, HCC.out], hJs⟩⟩

/-- WHAT THE ITERATOR's VALUE DOES AT WHATEVER LOOP BODY THAT KEEPS WHAT IT READS. -/
theorem iter_stopsK (n : Nat) (hn : 1 ≤ n) (Bs : Nat) (s : ByteArray) (hs : s.size ≤ maxLen) (w : World) (hT : Tabs w) (hc : w.cell? ⟨Bs, 0, none⟩ = some (.string s)) :
    SeqStopsK Fence.wide n Tryd.prog 49 #[.pointer (some ⟨Bs, 0, none⟩)] encC (KpC Bs) (fun ys => ys = charsOf s.data.toList) (fun pre => pre <+: charsOf s.data.toList) (charsOf s.data.toList).length w := fun l J Jx W hW hJ _ hY h0 => by
  have hB : Bs < w.heap.size := by
    rcases Nat.lt_or_ge Bs w.heap.size with h | h
    · exact h
    · simp [World.cell?, Array.getElem?_eq_none h] at hc
  refine iter_in n hn l Bs s hs J Jx (fun pre x W1 hj hp => hY pre x W1 hj (by have := hp.length_le; simp at this; omega)) W (fun pre A B hs hb => ?_) (hT.below hW hT.size) ((hW.cell (p := ⟨Bs, 0, none⟩) hB).trans hc) h0
  exact hJ pre A B none hs ⟨hb.os, hb.tape, hb.output, hb.size, fun k hk _ => hb.block k hk⟩ (fun r e => by cases e)
/-- .. at a body that is told that what it is handed is one of what the string holds. -/
theorem iter_stopsS (n : Nat) (hn : 1 ≤ n) (Bs : Nat) (s : ByteArray) (hs : s.size ≤ maxLen) (w : World) (hT : Tabs w) (hc : w.cell? ⟨Bs, 0, none⟩ = some (.string s)) :
    SeqStopsK Fence.wide n Tryd.prog 49 #[.pointer (some ⟨Bs, 0, none⟩)] (fun x : { x : Nat × Int // x ∈ charsOf s.data.toList } => encC x.1) (KpC Bs) (fun ys => ys.map (·.1) = charsOf s.data.toList) (fun pre => pre.map (·.1) <+: charsOf s.data.toList) (charsOf s.data.toList).length w := fun l J Jx W hW hJ _ hY h0 => by
  have hB : Bs < w.heap.size := by
    rcases Nat.lt_or_ge Bs w.heap.size with h | h
    · exact h
    · simp [World.cell?, Array.getElem?_eq_none h] at hc
  refine (iter_in n hn l Bs s hs (fun pre W => ∃ q : List { x : Nat × Int // x ∈ charsOf s.data.toList }, q.map (·.1) = pre ∧ J q W) (fun pre W => ∃ q : List { x : Nat × Int // x ∈ charsOf s.data.toList }, q.map (·.1) = pre ∧ Jx q W) ?_ W ?_ (hT.below hW hT.size) ((hW.cell (p := ⟨Bs, 0, none⟩) hB).trans hc) ⟨[], rfl, h0⟩).mono ?_
  · rintro pre x W1 ⟨q, rfl, hj⟩ hp
    have hx : x ∈ charsOf s.data.toList := hp.subset (by simp)
    obtain ⟨fn, tmps, assign, body, hy, hR⟩ := hY q ⟨x, hx⟩ W1 hj (by have := hp.length_le; simp at this; omega)
    refine ⟨fn, tmps, assign, body, hy, hR.mono fun e W' hr => ?_⟩
    rcases hr with ⟨h1, h2, h3⟩ | ⟨h1, h2⟩
    · exact .inl ⟨h1, ⟨q ++ [⟨x, hx⟩], by simp, h2⟩, h3⟩
    · exact .inr ⟨h1, q ++ [⟨x, hx⟩], by simp, h2⟩
  · rintro pre A B ⟨q, hq, hj⟩ hb
    exact ⟨q, hq, hJ q A B none hj ⟨hb.os, hb.tape, hb.output, hb.size, fun k hk _ => hb.block k hk⟩ (fun r e => by cases e)⟩
  · rintro e W' ⟨he, ⟨ys, hys, q, hq, hj⟩ | ⟨pre, hp, q, hq, hj⟩⟩
    · exact ⟨he, .inl ⟨q, hq.trans hys, hj⟩⟩
    · exact ⟨he, .inr ⟨q, show q.map (·.1) <+: charsOf s.data.toList by rw [hq]; exact hp, hj⟩⟩
/-- .. at a body that keeps all that lay below n₀. -/
theorem iter_stops (n : Nat) (hn : 1 ≤ n) (Bs n₀ : Nat) (s : ByteArray) (hs : s.size ≤ maxLen) (hn₀ : 9 ≤ n₀) (hBs : Bs < n₀) (w : World) (hT : Tabs w) (hc : w.cell? ⟨Bs, 0, none⟩ = some (.string s)) :
    SeqStopsK Fence.wide n Tryd.prog 49 #[.pointer (some ⟨Bs, 0, none⟩)] encC (Below n₀) (fun ys => ys = charsOf s.data.toList) (fun pre => pre <+: charsOf s.data.toList) (charsOf s.data.toList).length w := fun l J Jx W hW hJ hJx hY h0 => by
  refine iter_stopsK n hn Bs s hs w hT hc l J Jx W hW hJ hJx (fun pre x W1 hj hl => ?_) h0
  obtain ⟨fn, tmps, assign, body, hy, hR⟩ := hY pre x W1 hj hl
  refine ⟨fn, tmps, assign, body, hy, hR.mono fun e w' hr => ?_⟩
  rcases hr with ⟨h1, h2, h3⟩ | h
  · exact .inl ⟨h1, h2, KpC.of_below h3 hn₀ hBs⟩
  · exact .inr h
end Go.Proofs.YtiefpdoefdldpaaDoor
