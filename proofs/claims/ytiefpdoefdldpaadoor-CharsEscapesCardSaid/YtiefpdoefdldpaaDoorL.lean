/- Decode of package chars, at every string. -/
import Derived.RangeFuncBox
import Derived.Maps.AppendAt
import Derived.Test.YtiefpdoefdldpaaDoorK
import Derived.Test.YtiefpdoefdldpaaDoorJ
namespace Go.Proofs.YtiefpdoefdldpaaDoor
open Go.RowKit Go.Shelf
attribute [local go_sem] Oper.semAt_some

/-- The boxes that a Decode under way does not touch. -/
def DBox (B : Nat) (s : ByteArray) (W : World) : Prop := Boxed W B 26 (.slice none 0 0) ∧ Boxed W (B + 1) 3 (.int .i64 0) ∧ Boxed W (B + 2) 27 (.int .i64 0) ∧ Boxed W (B + 4) 9 (.string s)
theorem DBox.own {β : Type} (B : Nat) (s : ByteArray) : Own (fun (_ : β) W => DBox B s W) := fun p X Y row hs hg hr =>
  ⟨boxed_own (β := β) B 26 (fun _ => .slice none 0 0) p X Y row hs.1 hg hr, boxed_own (β := β) (B + 1) 3 (fun _ => .int .i64 0) p X Y row hs.2.1 hg hr, boxed_own (β := β) (B + 2) 27 (fun _ => .int .i64 0) p X Y row hs.2.2.1 hg hr, boxed_own (β := β) (B + 4) 9 (fun _ => .string s) p X Y row hs.2.2.2 hg hr⟩
/-- .. behind an append to the row that the box B + 3 holds, and the store there. -/
theorem DBox.step {B : Nat} {s : ByteArray} {W w1 : World} {v v' : Value} {k : Nat} {xs : List Value} {tmp : Obj} (h : DBox B s W) (hrow : W.ownsRow B 21 1 v k xs) (hg : (W.alloc tmp).grownBy w1 v.ownBlock) : DBox B s (w1.setCell ⟨B + 3, 0, none⟩ v') := by
  obtain ⟨h0, h1, h2, h4⟩ := h
  exact ⟨((h0.alloc tmp).kept hg (h0.not_row (by decide) hrow)).other (by omega) _, ((h1.alloc tmp).kept hg (h1.not_row (by decide) hrow)).other (by omega) _, ((h2.alloc tmp).kept hg (h2.not_row (by decide) hrow)).other (by omega) _, ((h4.alloc tmp).kept hg (h4.not_row (by decide) hrow)).other (by omega) _⟩

/-- The boxes of a Decode under way: what it has collected owns the characters. -/
def DCol (B : Nat) (pre : List (Nat × Int)) (W : World) : Prop := ∃ v, Boxed W (B + 3) 26 v ∧ W.ownsRow B 21 1 v pre.length (pre.map fun x => .int .i32 x.2) ∧ True
theorem DCol.own (B : Nat) : Own (fun (pre : List (Nat × Int)) W => DCol B pre W) :=
  holdsRow_own B (B + 3) 26 21 1 (fun pre : List (Nat × Int) => pre.length) (fun pre => pre.map fun (x : Nat × Int) => Value.int .i32 x.2) (fun _ _ => True)
def good (pre : List (Nat × Int)) : Prop := ∀ x ∈ pre, x.2 ≠ -1

/-- Where none stands is the last. -/
theorem charsGo_last : ∀ (f k : Nat) (l : List UInt8) (a t : List (Nat × Int)) (x : Nat × Int), charsGo f k l = a ++ x :: t → x.2 = -1 → t = []
  | 0, _, _, a, t, x, h, _ => by simp [charsGo] at h
  | f + 1, k, l, a, t, x, h, hx => by
    unfold charsGo at h
    split at h
    · simp at h
    · split at h
      · cases a with
        | nil => simp at h; exact h.2
        | cons y a => simp at h
      · rename_i c n hst
        cases a with
        | nil =>
          simp only [List.nil_append, List.cons.injEq] at h
          rw [← h.1] at hx
          have : (c : Int) = -1 := hx
          omega
        | cons y a =>
          simp only [List.cons_append, List.cons.injEq] at h
          exact charsGo_last f (k + n) (l.drop n) a t x h.2 hx
theorem charsGo_at : ∀ (f k : Nat) (l : List UInt8), ∀ x ∈ charsGo f k l, x.1 ≤ k + l.length
  | 0, _, _, x, hx => by simp [charsGo] at hx
  | f + 1, k, l, x, hx => by
    unfold charsGo at hx
    split at hx
    · simp at hx
    · split at hx
      · simp at hx
        simp [hx]
      · rename_i c n hst
        have hn := stepD_le hst
        rcases List.mem_cons.1 hx with h | h
        · simp [h]
        · have := charsGo_at f (k + n) (l.drop n) x h
          rw [List.length_drop] at this
          omega
theorem charsOf_bad {l : List UInt8} {ini t : List (Nat × Int)} {x : Nat × Int} (h : charsOf l = (ini ++ [x]) ++ t) (hx : x.2 = -1) : charsOf l = ini ++ [(x.1, -1)] ∧ x.1 ≤ l.length := by
  have h2 : charsOf l = ini ++ x :: t := by rw [h]; simp
  have ht := charsGo_last _ _ _ _ _ _ h2 hx
  have hm := charsGo_at _ _ _ x (show x ∈ charsGo l.length 0 l by
    show x ∈ charsOf l
    rw [h2]
    simp)
  refine ⟨?_, by omega⟩
  rw [h2, ht]
  congr 2
  exact Prod.ext rfl hx

/-- Three stores into three boxes. -/
theorem three_boxes {W : World} {B : Nat} {x0 x1 x2 : Value} (b0 : Boxed W B 26 x0) (b1 : Boxed W (B + 1) 3 x1) (b2 : Boxed W (B + 2) 27 x2) (u0 u1 u2 : Value) :
    (Boxed (((W.setCell ⟨B, 0, none⟩ u0).setCell ⟨B + 1, 0, none⟩ u1).setCell ⟨B + 2, 0, none⟩ u2) B 26 u0 ∧ Boxed (((W.setCell ⟨B, 0, none⟩ u0).setCell ⟨B + 1, 0, none⟩ u1).setCell ⟨B + 2, 0, none⟩ u2) (B + 1) 3 u1 ∧
      Boxed (((W.setCell ⟨B, 0, none⟩ u0).setCell ⟨B + 1, 0, none⟩ u1).setCell ⟨B + 2, 0, none⟩ u2) (B + 2) 27 u2) ∧ KeepsOthers W (((W.setCell ⟨B, 0, none⟩ u0).setCell ⟨B + 1, 0, none⟩ u1).setCell ⟨B + 2, 0, none⟩ u2) ∧
      Below B W (((W.setCell ⟨B, 0, none⟩ u0).setCell ⟨B + 1, 0, none⟩ u1).setCell ⟨B + 2, 0, none⟩ u2) :=
  ⟨⟨((b0.set u0).other (by omega) u1).other (by omega) u2, ((b1.other (by omega) u0).set u1).other (by omega) u2, ((b2.other (by omega) u0).other (by omega) u1).set u2⟩,
    ((KeepsOthers.setCell _ _ _).trans (KeepsOthers.setCell _ _ _)).trans (KeepsOthers.setCell _ _ _),
    (((Below.refl B W).setCell (p := ⟨B, 0, none⟩) (Nat.le_refl _) u0).setCell (p := ⟨B + 1, 0, none⟩) (show B ≤ B + 1 by omega) u1).setCell (p := ⟨B + 2, 0, none⟩) (show B ≤ B + 2 by omega) u2⟩
theorem three_own {W : World} {B : Nat} {x0 x1 x2 : Value} (b0 : Boxed W B 26 x0) (b1 : Boxed W (B + 1) 3 x1) (b2 : Boxed W (B + 2) 27 x2) (u0 u1 u2 : Value) {v : Value} {k : Nat} {xs : List Value} (h : W.ownsRow B 21 1 v k xs) :
    (((W.setCell ⟨B, 0, none⟩ u0).setCell ⟨B + 1, 0, none⟩ u1).setCell ⟨B + 2, 0, none⟩ u2).ownsRow B 21 1 v k xs := by
  have h0 := h.kept (grownBy_setCell' W B u0) (.inr (b0.not_row (by decide) h).symm)
  have b1' := b1.other (show B + 1 ≠ B by omega) u0
  have h1 := h0.kept (grownBy_setCell' _ (B + 1) u1) (.inr (b1'.not_row (by decide) h0).symm)
  have b2' := (b2.other (show B + 2 ≠ B by omega) u0).other (show B + 2 ≠ B + 1 by omega) u1
  exact h1.kept (grownBy_setCell' _ (B + 2) u2) (.inr (b2'.not_row (by decide) h1).symm)

set_option maxRecDepth 100000 in
set_option maxHeartbeats 2000000 in
theorem decode_any (s : ByteArray) (w : World) (hs : s.size ≤ 100000) (hT : Tabs w) : Calls Tryd.prog 18 #[.string s] w (DecPost s.data.toList w) := by
  refine (callsIn_wide (n := 4)).1 ?_
  have h1 : 1 ≤ 4 := by omega
  have hsz := hT.size
  have hmax : s.size ≤ maxLen := by unfold maxLen; omega
  have hlen : s.data.toList.length = s.size := by simp
  have hle := charsGo_le s.data.toList.length 0 s.data.toList
  obtain ⟨i0, hi, hz0, hz1, hz2⟩ := info_parts info21
  have Hi := Lib.hid hi
  have Hz0 := Lib.hid hz0
  have Hz1 := Lib.hid hz1
  have Hz2 := Lib.hid hz2
  have Hlen := Lib.hid hlen
  clear hi hz0 hz1 hz2 hlen
  refine callsIn_of_wp_marks Tryd.func18 rfl trivial ?_ rfl
  simp only [Tryd.ntmps18, List.size_toArray, List.length_cons, List.length_nil, Nat.reduceAdd, Nat.reduceSub, Array.replicate_succ, Array.replicate_zero, List.push_toArray, List.append_toArray, List.nil_append, List.cons_append]
  gi_wp2_with (refine ⟨trivial, ?_⟩; gi_at_call 31; refine (callsIn_wide.2 (characters_calls _ _)).mono ?_; rintro e w' ⟨rfl, rfl⟩)
  have b0 := Boxed.new w 26 (.slice none 0 0)
  have b1 := Boxed.new (w.alloc (.cells #[.slice none 0 0] 26)) 3 (.int .i64 0)
  have b2 := Boxed.new ((w.alloc (.cells #[.slice none 0 0] 26)).alloc (.cells #[.int .i64 0] 3)) 27 (.int .i64 0)
  have b3 := Boxed.new (((w.alloc (.cells #[.slice none 0 0] 26)).alloc (.cells #[.int .i64 0] 3)).alloc (.cells #[.int .i64 0] 27)) 26 (.slice none 0 0)
  have b4 := Boxed.new ((((w.alloc (.cells #[.slice none 0 0] 26)).alloc (.cells #[.int .i64 0] 3)).alloc (.cells #[.int .i64 0] 27)).alloc (.cells #[.slice none 0 0] 26)) 9 (.string s)
  simp only [World.size_alloc] at b1 b2 b3 b4
  have hD0 : DBox w.heap.size s (((((w.alloc (.cells #[.slice none 0 0] 26)).alloc (.cells #[.int .i64 0] 3)).alloc (.cells #[.int .i64 0] 27)).alloc (.cells #[.slice none 0 0] 26)).alloc (.cells #[.string s] 9)) :=
    ⟨(((b0.alloc _).alloc _).alloc _).alloc _, ((b1.alloc _).alloc _).alloc _, (b2.alloc _).alloc _, b4⟩
  have hL0 := b3.alloc (.cells #[.string s] 9)
  have hB0 : Below w.heap.size w (((((w.alloc (.cells #[.slice none 0 0] 26)).alloc (.cells #[.int .i64 0] 3)).alloc (.cells #[.int .i64 0] 27)).alloc (.cells #[.slice none 0 0] 26)).alloc (.cells #[.string s] 9)) := (((((Below.refl _ w).alloc (Nat.le_refl _) _).alloc (by simp) _).alloc (by simp; omega) _).alloc (by simp; omega) _).alloc (by simp; omega) _
  have hz0 : (((((w.alloc (.cells #[.slice none 0 0] 26)).alloc (.cells #[.int .i64 0] 3)).alloc (.cells #[.int .i64 0] 27)).alloc (.cells #[.slice none 0 0] 26)).alloc (.cells #[.string s] 9)).heap.size = w.heap.size + 5 := by simp
  obtain ⟨W0, hW0⟩ : ∃ W0, ((((w.alloc (.cells #[.slice none 0 0] 26)).alloc (.cells #[.int .i64 0] 3)).alloc (.cells #[.int .i64 0] 27)).alloc (.cells #[.slice none 0 0] 26)).alloc (.cells #[.string s] 9) = W0 := ⟨_, rfl⟩
  have hadd : w.heap.size + 1 + 1 + 1 + 1 = w.heap.size + 4 := rfl
  rw [hW0] at hD0 hL0 hz0 hB0 ⊢
  clear hW0 b0 b1 b2 b3 b4
  have hT0 := hT.below hB0 hsz
  clear hadd
  refine wpIn_rangeFunc_ownG rfl h1 (gf := 49) (lb := #[.pointer (some ⟨w.heap.size + 4, 0, none⟩)]) rfl trivial (enters_of Tryd.func49 (by kernel_rfl) rfl)
    (iter_stopsK 3 (by omega) (w.heap.size + 4) s hmax _ hT0 hD0.2.2.2.cell) (fun h k => h.trans k) (KpC.put (by omega) (by omega)) (Below.refl _ _) (fun _ => rfl)
    (fun pre W => ((good pre ∧ DBox w.heap.size s W) ∧ DCol w.heap.size pre W) ∧ Below w.heap.size W0 W)
    (fun c pre W => (c = .ret ∧ ∃ ini x, pre = ini ++ [x] ∧ good ini ∧ x.2 = -1 ∧ Boxed W w.heap.size 26 (.slice none 0 0) ∧ Boxed W (w.heap.size + 1) 3 (.int .i64 (x.1 : Int)) ∧ Boxed W (w.heap.size + 2) 27 (.int .i64 6)) ∧ Below w.heap.size W0 W)
    (OwnFrom.and (Own.from (fun p A B row hs hg hr => ⟨⟨hs.1.1, DBox.own _ _ p A B row hs.1.2 hg hr⟩, DCol.own _ p A B row hs.2 hg hr⟩) _) (ownFrom_below (by omega) (by omega)))
    (fun c => OwnFrom.and (Own.from (fun p A B row hs hg hr => by
      obtain ⟨hc, ini, x, e1, e2, e3, e4, e5, e6⟩ := hs
      exact ⟨hc, ini, x, e1, e2, e3, boxed_own w.heap.size 26 (fun _ => .slice none 0 0) p A B row e4 hg hr, boxed_own (w.heap.size + 1) 3 (fun _ => .int .i64 (x.1 : Int)) p A B row e5 hg hr, boxed_own (w.heap.size + 2) 27 (fun _ => .int .i64 6) p A B row e6 hg hr⟩) _) (ownFrom_below (by omega) (by omega)))
    ⟨⟨⟨fun x hx => by simp at hx, hD0⟩, _, hL0, World.ownsRow_nil _ _ _ _, trivial⟩, Below.refl _ _⟩
    (fun x => { tmps := #[.string s, undef, .pointer (some ⟨w.heap.size, 0, none⟩), .pointer (some ⟨w.heap.size + 1, 0, none⟩), .pointer (some ⟨w.heap.size + 2, 0, none⟩), .pointer (some ⟨w.heap.size + 3, 0, none⟩), .int .i64 (x.1 : Int), .int .i32 x.2, .string s, .func (.func 49) #[] #[.pointer (some ⟨w.heap.size + 4, 0, none⟩)], .int .i64 (x.1 : Int), .int .i32 x.2, undef, undef, undef, undef, undef, undef, undef, undef], defers := [] }) ?assign ?body ?done ?stop
  case assign =>
    intro l x W K hK
    gi_wp2
    exact hK
  case body =>
    rintro l pre x W ⟨⟨⟨hp, hD⟩, v, hv, hrow, _⟩, hB⟩ hlt
    have hszW := hB.size
    by_cases hx : x.2 = -1
    · have hx' : (x.2 == -1) = true := by simp [hx]
      have HX := Lib.hid hx
      have c0 := hD.1.cell
      have f0 := hD.1.frozen
      have c1 := hD.2.1.cell
      have f1 := hD.2.1.frozen
      have c2 := hD.2.2.1.cell
      have f2 := hD.2.2.1.frozen
      clear hx
      gi_wp2
      have h3 := three_boxes hD.1 hD.2.1 hD.2.2.1 (.slice none 0 0) (.int .i64 (x.1 : Int)) (.int .i64 6)
      exact ⟨h3.2.1.from _, ⟨rfl, pre, x, rfl, hp, HX.out, h3.1.1, h3.1.2.1, h3.1.2.2⟩, hB.trans h3.2.2⟩
    · have hx' : (x.2 == -1) = false := by simp [hx]
      have HX := Lib.hid hx
      have hc := hv.cell
      have h63 : pre.length + 1 ≤ maxLen := by unfold maxLen; have := Hlen.out; unfold charsOf at hlt; omega
      have h47 : (pre.length + 1) * 4 ≤ 140737488355328 := by have := Hlen.out; unfold charsOf at hlt; omega
      clear hx
      gi_wp2_with (gi_at_builtin; refine wpListIn_append_own _ rfl _ _ 26 rfl w.heap.size 21 i0 (.int .i32 0) 1 4 Tryd.underlying26 Hi.out Hz0.out Hz1.out Hz2.out rfl (by decide) _ pre.length (pre.map fun x => .int .i32 x.2) rfl (hrow.alloc _) ⟨W.heap.size, 0, none⟩ 1 1 [.int .i32 x.2] rfl rfl (cell_one_new _ _ _) (by simp [Value.oneCell']) h63 h47 (by have := hB.size; simp; omega) ?_; intro v' w1 hown' hgrow _; obtain ⟨g', cap', rfl⟩ := ownsRow_succ hown'; obtain ⟨hv1, hv2, hr2, hk2, hb2⟩ := hv.appended (by decide) hrow (by omega) (by omega) hown' hgrow; have hc1 := hv1.cell; have hf1 := hv1.frozen)
      have hDs := hD.step (v' := .slice (some ⟨g', 0, none⟩) (pre.length + 1) cap') hrow hgrow
      refine ⟨hk2.from _, ⟨hb2.mono (by omega), (show _ = _ from hDs.2.2.2).trans (show _ = _ from hD.2.2.2).symm⟩, ⟨⟨fun y hy => ?_, hDs⟩, _, hv2, ?_, trivial⟩, hB.trans hb2⟩
      · rcases List.mem_append.1 hy with h | h
        · exact hp y h
        · simp only [List.mem_singleton] at h
          rw [h]
          exact HX.out
      · rw [List.length_append, List.map_append]
        exact hr2
  case done =>
    rintro D ys W hD rfl ⟨⟨⟨hne, hDB⟩, v, hv, hrow, _⟩, hB⟩ hK
    have c0 := hDB.1.cell
    have f0 := hDB.1.frozen
    have c1 := hDB.2.1.cell
    have f1 := hDB.2.1.frozen
    have c2 := hDB.2.2.1.cell
    have f2 := hDB.2.2.1.frozen
    have c3 := hv.cell
    have hform := hrow
    obtain ⟨_, hvv | hvv⟩ := hform
    · obtain ⟨rfl, _⟩ := hvv
      gi_wp2
      have h3 := three_boxes hDB.1 hDB.2.1 hDB.2.2.1 (.slice none 0 0) (.int .i64 0) (.int .i64 0)
      have ho := three_own hDB.1 hDB.2.1 hDB.2.2.1 (.slice none 0 0) (.int .i64 0) (.int .i64 0) hrow
      have hK' := h3.2.1.same D _ hK rfl
      obtain ⟨W2, hW2⟩ : ∃ W2, ((W.setCell ⟨w.heap.size, 0, none⟩ (.slice none 0 0)).setCell ⟨w.heap.size + 1, 0, none⟩ (.int .i64 0)).setCell ⟨w.heap.size + 2, 0, none⟩ (.int .i64 0) = W2 := ⟨_, rfl⟩
      rw [hW2] at h3 ho hK' ⊢
      refine ⟨by simp, .inl ⟨_, _, rfl, run_takeDeferred hK', ?_⟩⟩
      have hc5 := cell_kept h3.1.1.cell (grownBy_putObj' _ D (.deferred none)) (fun r e => by cases e; exact ⟨_, hK', rfl⟩)
      have hc6 := cell_kept h3.1.2.1.cell (grownBy_putObj' _ D (.deferred none)) (fun r e => by cases e; exact ⟨_, hK', rfl⟩)
      have hc7 := cell_kept h3.1.2.2.cell (grownBy_putObj' _ D (.deferred none)) (fun r e => by cases e; exact ⟨_, hK', rfl⟩)
      refine ⟨.tuple #[.slice none 0 0, .int .i64 0, .int .i64 0], ?_, .inr ⟨hne, _, rfl, ownsRow_putObj ho _ hK' rfl⟩, hB0.trans (hB.trans (h3.2.2.trans (belowK_b (w := w) (Nat.le_refl _) _ D _ _ (by omega) hK' rfl rfl)))⟩
      simp [results, Tryd.f18, go_sem, hc5, hc6, hc7]
    · obtain ⟨g, cap, cur, rfl, _⟩ := hvv
      gi_wp2
      have h3 := three_boxes hDB.1 hDB.2.1 hDB.2.2.1 (.slice (some ⟨g, 0, none⟩) (charsOf s.data.toList).length cap) (.int .i64 0) (.int .i64 0)
      have ho := three_own hDB.1 hDB.2.1 hDB.2.2.1 (.slice (some ⟨g, 0, none⟩) (charsOf s.data.toList).length cap) (.int .i64 0) (.int .i64 0) hrow
      have hK' := h3.2.1.same D _ hK rfl
      obtain ⟨W2, hW2⟩ : ∃ W2, ((W.setCell ⟨w.heap.size, 0, none⟩ (.slice (some ⟨g, 0, none⟩) (charsOf s.data.toList).length cap)).setCell ⟨w.heap.size + 1, 0, none⟩ (.int .i64 0)).setCell ⟨w.heap.size + 2, 0, none⟩ (.int .i64 0) = W2 := ⟨_, rfl⟩
      rw [hW2] at h3 ho hK' ⊢
      refine ⟨by simp, .inl ⟨_, _, rfl, run_takeDeferred hK', ?_⟩⟩
      have hc5 := cell_kept h3.1.1.cell (grownBy_putObj' _ D (.deferred none)) (fun r e => by cases e; exact ⟨_, hK', rfl⟩)
      have hc6 := cell_kept h3.1.2.1.cell (grownBy_putObj' _ D (.deferred none)) (fun r e => by cases e; exact ⟨_, hK', rfl⟩)
      have hc7 := cell_kept h3.1.2.2.cell (grownBy_putObj' _ D (.deferred none)) (fun r e => by cases e; exact ⟨_, hK', rfl⟩)
      refine ⟨.tuple #[.slice (some ⟨g, 0, none⟩) (charsOf s.data.toList).length cap, .int .i64 0, .int .i64 0], ?_, .inr ⟨hne, _, rfl, ownsRow_putObj ho _ hK' rfl⟩, hB0.trans (hB.trans (h3.2.2.trans (belowK_b (w := w) (Nat.le_refl _) _ D _ _ (by omega) hK' rfl rfl)))⟩
      simp [results, Tryd.f18, go_sem, hc5, hc6, hc7]
  case stop =>
    rintro D c pre W hD hpre ⟨⟨rfl, ini, x, rfl, e2, e3, e4, e5, e6⟩, hB⟩ hK
    obtain ⟨t, ht⟩ := hpre
    have hbad := charsOf_bad ht.symm e3
    have HBad := Lib.hid hbad
    clear hbad
    gi_wp2
    refine ⟨by simp, .inl ⟨_, _, rfl, run_takeDeferred hK, ?_⟩⟩
    have hc5 := cell_kept e4.cell (grownBy_putObj' _ D (.deferred none)) (fun r e => by cases e; exact ⟨_, hK, rfl⟩)
    have hc6 := cell_kept e5.cell (grownBy_putObj' _ D (.deferred none)) (fun r e => by cases e; exact ⟨_, hK, rfl⟩)
    have hc7 := cell_kept e6.cell (grownBy_putObj' _ D (.deferred none)) (fun r e => by cases e; exact ⟨_, hK, rfl⟩)
    refine ⟨.tuple #[.slice none 0 0, .int .i64 (x.1 : Int), .int .i64 6], ?_, .inl ⟨ini, x.1, ?_, e2, ?_, rfl⟩, hB0.trans (hB.trans (belowK_b (w := w) (Nat.le_refl _) W D _ _ (by omega) hK rfl rfl))⟩
    · simp [results, Tryd.f18, go_sem, hc5, hc6, hc7]
    · exact HBad.out.1
    · exact HBad.out.2
end Go.Proofs.YtiefpdoefdldpaaDoor
