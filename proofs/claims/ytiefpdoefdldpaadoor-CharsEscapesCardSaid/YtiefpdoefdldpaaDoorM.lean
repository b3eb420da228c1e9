/- The two maps of package chars: the escapes of characters, and the characters of named escapes. -/
import Derived.Maps.OwnIn
import Derived.Maps.StringElems
import Derived.Test.YtiefpdoefdldpaaDoorB
namespace Go.Proofs.YtiefpdoefdldpaaDoor
open Go.RowKit

def escM (attr : Bool) : DataW Unit :=
  .map ((if attr then [(.int .i32 9, .lit (.string [38, 35, 57, 59])), (.int .i32 10, .lit (.string [38, 35, 49, 48, 59]))] else []) ++ [(.int .i32 13, .lit (.string [38, 35, 49, 51, 59]))] ++
    (if attr then [(.int .i32 34, .lit (.string [38, 113, 117, 111, 116, 59]))] else []) ++
    [(.int .i32 38, .lit (.string [38, 97, 109, 112, 59])), (.int .i32 60, .lit (.string [38, 108, 116, 59])), (.int .i32 62, .lit (.string [38, 103, 116, 59]))])

theorem key21 : Maps.Keyed Tryd.prog 21 := Maps.int_keyed Tryd.underlying21
theorem below_row {B b : Nat} {a w w' : World} (h : Below B a w) (hg : w.grownBy w' (some b)) (hB : B ≤ w.heap.size) (hb : B ≤ b) : Below B a w' := h.grown hg hB (fun k e => by cases e; exact hb)

theorem pe (l : List UInt8) (h : l.length ≤ 9) : plainElem (H := Unit) Tryd.prog 9 (.string ⟨l.toArray⟩) = some (.lit (.string l), []) :=
  plainElem_string Tryd.underlying9 (by simp [ByteArray.size, maxLen]; omega)
set_option maxRecDepth 100000 in
set_option maxHeartbeats 1000000 in
theorem escapesOf_any (attr : Bool) (w : World) : Calls Tryd.prog 36 #[.bool attr] w fun e w' => ∃ b n, e = .returned (.map (some b)) ∧ w.heap.size ≤ b ∧ w'.ownsMap Tryd.prog 21 (plainElem Tryd.prog 9) b n (escM attr) ∧ Below w.heap.size w w' := by
  have hmm := @run_makeMap Tryd.prog
  have h0 := World.ownsMap_made (H := Unit) w Tryd.prog 21 (plainElem Tryd.prog 9)
  have hb0 : Below w.heap.size w (w.alloc (.map #[] 0)) := (Below.refl _ _).alloc (Nat.le_refl _) _
  have hml : ∀ n : Nat, n < 100 → n < maxLen := fun n h => by unfold maxLen; omega
  obtain ⟨w1, r1, o1, g1⟩ := h0.update key21 Tryd.underlying55 (hml _ (by omega)) (key := .int .i32 60) (val := .string ⟨#[38, 108, 116, 59]⟩) (Maps.keyOf_int_mk Tryd.underlying21 (by decide)) (pe [38, 108, 116, 59] (by decide))
  have b1 := below_row hb0 g1 hb0.size (Nat.le_refl _)
  obtain ⟨w2, r2, o2, g2⟩ := o1.update key21 Tryd.underlying55 (hml _ (by omega)) (key := .int .i32 62) (val := .string ⟨#[38, 103, 116, 59]⟩) (Maps.keyOf_int_mk Tryd.underlying21 (by decide)) (pe [38, 103, 116, 59] (by decide))
  have b2 := below_row b1 g2 b1.size (Nat.le_refl _)
  obtain ⟨w3, r3, o3, g3⟩ := o2.update key21 Tryd.underlying55 (hml _ (by omega)) (key := .int .i32 38) (val := .string ⟨#[38, 97, 109, 112, 59]⟩) (Maps.keyOf_int_mk Tryd.underlying21 (by decide)) (pe [38, 97, 109, 112, 59] (by decide))
  have b3 := below_row b2 g3 b2.size (Nat.le_refl _)
  obtain ⟨w4, r4, o4, g4⟩ := o3.update key21 Tryd.underlying55 (hml _ (by omega)) (key := .int .i32 13) (val := .string ⟨#[38, 35, 49, 51, 59]⟩) (Maps.keyOf_int_mk Tryd.underlying21 (by decide)) (pe [38, 35, 49, 51, 59] (by decide))
  have b4 := below_row b3 g4 b3.size (Nat.le_refl _)
  cases attr
  · have oo := o4
    rw [show (((((DataW.map [] : DataW Unit).put (.int .i32 60) _).put (.int .i32 62) _).put (.int .i32 38) _).put (.int .i32 13) _) = escM false by kernel_rfl] at oo
    have HO := Lib.hid oo
    clear oo
    go_enter Tryd.func36, Tryd.ntmps36
    go_wp2
    go_ret
    exact ⟨_, _, rfl, Nat.le_refl _, HO.out, b4⟩
  · obtain ⟨w5, r5, o5, g5⟩ := o4.update key21 Tryd.underlying55 (hml _ (by omega)) (key := .int .i32 34) (val := .string ⟨#[38, 113, 117, 111, 116, 59]⟩) (Maps.keyOf_int_mk Tryd.underlying21 (by decide)) (pe [38, 113, 117, 111, 116, 59] (by decide))
    have b5 := below_row b4 g5 b4.size (Nat.le_refl _)
    obtain ⟨w6, r6, o6, g6⟩ := o5.update key21 Tryd.underlying55 (hml _ (by omega)) (key := .int .i32 9) (val := .string ⟨#[38, 35, 57, 59]⟩) (Maps.keyOf_int_mk Tryd.underlying21 (by decide)) (pe [38, 35, 57, 59] (by decide))
    have b6 := below_row b5 g6 b5.size (Nat.le_refl _)
    obtain ⟨w7, r7, o7, g7⟩ := o6.update key21 Tryd.underlying55 (hml _ (by omega)) (key := .int .i32 10) (val := .string ⟨#[38, 35, 49, 48, 59]⟩) (Maps.keyOf_int_mk Tryd.underlying21 (by decide)) (pe [38, 35, 49, 48, 59] (by decide))
    have b7 := below_row b6 g7 b6.size (Nat.le_refl _)
    have oo := o7
    rw [show ((((((((DataW.map [] : DataW Unit).put (.int .i32 60) _).put (.int .i32 62) _).put (.int .i32 38) _).put (.int .i32 13) _).put (.int .i32 34) _).put (.int .i32 9) _).put (.int .i32 10) _) = escM true by kernel_rfl] at oo
    have HO := Lib.hid oo
    clear oo
    go_enter Tryd.func36, Tryd.ntmps36
    go_wp2
    go_ret
    exact ⟨_, _, rfl, Nat.le_refl _, HO.out, b7⟩

def namM : DataW Unit := .map [(.string [97, 109, 112], .lit (.int .i32 38)), (.string [97, 112, 111, 115], .lit (.int .i32 39)), (.string [103, 116], .lit (.int .i32 62)), (.string [108, 116], .lit (.int .i32 60)), (.string [113, 117, 111, 116], .lit (.int .i32 34))]
def namL (l : List UInt8) : Option Int := if l = [108, 116] then some 60 else if l = [103, 116] then some 62 else if l = [97, 109, 112] then some 38 else if l = [113, 117, 111, 116] then some 34 else if l = [97, 112, 111, 115] then some 39 else none
theorem key9 : Maps.Keyed Tryd.prog 9 := Maps.string_keyed Tryd.underlying9
theorem ko9 (l : List UInt8) (h : l.length ≤ 200) : keyOf Tryd.prog 9 (.string ⟨l.toArray⟩) = some (.string l) := by
  have := WideMaps.keyOf_string_mk (P := Tryd.prog) (k := 9) Tryd.underlying9 (s := ⟨l.toArray⟩) (by simp [ByteArray.size, maxLen]; omega)
  exact this

set_option maxRecDepth 100000 in
set_option maxHeartbeats 1000000 in
theorem namedEscapes_any (w : World) : Calls Tryd.prog 41 #[] w fun e w' => ∃ b n, e = .returned (.map (some b)) ∧ w.heap.size ≤ b ∧ w'.ownsMap Tryd.prog 9 (plainElem Tryd.prog 21) b n namM ∧ Below w.heap.size w w' := by
  have hmm := @run_makeMap Tryd.prog
  have h0 := World.ownsMap_made (H := Unit) w Tryd.prog 9 (plainElem Tryd.prog 21)
  have hb0 : Below w.heap.size w (w.alloc (.map #[] 0)) := (Below.refl _ _).alloc (Nat.le_refl _) _
  have hml : ∀ n : Nat, n < 100 → n < maxLen := fun n h => by unfold maxLen; omega
  obtain ⟨w1, r1, o1, g1⟩ := h0.update key9 Tryd.underlying62 (hml _ (by omega)) (key := .string ⟨#[108, 116]⟩) (val := .int .i32 60) (ko9 [108, 116] (by decide)) (plainElem_int Tryd.underlying21 (by decide))
  have b1 := below_row hb0 g1 hb0.size (Nat.le_refl _)
  obtain ⟨w2, r2, o2, g2⟩ := o1.update key9 Tryd.underlying62 (hml _ (by omega)) (key := .string ⟨#[103, 116]⟩) (val := .int .i32 62) (ko9 [103, 116] (by decide)) (plainElem_int Tryd.underlying21 (by decide))
  have b2 := below_row b1 g2 b1.size (Nat.le_refl _)
  obtain ⟨w3, r3, o3, g3⟩ := o2.update key9 Tryd.underlying62 (hml _ (by omega)) (key := .string ⟨#[97, 109, 112]⟩) (val := .int .i32 38) (ko9 [97, 109, 112] (by decide)) (plainElem_int Tryd.underlying21 (by decide))
  have b3 := below_row b2 g3 b2.size (Nat.le_refl _)
  obtain ⟨w4, r4, o4, g4⟩ := o3.update key9 Tryd.underlying62 (hml _ (by omega)) (key := .string ⟨#[113, 117, 111, 116]⟩) (val := .int .i32 34) (ko9 [113, 117, 111, 116] (by decide)) (plainElem_int Tryd.underlying21 (by decide))
  have b4 := below_row b3 g4 b3.size (Nat.le_refl _)
  obtain ⟨w5, r5, o5, g5⟩ := o4.update key9 Tryd.underlying62 (hml _ (by omega)) (key := .string ⟨#[97, 112, 111, 115]⟩) (val := .int .i32 39) (ko9 [97, 112, 111, 115] (by decide)) (plainElem_int Tryd.underlying21 (by decide))
  have b5 := below_row b4 g5 b4.size (Nat.le_refl _)
  have oo := o5
  rw [show ((((((DataW.map [] : DataW Unit).put (.string [108, 116]) _).put (.string [103, 116]) _).put (.string [97, 109, 112]) _).put (.string [113, 117, 111, 116]) _).put (.string [97, 112, 111, 115]) _) = namM by kernel_rfl] at oo
  have HO := Lib.hid oo
  clear oo
  go_enter Tryd.func41, Tryd.ntmps41
  go_wp2
  go_ret
  exact ⟨_, _, rfl, Nat.le_refl _, HO.out, b5⟩

theorem nam_has (l : List UInt8) : Maps.has namM (.string l) = (namL l).isSome := by
  by_cases h0 : l = [108, 116]
  · subst h0; rfl
  have g0 : ¬ [108, 116] = l := fun e => h0 e.symm
  by_cases h1 : l = [103, 116]
  · subst h1; rfl
  have g1 : ¬ [103, 116] = l := fun e => h1 e.symm
  by_cases h2 : l = [97, 109, 112]
  · subst h2; rfl
  have g2 : ¬ [97, 109, 112] = l := fun e => h2 e.symm
  by_cases h3 : l = [113, 117, 111, 116]
  · subst h3; rfl
  have g3 : ¬ [113, 117, 111, 116] = l := fun e => h3 e.symm
  by_cases h4 : l = [97, 112, 111, 115]
  · subst h4; rfl
  have g4 : ¬ [97, 112, 111, 115] = l := fun e => h4 e.symm
  simp only [namM, namL, Maps.has_eq, List.any_cons, List.any_nil, Lit.sameKey, beq_eq_false_iff_ne.2 g0, beq_eq_false_iff_ne.2 g1, beq_eq_false_iff_ne.2 g2, beq_eq_false_iff_ne.2 g3, beq_eq_false_iff_ne.2 g4, h0, h1, h2, h3, h4, if_false, Option.isSome_none, Bool.or_false]
theorem nam_at (l : List UInt8) : namM.atKey (.string l) (.lit (.int .i32 0)) = .lit (.int .i32 ((namL l).getD 0)) := by
  by_cases h0 : l = [108, 116]
  · subst h0; rfl
  have g0 : ¬ [108, 116] = l := fun e => h0 e.symm
  by_cases h1 : l = [103, 116]
  · subst h1; rfl
  have g1 : ¬ [103, 116] = l := fun e => h1 e.symm
  by_cases h2 : l = [97, 109, 112]
  · subst h2; rfl
  have g2 : ¬ [97, 109, 112] = l := fun e => h2 e.symm
  by_cases h3 : l = [113, 117, 111, 116]
  · subst h3; rfl
  have g3 : ¬ [113, 117, 111, 116] = l := fun e => h3 e.symm
  by_cases h4 : l = [97, 112, 111, 115]
  · subst h4; rfl
  have g4 : ¬ [97, 112, 111, 115] = l := fun e => h4 e.symm
  simp only [namM, namL, DataW.atKey, List.find?_cons, List.find?_nil, Lit.sameKey, beq_eq_false_iff_ne.2 g0, beq_eq_false_iff_ne.2 g1, beq_eq_false_iff_ne.2 g2, beq_eq_false_iff_ne.2 g3, beq_eq_false_iff_ne.2 g4, h0, h1, h2, h3, h4, if_false, Option.getD_none]

def escL (attr : Bool) (c : Int) : Option (List UInt8) :=
  if c = 60 then some [38, 108, 116, 59] else if c = 62 then some [38, 103, 116, 59] else if c = 38 then some [38, 97, 109, 112, 59] else if c = 13 then some [38, 35, 49, 51, 59]
  else if attr = true ∧ c = 34 then some [38, 113, 117, 111, 116, 59] else if attr = true ∧ c = 9 then some [38, 35, 57, 59] else if attr = true ∧ c = 10 then some [38, 35, 49, 48, 59] else none
theorem esc_has (attr : Bool) (c : Int) : Maps.has (escM attr) (.int .i32 c) = (escL attr c).isSome := by
  cases attr
  · by_cases h0 : c = 60
    · subst h0; rfl
    have g0 : ¬ (60 : Int) = c := fun e => h0 e.symm
    by_cases h1 : c = 62
    · subst h1; rfl
    have g1 : ¬ (62 : Int) = c := fun e => h1 e.symm
    by_cases h2 : c = 38
    · subst h2; rfl
    have g2 : ¬ (38 : Int) = c := fun e => h2 e.symm
    by_cases h3 : c = 13
    · subst h3; rfl
    have g3 : ¬ (13 : Int) = c := fun e => h3 e.symm
    by_cases h4 : c = 34
    · subst h4; rfl
    have g4 : ¬ (34 : Int) = c := fun e => h4 e.symm
    by_cases h5 : c = 9
    · subst h5; rfl
    have g5 : ¬ (9 : Int) = c := fun e => h5 e.symm
    by_cases h6 : c = 10
    · subst h6; rfl
    have g6 : ¬ (10 : Int) = c := fun e => h6 e.symm
    simp only [escM, escL, Maps.has_eq, if_true, if_false, Bool.false_eq_true, List.nil_append, List.append_nil, List.cons_append, List.any_cons, List.any_nil, Lit.sameKey, h0, h1, h2, h3, h4, h5, h6, g0, g1, g2, g3, g4, g5, g6, true_and, false_and, and_false, decide_false, Option.isSome_none, Bool.or_false]
  · by_cases h0 : c = 60
    · subst h0; rfl
    have g0 : ¬ (60 : Int) = c := fun e => h0 e.symm
    by_cases h1 : c = 62
    · subst h1; rfl
    have g1 : ¬ (62 : Int) = c := fun e => h1 e.symm
    by_cases h2 : c = 38
    · subst h2; rfl
    have g2 : ¬ (38 : Int) = c := fun e => h2 e.symm
    by_cases h3 : c = 13
    · subst h3; rfl
    have g3 : ¬ (13 : Int) = c := fun e => h3 e.symm
    by_cases h4 : c = 34
    · subst h4; rfl
    have g4 : ¬ (34 : Int) = c := fun e => h4 e.symm
    by_cases h5 : c = 9
    · subst h5; rfl
    have g5 : ¬ (9 : Int) = c := fun e => h5 e.symm
    by_cases h6 : c = 10
    · subst h6; rfl
    have g6 : ¬ (10 : Int) = c := fun e => h6 e.symm
    simp only [escM, escL, Maps.has_eq, if_true, if_false, Bool.false_eq_true, List.nil_append, List.append_nil, List.cons_append, List.any_cons, List.any_nil, Lit.sameKey, h0, h1, h2, h3, h4, h5, h6, g0, g1, g2, g3, g4, g5, g6, true_and, false_and, and_false, decide_false, Option.isSome_none, Bool.or_false]
theorem esc_at (attr : Bool) (c : Int) : (escM attr).atKey (.int .i32 c) (.lit (.string [])) = .lit (.string ((escL attr c).getD [])) := by
  cases attr
  · by_cases h0 : c = 60
    · subst h0; rfl
    have g0 : ¬ (60 : Int) = c := fun e => h0 e.symm
    by_cases h1 : c = 62
    · subst h1; rfl
    have g1 : ¬ (62 : Int) = c := fun e => h1 e.symm
    by_cases h2 : c = 38
    · subst h2; rfl
    have g2 : ¬ (38 : Int) = c := fun e => h2 e.symm
    by_cases h3 : c = 13
    · subst h3; rfl
    have g3 : ¬ (13 : Int) = c := fun e => h3 e.symm
    by_cases h4 : c = 34
    · subst h4; rfl
    have g4 : ¬ (34 : Int) = c := fun e => h4 e.symm
    by_cases h5 : c = 9
    · subst h5; rfl
    have g5 : ¬ (9 : Int) = c := fun e => h5 e.symm
    by_cases h6 : c = 10
    · subst h6; rfl
    have g6 : ¬ (10 : Int) = c := fun e => h6 e.symm
    simp only [escM, escL, DataW.atKey, if_true, if_false, Bool.false_eq_true, List.nil_append, List.append_nil, List.cons_append, List.find?_cons, List.find?_nil, Lit.sameKey, h0, h1, h2, h3, h4, h5, h6, g0, g1, g2, g3, g4, g5, g6, true_and, false_and, and_false, decide_false, Option.getD_none]
  · by_cases h0 : c = 60
    · subst h0; rfl
    have g0 : ¬ (60 : Int) = c := fun e => h0 e.symm
    by_cases h1 : c = 62
    · subst h1; rfl
    have g1 : ¬ (62 : Int) = c := fun e => h1 e.symm
    by_cases h2 : c = 38
    · subst h2; rfl
    have g2 : ¬ (38 : Int) = c := fun e => h2 e.symm
    by_cases h3 : c = 13
    · subst h3; rfl
    have g3 : ¬ (13 : Int) = c := fun e => h3 e.symm
    by_cases h4 : c = 34
    · subst h4; rfl
    have g4 : ¬ (34 : Int) = c := fun e => h4 e.symm
    by_cases h5 : c = 9
    · subst h5; rfl
    have g5 : ¬ (9 : Int) = c := fun e => h5 e.symm
    by_cases h6 : c = 10
    · subst h6; rfl
    have g6 : ¬ (10 : Int) = c := fun e => h6 e.symm
    simp only [escM, escL, DataW.atKey, if_true, if_false, Bool.false_eq_true, List.nil_append, List.append_nil, List.cons_append, List.find?_cons, List.find?_nil, Lit.sameKey, h0, h1, h2, h3, h4, h5, h6, g0, g1, g2, g3, g4, g5, g6, true_and, false_and, and_false, decide_false, Option.getD_none]
end Go.Proofs.YtiefpdoefdldpaaDoor
