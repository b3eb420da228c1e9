/- What the listed variables read as gives the tables; a world for the witness. -/
import Derived.Test.YtiefpdoefdldpaaDoorCards
import Derived.Test.YtiefpdoefdldpaaDoorTie
import Derived.Lib.LaidIn
import Derived.Lib.LaidU8T
import Derived.Deep.DeepHandedRow
import Derived.Deep.DeepWitnessRowRef
import Derived.ProofKit
import Derived.OpenShut
import Derived.SizedLaws
import Derived.Test.YtiefpdoefdldpaaDoorV
namespace Go.Proofs.YtiefpdoefdldpaaDoor
open Go.ChangeShapes Go.WideShapes Go.ChangeAt Go.RowKit
open Go.Shelf

theorem own : ownKnob Tryd.prog.godebug = none := by kernel_rfl

theorem list_flat {α : Type} : ∀ (n m : Nat) (cs : List α) (f : Nat → List α), cs.length = n * m → (∀ i, i < n → (cs.drop (i * m)).take m = f i) → cs = (List.range n).flatMap f
  | 0, m, cs, f, hl, _ => by
    have : cs = [] := List.eq_nil_of_length_eq_zero (by rw [hl, Nat.zero_mul])
    rw [this]
    rfl
  | n + 1, m, cs, f, hl, h => by
    have hl1 : (cs.take (n * m)).length = n * m := by
      rw [List.length_take, hl, Nat.add_mul]
      omega
    have ih := list_flat n m (cs.take (n * m)) f hl1 (fun i hi => by
      rw [← h i (by omega), List.drop_take, List.take_take]
      congr 1
      have : (i + 1) * m ≤ n * m := Nat.mul_le_mul_right _ hi
      rw [Nat.add_mul] at this
      omega)
    have hn := h n (by omega)
    have hd : (cs.drop (n * m)).take m = cs.drop (n * m) := List.take_of_length_le (by rw [List.length_drop, hl, Nat.add_mul]; omega)
    rw [hd] at hn
    rw [List.range_succ, List.flatMap_append, ← ih, List.flatMap_singleton, ← hn, List.take_append_drop]

def ranD {H : Type} : DataW H := .agg ((List.range 23).map fun i => Lib.tabData .i32 [(ranL.getD i (0, 0, 0)).1, (ranL.getD i (0, 0, 0)).2.1, (ranL.getD i (0, 0, 0)).2.2])

theorem ran_of_reads {w : World} (h : Lib.VarReads Tryd.prog w "gabarit/chars.ranges" ranD) : RanTab w := by
  obtain ⟨g, t, cs, fuel, p, hg, hty, hvar, hd⟩ := h
  obtain rfl := Option.some.inj ((show Tryd.prog.globalNamed "gabarit/chars.ranges" = some 0 by kernel_rfl).symm.trans hg)
  obtain rfl := Option.some.inj ((show (Tryd.prog.globals[0]?).map (·.type) = some 72 by kernel_rfl).symm.trans hty)
  have c71 : Tryd.prog.cellsOf 71 = 3 := by kernel_rfl
  have c72 : Tryd.prog.cellsOf 72 = 23 * 3 := by kernel_rfl
  have c21 : Tryd.prog.cellsOf 21 = 1 := by kernel_rfl
  obtain ⟨xs, m, rfl, hx, hlen, hn, hel⟩ := DataW.trod_array Tryd.underlying72 hd
  rw [c72] at hlen
  have hcs : cs.toList = (List.range 23).flatMap fun i => [Value.int .i32 (ranL.getD i (0, 0, 0)).1, Value.int .i32 (ranL.getD i (0, 0, 0)).2.1, Value.int .i32 (ranL.getD i (0, 0, 0)).2.2] := by
    refine list_flat 23 3 cs.toList _ hlen fun i hi => ?_
    obtain ⟨fuel', d, q, hdi, he⟩ := Lib.array_elem Tryd.underlying72 hd i hi
    simp only [List.getElem?_map, List.getElem?_range hi, Option.map_some, Option.some.injEq] at hdi
    subst hdi
    rw [c71] at he
    exact Lib.cells_of_tab Tryd.underlying71 Tryd.underlying21 c21 c71 he
  have hcs2 : cs = ranCells := by
    apply Array.ext'
    rw [hcs]
    kernel_rfl
  unfold World.var? at hvar
  rw [hg] at hvar
  simp only [Option.bind_some] at hvar
  split at hvar
  · rename_i cs' t' fr' hb
    cases hvar
    rw [hcs2] at hb
    exact ⟨t', fr', hb⟩
  · cases hvar

/-- The tables, from what the row lists and the shape of the world. -/
theorem tabs_of {W : World} (hL : laidMetH Tryd.prog Rows.charsKindsRow.laid W) (hS : W.ShapedOpen Tryd.prog) : Tabs W := by
  have hL' : laidMet Tryd.prog Rows.charsKindsRow.laid W := hL
  have r0 := Lib.laidMet.reads hL' (n := "gabarit/chars.ranges") (d := Rows.laid_gabarit_chars_ranges) (.tail _ (.tail _ (.tail _ (.tail _ (.tail _ (.tail _ (.head _)))))))
  have r1 := Lib.laidMet.reads hL' (n := "unicode/utf8.first") (d := Rows.laid_unicode_utf8_first) (.tail _ (.tail _ (.tail _ (.tail _ (.tail _ (.tail _ (.tail _ (.head _))))))))
  have r2 := Lib.laidMet.reads hL' (n := "unicode/utf8.acceptRanges") (d := Rows.laid_unicode_utf8_acceptRanges) (.tail _ (.tail _ (.tail _ (.head _))))
  have r8 := Lib.laidMet.reads hL' (n := "math/bits.deBruijn64tab") (d := Rows.laid_math_bits_deBruijn64tab) (.tail _ (.head _))
  rw [show (Rows.laid_gabarit_chars_ranges : DataW Unit) = ranD by kernel_rfl] at r0
  rw [show Rows.laid_unicode_utf8_first = Lib.firstData by kernel_rfl] at r1
  rw [show (Rows.laid_unicode_utf8_acceptRanges : DataW Unit) = Lib.acceptData by kernel_rfl] at r2
  refine ⟨ran_of_reads r0, utf8Tabs_of_readsT (U8Types.of260 Tryd.lays260) ⟨by kernel_rfl, by kernel_rfl, by kernel_rfl, by kernel_rfl, by kernel_rfl, by kernel_rfl, by kernel_rfl⟩ r1 r2,
    cell_of_shapedOpen_int (zero := #[.int .i64 0]) (t := 3) hS (of_decide_eq_true (by kernel_rfl)) (by kernel_rfl) rfl (by kernel_rfl) (by kernel_rfl) Tryd.underlying3, ?_⟩
  obtain ⟨g, t, cs, fuel, p, hg, hty, hvar, hd⟩ := r8
  obtain rfl := Option.some.inj ((show Tryd.prog.globalNamed "math/bits.deBruijn64tab" = some 8 by kernel_rfl).symm.trans hg)
  unfold World.var? at hvar
  rw [hg] at hvar
  simp only [Option.bind_some] at hvar
  split at hvar
  · rename_i hb
    have := (Array.getElem?_eq_some_iff.1 hb).1
    omega
  · cases hvar

/-! ### a world for the witness: the settled one, with the variables as their initialisers lay them -/
noncomputable def low : Nat := (World.holding Tryd.prog default ⟨#[], #[], []⟩).heap.size
def putCells (h : Array Obj) (g : Nat) (cs : Array Value) : Array Obj := h.modify g fun
  | .cells _ t frozen => .cells cs t frozen
  | o => o
noncomputable def laidWorld (os : Os) : World :=
  let w0 := World.holding Tryd.prog os ⟨#[.cells #[.string ⟨#[105, 110, 118, 97, 108, 105, 100, 32, 115, 121, 110, 116, 97, 120]⟩] 122, .cells #[.string ⟨#[118, 97, 108, 117, 101, 32, 111, 117, 116, 32, 111, 102, 32, 114, 97, 110, 103, 101]⟩] 122], #[], []⟩
  let h0 := putCells w0.heap 0 ranCells
  let h1 := putCells h0 1 (Lib.firstTab.map fun z => Value.int .u8 z).toArray
  let h2 := putCells h1 2 ((List.range 16).flatMap fun i => [Value.int .u8 (Lib.accLo i), Value.int .u8 (Lib.accHi i)]).toArray
  let h4 := putCells h2 4 #[.iface 120 (.pointer (some ⟨low, 0, none⟩))]
  let h5 := putCells h4 5 #[.iface 120 (.pointer (some ⟨low + 1, 0, none⟩))]
  let h6 := putCells h5 6 (([1, 10, 100, 1000, 10000, 100000, 1000000, 10000000, 100000000, 1000000000, 10000000000, 100000000000, 1000000000000, 10000000000000, 100000000000000, 1000000000000000, 10000000000000000, 100000000000000000, 1000000000000000000, 10000000000000000000] : List Int).map fun z => Value.int .u64 z).toArray
  let h7 := putCells h6 7 (([0, 1, 28, 2, 29, 14, 24, 3, 30, 22, 20, 15, 25, 17, 4, 8, 31, 27, 13, 23, 21, 19, 16, 7, 26, 12, 18, 6, 11, 5, 10, 9] : List Int).map fun z => Value.int .u8 z).toArray
  let h8 := putCells h7 8 (([0, 1, 56, 2, 57, 49, 28, 3, 61, 58, 42, 50, 38, 29, 17, 4, 62, 47, 59, 36, 45, 43, 51, 22, 53, 39, 33, 30, 24, 18, 12, 5, 63, 55, 48, 27, 60, 41, 37, 16, 46, 35, 44, 21, 52, 32, 23, 11, 54, 26, 40, 15, 34, 20, 31, 10, 25, 14, 19, 9, 13, 8, 7, 6] : List Int).map fun z => Value.int .u8 z).toArray
  { w0 with heap := h8 }
set_option maxRecDepth 100000 in
theorem laid_met (os : Os) (args : Array Value) : laidMet Tryd.prog Rows.charsKindsRow.laid ((laidWorld os).forCall (fun _ _ => 0) ⟨#[], args, []⟩).memory :=
  (LaidIn.of_run (l := Rows.charsKindsRow.laid) [0, 1, 2, 3, 4, 5, 6, 7, 8, low, low + 1] 8 (by kernel_rfl) (by kernel_rfl) (by kernel_rfl) (by kernel_rfl)).met
end Go.Proofs.YtiefpdoefdldpaaDoor
