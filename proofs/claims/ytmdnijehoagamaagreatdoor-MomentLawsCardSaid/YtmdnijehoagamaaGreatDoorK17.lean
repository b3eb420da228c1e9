/- TA -/
import Derived.Carry
import Derived.ChangeSame
import Derived.Deep.DeepHandedRow
import Derived.Deep.DeepWitnessRowRef
import Derived.JoinedAt
import Derived.JoinedOf
import Derived.Lib.LaidIn
import Derived.Lib.LaidTab
import Derived.Lib.LaidU8
import Derived.ProofKit
import Derived.RowKit3
import Derived.SizedLaws
import Derived.Test.YtmdnijehoagamaaGreatDoorCards
import Derived.Test.YtmdnijehoagamaaGreatDoorTie
import Derived.Test.YtmdnijehoagamaaGreatDoorK16
set_option linter.unusedVariables false
set_option linter.unusedSimpArgs false
namespace Go.Proofs.YtmdnijehoagamaaGreatDoor
open Go.ChangeShapes Go.WideShapes Go.ChangeAt Go.RowKit Go.Joins
open Go.Shelf
theorem own : ownKnob Tryz.prog.godebug = none := by kernel_rfl
theorem cellsS : Tryz.prog.cellsOf 9 = 1 := by kernel_rfl
theorem cellsD : Tryz.prog.cellsOf 23 = 3 := by kernel_rfl
theorem cellsM : Tryz.prog.cellsOf 25 = 11 := by kernel_rfl
theorem cellsI : Tryz.prog.cellsOf 3 = 1 := by kernel_rfl
theorem cellsB : Tryz.prog.cellsOf 4 = 1 := by kernel_rfl
theorem array11 {α : Type} {cs : Array α} (h : cs.size = 11) : ∃ c0 c1 c2 c3 c4 c5 c6 c7 c8 c9 c10, cs = #[c0, c1, c2, c3, c4, c5, c6, c7, c8, c9, c10] := by
  obtain ⟨l⟩ := cs
  match l, h with
  | [c0, c1, c2, c3, c4, c5, c6, c7, c8, c9, c10], _ => exact ⟨c0, c1, c2, c3, c4, c5, c6, c7, c8, c9, c10, rfl⟩
theorem trod_struct9 {H : Type} {enc : TypeId × Value → H} {P : Program} {w : World} {base : Nat} {sp : Nat → Bool} {held : Bool} {t : TypeId} {f0 f1 f2 f3 f4 f5 f6 f7 f8 : Field} {fuel : Nat} {cs : List Value} {x : DataW H × List MemPlace} (ht : P.underlying t = some (.struct #[f0, f1, f2, f3, f4, f5, f6, f7, f8])) (h : DataW.trod enc P w base sp held fuel t cs = some x) :
    ∃ y0 y1 y2 y3 y4 y5 y6 y7 y8 n, x = (.agg ([y0, y1, y2, y3, y4, y5, y6, y7, y8].map (·.1)), [y0, y1, y2, y3, y4, y5, y6, y7, y8].flatMap (·.2)) ∧ DataW.trod enc P w base sp held n f0.type ((cs.drop f0.offset).take (P.cellsOf f0.type)) = some y0 ∧ DataW.trod enc P w base sp held n f1.type ((cs.drop f1.offset).take (P.cellsOf f1.type)) = some y1 ∧ DataW.trod enc P w base sp held n f2.type ((cs.drop f2.offset).take (P.cellsOf f2.type)) = some y2 ∧ DataW.trod enc P w base sp held n f3.type ((cs.drop f3.offset).take (P.cellsOf f3.type)) = some y3 ∧ DataW.trod enc P w base sp held n f4.type ((cs.drop f4.offset).take (P.cellsOf f4.type)) = some y4 ∧ DataW.trod enc P w base sp held n f5.type ((cs.drop f5.offset).take (P.cellsOf f5.type)) = some y5 ∧ DataW.trod enc P w base sp held n f6.type ((cs.drop f6.offset).take (P.cellsOf f6.type)) = some y6 ∧ DataW.trod enc P w base sp held n f7.type ((cs.drop f7.offset).take (P.cellsOf f7.type)) = some y7 ∧ DataW.trod enc P w base sp held n f8.type ((cs.drop f8.offset).take (P.cellsOf f8.type)) = some y8 := by
  obtain ⟨xs, n, _, rfl, hl, hlen, hf⟩ := DataW.trod_struct ht h
  match xs, hlen with
  | [y0, y1, y2, y3, y4, y5, y6, y7, y8], _ => exact ⟨y0, y1, y2, y3, y4, y5, y6, y7, y8, n, rfl, hf 0 f0 rfl, hf 1 f1 rfl, hf 2 f2 rfl, hf 3 f3 rfl, hf 4 f4 rfl, hf 5 f5 rfl, hf 6 f6 rfl, hf 7 f7 rfl, hf 8 f8 rfl⟩
set_option maxRecDepth 100000 in
/-- A moment that is read as an argument. -/
theorem mom_of {H : Type} {enc : TypeId × Value → H} {W : World} {b0 : Nat} {v : Value} {d : DataW H} {p : List MemPlace} (hv : Value.okWide Tryz.prog W .any b0 25 v) (h : DataW.Trod enc Tryz.prog W 0 (fun _ => true) true 25 v d p) :
    ∃ a : Mom, v = a.v ∧ p = [] ∧ ∀ (W' : World) (sp : Nat → Bool), DataW.Trod enc Tryz.prog W' 0 sp true 25 v d p := by
  obtain ⟨cs, rfl, hsz⟩ := okWide_struct Tryz.underlying25 hv
  obtain ⟨c0, c1, c2, c3, c4, c5, c6, c7, c8, c9, c10, rfl⟩ := array11 (hsz.trans cellsM)
  obtain ⟨fuel, ht⟩ := h
  obtain ⟨y0, y1, y2, y3, y4, y5, y6, y7, y8, n, hxs, h0, h1, h2, h3, h4, h5, h6, h7, h8⟩ := trod_struct9 Tryz.underlying25 ht
  dsimp only at h0 h1 h2 h3 h4 h5 h6 h7 h8
  simp only [Value.cells, cellsI, cellsB, cellsD, List.drop, List.take] at h0 h1 h2 h3 h4 h5 h6 h7 h8
  obtain ⟨n0, e0, rfl, w0⟩ := DataW.trod_int Tryz.underlying3 h0
  obtain ⟨n1, e1, rfl, w1⟩ := DataW.trod_int Tryz.underlying3 h1
  obtain ⟨n2, e2, rfl, w2⟩ := DataW.trod_int Tryz.underlying3 h2
  obtain ⟨n3, e3, rfl, w3⟩ := DataW.trod_int Tryz.underlying3 h3
  obtain ⟨n4, e4, rfl, w4⟩ := DataW.trod_int Tryz.underlying3 h4
  obtain ⟨n5, e5, rfl, w5⟩ := DataW.trod_int Tryz.underlying3 h5
  obtain ⟨n7, e7, rfl⟩ := DataW.trod_bool Tryz.underlying4 h7
  obtain ⟨n8, e8, rfl, w8⟩ := DataW.trod_int Tryz.underlying3 h8
  obtain ⟨z0, z1, z2, nz, hz, _, g0, g1, g2⟩ := Deep.trod_struct3 Tryz.underlying23 h6
  dsimp only at g0 g1 g2
  simp only [cellsI, cellsB, cellsS, List.drop, List.take] at g0 g1 g2
  obtain ⟨s0, f0, rfl⟩ := DataW.trod_bool Tryz.underlying4 g0
  obtain ⟨s1, f1, rfl, hs⟩ := DataW.trod_string Tryz.underlying9 g1
  obtain ⟨s2, f2, rfl, ws⟩ := DataW.trod_int Tryz.underlying3 g2
  simp only [List.cons.injEq, and_true] at e0 e1 e2 e3 e4 e5 e7 e8 f0 f1 f2
  subst e0 e1 e2 e3 e4 e5 e7 e8 f0 f1 f2
  subst hz
  simp only [Prod.mk.injEq] at hxs
  obtain ⟨rfl, rfl⟩ := hxs
  refine ⟨⟨n0, n1, n2, n3, n4, n5, ⟨s0, s1, s2⟩, n7, n8⟩, rfl, rfl, fun W' sp => ?_⟩
  have hd : DataW.trod enc Tryz.prog W' 0 sp true 2 23 [.bool s0, .string s1, .int .i64 s2] = some (.agg [.lit (.bool s0), .lit (.string s1.data.toList), .lit (.int .i64 s2)], []) :=
    Deep.trod_struct3_mk (n := 1) (y0 := (.lit (.bool s0), [])) (y1 := (.lit (.string s1.data.toList), [])) (y2 := (.lit (.int .i64 s2), [])) Tryz.underlying23 (by simp [cellsD])
      (by simp [DataW.trod, Tryz.underlying4, cellsB]) (by simp [DataW.trod, Tryz.underlying9, cellsS, hs]) (by simp [DataW.trod, Tryz.underlying3, cellsI, ws])
  have hI : ∀ {k : Int}, (Lit.int .i64 k).wf = true → DataW.trod enc Tryz.prog W' 0 sp true 2 3 [.int .i64 k] = some (.lit (.int .i64 k), []) := fun hw => by simp [DataW.trod, Tryz.underlying3, hw]
  have hB : DataW.trod enc Tryz.prog W' 0 sp true 2 4 [.bool n7] = some (.lit (.bool n7), []) := by simp [DataW.trod, Tryz.underlying4]
  exact ⟨3, trod_struct_mk (n := 2) (xs := [(.lit (.int .i64 n0), []), (.lit (.int .i64 n1), []), (.lit (.int .i64 n2), []), (.lit (.int .i64 n3), []), (.lit (.int .i64 n4), []), (.lit (.int .i64 n5), []), (.agg [.lit (.bool s0), .lit (.string s1.data.toList), .lit (.int .i64 s2)], []), (.lit (.bool n7), []), (.lit (.int .i64 n8), [])]) Tryz.underlying25 (by simp [Value.cells, cellsM])
    (by simp [Value.cells, cellsI, cellsB, cellsD, hd, hI w0, hI w1, hI w2, hI w3, hI w4, hI w5, hI w8, hB])⟩
theorem tabs_of {W : World} (hL : laidMetH Tryz.prog Rows.momentTextsRow.laid W) (hS : W.ShapedOpen Tryz.prog) : Tabs W := by
  have hL' : laidMet Tryz.prog Rows.momentTextsRow.laid W := hL
  have r1 := Lib.laidMet.reads hL' (n := "internal/strconv.uint64pow10") (d := Rows.laid_internal_strconv_uint64pow10) (.tail _ (.tail _ (.head _)))
  have r8 := Lib.laidMet.reads hL' (n := "unicode/utf8.acceptRanges") (d := Rows.laid_unicode_utf8_acceptRanges) (.tail _ (.tail _ (.tail _ (.head _))))
  have r0 := Lib.laidMet.reads hL' (n := "gabarit/moment.monthDays") (d := Rows.laid_gabarit_moment_monthDays) (.tail _ (.tail _ (.tail _ (.tail _ (.tail _ (.tail _ (.head _)))))))
  rw [show (Rows.laid_internal_strconv_uint64pow10 : DataW Unit) = Lib.tabData .u64 Lib.pow10Tab by kernel_rfl] at r1
  rw [show (Rows.laid_gabarit_moment_monthDays : DataW Unit) = Lib.tabData .i64 [31, 28, 31, 30, 31, 30, 31, 31, 30, 31, 30, 31] by kernel_rfl] at r0
  refine ⟨?_, cell_of_shapedOpen_int (zero := #[.int .i64 0]) (t := 3) hS (of_decide_eq_true (by kernel_rfl)) (by kernel_rfl) rfl (by kernel_rfl) (by kernel_rfl) Tryz.underlying3, ?_, ?_⟩
  · obtain ⟨g, t, cs, fuel, p, hg, hty, hvar, hd⟩ := r1
    obtain rfl := Option.some.inj ((show Tryz.prog.globalNamed "internal/strconv.uint64pow10" = some 2 by kernel_rfl).symm.trans hg)
    obtain rfl := Option.some.inj ((show (Tryz.prog.globals[2]?).map (·.type) = some 187 by kernel_rfl).symm.trans hty)
    have hc := Lib.cells_of_tab (n := 20) (k := .u64) Tryz.underlying187 Tryz.underlying159 (by kernel_rfl) (by kernel_rfl) hd
    unfold Lib.TabIs
    rw [hvar, ← hc]
  · obtain ⟨g, t, cs, fuel, p, hg, hty, hvar, hd⟩ := r8
    obtain rfl := Option.some.inj ((show Tryz.prog.globalNamed "unicode/utf8.acceptRanges" = some 8 by kernel_rfl).symm.trans hg)
    unfold World.var? at hvar
    rw [hg] at hvar
    simp only [Option.bind_some] at hvar
    split at hvar
    · rename_i hb
      have := (Array.getElem?_eq_some_iff.1 hb).1
      omega
    · cases hvar
  · obtain ⟨g, t, cs, fuel, p, hg, hty, hvar, hd⟩ := r0
    obtain rfl := Option.some.inj ((show Tryz.prog.globalNamed "gabarit/moment.monthDays" = some 0 by kernel_rfl).symm.trans hg)
    obtain rfl := Option.some.inj ((show (Tryz.prog.globals[0]?).map (·.type) = some 98 by kernel_rfl).symm.trans hty)
    have hc := Lib.cells_of_tab (n := 12) (k := .i64) Tryz.underlying98 Tryz.underlying3 (by kernel_rfl) (by kernel_rfl) hd
    have hcs : cs = (([31, 28, 31, 30, 31, 30, 31, 31, 30, 31, 30, 31] : List Int).map fun z => Value.int .i64 z).toArray := Array.ext' hc
    intro i hi
    rw [World.var?_cell hg hvar i, hcs]
    match i, hi with
    | 0, _ | 1, _ | 2, _ | 3, _ | 4, _ | 5, _ | 6, _ | 7, _ | 8, _ | 9, _ | 10, _ | 11, _ => rfl
noncomputable def low : Nat := (World.holding Tryz.prog default ⟨#[], #[], []⟩).heap.size
def putCells (h : Array Obj) (g : Nat) (cs : Array Value) : Array Obj := h.modify g fun
  | .cells _ t frozen => .cells cs t frozen
  | o => o
noncomputable def laidWorld (os : Os) : World :=
  let w0 := World.holding Tryz.prog os ⟨#[.cells #[.string ⟨#[105, 110, 118, 97, 108, 105, 100, 32, 115, 121, 110, 116, 97, 120]⟩] 205, .cells #[.string ⟨#[118, 97, 108, 117, 101, 32, 111, 117, 116, 32, 111, 102, 32, 114, 97, 110, 103, 101]⟩] 205], #[], []⟩
  let h1 := putCells w0.heap 2 (([1, 10, 100, 1000, 10000, 100000, 1000000, 10000000, 100000000, 1000000000, 10000000000, 100000000000, 1000000000000, 10000000000000, 100000000000000, 1000000000000000, 10000000000000000, 100000000000000000, 1000000000000000000, 10000000000000000000] : List Int).map fun z => Value.int .u64 z).toArray
  let h2 := putCells h1 7 (Lib.firstTab.map fun z => Value.int .u8 z).toArray
  let h3 := putCells h2 8 ((List.range 16).flatMap fun i => [Value.int .u8 (Lib.accLo i), Value.int .u8 (Lib.accHi i)]).toArray
  let h4 := putCells h3 5 (([0, 1, 28, 2, 29, 14, 24, 3, 30, 22, 20, 15, 25, 17, 4, 8, 31, 27, 13, 23, 21, 19, 16, 7, 26, 12, 18, 6, 11, 5, 10, 9] : List Int).map fun z => Value.int .u8 z).toArray
  let h5 := putCells h4 6 (([0, 1, 56, 2, 57, 49, 28, 3, 61, 58, 42, 50, 38, 29, 17, 4, 62, 47, 59, 36, 45, 43, 51, 22, 53, 39, 33, 30, 24, 18, 12, 5, 63, 55, 48, 27, 60, 41, 37, 16, 46, 35, 44, 21, 52, 32, 23, 11, 54, 26, 40, 15, 34, 20, 31, 10, 25, 14, 19, 9, 13, 8, 7, 6] : List Int).map fun z => Value.int .u8 z).toArray
  let h6 := putCells h5 3 #[.iface 203 (.pointer (some ⟨low, 0, none⟩))]
  let h7 := putCells h6 4 #[.iface 203 (.pointer (some ⟨low + 1, 0, none⟩))]
  let h8 := putCells h7 0 (([31, 28, 31, 30, 31, 30, 31, 31, 30, 31, 30, 31] : List Int).map fun z => Value.int .i64 z).toArray
  { w0 with heap := h8 }
set_option maxRecDepth 100000 in
theorem laid_met (os : Os) (args : Array Value) : laidMet Tryz.prog Rows.momentTextsRow.laid ((laidWorld os).forCall (fun _ _ => 0) ⟨#[], args, []⟩).memory :=
  (LaidIn.of_run (l := Rows.momentTextsRow.laid) [0, 1, 2, 3, 4, 5, 6, 7, 8, low, low + 1] 8 (by kernel_rfl) (by kernel_rfl) (by kernel_rfl) (by kernel_rfl)).met
end Go.Proofs.YtmdnijehoagamaaGreatDoor
