/- The calls that every statement of chars shows: they return what they should. -/
import Derived.Test.YtiefpdoefdldpaaDoorT
namespace Go.Proofs.YtiefpdoefdldpaaDoor
open Go.RowKit

set_option maxRecDepth 100000 in
set_option maxHeartbeats 4000000 in
theorem shown_any (w : World) (hT : Tabs w) : Calls Tryd.prog 7 #[] w fun e w' => e = .returned (.bool true) ∧ Below w.heap.size w w' := by
  have hsz := hT.size
  go_enter Tryd.func7, Tryd.ntmps7
  go_wp2_with fail
  refine (decode_ex1 w hT).mono ?_
  rintro e w1 ⟨A, c, rfl, hA, h0, h1, b1⟩
  have hT1 := hT.below b1 hsz
  have H01 := Lib.hid (And.intro h0 h1)
  clear h0 h1
  go_wp2_with fail
  refine (decode_ex2 w1 hT1).mono ?_
  rintro e w2 ⟨rfl, b2⟩
  have hT2 := hT1.below b2 hT1.size
  go_wp2_with fail
  refine (unescape_1 w2 hT2).mono ?_
  rintro e w3 ⟨rfl, b3⟩
  have hT3 := hT2.below b3 hT2.size
  go_wp2_with fail
  refine (unescape_2 w3 hT3).mono ?_
  rintro e w4 ⟨rfl, b4⟩
  have hT4 := hT3.below b4 hT3.size
  go_wp2_with fail
  refine (escape_ex w4 hT4).mono ?_
  rintro e w5 ⟨rfl, b5⟩
  have hT5 := hT4.below b5 hT4.size
  go_wp2_with fail
  refine (squeeze_ex w5 hT5).mono ?_
  rintro e w6 ⟨rfl, b6⟩
  have hT6 := hT5.below b6 hT5.size
  go_wp2_with fail
  have b16 : Below w1.heap.size w1 w6 := b2.trans ((b3.trans ((b4.trans ((b5.trans (b6.mono b5.size)).mono b4.size)).mono b3.size)).mono b2.size)
  have b17 := b16.alloc b16.size (.cells #[.int .i32 97, .int .i32 228] 21)
  have hA6 : A < w6.heap.size := Nat.lt_of_lt_of_le hA b16.size
  have hx : ∀ (j : Nat) (x : Int), ([97, 228] : List Int)[j]? = some x → (w6.alloc (.cells #[.int .i32 97, .int .i32 228] 21)).cell? ⟨A, j, none⟩ = some (.int .i32 x) := by
    intro j x hj
    have hc := b17.cell (p := ⟨A, j, none⟩) hA
    rw [hc]
    match j, hj with
    | 0, hj => cases hj; exact H01.out.1
    | 1, hj => cases hj; exact H01.out.2
    | j + 2, hj => cases hj
  have hy : ∀ (j : Nat) (x : Int), ([97, 228] : List Int)[j]? = some x → (w6.alloc (.cells #[.int .i32 97, .int .i32 228] 21)).cell? ⟨w6.heap.size, j, none⟩ = some (.int .i32 x) := by
    intro j x hj
    have hc := World.alloc_heap_new w6 (.cells #[.int .i32 97, .int .i32 228] 21)
    unfold World.cell?
    rw [hc]
    match j, hj with
    | 0, hj => cases hj; rfl
    | 1, hj => cases hj; rfl
    | j + 2, hj => cases hj
  refine (same_any [97, 228] A c w6.heap.size 2 _ (by decide) hx hy).mono ?_
  rintro e w7 ⟨rfl, b7⟩
  have b18 : Below w.heap.size w w7 := b1.trans ((b17.mono b1.size).trans (b7.mono (Nat.le_trans b1.size b17.size)))
  clear hx hy b7 b17 b16 b2 b3 b4 b5 b6
  have hT7 := hT.below b18 hsz
  go_wp2_with fail
  refine (local_ex1 w7 hT7).mono ?_
  rintro e w8 ⟨rfl, b8⟩
  have hT8 := hT7.below b8 hT7.size
  go_wp2_with fail
  refine (local_ex2 w8 hT8).mono ?_
  rintro e w9 ⟨rfl, b9⟩
  go_wp2
  go_ret
  exact ⟨rfl, b18.trans ((b8.trans (b9.mono b8.size)).mono b18.size)⟩
end Go.Proofs.YtiefpdoefdldpaaDoor
