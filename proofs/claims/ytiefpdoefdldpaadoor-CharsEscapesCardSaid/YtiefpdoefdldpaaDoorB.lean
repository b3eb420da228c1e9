/- Contracts of package chars' questions about one character (kind, Valid, Blank, First, Inner) and of the reference's, at every number. -/
import Derived.Test.YtiefpdoefdldpaaDoorRows
import Derived.WalkKit
import Derived.WalkSpells
import Derived.Laws.Rows
import Derived.BigQuiet
import Derived.Deep.QuietTactic
import Derived.Lib.Hide
import Derived.Test.YtiefpdoefdldpaaDoorA
namespace Go.Proofs.YtiefpdoefdldpaaDoor
open Go.RowKit

def ranV : List Value := ranL.flatMap fun r => [.int .i32 r.1, .int .i32 r.2.1, .int .i32 r.2.2]
def ranCells : Array Value := ranV.toArray
def rowV (k : Nat) : Value := .agg #[.int .i32 (ranL.getD k (0, 0, 0)).1, .int .i32 (ranL.getD k (0, 0, 0)).2.1, .int .i32 (ranL.getD k (0, 0, 0)).2.2]

theorem index_row0 (w : World) : (Instr.index 72 (.agg ranCells) (.int .i64 ((0 : Nat) : Int))).run Tryd.prog w = .ok (rowV 0) w := by kernel_rfl
theorem index_row1 (w : World) : (Instr.index 72 (.agg ranCells) (.int .i64 ((1 : Nat) : Int))).run Tryd.prog w = .ok (rowV 1) w := by kernel_rfl
theorem index_row2 (w : World) : (Instr.index 72 (.agg ranCells) (.int .i64 ((2 : Nat) : Int))).run Tryd.prog w = .ok (rowV 2) w := by kernel_rfl
theorem index_row3 (w : World) : (Instr.index 72 (.agg ranCells) (.int .i64 ((3 : Nat) : Int))).run Tryd.prog w = .ok (rowV 3) w := by kernel_rfl
theorem index_row4 (w : World) : (Instr.index 72 (.agg ranCells) (.int .i64 ((4 : Nat) : Int))).run Tryd.prog w = .ok (rowV 4) w := by kernel_rfl
theorem index_row5 (w : World) : (Instr.index 72 (.agg ranCells) (.int .i64 ((5 : Nat) : Int))).run Tryd.prog w = .ok (rowV 5) w := by kernel_rfl
theorem index_row6 (w : World) : (Instr.index 72 (.agg ranCells) (.int .i64 ((6 : Nat) : Int))).run Tryd.prog w = .ok (rowV 6) w := by kernel_rfl
theorem index_row7 (w : World) : (Instr.index 72 (.agg ranCells) (.int .i64 ((7 : Nat) : Int))).run Tryd.prog w = .ok (rowV 7) w := by kernel_rfl
theorem index_row8 (w : World) : (Instr.index 72 (.agg ranCells) (.int .i64 ((8 : Nat) : Int))).run Tryd.prog w = .ok (rowV 8) w := by kernel_rfl
theorem index_row9 (w : World) : (Instr.index 72 (.agg ranCells) (.int .i64 ((9 : Nat) : Int))).run Tryd.prog w = .ok (rowV 9) w := by kernel_rfl
theorem index_row10 (w : World) : (Instr.index 72 (.agg ranCells) (.int .i64 ((10 : Nat) : Int))).run Tryd.prog w = .ok (rowV 10) w := by kernel_rfl
theorem index_row11 (w : World) : (Instr.index 72 (.agg ranCells) (.int .i64 ((11 : Nat) : Int))).run Tryd.prog w = .ok (rowV 11) w := by kernel_rfl
theorem index_row12 (w : World) : (Instr.index 72 (.agg ranCells) (.int .i64 ((12 : Nat) : Int))).run Tryd.prog w = .ok (rowV 12) w := by kernel_rfl
theorem index_row13 (w : World) : (Instr.index 72 (.agg ranCells) (.int .i64 ((13 : Nat) : Int))).run Tryd.prog w = .ok (rowV 13) w := by kernel_rfl
theorem index_row14 (w : World) : (Instr.index 72 (.agg ranCells) (.int .i64 ((14 : Nat) : Int))).run Tryd.prog w = .ok (rowV 14) w := by kernel_rfl
theorem index_row15 (w : World) : (Instr.index 72 (.agg ranCells) (.int .i64 ((15 : Nat) : Int))).run Tryd.prog w = .ok (rowV 15) w := by kernel_rfl
theorem index_row16 (w : World) : (Instr.index 72 (.agg ranCells) (.int .i64 ((16 : Nat) : Int))).run Tryd.prog w = .ok (rowV 16) w := by kernel_rfl
theorem index_row17 (w : World) : (Instr.index 72 (.agg ranCells) (.int .i64 ((17 : Nat) : Int))).run Tryd.prog w = .ok (rowV 17) w := by kernel_rfl
theorem index_row18 (w : World) : (Instr.index 72 (.agg ranCells) (.int .i64 ((18 : Nat) : Int))).run Tryd.prog w = .ok (rowV 18) w := by kernel_rfl
theorem index_row19 (w : World) : (Instr.index 72 (.agg ranCells) (.int .i64 ((19 : Nat) : Int))).run Tryd.prog w = .ok (rowV 19) w := by kernel_rfl
theorem index_row20 (w : World) : (Instr.index 72 (.agg ranCells) (.int .i64 ((20 : Nat) : Int))).run Tryd.prog w = .ok (rowV 20) w := by kernel_rfl
theorem index_row21 (w : World) : (Instr.index 72 (.agg ranCells) (.int .i64 ((21 : Nat) : Int))).run Tryd.prog w = .ok (rowV 21) w := by kernel_rfl
theorem index_row22 (w : World) : (Instr.index 72 (.agg ranCells) (.int .i64 ((22 : Nat) : Int))).run Tryd.prog w = .ok (rowV 22) w := by kernel_rfl
theorem index_row (k : Nat) (hk : k < 23) (w : World) : (Instr.index 72 (.agg ranCells) (.int .i64 (k : Int))).run Tryd.prog w = .ok (rowV k) w := by
  have h : k = 0 ∨ k = 1 ∨ k = 2 ∨ k = 3 ∨ k = 4 ∨ k = 5 ∨ k = 6 ∨ k = 7 ∨ k = 8 ∨ k = 9 ∨ k = 10 ∨ k = 11 ∨ k = 12 ∨ k = 13 ∨ k = 14 ∨ k = 15 ∨ k = 16 ∨ k = 17 ∨ k = 18 ∨ k = 19 ∨ k = 20 ∨ k = 21 ∨ k = 22 := by omega
  rcases h with rfl | rfl | rfl | rfl | rfl | rfl | rfl | rfl | rfl | rfl | rfl | rfl | rfl | rfl | rfl | rfl | rfl | rfl | rfl | rfl | rfl | rfl | rfl
  · exact index_row0 w
  · exact index_row1 w
  · exact index_row2 w
  · exact index_row3 w
  · exact index_row4 w
  · exact index_row5 w
  · exact index_row6 w
  · exact index_row7 w
  · exact index_row8 w
  · exact index_row9 w
  · exact index_row10 w
  · exact index_row11 w
  · exact index_row12 w
  · exact index_row13 w
  · exact index_row14 w
  · exact index_row15 w
  · exact index_row16 w
  · exact index_row17 w
  · exact index_row18 w
  · exact index_row19 w
  · exact index_row20 w
  · exact index_row21 w
  · exact index_row22 w

theorem ret_bool {a b : Bool} (h : a = b) : Ending.returned (.bool a) = .returned (.bool b) := by rw [h]
theorem ret_i32 {k : IntKind} {a b : Int} (h : a = b) : Ending.returned (.int k a) = .returned (.int k b) := by rw [h]

/-- What a world holds of the table. -/
def RanTab (w : World) : Prop := ∃ t fr, w.heap[0]? = some (.cells ranCells t fr)

set_option maxHeartbeats 400000 in
theorem kind_any (c : Int) (w : World) (hT : RanTab w) :
    Calls Tryd.prog 30 #[.int .i32 c] w fun e w' => e = .returned (.int .i32 (kindI c)) ∧ Below w.heap.size w w' := by
  obtain ⟨t, fr, hg⟩ := hT
  go_enter Tryd.func30, Tryd.ntmps30
  go_wp2_with (refine wpList_load_row rfl 72 _ rfl 0 rfl t ranCells fr _ hg Tryd.underlying72 rfl (by kernel_rfl) ?_)
  go_loopw [6] (fun i wr => ∃ k : Nat, k ≤ 23 ∧ i = .int .i64 k ∧ Hid (kindI c = kindFrom c (ranL.drop k)) ∧ Below w.heap.size w wr) (fun i _ => 23 - (intOf i).toNat)
  case atStart => exact ⟨0, by omega, rfl, rfl, Below.refl _ _⟩
  case round =>
    obtain ⟨k, hk, rfl, HK, hb⟩ := hrel
    by_cases hlt : k < 23
    · have hi := index_row k hlt
      have hr : ∃ a b d, rowV k = .agg #[.int .i32 a, .int .i32 b, .int .i32 d] ∧ ranL.drop k = (a, b, d) :: ranL.drop (k + 1) := by
        have h : k < ranL.length := hlt
        refine ⟨_, _, _, rfl, ?_⟩
        rw [List.drop_eq_getElem_cons h, List.getD_eq_getElem?_getD, List.getElem?_eq_getElem h]
        rfl
      obtain ⟨a, b, d, hr1, hr2⟩ := hr
      rw [hr1] at hi
      have HK2 : Hid (kindI c = if a ≤ c ∧ c ≤ b then d else kindFrom c (ranL.drop (k + 1))) := by rw [HK.out, hr2]; rfl
      clear hr1 hr2 HK
      go_wp2
      · go_ret
        refine ⟨ret_i32 ?_, hb.alloc hb.size _⟩
        rw [HK2.out, if_pos ⟨by assumption, by assumption⟩]
      · refine ⟨⟨k + 1, by omega, by go_num, ?_, hb.alloc hb.size _⟩, by simp [intOf]; omega⟩
        show kindI c = _
        rw [HK2.out, if_neg (by omega)]
      · refine ⟨⟨k + 1, by omega, by go_num, ?_, hb.alloc hb.size _⟩, by simp [intOf]; omega⟩
        show kindI c = _
        rw [HK2.out, if_neg (by omega)]
    · obtain rfl : k = 23 := by omega
      go_wp2
      go_ret
      exact ⟨ret_i32 HK.out.symm, hb⟩

theorem valid_any (c : Int) (w : World) (hT : RanTab w) :
    Calls Tryd.prog 8 #[.int .i32 c] w fun e w' => e = .returned (.bool (vldB c)) ∧ Below w.heap.size w w' := by
  have cK := fun W h => kind_any c W h
  obtain ⟨k, hk⟩ : ∃ k, kindI c = k := ⟨_, rfl⟩
  unfold vldB
  rw [hk] at cK ⊢
  clear hk
  go_enter Tryd.func8, Tryd.ntmps8
  go_wp2_with (go_at_call 30; refine (cK _ hT).mono ?_; rintro e w' ⟨rfl, hb⟩)
  go_ret
  exact ⟨rfl, hb⟩
theorem blank_any (c : Int) (w : World) (hT : RanTab w) :
    Calls Tryd.prog 10 #[.int .i32 c] w fun e w' => e = .returned (.bool (blkB c)) ∧ Below w.heap.size w w' := by
  have cK := fun W h => kind_any c W h
  obtain ⟨k, hk⟩ : ∃ k, kindI c = k := ⟨_, rfl⟩
  unfold blkB
  rw [hk] at cK ⊢
  clear hk
  go_enter Tryd.func10, Tryd.ntmps10
  go_wp2_with (go_at_call 30; refine (cK _ hT).mono ?_; rintro e w' ⟨rfl, hb⟩)
  go_ret
  exact ⟨rfl, hb⟩
theorem first_any (c : Int) (w : World) (hT : RanTab w) :
    Calls Tryd.prog 12 #[.int .i32 c] w fun e w' => e = .returned (.bool (fstB c)) ∧ Below w.heap.size w w' := by
  have cK := fun W h => kind_any c W h
  obtain ⟨k, hk⟩ : ∃ k, kindI c = k := ⟨_, rfl⟩
  unfold fstB
  rw [hk] at cK ⊢
  clear hk
  go_enter Tryd.func12, Tryd.ntmps12
  go_wp2_with (go_at_call 30; refine (cK _ hT).mono ?_; rintro e w' ⟨rfl, hb⟩)
  go_ret
  exact ⟨rfl, hb⟩
theorem inner_any (c : Int) (w : World) (hT : RanTab w) :
    Calls Tryd.prog 14 #[.int .i32 c] w fun e w' => e = .returned (.bool (innB c)) ∧ Below w.heap.size w w' := by
  have cK := fun W h => kind_any c W h
  obtain ⟨k, hk⟩ : ∃ k, kindI c = k := ⟨_, rfl⟩
  unfold innB
  rw [hk] at cK ⊢
  clear hk
  by_cases h4 : k = 4
  · subst h4
    go_enter Tryd.func14, Tryd.ntmps14
    go_wp2_with (go_at_call 30; refine (cK _ hT).mono ?_; rintro e w' ⟨rfl, hb⟩)
    go_ret
    exact ⟨rfl, hb⟩
  · have h4' : (k == 4) = false := by simpa using h4
    go_enter Tryd.func14, Tryd.ntmps14
    go_wp2_with (go_at_call 30; refine (cK _ hT).mono ?_; rintro e w' ⟨rfl, hb⟩)
    go_ret
    exact ⟨by simp [h4'], hb⟩

/-- The reference's. -/
theorem rvalid_any (c : Int) (w : World) :
    Calls Tryd.prog 9 #[.int .i32 c] w fun e w' => e = .returned (.bool (rvldB c)) ∧ w' = w := by
  go_enter Tryd.func9, Tryd.ntmps9
  go_wp2
  all_goals
    go_ret
    refine ⟨ret_bool ?_, rfl⟩
    unfold rvldB
    rw [Bool.eq_iff_iff]
    simp
    try omega
theorem rblank_any (c : Int) (w : World) :
    Calls Tryd.prog 11 #[.int .i32 c] w fun e w' => e = .returned (.bool (rblkB c)) ∧ w' = w := by
  go_enter Tryd.func11, Tryd.ntmps11
  go_wp2
  all_goals
    go_ret
    refine ⟨ret_bool ?_, rfl⟩
    unfold rblkB
    first | rfl | (simp; omega)
theorem rfirst_any (c : Int) (w : World) :
    Calls Tryd.prog 13 #[.int .i32 c] w fun e w' => e = .returned (.bool (rfstB c)) ∧ w' = w := by
  go_enter Tryd.func13, Tryd.ntmps13
  go_wp2_with (go_at_call 9; refine (rvalid_any _ _).mono ?_; rintro e w' ⟨rfl, rfl⟩)
  all_goals
    go_ret
    refine ⟨ret_bool ?_, rfl⟩
    unfold rfstB
    rw [Bool.eq_iff_iff]
    generalize rvldB _ = v
    cases v <;> (simp; try omega)
theorem rinner_any (c : Int) (w : World) :
    Calls Tryd.prog 15 #[.int .i32 c] w fun e w' => e = .returned (.bool (rinnB c)) ∧ w' = w := by
  go_enter Tryd.func15, Tryd.ntmps15
  go_wp2_with (go_at_call 13; refine (rfirst_any _ _).mono ?_; rintro e w' ⟨rfl, rfl⟩)
  all_goals
    go_ret
    refine ⟨ret_bool ?_, rfl⟩
    unfold rinnB
    first | (simp [*]; done) | (rw [Bool.eq_iff_iff]; simp [*]; omega)

end Go.Proofs.YtiefpdoefdldpaaDoor
