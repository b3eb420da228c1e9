/- The numbers that are characters, by package chars' table of ranges and by the document's own words, are the same. -/
namespace Go.Proofs.YtiefpdoefdldpaaDoor
/-- The table of package chars: lowest, highest, kind. -/
def ranL : List (Int × Int × Int) := [(9, 10, 2), (13, 13, 2), (32, 32, 2), (33, 44, 1), (45, 46, 3), (47, 47, 1), (48, 57, 3), (58, 64, 1), (65, 90, 4), (91, 94, 1), (95, 95, 4), (96, 96, 1), (97, 122, 4), (123, 182, 1), (183, 183, 3), (184, 191, 1), (192, 214, 4), (215, 215, 1), (216, 246, 4), (247, 247, 1), (248, 55295, 4), (57344, 65533, 4), (65536, 1114111, 4)]
/-- The kind of a number: that of the first range, from the k-th on, which has it. -/
def kindFrom (c : Int) : List (Int × Int × Int) → Int
  | [] => 0
  | r :: l => if r.1 ≤ c ∧ c ≤ r.2.1 then r.2.2 else kindFrom c l
def kindI (c : Int) : Int := kindFrom c ranL

/-- The questions of package chars, by the kind; and the document's own. -/
def vldB (c : Int) : Bool := kindI c != 0
def blkB (c : Int) : Bool := kindI c == 2
def fstB (c : Int) : Bool := kindI c == 4
def innB (c : Int) : Bool := kindI c == 4 || kindI c == 3

def rvldB (c : Int) : Bool := c == 9 || c == 10 || c == 13 || decide (32 ≤ c ∧ c ≤ 55295) || decide (57344 ≤ c ∧ c ≤ 65533) || decide (65536 ≤ c ∧ c ≤ 1114111)
def rblkB (c : Int) : Bool := c == 9 || c == 10 || c == 13 || c == 32
def rfstB (c : Int) : Bool := decide (97 ≤ c ∧ c ≤ 122) || decide (65 ≤ c ∧ c ≤ 90) || c == 95 || (decide (192 ≤ c) && c != 215 && c != 247 && rvldB c)
def rinnB (c : Int) : Bool := rfstB c || decide (48 ≤ c ∧ c ≤ 57) || c == 45 || c == 46 || c == 183
/-- THE TWO ANSWER ALIKE. -/
theorem kind_tab (c : Int) : kindI c = if 9 ≤ c ∧ c ≤ 10 ∨ c = 13 ∨ c = 32 then 2 else if 45 ≤ c ∧ c ≤ 46 ∨ 48 ≤ c ∧ c ≤ 57 ∨ c = 183 then 3
    else if 65 ≤ c ∧ c ≤ 90 ∨ c = 95 ∨ 97 ≤ c ∧ c ≤ 122 ∨ 192 ≤ c ∧ c ≤ 214 ∨ 216 ≤ c ∧ c ≤ 246 ∨ 248 ≤ c ∧ c ≤ 55295 ∨ 57344 ≤ c ∧ c ≤ 65533 ∨ 65536 ≤ c ∧ c ≤ 1114111 then 4
    else if 33 ≤ c ∧ c ≤ 191 ∨ c = 215 ∨ c = 247 then 1 else 0 := by
  simp only [kindI, ranL, kindFrom]
  repeat' split
  all_goals omega
theorem vld_eq (c : Int) : vldB c = rvldB c := by
  unfold vldB rvldB
  rw [kind_tab, Bool.eq_iff_iff]
  repeat' split
  all_goals (simp; try omega)
theorem blk_eq (c : Int) : blkB c = rblkB c := by
  unfold blkB rblkB
  rw [kind_tab, Bool.eq_iff_iff]
  repeat' split
  all_goals (simp; try omega)
theorem fst_eq (c : Int) : fstB c = rfstB c := by
  unfold fstB rfstB rvldB
  rw [kind_tab, Bool.eq_iff_iff]
  repeat' split
  all_goals (simp; try omega)
theorem inn_eq (c : Int) : innB c = rinnB c := by
  unfold innB rinnB rfstB rvldB
  rw [kind_tab, Bool.eq_iff_iff]
  repeat' split
  all_goals (simp; try omega)
end Go.Proofs.YtiefpdoefdldpaaDoor
