/- The calls that are shown. -/
import Derived.KernelRfl
import Derived.Test.YtcpociafcjabkaaGreatDoorLB
import Derived.Deep.RegionHeld3
set_option linter.unusedSimpArgs false
set_option linter.unusedVariables false
namespace Go.Proofs.YtcpociafcjabkaaGreatDoor
open Go.RowKit

theorem IsDec.valid {a : Dec} {n s : Nat} (h : IsDec a n s) : Valid a := ⟨n, s, h⟩
theorem addS_ok {a b : Dec} {n s m t : Nat} (ha : IsDec a n s) (hb : IsDec b m t) : addS a b = ofOpt (sumSpec a.neg n s b.neg m t) := by
  unfold addS
  rw [if_pos ⟨ha.valid, hb.valid⟩, ha.num_eq, ha.scl_eq, hb.num_eq, hb.scl_eq]
theorem subS_ok {a b : Dec} {n s m t : Nat} (ha : IsDec a n s) (hb : IsDec b m t) : subS a b = ofOpt (sumSpec a.neg n s (!b.neg && decide (m ≠ 0)) m t) := by
  unfold subS
  rw [if_pos ⟨ha.valid, hb.valid⟩, ha.num_eq, ha.scl_eq, hb.num_eq, hb.scl_eq]
theorem mulS_ok {a b : Dec} {n s m t : Nat} (ha : IsDec a n s) (hb : IsDec b m t) : mulS a b = ofOpt (mkDec (a.neg != b.neg) (n * m) (s + t)) := by
  unfold mulS
  rw [if_pos ⟨ha.valid, hb.valid⟩, ha.num_eq, ha.scl_eq, hb.num_eq, hb.scl_eq]
theorem divS_ok {a b : Dec} {n s m t k : Nat} (ha : IsDec a n s) (hb : IsDec b m t) (hm : m ≠ 0) (hk : k ≤ 60) : divS a b (k : Int) = ofOpt (divSpec a.neg n s b.neg m t k) := by
  unfold divS
  rw [if_pos ⟨⟨ha.valid, hb.valid⟩, by rw [hb.num_eq]; exact hm, by omega, by omega⟩, ha.num_eq, ha.scl_eq, hb.num_eq, hb.scl_eq]
  rfl
theorem divS_zero {a b : Dec} {t : Nat} (hb : IsDec b 0 t) (k : Int) : divS a b k = argRes := by
  unfold divS
  rw [if_neg (fun h => h.2.1 hb.num_eq)]
theorem negS_ok {a : Dec} {n s : Nat} (ha : IsDec a n s) : negS a = ⟨⟨!a.neg && decide (n ≠ 0), a.ds, a.sc⟩, 0⟩ := by
  unfold negS
  rw [if_pos ha.valid, ha.num_eq]
theorem cmpS_ok {a b : Dec} (ha : Valid a) (hb : Valid b) : cmpS a b = (ordS a b, 0) := by
  unfold cmpS
  rw [if_pos ⟨ha, hb⟩]
theorem digS_ok {a : Dec} (ha : Valid a) : digS a = (max (a.ds.size : Int) a.sc, a.sc, 0) := by
  unfold digS
  rw [if_pos ha]
theorem textS_ok {a : Dec} (ha : Valid a) : textS a = (textOf a, 0) := by
  unfold textS
  rw [if_pos ha]
theorem roundS_ok {a : Dec} {n s k : Nat} (ha : IsDec a n s) (hk : k ≤ 60) : roundS a (k : Int) = if s ≤ k then ⟨a, 0⟩ else ofOpt (mkDec a.neg (roundTo n s k) k) := by
  unfold roundS
  rw [if_pos ⟨ha.valid, by omega, by omega⟩, ha.num_eq, ha.scl_eq, ha.sc]
  by_cases h : s ≤ k
  · rw [if_pos h, if_pos (by omega)]
  · rw [if_neg h, if_neg (by omega)]
    rfl

theorem rd0 : readS ⟨#[46]⟩ = ⟨decNil, 6⟩ := by kernel_rfl
theorem rd1 : readS ⟨#[49]⟩ = ⟨⟨false, ⟨#[49]⟩, 0⟩, 0⟩ := by kernel_rfl
theorem rd2 : readS ⟨#[48]⟩ = ⟨⟨false, ⟨#[48]⟩, 0⟩, 0⟩ := by kernel_rfl
theorem rd3 : readS ⟨#[45, 49]⟩ = ⟨⟨true, ⟨#[49]⟩, 0⟩, 0⟩ := by kernel_rfl
theorem rd4 : readS ⟨#[48, 46, 53]⟩ = ⟨⟨false, ⟨#[53]⟩, 1⟩, 0⟩ := by kernel_rfl
theorem rd5 : readS ⟨#[48, 46, 48, 48, 49]⟩ = ⟨⟨false, ⟨#[49]⟩, 3⟩, 0⟩ := by kernel_rfl
theorem rd6 : readS ⟨#[43, 48, 48, 55, 46, 53, 48]⟩ = ⟨⟨false, ⟨#[55, 53]⟩, 1⟩, 0⟩ := by kernel_rfl
theorem rd7 : readS ⟨#[45, 46, 48]⟩ = ⟨⟨false, ⟨#[48]⟩, 0⟩, 0⟩ := by kernel_rfl
theorem rd8 : readS ⟨#[48, 46, 49]⟩ = ⟨⟨false, ⟨#[49]⟩, 1⟩, 0⟩ := by kernel_rfl
theorem rd9 : readS ⟨#[48, 46, 50]⟩ = ⟨⟨false, ⟨#[50]⟩, 1⟩, 0⟩ := by kernel_rfl
theorem rd10 : readS ⟨#[45, 49, 46, 53]⟩ = ⟨⟨true, ⟨#[49, 53]⟩, 1⟩, 0⟩ := by kernel_rfl
theorem rd11 : readS ⟨#[50]⟩ = ⟨⟨false, ⟨#[50]⟩, 0⟩, 0⟩ := by kernel_rfl
theorem rd12 : readS ⟨#[51]⟩ = ⟨⟨false, ⟨#[51]⟩, 0⟩, 0⟩ := by kernel_rfl
theorem rd13 : readS ⟨#[50, 46, 53]⟩ = ⟨⟨false, ⟨#[50, 53]⟩, 1⟩, 0⟩ := by kernel_rfl
theorem rd14 : readS ⟨#[51, 46, 53]⟩ = ⟨⟨false, ⟨#[51, 53]⟩, 1⟩, 0⟩ := by kernel_rfl
theorem rd15 : readS ⟨#[45, 49, 50]⟩ = ⟨⟨true, ⟨#[49, 50]⟩, 0⟩, 0⟩ := by kernel_rfl
theorem is0 : IsDec ⟨false, ⟨#[49]⟩, 0⟩ 1 0 := ⟨by kernel_rfl, rfl, by decide, by decide, by decide, by decide⟩
theorem is1 : IsDec ⟨false, ⟨#[48]⟩, 0⟩ 0 0 := ⟨by kernel_rfl, rfl, by decide, by decide, by decide, by decide⟩
theorem is2 : IsDec ⟨true, ⟨#[49]⟩, 0⟩ 1 0 := ⟨by kernel_rfl, rfl, by decide, by decide, by decide, by decide⟩
theorem is3 : IsDec ⟨false, ⟨#[53]⟩, 1⟩ 5 1 := ⟨by kernel_rfl, rfl, by decide, by decide, by decide, by decide⟩
theorem is4 : IsDec ⟨false, ⟨#[49]⟩, 3⟩ 1 3 := ⟨by kernel_rfl, rfl, by decide, by decide, by decide, by decide⟩
theorem is5 : IsDec ⟨false, ⟨#[55, 53]⟩, 1⟩ 75 1 := ⟨by kernel_rfl, rfl, by decide, by decide, by decide, by decide⟩
theorem is6 : IsDec ⟨false, ⟨#[49]⟩, 1⟩ 1 1 := ⟨by kernel_rfl, rfl, by decide, by decide, by decide, by decide⟩
theorem is7 : IsDec ⟨false, ⟨#[50]⟩, 1⟩ 2 1 := ⟨by kernel_rfl, rfl, by decide, by decide, by decide, by decide⟩
theorem is8 : IsDec ⟨true, ⟨#[49, 53]⟩, 1⟩ 15 1 := ⟨by kernel_rfl, rfl, by decide, by decide, by decide, by decide⟩
theorem is9 : IsDec ⟨false, ⟨#[50]⟩, 0⟩ 2 0 := ⟨by kernel_rfl, rfl, by decide, by decide, by decide, by decide⟩
theorem is10 : IsDec ⟨false, ⟨#[51]⟩, 0⟩ 3 0 := ⟨by kernel_rfl, rfl, by decide, by decide, by decide, by decide⟩
theorem is11 : IsDec ⟨false, ⟨#[50, 53]⟩, 1⟩ 25 1 := ⟨by kernel_rfl, rfl, by decide, by decide, by decide, by decide⟩
theorem is12 : IsDec ⟨false, ⟨#[51, 53]⟩, 1⟩ 35 1 := ⟨by kernel_rfl, rfl, by decide, by decide, by decide, by decide⟩
theorem is13 : IsDec ⟨true, ⟨#[49, 50]⟩, 0⟩ 12 0 := ⟨by kernel_rfl, rfl, by decide, by decide, by decide, by decide⟩
theorem is14 : IsDec ⟨false, ⟨#[51]⟩, 1⟩ 3 1 := ⟨by kernel_rfl, rfl, by decide, by decide, by decide, by decide⟩
theorem is15 : IsDec ⟨true, ⟨#[51]⟩, 1⟩ 3 1 := ⟨by kernel_rfl, rfl, by decide, by decide, by decide, by decide⟩
theorem is16 : IsDec ⟨false, ⟨#[54, 54, 54, 54]⟩, 4⟩ 6666 4 := ⟨by kernel_rfl, rfl, by decide, by decide, by decide, by decide⟩
theorem is17 : IsDec ⟨false, ⟨#[52]⟩, 0⟩ 4 0 := ⟨by kernel_rfl, rfl, by decide, by decide, by decide, by decide⟩
theorem s_Read0 {P : World → Prop} (ok : ProgOk P) (w : World) (hP : P w) : Calls Tryz.prog 9 #[.string ⟨#[46]⟩] w fun e w' => e = .returned (.tuple #[.agg #[.bool false, .string ⟨#[]⟩, .int .i64 0], .int .i64 6]) ∧ Below w.heap.size w w' := by
  have c := ok.read ⟨#[46]⟩ w (by decide) hP
  rw [rd0] at c
  exact c
theorem s_read1 (w : World) : Calls Tryz.prog 35 #[.string ⟨#[49]⟩] w fun e w' => e = .returned (.agg #[.bool false, .string ⟨#[49]⟩, .int .i64 0]) ∧ Below w.heap.size w w' := by
  have c := l_read ⟨#[49]⟩ (by decide) w
  rw [rd1] at c
  exact c
theorem s_read2 (w : World) : Calls Tryz.prog 35 #[.string ⟨#[48]⟩] w fun e w' => e = .returned (.agg #[.bool false, .string ⟨#[48]⟩, .int .i64 0]) ∧ Below w.heap.size w w' := by
  have c := l_read ⟨#[48]⟩ (by decide) w
  rw [rd2] at c
  exact c
theorem s_read3 (w : World) : Calls Tryz.prog 35 #[.string ⟨#[45, 49]⟩] w fun e w' => e = .returned (.agg #[.bool true, .string ⟨#[49]⟩, .int .i64 0]) ∧ Below w.heap.size w w' := by
  have c := l_read ⟨#[45, 49]⟩ (by decide) w
  rw [rd3] at c
  exact c
theorem s_read4 (w : World) : Calls Tryz.prog 35 #[.string ⟨#[48, 46, 53]⟩] w fun e w' => e = .returned (.agg #[.bool false, .string ⟨#[53]⟩, .int .i64 1]) ∧ Below w.heap.size w w' := by
  have c := l_read ⟨#[48, 46, 53]⟩ (by decide) w
  rw [rd4] at c
  exact c
theorem s_read5 (w : World) : Calls Tryz.prog 35 #[.string ⟨#[48, 46, 48, 48, 49]⟩] w fun e w' => e = .returned (.agg #[.bool false, .string ⟨#[49]⟩, .int .i64 3]) ∧ Below w.heap.size w w' := by
  have c := l_read ⟨#[48, 46, 48, 48, 49]⟩ (by decide) w
  rw [rd5] at c
  exact c
theorem s_Read6 {P : World → Prop} (ok : ProgOk P) (w : World) (hP : P w) : Calls Tryz.prog 9 #[.string ⟨#[43, 48, 48, 55, 46, 53, 48]⟩] w fun e w' => e = .returned (.tuple #[.agg #[.bool false, .string ⟨#[55, 53]⟩, .int .i64 1], .int .i64 0]) ∧ Below w.heap.size w w' := by
  have c := ok.read ⟨#[43, 48, 48, 55, 46, 53, 48]⟩ w (by decide) hP
  rw [rd6] at c
  exact c
theorem s_Read7 {P : World → Prop} (ok : ProgOk P) (w : World) (hP : P w) : Calls Tryz.prog 9 #[.string ⟨#[45, 46, 48]⟩] w fun e w' => e = .returned (.tuple #[.agg #[.bool false, .string ⟨#[48]⟩, .int .i64 0], .int .i64 0]) ∧ Below w.heap.size w w' := by
  have c := ok.read ⟨#[45, 46, 48]⟩ w (by decide) hP
  rw [rd7] at c
  exact c
theorem s_read8 (w : World) : Calls Tryz.prog 35 #[.string ⟨#[48, 46, 49]⟩] w fun e w' => e = .returned (.agg #[.bool false, .string ⟨#[49]⟩, .int .i64 1]) ∧ Below w.heap.size w w' := by
  have c := l_read ⟨#[48, 46, 49]⟩ (by decide) w
  rw [rd8] at c
  exact c
theorem s_read9 (w : World) : Calls Tryz.prog 35 #[.string ⟨#[48, 46, 50]⟩] w fun e w' => e = .returned (.agg #[.bool false, .string ⟨#[50]⟩, .int .i64 1]) ∧ Below w.heap.size w w' := by
  have c := l_read ⟨#[48, 46, 50]⟩ (by decide) w
  rw [rd9] at c
  exact c
theorem s_read10 (w : World) : Calls Tryz.prog 35 #[.string ⟨#[45, 49, 46, 53]⟩] w fun e w' => e = .returned (.agg #[.bool true, .string ⟨#[49, 53]⟩, .int .i64 1]) ∧ Below w.heap.size w w' := by
  have c := l_read ⟨#[45, 49, 46, 53]⟩ (by decide) w
  rw [rd10] at c
  exact c
theorem s_read11 (w : World) : Calls Tryz.prog 35 #[.string ⟨#[50]⟩] w fun e w' => e = .returned (.agg #[.bool false, .string ⟨#[50]⟩, .int .i64 0]) ∧ Below w.heap.size w w' := by
  have c := l_read ⟨#[50]⟩ (by decide) w
  rw [rd11] at c
  exact c
theorem s_read12 (w : World) : Calls Tryz.prog 35 #[.string ⟨#[51]⟩] w fun e w' => e = .returned (.agg #[.bool false, .string ⟨#[51]⟩, .int .i64 0]) ∧ Below w.heap.size w w' := by
  have c := l_read ⟨#[51]⟩ (by decide) w
  rw [rd12] at c
  exact c
theorem s_read13 (w : World) : Calls Tryz.prog 35 #[.string ⟨#[50, 46, 53]⟩] w fun e w' => e = .returned (.agg #[.bool false, .string ⟨#[50, 53]⟩, .int .i64 1]) ∧ Below w.heap.size w w' := by
  have c := l_read ⟨#[50, 46, 53]⟩ (by decide) w
  rw [rd13] at c
  exact c
theorem s_read14 (w : World) : Calls Tryz.prog 35 #[.string ⟨#[51, 46, 53]⟩] w fun e w' => e = .returned (.agg #[.bool false, .string ⟨#[51, 53]⟩, .int .i64 1]) ∧ Below w.heap.size w w' := by
  have c := l_read ⟨#[51, 46, 53]⟩ (by decide) w
  rw [rd14] at c
  exact c
theorem s_read15 (w : World) : Calls Tryz.prog 35 #[.string ⟨#[45, 49, 50]⟩] w fun e w' => e = .returned (.agg #[.bool true, .string ⟨#[49, 50]⟩, .int .i64 0]) ∧ Below w.heap.size w w' := by
  have c := l_read ⟨#[45, 49, 50]⟩ (by decide) w
  rw [rd15] at c
  exact c
theorem s_div1 {P : World → Prop} (ok : ProgOk P) (w : World) (hP : P w) : Calls Tryz.prog 27 #[.agg #[.bool false, .string ⟨#[49]⟩, .int .i64 0], .agg #[.bool false, .string ⟨#[48]⟩, .int .i64 0], .int .i64 2] w fun e w' => e = .returned (.tuple #[.agg #[.bool false, .string ⟨#[]⟩, .int .i64 0], .int .i64 2]) ∧ Below w.heap.size w w' := by
  have c := ok.div ⟨false, ⟨#[49]⟩, 0⟩ ⟨false, ⟨#[48]⟩, 0⟩ 2 w (by decide) (by decide) hP
  rw [divS_zero is1] at c
  exact c
theorem s_cmp1 {P : World → Prop} (ok : ProgOk P) (w : World) (hP : P w) : Calls Tryz.prog 25 #[.agg #[.bool true, .string ⟨#[49]⟩, .int .i64 0], .agg #[.bool false, .string ⟨#[53]⟩, .int .i64 1]] w fun e w' => e = .returned (.tuple #[.int .i64 (-1), .int .i64 0]) ∧ Below w.heap.size w w' := by
  have c := ok.cmp ⟨true, ⟨#[49]⟩, 0⟩ ⟨false, ⟨#[53]⟩, 1⟩ w (by decide) (by decide) hP
  rw [cmpS_ok is2.valid is3.valid, show ordS ⟨true, ⟨#[49]⟩, 0⟩ ⟨false, ⟨#[53]⟩, 1⟩ = -1 by kernel_rfl] at c
  exact c
theorem s_dig1 {P : World → Prop} (ok : ProgOk P) (w : World) (hP : P w) : Calls Tryz.prog 31 #[.agg #[.bool false, .string ⟨#[49]⟩, .int .i64 3]] w fun e w' => e = .returned (.tuple #[.int .i64 3, .int .i64 3, .int .i64 0]) ∧ Below w.heap.size w w' := by
  have c := ok.digits ⟨false, ⟨#[49]⟩, 3⟩ w (by decide) hP
  rw [digS_ok is4.valid] at c
  exact c
theorem s_add1 {P : World → Prop} (ok : ProgOk P) (w : World) (hP : P w) : Calls Tryz.prog 17 #[.agg #[.bool false, .string ⟨#[49]⟩, .int .i64 1], .agg #[.bool false, .string ⟨#[50]⟩, .int .i64 1]] w fun e w' => e = .returned (.tuple #[.agg #[.bool false, .string ⟨#[51]⟩, .int .i64 1], .int .i64 0]) ∧ Below w.heap.size w w' := by
  have c := ok.add ⟨false, ⟨#[49]⟩, 1⟩ ⟨false, ⟨#[50]⟩, 1⟩ w (by decide) (by decide) hP
  rw [addS_ok is6 is7, show ofOpt _ = ⟨⟨false, ⟨#[51]⟩, 1⟩, 0⟩ by kernel_rfl] at c
  exact c
theorem s_mul1 {P : World → Prop} (ok : ProgOk P) (w : World) (hP : P w) : Calls Tryz.prog 21 #[.agg #[.bool true, .string ⟨#[49, 53]⟩, .int .i64 1], .agg #[.bool false, .string ⟨#[50]⟩, .int .i64 1]] w fun e w' => e = .returned (.tuple #[.agg #[.bool true, .string ⟨#[51]⟩, .int .i64 1], .int .i64 0]) ∧ Below w.heap.size w w' := by
  have c := ok.mul ⟨true, ⟨#[49, 53]⟩, 1⟩ ⟨false, ⟨#[50]⟩, 1⟩ w (by decide) (by decide) hP
  rw [mulS_ok is8 is7, show ofOpt _ = ⟨⟨true, ⟨#[51]⟩, 1⟩, 0⟩ by kernel_rfl] at c
  exact c
theorem s_div2 {P : World → Prop} (ok : ProgOk P) (w : World) (hP : P w) : Calls Tryz.prog 27 #[.agg #[.bool false, .string ⟨#[50]⟩, .int .i64 0], .agg #[.bool false, .string ⟨#[51]⟩, .int .i64 0], .int .i64 4] w fun e w' => e = .returned (.tuple #[.agg #[.bool false, .string ⟨#[54, 54, 54, 54]⟩, .int .i64 4], .int .i64 0]) ∧ Below w.heap.size w w' := by
  have c := ok.div ⟨false, ⟨#[50]⟩, 0⟩ ⟨false, ⟨#[51]⟩, 0⟩ 4 w (by decide) (by decide) hP
  rw [show divS ⟨false, ⟨#[50]⟩, 0⟩ ⟨false, ⟨#[51]⟩, 0⟩ 4 = _ from divS_ok (k := 4) is9 is10 (by decide) (by decide), show ofOpt _ = ⟨⟨false, ⟨#[54, 54, 54, 54]⟩, 4⟩, 0⟩ by kernel_rfl] at c
  exact c
theorem s_round1 {P : World → Prop} (ok : ProgOk P) (w : World) (hP : P w) : Calls Tryz.prog 29 #[.agg #[.bool false, .string ⟨#[50, 53]⟩, .int .i64 1], .int .i64 0] w fun e w' => e = .returned (.tuple #[.agg #[.bool false, .string ⟨#[50]⟩, .int .i64 0], .int .i64 0]) ∧ Below w.heap.size w w' := by
  have c := ok.round ⟨false, ⟨#[50, 53]⟩, 1⟩ 0 w (by decide) hP
  rw [show roundS ⟨false, ⟨#[50, 53]⟩, 1⟩ 0 = _ from roundS_ok (k := 0) is11 (by decide), show (if (1 : Nat) ≤ 0 then _ else ofOpt _) = (⟨⟨false, ⟨#[50]⟩, 0⟩, 0⟩ : DRes) by kernel_rfl] at c
  exact c
theorem s_round2 {P : World → Prop} (ok : ProgOk P) (w : World) (hP : P w) : Calls Tryz.prog 29 #[.agg #[.bool false, .string ⟨#[51, 53]⟩, .int .i64 1], .int .i64 0] w fun e w' => e = .returned (.tuple #[.agg #[.bool false, .string ⟨#[52]⟩, .int .i64 0], .int .i64 0]) ∧ Below w.heap.size w w' := by
  have c := ok.round ⟨false, ⟨#[51, 53]⟩, 1⟩ 0 w (by decide) hP
  rw [show roundS ⟨false, ⟨#[51, 53]⟩, 1⟩ 0 = _ from roundS_ok (k := 0) is12 (by decide), show (if (1 : Nat) ≤ 0 then _ else ofOpt _) = (⟨⟨false, ⟨#[52]⟩, 0⟩, 0⟩ : DRes) by kernel_rfl] at c
  exact c
theorem s_of1 {P : World → Prop} (ok : ProgOk P) (w : World) (hP : P w) : Calls Tryz.prog 15 #[.int .i64 (-12)] w fun e w' => e = .returned (.agg #[.bool true, .string ⟨#[49, 50]⟩, .int .i64 0]) ∧ Below w.heap.size w w' := by
  have c := ok.of (-12) w (by decide) (by decide) hP
  rw [show ofSpec (-12) = ⟨true, ⟨#[49, 50]⟩, 0⟩ by kernel_rfl] at c
  exact c
theorem s_text0 {P : World → Prop} (ok : ProgOk P) (w : World) (hP : P w) : Calls Tryz.prog 36 #[.agg #[.bool false, .string ⟨#[55, 53]⟩, .int .i64 1], .int .i64 0] w fun e w' => e = .returned (.string ⟨#[55, 46, 53]⟩) ∧ Below w.heap.size w w' := by
  have c := l_text ok ⟨false, ⟨#[55, 53]⟩, 1⟩ (by decide) w hP
  rw [textS_ok is5.valid, show textOf ⟨false, ⟨#[55, 53]⟩, 1⟩ = ⟨#[55, 46, 53]⟩ by kernel_rfl] at c
  exact c
theorem s_text1 {P : World → Prop} (ok : ProgOk P) (w : World) (hP : P w) : Calls Tryz.prog 36 #[.agg #[.bool false, .string ⟨#[48]⟩, .int .i64 0], .int .i64 0] w fun e w' => e = .returned (.string ⟨#[48]⟩) ∧ Below w.heap.size w w' := by
  have c := l_text ok ⟨false, ⟨#[48]⟩, 0⟩ (by decide) w hP
  rw [textS_ok is1.valid, show textOf ⟨false, ⟨#[48]⟩, 0⟩ = ⟨#[48]⟩ by kernel_rfl] at c
  exact c
theorem s_text2 {P : World → Prop} (ok : ProgOk P) (w : World) (hP : P w) : Calls Tryz.prog 36 #[.agg #[.bool false, .string ⟨#[51]⟩, .int .i64 1], .int .i64 0] w fun e w' => e = .returned (.string ⟨#[48, 46, 51]⟩) ∧ Below w.heap.size w w' := by
  have c := l_text ok ⟨false, ⟨#[51]⟩, 1⟩ (by decide) w hP
  rw [textS_ok is14.valid, show textOf ⟨false, ⟨#[51]⟩, 1⟩ = ⟨#[48, 46, 51]⟩ by kernel_rfl] at c
  exact c
theorem s_text3 {P : World → Prop} (ok : ProgOk P) (w : World) (hP : P w) : Calls Tryz.prog 36 #[.agg #[.bool true, .string ⟨#[51]⟩, .int .i64 1], .int .i64 0] w fun e w' => e = .returned (.string ⟨#[45, 48, 46, 51]⟩) ∧ Below w.heap.size w w' := by
  have c := l_text ok ⟨true, ⟨#[51]⟩, 1⟩ (by decide) w hP
  rw [textS_ok is15.valid, show textOf ⟨true, ⟨#[51]⟩, 1⟩ = ⟨#[45, 48, 46, 51]⟩ by kernel_rfl] at c
  exact c
theorem s_text4 {P : World → Prop} (ok : ProgOk P) (w : World) (hP : P w) : Calls Tryz.prog 36 #[.agg #[.bool false, .string ⟨#[54, 54, 54, 54]⟩, .int .i64 4], .int .i64 0] w fun e w' => e = .returned (.string ⟨#[48, 46, 54, 54, 54, 54]⟩) ∧ Below w.heap.size w w' := by
  have c := l_text ok ⟨false, ⟨#[54, 54, 54, 54]⟩, 4⟩ (by decide) w hP
  rw [textS_ok is16.valid, show textOf ⟨false, ⟨#[54, 54, 54, 54]⟩, 4⟩ = ⟨#[48, 46, 54, 54, 54, 54]⟩ by kernel_rfl] at c
  exact c
theorem s_text5 {P : World → Prop} (ok : ProgOk P) (w : World) (hP : P w) : Calls Tryz.prog 36 #[.agg #[.bool false, .string ⟨#[50]⟩, .int .i64 0], .int .i64 0] w fun e w' => e = .returned (.string ⟨#[50]⟩) ∧ Below w.heap.size w w' := by
  have c := l_text ok ⟨false, ⟨#[50]⟩, 0⟩ (by decide) w hP
  rw [textS_ok is9.valid, show textOf ⟨false, ⟨#[50]⟩, 0⟩ = ⟨#[50]⟩ by kernel_rfl] at c
  exact c
theorem s_text6 {P : World → Prop} (ok : ProgOk P) (w : World) (hP : P w) : Calls Tryz.prog 36 #[.agg #[.bool false, .string ⟨#[52]⟩, .int .i64 0], .int .i64 0] w fun e w' => e = .returned (.string ⟨#[52]⟩) ∧ Below w.heap.size w w' := by
  have c := l_text ok ⟨false, ⟨#[52]⟩, 0⟩ (by decide) w hP
  rw [textS_ok is17.valid, show textOf ⟨false, ⟨#[52]⟩, 0⟩ = ⟨#[52]⟩ by kernel_rfl] at c
  exact c

theorem step {w W W' : World} (B : Below w.heap.size w W) (b : Below W.heap.size W W') : Below w.heap.size w W' := B.trans (b.mono B.size)
theorem stepA {w W : World} (B : Below w.heap.size w W) (o : Obj) : Below w.heap.size w (W.alloc o) := B.alloc B.size o

set_option maxRecDepth 100000 in
set_option maxHeartbeats 4000000 in
theorem shown_any {P : World → Prop} (ok : ProgOk P) (w : World) (hP : P w) : Calls Tryz.prog 8 #[] w fun e w' => e = .returned (.bool true) ∧ Below w.heap.size w w' := by
  have HP := Lib.hid hP
  have HB0 : Hid (Below w.heap.size w w) := Lib.hid (Below.refl _ _)
  clear hP
  go_enter Tryz.func8, Tryz.ntmps8
  go_wp2_with fail
  refine (s_Read0 ok _ (ok.below HP.out HB0.out)).mono ?_
  rintro e w1 ⟨rfl, b1⟩
  have HB1 := Lib.hid (step HB0.out b1)
  clear b1 HB0
  have HB1a := Lib.hid (stepA HB1.out (.cells #[.bool false, .string ⟨#[]⟩, .int .i64 0] 23))
  clear HB1
  go_wp2_with fail
  refine (s_read1 _).mono ?_
  rintro e w2 ⟨rfl, b2⟩
  have HB2 := Lib.hid (step HB1a.out b2)
  clear b2 HB1a
  go_wp2_with fail
  refine (s_read2 _).mono ?_
  rintro e w3 ⟨rfl, b3⟩
  have HB3 := Lib.hid (step HB2.out b3)
  clear b3 HB2
  go_wp2_with fail
  refine (s_div1 ok _ (ok.below HP.out HB3.out)).mono ?_
  rintro e w4 ⟨rfl, b4⟩
  have HB4 := Lib.hid (step HB3.out b4)
  clear b4 HB3
  have HB4a := Lib.hid (stepA HB4.out (.cells #[.bool false, .string ⟨#[]⟩, .int .i64 0] 23))
  clear HB4
  go_wp2_with fail
  refine (s_read3 _).mono ?_
  rintro e w5 ⟨rfl, b5⟩
  have HB5 := Lib.hid (step HB4a.out b5)
  clear b5 HB4a
  go_wp2_with fail
  refine (s_read4 _).mono ?_
  rintro e w6 ⟨rfl, b6⟩
  have HB6 := Lib.hid (step HB5.out b6)
  clear b6 HB5
  go_wp2_with fail
  refine (s_cmp1 ok _ (ok.below HP.out HB6.out)).mono ?_
  rintro e w7 ⟨rfl, b7⟩
  have HB7 := Lib.hid (step HB6.out b7)
  clear b7 HB6
  go_wp2_with fail
  refine (s_read5 _).mono ?_
  rintro e w8 ⟨rfl, b8⟩
  have HB8 := Lib.hid (step HB7.out b8)
  clear b8 HB7
  go_wp2_with fail
  refine (s_dig1 ok _ (ok.below HP.out HB8.out)).mono ?_
  rintro e w9 ⟨rfl, b9⟩
  have HB9 := Lib.hid (step HB8.out b9)
  clear b9 HB8
  go_wp2_with fail
  refine (s_Read6 ok _ (ok.below HP.out HB9.out)).mono ?_
  rintro e w10 ⟨rfl, b10⟩
  have HB10 := Lib.hid (step HB9.out b10)
  clear b10 HB9
  go_wp2_with fail
  refine (s_text0 ok _ (ok.below HP.out HB10.out)).mono ?_
  rintro e w11 ⟨rfl, b11⟩
  have HB11 := Lib.hid (step HB10.out b11)
  clear b11 HB10
  go_wp2_with fail
  refine (s_Read7 ok _ (ok.below HP.out HB11.out)).mono ?_
  rintro e w12 ⟨rfl, b12⟩
  have HB12 := Lib.hid (step HB11.out b12)
  clear b12 HB11
  go_wp2_with fail
  refine (s_text1 ok _ (ok.below HP.out HB12.out)).mono ?_
  rintro e w13 ⟨rfl, b13⟩
  have HB13 := Lib.hid (step HB12.out b13)
  clear b13 HB12
  go_wp2_with fail
  refine (s_read8 _).mono ?_
  rintro e w14 ⟨rfl, b14⟩
  have HB14 := Lib.hid (step HB13.out b14)
  clear b14 HB13
  go_wp2_with fail
  refine (s_read9 _).mono ?_
  rintro e w15 ⟨rfl, b15⟩
  have HB15 := Lib.hid (step HB14.out b15)
  clear b15 HB14
  go_wp2_with fail
  refine (s_add1 ok _ (ok.below HP.out HB15.out)).mono ?_
  rintro e w16 ⟨rfl, b16⟩
  have HB16 := Lib.hid (step HB15.out b16)
  clear b16 HB15
  go_wp2_with fail
  refine (s_text2 ok _ (ok.below HP.out HB16.out)).mono ?_
  rintro e w17 ⟨rfl, b17⟩
  have HB17 := Lib.hid (step HB16.out b17)
  clear b17 HB16
  go_wp2_with fail
  refine (s_read10 _).mono ?_
  rintro e w18 ⟨rfl, b18⟩
  have HB18 := Lib.hid (step HB17.out b18)
  clear b18 HB17
  go_wp2_with fail
  refine (s_read9 _).mono ?_
  rintro e w19 ⟨rfl, b19⟩
  have HB19 := Lib.hid (step HB18.out b19)
  clear b19 HB18
  go_wp2_with fail
  refine (s_mul1 ok _ (ok.below HP.out HB19.out)).mono ?_
  rintro e w20 ⟨rfl, b20⟩
  have HB20 := Lib.hid (step HB19.out b20)
  clear b20 HB19
  go_wp2_with fail
  refine (s_text3 ok _ (ok.below HP.out HB20.out)).mono ?_
  rintro e w21 ⟨rfl, b21⟩
  have HB21 := Lib.hid (step HB20.out b21)
  clear b21 HB20
  go_wp2_with fail
  refine (s_read11 _).mono ?_
  rintro e w22 ⟨rfl, b22⟩
  have HB22 := Lib.hid (step HB21.out b22)
  clear b22 HB21
  go_wp2_with fail
  refine (s_read12 _).mono ?_
  rintro e w23 ⟨rfl, b23⟩
  have HB23 := Lib.hid (step HB22.out b23)
  clear b23 HB22
  go_wp2_with fail
  refine (s_div2 ok _ (ok.below HP.out HB23.out)).mono ?_
  rintro e w24 ⟨rfl, b24⟩
  have HB24 := Lib.hid (step HB23.out b24)
  clear b24 HB23
  go_wp2_with fail
  refine (s_text4 ok _ (ok.below HP.out HB24.out)).mono ?_
  rintro e w25 ⟨rfl, b25⟩
  have HB25 := Lib.hid (step HB24.out b25)
  clear b25 HB24
  go_wp2_with fail
  refine (s_read13 _).mono ?_
  rintro e w26 ⟨rfl, b26⟩
  have HB26 := Lib.hid (step HB25.out b26)
  clear b26 HB25
  go_wp2_with fail
  refine (s_round1 ok _ (ok.below HP.out HB26.out)).mono ?_
  rintro e w27 ⟨rfl, b27⟩
  have HB27 := Lib.hid (step HB26.out b27)
  clear b27 HB26
  go_wp2_with fail
  refine (s_text5 ok _ (ok.below HP.out HB27.out)).mono ?_
  rintro e w28 ⟨rfl, b28⟩
  have HB28 := Lib.hid (step HB27.out b28)
  clear b28 HB27
  go_wp2_with fail
  refine (s_read14 _).mono ?_
  rintro e w29 ⟨rfl, b29⟩
  have HB29 := Lib.hid (step HB28.out b29)
  clear b29 HB28
  go_wp2_with fail
  refine (s_round2 ok _ (ok.below HP.out HB29.out)).mono ?_
  rintro e w30 ⟨rfl, b30⟩
  have HB30 := Lib.hid (step HB29.out b30)
  clear b30 HB29
  go_wp2_with fail
  refine (s_text6 ok _ (ok.below HP.out HB30.out)).mono ?_
  rintro e w31 ⟨rfl, b31⟩
  have HB31 := Lib.hid (step HB30.out b31)
  clear b31 HB30
  go_wp2_with fail
  refine (s_of1 ok _ (ok.below HP.out HB31.out)).mono ?_
  rintro e w32 ⟨rfl, b32⟩
  have HB32 := Lib.hid (step HB31.out b32)
  clear b32 HB31
  go_wp2_with fail
  refine (s_read15 _).mono ?_
  rintro e w33 ⟨rfl, b33⟩
  have HB33 := Lib.hid (step HB32.out b33)
  clear b33 HB32
  go_wp2
  go_ret
  exact ⟨rfl, HB33.out⟩
end Go.Proofs.YtcpociafcjabkaaGreatDoor

/- The law DecimalTexts. -/
namespace Go.Proofs.YtcpociafcjabkaaGreatDoor
open Go.RowKit

theorem keep1 {P : World → Prop} (ok : ProgOk P) {wk W W' : World} {B0 : Nat} {a00 a01 a02 : Value} (h : W.cell? ⟨B0, 0, none⟩ = some (a00) ∧ W.cell? ⟨B0, 1, none⟩ = some (a01) ∧ W.cell? ⟨B0, 2, none⟩ = some (a02) ∧ P W ∧ Below wk.heap.size wk W) (l0 : B0 < wk.heap.size) (b : Below W.heap.size W W') : W'.cell? ⟨B0, 0, none⟩ = some (a00) ∧ W'.cell? ⟨B0, 1, none⟩ = some (a01) ∧ W'.cell? ⟨B0, 2, none⟩ = some (a02) ∧ P W' ∧ Below wk.heap.size wk W' := by
  obtain ⟨h0, h1, h2, hp, hB⟩ := h
  have hz := hB.size
  exact ⟨(b.cell (p := ⟨B0, 0, none⟩) (by show B0 < _; omega)).trans h0, (b.cell (p := ⟨B0, 1, none⟩) (by show B0 < _; omega)).trans h1, (b.cell (p := ⟨B0, 2, none⟩) (by show B0 < _; omega)).trans h2, ok.below hp b, step hB b⟩
theorem keepP1 {P : World → Prop} {wk W : World} {B0 : Nat} {a00 a01 a02 : Value} (h : W.cell? ⟨B0, 0, none⟩ = some (a00) ∧ W.cell? ⟨B0, 1, none⟩ = some (a01) ∧ W.cell? ⟨B0, 2, none⟩ = some (a02) ∧ P W ∧ Below wk.heap.size wk W) : P W := h.2.2.2.1
theorem keepB1 {P : World → Prop} {wk W : World} {B0 : Nat} {a00 a01 a02 : Value} (h : W.cell? ⟨B0, 0, none⟩ = some (a00) ∧ W.cell? ⟨B0, 1, none⟩ = some (a01) ∧ W.cell? ⟨B0, 2, none⟩ = some (a02) ∧ P W ∧ Below wk.heap.size wk W) : Below wk.heap.size wk W := h.2.2.2.2
theorem keep2 {P : World → Prop} (ok : ProgOk P) {wk W W' : World} {B0 B1 : Nat} {a00 a01 a02 a10 a11 a12 : Value} (h : W.cell? ⟨B0, 0, none⟩ = some (a00) ∧ W.cell? ⟨B0, 1, none⟩ = some (a01) ∧ W.cell? ⟨B0, 2, none⟩ = some (a02) ∧ W.cell? ⟨B1, 0, none⟩ = some (a10) ∧ W.cell? ⟨B1, 1, none⟩ = some (a11) ∧ W.cell? ⟨B1, 2, none⟩ = some (a12) ∧ P W ∧ Below wk.heap.size wk W) (l0 : B0 < wk.heap.size) (l1 : B1 < wk.heap.size) (b : Below W.heap.size W W') : W'.cell? ⟨B0, 0, none⟩ = some (a00) ∧ W'.cell? ⟨B0, 1, none⟩ = some (a01) ∧ W'.cell? ⟨B0, 2, none⟩ = some (a02) ∧ W'.cell? ⟨B1, 0, none⟩ = some (a10) ∧ W'.cell? ⟨B1, 1, none⟩ = some (a11) ∧ W'.cell? ⟨B1, 2, none⟩ = some (a12) ∧ P W' ∧ Below wk.heap.size wk W' := by
  obtain ⟨h0, h1, h2, h3, h4, h5, hp, hB⟩ := h
  have hz := hB.size
  exact ⟨(b.cell (p := ⟨B0, 0, none⟩) (by show B0 < _; omega)).trans h0, (b.cell (p := ⟨B0, 1, none⟩) (by show B0 < _; omega)).trans h1, (b.cell (p := ⟨B0, 2, none⟩) (by show B0 < _; omega)).trans h2, (b.cell (p := ⟨B1, 0, none⟩) (by show B1 < _; omega)).trans h3, (b.cell (p := ⟨B1, 1, none⟩) (by show B1 < _; omega)).trans h4, (b.cell (p := ⟨B1, 2, none⟩) (by show B1 < _; omega)).trans h5, ok.below hp b, step hB b⟩
theorem keepP2 {P : World → Prop} {wk W : World} {B0 B1 : Nat} {a00 a01 a02 a10 a11 a12 : Value} (h : W.cell? ⟨B0, 0, none⟩ = some (a00) ∧ W.cell? ⟨B0, 1, none⟩ = some (a01) ∧ W.cell? ⟨B0, 2, none⟩ = some (a02) ∧ W.cell? ⟨B1, 0, none⟩ = some (a10) ∧ W.cell? ⟨B1, 1, none⟩ = some (a11) ∧ W.cell? ⟨B1, 2, none⟩ = some (a12) ∧ P W ∧ Below wk.heap.size wk W) : P W := h.2.2.2.2.2.2.1
theorem keepB2 {P : World → Prop} {wk W : World} {B0 B1 : Nat} {a00 a01 a02 a10 a11 a12 : Value} (h : W.cell? ⟨B0, 0, none⟩ = some (a00) ∧ W.cell? ⟨B0, 1, none⟩ = some (a01) ∧ W.cell? ⟨B0, 2, none⟩ = some (a02) ∧ W.cell? ⟨B1, 0, none⟩ = some (a10) ∧ W.cell? ⟨B1, 1, none⟩ = some (a11) ∧ W.cell? ⟨B1, 2, none⟩ = some (a12) ∧ P W ∧ Below wk.heap.size wk W) : Below wk.heap.size wk W := h.2.2.2.2.2.2.2
theorem keep3 {P : World → Prop} (ok : ProgOk P) {wk W W' : World} {B0 B1 B2 : Nat} {a00 a01 a02 a10 a11 a12 a20 a21 a22 : Value} (h : W.cell? ⟨B0, 0, none⟩ = some (a00) ∧ W.cell? ⟨B0, 1, none⟩ = some (a01) ∧ W.cell? ⟨B0, 2, none⟩ = some (a02) ∧ W.cell? ⟨B1, 0, none⟩ = some (a10) ∧ W.cell? ⟨B1, 1, none⟩ = some (a11) ∧ W.cell? ⟨B1, 2, none⟩ = some (a12) ∧ W.cell? ⟨B2, 0, none⟩ = some (a20) ∧ W.cell? ⟨B2, 1, none⟩ = some (a21) ∧ W.cell? ⟨B2, 2, none⟩ = some (a22) ∧ P W ∧ Below wk.heap.size wk W) (l0 : B0 < wk.heap.size) (l1 : B1 < wk.heap.size) (l2 : B2 < wk.heap.size) (b : Below W.heap.size W W') : W'.cell? ⟨B0, 0, none⟩ = some (a00) ∧ W'.cell? ⟨B0, 1, none⟩ = some (a01) ∧ W'.cell? ⟨B0, 2, none⟩ = some (a02) ∧ W'.cell? ⟨B1, 0, none⟩ = some (a10) ∧ W'.cell? ⟨B1, 1, none⟩ = some (a11) ∧ W'.cell? ⟨B1, 2, none⟩ = some (a12) ∧ W'.cell? ⟨B2, 0, none⟩ = some (a20) ∧ W'.cell? ⟨B2, 1, none⟩ = some (a21) ∧ W'.cell? ⟨B2, 2, none⟩ = some (a22) ∧ P W' ∧ Below wk.heap.size wk W' := by
  obtain ⟨h0, h1, h2, h3, h4, h5, h6, h7, h8, hp, hB⟩ := h
  have hz := hB.size
  exact ⟨(b.cell (p := ⟨B0, 0, none⟩) (by show B0 < _; omega)).trans h0, (b.cell (p := ⟨B0, 1, none⟩) (by show B0 < _; omega)).trans h1, (b.cell (p := ⟨B0, 2, none⟩) (by show B0 < _; omega)).trans h2, (b.cell (p := ⟨B1, 0, none⟩) (by show B1 < _; omega)).trans h3, (b.cell (p := ⟨B1, 1, none⟩) (by show B1 < _; omega)).trans h4, (b.cell (p := ⟨B1, 2, none⟩) (by show B1 < _; omega)).trans h5, (b.cell (p := ⟨B2, 0, none⟩) (by show B2 < _; omega)).trans h6, (b.cell (p := ⟨B2, 1, none⟩) (by show B2 < _; omega)).trans h7, (b.cell (p := ⟨B2, 2, none⟩) (by show B2 < _; omega)).trans h8, ok.below hp b, step hB b⟩
theorem keepP3 {P : World → Prop} {wk W : World} {B0 B1 B2 : Nat} {a00 a01 a02 a10 a11 a12 a20 a21 a22 : Value} (h : W.cell? ⟨B0, 0, none⟩ = some (a00) ∧ W.cell? ⟨B0, 1, none⟩ = some (a01) ∧ W.cell? ⟨B0, 2, none⟩ = some (a02) ∧ W.cell? ⟨B1, 0, none⟩ = some (a10) ∧ W.cell? ⟨B1, 1, none⟩ = some (a11) ∧ W.cell? ⟨B1, 2, none⟩ = some (a12) ∧ W.cell? ⟨B2, 0, none⟩ = some (a20) ∧ W.cell? ⟨B2, 1, none⟩ = some (a21) ∧ W.cell? ⟨B2, 2, none⟩ = some (a22) ∧ P W ∧ Below wk.heap.size wk W) : P W := h.2.2.2.2.2.2.2.2.2.1
theorem keepB3 {P : World → Prop} {wk W : World} {B0 B1 B2 : Nat} {a00 a01 a02 a10 a11 a12 a20 a21 a22 : Value} (h : W.cell? ⟨B0, 0, none⟩ = some (a00) ∧ W.cell? ⟨B0, 1, none⟩ = some (a01) ∧ W.cell? ⟨B0, 2, none⟩ = some (a02) ∧ W.cell? ⟨B1, 0, none⟩ = some (a10) ∧ W.cell? ⟨B1, 1, none⟩ = some (a11) ∧ W.cell? ⟨B1, 2, none⟩ = some (a12) ∧ W.cell? ⟨B2, 0, none⟩ = some (a20) ∧ W.cell? ⟨B2, 1, none⟩ = some (a21) ∧ W.cell? ⟨B2, 2, none⟩ = some (a22) ∧ P W ∧ Below wk.heap.size wk W) : Below wk.heap.size wk W := h.2.2.2.2.2.2.2.2.2.2

set_option maxRecDepth 100000 in
set_option maxHeartbeats 4000000 in
theorem texts_long1 {P : World → Prop} (ok : ProgOk P) (an : Bool) (ad : ByteArray) (ak : Int) (s : ByteArray) (n : Int) (n0 : -9223372036854775808 ≤ n) (n1 : n ≤ 9223372036854775807) (h : (400 : Int) < (s.size : Int)) (w : World) (hP : P w) : Calls Tryz.prog 3 #[.agg #[.bool an, .string ad, .int .i64 ak], .string s, .int .i64 n] w fun e w' => e = .returned (.bool true) ∧ Below w.heap.size w w' := by
  have HP := Lib.hid hP
  have HP1 : Hid (P (w.alloc (.cells #[.bool an, .string ad, .int .i64 ak] 23))) := Lib.hid (ok.below hP ((Below.refl _ _).alloc (Nat.le_refl _) _))
  have HB0 := Lib.hid ((Below.refl w.heap.size w).alloc (Nat.le_refl _) (.cells #[.bool an, .string ad, .int .i64 ak] 23))
  clear hP n0 n1
  go_enter Tryz.func3, Tryz.ntmps3
  go_wp2_with fail
  refine (shown_any ok _ HP1.out).mono ?_
  rintro e w1 ⟨rfl, b1⟩
  have HB1 := Lib.hid (step HB0.out b1)
  clear b1 HB0
  go_wp2
  go_ret
  exact ⟨rfl, HB1.out⟩

set_option maxRecDepth 100000 in
set_option maxHeartbeats 4000000 in
theorem texts_long2 {P : World → Prop} (ok : ProgOk P) (an : Bool) (ad : ByteArray) (ak : Int) (s : ByteArray) (n : Int) (n0 : -9223372036854775808 ≤ n) (n1 : n ≤ 9223372036854775807) (g : ¬ (400 : Int) < (s.size : Int)) (h : (400 : Int) < (ad.size : Int)) (w : World) (hP : P w) : Calls Tryz.prog 3 #[.agg #[.bool an, .string ad, .int .i64 ak], .string s, .int .i64 n] w fun e w' => e = .returned (.bool true) ∧ Below w.heap.size w w' := by
  have HP := Lib.hid hP
  have HP1 : Hid (P (w.alloc (.cells #[.bool an, .string ad, .int .i64 ak] 23))) := Lib.hid (ok.below hP ((Below.refl _ _).alloc (Nat.le_refl _) _))
  have HB0 := Lib.hid ((Below.refl w.heap.size w).alloc (Nat.le_refl _) (.cells #[.bool an, .string ad, .int .i64 ak] 23))
  clear hP n0 n1
  go_enter Tryz.func3, Tryz.ntmps3
  go_wp2_with fail
  refine (shown_any ok _ HP1.out).mono ?_
  rintro e w1 ⟨rfl, b1⟩
  have HB1 := Lib.hid (step HB0.out b1)
  clear b1 HB0
  go_wp2
  go_ret
  exact ⟨rfl, HB1.out⟩

set_option maxRecDepth 100000 in
set_option maxHeartbeats 4000000 in
theorem texts_short {P : World → Prop} (ok : ProgOk P) (an : Bool) (ad : ByteArray) (ak : Int) (s : ByteArray) (n : Int) (n0 : -9223372036854775808 ≤ n) (n1 : n ≤ 9223372036854775807) (g : ¬ (400 : Int) < (s.size : Int)) (h : ¬ (400 : Int) < (ad.size : Int)) (w : World) (hP : P w) : Calls Tryz.prog 3 #[.agg #[.bool an, .string ad, .int .i64 ak], .string s, .int .i64 n] w fun e w' => e = .returned (.bool true) ∧ Below w.heap.size w w' := by
  have HP := Lib.hid hP
  have HP1 : Hid (P (w.alloc (.cells #[.bool an, .string ad, .int .i64 ak] 23))) := Lib.hid (ok.below hP ((Below.refl _ _).alloc (Nat.le_refl _) _))
  have HB0 := Lib.hid ((Below.refl w.heap.size w).alloc (Nat.le_refl _) (.cells #[.bool an, .string ad, .int .i64 ak] 23))
  have za : ad.size ≤ 400 := by omega
  have zs : s.size ≤ 400 := by omega
  have cR := fun W => ok.read s W zs
  have cR2 := fun W => r_read s zs W
  unfold DRes.v Dec.v at cR cR2
  obtain ⟨re, hre⟩ : ∃ re, (readS s).e = re := ⟨_, rfl⟩
  obtain ⟨rn, hrn⟩ : ∃ rn, (readS s).d.neg = rn := ⟨_, rfl⟩
  obtain ⟨rd, hrd⟩ : ∃ rd, (readS s).d.ds = rd := ⟨_, rfl⟩
  obtain ⟨rk, hrk⟩ : ∃ rk, (readS s).d.sc = rk := ⟨_, rfl⟩
  rw [hre, hrn, hrd, hrk] at cR cR2
  clear hre hrn hrd hrk
  have cT := fun W => ok.text ⟨an, ad, ak⟩ W za
  have cT2 := fun W => r_text ⟨an, ad, ak⟩ za W
  have zm : ad.size ≤ maxLen := by unfold maxLen; omega
  have cC := fun W => ok.check ⟨an, ad, ak⟩ W zm
  have cC2 := fun W => r_check ⟨an, ad, ak⟩ zm W
  have cO := fun W => ok.of n W n0 n1
  have cO2 := fun W => r_of n n0 n1 W
  unfold Dec.v at cT cT2 cC cC2 cO cO2
  simp only at cT cT2 cC cC2
  generalize (textS ⟨an, ad, ak⟩).1 = ts at cT cT2
  generalize (textS ⟨an, ad, ak⟩).2 = te at cT cT2
  generalize chkR ⟨an, ad, ak⟩ = ce at cC cC2
  generalize (ofSpec n).neg = on at cO cO2
  generalize (ofSpec n).ds = od at cO cO2
  generalize (ofSpec n).sc = okk at cO cO2
  clear hP n0 n1 za zs zm
  go_enter Tryz.func3, Tryz.ntmps3
  go_wp2_with fail
  refine (cR _ HP1.out).mono ?_
  rintro e w1 ⟨rfl, b1⟩
  clear cR
  obtain ⟨_, _, _, _, _, _, _, hz1⟩ := one_all b1
  have HB1 := Lib.hid (stepA (step HB0.out b1) (.cells #[.bool rn, .string rd, .int .i64 rk] 23))
  have HA1 := Lib.hid (stepA b1 (.cells #[.bool rn, .string rd, .int .i64 rk] 23))
  clear b1 HB0
  go_wp2_with fail
  refine (cR2 _).mono ?_
  rintro e w2 ⟨rfl, b2⟩
  clear cR2
  have hz2 : w1.heap.size + 1 ≤ w2.heap.size := by have := b2.size; simpa using this
  have HB2 := Lib.hid (stepA (step HB1.out b2) (.cells #[.bool rn, .string rd, .int .i64 rk] 23))
  have HA2 := Lib.hid (stepA (step HA1.out b2) (.cells #[.bool rn, .string rd, .int .i64 rk] 23))
  have HD2 := Lib.hid (stepA b2 (.cells #[.bool rn, .string rd, .int .i64 rk] 23))
  clear b2 HB1 HA1
  obtain ⟨x0, x1, x2, _⟩ := one_all HA2.out
  go_wp2_with fail
  refine (cT _ (ok.below HP.out HB2.out)).mono ?_
  rintro e w3 ⟨rfl, b3⟩
  clear cT x0 x1 x2
  have HB3 := Lib.hid (step HB2.out b3)
  have HA3 := Lib.hid (step HA2.out b3)
  have HD3 := Lib.hid (step HD2.out b3)
  have HE3 := Lib.hid b3
  clear b3 HB2 HA2 HD2
  obtain ⟨x0, x1, x2, _⟩ := one_all HA3.out
  go_wp2_with fail
  refine (cT2 _).mono ?_
  rintro e w4 ⟨rfl, b4⟩
  clear cT2 x0 x1 x2
  have HB4 := Lib.hid (step HB3.out b4)
  have HA4 := Lib.hid (step HA3.out b4)
  have HD4 := Lib.hid (step HD3.out b4)
  have HE4 := Lib.hid (step HE3.out b4)
  clear b4 HB3 HA3 HD3 HE3
  obtain ⟨x0, x1, x2, _, _, _, _, _⟩ := one_all HA4.out
  obtain ⟨y0, y1, y2, _, _, _, _, _⟩ := one_all HD4.out
  obtain ⟨z0, z1, z2, _, _, _, _, _⟩ := one_all HE4.out
  have hz4 : w2.heap.size + 1 ≤ w4.heap.size := by have := HE4.out.size; simpa using this
  have KS := Lib.hid (And.intro x0 (And.intro x1 (And.intro x2 (And.intro y0 (And.intro y1 (And.intro y2 (And.intro z0 (And.intro z1 (And.intro z2 (And.intro (ok.below HP.out HB4.out) (Below.refl w4.heap.size w4)))))))))))
  have l0 : w.heap.size < w4.heap.size := by omega
  have l1 : w1.heap.size < w4.heap.size := by omega
  have l2 : w2.heap.size < w4.heap.size := by omega
  clear x0 x1 x2 y0 y1 y2 z0 z1 z2 HA4 HD4 HE4
  go_wp2_with fail
  go_region_held3 (fun W => W.cell? ⟨w.heap.size, 0, none⟩ = some (.bool an) ∧ W.cell? ⟨w.heap.size, 1, none⟩ = some (.string ad) ∧ W.cell? ⟨w.heap.size, 2, none⟩ = some (.int .i64 ak) ∧ W.cell? ⟨w1.heap.size, 0, none⟩ = some (.bool rn) ∧ W.cell? ⟨w1.heap.size, 1, none⟩ = some (.string rd) ∧ W.cell? ⟨w1.heap.size, 2, none⟩ = some (.int .i64 rk) ∧ W.cell? ⟨w2.heap.size, 0, none⟩ = some (.bool rn) ∧ W.cell? ⟨w2.heap.size, 1, none⟩ = some (.string rd) ∧ W.cell? ⟨w2.heap.size, 2, none⟩ = some (.int .i64 rk) ∧ P W ∧ Below w4.heap.size w4 W)
    (first | exact keep3 ok KS.out l0 l1 l2 (below_drew1 _) | exact keep3 ok (by assumption) l0 l1 l2 c5 | exact keep3 ok (by assumption) l0 l1 l2 c4 | exact keep3 ok (by assumption) l0 l1 l2 c3 | exact keep3 ok (by assumption) l0 l1 l2 c2 | exact keep3 ok (by assumption) l0 l1 l2 c1)
    (first
      | (go_at_call 13; refine (cC _ (keepP3 (by assumption))).mono ?_; rintro e u1 ⟨rfl, c1⟩)
      | (go_at_call 14; refine (cC2 _).mono ?_; rintro e u2 ⟨rfl, c2⟩)
      | (go_at_call 15; refine (cO _ (keepP3 (by assumption))).mono ?_; rintro e u3 ⟨rfl, c3⟩)
      | (go_at_call 16; refine (cO2 _).mono ?_; rintro e u4 ⟨rfl, c4⟩)
      | (go_at_call 8; refine (shown_any ok _ (keepP3 (by assumption))).mono ?_; rintro e u5 ⟨rfl, c5⟩))
  all_goals go_wp2
  all_goals go_ret
  all_goals exact ⟨rfl, step HB4.out (keepB3 (by assumption))⟩
end Go.Proofs.YtcpociafcjabkaaGreatDoor

/- A block of three cells, as calls and stores leave it. -/
namespace Go.Proofs.YtcpociafcjabkaaGreatDoor
open Go.RowKit

def Has (W : World) (b : Nat) (v0 v1 v2 : Value) : Prop :=
  W.cell? ⟨b, 0, none⟩ = some v0 ∧ W.cell? ⟨b, 1, none⟩ = some v1 ∧ W.cell? ⟨b, 2, none⟩ = some v2 ∧ W.frozen? ⟨b, 0, none⟩ = false ∧ W.frozen? ⟨b, 1, none⟩ = false ∧ W.frozen? ⟨b, 2, none⟩ = false ∧ b < W.heap.size
theorem Has.call {W W' : World} {b : Nat} {v0 v1 v2 : Value} (h : Has W b v0 v1 v2) (B : Below W.heap.size W W') : Has W' b v0 v1 v2 := by
  obtain ⟨h0, h1, h2, f0, f1, f2, hb⟩ := h
  have := B.size
  exact ⟨(B.cell (p := ⟨b, 0, none⟩) hb).trans h0, (B.cell (p := ⟨b, 1, none⟩) hb).trans h1, (B.cell (p := ⟨b, 2, none⟩) hb).trans h2,
    (B.frozen (p := ⟨b, 0, none⟩) hb).trans f0, (B.frozen (p := ⟨b, 1, none⟩) hb).trans f1, (B.frozen (p := ⟨b, 2, none⟩) hb).trans f2, by omega⟩
theorem Has.alloc {W : World} {b : Nat} {v0 v1 v2 : Value} (h : Has W b v0 v1 v2) (o : Obj) : Has (W.alloc o) b v0 v1 v2 := h.call ((Below.refl _ _).alloc (Nat.le_refl _) o)
theorem Has.new (W : World) (v0 v1 v2 : Value) (T : TypeId) : Has (W.alloc (.cells #[v0, v1, v2] T)) W.heap.size v0 v1 v2 := by
  refine ⟨?_, ?_, ?_, ?_, ?_, ?_, by simp⟩
  · rw [World.cell?_alloc_at _ _ _ _ rfl]; rfl
  · rw [World.cell?_alloc_at _ _ _ _ rfl]; rfl
  · rw [World.cell?_alloc_at _ _ _ _ rfl]; rfl
  · rw [World.frozen?_alloc_at _ _ _ _ rfl]
  · rw [World.frozen?_alloc_at _ _ _ _ rfl]
  · rw [World.frozen?_alloc_at _ _ _ _ rfl]
theorem Has.far {W : World} {b c : Nat} {v0 v1 v2 : Value} (h : Has W b v0 v1 v2) (hne : c ≠ b) (u0 u1 u2 : Value) :
    Has (((W.setCell ⟨c, 0, none⟩ u0).setCell ⟨c, 1, none⟩ u1).setCell ⟨c, 2, none⟩ u2) b v0 v1 v2 := by
  obtain ⟨h0, h1, h2, f0, f1, f2, hb⟩ := h
  refine ⟨?_, ?_, ?_, ?_, ?_, ?_, by simpa [World.setCell] using hb⟩
  · rw [World.cell?_setCell_far _ _ _ _ hne, World.cell?_setCell_far _ _ _ _ hne, World.cell?_setCell_far _ _ _ _ hne]; exact h0
  · rw [World.cell?_setCell_far _ _ _ _ hne, World.cell?_setCell_far _ _ _ _ hne, World.cell?_setCell_far _ _ _ _ hne]; exact h1
  · rw [World.cell?_setCell_far _ _ _ _ hne, World.cell?_setCell_far _ _ _ _ hne, World.cell?_setCell_far _ _ _ _ hne]; exact h2
  · rw [World.frozen?_setCell, World.frozen?_setCell, World.frozen?_setCell]; exact f0
  · rw [World.frozen?_setCell, World.frozen?_setCell, World.frozen?_setCell]; exact f1
  · rw [World.frozen?_setCell, World.frozen?_setCell, World.frozen?_setCell]; exact f2
theorem other_cell (W : World) (b : Nat) {j k : Nat} (h : j ≠ k) (u : Value) : (W.setCell ⟨b, j, none⟩ u).cell? ⟨b, k, none⟩ = W.cell? ⟨b, k, none⟩ :=
  World.cell?_setCell_other W _ _ u (fun e => h (by injection e))
theorem Has.set {W : World} {b : Nat} {v0 v1 v2 : Value} (h : Has W b v0 v1 v2) (u0 u1 u2 : Value) :
    Has (((W.setCell ⟨b, 0, none⟩ u0).setCell ⟨b, 1, none⟩ u1).setCell ⟨b, 2, none⟩ u2) b u0 u1 u2 := by
  obtain ⟨h0, h1, h2, f0, f1, f2, hb⟩ := h
  refine ⟨?_, ?_, ?_, ?_, ?_, ?_, by simpa [World.setCell] using hb⟩
  · rw [other_cell _ _ (by omega), other_cell _ _ (by omega)]
    exact World.cell?_setCell_same _ _ _ h0
  · rw [other_cell _ _ (by omega)]
    exact World.cell?_setCell_same (u := v1) _ _ _ (by rw [other_cell _ _ (by omega)]; exact h1)
  · exact World.cell?_setCell_same (u := v2) _ _ _ (by rw [other_cell _ _ (by omega), other_cell _ _ (by omega)]; exact h2)
  · rw [World.frozen?_setCell, World.frozen?_setCell, World.frozen?_setCell]; exact f0
  · rw [World.frozen?_setCell, World.frozen?_setCell, World.frozen?_setCell]; exact f1
  · rw [World.frozen?_setCell, World.frozen?_setCell, World.frozen?_setCell]; exact f2
theorem Has.lt {W : World} {b : Nat} {v0 v1 v2 : Value} (h : Has W b v0 v1 v2) : b < W.heap.size := h.2.2.2.2.2.2
/-- A block that the call made. -/
theorem Has.le {w W : World} {b : Nat} {v0 v1 v2 : Value} (_ : Has W b v0 v1 v2) (h : w.heap.size ≤ b) : w.heap.size ≤ b := h
theorem stepS {w W : World} (B : Below w.heap.size w W) {b : Nat} (hb : w.heap.size ≤ b) (u0 u1 u2 : Value) : Below w.heap.size w (((W.setCell ⟨b, 0, none⟩ u0).setCell ⟨b, 1, none⟩ u1).setCell ⟨b, 2, none⟩ u2) :=
  ((B.setCell (p := ⟨b, 0, none⟩) hb u0).setCell (p := ⟨b, 1, none⟩) hb u1).setCell (p := ⟨b, 2, none⟩) hb u2
end Go.Proofs.YtcpociafcjabkaaGreatDoor
