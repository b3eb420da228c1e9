/- OK SD -/
import Derived.Test.YtmdnijehoagamaaGreatDoorK47
import Derived.Test.YtmdnijehoagamaaGreatDoorK55
set_option linter.unusedVariables false
set_option linter.unusedSimpArgs false
namespace Go.Proofs.YtmdnijehoagamaaGreatDoor
open Go.RowKit
theorem r_two6 (n k : Nat) (hn : n ≤ 1000000000) (hk : k ≤ 1000) (w : World) : Calls Tryz.prog 37 #[.int .i64 (n : Int), .int .i64 (k : Int)] w fun e w' => e = .returned (.string (twoS n k)) ∧ Below w.heap.size w w' := two_any n k hn hk w
theorem short_sec {s : Dec} (hs : Valid s) (hn : s.neg = false) (hlt : num s < 60 * 10 ^ scl s) :
  (if (decide ((textOf s).size < 2) || (textOf s).data.toList[1]? == some 46) then (⟨#[48]⟩ : ByteArray) ++ textOf s else textOf s) = ⟨(secL s).toArray⟩ := by
 obtain ⟨w1, w2, w3, w4, w5⟩ := sec_parts hs hlt
 have hl := text_list s hn
 have hz : (textOf s).size = (wholeL s).length + (tailL s).length := by rw [← bytes_len, hl, List.length_append]
 have e48 : (⟨#[48]⟩ : ByteArray).data.toList = [48] := rfl
 by_cases h1 : (wholeL s).length = 1
 ·have hc : (decide ((textOf s).size < 2) || (textOf s).data.toList[1]? == some 46) = true := by
   rw [hl, hz]
   unfold tailL
   split
   ·next h0 =>
    rw [List.getElem?_append_right (by omega), h1]
    simp
   ·rw [h1]; rfl
  rw [if_pos hc]
  apply bytes_ext
  rw [Joins.data_append, e48, hl, bytes_mk]
  unfold secL
  rw [h1]
  rfl
 ·have h2 : (wholeL s).length = 2 := by omega
  have hc : (decide ((textOf s).size < 2) || (textOf s).data.toList[1]? == some 46) = false := by
   rw [hl, hz, h2, decide_eq_false (by omega), Bool.false_or, List.getElem?_append_left (by omega)]
   have hg : 1 < (wholeL s).length := by omega
   rw [List.getElem?_eq_getElem hg]
   have := w1 _ (List.getElem_mem hg)
   have hne : (wholeL s)[1] ≠ 46 := fun e => by rw [e] at this; exact absurd this.1 (by decide)
   simpa using hne
  rw [if_neg (by rw [hc]; simp)]
  apply bytes_ext
  rw [hl, bytes_mk]
  unfold secL
  rw [h2]
  rfl
theorem r_text6 (m : Mom) (zs : m.sec.ds.size ≤ 400) (w : World) : Calls Tryz.prog 12 #[m.v] w fun e w' => e = .returned (.tuple #[.string (textS6 m).1, .int .i64 (textS6 m).2]) ∧ Below w.heap.size w w' := by
 have cV := fun W => r_check6 m zs W
 unfold checkS at cV
 unfold textS6
 cases ho : okB m with
 | false =>
  rw [ho] at cV
  exact rtext_bad m cV w
 | true =>
  rw [ho] at cV
  simp only [if_true]
  have h := okF ho
  obtain ⟨z0, z1, z2⟩ := h.zone
  have hyb : -10000 ≤ m.y ∧ m.y ≤ 10000 ∧ 0 ≤ m.mo ∧ m.mo ≤ 12 ∧ 0 ≤ m.d ∧ m.d ≤ 31 := by
   cases hd : datedB m.k with
   | true => have := h.date hd; have := h.days hd; omega
   | false => have := h.nodate hd; omega
  have hcb := h.clock
  obtain ⟨mo, hmo⟩ : ∃ n : Nat, m.mo = (n : Int) := ⟨m.mo.toNat, by omega⟩
  obtain ⟨dn, hdn⟩ : ∃ n : Nat, m.d = (n : Int) := ⟨m.d.toNat, by omega⟩
  obtain ⟨hr, hhr⟩ : ∃ n : Nat, m.h = (n : Int) := ⟨m.h.toNat, by omega⟩
  obtain ⟨mi, hmi⟩ : ∃ n : Nat, m.mi = (n : Int) := ⟨m.mi.toNat, by omega⟩
  have c2 := fun W => r_two6 mo 2 (by omega) (by omega) W
  have c3 := fun W => r_two6 dn 2 (by omega) (by omega) W
  have c4 := fun W => r_two6 hr 2 (by omega) (by omega) W
  have c5 := fun W => r_two6 mi 2 (by omega) (by omega) W
  rw [← hmo] at c2
  rw [← hdn] at c3
  rw [← hhr] at c4
  rw [← hmi] at c5
  have c6 := fun W => r_two6 (m.z.natAbs / 60) 2 (by omega) (by omega) W
  have c7 := fun W => r_two6 (m.z.natAbs % 60) 2 (by omega) (by omega) W
  have c1n : decide (m.y < 0) = true → ∀ W, Calls Tryz.prog 37 #[.int .i64 (-m.y), .int .i64 4] W fun e w' => e = .returned (.string (twoS m.y.natAbs 4)) ∧ Below W.heap.size W w' := fun g W => by
   have := of_decide_eq_true g
   rw [show -m.y = ((m.y.natAbs : Nat) : Int) by omega]
   exact r_two6 m.y.natAbs 4 (by omega) (by omega) W
  have c1p : decide (m.y < 0) = false → ∀ W, Calls Tryz.prog 37 #[.int .i64 m.y, .int .i64 4] W fun e w' => e = .returned (.string (twoS m.y.natAbs 4)) ∧ Below W.heap.size W w' := fun g W => by
   have := of_decide_eq_false g
   have e : m.y = ((m.y.natAbs : Nat) : Int) := by omega
   have c := r_two6 m.y.natAbs 4 (by omega) (by omega) W
   rw [← e] at c
   exact c
  have cT := fun W => r_text m.sec zs W
  have e1 : decide (m.z < 0) = true → IntKind.i64.wrap (-m.z.tdiv 60) = ((m.z.natAbs / 60 : Nat) : Int) := fun g => by
   have g1 := of_decide_eq_true g
   have : -m.z.tdiv 60 = ((m.z.natAbs / 60 : Nat) : Int) := by
    rw [← Int.neg_tdiv, Int.tdiv_eq_ediv_of_nonneg (by omega)]
    omega
   rw [this]
   exact IntWalk.i64_in _ (by omega)
  have e2 : decide (m.z < 0) = true → -m.z.tmod 60 = ((m.z.natAbs % 60 : Nat) : Int) := fun g => by
   have g1 := of_decide_eq_true g
   rw [← Int.neg_tmod, Int.tmod_eq_emod_of_nonneg (by omega)]
   omega
  have e3 : decide (m.z < 0) = false → IntKind.i64.wrap (m.z.tdiv 60) = ((m.z.natAbs / 60 : Nat) : Int) := fun g => by
   have g1 := of_decide_eq_false g
   have : m.z.tdiv 60 = ((m.z.natAbs / 60 : Nat) : Int) := by
    rw [Int.tdiv_eq_ediv_of_nonneg (by omega)]
    omega
   rw [this]
   exact IntWalk.i64_in _ (by omega)
  have e4 : decide (m.z < 0) = false → m.z.tmod 60 = ((m.z.natAbs % 60 : Nat) : Int) := fun g => by
   have g1 := of_decide_eq_false g
   rw [Int.tmod_eq_emod_of_nonneg (by omega)]
   omega
  have hTs : (textS m.sec).1.size ≤ 400 := by
   unfold textS
   split
   ·next hv => exact textOf_size hv
   ·decide
  have hS2 : timedB m.k = true → (if (decide ((textS m.sec).1.size < 2) || (textS m.sec).1.data.toList[1]? == some 46) then (⟨#[48]⟩ : ByteArray) ++ (textS m.sec).1 else (textS m.sec).1) = ⟨(secL m.sec).toArray⟩ := fun ht => by
   obtain ⟨_, _, _, _, hv, hn, _⟩ := h.time ht
   have e : (textS m.sec).1 = textOf m.sec := by unfold textS; rw [if_pos hv]
   rw [e]
   exact short_sec hv hn (h.sec_lt ht)
  refine (rtext_ok m (datedB m.k) (timedB m.k) (m.k == 3) (decide (m.y < 0)) _ (m.z == 0) (decide (m.z < 0)) _ _ _ _ _ _ _ _ _ _ _ _ _ _ _ _ (twoS_size _ 4) (twoS_size _ 2) (twoS_size _ 2) (twoS_size _ 2) (twoS_size _ 2) (twoS_size _ 2) (twoS_size _ 2) hTs rfl hyb.1 hyb.2.1 rfl rfl rfl z0 z1 rfl rfl rfl rfl rfl e1 e2 e3 e4 rfl cV (fun W => dated_any m.k W) (fun W => timed_any m.k W) c1n c1p c2 c3 cT c4 c5 c6 c7 w).mono fun e w' ⟨q, hb⟩ => ⟨?_, hb⟩
  rw [q]
  refine congrArg (fun z : ByteArray => Ending.returned (.tuple #[.string z, .int .i64 0])) ?_
  apply bytes_ext
  rw [bytes_mk]
  unfold textL zoneL
  have hk3 : (m.k == 3) = decide (m.k = 3) := by by_cases g : m.k = 3 <;> simp [g]
  have hz3 : (m.z == 0) = decide (m.z = 0) := by by_cases g : m.z = 0 <;> simp [g]
  have hda : dateL m.y m.mo m.d = (if m.y < 0 then [45] else []) ++ (twoL m.y.natAbs 4 ++ 45 :: (twoL mo 2 ++ 45 :: twoL dn 2)) := by unfold dateL; rw [hmo, hdn]; rfl
  have hcl : timedB m.k = true → clkL m.h m.mi m.sec = twoL hr 2 ++ 58 :: (twoL mi 2 ++ 58 :: secL m.sec) := fun _ => by unfold clkL; rw [hhr, hmi]; rfl
  rw [hk3, hz3, hda]
  cases ht : timedB m.k with
  | true =>
   rw [hS2 ht, hcl ht]
   rcases kinds h.kind with hk | hk | hk
   ·rw [hk] at ht; cases ht
   ·rw [show datedB m.k = false by rw [hk]; rfl]
    by_cases g1 : m.y < 0 <;> by_cases g2 : m.z = 0 <;> by_cases g3 : m.z < 0 <;> cases m.zd <;> simp [hk, g1, g2, g3, Joins.data_append, twoS_list]
   ·rw [show datedB m.k = true by rw [hk]; rfl]
    by_cases g1 : m.y < 0 <;> by_cases g2 : m.z = 0 <;> by_cases g3 : m.z < 0 <;> cases m.zd <;> simp [hk, g1, g2, g3, Joins.data_append, twoS_list]
  | false =>
   rcases kinds h.kind with hk | hk | hk
   ·rw [show datedB m.k = true by rw [hk]; rfl]
    by_cases g1 : m.y < 0 <;> by_cases g2 : m.z = 0 <;> by_cases g3 : m.z < 0 <;> cases m.zd <;> simp [hk, g1, g2, g3, Joins.data_append, twoS_list]
   ·rw [hk] at ht; cases ht
   ·rw [hk] at ht; cases ht
end Go.Proofs.YtmdnijehoagamaaGreatDoor
namespace Go.Proofs.YtmdnijehoagamaaGreatDoor
open Go.RowKit
set_option maxRecDepth 100000
set_option maxHeartbeats 8000000
theorem texts6_a (k : Int) (s : ByteArray) (m : Mom) (h : (300 : Int) < (s.size : Int)) (w : World) (hT : Tabs w) : Calls Tryz.prog 3 #[.int .i64 k, .string s, .agg #[.int .i64 m.k, .int .i64 m.y, .int .i64 m.mo, .int .i64 m.d, .int .i64 m.h, .int .i64 m.mi, .bool m.sec.neg, .string m.sec.ds, .int .i64 m.sec.sc, .bool m.zd, .int .i64 m.z]] w fun e w' => e = .returned (.bool true) ∧ Below w.heap.size w w' := by
  have HS := Lib.hid ((KD.nil w).push [.int .i64 m.k, .int .i64 m.y, .int .i64 m.mo, .int .i64 m.d, .int .i64 m.h, .int .i64 m.mi, .bool m.sec.neg, .string m.sec.ds, .int .i64 m.sec.sc, .bool m.zd, .int .i64 m.z] 25 (n := w.heap.size) (by simp))
  have HT := Lib.hid hT
  clear hT
  go_enter Tryz.func3, Tryz.ntmps3
  go_wp2_with fail
  refine (shown6 _ (HS.out.tabs HT.out)).mono ?_
  rintro e w1 ⟨rfl, b1⟩
  replace HS := Lib.hid (HS.out.call b1)
  clear b1
  go_wp2
  go_ret
  exact ⟨rfl, HS.out.old⟩
theorem texts6_b (k : Int) (s : ByteArray) (m : Mom) (g : ¬ (300 : Int) < (s.size : Int)) (h : (300 : Int) < (m.sec.ds.size : Int)) (w : World) (hT : Tabs w) : Calls Tryz.prog 3 #[.int .i64 k, .string s, .agg #[.int .i64 m.k, .int .i64 m.y, .int .i64 m.mo, .int .i64 m.d, .int .i64 m.h, .int .i64 m.mi, .bool m.sec.neg, .string m.sec.ds, .int .i64 m.sec.sc, .bool m.zd, .int .i64 m.z]] w fun e w' => e = .returned (.bool true) ∧ Below w.heap.size w w' := by
  have HS := Lib.hid ((KD.nil w).push [.int .i64 m.k, .int .i64 m.y, .int .i64 m.mo, .int .i64 m.d, .int .i64 m.h, .int .i64 m.mi, .bool m.sec.neg, .string m.sec.ds, .int .i64 m.sec.sc, .bool m.zd, .int .i64 m.z] 25 (n := w.heap.size) (by simp))
  have HT := Lib.hid hT
  clear hT
  have d0_7 := (HS.out.at 0 rfl).cell 7 rfl
  go_enter Tryz.func3, Tryz.ntmps3
  go_wp2_with fail
  refine (shown6 _ (HS.out.tabs HT.out)).mono ?_
  rintro e w1 ⟨rfl, b1⟩
  replace HS := Lib.hid (HS.out.call b1)
  clear d0_7 b1
  go_wp2
  go_ret
  exact ⟨rfl, HS.out.old⟩
theorem texts6_c (k : Int) (s : ByteArray) (m : Mom) (g : ¬ (300 : Int) < (s.size : Int)) (h : ¬ (300 : Int) < (m.sec.ds.size : Int)) (w : World) (hT : Tabs w) : Calls Tryz.prog 3 #[.int .i64 k, .string s, .agg #[.int .i64 m.k, .int .i64 m.y, .int .i64 m.mo, .int .i64 m.d, .int .i64 m.h, .int .i64 m.mi, .bool m.sec.neg, .string m.sec.ds, .int .i64 m.sec.sc, .bool m.zd, .int .i64 m.z]] w fun e w' => e = .returned (.bool true) ∧ Below w.heap.size w w' := by
  have zs : s.size ≤ 390 := by omega
  have zm : m.sec.ds.size ≤ 400 := by omega
  have c1 := fun W hW => p_read6 k s zs W hW
  have c2 := fun W => r_read6 k s zs W
  generalize readS6 k s.data.toList = r at c1 c2
  obtain ⟨⟨a0, a1, a2, a3, a4, a5, ⟨a6, a7, a8⟩, a9, a10⟩, qe⟩ := r
  unfold MRes.v Mom.v at c1 c2
  dsimp only at c1 c2
  have c3 := fun W hW => p_text6 m zm W hW
  have c4 := fun W => r_text6 m zm W
  have c5 := fun W hW => p_check6 m zm W hW
  have c6 := fun W => r_check6 m zm W
  unfold Mom.v at c3 c4 c5 c6
  generalize (textS6 m).1 = tx at c3 c4
  generalize (textS6 m).2 = tq at c3 c4
  generalize checkS m = ck at c5 c6
  clear zs zm
  have HS := Lib.hid ((KD.nil w).push [.int .i64 m.k, .int .i64 m.y, .int .i64 m.mo, .int .i64 m.d, .int .i64 m.h, .int .i64 m.mi, .bool m.sec.neg, .string m.sec.ds, .int .i64 m.sec.sc, .bool m.zd, .int .i64 m.z] 25 (n := w.heap.size) (by simp))
  have HT := Lib.hid hT
  clear hT
  go_enter Tryz.func3, Tryz.ntmps3
  have d0_7 := (HS.out.at 0 rfl).cell 7 rfl
  go_wp2_with fail
  refine (c1 _ (HS.out.tabs HT.out)).mono ?_
  rintro e w1 ⟨rfl, b1⟩
  replace HS := Lib.hid (HS.out.call b1)
  clear d0_7 b1
  replace HS := Lib.hid (HS.out.push [.int .i64 a0, .int .i64 a1, .int .i64 a2, .int .i64 a3, .int .i64 a4, .int .i64 a5, .bool a6, .string a7, .int .i64 a8, .bool a9, .int .i64 a10] 25 rfl)
  go_wp2_with fail
  refine (c2 _).mono ?_
  rintro e w2 ⟨rfl, b1⟩
  replace HS := Lib.hid (HS.out.call b1)
  clear b1
  replace HS := Lib.hid (HS.out.push [.int .i64 a0, .int .i64 a1, .int .i64 a2, .int .i64 a3, .int .i64 a4, .int .i64 a5, .bool a6, .string a7, .int .i64 a8, .bool a9, .int .i64 a10] 25 rfl)
  obtain ⟨d0_0, d0_1, d0_2, d0_3, d0_4, d0_5, d0_6, d0_7, d0_8, d0_9, d0_10⟩ := (HS.out.at 0 rfl).all11
  go_wp2_with fail
  refine (c3 _ (HS.out.tabs HT.out)).mono ?_
  rintro e w3 ⟨rfl, b1⟩
  replace HS := Lib.hid (HS.out.call b1)
  clear d0_0 d0_1 d0_2 d0_3 d0_4 d0_5 d0_6 d0_7 d0_8 d0_9 d0_10 b1
  obtain ⟨d0_0, d0_1, d0_2, d0_3, d0_4, d0_5, d0_6, d0_7, d0_8, d0_9, d0_10⟩ := (HS.out.at 0 rfl).all11
  go_wp2_with fail
  refine (c4 _).mono ?_
  rintro e w4 ⟨rfl, b1⟩
  replace HS := Lib.hid (HS.out.call b1)
  clear d0_0 d0_1 d0_2 d0_3 d0_4 d0_5 d0_6 d0_7 d0_8 d0_9 d0_10 b1
  go_upto_region 7 with fail
  refine wp_region_held_drew (S := KD w _) (by kernel_rfl) HS.out.drew1 (fun hHeld => ?_)
  clear HS
  generalize World.drew w4 = x at *
  refine wpAnyH_take (i := 0) (v := ?_) rfl (by kernel_rfl) (by kernel_rfl) (by kernel_rfl) (fun _ _ _ h => h) (Or.inl ⟨by rfl, ?_⟩) hHeld ?_
  rotate_left
  focus (intro w hSw; obtain ⟨c0, c1, c2, c3, c4, c5, c6, c7, c8, c9, c10⟩ := (hSw.at 1 rfl).all11; clear hSw; go_simp; (try with_reducible rfl))
  (try simp only [List.getElem_toArray, List.getElem_cons_zero, List.getElem_cons_succ, Act.put, List.setIfInBounds_toArray, List.set_cons_zero, List.set_cons_succ])
  refine wpAnyH_take (i := 1) (v := ?_) rfl (by kernel_rfl) (by kernel_rfl) (by kernel_rfl) (fun _ _ _ h => h) (Or.inl ⟨by rfl, ?_⟩) hHeld ?_
  rotate_left
  focus (intro w hSw; obtain ⟨c0, c1, c2, c3, c4, c5, c6, c7, c8, c9, c10⟩ := (hSw.at 2 rfl).all11; clear hSw; go_simp; (try with_reducible rfl))
  (try simp only [List.getElem_toArray, List.getElem_cons_zero, List.getElem_cons_succ, Act.put, List.setIfInBounds_toArray, List.set_cons_zero, List.set_cons_succ])
  refine wpAnyH_take (i := 2) (v := ?_) rfl (by kernel_rfl) (by kernel_rfl) (by kernel_rfl) (fun _ _ _ h => h) (Or.inl ⟨by rfl, ?_⟩) hHeld ?_
  rotate_left
  focus (intro w hSw; clear hSw; go_simp; (try with_reducible rfl))
  (try simp only [List.getElem_toArray, List.getElem_cons_zero, List.getElem_cons_succ, Act.put, List.setIfInBounds_toArray, List.set_cons_zero, List.set_cons_succ])
  refine wpAnyH_take (i := 3) (v := ?_) rfl (by kernel_rfl) (by kernel_rfl) (by kernel_rfl) (fun _ _ _ h => h) (Or.inl ⟨by rfl, ?_⟩) hHeld ?_
  rotate_left
  focus (intro w hSw; clear hSw; go_simp; (try with_reducible rfl))
  (try simp only [List.getElem_toArray, List.getElem_cons_zero, List.getElem_cons_succ, Act.put, List.setIfInBounds_toArray, List.set_cons_zero, List.set_cons_succ])
  refine wpAnyH_take (i := 4) (v := ?_) rfl (by kernel_rfl) (by kernel_rfl) (by kernel_rfl) (fun _ _ _ h => h) (Or.inl ⟨by rfl, ?_⟩) hHeld ?_
  rotate_left
  focus (intro w hSw; clear hSw; go_simp; (try with_reducible rfl))
  (try simp only [List.getElem_toArray, List.getElem_cons_zero, List.getElem_cons_succ, Act.put, List.setIfInBounds_toArray, List.set_cons_zero, List.set_cons_succ])
  refine wpAnyH_take (i := 5) (v := ?_) rfl (by kernel_rfl) (by kernel_rfl) (by kernel_rfl) (fun _ _ _ h => h) (Or.inl ⟨by rfl, ?_⟩) hHeld ?_
  rotate_left
  focus (intro w hSw; clear hSw; go_simp; (try with_reducible rfl))
  (try simp only [List.getElem_toArray, List.getElem_cons_zero, List.getElem_cons_succ, Act.put, List.setIfInBounds_toArray, List.set_cons_zero, List.set_cons_succ])
  refine wpAnyH_take (i := 6) (v := ?_) rfl (by kernel_rfl) (by kernel_rfl) (by kernel_rfl) (fun _ _ _ h => h) (Or.inl ⟨by rfl, ?_⟩) hHeld ?_
  rotate_left
  focus (intro w hSw; clear hSw; go_simp; (try with_reducible rfl))
  (try simp only [List.getElem_toArray, List.getElem_cons_zero, List.getElem_cons_succ, Act.put, List.setIfInBounds_toArray, List.set_cons_zero, List.set_cons_succ])
  refine wpAnyH_take (i := 7) (v := ?_) rfl (by kernel_rfl) (by kernel_rfl) (by kernel_rfl) (fun _ _ _ h => h) (Or.inl ⟨by rfl, ?_⟩) hHeld ?_
  rotate_left
  focus (intro w hSw; clear hSw; go_simp; (try with_reducible rfl))
  (try simp only [List.getElem_toArray, List.getElem_cons_zero, List.getElem_cons_succ, Act.put, List.setIfInBounds_toArray, List.set_cons_zero, List.set_cons_succ])
  refine wpAnyH_take (i := 8) (v := ?_) rfl (by kernel_rfl) (by kernel_rfl) (by kernel_rfl) (fun _ _ _ h => h) (Or.inl ⟨by rfl, ?_⟩) hHeld ?_
  rotate_left
  focus (intro w hSw; clear hSw; go_simp; (try with_reducible rfl))
  (try simp only [List.getElem_toArray, List.getElem_cons_zero, List.getElem_cons_succ, Act.put, List.setIfInBounds_toArray, List.set_cons_zero, List.set_cons_succ])
  refine wpAnyH_take (i := 9) (v := ?_) rfl (by kernel_rfl) (by kernel_rfl) (by kernel_rfl) (fun _ _ _ h => h) (Or.inl ⟨by rfl, ?_⟩) hHeld ?_
  rotate_left
  focus (intro w hSw; clear hSw; go_simp; (try with_reducible rfl))
  (try simp only [List.getElem_toArray, List.getElem_cons_zero, List.getElem_cons_succ, Act.put, List.setIfInBounds_toArray, List.set_cons_zero, List.set_cons_succ])
  refine wpAnyH_take (i := 10) (v := ?_) rfl (by kernel_rfl) (by kernel_rfl) (by kernel_rfl) (fun _ _ _ h => h) (Or.inl ⟨by rfl, ?_⟩) hHeld ?_
  rotate_left
  focus (intro w hSw; clear hSw; go_simp; (try with_reducible rfl))
  (try simp only [List.getElem_toArray, List.getElem_cons_zero, List.getElem_cons_succ, Act.put, List.setIfInBounds_toArray, List.set_cons_zero, List.set_cons_succ])
  refine wpAnyH_take (i := 11) (v := ?_) rfl (by kernel_rfl) (by kernel_rfl) (by kernel_rfl) (fun _ _ _ h => h) (Or.inl ⟨by rfl, ?_⟩) hHeld ?_
  rotate_left
  focus (intro w hSw; clear hSw; go_simp; (try with_reducible rfl))
  (try simp only [List.getElem_toArray, List.getElem_cons_zero, List.getElem_cons_succ, Act.put, List.setIfInBounds_toArray, List.set_cons_zero, List.set_cons_succ])
  refine wpAnyH_take (i := 12) (v := ?_) rfl (by kernel_rfl) (by kernel_rfl) (by kernel_rfl) (fun _ _ _ h => h) (Or.inl ⟨by rfl, ?_⟩) hHeld ?_
  rotate_left
  focus (intro w hSw; clear hSw; go_simp; (try with_reducible rfl))
  (try simp only [List.getElem_toArray, List.getElem_cons_zero, List.getElem_cons_succ, Act.put, List.setIfInBounds_toArray, List.set_cons_zero, List.set_cons_succ])
  refine wpAnyH_take (i := 13) (v := ?_) rfl (by kernel_rfl) (by kernel_rfl) (by kernel_rfl) (fun _ _ _ h => h) (Or.inl ⟨by rfl, ?_⟩) hHeld ?_
  rotate_left
  focus (intro w hSw; clear hSw; go_simp; (try with_reducible rfl))
  (try simp only [List.getElem_toArray, List.getElem_cons_zero, List.getElem_cons_succ, Act.put, List.setIfInBounds_toArray, List.set_cons_zero, List.set_cons_succ])
  refine wpAnyH_take (i := 14) (v := ?_) rfl (by kernel_rfl) (by kernel_rfl) (by kernel_rfl) (fun _ _ _ h => h) (Or.inl ⟨by rfl, ?_⟩) hHeld ?_
  rotate_left
  focus (intro w hSw; clear hSw; go_simp; (try with_reducible rfl))
  (try simp only [List.getElem_toArray, List.getElem_cons_zero, List.getElem_cons_succ, Act.put, List.setIfInBounds_toArray, List.set_cons_zero, List.set_cons_succ])
  refine wpAnyH_take (i := 15) (v := ?_) rfl (by kernel_rfl) (by kernel_rfl) (by kernel_rfl) (fun _ _ _ h => h) (Or.inl ⟨by rfl, ?_⟩) hHeld ?_
  rotate_left
  focus (intro w hSw; clear hSw; go_simp; (try with_reducible rfl))
  (try simp only [List.getElem_toArray, List.getElem_cons_zero, List.getElem_cons_succ, Act.put, List.setIfInBounds_toArray, List.set_cons_zero, List.set_cons_succ])
  refine wpAnyH_take (i := 16) (v := ?_) rfl (by kernel_rfl) (by kernel_rfl) (by kernel_rfl) (fun _ _ _ h => h) (Or.inl ⟨by rfl, ?_⟩) hHeld ?_
  rotate_left
  focus (intro w hSw; clear hSw; go_simp; (try with_reducible rfl))
  (try simp only [List.getElem_toArray, List.getElem_cons_zero, List.getElem_cons_succ, Act.put, List.setIfInBounds_toArray, List.set_cons_zero, List.set_cons_succ])
  refine wpAnyH_take (i := 17) (v := ?_) rfl (by kernel_rfl) (by kernel_rfl) (by kernel_rfl) (fun _ _ _ h => h) (Or.inl ⟨by rfl, ?_⟩) hHeld ?_
  rotate_left
  focus (intro w hSw; clear hSw; go_simp; (try with_reducible rfl))
  (try simp only [List.getElem_toArray, List.getElem_cons_zero, List.getElem_cons_succ, Act.put, List.setIfInBounds_toArray, List.set_cons_zero, List.set_cons_succ])
  refine wpAnyH_take (i := 18) (v := ?_) rfl (by kernel_rfl) (by kernel_rfl) (by kernel_rfl) (fun _ _ _ h => h) (Or.inl ⟨by rfl, ?_⟩) hHeld ?_
  rotate_left
  focus (intro w hSw; clear hSw; go_simp; (try with_reducible rfl))
  (try simp only [List.getElem_toArray, List.getElem_cons_zero, List.getElem_cons_succ, Act.put, List.setIfInBounds_toArray, List.set_cons_zero, List.set_cons_succ])
  refine wpAnyH_take (i := 19) (v := ?_) rfl (by kernel_rfl) (by kernel_rfl) (by kernel_rfl) (fun _ _ _ h => h) (Or.inl ⟨by rfl, ?_⟩) hHeld ?_
  rotate_left
  focus (intro w hSw; obtain ⟨c0, c1, c2, c3, c4, c5, c6, c7, c8, c9, c10⟩ := (hSw.at 0 rfl).all11; clear hSw; go_simp; (try with_reducible rfl))
  (try simp only [List.getElem_toArray, List.getElem_cons_zero, List.getElem_cons_succ, Act.put, List.setIfInBounds_toArray, List.set_cons_zero, List.set_cons_succ])
  refine wpAnyH_take (i := 21) (v := ?_) rfl (by kernel_rfl) (by kernel_rfl) (by kernel_rfl) (fun _ _ _ h => h) (Or.inl ⟨by rfl, ?_⟩) hHeld ?_
  rotate_left
  focus (intro w hSw; obtain ⟨c0, c1, c2, c3, c4, c5, c6, c7, c8, c9, c10⟩ := (hSw.at 0 rfl).all11; clear hSw; go_simp; (try with_reducible rfl))
  (try simp only [List.getElem_toArray, List.getElem_cons_zero, List.getElem_cons_succ, Act.put, List.setIfInBounds_toArray, List.set_cons_zero, List.set_cons_succ])
  refine wpAnyH_ready (rs := [20]) (by kernel_rfl) (by simp) ?_
  refine AllReadyH.cons rfl (fun K hK => ?_) AllReadyH.nil
  go_simp
  refine (c5 _ (hHeld.tabs HT.out)).mono ?_
  rintro e y ⟨rfl, un⟩
  replace hHeld := hHeld.call un
  clear un
  refine hK.out _ _ hHeld (fun hX => ?_)
  clear hK K hX
  (try simp only [List.getElem_toArray, List.getElem_cons_zero, List.getElem_cons_succ, Act.put, List.setIfInBounds_toArray, List.set_cons_zero, List.set_cons_succ])
  (try clear x)
  rename World => x
  refine wpAnyH_ready (rs := [22]) (by kernel_rfl) (by simp) ?_
  refine AllReadyH.cons rfl (fun K hK => ?_) AllReadyH.nil
  go_simp
  refine (c6 _).mono ?_
  rintro e y ⟨rfl, un⟩
  replace hHeld := hHeld.call un
  clear un
  refine hK.out _ _ hHeld (fun hX => ?_)
  clear hK K hX
  (try simp only [List.getElem_toArray, List.getElem_cons_zero, List.getElem_cons_succ, Act.put, List.setIfInBounds_toArray, List.set_cons_zero, List.set_cons_succ])
  (try clear x)
  rename World => x
  refine wpAnyH_take (i := 23) (v := ?_) rfl (by kernel_rfl) (by kernel_rfl) (by kernel_rfl) (fun _ _ _ h => h) (Or.inl ⟨by rfl, ?_⟩) hHeld ?_
  rotate_left
  focus (intro w hSw; clear hSw; go_simp; (try with_reducible rfl))
  (try simp only [List.getElem_toArray, List.getElem_cons_zero, List.getElem_cons_succ, Act.put, List.setIfInBounds_toArray, List.set_cons_zero, List.set_cons_succ])
  refine wpAnyH_take (i := 24) (v := ?_) rfl (by kernel_rfl) (by kernel_rfl) (by kernel_rfl) (fun _ _ _ h => h) (Or.inl ⟨by rfl, ?_⟩) hHeld ?_
  rotate_left
  focus (intro w hSw; clear hSw; go_simp; (try with_reducible rfl))
  (try simp only [List.getElem_toArray, List.getElem_cons_zero, List.getElem_cons_succ, Act.put, List.setIfInBounds_toArray, List.set_cons_zero, List.set_cons_succ])
  refine wpAnyH_take (i := 25) (v := ?_) rfl (by kernel_rfl) (by kernel_rfl) (by kernel_rfl) (fun _ _ _ h => h) (Or.inl ⟨by rfl, ?_⟩) hHeld ?_
  rotate_left
  focus (intro w hSw; clear hSw; go_simp; (try with_reducible rfl))
  (try simp only [List.getElem_toArray, List.getElem_cons_zero, List.getElem_cons_succ, Act.put, List.setIfInBounds_toArray, List.set_cons_zero, List.set_cons_succ])
  refine wpAnyH_ready (rs := [26]) (by kernel_rfl) (by simp) ?_
  refine AllReadyH.cons rfl (fun K hK => ?_) AllReadyH.nil
  go_simp
  refine (shown6 _ (hHeld.tabs HT.out)).mono ?_
  rintro e y ⟨rfl, un⟩
  replace hHeld := hHeld.call un
  clear un
  refine hK.out _ _ hHeld (fun hX => ?_)
  clear hK K hX
  (try simp only [List.getElem_toArray, List.getElem_cons_zero, List.getElem_cons_succ, Act.put, List.setIfInBounds_toArray, List.set_cons_zero, List.set_cons_succ])
  (try clear x)
  rename World => x
  refine wpAnyH_take (i := 27) (v := ?_) rfl (by kernel_rfl) (by kernel_rfl) (by kernel_rfl) (fun _ _ _ h => h) (Or.inl ⟨by rfl, ?_⟩) hHeld ?_
  rotate_left
  focus (intro w hSw; clear hSw; go_simp; (try with_reducible rfl))
  (try simp only [List.getElem_toArray, List.getElem_cons_zero, List.getElem_cons_succ, Act.put, List.setIfInBounds_toArray, List.set_cons_zero, List.set_cons_succ])
  refine wpAnyH_take (i := 28) (v := ?_) rfl (by kernel_rfl) (by kernel_rfl) (by kernel_rfl) (fun _ _ _ h => h) (Or.inl ⟨by rfl, ?_⟩) hHeld ?_
  rotate_left
  focus (intro w hSw; clear hSw; go_simp; (try with_reducible rfl))
  (try simp only [List.getElem_toArray, List.getElem_cons_zero, List.getElem_cons_succ, Act.put, List.setIfInBounds_toArray, List.set_cons_zero, List.set_cons_succ])
  refine wpAnyH_done (by kernel_rfl) ?_ _
  have HS := Lib.hid hHeld
  clear hHeld
  go_wp2
  go_ret
  exact ⟨rfl, HS.out.old⟩
theorem lawTexts6 (k : Int) (s : ByteArray) (m : Mom) (w : World) (hT : Tabs w) : Calls Tryz.prog 3 #[.int .i64 k, .string s, m.v] w fun e w' => e = .returned (.bool true) ∧ Below w.heap.size w w' := by
  by_cases g : (300 : Int) < (s.size : Int)
  · exact texts6_a k s m g w hT
  · by_cases h : (300 : Int) < (m.sec.ds.size : Int)
    · exact texts6_b k s m g h w hT
    · exact texts6_c k s m g h w hT
end Go.Proofs.YtmdnijehoagamaaGreatDoor
