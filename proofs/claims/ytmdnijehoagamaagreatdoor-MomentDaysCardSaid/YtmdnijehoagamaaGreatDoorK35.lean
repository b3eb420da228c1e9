/- OI OS -/
import Derived.Test.YtmdnijehoagamaaGreatDoorK33
import Derived.Test.YtmdnijehoagamaaGreatDoorK34
set_option linter.unusedVariables false
set_option linter.unusedSimpArgs false
namespace Go.Proofs.YtmdnijehoagamaaGreatDoor
set_option maxRecDepth 100000
set_option maxHeartbeats 8000000
open Go.RowKit
theorem dateL_size (y mo d : Int) : (dateL y mo d).length ≤ 11 := by
 unfold dateL
 split <;> simp [twoL_len]
theorem p_date6 (m : Mom) (h : OkF m) (hd : datedB m.k = true) (w : World) (hT : Tabs w) : Calls Tryz.prog 40 #[m.v] w fun e w' => e = .returned (.string ⟨(dateL m.y m.mo m.d).toArray⟩) ∧ Below w.heap.size w w' := by
 obtain ⟨a, b, c, d, e, f, g⟩ := h.date hd
 have hdd := h.days hd
 obtain ⟨mo, hmo⟩ : ∃ n : Nat, m.mo = (n : Int) := ⟨m.mo.toNat, by omega⟩
 obtain ⟨dn, hdn⟩ : ∃ n : Nat, m.d = (n : Int) := ⟨m.d.toNat, by omega⟩
 have c1 := fun W hW => p_number6 m.y.natAbs 4 (by omega) (by omega) (by omega) W hW
 have c2 := fun W hW => p_number6 mo 2 (by omega) (by omega) (by omega) W hW
 have c3 := fun W hW => p_number6 dn 2 (by omega) (by omega) (by omega) W hW
 rw [← hmo] at c2
 rw [← hdn] at c3
 by_cases hy : m.y < 0
 ·have r := pdate_neg m _ _ _ _ (twoS_size _ 4) (twoS_size _ 2) (twoS_size _ 2) hy (by omega) (by omega) (show max m.y (-m.y) = (m.y.natAbs : Int) by omega) c1 c2 c3 w hT
  refine r.mono fun e w' ⟨q, hb⟩ => ⟨?_, hb⟩
  rw [q]
  congr 2
  apply bytes_ext
  rw [bytes_mk]
  simp only [Joins.data_append, twoS_list]
  unfold dateL
  rw [if_pos hy, hmo, hdn]
  simp
 ·have r := pdate_pos m _ _ _ _ (twoS_size _ 4) (twoS_size _ 2) (twoS_size _ 2) (by omega) (by omega) (by omega) (show max m.y (-m.y) = (m.y.natAbs : Int) by omega) c1 c2 c3 w hT
  refine r.mono fun e w' ⟨q, hb⟩ => ⟨?_, hb⟩
  rw [q]
  congr 2
  apply bytes_ext
  rw [bytes_mk]
  simp only [Joins.data_append, twoS_list]
  unfold dateL
  rw [if_neg hy, hmo, hdn]
  simp
theorem cut_sec {s : Dec} (hs : Valid s) (hn : s.neg = false) (hlt : num s < 60 * 10 ^ scl s) : Lib.cut (textOf s).data.toList [46] = if 0 < scl s then (wholeL s, (tenL s).drop ((tenL s).length - scl s), true) else (wholeL s, [], false) := by
 obtain ⟨w1, w2, w3, w4, w5⟩ := sec_parts hs hlt
 rw [text_list s hn, cut_dot]
 unfold tailL
 split
 ·next h =>
  have e := find_at (r := (tenL s).drop ((tenL s).length - scl s)) w1
  have hl : List.findIdx (fun x => x == 46) (wholeL s ++ 46 :: (tenL s).drop ((tenL s).length - scl s)) = (wholeL s).length := e
  rw [hl, if_pos (by rw [List.length_append, List.length_cons]; omega), List.take_left' rfl]
  congr 2
  rw [List.drop_append, List.drop_eq_nil_of_le (by omega), show (wholeL s).length + 1 - (wholeL s).length = 1 by omega]
  rfl
 ·next h =>
  rw [List.append_nil, find_none w1, if_neg (by omega)]
theorem p_time6 (m : Mom) (h : OkF m) (ht : timedB m.k = true) (w : World) (hT : Tabs w) : Calls Tryz.prog 42 #[m.v] w fun e w' => e = .returned (.string ⟨(clkL m.h m.mi m.sec).toArray⟩) ∧ Below w.heap.size w w' := by
 obtain ⟨a, b, c, d, hv, hn, ho⟩ := h.time ht
 have hlt := h.sec_lt ht
 have zs6 := hv.size
 obtain ⟨hr, hhr⟩ : ∃ n : Nat, m.h = (n : Int) := ⟨m.h.toNat, by omega⟩
 obtain ⟨mi, hmi⟩ : ∃ n : Nat, m.mi = (n : Int) := ⟨m.mi.toNat, by omega⟩
 have c1 := fun W hW => p_number6 hr 2 (by omega) (by omega) (by omega) W hW
 have c2 := fun W hW => p_number6 mi 2 (by omega) (by omega) (by omega) W hW
 rw [← hhr] at c1
 rw [← hmi] at c2
 have cT := fun W hW => progOk.text m.sec W (by omega) hW
 have hts : textS m.sec = (textOf m.sec, 0) := by unfold textS; rw [if_pos hv]
 rw [hts] at cT
 have hz := textOf_size hv
 have cC : ∀ W, Tabs W → Calls Tryz.prog 83 #[.string (textOf m.sec), .string ⟨#[46]⟩] W fun e w' => e = .returned (.tuple #[.string ⟨(Lib.cut (textOf m.sec).data.toList [46]).1.toArray⟩, .string ⟨(Lib.cut (textOf m.sec).data.toList [46]).2.1.toArray⟩, .bool (Lib.cut (textOf m.sec).data.toList [46]).2.2]) ∧ Below W.heap.size W w' := fun W hW => by
  obtain ⟨mx, hmx⟩ := hW.maxl
  exact (Tryz.strings_Cut (textOf m.sec) ⟨#[46]⟩ mx W (by omega) hmx).mono fun e w' ⟨q, n, hq⟩ => ⟨q, hq ▸ below_drewN (Below.refl _ _) n⟩
 obtain ⟨w1, w2, w3, w4, w5⟩ := sec_parts hv hlt
 rw [cut_sec hv hn hlt] at cC
 have hw : (⟨(wholeL m.sec).toArray⟩ : ByteArray).size = (wholeL m.sec).length := by rw [← bytes_len, bytes_mk]
 have c3 := fun W => p_padded ⟨(wholeL m.sec).toArray⟩ 2 (by omega) (by omega) W
 rw [hw] at c3
 have hpw : (zs (2 - (wholeL m.sec).length) ++ (⟨(wholeL m.sec).toArray⟩ : ByteArray)).size = 2 := by rw [app_size, zs_size, hw]; omega
 have hsc := hv.is.le
 by_cases h0 : 0 < scl m.sec
 ·rw [if_pos h0] at cC
  have hbd : (⟨((tenL m.sec).drop ((tenL m.sec).length - scl m.sec)).toArray⟩ : ByteArray).size ≤ 1000 := by rw [← bytes_len, bytes_mk, w5]; omega
  have r := ptime_any m _ _ _ _ _ _ _ _ (twoS_size _ 2) (twoS_size _ 2) hpw hbd cT cC c1 c2 c3 w hT
  refine r.mono fun e w' ⟨q, hb⟩ => ⟨?_, hb⟩
  rw [q]
  simp only [if_true]
  congr 2
  apply bytes_ext
  rw [bytes_mk]
  simp only [Joins.data_append, twoS_list, zs_list, bytes_mk]
  unfold clkL secL tailL
  rw [if_pos h0, hhr, hmi]
  simp
 ·rw [if_neg h0] at cC
  have r := ptime_any m _ _ _ _ _ _ _ _ (twoS_size _ 2) (twoS_size _ 2) hpw (show (⟨([] : List UInt8).toArray⟩ : ByteArray).size ≤ 1000 by decide) cT cC c1 c2 c3 w hT
  refine r.mono fun e w' ⟨q, hb⟩ => ⟨?_, hb⟩
  rw [q]
  simp only [Bool.false_eq_true, if_false]
  congr 2
  apply bytes_ext
  rw [bytes_mk]
  simp only [Joins.data_append, twoS_list, zs_list, bytes_mk]
  unfold clkL secL tailL
  rw [if_neg h0, hhr, hmi]
  simp
theorem p_zone6 (m : Mom) (h : OkF m) (w : World) (hT : Tabs w) : Calls Tryz.prog 43 #[m.v] w fun e w' => e = .returned (.string ⟨(zoneL m.zd m.z).toArray⟩) ∧ Below w.heap.size w w' := by
 obtain ⟨z0, z1, z2⟩ := h.zone
 unfold zoneL
 cases hz : m.zd with
 | false =>
  rw [if_neg (by simp)]
  exact pzone_no m hz w hT
 | true =>
  rw [if_pos rfl]
  by_cases h0 : m.z = 0
  ·rw [if_pos h0]
   exact pzone_Z m hz h0 w hT
  ·rw [if_neg h0]
   have c1 := fun W hW => p_number6 (m.z.natAbs / 60) 2 (by omega) (by omega) (by omega) W hW
   have c2 := fun W hW => p_number6 (m.z.natAbs % 60) 2 (by omega) (by omega) (by omega) W hW
   by_cases hn : m.z < 0
   ·have e1 : IntKind.i64.wrap (-m.z.tdiv 60) = ((m.z.natAbs / 60 : Nat) : Int) := by
     have : -m.z.tdiv 60 = ((m.z.natAbs / 60 : Nat) : Int) := by
      rw [← Int.neg_tdiv, Int.tdiv_eq_ediv_of_nonneg (by omega)]
      omega
     rw [this]
     exact IntWalk.i64_in _ (by omega)
    have e2 : -m.z.tmod 60 = ((m.z.natAbs % 60 : Nat) : Int) := by
     rw [← Int.neg_tmod, Int.tmod_eq_emod_of_nonneg (by omega)]
     omega
    have r := pzone_neg m _ _ _ _ (twoS_size _ 2) (twoS_size _ 2) hz hn (by omega) (by omega) e1 e2 c1 c2 w hT
    refine r.mono fun e w' ⟨q, hb⟩ => ⟨?_, hb⟩
    rw [q, if_pos hn]
    congr 2 <;> (apply bytes_ext; rw [bytes_mk]; simp only [Joins.data_append, twoS_list]; (try simp))
   ·have e1 : IntKind.i64.wrap (m.z.tdiv 60) = ((m.z.natAbs / 60 : Nat) : Int) := by
     have : m.z.tdiv 60 = ((m.z.natAbs / 60 : Nat) : Int) := by
      rw [Int.tdiv_eq_ediv_of_nonneg (by omega)]
      omega
     rw [this]
     exact IntWalk.i64_in _ (by omega)
    have e2 : m.z.tmod 60 = ((m.z.natAbs % 60 : Nat) : Int) := by
     rw [Int.tmod_eq_emod_of_nonneg (by omega)]
     omega
    have r := pzone_pos m _ _ _ _ (twoS_size _ 2) (twoS_size _ 2) hz (by omega) (by omega) (by omega) e1 e2 c1 c2 w hT
    refine r.mono fun e w' ⟨q, hb⟩ => ⟨?_, hb⟩
    rw [q, if_neg hn]
    congr 2 <;> (apply bytes_ext; rw [bytes_mk]; simp only [Joins.data_append, twoS_list]; (try simp))
theorem ptext_bad (m : Mom)
  (cV : ∀ W, Tabs W → Calls Tryz.prog 38 #[.agg #[.int .i64 m.k, .int .i64 m.y, .int .i64 m.mo, .int .i64 m.d, .int .i64 m.h, .int .i64 m.mi, .bool m.sec.neg, .string m.sec.ds, .int .i64 m.sec.sc, .bool m.zd, .int .i64 m.z]] W fun e w' => e = .returned (.bool false) ∧ Below W.heap.size W w')
  (w : World) (hT : Tabs w) : Calls Tryz.prog 11 #[.agg #[.int .i64 m.k, .int .i64 m.y, .int .i64 m.mo, .int .i64 m.d, .int .i64 m.h, .int .i64 m.mi, .bool m.sec.neg, .string m.sec.ds, .int .i64 m.sec.sc, .bool m.zd, .int .i64 m.z]] w fun e w' => e = .returned (.tuple #[.string ⟨#[]⟩, .int .i64 2]) ∧ Below w.heap.size w w' := by
 go_enter Tryz.func11, Tryz.ntmps11
 have HS := Lib.hid ((KD.nil w).push [.int .i64 m.k, .int .i64 m.y, .int .i64 m.mo, .int .i64 m.d, .int .i64 m.h, .int .i64 m.mi, .bool m.sec.neg, .string m.sec.ds, .int .i64 m.sec.sc, .bool m.zd, .int .i64 m.z] 25 (n := w.heap.size) (by simp))
 have HT := Lib.hid hT
 clear hT
 obtain ⟨d0_0, d0_1, d0_2, d0_3, d0_4, d0_5, d0_6, d0_7, d0_8, d0_9, d0_10⟩ := (HS.out.at 0 rfl).all11
 go_wp2_with fail
 refine (cV _ (HS.out.tabs HT.out)).mono ?_
 rintro e w1 ⟨rfl, b1⟩
 replace HS := Lib.hid (HS.out.call b1)
 clear d0_0 d0_1 d0_2 d0_3 d0_4 d0_5 d0_6 d0_7 d0_8 d0_9 d0_10 b1
 go_wp2
 go_ret2
 exact ⟨rfl, HS.out.old⟩
theorem ptext_1 (m : Mom) (D C Z : ByteArray) (hk : m.k = 1) (hs1 : D.size ≤ 1000) (hs2 : C.size ≤ 1000) (hs3 : Z.size ≤ 1000)
  (cV : ∀ W, Tabs W → Calls Tryz.prog 38 #[.agg #[.int .i64 m.k, .int .i64 m.y, .int .i64 m.mo, .int .i64 m.d, .int .i64 m.h, .int .i64 m.mi, .bool m.sec.neg, .string m.sec.ds, .int .i64 m.sec.sc, .bool m.zd, .int .i64 m.z]] W fun e w' => e = .returned (.bool true) ∧ Below W.heap.size W w')
  (cD : ∀ W, Tabs W → Calls Tryz.prog 40 #[.agg #[.int .i64 m.k, .int .i64 m.y, .int .i64 m.mo, .int .i64 m.d, .int .i64 m.h, .int .i64 m.mi, .bool m.sec.neg, .string m.sec.ds, .int .i64 m.sec.sc, .bool m.zd, .int .i64 m.z]] W fun e w' => e = .returned (.string D) ∧ Below W.heap.size W w')
  (cZ : ∀ W, Tabs W → Calls Tryz.prog 43 #[.agg #[.int .i64 m.k, .int .i64 m.y, .int .i64 m.mo, .int .i64 m.d, .int .i64 m.h, .int .i64 m.mi, .bool m.sec.neg, .string m.sec.ds, .int .i64 m.sec.sc, .bool m.zd, .int .i64 m.z]] W fun e w' => e = .returned (.string Z) ∧ Below W.heap.size W w')
  (w : World) (hT : Tabs w) : Calls Tryz.prog 11 #[.agg #[.int .i64 m.k, .int .i64 m.y, .int .i64 m.mo, .int .i64 m.d, .int .i64 m.h, .int .i64 m.mi, .bool m.sec.neg, .string m.sec.ds, .int .i64 m.sec.sc, .bool m.zd, .int .i64 m.z]] w fun e w' => e = .returned (.tuple #[.string (D ++ Z), .int .i64 0]) ∧ Below w.heap.size w w' := by
 rw [hk] at cV cD cZ ⊢
 clear hk
 have q1 : ¬ 9223372036854775807 < D.size + Z.size := by omega
 have q2 : ¬ 9223372036854775807 < C.size + Z.size := by omega
 have q3 : ¬ 9223372036854775807 < D.size + 1 + C.size := by omega
 have q4 : ¬ 9223372036854775807 < D.size + 1 + C.size + Z.size := by omega
 have q5 : ¬ 9223372036854775807 < C.size := by omega
 have q6 : ¬ 9223372036854775807 < D.size + 1 := by omega
 clear hs1 hs2 hs3
 go_enter Tryz.func11, Tryz.ntmps11
 have HS := Lib.hid ((KD.nil w).push [.int .i64 1, .int .i64 m.y, .int .i64 m.mo, .int .i64 m.d, .int .i64 m.h, .int .i64 m.mi, .bool m.sec.neg, .string m.sec.ds, .int .i64 m.sec.sc, .bool m.zd, .int .i64 m.z] 25 (n := w.heap.size) (by simp))
 have HT := Lib.hid hT
 clear hT
 obtain ⟨d0_0, d0_1, d0_2, d0_3, d0_4, d0_5, d0_6, d0_7, d0_8, d0_9, d0_10⟩ := (HS.out.at 0 rfl).all11
 go_wp2_with fail
 refine (cV _ (HS.out.tabs HT.out)).mono ?_
 rintro e w1 ⟨rfl, b1⟩
 replace HS := Lib.hid (HS.out.call b1)
 clear d0_0 d0_1 d0_2 d0_3 d0_4 d0_5 d0_6 d0_7 d0_8 d0_9 d0_10 b1
 have d0_0 := (HS.out.at 0 rfl).cell 0 rfl
 go_wp2_with fail
 refine (p_hasDate _ _).mono ?_
 rintro e w_ ⟨rfl, rfl⟩
 clear d0_0
 obtain ⟨d0_0, d0_1, d0_2, d0_3, d0_4, d0_5, d0_6, d0_7, d0_8, d0_9, d0_10⟩ := (HS.out.at 0 rfl).all11
 go_wp2_with fail
 refine (cD _ (HS.out.tabs HT.out)).mono ?_
 rintro e w2 ⟨rfl, b1⟩
 replace HS := Lib.hid (HS.out.call b1)
 clear d0_0 d0_1 d0_2 d0_3 d0_4 d0_5 d0_6 d0_7 d0_8 d0_9 d0_10 b1
 have d0_0 := (HS.out.at 0 rfl).cell 0 rfl
 go_wp2_with fail
 refine (p_hasTime _ _).mono ?_
 rintro e w_ ⟨rfl, rfl⟩
 clear d0_0
 obtain ⟨d0_0, d0_1, d0_2, d0_3, d0_4, d0_5, d0_6, d0_7, d0_8, d0_9, d0_10⟩ := (HS.out.at 0 rfl).all11
 go_wp2_with fail
 refine (cZ _ (HS.out.tabs HT.out)).mono ?_
 rintro e w3 ⟨rfl, b1⟩
 replace HS := Lib.hid (HS.out.call b1)
 clear d0_0 d0_1 d0_2 d0_3 d0_4 d0_5 d0_6 d0_7 d0_8 d0_9 d0_10 b1
 go_wp2
 go_ret2
 exact ⟨rfl, HS.out.old⟩
theorem ptext_2 (m : Mom) (D C Z : ByteArray) (hk : m.k = 2) (hs1 : D.size ≤ 1000) (hs2 : C.size ≤ 1000) (hs3 : Z.size ≤ 1000)
  (cV : ∀ W, Tabs W → Calls Tryz.prog 38 #[.agg #[.int .i64 m.k, .int .i64 m.y, .int .i64 m.mo, .int .i64 m.d, .int .i64 m.h, .int .i64 m.mi, .bool m.sec.neg, .string m.sec.ds, .int .i64 m.sec.sc, .bool m.zd, .int .i64 m.z]] W fun e w' => e = .returned (.bool true) ∧ Below W.heap.size W w')
  (cC : ∀ W, Tabs W → Calls Tryz.prog 42 #[.agg #[.int .i64 m.k, .int .i64 m.y, .int .i64 m.mo, .int .i64 m.d, .int .i64 m.h, .int .i64 m.mi, .bool m.sec.neg, .string m.sec.ds, .int .i64 m.sec.sc, .bool m.zd, .int .i64 m.z]] W fun e w' => e = .returned (.string C) ∧ Below W.heap.size W w')
  (cZ : ∀ W, Tabs W → Calls Tryz.prog 43 #[.agg #[.int .i64 m.k, .int .i64 m.y, .int .i64 m.mo, .int .i64 m.d, .int .i64 m.h, .int .i64 m.mi, .bool m.sec.neg, .string m.sec.ds, .int .i64 m.sec.sc, .bool m.zd, .int .i64 m.z]] W fun e w' => e = .returned (.string Z) ∧ Below W.heap.size W w')
  (w : World) (hT : Tabs w) : Calls Tryz.prog 11 #[.agg #[.int .i64 m.k, .int .i64 m.y, .int .i64 m.mo, .int .i64 m.d, .int .i64 m.h, .int .i64 m.mi, .bool m.sec.neg, .string m.sec.ds, .int .i64 m.sec.sc, .bool m.zd, .int .i64 m.z]] w fun e w' => e = .returned (.tuple #[.string ((⟨#[]⟩ : ByteArray) ++ C ++ Z), .int .i64 0]) ∧ Below w.heap.size w w' := by
 rw [hk] at cV cC cZ ⊢
 clear hk
 have q1 : ¬ 9223372036854775807 < D.size + Z.size := by omega
 have q2 : ¬ 9223372036854775807 < C.size + Z.size := by omega
 have q3 : ¬ 9223372036854775807 < D.size + 1 + C.size := by omega
 have q4 : ¬ 9223372036854775807 < D.size + 1 + C.size + Z.size := by omega
 have q5 : ¬ 9223372036854775807 < C.size := by omega
 have q6 : ¬ 9223372036854775807 < D.size + 1 := by omega
 clear hs1 hs2 hs3
 go_enter Tryz.func11, Tryz.ntmps11
 have HS := Lib.hid ((KD.nil w).push [.int .i64 2, .int .i64 m.y, .int .i64 m.mo, .int .i64 m.d, .int .i64 m.h, .int .i64 m.mi, .bool m.sec.neg, .string m.sec.ds, .int .i64 m.sec.sc, .bool m.zd, .int .i64 m.z] 25 (n := w.heap.size) (by simp))
 have HT := Lib.hid hT
 clear hT
 obtain ⟨d0_0, d0_1, d0_2, d0_3, d0_4, d0_5, d0_6, d0_7, d0_8, d0_9, d0_10⟩ := (HS.out.at 0 rfl).all11
 go_wp2_with fail
 refine (cV _ (HS.out.tabs HT.out)).mono ?_
 rintro e w1 ⟨rfl, b1⟩
 replace HS := Lib.hid (HS.out.call b1)
 clear d0_0 d0_1 d0_2 d0_3 d0_4 d0_5 d0_6 d0_7 d0_8 d0_9 d0_10 b1
 have d0_0 := (HS.out.at 0 rfl).cell 0 rfl
 go_wp2_with fail
 refine (p_hasDate _ _).mono ?_
 rintro e w_ ⟨rfl, rfl⟩
 clear d0_0
 have d0_0 := (HS.out.at 0 rfl).cell 0 rfl
 go_wp2_with fail
 refine (p_hasTime _ _).mono ?_
 rintro e w_ ⟨rfl, rfl⟩
 clear d0_0
 obtain ⟨d0_0, d0_1, d0_2, d0_3, d0_4, d0_5, d0_6, d0_7, d0_8, d0_9, d0_10⟩ := (HS.out.at 0 rfl).all11
 go_wp2_with fail
 refine (cC _ (HS.out.tabs HT.out)).mono ?_
 rintro e w2 ⟨rfl, b1⟩
 replace HS := Lib.hid (HS.out.call b1)
 clear d0_0 d0_1 d0_2 d0_3 d0_4 d0_5 d0_6 d0_7 d0_8 d0_9 d0_10 b1
 obtain ⟨d0_0, d0_1, d0_2, d0_3, d0_4, d0_5, d0_6, d0_7, d0_8, d0_9, d0_10⟩ := (HS.out.at 0 rfl).all11
 go_wp2_with fail
 refine (cZ _ (HS.out.tabs HT.out)).mono ?_
 rintro e w3 ⟨rfl, b1⟩
 replace HS := Lib.hid (HS.out.call b1)
 clear d0_0 d0_1 d0_2 d0_3 d0_4 d0_5 d0_6 d0_7 d0_8 d0_9 d0_10 b1
 go_wp2
 go_ret2
 exact ⟨rfl, HS.out.old⟩
theorem ptext_3 (m : Mom) (D C Z : ByteArray) (hk : m.k = 3) (hs1 : D.size ≤ 1000) (hs2 : C.size ≤ 1000) (hs3 : Z.size ≤ 1000)
  (cV : ∀ W, Tabs W → Calls Tryz.prog 38 #[.agg #[.int .i64 m.k, .int .i64 m.y, .int .i64 m.mo, .int .i64 m.d, .int .i64 m.h, .int .i64 m.mi, .bool m.sec.neg, .string m.sec.ds, .int .i64 m.sec.sc, .bool m.zd, .int .i64 m.z]] W fun e w' => e = .returned (.bool true) ∧ Below W.heap.size W w')
  (cD : ∀ W, Tabs W → Calls Tryz.prog 40 #[.agg #[.int .i64 m.k, .int .i64 m.y, .int .i64 m.mo, .int .i64 m.d, .int .i64 m.h, .int .i64 m.mi, .bool m.sec.neg, .string m.sec.ds, .int .i64 m.sec.sc, .bool m.zd, .int .i64 m.z]] W fun e w' => e = .returned (.string D) ∧ Below W.heap.size W w')
  (cC : ∀ W, Tabs W → Calls Tryz.prog 42 #[.agg #[.int .i64 m.k, .int .i64 m.y, .int .i64 m.mo, .int .i64 m.d, .int .i64 m.h, .int .i64 m.mi, .bool m.sec.neg, .string m.sec.ds, .int .i64 m.sec.sc, .bool m.zd, .int .i64 m.z]] W fun e w' => e = .returned (.string C) ∧ Below W.heap.size W w')
  (cZ : ∀ W, Tabs W → Calls Tryz.prog 43 #[.agg #[.int .i64 m.k, .int .i64 m.y, .int .i64 m.mo, .int .i64 m.d, .int .i64 m.h, .int .i64 m.mi, .bool m.sec.neg, .string m.sec.ds, .int .i64 m.sec.sc, .bool m.zd, .int .i64 m.z]] W fun e w' => e = .returned (.string Z) ∧ Below W.heap.size W w')
  (w : World) (hT : Tabs w) : Calls Tryz.prog 11 #[.agg #[.int .i64 m.k, .int .i64 m.y, .int .i64 m.mo, .int .i64 m.d, .int .i64 m.h, .int .i64 m.mi, .bool m.sec.neg, .string m.sec.ds, .int .i64 m.sec.sc, .bool m.zd, .int .i64 m.z]] w fun e w' => e = .returned (.tuple #[.string (D ++ ⟨#[84]⟩ ++ C ++ Z), .int .i64 0]) ∧ Below w.heap.size w w' := by
 rw [hk] at cV cD cC cZ ⊢
 clear hk
 have q1 : ¬ 9223372036854775807 < D.size + Z.size := by omega
 have q2 : ¬ 9223372036854775807 < C.size + Z.size := by omega
 have q3 : ¬ 9223372036854775807 < D.size + 1 + C.size := by omega
 have q4 : ¬ 9223372036854775807 < D.size + 1 + C.size + Z.size := by omega
 have q5 : ¬ 9223372036854775807 < C.size := by omega
 have q6 : ¬ 9223372036854775807 < D.size + 1 := by omega
 clear hs1 hs2 hs3
 go_enter Tryz.func11, Tryz.ntmps11
 have HS := Lib.hid ((KD.nil w).push [.int .i64 3, .int .i64 m.y, .int .i64 m.mo, .int .i64 m.d, .int .i64 m.h, .int .i64 m.mi, .bool m.sec.neg, .string m.sec.ds, .int .i64 m.sec.sc, .bool m.zd, .int .i64 m.z] 25 (n := w.heap.size) (by simp))
 have HT := Lib.hid hT
 clear hT
 obtain ⟨d0_0, d0_1, d0_2, d0_3, d0_4, d0_5, d0_6, d0_7, d0_8, d0_9, d0_10⟩ := (HS.out.at 0 rfl).all11
 go_wp2_with fail
 refine (cV _ (HS.out.tabs HT.out)).mono ?_
 rintro e w1 ⟨rfl, b1⟩
 replace HS := Lib.hid (HS.out.call b1)
 clear d0_0 d0_1 d0_2 d0_3 d0_4 d0_5 d0_6 d0_7 d0_8 d0_9 d0_10 b1
 have d0_0 := (HS.out.at 0 rfl).cell 0 rfl
 go_wp2_with fail
 refine (p_hasDate _ _).mono ?_
 rintro e w_ ⟨rfl, rfl⟩
 clear d0_0
 obtain ⟨d0_0, d0_1, d0_2, d0_3, d0_4, d0_5, d0_6, d0_7, d0_8, d0_9, d0_10⟩ := (HS.out.at 0 rfl).all11
 go_wp2_with fail
 refine (cD _ (HS.out.tabs HT.out)).mono ?_
 rintro e w2 ⟨rfl, b1⟩
 replace HS := Lib.hid (HS.out.call b1)
 clear d0_0 d0_1 d0_2 d0_3 d0_4 d0_5 d0_6 d0_7 d0_8 d0_9 d0_10 b1
 have d0_0 := (HS.out.at 0 rfl).cell 0 rfl
 go_wp2_with fail
 refine (p_hasTime _ _).mono ?_
 rintro e w_ ⟨rfl, rfl⟩
 clear d0_0
 obtain ⟨d0_0, d0_1, d0_2, d0_3, d0_4, d0_5, d0_6, d0_7, d0_8, d0_9, d0_10⟩ := (HS.out.at 0 rfl).all11
 go_wp2_with fail
 refine (cC _ (HS.out.tabs HT.out)).mono ?_
 rintro e w3 ⟨rfl, b1⟩
 replace HS := Lib.hid (HS.out.call b1)
 clear d0_0 d0_1 d0_2 d0_3 d0_4 d0_5 d0_6 d0_7 d0_8 d0_9 d0_10 b1
 obtain ⟨d0_0, d0_1, d0_2, d0_3, d0_4, d0_5, d0_6, d0_7, d0_8, d0_9, d0_10⟩ := (HS.out.at 0 rfl).all11
 go_wp2_with fail
 refine (cZ _ (HS.out.tabs HT.out)).mono ?_
 rintro e w4 ⟨rfl, b1⟩
 replace HS := Lib.hid (HS.out.call b1)
 clear d0_0 d0_1 d0_2 d0_3 d0_4 d0_5 d0_6 d0_7 d0_8 d0_9 d0_10 b1
 go_wp2
 go_ret2
 exact ⟨rfl, HS.out.old⟩
theorem kinds {k : Int} (h : (datedB k || timedB k) = true) : k = 1 ∨ k = 2 ∨ k = 3 := by
 unfold datedB timedB at h
 simp at h
 omega
theorem clkL_size {m : Mom} (h : OkF m) (ht : timedB m.k = true) : (clkL m.h m.mi m.sec).length ≤ 100 := by
 have hv := (h.time ht).2.2.2.2.1
 obtain ⟨w1, w2, w3, w4, w5⟩ := sec_parts hv (h.sec_lt ht)
 have hsc := hv.is.le
 unfold clkL secL tailL
 split
 ·simp only [List.length_append, List.length_cons, twoL_len, List.length_replicate, w5]
  omega
 ·simp only [List.length_append, List.length_cons, twoL_len, List.length_replicate, List.length_nil]
  omega
theorem zoneL_size (zd : Bool) (z : Int) : (zoneL zd z).length ≤ 6 := by
 unfold zoneL
 split
 ·split <;> simp [twoL_len]
 ·simp
theorem p_text6 (m : Mom) (zs : m.sec.ds.size ≤ 400) (w : World) (hT : Tabs w) : Calls Tryz.prog 11 #[m.v] w fun e w' => e = .returned (.tuple #[.string (textS6 m).1, .int .i64 (textS6 m).2]) ∧ Below w.heap.size w w' := by
 have cV := fun W hW => p_valid m zs W hW
 unfold textS6
 cases ho : okB m with
 | false =>
  rw [ho] at cV
  exact ptext_bad m cV w hT
 | true =>
  rw [ho] at cV
  simp only [if_true]
  have h := okF ho
  have cZ := fun W hW => p_zone6 m h W hW
  have sz : (⟨(zoneL m.zd m.z).toArray⟩ : ByteArray).size ≤ 1000 := by rw [← bytes_len, bytes_mk]; have := zoneL_size m.zd m.z; omega
  have sd : (⟨(dateL m.y m.mo m.d).toArray⟩ : ByteArray).size ≤ 1000 := by rw [← bytes_len, bytes_mk]; have := dateL_size m.y m.mo m.d; omega
  rcases kinds h.kind with hk | hk | hk
  ·have hd : datedB m.k = true := by rw [hk]; rfl
   have ht : timedB m.k = false := by rw [hk]; rfl
   refine (ptext_1 m _ ⟨#[]⟩ _ hk sd (by decide) sz cV (fun W hW => p_date6 m h hd W hW) cZ w hT).mono fun e w' ⟨q, hb⟩ => ⟨?_, hb⟩
   have e0 : (⟨(dateL m.y m.mo m.d).toArray⟩ : ByteArray) ++ ⟨(zoneL m.zd m.z).toArray⟩ = ⟨(textL m).toArray⟩ := by
    apply bytes_ext
    simp only [bytes_mk, Joins.data_append]
    unfold textL
    rw [hd, ht, hk]
    simp
   rw [q, e0]
  ·have hd : datedB m.k = false := by rw [hk]; rfl
   have ht : timedB m.k = true := by rw [hk]; rfl
   have sc : (⟨(clkL m.h m.mi m.sec).toArray⟩ : ByteArray).size ≤ 1000 := by rw [← bytes_len, bytes_mk]; have := clkL_size h ht; omega
   refine (ptext_2 m ⟨#[]⟩ _ _ hk (by decide) sc sz cV (fun W hW => p_time6 m h ht W hW) cZ w hT).mono fun e w' ⟨q, hb⟩ => ⟨?_, hb⟩
   have e0 : (⟨#[]⟩ : ByteArray) ++ ⟨(clkL m.h m.mi m.sec).toArray⟩ ++ ⟨(zoneL m.zd m.z).toArray⟩ = ⟨(textL m).toArray⟩ := by
    apply bytes_ext
    simp only [bytes_mk, Joins.data_append]
    unfold textL
    rw [hd, ht, hk]
    simp
   rw [q, e0]
  ·have hd : datedB m.k = true := by rw [hk]; rfl
   have ht : timedB m.k = true := by rw [hk]; rfl
   have sc : (⟨(clkL m.h m.mi m.sec).toArray⟩ : ByteArray).size ≤ 1000 := by rw [← bytes_len, bytes_mk]; have := clkL_size h ht; omega
   refine (ptext_3 m _ _ _ hk sd sc sz cV (fun W hW => p_date6 m h hd W hW) (fun W hW => p_time6 m h ht W hW) cZ w hT).mono fun e w' ⟨q, hb⟩ => ⟨?_, hb⟩
   have e0 : (⟨(dateL m.y m.mo m.d).toArray⟩ : ByteArray) ++ ⟨#[84]⟩ ++ ⟨(clkL m.h m.mi m.sec).toArray⟩ ++ ⟨(zoneL m.zd m.z).toArray⟩ = ⟨(textL m).toArray⟩ := by
    apply bytes_ext
    simp only [bytes_mk, Joins.data_append]
    unfold textL
    rw [hd, ht, hk]
    simp
   rw [q, e0]
theorem p_readB (k : Int) (s : ByteArray)
  (cK : ∀ W, Calls Tryz.prog 29 #[.int .i64 k] W fun e w' => e = .returned (.bool false) ∧ W = w') (w : World) :
  Calls Tryz.prog 9 #[.int .i64 k, .string s] w fun e w' => e = .returned (MRes.v ⟨momNil, 2⟩) ∧ Below w.heap.size w w' := by
 have HS := Lib.hid (((KD.nil w).push nilL 25 (n := w.heap.size) rfl).push [.int .i64 0] 27 (n := w.heap.size + 1) (by simp))
 go_enter_defers Tryz.func9, Tryz.ntmps9
 go_wp2_with fail
 refine (cK _).mono ?_
 rintro e w_ ⟨rfl, rfl⟩
 go_wp2
 have HB : Below w.heap.size w ((w.alloc (.cells #[.int .i64 0, .int .i64 0, .int .i64 0, .int .i64 0, .int .i64 0, .int .i64 0, .bool false, .string ⟨#[]⟩, .int .i64 0, .bool false, .int .i64 0] 25)).alloc (.cells #[.int .i64 2] 27)) := stepA (stepA (Below.refl _ _) _) _
 simp [bodyPostD, Leaves, settle, results, Tryz.results9, go_sem, MRes.v, Mom.v, momNil, decNil, HB]
theorem p_read6 (k : Int) (s : ByteArray) (hs : s.size ≤ 390) (w : World) (hT : Tabs w) : Calls Tryz.prog 9 #[.int .i64 k, .string s] w fun e w' => e = .returned (readS6 k s.data.toList).v ∧ Below w.heap.size w w' := by
 have cK := fun W => p_isKind k W
 cases hk : (datedB k || timedB k) with
 | false =>
  rw [hk] at cK
  have e : readS6 k s.data.toList = ⟨momNil, 2⟩ := by unfold readS6; rw [hk, if_neg (by simp)]
  rw [e]
  exact p_readB k s cK w
 | true =>
  rw [hk] at cK
  have hl : s.data.toList.length ≤ 390 := by rw [bytes_len]; exact hs
  have es : s = ⟨s.data.toList.toArray⟩ := bytes_of rfl
  have cR : ∀ W, Tabs W → Calls Tryz.prog 31 #[.int .i64 k, .string ⟨s.data.toList.toArray⟩] W (ReadPost k s.data.toList W) := fun W hW => by
   rcases kinds hk with h | h | h
   ·rw [h]; exact p_read1 _ hl W hW
   ·rw [h]; exact p_read2 _ hl W hW
   ·rw [h]; exact p_read3 _ hl W hW
  unfold ReadPost at cR
  generalize s.data.toList = l at *
  subst es
  by_cases h : (readS6 k l).e = 0
  ·have e : readS6 k l = ⟨(readS6 k l).m, 0⟩ := by rw [← h]
   simp only [if_pos h] at cR
   rw [e]
   exact p_readR k l _ cK cR w hT
  ·simp only [if_neg h] at cR
   have e : readS6 k l = ⟨momNil, (readS6 k l).e⟩ := by
    have : (readS6 k l).m = momNil := by
     unfold readS6 at h ⊢
     rw [hk, if_pos rfl] at h ⊢
     split
     ·rfl
     ·next p hp =>
      rw [hp] at h
      dsimp only at h
      unfold partsS seenS at h ⊢
      split
      ·split
       ·split
        ·next a b c => rw [if_pos a, if_pos b, if_pos c] at h; exact absurd rfl h
        ·rfl
       ·rfl
      ·split
       ·next a c => rw [if_neg a, if_pos c] at h; exact absurd rfl h
       ·rfl
    rw [← this]
   rw [e]
   exact p_readP k l cK _ cR w hT
end Go.Proofs.YtmdnijehoagamaaGreatDoor
