/- PY QC MA MG -/
import Derived.Test.YtmdnijehoagamaaGreatDoorK14
set_option linter.unusedVariables false
set_option linter.unusedSimpArgs false
namespace Go.Proofs.YtmdnijehoagamaaGreatDoor
set_option maxRecDepth 100000
set_option maxHeartbeats 4000000
open Go.RowKit
theorem index_dot : ∀ l : List UInt8, Lib.index l [46] = if l.findIdx (· == 46) < l.length then ((l.findIdx (· == 46) : Nat) : Int) else -1
 | [] => rfl
 | b :: l => by
  rw [Lib.index, index_dot l, List.findIdx_cons]
  by_cases hb : b = 46
  ·subst hb
   simp
  ·have h1 : (b == 46) = false := by simpa using hb
   have h2 : List.isPrefixOf [46] (b :: l) = false := by
    simp only [List.isPrefixOf, Bool.and_true]
    exact beq_eq_false_iff_ne.2 fun e => hb e.symm
   rw [h1, h2]
   simp only [cond_false, Bool.false_eq_true, if_false, List.length_cons]
   by_cases hl : l.findIdx (· == 46) < l.length
   ·have c1 : ((((l.findIdx (· == 46) : Nat) : Int) == -1) = false) := beq_eq_false_iff_ne.2 (by omega)
    rw [if_pos hl, c1, if_neg (by simp), if_pos (show l.findIdx (· == 46) + 1 < l.length + 1 by omega)]
    rfl
   ·rw [if_neg hl, if_neg (show ¬ l.findIdx (· == 46) + 1 < l.length + 1 by omega)]
    rfl
theorem cut_dot (l : List UInt8) : Lib.cut l [46] = if l.findIdx (· == 46) < l.length then (l.take (l.findIdx (· == 46)), l.drop (l.findIdx (· == 46) + 1), true) else (l, [], false) := by
 unfold Lib.cut
 rw [index_dot]
 split
 ·next h =>
  rw [if_pos (by omega)]
  simp
 ·next h =>
  rw [if_neg (by omega)]
theorem body_cut (neg : Bool) (t : ByteArray) : bodyS neg t = finS neg ⟨((Lib.cut t.data.toList [46]).1 ++ (Lib.cut t.data.toList [46]).2.1).toArray⟩ (Lib.cut t.data.toList [46]).2.1.length := by
 rw [cut_dot]
 unfold bodyS ptAt
 rw [← bytes_len]
 by_cases h : t.data.toList.findIdx (· == 46) < t.data.toList.length
 ·rw [if_pos h, if_pos h]
  congr 1
  ·apply bytes_ext
   rw [Joins.data_append, Lib.extract_data, Lib.extract_data, bytes_mk, List.drop_zero, Nat.sub_zero]
   congr 1
   rw [List.take_of_length_le (by rw [List.length_drop, bytes_len]; omega)]
  ·rw [List.length_drop, bytes_len]
   omega
 ·rw [if_neg h, if_neg h]
  congr 1
  apply bytes_ext
  rw [bytes_mk, List.append_nil]
theorem one_byte {s : ByteArray} (h : 0 < s.size) : s.data.toList = s[0] :: s.data.toList.drop 1 := by
 have hl : 0 < s.data.toList.length := by rw [bytes_len]; exact h
 rw [byte_at rfl h hl]
 have h2 := List.drop_eq_getElem_cons hl
 rw [List.drop_zero] at h2
 exact h2
theorem read_sign (s : ByteArray) : readS s = bodyS (Lib.hasPrefix s.data.toList [45]) ⟨(Lib.trimPrefix s.data.toList (if Lib.hasPrefix s.data.toList [45] then [45] else [43])).toArray⟩ := by
 unfold readS
 split
 ·next h =>
  have h1 := one_byte h
  have hex : s.extract 1 s.size = ⟨(s.data.toList.drop 1).toArray⟩ := by
   apply bytes_ext
   rw [Lib.extract_data, bytes_mk, List.take_of_length_le (by rw [List.length_drop, bytes_len]; omega)]
  by_cases h45 : s[0].toNat = 45
  ·have e : s[0] = 45 := UInt8.toNat_inj.1 (by rw [h45]; rfl)
   have hp : Lib.hasPrefix s.data.toList [45] = true := by rw [h1, e]; rfl
   rw [if_pos h45, hp, if_pos rfl, hex]
   unfold Lib.trimPrefix
   rw [hp, if_pos rfl]
   rfl
  ·have hp : Lib.hasPrefix s.data.toList [45] = false := by
    rw [h1]
    unfold Lib.hasPrefix
    simp only [List.isPrefixOf, Bool.and_true]
    exact beq_eq_false_iff_ne.2 fun e => h45 (by rw [← e]; rfl)
   rw [if_neg h45, hp]
   simp only [Bool.false_eq_true, if_false]
   by_cases h43 : s[0].toNat = 43
   ·have e : s[0] = 43 := UInt8.toNat_inj.1 (by rw [h43]; rfl)
    have hq : Lib.hasPrefix s.data.toList [43] = true := by rw [h1, e]; rfl
    rw [if_pos h43, hex]
    unfold Lib.trimPrefix
    rw [hq, if_pos rfl]
    rfl
   ·have hq : Lib.hasPrefix s.data.toList [43] = false := by
     rw [h1]
     unfold Lib.hasPrefix
     simp only [List.isPrefixOf, Bool.and_true]
     exact beq_eq_false_iff_ne.2 fun e => h43 (by rw [← e]; rfl)
    rw [if_neg h43]
    unfold Lib.trimPrefix
    rw [hq]
    simp
 ·next h =>
  have hs : s.data.toList = [] := by
   have := bytes_len s
   exact List.eq_nil_of_length_eq_zero (by omega)
  have e : s = ⟨#[]⟩ := bytes_ext hs
  rw [e]
  rfl
theorem p_read (s : ByteArray) (hs : s.size ≤ 400) (w : World) (hT : Tabs w) : Calls Tryz.prog 101 #[.string s] w fun e w' => e = .returned (readS s).v ∧ Below w.heap.size w w' := by
 have cP := fun W => Tryz.strings_CutPrefix s ⟨#[45]⟩ W
 have cT := fun W => Tryz.strings_TrimPrefix s ⟨#[43]⟩ W
 rw [show (ByteArray.mk #[45]).data.toList = [45] from rfl] at cP
 rw [show (ByteArray.mk #[43]).data.toList = [43] from rfl] at cT
 rw [read_sign]
 obtain ⟨q, hq⟩ : ∃ q, Lib.hasPrefix s.data.toList [45] = q := ⟨_, rfl⟩
 have hpre : ∀ p, (Lib.trimPrefix s.data.toList p).length ≤ 400 := fun p => by
  unfold Lib.trimPrefix
  split
  ·rw [List.length_drop, bytes_len]; omega
  ·rw [bytes_len]; exact hs
 obtain ⟨m, hm⟩ := hT.maxl
 have hw6 := hT.size
 cases q with
 | true =>
  rw [hq] at cP ⊢
  simp only [if_true]
  have hl := hpre [45]
  generalize Lib.trimPrefix s.data.toList [45] = T at cP hl ⊢
  clear cT hq hpre
  rw [body_cut, bytes_mk]
  have cC := fun W hW => Tryz.strings_Cut ⟨T.toArray⟩ ⟨#[46]⟩ m W (by rw [bytes_mk_size]; omega) hW
  rw [bytes_mk, show (ByteArray.mk #[46]).data.toList = [46] from rfl] at cC
  have hlen : (Lib.cut T [46]).1.length + (Lib.cut T [46]).2.1.length ≤ 400 := by
   rw [cut_dot]
   split
   ·simp only [List.length_take, List.length_drop]; omega
   ·simp only [List.length_nil]; omega
  generalize (Lib.cut T [46]).2.2 = fl at cC
  generalize (Lib.cut T [46]).1 = Wh at cC hlen ⊢
  generalize (Lib.cut T [46]).2.1 = Be at cC hlen ⊢
  have hcat : (ByteArray.mk Wh.toArray) ++ (ByteArray.mk Be.toArray) = ⟨(Wh ++ Be).toArray⟩ := by
   apply bytes_ext
   rw [Joins.data_append, bytes_mk, bytes_mk, bytes_mk]
  have hAz : (ByteArray.mk (Wh ++ Be).toArray).size ≤ 400 := by rw [bytes_mk_size, List.length_append]; exact hlen
  have y1 : ¬ 9223372036854775807 < (ByteArray.mk Wh.toArray).size + (ByteArray.mk Be.toArray).size := by rw [bytes_mk_size, bytes_mk_size]; omega
  have hBz : (ByteArray.mk Be.toArray).size = Be.length := bytes_mk_size Be
  have hBn : Be.length ≤ 400 := by omega
  generalize ByteArray.mk (Wh ++ Be).toArray = A at *
  generalize ByteArray.mk Wh.toArray = WB at *
  generalize ByteArray.mk Be.toArray = BB at *
  generalize ByteArray.mk T.toArray = TB at *
  rw [← hBz] at hBn ⊢
  have cA := fun W => pdigits_any A (by unfold maxLen; omega) W
  have HM := Lib.hid hm
  unfold finS
  by_cases hd : digB A.data.toList = true
  ·rw [hd] at cA
   rw [if_pos hd]
   have cD := fun W => decimalOf_call true A BB.size ((digB_iff _).1 hd).1 (by omega) (by omega) W
   rw [← ofOpt_v]
   unfold decR at cD ⊢
   generalize (mkDec true (val A.data.toList) BB.size).getD decNil = d at cD ⊢
   generalize (if (mkDec true (val A.data.toList) BB.size).isSome then (0 : Int) else 7) = qq at cD ⊢
   obtain ⟨dn, dd, dsc⟩ := d
   simp only [Dec.v] at cD ⊢
   clear hd hm hl hlen hBz
   go_enter Tryz.func101, Tryz.ntmps101
   go_wp2_with (first
    | (go_at_call 130; refine (cP _).mono ?_; rintro e w1 ⟨rfl, rfl⟩)
    | (go_at_call 131; refine (cT _).mono ?_; rintro e w1 ⟨rfl, rfl⟩)
    | (go_at_call 83; refine (cC _ (by rw [World.cell?_alloc_past _ _ _ (show 1 < w.heap.size by omega)]; exact HM.out)).mono ?_; rintro e w1 ⟨rfl, nd, rfl⟩)
    | (go_at_call 132; refine (cA _).mono ?_; rintro e w2 ⟨rfl, rfl⟩)
    | (go_at_call 122; refine (cD _).mono ?_; rintro e w3 ⟨rfl, b3⟩; obtain ⟨r0, r1, r2, g0, g1, g2, hB, hz⟩ := one_all ((below_drewN (Below.refl _ _) nd).trans b3); have HB := Lib.hid hB; clear b3 hB))
   exact bodyPost_ret (v := .tuple #[.agg #[.bool dn, .string dd, .int .i64 dsc], .int .i64 qq]) (by simp [results, Tryz.results101, go_sem, r0, r1, r2]) rfl ⟨rfl, ((HB.out.setCell (by simp) _).setCell (by simp) _).setCell (by simp) _⟩
  ·have hd2 : digB A.data.toList = false := by simpa using hd
   rw [hd2] at cA
   rw [if_neg hd]
   unfold DRes.v decNil Dec.v
   simp only
   clear hd hd2 hm hl hlen hBz
   go_enter Tryz.func101, Tryz.ntmps101
   go_wp2_with (first
    | (go_at_call 130; refine (cP _).mono ?_; rintro e w1 ⟨rfl, rfl⟩)
    | (go_at_call 131; refine (cT _).mono ?_; rintro e w1 ⟨rfl, rfl⟩)
    | (go_at_call 83; refine (cC _ (by rw [World.cell?_alloc_past _ _ _ (show 1 < w.heap.size by omega)]; exact HM.out)).mono ?_; rintro e w1 ⟨rfl, nd, rfl⟩)
    | (go_at_call 132; refine (cA _).mono ?_; rintro e w2 ⟨rfl, rfl⟩))
   exact bodyPost_ret (v := .tuple #[.agg #[.bool false, .string ⟨#[]⟩, .int .i64 0], .int .i64 6]) (by simp [results, Tryz.results101, go_sem]) rfl ⟨rfl, (((below_drewN ((Below.refl _ _).alloc (Nat.le_refl _) _) nd).setCell (by simp) _).setCell (by simp) _).setCell (by simp) _⟩
 | false =>
  rw [hq] at cP ⊢
  simp only [Bool.false_eq_true, if_false]
  have hl := hpre [43]
  generalize Lib.trimPrefix s.data.toList [43] = T at cT hl ⊢
  generalize ByteArray.mk (Lib.trimPrefix s.data.toList [45]).toArray = T0 at cP
  clear hq hpre
  rw [body_cut, bytes_mk]
  have cC := fun W hW => Tryz.strings_Cut ⟨T.toArray⟩ ⟨#[46]⟩ m W (by rw [bytes_mk_size]; omega) hW
  rw [bytes_mk, show (ByteArray.mk #[46]).data.toList = [46] from rfl] at cC
  have hlen : (Lib.cut T [46]).1.length + (Lib.cut T [46]).2.1.length ≤ 400 := by
   rw [cut_dot]
   split
   ·simp only [List.length_take, List.length_drop]; omega
   ·simp only [List.length_nil]; omega
  generalize (Lib.cut T [46]).2.2 = fl at cC
  generalize (Lib.cut T [46]).1 = Wh at cC hlen ⊢
  generalize (Lib.cut T [46]).2.1 = Be at cC hlen ⊢
  have hcat : (ByteArray.mk Wh.toArray) ++ (ByteArray.mk Be.toArray) = ⟨(Wh ++ Be).toArray⟩ := by
   apply bytes_ext
   rw [Joins.data_append, bytes_mk, bytes_mk, bytes_mk]
  have hAz : (ByteArray.mk (Wh ++ Be).toArray).size ≤ 400 := by rw [bytes_mk_size, List.length_append]; exact hlen
  have y1 : ¬ 9223372036854775807 < (ByteArray.mk Wh.toArray).size + (ByteArray.mk Be.toArray).size := by rw [bytes_mk_size, bytes_mk_size]; omega
  have hBz : (ByteArray.mk Be.toArray).size = Be.length := bytes_mk_size Be
  have hBn : Be.length ≤ 400 := by omega
  generalize ByteArray.mk (Wh ++ Be).toArray = A at *
  generalize ByteArray.mk Wh.toArray = WB at *
  generalize ByteArray.mk Be.toArray = BB at *
  generalize ByteArray.mk T.toArray = TB at *
  rw [← hBz] at hBn ⊢
  have cA := fun W => pdigits_any A (by unfold maxLen; omega) W
  have HM := Lib.hid hm
  unfold finS
  by_cases hd : digB A.data.toList = true
  ·rw [hd] at cA
   rw [if_pos hd]
   have cD := fun W => decimalOf_call false A BB.size ((digB_iff _).1 hd).1 (by omega) (by omega) W
   rw [← ofOpt_v]
   unfold decR at cD ⊢
   generalize (mkDec false (val A.data.toList) BB.size).getD decNil = d at cD ⊢
   generalize (if (mkDec false (val A.data.toList) BB.size).isSome then (0 : Int) else 7) = qq at cD ⊢
   obtain ⟨dn, dd, dsc⟩ := d
   simp only [Dec.v] at cD ⊢
   clear hd hm hl hlen hBz
   go_enter Tryz.func101, Tryz.ntmps101
   go_wp2_with (first
    | (go_at_call 130; refine (cP _).mono ?_; rintro e w1 ⟨rfl, rfl⟩)
    | (go_at_call 131; refine (cT _).mono ?_; rintro e w1 ⟨rfl, rfl⟩)
    | (go_at_call 83; refine (cC _ (by rw [World.cell?_alloc_past _ _ _ (show 1 < w.heap.size by omega)]; exact HM.out)).mono ?_; rintro e w1 ⟨rfl, nd, rfl⟩)
    | (go_at_call 132; refine (cA _).mono ?_; rintro e w2 ⟨rfl, rfl⟩)
    | (go_at_call 122; refine (cD _).mono ?_; rintro e w3 ⟨rfl, b3⟩; obtain ⟨r0, r1, r2, g0, g1, g2, hB, hz⟩ := one_all ((below_drewN (Below.refl _ _) nd).trans b3); have HB := Lib.hid hB; clear b3 hB))
   exact bodyPost_ret (v := .tuple #[.agg #[.bool dn, .string dd, .int .i64 dsc], .int .i64 qq]) (by simp [results, Tryz.results101, go_sem, r0, r1, r2]) rfl ⟨rfl, ((HB.out.setCell (by simp) _).setCell (by simp) _).setCell (by simp) _⟩
  ·have hd2 : digB A.data.toList = false := by simpa using hd
   rw [hd2] at cA
   rw [if_neg hd]
   unfold DRes.v decNil Dec.v
   simp only
   clear hd hd2 hm hl hlen hBz
   go_enter Tryz.func101, Tryz.ntmps101
   go_wp2_with (first
    | (go_at_call 130; refine (cP _).mono ?_; rintro e w1 ⟨rfl, rfl⟩)
    | (go_at_call 131; refine (cT _).mono ?_; rintro e w1 ⟨rfl, rfl⟩)
    | (go_at_call 83; refine (cC _ (by rw [World.cell?_alloc_past _ _ _ (show 1 < w.heap.size by omega)]; exact HM.out)).mono ?_; rintro e w1 ⟨rfl, nd, rfl⟩)
    | (go_at_call 132; refine (cA _).mono ?_; rintro e w2 ⟨rfl, rfl⟩))
   exact bodyPost_ret (v := .tuple #[.agg #[.bool false, .string ⟨#[]⟩, .int .i64 0], .int .i64 6]) (by simp [results, Tryz.results101, go_sem]) rfl ⟨rfl, (((below_drewN ((Below.refl _ _).alloc (Nat.le_refl _) _) nd).setCell (by simp) _).setCell (by simp) _).setCell (by simp) _⟩
theorem no_byte {l : List UInt8} (h : AllD l) (c : UInt8) (hc : c.toNat < 48) : Lib.hasPrefix l [c] = false := by
 unfold Lib.hasPrefix
 cases l with
 | nil => rfl
 | cons d l =>
  simp only [List.isPrefixOf, Bool.and_true]
  refine beq_eq_false_iff_ne.2 fun e => ?_
  have := h.head
  rw [← e] at this
  omega
theorem no_dot {l : List UInt8} (h : AllD l) : Lib.cut l [46] = (l, [], false) := by
 rw [cut_dot, if_neg]
 intro hlt
 have h2 := List.findIdx_getElem (p := (· == (46 : UInt8))) (xs := l) (w := hlt)
 have h3 := h _ (List.getElem_mem hlt)
 have h4 := eq_of_beq h2
 rw [h4] at h3
 have : (46 : UInt8).toNat = 46 := rfl
 omega
theorem body_digs (neg : Bool) (u : Nat) (hu : u < 10 ^ 20) : bodyS neg ⟨(digs u).toArray⟩ = ⟨if u = 0 then decZero else ⟨neg, numS u, 0⟩, 0⟩ := by
 rw [body_cut, bytes_mk, no_dot (digs_all u)]
 unfold finS
 rw [if_pos (by rw [bytes_mk, List.append_nil]; exact (digB_iff _).2 ⟨digs_all u, digs_ne u⟩), bytes_mk, List.append_nil, digs_val]
 unfold mkDec
 by_cases h0 : u = 0
 ·rw [if_pos h0, if_pos h0]
  rfl
 ·have hl := digs_len_le hu (by omega)
  rw [if_neg h0, if_neg h0, List.length_nil, strip_zero, if_neg (by simp only; omega)]
  rfl
theorem read_itoa (n : Int) (h0 : -9223372036854775808 ≤ n) (h1 : n ≤ 9223372036854775807) : readS ⟨(Lib.itoa n).toArray⟩ = ⟨ofSpec n, 0⟩ := by
 rw [read_sign, bytes_mk]
 unfold ofSpec
 rcases Int.lt_or_le n 0 with h | h
 ·obtain ⟨u, rfl⟩ : ∃ u : Nat, n = -(u : Int) := ⟨n.natAbs, by omega⟩
  rw [Lib.itoa_neg u (by omega), decDigits_digs]
  have hp : Lib.hasPrefix (45 :: digs u) [45] = true := rfl
  rw [hp, if_pos rfl]
  unfold Lib.trimPrefix
  rw [hp, if_pos rfl]
  show bodyS true ⟨(digs u).toArray⟩ = _
  rw [body_digs true u (by omega), if_neg (by omega), if_neg (by omega), decide_eq_true h, Int.natAbs_neg, Int.natAbs_natCast]
 ·obtain ⟨u, rfl⟩ : ∃ u : Nat, n = (u : Int) := ⟨n.toNat, by omega⟩
  rw [itoa_digs, no_byte (digs_all u) 45 (by decide)]
  simp only [Bool.false_eq_true, if_false]
  unfold Lib.trimPrefix
  rw [no_byte (digs_all u) 43 (by decide)]
  simp only [Bool.false_eq_true, if_false]
  rw [body_digs false u (by omega)]
  by_cases hu : u = 0
  ·rw [if_pos hu, if_pos (by omega)]
  ·rw [if_neg hu, if_neg (by omega), decide_eq_false (by omega), Int.natAbs_natCast]
theorem p_of (n : Int) (h0 : -9223372036854775808 ≤ n) (h1 : n ≤ 9223372036854775807) (w : World) (hT : Tabs w) : Calls Tryz.prog 62 #[.int .i64 n] w fun e w' => e = .returned (ofSpec n).v ∧ Below w.heap.size w w' := by
 have cF := fun W hW => format_call n h0 h1 W hW
 have hlen : (Lib.itoa n).length ≤ 21 := by
  rcases Int.lt_or_le n 0 with h | h
  ·obtain ⟨u, rfl⟩ : ∃ u : Nat, n = -(u : Int) := ⟨n.natAbs, by omega⟩
   rw [Lib.itoa_neg u (by omega), decDigits_digs, List.length_cons]
   have := digs_len_le (n := u) (k := 20) (by omega) (by omega)
   omega
  ·obtain ⟨u, rfl⟩ : ∃ u : Nat, n = (u : Int) := ⟨n.toNat, by omega⟩
   rw [itoa_digs]
   have := digs_len_le (n := u) (k := 20) (by omega) (by omega)
   omega
 have cR := fun W hW => p_read ⟨(Lib.itoa n).toArray⟩ (by rw [bytes_mk_size]; omega) W hW
 rw [read_itoa n h0 h1] at cR
 generalize ByteArray.mk (Lib.itoa n).toArray = S at cF cR
 generalize ofSpec n = d at cR ⊢
 obtain ⟨dn, dd, dsc⟩ := d
 unfold DRes.v Dec.v at cR
 unfold Dec.v
 simp only at cR ⊢
 have HT := Lib.hid hT
 clear hT hlen
 go_enter Tryz.func62, Tryz.ntmps62
 go_wp2_with (first
  | (go_at_call 102; refine (cF _ (HT.out.next ((Below.refl _ _).alloc (Nat.le_refl _) _))).mono ?_; rintro e w1 ⟨rfl, b1⟩; have B1 := Lib.hid b1; clear b1)
  | (go_at_call 101; refine (cR _ ((HT.out.next ((Below.refl _ _).alloc (Nat.le_refl _) _)).next B1.out)).mono ?_; rintro e w2 ⟨rfl, b2⟩; have b12 := B1.out.trans (b2.mono B1.out.size); obtain ⟨r0, r1, r2, g0, g1, g2, _⟩ := ((Has.new w (.bool false) (.string ⟨#[]⟩) (.int .i64 0) 23).call b12).alloc (.cells #[.bool dn, .string dd, .int .i64 dsc] 23); have HB := Lib.hid ((((Below.refl w.heap.size w).alloc (Nat.le_refl _) _).trans (b12.mono (by simp))).alloc (by have := b12.size; simp at this; omega) (.cells #[.bool dn, .string dd, .int .i64 dsc] 23)); clear b2 b12))
 exact bodyPost_ret (v := .agg #[.bool dn, .string dd, .int .i64 dsc]) (by simp [results, Tryz.results62, go_sem, r0, r1, r2]) rfl ⟨rfl, ((HB.out.setCell (by simp) _).setCell (by simp) _).setCell (by simp) _⟩
end Go.Proofs.YtmdnijehoagamaaGreatDoor
namespace Go.Proofs.YtmdnijehoagamaaGreatDoor
open Go.RowKit
theorem progOk : ProgOk Tabs where
 below := fun h b => h.next b
 check := fun a w za _ => p_check a za w
 of := fun n w h0 h1 hT => p_of n h0 h1 w hT
 read := fun s w hs hT => p_read s hs w hT
 text := fun a w za _ => p_text a za w
 add := fun a b w za zb hT => p_add a b za zb w hT
 sub := fun a b w za zb hT => p_sub a b za zb w hT
 div := fun a b k w za zb _ => p_div a b k za zb w
 cmp := fun a b w za zb _ => p_cmp a b za zb w
end Go.Proofs.YtmdnijehoagamaaGreatDoor
namespace Go.Proofs.YtmdnijehoagamaaGreatDoor
set_option maxRecDepth 100000
set_option maxHeartbeats 4000000
open Go.RowKit
def cntd (y : Int) : Int := if y < 0 then y + 1 else y
def longY (y : Int) : Bool := (y.tmod 4 == 0 && !(y.tmod 100 == 0)) || y.tmod 400 == 0
def lenM (y m : Int) : Int :=
 if m = 2 then (if longY y then 29 else 28) else if m = 4 ∨ m = 6 ∨ m = 9 ∨ m = 11 then 30 else 31
def datedB (k : Int) : Bool := k == 1 || k == 3
def timedB (k : Int) : Bool := k == 2 || k == 3
theorem counted_any (y : Int) (hy : y ≤ 1000000) (hy0 : -1000000 ≤ y) (w : World) : Calls Tryz.prog 46 #[.int .i64 y] w fun e w' => e = .returned (.int .i64 (cntd y)) ∧ w = w' := by
 unfold cntd
 by_cases h : y < 0
 ·rw [if_pos h]
  go_enter Tryz.func46, Tryz.ntmps46
  go_wp2
  go_ret
  exact ⟨rfl, rfl⟩
 ·rw [if_neg h]
  go_enter Tryz.func46, Tryz.ntmps46
  go_wp2
  go_ret
  exact ⟨rfl, rfl⟩
theorem dated_any (k : Int) (w : World) : Calls Tryz.prog 32 #[.int .i64 k] w fun e w' => e = .returned (.bool (datedB k)) ∧ w = w' := by
 unfold datedB
 obtain ⟨b1, h1⟩ : ∃ b, (k == 1) = b := ⟨_, rfl⟩
 obtain ⟨b3, h3⟩ : ∃ b, (k == 3) = b := ⟨_, rfl⟩
 rw [h1, h3]
 cases b1 <;> cases b3
 all_goals (
  go_enter Tryz.func32, Tryz.ntmps32
  go_wp2
  go_ret
  exact ⟨rfl, rfl⟩)
theorem timed_any (k : Int) (w : World) : Calls Tryz.prog 33 #[.int .i64 k] w fun e w' => e = .returned (.bool (timedB k)) ∧ w = w' := by
 unfold timedB
 obtain ⟨b1, h1⟩ : ∃ b, (k == 2) = b := ⟨_, rfl⟩
 obtain ⟨b3, h3⟩ : ∃ b, (k == 3) = b := ⟨_, rfl⟩
 rw [h1, h3]
 cases b1 <;> cases b3
 all_goals (
  go_enter Tryz.func33, Tryz.ntmps33
  go_wp2
  go_ret
  exact ⟨rfl, rfl⟩)
theorem long6_any (y : Int) (w : World) : Calls Tryz.prog 86 #[.int .i64 y] w fun e w' => e = .returned (.bool (longY y)) ∧ w = w' := by
 unfold longY
 obtain ⟨b4, h4⟩ : ∃ b, (y.tmod 4 == 0) = b := ⟨_, rfl⟩
 obtain ⟨b100, h100⟩ : ∃ b, (y.tmod 100 == 0) = b := ⟨_, rfl⟩
 obtain ⟨b400, h400⟩ : ∃ b, (y.tmod 400 == 0) = b := ⟨_, rfl⟩
 have n100 : (y.tmod 100 != 0) = !b100 := by rw [← h100]; rfl
 rw [h4, h100, h400]
 cases b4 <;> cases b100 <;> cases b400
 all_goals (
  go_enter Tryz.func86, Tryz.ntmps86
  go_wp2
  go_ret
  exact ⟨rfl, rfl⟩)
theorem length_any (y m : Int) (h1 : 1 ≤ m) (h2 : m ≤ 12) (w : World) : Calls Tryz.prog 45 #[.int .i64 y, .int .i64 m] w fun e w' => e = .returned (.int .i64 (lenM y m)) ∧ Below w.heap.size w w' := by
 have cL := fun W => long6_any y W
 generalize hb : longY y = b at cL
 have HB := Lib.hid hb
 clear hb
 have hm : m = 1 ∨ m = 2 ∨ m = 3 ∨ m = 4 ∨ m = 5 ∨ m = 6 ∨ m = 7 ∨ m = 8 ∨ m = 9 ∨ m = 10 ∨ m = 11 ∨ m = 12 := by omega
 clear h1 h2
 rcases hm with rfl | rfl | rfl | rfl | rfl | rfl | rfl | rfl | rfl | rfl | rfl | rfl
 all_goals unfold lenM
 all_goals cases b
 all_goals (
  simp only [HB.out]
  go_enter Tryz.func45, Tryz.ntmps45
  go_wp2_with (go_at_call 86; refine (cL _).mono ?_; rintro e w1 ⟨rfl, rfl⟩)
  go_ret
  exact ⟨by first | rfl | simp, (Below.refl _ _).alloc (Nat.le_refl _) _⟩)
end Go.Proofs.YtmdnijehoagamaaGreatDoor
namespace Go.Proofs.YtmdnijehoagamaaGreatDoor
theorem longY_iff (y : Int) : longY y = true ↔ ((y % 4 = 0 ∧ ¬ y % 100 = 0) ∨ y % 400 = 0) := by
 unfold longY
 have t4 : y.tmod 4 = 0 ↔ y % 4 = 0 := by rw [← Int.dvd_iff_tmod_eq_zero, Int.dvd_iff_emod_eq_zero]
 have t100 : y.tmod 100 = 0 ↔ y % 100 = 0 := by rw [← Int.dvd_iff_tmod_eq_zero, Int.dvd_iff_emod_eq_zero]
 have t400 : y.tmod 400 = 0 ↔ y % 400 = 0 := by rw [← Int.dvd_iff_tmod_eq_zero, Int.dvd_iff_emod_eq_zero]
 simp [t4, t100, t400]
def lp (y : Int) : Int := if longY y then 1 else 0
theorem lp_01 (y : Int) : 0 ≤ lp y ∧ lp y ≤ 1 := by unfold lp; split <;> omega
def fdY (y : Int) : Int := 365 * (y - 1) + (y - 1) / 4 - (y - 1) / 100 + (y - 1) / 400
theorem fdY_succ (y : Int) : fdY (y + 1) = fdY y + 365 + lp y := by
 unfold fdY lp
 by_cases h : longY y = true
 ·rw [if_pos h]
  rw [longY_iff] at h
  omega
 ·rw [if_neg h]
  rw [longY_iff] at h
  omega
theorem fdY_1 : fdY 1 = 0 := by decide
theorem fdY_mono (a b : Int) (h : a ≤ b) : fdY a + 365 * (b - a) ≤ fdY b ∧ fdY b ≤ fdY a + 366 * (b - a) := by
 obtain ⟨n, rfl⟩ : ∃ n : Nat, b = a + n := ⟨(b - a).toNat, by omega⟩
 clear h
 induction n with
 | zero => simp
 | succ n ih =>
  have h1 := fdY_succ (a + n)
  have h2 := lp_01 (a + n)
  rw [show a + ((n + 1 : Nat) : Int) = a + n + 1 by omega]
  omega
theorem fdY_lt (a b : Int) (h : fdY a < fdY b) : a < b := by
 by_cases hh : a < b
 ·exact hh
 ·have := fdY_mono b a (by omega)
  omega
def cumM (y : Int) : Nat → Int
 | 0 => 0
 | n + 1 => cumM y n + lenM y (n + 1)
theorem lenM_bd (y m : Int) : 28 ≤ lenM y m ∧ lenM y m ≤ 31 := by unfold lenM; repeat' split <;> omega
theorem cumM_year (y : Int) : cumM y 12 = 365 + lp y := by
 unfold lp
 cases h : longY y <;> simp [cumM, lenM, h]
theorem cumM_mono (y : Int) (a b : Nat) (h : a ≤ b) : cumM y a + 28 * ((b : Int) - a) ≤ cumM y b ∧ cumM y b ≤ cumM y a + 31 * ((b : Int) - a) := by
 obtain ⟨n, rfl⟩ : ∃ n : Nat, b = a + n := ⟨b - a, by omega⟩
 clear h
 induction n with
 | zero => simp
 | succ n ih =>
  have h2 := lenM_bd y ((a + n : Nat) + 1)
  rw [show a + (n + 1) = (a + n) + 1 by omega, cumM]
  omega
def dayNo (y m d : Int) : Int := fdY y + cumM y (m - 1).toNat + (d - 1)
def DateIn (y m d : Int) : Prop := 1 ≤ m ∧ m ≤ 12 ∧ 1 ≤ d ∧ d ≤ lenM y m
theorem dayNo_year {y m d : Int} (h : DateIn y m d) : fdY y ≤ dayNo y m d ∧ dayNo y m d < fdY (y + 1) := by
 obtain ⟨h1, h2, h3, h4⟩ := h
 unfold dayNo
 have a := (cumM_mono y 0 (m - 1).toNat (by omega)).1
 have b := (cumM_mono y ((m - 1).toNat + 1) 12 (by omega)).1
 rw [cumM, show (((m - 1).toNat : Int) + 1) = m by omega, cumM_year] at b
 have c := fdY_succ y
 simp only [cumM] at a
 omega
theorem dayNo_inj {y m d y' m' d' : Int} (h : DateIn y m d) (h' : DateIn y' m' d') (e : dayNo y m d = dayNo y' m' d') : y = y' ∧ m = m' ∧ d = d' := by
 have a := dayNo_year h
 have b := dayNo_year h'
 have hy : y = y' := by
  have c1 := fdY_lt y (y' + 1) (by omega)
  have c2 := fdY_lt y' (y + 1) (by omega)
  omega
 subst hy
 have key : ∀ {m d m' d' : Int}, DateIn y m d → DateIn y m' d' → dayNo y m d = dayNo y m' d' → ¬ m < m' := by
  intro m d m' d' h h' e hlt
  obtain ⟨h1, h2, h3, h4⟩ := h
  obtain ⟨k1, k2, k3, k4⟩ := h'
  unfold dayNo at e
  have b := (cumM_mono y ((m - 1).toNat + 1) (m' - 1).toNat (by omega)).1
  rw [cumM, show (((m - 1).toNat : Int) + 1) = m by omega] at b
  omega
 have hm : m = m' := by
  have c1 := key h h' e
  have c2 := key h' h e.symm
  omega
 subst hm
 unfold dayNo at e
 exact ⟨rfl, rfl, by omega⟩
theorem year_of (n : Int) : ∃ y, fdY y ≤ n ∧ n < fdY (y + 1) := by
 have up : ∀ (k : Nat) (n : Int), 0 ≤ n → n < 366 * k → ∃ y, fdY y ≤ n ∧ n < fdY (y + 1) ∧ 1 ≤ y := by
  intro k
  induction k with
  | zero => intro n h0 h1; omega
  | succ k ih =>
   intro n h0 h1
   by_cases hk : n < 366 * k
   ·exact ih n h0 hk
   ·by_cases hk0 : k = 0
    ·subst hk0
     by_cases h365 : n < 365
     ·exact ⟨1, by rw [fdY_1]; exact h0, by show _ < fdY 2; rw [show fdY 2 = 365 from by decide]; exact h365, by omega⟩
     ·exact ⟨2, by rw [show fdY 2 = 365 from by decide]; omega, by show _ < fdY 3; rw [show fdY 3 = 730 from by decide]; omega, by omega⟩
    ·obtain ⟨y, a, b, c⟩ := ih (n - 366) (by omega) (by omega)
     have s1 := fdY_succ y
     have s2 := fdY_succ (y + 1)
     have l1 := lp_01 y
     have l2 := lp_01 (y + 1)
     by_cases hb : n < fdY (y + 1 + 1)
     ·exact ⟨y + 1, by omega, hb, by omega⟩
     ·have s3 := fdY_succ (y + 1 + 1)
      have l3 := lp_01 (y + 1 + 1)
      exact ⟨y + 1 + 1, by omega, by omega, by omega⟩
 obtain ⟨y, a, b, _⟩ := up 146097 (n % 146097) (by omega) (by omega)
 have sh : ∀ (k : Int) , fdY (y + 400 * k) = fdY y + 146097 * k := by
  intro k
  unfold fdY
  omega
 have sh' : ∀ (k : Int) , fdY (y + 1 + 400 * k) = fdY (y + 1) + 146097 * k := by
  intro k
  unfold fdY
  omega
 refine ⟨y + 400 * (n / 146097), ?_, ?_⟩
 ·rw [sh]; omega
 ·rw [show y + 400 * (n / 146097) + 1 = y + 1 + 400 * (n / 146097) by omega, sh']; omega
theorem month_of (y r : Int) (h0 : 0 ≤ r) (h1 : r < 365 + lp y) : ∃ m, 1 ≤ m ∧ m ≤ 12 ∧ cumM y (m - 1).toNat ≤ r ∧ r < cumM y (m - 1).toNat + lenM y m := by
 have go : ∀ k : Nat, k ≤ 12 → r < cumM y k → ∃ m, 1 ≤ m ∧ m ≤ 12 ∧ cumM y (m - 1).toNat ≤ r ∧ r < cumM y (m - 1).toNat + lenM y m := by
  intro k
  induction k with
  | zero => intro _ h; simp only [cumM] at h; omega
  | succ k ih =>
   intro hk h
   by_cases hlt : r < cumM y k
   ·exact ih (by omega) hlt
   ·refine ⟨(k : Int) + 1, by omega, by omega, ?_, ?_⟩
    ·rw [show ((k : Int) + 1 - 1).toNat = k by omega]; omega
    ·rw [show ((k : Int) + 1 - 1).toNat = k by omega]
     rw [cumM] at h
     exact h
 exact go 12 (by omega) (by rw [cumM_year]; exact h1)
theorem date_ex (n : Int) : ∃ t : Int × Int × Int, DateIn t.1 t.2.1 t.2.2 ∧ dayNo t.1 t.2.1 t.2.2 = n := by
 obtain ⟨y, a, b⟩ := year_of n
 have s := fdY_succ y
 obtain ⟨m, m1, m2, c, d⟩ := month_of y (n - fdY y) (by omega) (by omega)
 refine ⟨(y, m, n - fdY y - cumM y (m - 1).toNat + 1), ⟨m1, m2, ?_, ?_⟩, ?_⟩
 ·show 1 ≤ n - fdY y - cumM y (m - 1).toNat + 1; omega
 ·show n - fdY y - cumM y (m - 1).toNat + 1 ≤ lenM y m; omega
 ·show fdY y + cumM y (m - 1).toNat + (n - fdY y - cumM y (m - 1).toNat + 1 - 1) = n; omega
noncomputable def dateOf (n : Int) : Int × Int × Int := Classical.choose (date_ex n)
theorem dateOf_in (n : Int) : DateIn (dateOf n).1 (dateOf n).2.1 (dateOf n).2.2 := (Classical.choose_spec (date_ex n)).1
theorem dateOf_no (n : Int) : dayNo (dateOf n).1 (dateOf n).2.1 (dateOf n).2.2 = n := (Classical.choose_spec (date_ex n)).2
theorem dateOf_eq {y m d n : Int} (h : DateIn y m d) (e : dayNo y m d = n) : dateOf n = (y, m, d) := by
 obtain ⟨a, b, c⟩ := dayNo_inj (dateOf_in n) h (by rw [dateOf_no, e])
 exact Prod.ext a (Prod.ext b c)
end Go.Proofs.YtmdnijehoagamaaGreatDoor
