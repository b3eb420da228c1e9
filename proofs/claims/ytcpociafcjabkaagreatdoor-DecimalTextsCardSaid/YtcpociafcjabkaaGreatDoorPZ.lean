/- The program's Text. -/
import Derived.Test.YtcpociafcjabkaaGreatDoorPQ
import Derived.Test.YtcpociafcjabkaaGreatDoorLK
set_option linter.unusedSimpArgs false
set_option linter.unusedVariables false
namespace Go.Proofs.YtcpociafcjabkaaGreatDoor
open Go.RowKit

theorem dec_size2 {a : Dec} {n s : Nat} (h : IsDec a n s) : a.ds.size ≤ 60 := by rw [h.ds, numS_size]; exact h.len
theorem cutD_txt (a : ByteArray) (s : Nat) : cutD a s = txtA a s := by
  unfold cutD txtA
  split
  · next h => rw [show ((s : Int) + 1 - (a.size : Int)).toNat = s - a.size + 1 by omega]
  · next h =>
    rw [show ((s : Int) + 1 - (a.size : Int)).toNat = 0 by omega]
    apply bytes_ext
    rw [Joins.data_append, zs_list]
    rfl
theorem whole (t : ByteArray) : t.extract 0 t.size = t := by
  apply bytes_ext
  rw [Lib.extract_data, List.drop_zero, Nat.sub_zero, ← bytes_len, List.take_length]
theorem text_zero (neg : Bool) (a : ByteArray) : textOf ⟨neg, a, 0⟩ = if neg then ⟨#[45]⟩ ++ cutD a 0 else cutD a 0 := by
  unfold textOf txtC txtB
  rw [cutD_txt]
  rfl
theorem text_some (neg : Bool) (a : ByteArray) (s : Nat) (hs : 0 < s) : textOf ⟨neg, a, (s : Int)⟩ = (if neg then ⟨#[45]⟩ ++ (cutD a s).extract 0 ((cutD a s).size - s) else (cutD a s).extract 0 ((cutD a s).size - s)) ++ (⟨#[46]⟩ ++ (cutD a s).extract ((cutD a s).size - s) (cutD a s).size) := by
  unfold textOf txtC txtB
  simp only [Int.toNat_natCast]
  rw [cutD_txt, if_pos hs]
  cases neg with
  | true =>
    apply bytes_ext
    simp only [if_true, Joins.data_append, List.append_assoc]
  | false =>
    apply bytes_ext
    simp only [Bool.false_eq_true, if_false, Joins.data_append, List.append_assoc]

set_option maxRecDepth 100000 in
set_option maxHeartbeats 8000000 in
theorem text_prog (neg : Bool) (a : ByteArray) (s n : Nat) (ha : IsDec ⟨neg, a, (s : Int)⟩ n s) (w : World) :
    Calls Tryz.prog 11 #[.agg #[.bool neg, .string a, .int .i64 (s : Int)]] w fun e w' => e = .returned (.tuple #[.string (textOf ⟨neg, a, (s : Int)⟩), .int .i64 0]) ∧ Below w.heap.size w w' := by
  have za := dec_size2 ha
  simp only at za
  have hs := ha.le
  have cC := check_at ⟨neg, a, (s : Int)⟩ (by unfold maxLen; simp only; omega) 0 (chk_ok ⟨_, _, ha⟩)
  have cT := fun W => cut_call a s (by omega) (by omega) W
  have hsz := cutD_size a s
  by_cases h0 : s = 0
  · subst h0
    have ht := text_zero neg a
    rw [show (((0 : Nat) : Int)) = 0 from rfl] at *
    rw [ht]
    rw [Nat.sub_zero, whole] at cT
    generalize cutD a 0 = K at *
    generalize K.extract K.size K.size = B at cT
    have hK : ¬ 9223372036854775807 < (ByteArray.mk #[45]).size + K.size := by show ¬ 9223372036854775807 < 1 + K.size; omega
    have hK2 : ¬ 9223372036854775807 < 1 + K.size := by omega
    simp only at cC
    clear ha hs hsz ht za
    cases neg with
    | true =>
      go_enter Tryz.func11, Tryz.ntmps11
      go_wp2_with (first
        | (go_at_call 44; refine (cC _ _ (by simp)).mono ?_; rintro e w1 ⟨rfl, b1⟩; have b1 := past (by simp) b1; have HK := Lib.hid (And.intro ((Has.new w (.bool true) (.string a) (.int .i64 0) 23).call b1) (((Below.refl w.heap.size w).alloc (Nat.le_refl _) _).trans (b1.mono (by simp)))); obtain ⟨x0, x1, x2, f0, f1, f2, _⟩ := HK.out.1; clear b1)
        | (go_at_call 45; refine (cT _).mono ?_; rintro e w2 ⟨rfl, b2⟩; obtain ⟨x0, x1, x2, f0, f1, f2, _⟩ := HK.out.1.call b2; have HB := Lib.hid (HK.out.2.trans (b2.mono HK.out.2.size)); clear b2))
      go_ret2
      exact ⟨rfl, HB.out⟩
    | false =>
      go_enter Tryz.func11, Tryz.ntmps11
      go_wp2_with (first
        | (go_at_call 44; refine (cC _ _ (by simp)).mono ?_; rintro e w1 ⟨rfl, b1⟩; have b1 := past (by simp) b1; have HK := Lib.hid (And.intro ((Has.new w (.bool false) (.string a) (.int .i64 0) 23).call b1) (((Below.refl w.heap.size w).alloc (Nat.le_refl _) _).trans (b1.mono (by simp)))); obtain ⟨x0, x1, x2, f0, f1, f2, _⟩ := HK.out.1; clear b1)
        | (go_at_call 45; refine (cT _).mono ?_; rintro e w2 ⟨rfl, b2⟩; obtain ⟨x0, x1, x2, f0, f1, f2, _⟩ := HK.out.1.call b2; have HB := Lib.hid (HK.out.2.trans (b2.mono HK.out.2.size)); clear b2))
      go_ret2
      exact ⟨rfl, HB.out⟩
  · have ht := text_some neg a s (by omega)
    rw [ht]
    have hp : (0 : Int) < (s : Int) := by omega
    have hU : ((cutD a s).extract 0 ((cutD a s).size - s)).size ≤ 1000 := by rw [ByteArray.size_extract]; omega
    have hB : ((cutD a s).extract ((cutD a s).size - s) (cutD a s).size).size ≤ 1000 := by rw [ByteArray.size_extract]; omega
    generalize (cutD a s).extract 0 ((cutD a s).size - s) = U at *
    generalize (cutD a s).extract ((cutD a s).size - s) (cutD a s).size = B at *
    have k1 : ¬ 9223372036854775807 < (ByteArray.mk #[45]).size + U.size := by show ¬ 9223372036854775807 < 1 + U.size; omega
    have k2 : ¬ 9223372036854775807 < (ByteArray.mk #[46]).size + B.size := by show ¬ 9223372036854775807 < 1 + B.size; omega
    have k3 : ¬ 9223372036854775807 < U.size + (ByteArray.mk #[46] ++ B).size := by rw [app_size]; show ¬ 9223372036854775807 < U.size + (1 + B.size); omega
    have k4 : ¬ 9223372036854775807 < (ByteArray.mk #[45] ++ U).size + (ByteArray.mk #[46] ++ B).size := by rw [app_size, app_size]; show ¬ 9223372036854775807 < 1 + U.size + (1 + B.size); omega
    simp only at cC
    clear ha hs hsz ht za h0
    cases neg with
    | true =>
      go_enter Tryz.func11, Tryz.ntmps11
      go_wp2_with (first
        | (go_at_call 44; refine (cC _ _ (by simp)).mono ?_; rintro e w1 ⟨rfl, b1⟩; have b1 := past (by simp) b1; have HK := Lib.hid (And.intro ((Has.new w (.bool true) (.string a) (.int .i64 (s : Int)) 23).call b1) (((Below.refl w.heap.size w).alloc (Nat.le_refl _) _).trans (b1.mono (by simp)))); obtain ⟨x0, x1, x2, f0, f1, f2, _⟩ := HK.out.1; clear b1)
        | (go_at_call 45; refine (cT _).mono ?_; rintro e w2 ⟨rfl, b2⟩; obtain ⟨x0, x1, x2, f0, f1, f2, _⟩ := HK.out.1.call b2; have HB := Lib.hid (HK.out.2.trans (b2.mono HK.out.2.size)); clear b2))
      go_ret2
      exact ⟨rfl, HB.out⟩
    | false =>
      go_enter Tryz.func11, Tryz.ntmps11
      go_wp2_with (first
        | (go_at_call 44; refine (cC _ _ (by simp)).mono ?_; rintro e w1 ⟨rfl, b1⟩; have b1 := past (by simp) b1; have HK := Lib.hid (And.intro ((Has.new w (.bool false) (.string a) (.int .i64 (s : Int)) 23).call b1) (((Below.refl w.heap.size w).alloc (Nat.le_refl _) _).trans (b1.mono (by simp)))); obtain ⟨x0, x1, x2, f0, f1, f2, _⟩ := HK.out.1; clear b1)
        | (go_at_call 45; refine (cT _).mono ?_; rintro e w2 ⟨rfl, b2⟩; obtain ⟨x0, x1, x2, f0, f1, f2, _⟩ := HK.out.1.call b2; have HB := Lib.hid (HK.out.2.trans (b2.mono HK.out.2.size)); clear b2))
      go_ret2
      exact ⟨rfl, HB.out⟩

set_option maxRecDepth 100000 in
set_option maxHeartbeats 4000000 in
theorem p_text (a : Dec) (za : a.ds.size ≤ 400) (w : World) : Calls Tryz.prog 11 #[a.v] w fun e w' => e = .returned (.tuple #[.string (textS a).1, .int .i64 (textS a).2]) ∧ Below w.heap.size w w' := by
  by_cases h : Valid a
  · have hd : textS a = (textOf a, 0) := by unfold textS; rw [if_pos h]
    rw [hd]
    have ha := h.is
    have h1 := h.sc
    clear hd h
    generalize num a = n at *
    generalize scl a = s at *
    obtain ⟨neg, ds, sc⟩ := a
    simp only at h1 za ⊢
    subst h1
    exact text_prog neg ds s n ha w
  · have cC := check_at a (by unfold maxLen; omega) 2 (chk_bad h)
    have hd : textS a = (⟨#[]⟩, 2) := by unfold textS; rw [if_neg h]
    rw [hd]
    obtain ⟨neg, ds, sc⟩ := a
    unfold Dec.v
    simp only at cC za ⊢
    clear hd h
    go_enter Tryz.func11, Tryz.ntmps11
    go_wp2_with fail
    refine (cC _ _ (by simp)).mono ?_
    rintro e w1 ⟨rfl, b1⟩
    have HB := Lib.hid (((Below.refl w.heap.size w).alloc (Nat.le_refl _) _).trans ((past (by simp) b1).mono (by simp)))
    clear b1
    go_wp2
    go_ret2
    exact ⟨rfl, HB.out⟩
end Go.Proofs.YtcpociafcjabkaaGreatDoor

/- The program's Read and Of. -/
namespace Go.Proofs.YtcpociafcjabkaaGreatDoor
open Go.RowKit

theorem index_dot : ∀ l : List UInt8, Lib.index l [46] = if l.findIdx (· == 46) < l.length then ((l.findIdx (· == 46) : Nat) : Int) else -1
  | [] => rfl
  | b :: l => by
    rw [Lib.index, index_dot l, List.findIdx_cons]
    by_cases hb : b = 46
    · subst hb
      simp
    · have h1 : (b == 46) = false := by simpa using hb
      have h2 : List.isPrefixOf [46] (b :: l) = false := by
        simp only [List.isPrefixOf, Bool.and_true]
        exact beq_eq_false_iff_ne.2 fun e => hb e.symm
      rw [h1, h2]
      simp only [cond_false, Bool.false_eq_true, if_false, List.length_cons]
      by_cases hl : l.findIdx (· == 46) < l.length
      · have c1 : ((((l.findIdx (· == 46) : Nat) : Int) == -1) = false) := beq_eq_false_iff_ne.2 (by omega)
        rw [if_pos hl, c1, if_neg (by simp), if_pos (show l.findIdx (· == 46) + 1 < l.length + 1 by omega)]
        rfl
      · rw [if_neg hl, if_neg (show ¬ l.findIdx (· == 46) + 1 < l.length + 1 by omega)]
        rfl
theorem cut_dot (l : List UInt8) : Lib.cut l [46] = if l.findIdx (· == 46) < l.length then (l.take (l.findIdx (· == 46)), l.drop (l.findIdx (· == 46) + 1), true) else (l, [], false) := by
  unfold Lib.cut
  rw [index_dot]
  split
  · next h =>
    rw [if_pos (by omega)]
    simp
  · next h =>
    rw [if_neg (by omega)]
/-- What is read of a text without its sign. -/
theorem body_cut (neg : Bool) (t : ByteArray) : bodyS neg t = finS neg ⟨((Lib.cut t.data.toList [46]).1 ++ (Lib.cut t.data.toList [46]).2.1).toArray⟩ (Lib.cut t.data.toList [46]).2.1.length := by
  rw [cut_dot]
  unfold bodyS ptAt
  rw [← bytes_len]
  by_cases h : t.data.toList.findIdx (· == 46) < t.data.toList.length
  · rw [if_pos h, if_pos h]
    congr 1
    · apply bytes_ext
      rw [Joins.data_append, Lib.extract_data, Lib.extract_data, bytes_mk, List.drop_zero, Nat.sub_zero]
      congr 1
      rw [List.take_of_length_le (by rw [List.length_drop, bytes_len]; omega)]
    · rw [List.length_drop, bytes_len]
      omega
  · rw [if_neg h, if_neg h]
    congr 1
    apply bytes_ext
    rw [bytes_mk, List.append_nil]
theorem one_byte {s : ByteArray} (h : 0 < s.size) : s.data.toList = s[0] :: s.data.toList.drop 1 := by
  have hl : 0 < s.data.toList.length := by rw [bytes_len]; exact h
  rw [byte_at rfl h hl]
  have h2 := List.drop_eq_getElem_cons hl
  rw [List.drop_zero] at h2
  exact h2
theorem read_sign (s : ByteArray) : readS s = bodyS (Lib.hasPrefix s.data.toList [45]) ⟨(Lib.trimPrefix s.data.toList (if Lib.hasPrefix s.data.toList [45] then [45] else [43])).toArray⟩ := by
  unfold readS
  split
  · next h =>
    have h1 := one_byte h
    have hex : s.extract 1 s.size = ⟨(s.data.toList.drop 1).toArray⟩ := by
      apply bytes_ext
      rw [Lib.extract_data, bytes_mk, List.take_of_length_le (by rw [List.length_drop, bytes_len]; omega)]
    by_cases h45 : s[0].toNat = 45
    · have e : s[0] = 45 := UInt8.toNat_inj.1 (by rw [h45]; rfl)
      have hp : Lib.hasPrefix s.data.toList [45] = true := by rw [h1, e]; rfl
      rw [if_pos h45, hp, if_pos rfl, hex]
      unfold Lib.trimPrefix
      rw [hp, if_pos rfl]
      rfl
    · have hp : Lib.hasPrefix s.data.toList [45] = false := by
        rw [h1]
        unfold Lib.hasPrefix
        simp only [List.isPrefixOf, Bool.and_true]
        exact beq_eq_false_iff_ne.2 fun e => h45 (by rw [← e]; rfl)
      rw [if_neg h45, hp]
      simp only [Bool.false_eq_true, if_false]
      by_cases h43 : s[0].toNat = 43
      · have e : s[0] = 43 := UInt8.toNat_inj.1 (by rw [h43]; rfl)
        have hq : Lib.hasPrefix s.data.toList [43] = true := by rw [h1, e]; rfl
        rw [if_pos h43, hex]
        unfold Lib.trimPrefix
        rw [hq, if_pos rfl]
        rfl
      · have hq : Lib.hasPrefix s.data.toList [43] = false := by
          rw [h1]
          unfold Lib.hasPrefix
          simp only [List.isPrefixOf, Bool.and_true]
          exact beq_eq_false_iff_ne.2 fun e => h43 (by rw [← e]; rfl)
        rw [if_neg h43]
        unfold Lib.trimPrefix
        rw [hq]
        simp
  · next h =>
    have hs : s.data.toList = [] := by
      have := bytes_len s
      exact List.eq_nil_of_length_eq_zero (by omega)
    have e : s = ⟨#[]⟩ := bytes_ext hs
    rw [e]
    rfl

set_option maxRecDepth 100000 in
set_option maxHeartbeats 4000000 in
theorem p_read (s : ByteArray) (hs : s.size ≤ 400) (w : World) (hT : Tabs w) : Calls Tryz.prog 9 #[.string s] w fun e w' => e = .returned (readS s).v ∧ Below w.heap.size w w' := by
  have cP := fun W => Tryz.strings_CutPrefix s ⟨#[45]⟩ W
  have cT := fun W => Tryz.strings_TrimPrefix s ⟨#[43]⟩ W
  rw [show (ByteArray.mk #[45]).data.toList = [45] from rfl] at cP
  rw [show (ByteArray.mk #[43]).data.toList = [43] from rfl] at cT
  rw [read_sign]
  obtain ⟨q, hq⟩ : ∃ q, Lib.hasPrefix s.data.toList [45] = q := ⟨_, rfl⟩
  have hpre : ∀ p, (Lib.trimPrefix s.data.toList p).length ≤ 400 := fun p => by
    unfold Lib.trimPrefix
    split
    · rw [List.length_drop, bytes_len]; omega
    · rw [bytes_len]; exact hs
  obtain ⟨m, hm⟩ := hT.maxl
  have hw6 := hT.size
  cases q with
  | true =>
    rw [hq] at cP ⊢
    simp only [if_true]
    have hl := hpre [45]
    generalize Lib.trimPrefix s.data.toList [45] = T at cP hl ⊢
    clear cT hq hpre
    rw [body_cut, bytes_mk]
    have cC := fun W hW => Tryz.strings_Cut ⟨T.toArray⟩ ⟨#[46]⟩ m W (by rw [bytes_mk_size]; omega) hW
    rw [bytes_mk, show (ByteArray.mk #[46]).data.toList = [46] from rfl] at cC
    have hlen : (Lib.cut T [46]).1.length + (Lib.cut T [46]).2.1.length ≤ 400 := by
      rw [cut_dot]
      split
      · simp only [List.length_take, List.length_drop]; omega
      · simp only [List.length_nil]; omega
    generalize (Lib.cut T [46]).2.2 = fl at cC
    generalize (Lib.cut T [46]).1 = Wh at cC hlen ⊢
    generalize (Lib.cut T [46]).2.1 = Be at cC hlen ⊢
    have hcat : (ByteArray.mk Wh.toArray) ++ (ByteArray.mk Be.toArray) = ⟨(Wh ++ Be).toArray⟩ := by
      apply bytes_ext
      rw [Joins.data_append, bytes_mk, bytes_mk, bytes_mk]
    have hAz : (ByteArray.mk (Wh ++ Be).toArray).size ≤ 400 := by rw [bytes_mk_size, List.length_append]; exact hlen
    have y1 : ¬ 9223372036854775807 < (ByteArray.mk Wh.toArray).size + (ByteArray.mk Be.toArray).size := by rw [bytes_mk_size, bytes_mk_size]; omega
    have hBz : (ByteArray.mk Be.toArray).size = Be.length := bytes_mk_size Be
    have hBn : Be.length ≤ 400 := by omega
    generalize ByteArray.mk (Wh ++ Be).toArray = A at *
    generalize ByteArray.mk Wh.toArray = WB at *
    generalize ByteArray.mk Be.toArray = BB at *
    generalize ByteArray.mk T.toArray = TB at *
    rw [← hBz] at hBn ⊢
    have cA := fun W => pdigits_any A (by unfold maxLen; omega) W
    have HM := Lib.hid hm
    unfold finS
    by_cases hd : digB A.data.toList = true
    · rw [hd] at cA
      rw [if_pos hd]
      have cD := fun W => decimalOf_call true A BB.size ((digB_iff _).1 hd).1 (by omega) (by omega) W
      rw [← ofOpt_v]
      unfold decR at cD ⊢
      generalize (mkDec true (val A.data.toList) BB.size).getD decNil = d at cD ⊢
      generalize (if (mkDec true (val A.data.toList) BB.size).isSome then (0 : Int) else 7) = qq at cD ⊢
      obtain ⟨dn, dd, dsc⟩ := d
      simp only [Dec.v] at cD ⊢
      clear hd hm hl hlen hBz
      go_enter Tryz.func9, Tryz.ntmps9
      go_wp2_with (first
        | (go_at_call 37; refine (cP _).mono ?_; rintro e w1 ⟨rfl, rfl⟩)
        | (go_at_call 38; refine (cT _).mono ?_; rintro e w1 ⟨rfl, rfl⟩)
        | (go_at_call 39; refine (cC _ (by rw [World.cell?_alloc_past _ _ _ (show 0 < w.heap.size by omega)]; exact HM.out)).mono ?_; rintro e w1 ⟨rfl, nd, rfl⟩)
        | (go_at_call 40; refine (cA _).mono ?_; rintro e w2 ⟨rfl, rfl⟩)
        | (go_at_call 41; refine (cD _).mono ?_; rintro e w3 ⟨rfl, b3⟩; obtain ⟨r0, r1, r2, g0, g1, g2, hB, hz⟩ := one_all ((below_drewN (Below.refl _ _) nd).trans b3); have HB := Lib.hid hB; clear b3 hB))
      exact bodyPost_ret (v := .tuple #[.agg #[.bool dn, .string dd, .int .i64 dsc], .int .i64 qq]) (by simp [results, Tryz.results9, go_sem, r0, r1, r2]) rfl ⟨rfl, ((HB.out.setCell (by simp) _).setCell (by simp) _).setCell (by simp) _⟩
    · have hd2 : digB A.data.toList = false := by simpa using hd
      rw [hd2] at cA
      rw [if_neg hd]
      unfold DRes.v decNil Dec.v
      simp only
      clear hd hd2 hm hl hlen hBz
      go_enter Tryz.func9, Tryz.ntmps9
      go_wp2_with (first
        | (go_at_call 37; refine (cP _).mono ?_; rintro e w1 ⟨rfl, rfl⟩)
        | (go_at_call 38; refine (cT _).mono ?_; rintro e w1 ⟨rfl, rfl⟩)
        | (go_at_call 39; refine (cC _ (by rw [World.cell?_alloc_past _ _ _ (show 0 < w.heap.size by omega)]; exact HM.out)).mono ?_; rintro e w1 ⟨rfl, nd, rfl⟩)
        | (go_at_call 40; refine (cA _).mono ?_; rintro e w2 ⟨rfl, rfl⟩))
      exact bodyPost_ret (v := .tuple #[.agg #[.bool false, .string ⟨#[]⟩, .int .i64 0], .int .i64 6]) (by simp [results, Tryz.results9, go_sem]) rfl ⟨rfl, (((below_drewN ((Below.refl _ _).alloc (Nat.le_refl _) _) nd).setCell (by simp) _).setCell (by simp) _).setCell (by simp) _⟩
  | false =>
    rw [hq] at cP ⊢
    simp only [Bool.false_eq_true, if_false]
    have hl := hpre [43]
    generalize Lib.trimPrefix s.data.toList [43] = T at cT hl ⊢
    generalize ByteArray.mk (Lib.trimPrefix s.data.toList [45]).toArray = T0 at cP
    clear hq hpre
    rw [body_cut, bytes_mk]
    have cC := fun W hW => Tryz.strings_Cut ⟨T.toArray⟩ ⟨#[46]⟩ m W (by rw [bytes_mk_size]; omega) hW
    rw [bytes_mk, show (ByteArray.mk #[46]).data.toList = [46] from rfl] at cC
    have hlen : (Lib.cut T [46]).1.length + (Lib.cut T [46]).2.1.length ≤ 400 := by
      rw [cut_dot]
      split
      · simp only [List.length_take, List.length_drop]; omega
      · simp only [List.length_nil]; omega
    generalize (Lib.cut T [46]).2.2 = fl at cC
    generalize (Lib.cut T [46]).1 = Wh at cC hlen ⊢
    generalize (Lib.cut T [46]).2.1 = Be at cC hlen ⊢
    have hcat : (ByteArray.mk Wh.toArray) ++ (ByteArray.mk Be.toArray) = ⟨(Wh ++ Be).toArray⟩ := by
      apply bytes_ext
      rw [Joins.data_append, bytes_mk, bytes_mk, bytes_mk]
    have hAz : (ByteArray.mk (Wh ++ Be).toArray).size ≤ 400 := by rw [bytes_mk_size, List.length_append]; exact hlen
    have y1 : ¬ 9223372036854775807 < (ByteArray.mk Wh.toArray).size + (ByteArray.mk Be.toArray).size := by rw [bytes_mk_size, bytes_mk_size]; omega
    have hBz : (ByteArray.mk Be.toArray).size = Be.length := bytes_mk_size Be
    have hBn : Be.length ≤ 400 := by omega
    generalize ByteArray.mk (Wh ++ Be).toArray = A at *
    generalize ByteArray.mk Wh.toArray = WB at *
    generalize ByteArray.mk Be.toArray = BB at *
    generalize ByteArray.mk T.toArray = TB at *
    rw [← hBz] at hBn ⊢
    have cA := fun W => pdigits_any A (by unfold maxLen; omega) W
    have HM := Lib.hid hm
    unfold finS
    by_cases hd : digB A.data.toList = true
    · rw [hd] at cA
      rw [if_pos hd]
      have cD := fun W => decimalOf_call false A BB.size ((digB_iff _).1 hd).1 (by omega) (by omega) W
      rw [← ofOpt_v]
      unfold decR at cD ⊢
      generalize (mkDec false (val A.data.toList) BB.size).getD decNil = d at cD ⊢
      generalize (if (mkDec false (val A.data.toList) BB.size).isSome then (0 : Int) else 7) = qq at cD ⊢
      obtain ⟨dn, dd, dsc⟩ := d
      simp only [Dec.v] at cD ⊢
      clear hd hm hl hlen hBz
      go_enter Tryz.func9, Tryz.ntmps9
      go_wp2_with (first
        | (go_at_call 37; refine (cP _).mono ?_; rintro e w1 ⟨rfl, rfl⟩)
        | (go_at_call 38; refine (cT _).mono ?_; rintro e w1 ⟨rfl, rfl⟩)
        | (go_at_call 39; refine (cC _ (by rw [World.cell?_alloc_past _ _ _ (show 0 < w.heap.size by omega)]; exact HM.out)).mono ?_; rintro e w1 ⟨rfl, nd, rfl⟩)
        | (go_at_call 40; refine (cA _).mono ?_; rintro e w2 ⟨rfl, rfl⟩)
        | (go_at_call 41; refine (cD _).mono ?_; rintro e w3 ⟨rfl, b3⟩; obtain ⟨r0, r1, r2, g0, g1, g2, hB, hz⟩ := one_all ((below_drewN (Below.refl _ _) nd).trans b3); have HB := Lib.hid hB; clear b3 hB))
      exact bodyPost_ret (v := .tuple #[.agg #[.bool dn, .string dd, .int .i64 dsc], .int .i64 qq]) (by simp [results, Tryz.results9, go_sem, r0, r1, r2]) rfl ⟨rfl, ((HB.out.setCell (by simp) _).setCell (by simp) _).setCell (by simp) _⟩
    · have hd2 : digB A.data.toList = false := by simpa using hd
      rw [hd2] at cA
      rw [if_neg hd]
      unfold DRes.v decNil Dec.v
      simp only
      clear hd hd2 hm hl hlen hBz
      go_enter Tryz.func9, Tryz.ntmps9
      go_wp2_with (first
        | (go_at_call 37; refine (cP _).mono ?_; rintro e w1 ⟨rfl, rfl⟩)
        | (go_at_call 38; refine (cT _).mono ?_; rintro e w1 ⟨rfl, rfl⟩)
        | (go_at_call 39; refine (cC _ (by rw [World.cell?_alloc_past _ _ _ (show 0 < w.heap.size by omega)]; exact HM.out)).mono ?_; rintro e w1 ⟨rfl, nd, rfl⟩)
        | (go_at_call 40; refine (cA _).mono ?_; rintro e w2 ⟨rfl, rfl⟩))
      exact bodyPost_ret (v := .tuple #[.agg #[.bool false, .string ⟨#[]⟩, .int .i64 0], .int .i64 6]) (by simp [results, Tryz.results9, go_sem]) rfl ⟨rfl, (((below_drewN ((Below.refl _ _).alloc (Nat.le_refl _) _) nd).setCell (by simp) _).setCell (by simp) _).setCell (by simp) _⟩

theorem no_byte {l : List UInt8} (h : AllD l) (c : UInt8) (hc : c.toNat < 48) : Lib.hasPrefix l [c] = false := by
  unfold Lib.hasPrefix
  cases l with
  | nil => rfl
  | cons d l =>
    simp only [List.isPrefixOf, Bool.and_true]
    refine beq_eq_false_iff_ne.2 fun e => ?_
    have := h.head
    rw [← e] at this
    omega
theorem no_dot {l : List UInt8} (h : AllD l) : Lib.cut l [46] = (l, [], false) := by
  rw [cut_dot, if_neg]
  intro hlt
  have h2 := List.findIdx_getElem (p := (· == (46 : UInt8))) (xs := l) (w := hlt)
  have h3 := h _ (List.getElem_mem hlt)
  have h4 := eq_of_beq h2
  rw [h4] at h3
  have : (46 : UInt8).toNat = 46 := rfl
  omega
theorem body_digs (neg : Bool) (u : Nat) (hu : u < 10 ^ 20) : bodyS neg ⟨(digs u).toArray⟩ = ⟨if u = 0 then decZero else ⟨neg, numS u, 0⟩, 0⟩ := by
  rw [body_cut, bytes_mk, no_dot (digs_all u)]
  unfold finS
  rw [if_pos (by rw [bytes_mk, List.append_nil]; exact (digB_iff _).2 ⟨digs_all u, digs_ne u⟩), bytes_mk, List.append_nil, digs_val]
  unfold mkDec
  by_cases h0 : u = 0
  · rw [if_pos h0, if_pos h0]
    rfl
  · have hl := digs_len_le hu (by omega)
    rw [if_neg h0, if_neg h0, List.length_nil, strip_zero, if_neg (by simp only; omega)]
    rfl
theorem read_itoa (n : Int) (h0 : -9223372036854775808 ≤ n) (h1 : n ≤ 9223372036854775807) : readS ⟨(Lib.itoa n).toArray⟩ = ⟨ofSpec n, 0⟩ := by
  rw [read_sign, bytes_mk]
  unfold ofSpec
  rcases Int.lt_or_le n 0 with h | h
  · obtain ⟨u, rfl⟩ : ∃ u : Nat, n = -(u : Int) := ⟨n.natAbs, by omega⟩
    rw [Lib.itoa_neg u (by omega), decDigits_digs]
    have hp : Lib.hasPrefix (45 :: digs u) [45] = true := rfl
    rw [hp, if_pos rfl]
    unfold Lib.trimPrefix
    rw [hp, if_pos rfl]
    show bodyS true ⟨(digs u).toArray⟩ = _
    rw [body_digs true u (by omega), if_neg (by omega), if_neg (by omega), decide_eq_true h, Int.natAbs_neg, Int.natAbs_natCast]
  · obtain ⟨u, rfl⟩ : ∃ u : Nat, n = (u : Int) := ⟨n.toNat, by omega⟩
    rw [itoa_digs, no_byte (digs_all u) 45 (by decide)]
    simp only [Bool.false_eq_true, if_false]
    unfold Lib.trimPrefix
    rw [no_byte (digs_all u) 43 (by decide)]
    simp only [Bool.false_eq_true, if_false]
    rw [body_digs false u (by omega)]
    by_cases hu : u = 0
    · rw [if_pos hu, if_pos (by omega)]
    · rw [if_neg hu, if_neg (by omega), decide_eq_false (by omega), Int.natAbs_natCast]
set_option maxRecDepth 100000 in
set_option maxHeartbeats 4000000 in
theorem p_of (n : Int) (h0 : -9223372036854775808 ≤ n) (h1 : n ≤ 9223372036854775807) (w : World) (hT : Tabs w) : Calls Tryz.prog 15 #[.int .i64 n] w fun e w' => e = .returned (ofSpec n).v ∧ Below w.heap.size w w' := by
  have cF := fun W hW => format_call n h0 h1 W hW
  have hlen : (Lib.itoa n).length ≤ 21 := by
    rcases Int.lt_or_le n 0 with h | h
    · obtain ⟨u, rfl⟩ : ∃ u : Nat, n = -(u : Int) := ⟨n.natAbs, by omega⟩
      rw [Lib.itoa_neg u (by omega), decDigits_digs, List.length_cons]
      have := digs_len_le (n := u) (k := 20) (by omega) (by omega)
      omega
    · obtain ⟨u, rfl⟩ : ∃ u : Nat, n = (u : Int) := ⟨n.toNat, by omega⟩
      rw [itoa_digs]
      have := digs_len_le (n := u) (k := 20) (by omega) (by omega)
      omega
  have cR := fun W hW => p_read ⟨(Lib.itoa n).toArray⟩ (by rw [bytes_mk_size]; omega) W hW
  rw [read_itoa n h0 h1] at cR
  generalize ByteArray.mk (Lib.itoa n).toArray = S at cF cR
  generalize ofSpec n = d at cR ⊢
  obtain ⟨dn, dd, dsc⟩ := d
  unfold DRes.v Dec.v at cR
  unfold Dec.v
  simp only at cR ⊢
  have HT := Lib.hid hT
  clear hT hlen
  go_enter Tryz.func15, Tryz.ntmps15
  go_wp2_with (first
    | (go_at_call 47; refine (cF _ (HT.out.next ((Below.refl _ _).alloc (Nat.le_refl _) _))).mono ?_; rintro e w1 ⟨rfl, b1⟩; have B1 := Lib.hid b1; clear b1)
    | (go_at_call 9; refine (cR _ ((HT.out.next ((Below.refl _ _).alloc (Nat.le_refl _) _)).next B1.out)).mono ?_; rintro e w2 ⟨rfl, b2⟩; have b12 := B1.out.trans (b2.mono B1.out.size); obtain ⟨r0, r1, r2, g0, g1, g2, _⟩ := ((Has.new w (.bool false) (.string ⟨#[]⟩) (.int .i64 0) 23).call b12).alloc (.cells #[.bool dn, .string dd, .int .i64 dsc] 23); have HB := Lib.hid ((((Below.refl w.heap.size w).alloc (Nat.le_refl _) _).trans (b12.mono (by simp))).alloc (by have := b12.size; simp at this; omega) (.cells #[.bool dn, .string dd, .int .i64 dsc] 23)); clear b2 b12))
  exact bodyPost_ret (v := .agg #[.bool dn, .string dd, .int .i64 dsc]) (by simp [results, Tryz.results15, go_sem, r0, r1, r2]) rfl ⟨rfl, ((HB.out.setCell (by simp) _).setCell (by simp) _).setCell (by simp) _⟩
end Go.Proofs.YtcpociafcjabkaaGreatDoor

/- Whether a number of the program is odd; what is kept and what is left when a number is cut. -/
namespace Go.Proofs.YtcpociafcjabkaaGreatDoor
open Go.RowKit

theorem part_odd (n : Nat) : (part n 0) % 2 = n % 2 := by
  unfold part
  omega

set_option maxRecDepth 100000 in
set_option maxHeartbeats 4000000 in
theorem odd_call (n : Nat) (w : World) : Calls Tryz.prog 66 #[natV n] w fun e w' => e = .returned (.bool (decide (n % 2 = 1))) ∧ Below w.heap.size w w' := by
  have hc := (Blk.new w (ptsOf n)).cell (p := 0) (by omega)
  have hp := part_odd n
  have hpl := part_lt n 0
  show Calls Tryz.prog 66 #[.agg (natL (ptsOf n)).toArray] w _
  unfold ptsOf at hc
  unfold ptsOf
  generalize part n 0 = q at *
  obtain ⟨X, hX⟩ : ∃ X, (natL fun p => (part n p : Int)).toArray = X := ⟨_, rfl⟩
  rw [hX] at hc ⊢
  clear hX
  go_enter Tryz.func66, Tryz.ntmps66
  go_wp2
  go_ret
  refine ⟨?_, (Below.refl _ _).alloc (Nat.le_refl _) _⟩
  have e : ((q : Int) % 2 == 1) = decide (n % 2 = 1) := by
    by_cases h : n % 2 = 1
    · rw [decide_eq_true h, beq_iff_eq]
      omega
    · rw [decide_eq_false h, beq_eq_false_iff_ne]
      omega
  show Ending.returned (Value.bool ((q : Int) % 2 == 1)) = _
  rw [e]
-- _ _).alloc (Nat.le_refl _) _⟩

theorem val_inj : ∀ (a b : List UInt8), a.length = b.length → AllD a → AllD b → val a = val b → a = b
  | [], [], _, _, _, _ => rfl
  | [], _ :: _, h, _, _, _ => by simp at h
  | _ :: _, [], h, _, _, _ => by simp at h
  | c :: a, d :: b, h, ha, hb, hv => by
    have hl : a.length = b.length := by simpa using h
    have e1 : val (c :: a) = dg c * 10 ^ a.length + val a := val_cons c a
    have e2 : val (d :: b) = dg d * 10 ^ a.length + val b := by rw [hl]; exact val_cons d b
    have h1 := val_lt ha.tail
    have h2 := val_lt hb.tail
    rw [← hl] at h2
    rw [e1, e2] at hv
    have hp : 0 < 10 ^ a.length := Nat.pow_pos (by omega)
    have hd : dg c = dg d := by
      have q1 : (dg c * 10 ^ a.length + val a) / 10 ^ a.length = dg c := by rw [Nat.mul_comm, Nat.mul_add_div hp, Nat.div_eq_of_lt h1, Nat.add_zero]
      have q2 : (dg d * 10 ^ a.length + val b) / 10 ^ a.length = dg d := by rw [Nat.mul_comm, Nat.mul_add_div hp, Nat.div_eq_of_lt h2, Nat.add_zero]
      rw [← q1, ← q2, hv]
    have hv2 : val a = val b := by rw [hd] at hv; omega
    have e3 : c = d := by
      have k1 := dg_eq c ha.head.1
      have k2 := dg_eq d hb.head.1
      have k3 := ha.head.1
      have k4 := hb.head.1
      apply UInt8.toNat_inj.1
      omega
    rw [e3, val_inj a b hl ha.tail hb.tail hv2]

/-- What is kept of a number, and what is left. -/
theorem cut_facts {a : ByteArray} {n : Nat} (h : IsNum a n) (hz : a.size ≤ 60) (j : Nat) (hj : j ≤ 60) : ∃ U B : ByteArray, (cutD a j).extract 0 ((cutD a j).size - j) = U ∧ (cutD a j).extract ((cutD a j).size - j) (cutD a j).size = B ∧
    AllD U.data.toList ∧ val U.data.toList = n / 10 ^ j ∧ U.size ≤ 61 ∧ AllD B.data.toList ∧ val B.data.toList = n % 10 ^ j ∧ B.size = j := by
  have hT : (cutD a j).data.toList = List.replicate ((j : Int) + 1 - (a.size : Int)).toNat 48 ++ a.data.toList := by
    unfold cutD
    rw [Joins.data_append, zs_list]
  have hall : AllD (cutD a j).data.toList := by rw [hT]; exact (AllD.zeros _).append h.all
  have hv : val (cutD a j).data.toList = n := by rw [hT, val_append, val_zeros, Nat.zero_mul, Nat.zero_add, h.val]
  have hs := cutD_size a j
  have hl := bytes_len (cutD a j)
  generalize cutD a j = T at *
  obtain ⟨k, hk⟩ : ∃ k, T.size - j = k := ⟨_, rfl⟩
  have e1 := upto_list T k
  have e2 := from_list T k
  rw [hk]
  have hd : T.data.toList.take k ++ T.data.toList.drop k = T.data.toList := List.take_append_drop _ _
  have hdl : (T.data.toList.drop k).length = j := by rw [List.length_drop]; omega
  have hA1 : AllD (T.data.toList.take k) := fun c hc => hall c (List.mem_of_mem_take hc)
  have hA2 : AllD (T.data.toList.drop k) := fun c hc => hall c (List.mem_of_mem_drop hc)
  have hsum := val_append (T.data.toList.take k) (T.data.toList.drop k)
  rw [hd, hv, hdl] at hsum
  have hlt := val_lt hA2
  rw [hdl] at hlt
  have hp : 0 < 10 ^ j := Nat.pow_pos (by omega)
  refine ⟨_, _, rfl, rfl, by rw [e1]; exact hA1, ?_, by rw [ByteArray.size_extract]; omega, by rw [e2]; exact hA2, ?_, by rw [ByteArray.size_extract]; omega⟩
  · rw [e1, hsum, Nat.mul_comm, Nat.mul_add_div hp, Nat.div_eq_of_lt hlt, Nat.add_zero]
  · rw [e2, hsum, Nat.mul_comm, Nat.mul_add_mod, Nat.mod_eq_of_lt hlt]

/-- The half of a unit. -/
theorem half_facts (j : Nat) (hj : 0 < j) : ∃ H : ByteArray, (⟨#[53]⟩ : ByteArray) ++ zs (((j : Int) - 1)).toNat = H ∧ AllD H.data.toList ∧ val H.data.toList + val H.data.toList = 10 ^ j ∧ H.size = j := by
  obtain ⟨i, rfl⟩ : ∃ i, j = i + 1 := ⟨j - 1, by omega⟩
  have e : (((i + 1 : Nat) : Int) - 1).toNat = i := by omega
  rw [e]
  refine ⟨_, rfl, ?_, ?_, ?_⟩
  · rw [Joins.data_append, zs_list]
    exact (AllD.cons (by decide) AllD.nil).append (AllD.zeros _)
  · rw [Joins.data_append, zs_list, val_append, val_zeros, List.length_replicate, Nat.add_zero, show val (ByteArray.mk #[53]).data.toList = 5 by rfl, Nat.pow_succ]
    omega
  · rw [app_size, zs_size]
    exact Nat.add_comm 1 i

/-- Texts of the same length, by what they say. -/
theorem cmp_texts {B H : ByteArray} {j : Nat} (hB : AllD B.data.toList) (hH : AllD H.data.toList) (zB : B.size = j) (zH : H.size = j) :
    Op.bytesLess B.toList H.toList = decide (val B.data.toList < val H.data.toList) ∧ (B.toList == H.toList) = decide (val B.data.toList = val H.data.toList) := by
  have h := bytesLess_val B.data.toList H.data.toList (by rw [bytes_len, bytes_len, zB, zH]) hB hH
  rw [Lib.toList_data, Lib.toList_data]
  refine ⟨h, ?_⟩
  by_cases e : B.data.toList = H.data.toList
  · rw [e]
    simp
  · have hne : val B.data.toList ≠ val H.data.toList := fun hv => e (val_inj _ _ (by rw [bytes_len, bytes_len, zB, zH]) hB hH hv)
    rw [decide_eq_false hne]
    exact beq_eq_false_iff_ne.2 e
end Go.Proofs.YtcpociafcjabkaaGreatDoor
