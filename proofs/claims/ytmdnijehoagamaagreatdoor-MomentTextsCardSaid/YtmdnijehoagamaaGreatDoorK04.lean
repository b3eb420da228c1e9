/- Z -/
import Derived.Test.YtmdnijehoagamaaGreatDoorK03
set_option linter.unusedVariables false
set_option linter.unusedSimpArgs false
namespace Go.Proofs.YtmdnijehoagamaaGreatDoor
set_option maxRecDepth 100000
set_option maxHeartbeats 4000000
open Go.RowKit
def ptAt (t : ByteArray) : Nat := t.data.toList.findIdx (· == 46)
def finV (neg : Bool) (a : ByteArray) (sc : Nat) : Value := if digB a.data.toList then decR (mkDec neg (val a.data.toList) sc) else .tuple #[decNil.v, .int .i64 6]
def readV (neg : Bool) (t : ByteArray) : Value := if ptAt t < t.size then finV neg (t.extract 0 (ptAt t) ++ t.extract (ptAt t + 1) t.size) (t.size - ptAt t - 1) else finV neg t 0
def readSpec (s : ByteArray) : Value :=
 if h : 0 < s.size then
  if s[0].toNat = 45 then readV true (s.extract 1 s.size) else if s[0].toNat = 43 then readV false (s.extract 1 s.size) else readV false s
 else readV false s
theorem ptAt_le (t : ByteArray) : ptAt t ≤ t.size := by
 unfold ptAt
 rw [← bytes_len]
 exact List.findIdx_le_length
theorem ptAt_is {t : ByteArray} (h : ptAt t < t.size) : t[ptAt t].toNat = 46 := by
 have h1 : ptAt t < t.data.toList.length := by rw [bytes_len]; exact h
 have h2 := List.findIdx_getElem (p := (· == 46)) (xs := t.data.toList) (w := h1)
 rw [byte_at rfl h h1]
 have h3 := eq_of_beq h2
 show (t.data.toList[t.data.toList.findIdx (· == 46)]).toNat = 46
 rw [h3]
 rfl
theorem ptAt_not {t : ByteArray} {k : Nat} (h : k < ptAt t) (hk : k < t.size) : t[k].toNat ≠ 46 := by
 have h1 : k < t.data.toList.length := by rw [bytes_len]; exact hk
 have h2 := List.not_of_lt_findIdx (p := (· == (46 : UInt8))) (xs := t.data.toList) h
 rw [byte_at rfl hk h1]
 intro e
 have h3 : t.data.toList[k] = 46 := UInt8.toNat_inj.1 (by rw [e]; rfl)
 rw [h3] at h2
 cases h2
theorem join_size (t : ByteArray) (i : Nat) (h : i < t.size) : (t.extract 0 i ++ t.extract (i + 1) t.size).size = t.size - 1 := by
 rw [app_size, ByteArray.size_extract, ByteArray.size_extract]
 omega
theorem ne_empty {s : ByteArray} (h : 0 < s.size) : s.toList.isEmpty = false := by
 rw [Lib.toList_data]
 have := bytes_len s
 cases hl : s.data.toList with
 | nil => rw [hl] at this; simp at this; omega
 | cons => rfl
theorem is_empty {s : ByteArray} (h : s.size = 0) : s.toList.isEmpty = true := by
 rw [Lib.toList_data]
 have := bytes_len s
 cases hl : s.data.toList with
 | nil => rfl
 | cons => rw [hl] at this; simp at this; omega
theorem read_m (s : ByteArray) (hs : s.size ≤ 50000) (hp : 0 < s.size) (h0 : (s[0].toNat : Int) = 45) (t : ByteArray) (ht : s.extract 1 s.size = t) (w : World) :
  Calls Tryz.prog 27 #[.string s] w fun e w' => e = .returned (readV true t) ∧ Below w.heap.size w w' := by
 have hE : s.toList.isEmpty = false := ne_empty hp
 have b0 : ((s[0].toNat : Int) == 45) = true := beq_iff_eq.2 h0
 have hp1 : (1 : Int) ≤ (s.size : Int) := by omega
 have htz : t.size ≤ 50000 := by rw [← ht, ByteArray.size_extract]; omega
 obtain ⟨R, hR⟩ : ∃ R, readV true t = R := ⟨_, rfl⟩
 rw [hR]
 have HR := Lib.hid hR
 clear hR
 obtain ⟨F, hF⟩ : ∃ F, ptAt t = F := ⟨_, rfl⟩
 have HF := Lib.hid hF
 have hFz : F ≤ t.size := by rw [← hF]; exact ptAt_le _
 obtain ⟨A, hA⟩ : ∃ A, t.extract 0 F ++ t.extract (F + 1) t.size = A := ⟨_, rfl⟩
 have HA := Lib.hid hA
 clear hF hA
 go_enter Tryz.func27, Tryz.ntmps27
 go_wp2
 go_quiet (fail)
 go_wp2
 clear hp h0 hE b0 ht hp1 hs
 go_loopg [5, 6, 7, 8] (t.size + 1) (fun gk v5 v6 v7 v8 wr => ∃ k : Nat, v8 = .int .i64 (k : Int) ∧ k ≤ t.size ∧ gk + k = t.size + 1 ∧ ((F < k ∧ v7 = .bool true ∧ v5 = .string A ∧ v6 = .int .i64 ((t.size - F - 1 : Nat) : Int)) ∨ (k ≤ F ∧ v7 = .bool false ∧ v5 = .string ⟨#[]⟩ ∧ v6 = .int .i64 0)) ∧ Below (w.alloc (.cells #[.bool false, .string ⟨#[]⟩, .int .i64 0] 23)).heap.size (w.alloc (.cells #[.bool false, .string ⟨#[]⟩, .int .i64 0] 23)) wr)
 case atStart => exact ⟨0, rfl, Nat.zero_le _, rfl, .inr ⟨Nat.zero_le _, rfl, rfl, rfl⟩, below_drewN (Below.refl _ _) _⟩
 case round =>
  obtain ⟨k, rfl, hk, hgk, hst, hB⟩ := hrel
  by_cases hlt : k < t.size
  ·have hlti : (k : Int) < (t.size : Int) := by omega
   rcases hst with ⟨hFk, rfl, rfl, rfl⟩ | ⟨hkF, rfl, rfl, rfl⟩
   ·by_cases h46 : (t[k].toNat : Int) = 46
    ·have b46 : ((t[k].toNat : Int) == 46) = true := beq_iff_eq.2 h46
     clear h46
     go_wp2
     go_roundg (gk - 1)
     case measure => omega
     case rel => exact ⟨k + 1, by go_num, by omega, by omega, .inl ⟨by omega, rfl, rfl, rfl⟩, hB⟩
    ·have b46 : ((t[k].toNat : Int) == 46) = false := beq_eq_false_iff_ne.2 h46
     clear h46
     go_wp2
     go_roundg (gk - 1)
     case measure => omega
     case rel => exact ⟨k + 1, by go_num, by omega, by omega, .inl ⟨by omega, rfl, rfl, rfl⟩, hB⟩
   ·by_cases hkF2 : k = F
    ·subst hkF2
     have h46 : t[k].toNat = 46 := by
      have h := ptAt_is (t := t) (by rw [HF.out]; exact hlt)
      have e : ptAt t = k := HF.out
      simp only [e] at h
      exact h
     have b46 : ((t[k].toNat : Int) == 46) = true := beq_iff_eq.2 (by omega)
     have s1 : (k : Int) + 1 ≤ (t.size : Int) := by omega
     have s2 : (k : Int) ≤ (t.size : Int) := by omega
     clear h46
     go_wp2
     go_quiet (fail)
     go_wp2
     go_roundg (gk - 1)
     case measure => omega
     case rel => exact ⟨k + 1, by go_num, by omega, by omega, .inl ⟨by omega, rfl, by rw [← HA.out], by first | go_num | (congr 1; omega)⟩, below_drewN hB _⟩
    ·have h46 : ¬ (t[k].toNat : Int) = 46 := by
      have h := ptAt_not (t := t) (k := k) (by rw [HF.out]; omega) hlt
      omega
     have b46 : ((t[k].toNat : Int) == 46) = false := beq_eq_false_iff_ne.2 h46
     clear h46
     go_wp2
     go_roundg (gk - 1)
     case measure => omega
     case rel => exact ⟨k + 1, by go_num, by omega, by omega, .inr ⟨by omega, rfl, rfl, rfl⟩, hB⟩
  ·obtain rfl : k = t.size := by omega
   rcases hst with ⟨hFk, rfl, rfl, rfl⟩ | ⟨hkF, rfl, rfl, rfl⟩
   ·have HV : Hid (R = finV true A (t.size - F - 1)) := by
     show _ = _
     rw [← HR.out, ← HA.out]
     unfold readV
     rw [HF.out, if_pos hFk]
    have za : A.size ≤ 50000 := by rw [← HA.out, join_size _ _ hFk]; omega
    obtain ⟨sc, hsc⟩ : ∃ sc, t.size - F - 1 = sc := ⟨_, rfl⟩
    rw [hsc] at HV ⊢
    have hsc5 : sc ≤ 50000 := by omega
    clear hsc HR HF HA hgk hFz hFk hlt hk
    have cD := fun W => rdigits_any A (by unfold maxLen; omega) W
    obtain ⟨q, hq⟩ : ∃ q, digB A.data.toList = q := ⟨_, rfl⟩
    unfold finV at HV
    have HV2 := HV.out
    rw [hq] at cD HV2
    cases q with
    | false =>
     have HV3 := Lib.hid HV2
     clear HV HV2 hq za
     go_wp2_with fail
     refine (cD _).mono ?_
     rintro e w1 ⟨rfl, rfl⟩
     obtain ⟨r0, r1, r2, f0, f1, f2, hB2, hz⟩ := one_all hB
     have HB2 := Lib.hid hB2
     clear hB hB2 cD
     go_wp2
     exact bodyPost_ret (v := .tuple #[.agg #[.bool false, .string ⟨#[]⟩, .int .i64 0], .int .i64 6]) (by simp [results, Tryz.results27, go_sem, r0, r1, r2]) rfl ⟨by rw [HV3.out]; rfl, ((HB2.out.setCell (by simp) _).setCell (by simp) _).setCell (by simp) _⟩
    | true =>
     obtain ⟨hall, hne⟩ := (digB_iff _).1 hq
     have cM := fun W => made_num true A (val A.data.toList) sc ⟨hall, hne, rfl⟩ za (by omega) W
     rw [if_pos rfl] at HV2
     obtain ⟨dn, dd, dsc, dq, hd⟩ : ∃ dn dd dsc dq, decR (mkDec true (val A.data.toList) sc) = .tuple #[.agg #[.bool dn, .string dd, .int .i64 dsc], .int .i64 dq] := ⟨_, _, _, _, rfl⟩
     rw [hd] at cM HV2
     have HV3 := Lib.hid HV2
     clear HV HV2 hq za hall hne hd
     go_wp2_with fail
     refine (cD _).mono ?_
     rintro e w1 ⟨rfl, rfl⟩
     clear cD
     go_wp2_with fail
     refine (cM _).mono ?_
     rintro e w2 ⟨rfl, b2⟩
     have b12 := hB.trans (b2.mono hB.size)
     clear hB b2 cM
     obtain ⟨r0, r1, r2, f0, f1, f2, hB2, hz⟩ := one_all b12
     have HB2 := Lib.hid hB2
     clear hB2 b12
     go_wp2
     exact bodyPost_ret (v := .tuple #[.agg #[.bool dn, .string dd, .int .i64 dsc], .int .i64 dq]) (by simp [results, Tryz.results27, go_sem, r0, r1, r2]) rfl ⟨by rw [HV3.out], ((HB2.out.setCell (by simp) _).setCell (by simp) _).setCell (by simp) _⟩
   ·have HV : Hid (R = finV true t 0) := by
     show _ = _
     rw [← HR.out]
     unfold readV
     rw [HF.out, if_neg (by omega)]
    have za := htz
    clear HR HF HA hgk hFz hkF hlt hk
    have cD := fun W => rdigits_any t (by unfold maxLen; omega) W
    obtain ⟨q, hq⟩ : ∃ q, digB t.data.toList = q := ⟨_, rfl⟩
    unfold finV at HV
    have HV2 := HV.out
    rw [hq] at cD HV2
    cases q with
    | false =>
     have HV3 := Lib.hid HV2
     clear HV HV2 hq za
     go_wp2_with fail
     refine (cD _).mono ?_
     rintro e w1 ⟨rfl, rfl⟩
     obtain ⟨r0, r1, r2, f0, f1, f2, hB2, hz⟩ := one_all hB
     have HB2 := Lib.hid hB2
     clear hB hB2 cD
     go_wp2
     exact bodyPost_ret (v := .tuple #[.agg #[.bool false, .string ⟨#[]⟩, .int .i64 0], .int .i64 6]) (by simp [results, Tryz.results27, go_sem, r0, r1, r2]) rfl ⟨by rw [HV3.out]; rfl, ((HB2.out.setCell (by simp) _).setCell (by simp) _).setCell (by simp) _⟩
    | true =>
     obtain ⟨hall, hne⟩ := (digB_iff _).1 hq
     have cM := fun W => made_num true t (val t.data.toList) 0 ⟨hall, hne, rfl⟩ za (by omega) W
     rw [if_pos rfl] at HV2
     obtain ⟨dn, dd, dsc, dq, hd⟩ : ∃ dn dd dsc dq, decR (mkDec true (val t.data.toList) 0) = .tuple #[.agg #[.bool dn, .string dd, .int .i64 dsc], .int .i64 dq] := ⟨_, _, _, _, rfl⟩
     rw [hd] at cM HV2
     have HV3 := Lib.hid HV2
     clear HV HV2 hq za hall hne hd
     go_wp2_with fail
     refine (cD _).mono ?_
     rintro e w1 ⟨rfl, rfl⟩
     clear cD
     go_wp2_with fail
     refine (cM _).mono ?_
     rintro e w2 ⟨rfl, b2⟩
     have b12 := hB.trans (b2.mono hB.size)
     clear hB b2 cM
     obtain ⟨r0, r1, r2, f0, f1, f2, hB2, hz⟩ := one_all b12
     have HB2 := Lib.hid hB2
     clear hB2 b12
     go_wp2
     exact bodyPost_ret (v := .tuple #[.agg #[.bool dn, .string dd, .int .i64 dsc], .int .i64 dq]) (by simp [results, Tryz.results27, go_sem, r0, r1, r2]) rfl ⟨by rw [HV3.out], ((HB2.out.setCell (by simp) _).setCell (by simp) _).setCell (by simp) _⟩
theorem read_p (s : ByteArray) (hs : s.size ≤ 50000) (hp : 0 < s.size) (h0 : (s[0].toNat : Int) = 43) (t : ByteArray) (ht : s.extract 1 s.size = t) (w : World) :
  Calls Tryz.prog 27 #[.string s] w fun e w' => e = .returned (readV false t) ∧ Below w.heap.size w w' := by
 have hE : s.toList.isEmpty = false := ne_empty hp
 have b0 : ((s[0].toNat : Int) == 45) = false := beq_eq_false_iff_ne.2 (by omega)
 have b1 : ((s[0].toNat : Int) == 43) = true := beq_iff_eq.2 h0
 have hp1 : (1 : Int) ≤ (s.size : Int) := by omega
 have htz : t.size ≤ 50000 := by rw [← ht, ByteArray.size_extract]; omega
 obtain ⟨R, hR⟩ : ∃ R, readV false t = R := ⟨_, rfl⟩
 rw [hR]
 have HR := Lib.hid hR
 clear hR
 obtain ⟨F, hF⟩ : ∃ F, ptAt t = F := ⟨_, rfl⟩
 have HF := Lib.hid hF
 have hFz : F ≤ t.size := by rw [← hF]; exact ptAt_le _
 obtain ⟨A, hA⟩ : ∃ A, t.extract 0 F ++ t.extract (F + 1) t.size = A := ⟨_, rfl⟩
 have HA := Lib.hid hA
 clear hF hA
 go_enter Tryz.func27, Tryz.ntmps27
 go_wp2
 go_quiet (fail)
 go_wp2
 clear hp h0 hE b0 b1 ht hp1 hs
 go_loopg [5, 6, 7, 8] (t.size + 1) (fun gk v5 v6 v7 v8 wr => ∃ k : Nat, v8 = .int .i64 (k : Int) ∧ k ≤ t.size ∧ gk + k = t.size + 1 ∧ ((F < k ∧ v7 = .bool true ∧ v5 = .string A ∧ v6 = .int .i64 ((t.size - F - 1 : Nat) : Int)) ∨ (k ≤ F ∧ v7 = .bool false ∧ v5 = .string ⟨#[]⟩ ∧ v6 = .int .i64 0)) ∧ Below (w.alloc (.cells #[.bool false, .string ⟨#[]⟩, .int .i64 0] 23)).heap.size (w.alloc (.cells #[.bool false, .string ⟨#[]⟩, .int .i64 0] 23)) wr)
 case atStart => exact ⟨0, rfl, Nat.zero_le _, rfl, .inr ⟨Nat.zero_le _, rfl, rfl, rfl⟩, below_drewN (Below.refl _ _) _⟩
 case round =>
  obtain ⟨k, rfl, hk, hgk, hst, hB⟩ := hrel
  by_cases hlt : k < t.size
  ·have hlti : (k : Int) < (t.size : Int) := by omega
   rcases hst with ⟨hFk, rfl, rfl, rfl⟩ | ⟨hkF, rfl, rfl, rfl⟩
   ·by_cases h46 : (t[k].toNat : Int) = 46
    ·have b46 : ((t[k].toNat : Int) == 46) = true := beq_iff_eq.2 h46
     clear h46
     go_wp2
     go_roundg (gk - 1)
     case measure => omega
     case rel => exact ⟨k + 1, by go_num, by omega, by omega, .inl ⟨by omega, rfl, rfl, rfl⟩, hB⟩
    ·have b46 : ((t[k].toNat : Int) == 46) = false := beq_eq_false_iff_ne.2 h46
     clear h46
     go_wp2
     go_roundg (gk - 1)
     case measure => omega
     case rel => exact ⟨k + 1, by go_num, by omega, by omega, .inl ⟨by omega, rfl, rfl, rfl⟩, hB⟩
   ·by_cases hkF2 : k = F
    ·subst hkF2
     have h46 : t[k].toNat = 46 := by
      have h := ptAt_is (t := t) (by rw [HF.out]; exact hlt)
      have e : ptAt t = k := HF.out
      simp only [e] at h
      exact h
     have b46 : ((t[k].toNat : Int) == 46) = true := beq_iff_eq.2 (by omega)
     have s1 : (k : Int) + 1 ≤ (t.size : Int) := by omega
     have s2 : (k : Int) ≤ (t.size : Int) := by omega
     clear h46
     go_wp2
     go_quiet (fail)
     go_wp2
     go_roundg (gk - 1)
     case measure => omega
     case rel => exact ⟨k + 1, by go_num, by omega, by omega, .inl ⟨by omega, rfl, by rw [← HA.out], by first | go_num | (congr 1; omega)⟩, below_drewN hB _⟩
    ·have h46 : ¬ (t[k].toNat : Int) = 46 := by
      have h := ptAt_not (t := t) (k := k) (by rw [HF.out]; omega) hlt
      omega
     have b46 : ((t[k].toNat : Int) == 46) = false := beq_eq_false_iff_ne.2 h46
     clear h46
     go_wp2
     go_roundg (gk - 1)
     case measure => omega
     case rel => exact ⟨k + 1, by go_num, by omega, by omega, .inr ⟨by omega, rfl, rfl, rfl⟩, hB⟩
  ·obtain rfl : k = t.size := by omega
   rcases hst with ⟨hFk, rfl, rfl, rfl⟩ | ⟨hkF, rfl, rfl, rfl⟩
   ·have HV : Hid (R = finV false A (t.size - F - 1)) := by
     show _ = _
     rw [← HR.out, ← HA.out]
     unfold readV
     rw [HF.out, if_pos hFk]
    have za : A.size ≤ 50000 := by rw [← HA.out, join_size _ _ hFk]; omega
    obtain ⟨sc, hsc⟩ : ∃ sc, t.size - F - 1 = sc := ⟨_, rfl⟩
    rw [hsc] at HV ⊢
    have hsc5 : sc ≤ 50000 := by omega
    clear hsc HR HF HA hgk hFz hFk hlt hk
    have cD := fun W => rdigits_any A (by unfold maxLen; omega) W
    obtain ⟨q, hq⟩ : ∃ q, digB A.data.toList = q := ⟨_, rfl⟩
    unfold finV at HV
    have HV2 := HV.out
    rw [hq] at cD HV2
    cases q with
    | false =>
     have HV3 := Lib.hid HV2
     clear HV HV2 hq za
     go_wp2_with fail
     refine (cD _).mono ?_
     rintro e w1 ⟨rfl, rfl⟩
     obtain ⟨r0, r1, r2, f0, f1, f2, hB2, hz⟩ := one_all hB
     have HB2 := Lib.hid hB2
     clear hB hB2 cD
     go_wp2
     exact bodyPost_ret (v := .tuple #[.agg #[.bool false, .string ⟨#[]⟩, .int .i64 0], .int .i64 6]) (by simp [results, Tryz.results27, go_sem, r0, r1, r2]) rfl ⟨by rw [HV3.out]; rfl, ((HB2.out.setCell (by simp) _).setCell (by simp) _).setCell (by simp) _⟩
    | true =>
     obtain ⟨hall, hne⟩ := (digB_iff _).1 hq
     have cM := fun W => made_num false A (val A.data.toList) sc ⟨hall, hne, rfl⟩ za (by omega) W
     rw [if_pos rfl] at HV2
     obtain ⟨dn, dd, dsc, dq, hd⟩ : ∃ dn dd dsc dq, decR (mkDec false (val A.data.toList) sc) = .tuple #[.agg #[.bool dn, .string dd, .int .i64 dsc], .int .i64 dq] := ⟨_, _, _, _, rfl⟩
     rw [hd] at cM HV2
     have HV3 := Lib.hid HV2
     clear HV HV2 hq za hall hne hd
     go_wp2_with fail
     refine (cD _).mono ?_
     rintro e w1 ⟨rfl, rfl⟩
     clear cD
     go_wp2_with fail
     refine (cM _).mono ?_
     rintro e w2 ⟨rfl, b2⟩
     have b12 := hB.trans (b2.mono hB.size)
     clear hB b2 cM
     obtain ⟨r0, r1, r2, f0, f1, f2, hB2, hz⟩ := one_all b12
     have HB2 := Lib.hid hB2
     clear hB2 b12
     go_wp2
     exact bodyPost_ret (v := .tuple #[.agg #[.bool dn, .string dd, .int .i64 dsc], .int .i64 dq]) (by simp [results, Tryz.results27, go_sem, r0, r1, r2]) rfl ⟨by rw [HV3.out], ((HB2.out.setCell (by simp) _).setCell (by simp) _).setCell (by simp) _⟩
   ·have HV : Hid (R = finV false t 0) := by
     show _ = _
     rw [← HR.out]
     unfold readV
     rw [HF.out, if_neg (by omega)]
    have za := htz
    clear HR HF HA hgk hFz hkF hlt hk
    have cD := fun W => rdigits_any t (by unfold maxLen; omega) W
    obtain ⟨q, hq⟩ : ∃ q, digB t.data.toList = q := ⟨_, rfl⟩
    unfold finV at HV
    have HV2 := HV.out
    rw [hq] at cD HV2
    cases q with
    | false =>
     have HV3 := Lib.hid HV2
     clear HV HV2 hq za
     go_wp2_with fail
     refine (cD _).mono ?_
     rintro e w1 ⟨rfl, rfl⟩
     obtain ⟨r0, r1, r2, f0, f1, f2, hB2, hz⟩ := one_all hB
     have HB2 := Lib.hid hB2
     clear hB hB2 cD
     go_wp2
     exact bodyPost_ret (v := .tuple #[.agg #[.bool false, .string ⟨#[]⟩, .int .i64 0], .int .i64 6]) (by simp [results, Tryz.results27, go_sem, r0, r1, r2]) rfl ⟨by rw [HV3.out]; rfl, ((HB2.out.setCell (by simp) _).setCell (by simp) _).setCell (by simp) _⟩
    | true =>
     obtain ⟨hall, hne⟩ := (digB_iff _).1 hq
     have cM := fun W => made_num false t (val t.data.toList) 0 ⟨hall, hne, rfl⟩ za (by omega) W
     rw [if_pos rfl] at HV2
     obtain ⟨dn, dd, dsc, dq, hd⟩ : ∃ dn dd dsc dq, decR (mkDec false (val t.data.toList) 0) = .tuple #[.agg #[.bool dn, .string dd, .int .i64 dsc], .int .i64 dq] := ⟨_, _, _, _, rfl⟩
     rw [hd] at cM HV2
     have HV3 := Lib.hid HV2
     clear HV HV2 hq za hall hne hd
     go_wp2_with fail
     refine (cD _).mono ?_
     rintro e w1 ⟨rfl, rfl⟩
     clear cD
     go_wp2_with fail
     refine (cM _).mono ?_
     rintro e w2 ⟨rfl, b2⟩
     have b12 := hB.trans (b2.mono hB.size)
     clear hB b2 cM
     obtain ⟨r0, r1, r2, f0, f1, f2, hB2, hz⟩ := one_all b12
     have HB2 := Lib.hid hB2
     clear hB2 b12
     go_wp2
     exact bodyPost_ret (v := .tuple #[.agg #[.bool dn, .string dd, .int .i64 dsc], .int .i64 dq]) (by simp [results, Tryz.results27, go_sem, r0, r1, r2]) rfl ⟨by rw [HV3.out], ((HB2.out.setCell (by simp) _).setCell (by simp) _).setCell (by simp) _⟩
theorem read_b (s : ByteArray) (hs : s.size ≤ 50000) (hp : 0 < s.size) (h0 : ¬ (s[0].toNat : Int) = 45) (h1 : ¬ (s[0].toNat : Int) = 43) (w : World) :
  Calls Tryz.prog 27 #[.string s] w fun e w' => e = .returned (readV false s) ∧ Below w.heap.size w w' := by
 have hE : s.toList.isEmpty = false := ne_empty hp
 have b0 : ((s[0].toNat : Int) == 45) = false := beq_eq_false_iff_ne.2 h0
 have b1 : ((s[0].toNat : Int) == 43) = false := beq_eq_false_iff_ne.2 h1
 have htz : s.size ≤ 50000 := hs
 obtain ⟨R, hR⟩ : ∃ R, readV false s = R := ⟨_, rfl⟩
 rw [hR]
 have HR := Lib.hid hR
 clear hR
 obtain ⟨F, hF⟩ : ∃ F, ptAt s = F := ⟨_, rfl⟩
 have HF := Lib.hid hF
 have hFz : F ≤ s.size := by rw [← hF]; exact ptAt_le _
 obtain ⟨A, hA⟩ : ∃ A, s.extract 0 F ++ s.extract (F + 1) s.size = A := ⟨_, rfl⟩
 have HA := Lib.hid hA
 clear hF hA
 go_enter Tryz.func27, Tryz.ntmps27
 go_wp2
 clear h0 h1 hE hs
 go_loopg [5, 6, 7, 8] (s.size + 1) (fun gk v5 v6 v7 v8 wr => ∃ k : Nat, v8 = .int .i64 (k : Int) ∧ k ≤ s.size ∧ gk + k = s.size + 1 ∧ ((F < k ∧ v7 = .bool true ∧ v5 = .string A ∧ v6 = .int .i64 ((s.size - F - 1 : Nat) : Int)) ∨ (k ≤ F ∧ v7 = .bool false ∧ v5 = .string ⟨#[]⟩ ∧ v6 = .int .i64 0)) ∧ Below (w.alloc (.cells #[.bool false, .string ⟨#[]⟩, .int .i64 0] 23)).heap.size (w.alloc (.cells #[.bool false, .string ⟨#[]⟩, .int .i64 0] 23)) wr)
 case atStart => exact ⟨0, rfl, Nat.zero_le _, rfl, .inr ⟨Nat.zero_le _, rfl, rfl, rfl⟩, Below.refl _ _⟩
 case round =>
  obtain ⟨k, rfl, hk, hgk, hst, hB⟩ := hrel
  by_cases hlt : k < s.size
  ·have hlti : (k : Int) < (s.size : Int) := by omega
   rcases hst with ⟨hFk, rfl, rfl, rfl⟩ | ⟨hkF, rfl, rfl, rfl⟩
   ·by_cases h46 : (s[k].toNat : Int) = 46
    ·have b46 : ((s[k].toNat : Int) == 46) = true := beq_iff_eq.2 h46
     clear h46
     go_wp2
     go_roundg (gk - 1)
     case measure => omega
     case rel => exact ⟨k + 1, by go_num, by omega, by omega, .inl ⟨by omega, rfl, rfl, rfl⟩, hB⟩
    ·have b46 : ((s[k].toNat : Int) == 46) = false := beq_eq_false_iff_ne.2 h46
     clear h46
     go_wp2
     go_roundg (gk - 1)
     case measure => omega
     case rel => exact ⟨k + 1, by go_num, by omega, by omega, .inl ⟨by omega, rfl, rfl, rfl⟩, hB⟩
   ·by_cases hkF2 : k = F
    ·subst hkF2
     have h46 : s[k].toNat = 46 := by
      have h := ptAt_is (t := s) (by rw [HF.out]; exact hlt)
      have e : ptAt s = k := HF.out
      simp only [e] at h
      exact h
     have b46 : ((s[k].toNat : Int) == 46) = true := beq_iff_eq.2 (by omega)
     have s1 : (k : Int) + 1 ≤ (s.size : Int) := by omega
     have s2 : (k : Int) ≤ (s.size : Int) := by omega
     clear h46
     go_wp2
     go_quiet (fail)
     go_wp2
     go_roundg (gk - 1)
     case measure => omega
     case rel => exact ⟨k + 1, by go_num, by omega, by omega, .inl ⟨by omega, rfl, by rw [← HA.out], by first | go_num | (congr 1; omega)⟩, below_drewN hB _⟩
    ·have h46 : ¬ (s[k].toNat : Int) = 46 := by
      have h := ptAt_not (t := s) (k := k) (by rw [HF.out]; omega) hlt
      omega
     have b46 : ((s[k].toNat : Int) == 46) = false := beq_eq_false_iff_ne.2 h46
     clear h46
     go_wp2
     go_roundg (gk - 1)
     case measure => omega
     case rel => exact ⟨k + 1, by go_num, by omega, by omega, .inr ⟨by omega, rfl, rfl, rfl⟩, hB⟩
  ·obtain rfl : k = s.size := by omega
   rcases hst with ⟨hFk, rfl, rfl, rfl⟩ | ⟨hkF, rfl, rfl, rfl⟩
   ·have HV : Hid (R = finV false A (s.size - F - 1)) := by
     show _ = _
     rw [← HR.out, ← HA.out]
     unfold readV
     rw [HF.out, if_pos hFk]
    have za : A.size ≤ 50000 := by rw [← HA.out, join_size _ _ hFk]; omega
    obtain ⟨sc, hsc⟩ : ∃ sc, s.size - F - 1 = sc := ⟨_, rfl⟩
    rw [hsc] at HV ⊢
    have hsc5 : sc ≤ 50000 := by omega
    clear hsc HR HF HA hgk hFz hFk hlt hk
    have cD := fun W => rdigits_any A (by unfold maxLen; omega) W
    obtain ⟨q, hq⟩ : ∃ q, digB A.data.toList = q := ⟨_, rfl⟩
    unfold finV at HV
    have HV2 := HV.out
    rw [hq] at cD HV2
    cases q with
    | false =>
     have HV3 := Lib.hid HV2
     clear HV HV2 hq za
     go_wp2_with fail
     refine (cD _).mono ?_
     rintro e w1 ⟨rfl, rfl⟩
     obtain ⟨r0, r1, r2, f0, f1, f2, hB2, hz⟩ := one_all hB
     have HB2 := Lib.hid hB2
     clear hB hB2 cD
     go_wp2
     exact bodyPost_ret (v := .tuple #[.agg #[.bool false, .string ⟨#[]⟩, .int .i64 0], .int .i64 6]) (by simp [results, Tryz.results27, go_sem, r0, r1, r2]) rfl ⟨by rw [HV3.out]; rfl, ((HB2.out.setCell (by simp) _).setCell (by simp) _).setCell (by simp) _⟩
    | true =>
     obtain ⟨hall, hne⟩ := (digB_iff _).1 hq
     have cM := fun W => made_num false A (val A.data.toList) sc ⟨hall, hne, rfl⟩ za (by omega) W
     rw [if_pos rfl] at HV2
     obtain ⟨dn, dd, dsc, dq, hd⟩ : ∃ dn dd dsc dq, decR (mkDec false (val A.data.toList) sc) = .tuple #[.agg #[.bool dn, .string dd, .int .i64 dsc], .int .i64 dq] := ⟨_, _, _, _, rfl⟩
     rw [hd] at cM HV2
     have HV3 := Lib.hid HV2
     clear HV HV2 hq za hall hne hd
     go_wp2_with fail
     refine (cD _).mono ?_
     rintro e w1 ⟨rfl, rfl⟩
     clear cD
     go_wp2_with fail
     refine (cM _).mono ?_
     rintro e w2 ⟨rfl, b2⟩
     have b12 := hB.trans (b2.mono hB.size)
     clear hB b2 cM
     obtain ⟨r0, r1, r2, f0, f1, f2, hB2, hz⟩ := one_all b12
     have HB2 := Lib.hid hB2
     clear hB2 b12
     go_wp2
     exact bodyPost_ret (v := .tuple #[.agg #[.bool dn, .string dd, .int .i64 dsc], .int .i64 dq]) (by simp [results, Tryz.results27, go_sem, r0, r1, r2]) rfl ⟨by rw [HV3.out], ((HB2.out.setCell (by simp) _).setCell (by simp) _).setCell (by simp) _⟩
   ·have HV : Hid (R = finV false s 0) := by
     show _ = _
     rw [← HR.out]
     unfold readV
     rw [HF.out, if_neg (by omega)]
    have za := htz
    clear HR HF HA hgk hFz hkF hlt hk
    have cD := fun W => rdigits_any s (by unfold maxLen; omega) W
    obtain ⟨q, hq⟩ : ∃ q, digB s.data.toList = q := ⟨_, rfl⟩
    unfold finV at HV
    have HV2 := HV.out
    rw [hq] at cD HV2
    cases q with
    | false =>
     have HV3 := Lib.hid HV2
     clear HV HV2 hq za
     go_wp2_with fail
     refine (cD _).mono ?_
     rintro e w1 ⟨rfl, rfl⟩
     obtain ⟨r0, r1, r2, f0, f1, f2, hB2, hz⟩ := one_all hB
     have HB2 := Lib.hid hB2
     clear hB hB2 cD
     go_wp2
     exact bodyPost_ret (v := .tuple #[.agg #[.bool false, .string ⟨#[]⟩, .int .i64 0], .int .i64 6]) (by simp [results, Tryz.results27, go_sem, r0, r1, r2]) rfl ⟨by rw [HV3.out]; rfl, ((HB2.out.setCell (by simp) _).setCell (by simp) _).setCell (by simp) _⟩
    | true =>
     obtain ⟨hall, hne⟩ := (digB_iff _).1 hq
     have cM := fun W => made_num false s (val s.data.toList) 0 ⟨hall, hne, rfl⟩ za (by omega) W
     rw [if_pos rfl] at HV2
     obtain ⟨dn, dd, dsc, dq, hd⟩ : ∃ dn dd dsc dq, decR (mkDec false (val s.data.toList) 0) = .tuple #[.agg #[.bool dn, .string dd, .int .i64 dsc], .int .i64 dq] := ⟨_, _, _, _, rfl⟩
     rw [hd] at cM HV2
     have HV3 := Lib.hid HV2
     clear HV HV2 hq za hall hne hd
     go_wp2_with fail
     refine (cD _).mono ?_
     rintro e w1 ⟨rfl, rfl⟩
     clear cD
     go_wp2_with fail
     refine (cM _).mono ?_
     rintro e w2 ⟨rfl, b2⟩
     have b12 := hB.trans (b2.mono hB.size)
     clear hB b2 cM
     obtain ⟨r0, r1, r2, f0, f1, f2, hB2, hz⟩ := one_all b12
     have HB2 := Lib.hid hB2
     clear hB2 b12
     go_wp2
     exact bodyPost_ret (v := .tuple #[.agg #[.bool dn, .string dd, .int .i64 dsc], .int .i64 dq]) (by simp [results, Tryz.results27, go_sem, r0, r1, r2]) rfl ⟨by rw [HV3.out], ((HB2.out.setCell (by simp) _).setCell (by simp) _).setCell (by simp) _⟩
theorem read_e (s : ByteArray) (hs : s.size ≤ 50000) (hp : s.size = 0) (w : World) :
  Calls Tryz.prog 27 #[.string s] w fun e w' => e = .returned (readV false s) ∧ Below w.heap.size w w' := by
 have hE : s.toList.isEmpty = true := is_empty hp
 have htz : s.size ≤ 50000 := hs
 obtain ⟨R, hR⟩ : ∃ R, readV false s = R := ⟨_, rfl⟩
 rw [hR]
 have HR := Lib.hid hR
 clear hR
 obtain ⟨F, hF⟩ : ∃ F, ptAt s = F := ⟨_, rfl⟩
 have HF := Lib.hid hF
 have hFz : F ≤ s.size := by rw [← hF]; exact ptAt_le _
 obtain ⟨A, hA⟩ : ∃ A, s.extract 0 F ++ s.extract (F + 1) s.size = A := ⟨_, rfl⟩
 have HA := Lib.hid hA
 clear hF hA
 go_enter Tryz.func27, Tryz.ntmps27
 go_wp2
 clear hE hs
 go_loopg [5, 6, 7, 8] (s.size + 1) (fun gk v5 v6 v7 v8 wr => ∃ k : Nat, v8 = .int .i64 (k : Int) ∧ k ≤ s.size ∧ gk + k = s.size + 1 ∧ ((F < k ∧ v7 = .bool true ∧ v5 = .string A ∧ v6 = .int .i64 ((s.size - F - 1 : Nat) : Int)) ∨ (k ≤ F ∧ v7 = .bool false ∧ v5 = .string ⟨#[]⟩ ∧ v6 = .int .i64 0)) ∧ Below (w.alloc (.cells #[.bool false, .string ⟨#[]⟩, .int .i64 0] 23)).heap.size (w.alloc (.cells #[.bool false, .string ⟨#[]⟩, .int .i64 0] 23)) wr)
 case atStart => exact ⟨0, rfl, Nat.zero_le _, rfl, .inr ⟨Nat.zero_le _, rfl, rfl, rfl⟩, Below.refl _ _⟩
 case round =>
  obtain ⟨k, rfl, hk, hgk, hst, hB⟩ := hrel
  have hk0 : k = 0 := by omega
  subst hk0
  rcases hst with ⟨hFk, _, _, _⟩ | ⟨hkF, rfl, rfl, rfl⟩
  ·omega
  have hq : digB s.data.toList = false := by
   have h1 := is_empty hp
   rw [Lib.toList_data] at h1
   unfold digB
   rw [h1]
   simp
  have HV : Hid (R = .tuple #[decNil.v, .int .i64 6]) := by
   show _ = _
   rw [← HR.out]
   unfold readV finV
   rw [HF.out, if_neg (by omega), hq]
   rfl
  have cD := fun W => rdigits_any s (by unfold maxLen; omega) W
  rw [hq] at cD
  have hlti : ¬ ((0 : Nat) : Int) < (s.size : Int) := by omega
  clear HR HF HA hgk hFz hkF hk hq
  go_wp2_with fail
  refine (cD _).mono ?_
  rintro e w1 ⟨rfl, rfl⟩
  obtain ⟨r0, r1, r2, f0, f1, f2, hB2, hz⟩ := one_all hB
  have HB2 := Lib.hid hB2
  clear hB hB2 cD
  go_wp2
  exact bodyPost_ret (v := .tuple #[.agg #[.bool false, .string ⟨#[]⟩, .int .i64 0], .int .i64 6]) (by simp [results, Tryz.results27, go_sem, r0, r1, r2]) rfl ⟨by rw [HV.out]; rfl, ((HB2.out.setCell (by simp) _).setCell (by simp) _).setCell (by simp) _⟩
theorem read_any (s : ByteArray) (hs : s.size ≤ 50000) (w : World) :
  Calls Tryz.prog 27 #[.string s] w fun e w' => e = .returned (readSpec s) ∧ Below w.heap.size w w' := by
 unfold readSpec
 by_cases hp : 0 < s.size
 ·rw [dif_pos hp]
  by_cases h45 : s[0].toNat = 45
  ·rw [if_pos h45]
   exact read_m s hs hp (by omega) _ rfl w
  ·rw [if_neg h45]
   by_cases h43 : s[0].toNat = 43
   ·rw [if_pos h43]
    exact read_p s hs hp (by omega) _ rfl w
   ·rw [if_neg h43]
    exact read_b s hs hp (by omega) (by omega) w
 ·rw [dif_neg hp]
  exact read_e s hs (by omega) w
end Go.Proofs.YtmdnijehoagamaaGreatDoor
