/- The reference's Read. -/
import Derived.Test.YtcpociafcjabkaaGreatDoorY
set_option linter.unusedSimpArgs false
set_option linter.unusedVariables false
namespace Go.Proofs.YtcpociafcjabkaaGreatDoor
open Go.RowKit

/-- Where the point stands, if there is one. -/
def ptAt (t : ByteArray) : Nat := t.data.toList.findIdx (· == 46)
/-- What digits, divided so often by 10, are read as. -/
def finV (neg : Bool) (a : ByteArray) (sc : Nat) : Value := if digB a.data.toList then decR (mkDec neg (val a.data.toList) sc) else .tuple #[decNil.v, .int .i64 6]
def readV (neg : Bool) (t : ByteArray) : Value := if ptAt t < t.size then finV neg (t.extract 0 (ptAt t) ++ t.extract (ptAt t + 1) t.size) (t.size - ptAt t - 1) else finV neg t 0
def readSpec (s : ByteArray) : Value :=
  if h : 0 < s.size then
    if s[0].toNat = 45 then readV true (s.extract 1 s.size) else if s[0].toNat = 43 then readV false (s.extract 1 s.size) else readV false s
  else readV false s

theorem ptAt_le (t : ByteArray) : ptAt t ≤ t.size := by
  unfold ptAt
  rw [← bytes_len]
  exact List.findIdx_le_length
theorem ptAt_is {t : ByteArray} (h : ptAt t < t.size) : t[ptAt t].toNat = 46 := by
  have h1 : ptAt t < t.data.toList.length := by rw [bytes_len]; exact h
  have h2 := List.findIdx_getElem (p := (· == 46)) (xs := t.data.toList) (w := h1)
  rw [byte_at rfl h h1]
  have h3 := eq_of_beq h2
  show (t.data.toList[t.data.toList.findIdx (· == 46)]).toNat = 46
  rw [h3]
  rfl
theorem ptAt_not {t : ByteArray} {k : Nat} (h : k < ptAt t) (hk : k < t.size) : t[k].toNat ≠ 46 := by
  have h1 : k < t.data.toList.length := by rw [bytes_len]; exact hk
  have h2 := List.not_of_lt_findIdx (p := (· == (46 : UInt8))) (xs := t.data.toList) h
  rw [byte_at rfl hk h1]
  intro e
  have h3 : t.data.toList[k] = 46 := UInt8.toNat_inj.1 (by rw [e]; rfl)
  rw [h3] at h2
  cases h2

theorem join_size (t : ByteArray) (i : Nat) (h : i < t.size) : (t.extract 0 i ++ t.extract (i + 1) t.size).size = t.size - 1 := by
  rw [app_size, ByteArray.size_extract, ByteArray.size_extract]
  omega

theorem ne_empty {s : ByteArray} (h : 0 < s.size) : s.toList.isEmpty = false := by
  rw [Lib.toList_data]
  have := bytes_len s
  cases hl : s.data.toList with
  | nil => rw [hl] at this; simp at this; omega
  | cons => rfl
theorem is_empty {s : ByteArray} (h : s.size = 0) : s.toList.isEmpty = true := by
  rw [Lib.toList_data]
  have := bytes_len s
  cases hl : s.data.toList with
  | nil => rfl
  | cons => rw [hl] at this; simp at this; omega

set_option maxRecDepth 100000 in
set_option maxHeartbeats 4000000 in
theorem read_m (s : ByteArray) (hs : s.size ≤ 50000) (hp : 0 < s.size) (h0 : (s[0].toNat : Int) = 45) (t : ByteArray) (ht : s.extract 1 s.size = t) (w : World) :
    Calls Tryz.prog 10 #[.string s] w fun e w' => e = .returned (readV true t) ∧ Below w.heap.size w w' := by
  have hE : s.toList.isEmpty = false := ne_empty hp
  have b0 : ((s[0].toNat : Int) == 45) = true := beq_iff_eq.2 h0
  have hp1 : (1 : Int) ≤ (s.size : Int) := by omega
  have htz : t.size ≤ 50000 := by rw [← ht, ByteArray.size_extract]; omega
  obtain ⟨R, hR⟩ : ∃ R, readV true t = R := ⟨_, rfl⟩
  rw [hR]
  have HR := Lib.hid hR
  clear hR
  obtain ⟨F, hF⟩ : ∃ F, ptAt t = F := ⟨_, rfl⟩
  have HF := Lib.hid hF
  have hFz : F ≤ t.size := by rw [← hF]; exact ptAt_le _
  obtain ⟨A, hA⟩ : ∃ A, t.extract 0 F ++ t.extract (F + 1) t.size = A := ⟨_, rfl⟩
  have HA := Lib.hid hA
  clear hF hA
  go_enter Tryz.func10, Tryz.ntmps10
  go_wp2
  go_quiet (fail)
  go_wp2
  clear hp h0 hE b0 ht hp1 hs
  go_loopg [5, 6, 7, 8] (t.size + 1) (fun gk v5 v6 v7 v8 wr => ∃ k : Nat, v8 = .int .i64 (k : Int) ∧ k ≤ t.size ∧ gk + k = t.size + 1 ∧ ((F < k ∧ v7 = .bool true ∧ v5 = .string A ∧ v6 = .int .i64 ((t.size - F - 1 : Nat) : Int)) ∨ (k ≤ F ∧ v7 = .bool false ∧ v5 = .string ⟨#[]⟩ ∧ v6 = .int .i64 0)) ∧ Below (w.alloc (.cells #[.bool false, .string ⟨#[]⟩, .int .i64 0] 23)).heap.size (w.alloc (.cells #[.bool false, .string ⟨#[]⟩, .int .i64 0] 23)) wr)
  case atStart => exact ⟨0, rfl, Nat.zero_le _, rfl, .inr ⟨Nat.zero_le _, rfl, rfl, rfl⟩, below_drewN (Below.refl _ _) _⟩
  case round =>
    obtain ⟨k, rfl, hk, hgk, hst, hB⟩ := hrel
    by_cases hlt : k < t.size
    · have hlti : (k : Int) < (t.size : Int) := by omega
      rcases hst with ⟨hFk, rfl, rfl, rfl⟩ | ⟨hkF, rfl, rfl, rfl⟩
      · by_cases h46 : (t[k].toNat : Int) = 46
        · have b46 : ((t[k].toNat : Int) == 46) = true := beq_iff_eq.2 h46
          clear h46
          go_wp2
          go_roundg (gk - 1)
          case measure => omega
          case rel => exact ⟨k + 1, by go_num, by omega, by omega, .inl ⟨by omega, rfl, rfl, rfl⟩, hB⟩
        · have b46 : ((t[k].toNat : Int) == 46) = false := beq_eq_false_iff_ne.2 h46
          clear h46
          go_wp2
          go_roundg (gk - 1)
          case measure => omega
          case rel => exact ⟨k + 1, by go_num, by omega, by omega, .inl ⟨by omega, rfl, rfl, rfl⟩, hB⟩
      · by_cases hkF2 : k = F
        · subst hkF2
          have h46 : t[k].toNat = 46 := by
            have h := ptAt_is (t := t) (by rw [HF.out]; exact hlt)
            have e : ptAt t = k := HF.out
            simp only [e] at h
            exact h
          have b46 : ((t[k].toNat : Int) == 46) = true := beq_iff_eq.2 (by omega)
          have s1 : (k : Int) + 1 ≤ (t.size : Int) := by omega
          have s2 : (k : Int) ≤ (t.size : Int) := by omega
          clear h46
          go_wp2
          go_quiet (fail)
          go_wp2
          go_roundg (gk - 1)
          case measure => omega
          case rel => exact ⟨k + 1, by go_num, by omega, by omega, .inl ⟨by omega, rfl, by rw [← HA.out], by first | go_num | (congr 1; omega)⟩, below_drewN hB _⟩
        · have h46 : ¬ (t[k].toNat : Int) = 46 := by
            have h := ptAt_not (t := t) (k := k) (by rw [HF.out]; omega) hlt
            omega
          have b46 : ((t[k].toNat : Int) == 46) = false := beq_eq_false_iff_ne.2 h46
          clear h46
          go_wp2
          go_roundg (gk - 1)
          case measure => omega
          case rel => exact ⟨k + 1, by go_num, by omega, by omega, .inr ⟨by omega, rfl, rfl, rfl⟩, hB⟩
    · obtain rfl : k = t.size := by omega
      rcases hst with ⟨hFk, rfl, rfl, rfl⟩ | ⟨hkF, rfl, rfl, rfl⟩
      · have HV : Hid (R = finV true A (t.size - F - 1)) := by
          show _ = _
          rw [← HR.out, ← HA.out]
          unfold readV
          rw [HF.out, if_pos hFk]
        have za : A.size ≤ 50000 := by rw [← HA.out, join_size _ _ hFk]; omega
        obtain ⟨sc, hsc⟩ : ∃ sc, t.size - F - 1 = sc := ⟨_, rfl⟩
        rw [hsc] at HV ⊢
        have hsc5 : sc ≤ 50000 := by omega
        clear hsc HR HF HA hgk hFz hFk hlt hk
        have cD := fun W => rdigits_any A (by unfold maxLen; omega) W
        obtain ⟨q, hq⟩ : ∃ q, digB A.data.toList = q := ⟨_, rfl⟩
        unfold finV at HV
        have HV2 := HV.out
        rw [hq] at cD HV2
        cases q with
        | false =>
          have HV3 := Lib.hid HV2
          clear HV HV2 hq za
          go_wp2_with fail
          refine (cD _).mono ?_
          rintro e w1 ⟨rfl, rfl⟩
          obtain ⟨r0, r1, r2, f0, f1, f2, hB2, hz⟩ := one_all hB
          have HB2 := Lib.hid hB2
          clear hB hB2 cD
          go_wp2
          exact bodyPost_ret (v := .tuple #[.agg #[.bool false, .string ⟨#[]⟩, .int .i64 0], .int .i64 6]) (by simp [results, Tryz.results10, go_sem, r0, r1, r2]) rfl ⟨by rw [HV3.out]; rfl, ((HB2.out.setCell (by simp) _).setCell (by simp) _).setCell (by simp) _⟩
        | true =>
          obtain ⟨hall, hne⟩ := (digB_iff _).1 hq
          have cM := fun W => made_num true A (val A.data.toList) sc ⟨hall, hne, rfl⟩ za (by omega) W
          rw [if_pos rfl] at HV2
          obtain ⟨dn, dd, dsc, dq, hd⟩ : ∃ dn dd dsc dq, decR (mkDec true (val A.data.toList) sc) = .tuple #[.agg #[.bool dn, .string dd, .int .i64 dsc], .int .i64 dq] := ⟨_, _, _, _, rfl⟩
          rw [hd] at cM HV2
          have HV3 := Lib.hid HV2
          clear HV HV2 hq za hall hne hd
          go_wp2_with fail
          refine (cD _).mono ?_
          rintro e w1 ⟨rfl, rfl⟩
          clear cD
          go_wp2_with fail
          refine (cM _).mono ?_
          rintro e w2 ⟨rfl, b2⟩
          have b12 := hB.trans (b2.mono hB.size)
          clear hB b2 cM
          obtain ⟨r0, r1, r2, f0, f1, f2, hB2, hz⟩ := one_all b12
          have HB2 := Lib.hid hB2
          clear hB2 b12
          go_wp2
          exact bodyPost_ret (v := .tuple #[.agg #[.bool dn, .string dd, .int .i64 dsc], .int .i64 dq]) (by simp [results, Tryz.results10, go_sem, r0, r1, r2]) rfl ⟨by rw [HV3.out], ((HB2.out.setCell (by simp) _).setCell (by simp) _).setCell (by simp) _⟩
      · have HV : Hid (R = finV true t 0) := by
          show _ = _
          rw [← HR.out]
          unfold readV
          rw [HF.out, if_neg (by omega)]
        have za := htz
        clear HR HF HA hgk hFz hkF hlt hk
        have cD := fun W => rdigits_any t (by unfold maxLen; omega) W
        obtain ⟨q, hq⟩ : ∃ q, digB t.data.toList = q := ⟨_, rfl⟩
        unfold finV at HV
        have HV2 := HV.out
        rw [hq] at cD HV2
        cases q with
        | false =>
          have HV3 := Lib.hid HV2
          clear HV HV2 hq za
          go_wp2_with fail
          refine (cD _).mono ?_
          rintro e w1 ⟨rfl, rfl⟩
          obtain ⟨r0, r1, r2, f0, f1, f2, hB2, hz⟩ := one_all hB
          have HB2 := Lib.hid hB2
          clear hB hB2 cD
          go_wp2
          exact bodyPost_ret (v := .tuple #[.agg #[.bool false, .string ⟨#[]⟩, .int .i64 0], .int .i64 6]) (by simp [results, Tryz.results10, go_sem, r0, r1, r2]) rfl ⟨by rw [HV3.out]; rfl, ((HB2.out.setCell (by simp) _).setCell (by simp) _).setCell (by simp) _⟩
        | true =>
          obtain ⟨hall, hne⟩ := (digB_iff _).1 hq
          have cM := fun W => made_num true t (val t.data.toList) 0 ⟨hall, hne, rfl⟩ za (by omega) W
          rw [if_pos rfl] at HV2
          obtain ⟨dn, dd, dsc, dq, hd⟩ : ∃ dn dd dsc dq, decR (mkDec true (val t.data.toList) 0) = .tuple #[.agg #[.bool dn, .string dd, .int .i64 dsc], .int .i64 dq] := ⟨_, _, _, _, rfl⟩
          rw [hd] at cM HV2
          have HV3 := Lib.hid HV2
          clear HV HV2 hq za hall hne hd
          go_wp2_with fail
          refine (cD _).mono ?_
          rintro e w1 ⟨rfl, rfl⟩
          clear cD
          go_wp2_with fail
          refine (cM _).mono ?_
          rintro e w2 ⟨rfl, b2⟩
          have b12 := hB.trans (b2.mono hB.size)
          clear hB b2 cM
          obtain ⟨r0, r1, r2, f0, f1, f2, hB2, hz⟩ := one_all b12
          have HB2 := Lib.hid hB2
          clear hB2 b12
          go_wp2
          exact bodyPost_ret (v := .tuple #[.agg #[.bool dn, .string dd, .int .i64 dsc], .int .i64 dq]) (by simp [results, Tryz.results10, go_sem, r0, r1, r2]) rfl ⟨by rw [HV3.out], ((HB2.out.setCell (by simp) _).setCell (by simp) _).setCell (by simp) _⟩

set_option maxRecDepth 100000 in
set_option maxHeartbeats 4000000 in
theorem read_p (s : ByteArray) (hs : s.size ≤ 50000) (hp : 0 < s.size) (h0 : (s[0].toNat : Int) = 43) (t : ByteArray) (ht : s.extract 1 s.size = t) (w : World) :
    Calls Tryz.prog 10 #[.string s] w fun e w' => e = .returned (readV false t) ∧ Below w.heap.size w w' := by
  have hE : s.toList.isEmpty = false := ne_empty hp
  have b0 : ((s[0].toNat : Int) == 45) = false := beq_eq_false_iff_ne.2 (by omega)
  have b1 : ((s[0].toNat : Int) == 43) = true := beq_iff_eq.2 h0
  have hp1 : (1 : Int) ≤ (s.size : Int) := by omega
  have htz : t.size ≤ 50000 := by rw [← ht, ByteArray.size_extract]; omega
  obtain ⟨R, hR⟩ : ∃ R, readV false t = R := ⟨_, rfl⟩
  rw [hR]
  have HR := Lib.hid hR
  clear hR
  obtain ⟨F, hF⟩ : ∃ F, ptAt t = F := ⟨_, rfl⟩
  have HF := Lib.hid hF
  have hFz : F ≤ t.size := by rw [← hF]; exact ptAt_le _
  obtain ⟨A, hA⟩ : ∃ A, t.extract 0 F ++ t.extract (F + 1) t.size = A := ⟨_, rfl⟩
  have HA := Lib.hid hA
  clear hF hA
  go_enter Tryz.func10, Tryz.ntmps10
  go_wp2
  go_quiet (fail)
  go_wp2
  clear hp h0 hE b0 b1 ht hp1 hs
  go_loopg [5, 6, 7, 8] (t.size + 1) (fun gk v5 v6 v7 v8 wr => ∃ k : Nat, v8 = .int .i64 (k : Int) ∧ k ≤ t.size ∧ gk + k = t.size + 1 ∧ ((F < k ∧ v7 = .bool true ∧ v5 = .string A ∧ v6 = .int .i64 ((t.size - F - 1 : Nat) : Int)) ∨ (k ≤ F ∧ v7 = .bool false ∧ v5 = .string ⟨#[]⟩ ∧ v6 = .int .i64 0)) ∧ Below (w.alloc (.cells #[.bool false, .string ⟨#[]⟩, .int .i64 0] 23)).heap.size (w.alloc (.cells #[.bool false, .string ⟨#[]⟩, .int .i64 0] 23)) wr)
  case atStart => exact ⟨0, rfl, Nat.zero_le _, rfl, .inr ⟨Nat.zero_le _, rfl, rfl, rfl⟩, below_drewN (Below.refl _ _) _⟩
  case round =>
    obtain ⟨k, rfl, hk, hgk, hst, hB⟩ := hrel
    by_cases hlt : k < t.size
    · have hlti : (k : Int) < (t.size : Int) := by omega
      rcases hst with ⟨hFk, rfl, rfl, rfl⟩ | ⟨hkF, rfl, rfl, rfl⟩
      · by_cases h46 : (t[k].toNat : Int) = 46
        · have b46 : ((t[k].toNat : Int) == 46) = true := beq_iff_eq.2 h46
          clear h46
          go_wp2
          go_roundg (gk - 1)
          case measure => omega
          case rel => exact ⟨k + 1, by go_num, by omega, by omega, .inl ⟨by omega, rfl, rfl, rfl⟩, hB⟩
        · have b46 : ((t[k].toNat : Int) == 46) = false := beq_eq_false_iff_ne.2 h46
          clear h46
          go_wp2
          go_roundg (gk - 1)
          case measure => omega
          case rel => exact ⟨k + 1, by go_num, by omega, by omega, .inl ⟨by omega, rfl, rfl, rfl⟩, hB⟩
      · by_cases hkF2 : k = F
        · subst hkF2
          have h46 : t[k].toNat = 46 := by
            have h := ptAt_is (t := t) (by rw [HF.out]; exact hlt)
            have e : ptAt t = k := HF.out
            simp only [e] at h
            exact h
          have b46 : ((t[k].toNat : Int) == 46) = true := beq_iff_eq.2 (by omega)
          have s1 : (k : Int) + 1 ≤ (t.size : Int) := by omega
          have s2 : (k : Int) ≤ (t.size : Int) := by omega
          clear h46
          go_wp2
          go_quiet (fail)
          go_wp2
          go_roundg (gk - 1)
          case measure => omega
          case rel => exact ⟨k + 1, by go_num, by omega, by omega, .inl ⟨by omega, rfl, by rw [← HA.out], by first | go_num | (congr 1; omega)⟩, below_drewN hB _⟩
        · have h46 : ¬ (t[k].toNat : Int) = 46 := by
            have h := ptAt_not (t := t) (k := k) (by rw [HF.out]; omega) hlt
            omega
          have b46 : ((t[k].toNat : Int) == 46) = false := beq_eq_false_iff_ne.2 h46
          clear h46
          go_wp2
          go_roundg (gk - 1)
          case measure => omega
          case rel => exact ⟨k + 1, by go_num, by omega, by omega, .inr ⟨by omega, rfl, rfl, rfl⟩, hB⟩
    · obtain rfl : k = t.size := by omega
      rcases hst with ⟨hFk, rfl, rfl, rfl⟩ | ⟨hkF, rfl, rfl, rfl⟩
      · have HV : Hid (R = finV false A (t.size - F - 1)) := by
          show _ = _
          rw [← HR.out, ← HA.out]
          unfold readV
          rw [HF.out, if_pos hFk]
        have za : A.size ≤ 50000 := by rw [← HA.out, join_size _ _ hFk]; omega
        obtain ⟨sc, hsc⟩ : ∃ sc, t.size - F - 1 = sc := ⟨_, rfl⟩
        rw [hsc] at HV ⊢
        have hsc5 : sc ≤ 50000 := by omega
        clear hsc HR HF HA hgk hFz hFk hlt hk
        have cD := fun W => rdigits_any A (by unfold maxLen; omega) W
        obtain ⟨q, hq⟩ : ∃ q, digB A.data.toList = q := ⟨_, rfl⟩
        unfold finV at HV
        have HV2 := HV.out
        rw [hq] at cD HV2
        cases q with
        | false =>
          have HV3 := Lib.hid HV2
          clear HV HV2 hq za
          go_wp2_with fail
          refine (cD _).mono ?_
          rintro e w1 ⟨rfl, rfl⟩
          obtain ⟨r0, r1, r2, f0, f1, f2, hB2, hz⟩ := one_all hB
          have HB2 := Lib.hid hB2
          clear hB hB2 cD
          go_wp2
          exact bodyPost_ret (v := .tuple #[.agg #[.bool false, .string ⟨#[]⟩, .int .i64 0], .int .i64 6]) (by simp [results, Tryz.results10, go_sem, r0, r1, r2]) rfl ⟨by rw [HV3.out]; rfl, ((HB2.out.setCell (by simp) _).setCell (by simp) _).setCell (by simp) _⟩
        | true =>
          obtain ⟨hall, hne⟩ := (digB_iff _).1 hq
          have cM := fun W => made_num false A (val A.data.toList) sc ⟨hall, hne, rfl⟩ za (by omega) W
          rw [if_pos rfl] at HV2
          obtain ⟨dn, dd, dsc, dq, hd⟩ : ∃ dn dd dsc dq, decR (mkDec false (val A.data.toList) sc) = .tuple #[.agg #[.bool dn, .string dd, .int .i64 dsc], .int .i64 dq] := ⟨_, _, _, _, rfl⟩
          rw [hd] at cM HV2
          have HV3 := Lib.hid HV2
          clear HV HV2 hq za hall hne hd
          go_wp2_with fail
          refine (cD _).mono ?_
          rintro e w1 ⟨rfl, rfl⟩
          clear cD
          go_wp2_with fail
          refine (cM _).mono ?_
          rintro e w2 ⟨rfl, b2⟩
          have b12 := hB.trans (b2.mono hB.size)
          clear hB b2 cM
          obtain ⟨r0, r1, r2, f0, f1, f2, hB2, hz⟩ := one_all b12
          have HB2 := Lib.hid hB2
          clear hB2 b12
          go_wp2
          exact bodyPost_ret (v := .tuple #[.agg #[.bool dn, .string dd, .int .i64 dsc], .int .i64 dq]) (by simp [results, Tryz.results10, go_sem, r0, r1, r2]) rfl ⟨by rw [HV3.out], ((HB2.out.setCell (by simp) _).setCell (by simp) _).setCell (by simp) _⟩
      · have HV : Hid (R = finV false t 0) := by
          show _ = _
          rw [← HR.out]
          unfold readV
          rw [HF.out, if_neg (by omega)]
        have za := htz
        clear HR HF HA hgk hFz hkF hlt hk
        have cD := fun W => rdigits_any t (by unfold maxLen; omega) W
        obtain ⟨q, hq⟩ : ∃ q, digB t.data.toList = q := ⟨_, rfl⟩
        unfold finV at HV
        have HV2 := HV.out
        rw [hq] at cD HV2
        cases q with
        | false =>
          have HV3 := Lib.hid HV2
          clear HV HV2 hq za
          go_wp2_with fail
          refine (cD _).mono ?_
          rintro e w1 ⟨rfl, rfl⟩
          obtain ⟨r0, r1, r2, f0, f1, f2, hB2, hz⟩ := one_all hB
          have HB2 := Lib.hid hB2
          clear hB hB2 cD
          go_wp2
          exact bodyPost_ret (v := .tuple #[.agg #[.bool false, .string ⟨#[]⟩, .int .i64 0], .int .i64 6]) (by simp [results, Tryz.results10, go_sem, r0, r1, r2]) rfl ⟨by rw [HV3.out]; rfl, ((HB2.out.setCell (by simp) _).setCell (by simp) _).setCell (by simp) _⟩
        | true =>
          obtain ⟨hall, hne⟩ := (digB_iff _).1 hq
          have cM := fun W => made_num false t (val t.data.toList) 0 ⟨hall, hne, rfl⟩ za (by omega) W
          rw [if_pos rfl] at HV2
          obtain ⟨dn, dd, dsc, dq, hd⟩ : ∃ dn dd dsc dq, decR (mkDec false (val t.data.toList) 0) = .tuple #[.agg #[.bool dn, .string dd, .int .i64 dsc], .int .i64 dq] := ⟨_, _, _, _, rfl⟩
          rw [hd] at cM HV2
          have HV3 := Lib.hid HV2
          clear HV HV2 hq za hall hne hd
          go_wp2_with fail
          refine (cD _).mono ?_
          rintro e w1 ⟨rfl, rfl⟩
          clear cD
          go_wp2_with fail
          refine (cM _).mono ?_
          rintro e w2 ⟨rfl, b2⟩
          have b12 := hB.trans (b2.mono hB.size)
          clear hB b2 cM
          obtain ⟨r0, r1, r2, f0, f1, f2, hB2, hz⟩ := one_all b12
          have HB2 := Lib.hid hB2
          clear hB2 b12
          go_wp2
          exact bodyPost_ret (v := .tuple #[.agg #[.bool dn, .string dd, .int .i64 dsc], .int .i64 dq]) (by simp [results, Tryz.results10, go_sem, r0, r1, r2]) rfl ⟨by rw [HV3.out], ((HB2.out.setCell (by simp) _).setCell (by simp) _).setCell (by simp) _⟩

set_option maxRecDepth 100000 in
set_option maxHeartbeats 4000000 in
theorem read_b (s : ByteArray) (hs : s.size ≤ 50000) (hp : 0 < s.size) (h0 : ¬ (s[0].toNat : Int) = 45) (h1 : ¬ (s[0].toNat : Int) = 43) (w : World) :
    Calls Tryz.prog 10 #[.string s] w fun e w' => e = .returned (readV false s) ∧ Below w.heap.size w w' := by
  have hE : s.toList.isEmpty = false := ne_empty hp
  have b0 : ((s[0].toNat : Int) == 45) = false := beq_eq_false_iff_ne.2 h0
  have b1 : ((s[0].toNat : Int) == 43) = false := beq_eq_false_iff_ne.2 h1
  have htz : s.size ≤ 50000 := hs
  obtain ⟨R, hR⟩ : ∃ R, readV false s = R := ⟨_, rfl⟩
  rw [hR]
  have HR := Lib.hid hR
  clear hR
  obtain ⟨F, hF⟩ : ∃ F, ptAt s = F := ⟨_, rfl⟩
  have HF := Lib.hid hF
  have hFz : F ≤ s.size := by rw [← hF]; exact ptAt_le _
  obtain ⟨A, hA⟩ : ∃ A, s.extract 0 F ++ s.extract (F + 1) s.size = A := ⟨_, rfl⟩
  have HA := Lib.hid hA
  clear hF hA
  go_enter Tryz.func10, Tryz.ntmps10
  go_wp2
  clear h0 h1 hE hs
  go_loopg [5, 6, 7, 8] (s.size + 1) (fun gk v5 v6 v7 v8 wr => ∃ k : Nat, v8 = .int .i64 (k : Int) ∧ k ≤ s.size ∧ gk + k = s.size + 1 ∧ ((F < k ∧ v7 = .bool true ∧ v5 = .string A ∧ v6 = .int .i64 ((s.size - F - 1 : Nat) : Int)) ∨ (k ≤ F ∧ v7 = .bool false ∧ v5 = .string ⟨#[]⟩ ∧ v6 = .int .i64 0)) ∧ Below (w.alloc (.cells #[.bool false, .string ⟨#[]⟩, .int .i64 0] 23)).heap.size (w.alloc (.cells #[.bool false, .string ⟨#[]⟩, .int .i64 0] 23)) wr)
  case atStart => exact ⟨0, rfl, Nat.zero_le _, rfl, .inr ⟨Nat.zero_le _, rfl, rfl, rfl⟩, Below.refl _ _⟩
  case round =>
    obtain ⟨k, rfl, hk, hgk, hst, hB⟩ := hrel
    by_cases hlt : k < s.size
    · have hlti : (k : Int) < (s.size : Int) := by omega
      rcases hst with ⟨hFk, rfl, rfl, rfl⟩ | ⟨hkF, rfl, rfl, rfl⟩
      · by_cases h46 : (s[k].toNat : Int) = 46
        · have b46 : ((s[k].toNat : Int) == 46) = true := beq_iff_eq.2 h46
          clear h46
          go_wp2
          go_roundg (gk - 1)
          case measure => omega
          case rel => exact ⟨k + 1, by go_num, by omega, by omega, .inl ⟨by omega, rfl, rfl, rfl⟩, hB⟩
        · have b46 : ((s[k].toNat : Int) == 46) = false := beq_eq_false_iff_ne.2 h46
          clear h46
          go_wp2
          go_roundg (gk - 1)
          case measure => omega
          case rel => exact ⟨k + 1, by go_num, by omega, by omega, .inl ⟨by omega, rfl, rfl, rfl⟩, hB⟩
      · by_cases hkF2 : k = F
        · subst hkF2
          have h46 : s[k].toNat = 46 := by
            have h := ptAt_is (t := s) (by rw [HF.out]; exact hlt)
            have e : ptAt s = k := HF.out
            simp only [e] at h
            exact h
          have b46 : ((s[k].toNat : Int) == 46) = true := beq_iff_eq.2 (by omega)
          have s1 : (k : Int) + 1 ≤ (s.size : Int) := by omega
          have s2 : (k : Int) ≤ (s.size : Int) := by omega
          clear h46
          go_wp2
          go_quiet (fail)
          go_wp2
          go_roundg (gk - 1)
          case measure => omega
          case rel => exact ⟨k + 1, by go_num, by omega, by omega, .inl ⟨by omega, rfl, by rw [← HA.out], by first | go_num | (congr 1; omega)⟩, below_drewN hB _⟩
        · have h46 : ¬ (s[k].toNat : Int) = 46 := by
            have h := ptAt_not (t := s) (k := k) (by rw [HF.out]; omega) hlt
            omega
          have b46 : ((s[k].toNat : Int) == 46) = false := beq_eq_false_iff_ne.2 h46
          clear h46
          go_wp2
          go_roundg (gk - 1)
          case measure => omega
          case rel => exact ⟨k + 1, by go_num, by omega, by omega, .inr ⟨by omega, rfl, rfl, rfl⟩, hB⟩
    · obtain rfl : k = s.size := by omega
      rcases hst with ⟨hFk, rfl, rfl, rfl⟩ | ⟨hkF, rfl, rfl, rfl⟩
      · have HV : Hid (R = finV false A (s.size - F - 1)) := by
          show _ = _
          rw [← HR.out, ← HA.out]
          unfold readV
          rw [HF.out, if_pos hFk]
        have za : A.size ≤ 50000 := by rw [← HA.out, join_size _ _ hFk]; omega
        obtain ⟨sc, hsc⟩ : ∃ sc, s.size - F - 1 = sc := ⟨_, rfl⟩
        rw [hsc] at HV ⊢
        have hsc5 : sc ≤ 50000 := by omega
        clear hsc HR HF HA hgk hFz hFk hlt hk
        have cD := fun W => rdigits_any A (by unfold maxLen; omega) W
        obtain ⟨q, hq⟩ : ∃ q, digB A.data.toList = q := ⟨_, rfl⟩
        unfold finV at HV
        have HV2 := HV.out
        rw [hq] at cD HV2
        cases q with
        | false =>
          have HV3 := Lib.hid HV2
          clear HV HV2 hq za
          go_wp2_with fail
          refine (cD _).mono ?_
          rintro e w1 ⟨rfl, rfl⟩
          obtain ⟨r0, r1, r2, f0, f1, f2, hB2, hz⟩ := one_all hB
          have HB2 := Lib.hid hB2
          clear hB hB2 cD
          go_wp2
          exact bodyPost_ret (v := .tuple #[.agg #[.bool false, .string ⟨#[]⟩, .int .i64 0], .int .i64 6]) (by simp [results, Tryz.results10, go_sem, r0, r1, r2]) rfl ⟨by rw [HV3.out]; rfl, ((HB2.out.setCell (by simp) _).setCell (by simp) _).setCell (by simp) _⟩
        | true =>
          obtain ⟨hall, hne⟩ := (digB_iff _).1 hq
          have cM := fun W => made_num false A (val A.data.toList) sc ⟨hall, hne, rfl⟩ za (by omega) W
          rw [if_pos rfl] at HV2
          obtain ⟨dn, dd, dsc, dq, hd⟩ : ∃ dn dd dsc dq, decR (mkDec false (val A.data.toList) sc) = .tuple #[.agg #[.bool dn, .string dd, .int .i64 dsc], .int .i64 dq] := ⟨_, _, _, _, rfl⟩
          rw [hd] at cM HV2
          have HV3 := Lib.hid HV2
          clear HV HV2 hq za hall hne hd
          go_wp2_with fail
          refine (cD _).mono ?_
          rintro e w1 ⟨rfl, rfl⟩
          clear cD
          go_wp2_with fail
          refine (cM _).mono ?_
          rintro e w2 ⟨rfl, b2⟩
          have b12 := hB.trans (b2.mono hB.size)
          clear hB b2 cM
          obtain ⟨r0, r1, r2, f0, f1, f2, hB2, hz⟩ := one_all b12
          have HB2 := Lib.hid hB2
          clear hB2 b12
          go_wp2
          exact bodyPost_ret (v := .tuple #[.agg #[.bool dn, .string dd, .int .i64 dsc], .int .i64 dq]) (by simp [results, Tryz.results10, go_sem, r0, r1, r2]) rfl ⟨by rw [HV3.out], ((HB2.out.setCell (by simp) _).setCell (by simp) _).setCell (by simp) _⟩
      · have HV : Hid (R = finV false s 0) := by
          show _ = _
          rw [← HR.out]
          unfold readV
          rw [HF.out, if_neg (by omega)]
        have za := htz
        clear HR HF HA hgk hFz hkF hlt hk
        have cD := fun W => rdigits_any s (by unfold maxLen; omega) W
        obtain ⟨q, hq⟩ : ∃ q, digB s.data.toList = q := ⟨_, rfl⟩
        unfold finV at HV
        have HV2 := HV.out
        rw [hq] at cD HV2
        cases q with
        | false =>
          have HV3 := Lib.hid HV2
          clear HV HV2 hq za
          go_wp2_with fail
          refine (cD _).mono ?_
          rintro e w1 ⟨rfl, rfl⟩
          obtain ⟨r0, r1, r2, f0, f1, f2, hB2, hz⟩ := one_all hB
          have HB2 := Lib.hid hB2
          clear hB hB2 cD
          go_wp2
          exact bodyPost_ret (v := .tuple #[.agg #[.bool false, .string ⟨#[]⟩, .int .i64 0], .int .i64 6]) (by simp [results, Tryz.results10, go_sem, r0, r1, r2]) rfl ⟨by rw [HV3.out]; rfl, ((HB2.out.setCell (by simp) _).setCell (by simp) _).setCell (by simp) _⟩
        | true =>
          obtain ⟨hall, hne⟩ := (digB_iff _).1 hq
          have cM := fun W => made_num false s (val s.data.toList) 0 ⟨hall, hne, rfl⟩ za (by omega) W
          rw [if_pos rfl] at HV2
          obtain ⟨dn, dd, dsc, dq, hd⟩ : ∃ dn dd dsc dq, decR (mkDec false (val s.data.toList) 0) = .tuple #[.agg #[.bool dn, .string dd, .int .i64 dsc], .int .i64 dq] := ⟨_, _, _, _, rfl⟩
          rw [hd] at cM HV2
          have HV3 := Lib.hid HV2
          clear HV HV2 hq za hall hne hd
          go_wp2_with fail
          refine (cD _).mono ?_
          rintro e w1 ⟨rfl, rfl⟩
          clear cD
          go_wp2_with fail
          refine (cM _).mono ?_
          rintro e w2 ⟨rfl, b2⟩
          have b12 := hB.trans (b2.mono hB.size)
          clear hB b2 cM
          obtain ⟨r0, r1, r2, f0, f1, f2, hB2, hz⟩ := one_all b12
          have HB2 := Lib.hid hB2
          clear hB2 b12
          go_wp2
          exact bodyPost_ret (v := .tuple #[.agg #[.bool dn, .string dd, .int .i64 dsc], .int .i64 dq]) (by simp [results, Tryz.results10, go_sem, r0, r1, r2]) rfl ⟨by rw [HV3.out], ((HB2.out.setCell (by simp) _).setCell (by simp) _).setCell (by simp) _⟩

set_option maxRecDepth 100000 in
set_option maxHeartbeats 4000000 in
theorem read_e (s : ByteArray) (hs : s.size ≤ 50000) (hp : s.size = 0) (w : World) :
    Calls Tryz.prog 10 #[.string s] w fun e w' => e = .returned (readV false s) ∧ Below w.heap.size w w' := by
  have hE : s.toList.isEmpty = true := is_empty hp
  have htz : s.size ≤ 50000 := hs
  obtain ⟨R, hR⟩ : ∃ R, readV false s = R := ⟨_, rfl⟩
  rw [hR]
  have HR := Lib.hid hR
  clear hR
  obtain ⟨F, hF⟩ : ∃ F, ptAt s = F := ⟨_, rfl⟩
  have HF := Lib.hid hF
  have hFz : F ≤ s.size := by rw [← hF]; exact ptAt_le _
  obtain ⟨A, hA⟩ : ∃ A, s.extract 0 F ++ s.extract (F + 1) s.size = A := ⟨_, rfl⟩
  have HA := Lib.hid hA
  clear hF hA
  go_enter Tryz.func10, Tryz.ntmps10
  go_wp2
  clear hE hs
  go_loopg [5, 6, 7, 8] (s.size + 1) (fun gk v5 v6 v7 v8 wr => ∃ k : Nat, v8 = .int .i64 (k : Int) ∧ k ≤ s.size ∧ gk + k = s.size + 1 ∧ ((F < k ∧ v7 = .bool true ∧ v5 = .string A ∧ v6 = .int .i64 ((s.size - F - 1 : Nat) : Int)) ∨ (k ≤ F ∧ v7 = .bool false ∧ v5 = .string ⟨#[]⟩ ∧ v6 = .int .i64 0)) ∧ Below (w.alloc (.cells #[.bool false, .string ⟨#[]⟩, .int .i64 0] 23)).heap.size (w.alloc (.cells #[.bool false, .string ⟨#[]⟩, .int .i64 0] 23)) wr)
  case atStart => exact ⟨0, rfl, Nat.zero_le _, rfl, .inr ⟨Nat.zero_le _, rfl, rfl, rfl⟩, Below.refl _ _⟩
  case round =>
    obtain ⟨k, rfl, hk, hgk, hst, hB⟩ := hrel
    have hk0 : k = 0 := by omega
    subst hk0
    rcases hst with ⟨hFk, _, _, _⟩ | ⟨hkF, rfl, rfl, rfl⟩
    · omega
    have hq : digB s.data.toList = false := by
      have h1 := is_empty hp
      rw [Lib.toList_data] at h1
      unfold digB
      rw [h1]
      simp
    have HV : Hid (R = .tuple #[decNil.v, .int .i64 6]) := by
      show _ = _
      rw [← HR.out]
      unfold readV finV
      rw [HF.out, if_neg (by omega), hq]
      rfl
    have cD := fun W => rdigits_any s (by unfold maxLen; omega) W
    rw [hq] at cD
    have hlti : ¬ ((0 : Nat) : Int) < (s.size : Int) := by omega
    clear HR HF HA hgk hFz hkF hk hq
    go_wp2_with fail
    refine (cD _).mono ?_
    rintro e w1 ⟨rfl, rfl⟩
    obtain ⟨r0, r1, r2, f0, f1, f2, hB2, hz⟩ := one_all hB
    have HB2 := Lib.hid hB2
    clear hB hB2 cD
    go_wp2
    exact bodyPost_ret (v := .tuple #[.agg #[.bool false, .string ⟨#[]⟩, .int .i64 0], .int .i64 6]) (by simp [results, Tryz.results10, go_sem, r0, r1, r2]) rfl ⟨by rw [HV.out]; rfl, ((HB2.out.setCell (by simp) _).setCell (by simp) _).setCell (by simp) _⟩

theorem read_any (s : ByteArray) (hs : s.size ≤ 50000) (w : World) :
    Calls Tryz.prog 10 #[.string s] w fun e w' => e = .returned (readSpec s) ∧ Below w.heap.size w w' := by
  unfold readSpec
  by_cases hp : 0 < s.size
  · rw [dif_pos hp]
    by_cases h45 : s[0].toNat = 45
    · rw [if_pos h45]
      exact read_m s hs hp (by omega) _ rfl w
    · rw [if_neg h45]
      by_cases h43 : s[0].toNat = 43
      · rw [if_pos h43]
        exact read_p s hs hp (by omega) _ rfl w
      · rw [if_neg h43]
        exact read_b s hs hp (by omega) (by omega) w
  · rw [dif_neg hp]
    exact read_e s hs (by omega) w
end Go.Proofs.YtcpociafcjabkaaGreatDoor

/- What the functions of decimal answer, said once for each; the reference answers so. -/
namespace Go.Proofs.YtcpociafcjabkaaGreatDoor
open Go.RowKit

/-- A decimal and an error. -/
structure DRes where
  d : Dec
  e : Int
def DRes.v (r : DRes) : Value := .tuple #[r.d.v, .int .i64 r.e]
def ofOpt (r : Option Dec) : DRes := ⟨r.getD decNil, if r.isSome then 0 else 7⟩
theorem ofOpt_v (r : Option Dec) : decR r = (ofOpt r).v := rfl
def argRes : DRes := ⟨decNil, 2⟩
theorem argR_v : argR = argRes.v := rfl

def num (a : Dec) : Nat := val a.ds.data.toList
def scl (a : Dec) : Nat := a.sc.toNat
theorem IsDec.num_eq {a : Dec} {n s : Nat} (h : IsDec a n s) : Go.Proofs.YtcpociafcjabkaaGreatDoor.num a = n := by
  unfold Go.Proofs.YtcpociafcjabkaaGreatDoor.num
  rw [h.ds, numS_list, digs_val]
theorem IsDec.scl_eq {a : Dec} {n s : Nat} (h : IsDec a n s) : scl a = s := by
  unfold scl
  rw [h.sc]
  rfl
theorem Valid.is {a : Dec} (h : Valid a) : IsDec a (num a) (scl a) := by
  obtain ⟨n, s, h⟩ := h
  rw [h.num_eq, h.scl_eq]
  exact h
theorem Valid.sc {a : Dec} (h : Valid a) : a.sc = (scl a : Int) := h.is.sc

open Classical in
noncomputable def addS (a b : Dec) : DRes := if Valid a ∧ Valid b then ofOpt (sumSpec a.neg (num a) (scl a) b.neg (num b) (scl b)) else argRes
open Classical in
noncomputable def subS (a b : Dec) : DRes := if Valid a ∧ Valid b then ofOpt (sumSpec a.neg (num a) (scl a) (!b.neg && decide (num b ≠ 0)) (num b) (scl b)) else argRes
open Classical in
noncomputable def mulS (a b : Dec) : DRes := if Valid a ∧ Valid b then ofOpt (mkDec (a.neg != b.neg) (num a * num b) (scl a + scl b)) else argRes
open Classical in
noncomputable def divS (a b : Dec) (k : Int) : DRes := if (Valid a ∧ Valid b) ∧ num b ≠ 0 ∧ 0 ≤ k ∧ k ≤ 60 then ofOpt (divSpec a.neg (num a) (scl a) b.neg (num b) (scl b) k.toNat) else argRes
open Classical in
noncomputable def negS (a : Dec) : DRes := if Valid a then ⟨⟨!a.neg && decide (num a ≠ 0), a.ds, a.sc⟩, 0⟩ else argRes
/-- How two valid decimals are ordered. -/
def ordS (a b : Dec) : Int := if a.neg = b.neg ∧ a.ds = b.ds ∧ a.sc = b.sc then 0 else cmpSpec a.neg (num a * 10 ^ (max (scl a) (scl b) - scl a)) b.neg (num b * 10 ^ (max (scl a) (scl b) - scl b))
open Classical in
noncomputable def cmpS (a b : Dec) : Int × Int := if Valid a ∧ Valid b then (ordS a b, 0) else (0, 2)
open Classical in
noncomputable def roundS (a : Dec) (k : Int) : DRes := if Valid a ∧ 0 ≤ k ∧ k ≤ 60 then (if a.sc ≤ k then ⟨a, 0⟩ else ofOpt (mkDec a.neg (roundTo (num a) (scl a) k.toNat) k.toNat)) else argRes
open Classical in
noncomputable def digS (a : Dec) : Int × Int × Int := if Valid a then (max (a.ds.size : Int) a.sc, a.sc, 0) else (0, 0, 2)
open Classical in
noncomputable def textS (a : Dec) : ByteArray × Int := if Valid a then (textOf a, 0) else (⟨#[]⟩, 2)
def finS (neg : Bool) (a : ByteArray) (sc : Nat) : DRes := if digB a.data.toList then ofOpt (mkDec neg (val a.data.toList) sc) else ⟨decNil, 6⟩
def bodyS (neg : Bool) (t : ByteArray) : DRes := if ptAt t < t.size then finS neg (t.extract 0 (ptAt t) ++ t.extract (ptAt t + 1) t.size) (t.size - ptAt t - 1) else finS neg t 0
def readS (s : ByteArray) : DRes :=
  if h : 0 < s.size then
    if s[0].toNat = 45 then bodyS true (s.extract 1 s.size) else if s[0].toNat = 43 then bodyS false (s.extract 1 s.size) else bodyS false s
  else bodyS false s
theorem finV_eq (neg : Bool) (a : ByteArray) (sc : Nat) : finV neg a sc = (finS neg a sc).v := by
  unfold finV finS
  split <;> rfl
theorem readV_eq (neg : Bool) (t : ByteArray) : readV neg t = (bodyS neg t).v := by
  unfold readV bodyS
  split <;> exact finV_eq _ _ _
theorem readSpec_eq (s : ByteArray) : readSpec s = (readS s).v := by
  unfold readSpec readS
  split
  · split
    · exact readV_eq _ _
    · split <;> exact readV_eq _ _
  · exact readV_eq _ _

theorem r_check (a : Dec) (za : a.ds.size ≤ maxLen) (w : World) : Calls Tryz.prog 14 #[a.v] w fun e w' => e = .returned (.int .i64 (chkR a)) ∧ Below w.heap.size w w' :=
  check_any a.neg a.ds a.sc za w
theorem r_of (n : Int) (h0 : -9223372036854775808 ≤ n) (h1 : n ≤ 9223372036854775807) (w : World) : Calls Tryz.prog 16 #[.int .i64 n] w fun e w' => e = .returned (ofSpec n).v ∧ Below w.heap.size w w' := of_any n h0 h1 w
theorem r_read (s : ByteArray) (hs : s.size ≤ 400) (w : World) : Calls Tryz.prog 10 #[.string s] w fun e w' => e = .returned (readS s).v ∧ Below w.heap.size w w' := by
  rw [← readSpec_eq]
  exact read_any s (by omega) w
theorem r_text (a : Dec) (za : a.ds.size ≤ 400) (w : World) : Calls Tryz.prog 12 #[a.v] w fun e w' => e = .returned (.tuple #[.string (textS a).1, .int .i64 (textS a).2]) ∧ Below w.heap.size w w' := by
  unfold textS
  split
  · next h => exact text_ok a.neg a.ds a.sc _ _ h.is w
  · next h => exact text_bad a.neg a.ds a.sc (by unfold maxLen; omega) h w
theorem r_digits (a : Dec) (za : a.ds.size ≤ 400) (w : World) : Calls Tryz.prog 32 #[a.v] w fun e w' => e = .returned (.tuple #[.int .i64 (digS a).1, .int .i64 (digS a).2.1, .int .i64 (digS a).2.2]) ∧ Below w.heap.size w w' := by
  unfold digS
  split
  · next h =>
    have h1 := h.is
    obtain ⟨neg, ds, sc⟩ := a
    have h2 := h.sc
    simp only at h2 h1 ⊢
    generalize scl _ = s at h1 h2
    subst h2
    exact digits_ok neg ds s _ _ h1 w
  · next h => exact digits_bad a.neg a.ds a.sc (by unfold maxLen; omega) h w
theorem r_add (a b : Dec) (za : a.ds.size ≤ 400) (zb : b.ds.size ≤ 400) (w : World) : Calls Tryz.prog 18 #[a.v, b.v] w fun e w' => e = .returned (addS a b).v ∧ Below w.heap.size w w' := by
  unfold addS
  split
  · next h =>
    obtain ⟨n1, d1, s1⟩ := a
    obtain ⟨n2, d2, s2⟩ := b
    have h1 := h.1.is
    have h2 := h.2.is
    have k1 := h.1.sc
    have k2 := h.2.sc
    simp only at k1 k2 h1 h2 ⊢
    generalize scl ⟨n1, d1, s1⟩ = s at h1 k1 ⊢
    generalize scl ⟨n2, d2, s2⟩ = t at h2 k2 ⊢
    generalize num ⟨n1, d1, s1⟩ = n at h1 ⊢
    generalize num ⟨n2, d2, s2⟩ = m at h2 ⊢
    clear h
    subst k1 k2
    exact add_ok n1 n2 d1 d2 s t n m h1 h2 w
  · next h =>
    by_cases h1 : Valid a
    · exact add_bad2 a.neg b.neg a.ds b.ds a.sc b.sc (by unfold maxLen; omega) (by unfold maxLen; omega) h1 (fun h2 => h ⟨h1, h2⟩) w
    · exact add_bad1 a.neg b.neg a.ds b.ds a.sc b.sc (by unfold maxLen; omega) h1 w
theorem r_sub (a b : Dec) (za : a.ds.size ≤ 400) (zb : b.ds.size ≤ 400) (w : World) : Calls Tryz.prog 20 #[a.v, b.v] w fun e w' => e = .returned (subS a b).v ∧ Below w.heap.size w w' := by
  unfold subS
  split
  · next h =>
    obtain ⟨n1, d1, s1⟩ := a
    obtain ⟨n2, d2, s2⟩ := b
    have h1 := h.1.is
    have h2 := h.2.is
    have k1 := h.1.sc
    have k2 := h.2.sc
    simp only at k1 k2 h1 h2 ⊢
    generalize scl ⟨n1, d1, s1⟩ = s at h1 k1 ⊢
    generalize scl ⟨n2, d2, s2⟩ = t at h2 k2 ⊢
    generalize num ⟨n1, d1, s1⟩ = n at h1 ⊢
    generalize num ⟨n2, d2, s2⟩ = m at h2 ⊢
    clear h
    subst k1 k2
    exact sub_ok n1 n2 d1 d2 s t n m h1 h2 w
  · next h =>
    by_cases h1 : Valid a
    · exact sub_bad2 a.neg b.neg a.ds b.ds a.sc b.sc (by unfold maxLen; omega) (by unfold maxLen; omega) h1 (fun h2 => h ⟨h1, h2⟩) w
    · exact sub_bad1 a.neg b.neg a.ds b.ds a.sc b.sc (by unfold maxLen; omega) h1 w
theorem r_mul (a b : Dec) (za : a.ds.size ≤ 400) (zb : b.ds.size ≤ 400) (w : World) : Calls Tryz.prog 22 #[a.v, b.v] w fun e w' => e = .returned (mulS a b).v ∧ Below w.heap.size w w' := by
  unfold mulS
  split
  · next h =>
    obtain ⟨n1, d1, s1⟩ := a
    obtain ⟨n2, d2, s2⟩ := b
    have h1 := h.1.is
    have h2 := h.2.is
    have k1 := h.1.sc
    have k2 := h.2.sc
    simp only at k1 k2 h1 h2 ⊢
    generalize scl ⟨n1, d1, s1⟩ = s at h1 k1 ⊢
    generalize scl ⟨n2, d2, s2⟩ = t at h2 k2 ⊢
    generalize num ⟨n1, d1, s1⟩ = n at h1 ⊢
    generalize num ⟨n2, d2, s2⟩ = m at h2 ⊢
    clear h
    subst k1 k2
    exact mul_ok n1 n2 d1 d2 s t n m h1 h2 w
  · next h =>
    by_cases h1 : Valid a
    · exact mul_bad2 a.neg b.neg a.ds b.ds a.sc b.sc (by unfold maxLen; omega) (by unfold maxLen; omega) h1 (fun h2 => h ⟨h1, h2⟩) w
    · exact mul_bad1 a.neg b.neg a.ds b.ds a.sc b.sc (by unfold maxLen; omega) h1 w
theorem r_neg (a : Dec) (za : a.ds.size ≤ 400) (w : World) : Calls Tryz.prog 24 #[a.v] w fun e w' => e = .returned (negS a).v ∧ Below w.heap.size w w' := by
  unfold negS
  split
  · next h => exact neg_ok a.neg a.ds a.sc _ _ h.is w
  · next h => exact neg_bad a.neg a.ds a.sc (by unfold maxLen; omega) h w
theorem is_zero {a : Dec} (h : Valid a) : (a.ds.toList == [48]) = decide (num a = 0) := by
  have h1 := h.is.ds
  rw [h1, numS_toList, ← digs_zero]
  have h2 := numS_inj (m := num a) (n := 0)
  rw [numS_toList, numS_toList] at h2
  exact h2
theorem r_div (a b : Dec) (k : Int) (za : a.ds.size ≤ 400) (zb : b.ds.size ≤ 400) (w : World) : Calls Tryz.prog 28 #[a.v, b.v, .int .i64 k] w fun e w' => e = .returned (divS a b k).v ∧ Below w.heap.size w w' := by
  unfold divS
  split
  · next h =>
    obtain ⟨h, hb0, k0, k60⟩ := h
    obtain ⟨k, rfl⟩ : ∃ j : Nat, k = (j : Int) := ⟨k.toNat, by omega⟩
    obtain ⟨n1, d1, s1⟩ := a
    obtain ⟨n2, d2, s2⟩ := b
    have h1 := h.1.is
    have h2 := h.2.is
    have k1 := h.1.sc
    have k2 := h.2.sc
    simp only at k1 k2 h1 h2 ⊢
    generalize scl ⟨n1, d1, s1⟩ = s at h1 k1 ⊢
    generalize scl ⟨n2, d2, s2⟩ = t at h2 k2 ⊢
    generalize num ⟨n1, d1, s1⟩ = n at h1 ⊢
    generalize num ⟨n2, d2, s2⟩ = m at h2 hb0 ⊢
    clear h
    subst k1 k2
    exact div_ok n1 n2 d1 d2 s t n m k h1 h2 hb0 (by omega) w
  · next h =>
    by_cases h1 : Valid a
    · by_cases h2 : Valid b
      · by_cases h3 : num b = 0
        · exact div_bad3 a.neg b.neg a.ds b.ds a.sc b.sc k (by unfold maxLen; omega) (by unfold maxLen; omega) h1 h2 (by rw [is_zero h2, h3]; rfl) w
        · have e3 : (b.ds.toList == [48]) = false := by rw [is_zero h2, decide_eq_false h3]
          by_cases h4 : k < 0
          · exact div_bad4 a.neg b.neg a.ds b.ds a.sc b.sc k (by unfold maxLen; omega) (by unfold maxLen; omega) h1 h2 e3 h4 w
          · exact div_bad5 a.neg b.neg a.ds b.ds a.sc b.sc k (by unfold maxLen; omega) (by unfold maxLen; omega) h1 h2 e3 (by
              rcases Int.lt_or_le 60 k with h5 | h5
              · exact h5
              · exact absurd ⟨⟨h1, h2⟩, h3, by omega, h5⟩ h) w
      · exact div_bad2 a.neg b.neg a.ds b.ds a.sc b.sc k (by unfold maxLen; omega) (by unfold maxLen; omega) h1 h2 w
    · exact div_bad1 a.neg b.neg a.ds b.ds a.sc b.sc k (by unfold maxLen; omega) h1 w
theorem r_round (a : Dec) (k : Int) (za : a.ds.size ≤ 400) (w : World) : Calls Tryz.prog 30 #[a.v, .int .i64 k] w fun e w' => e = .returned (roundS a k).v ∧ Below w.heap.size w w' := by
  unfold roundS
  split
  · next h =>
    obtain ⟨h, k0, k60⟩ := h
    obtain ⟨k, rfl⟩ : ∃ j : Nat, k = (j : Int) := ⟨k.toNat, by omega⟩
    obtain ⟨n1, d1, s1⟩ := a
    have h1 := h.is
    have k1 := h.sc
    simp only at k1 h1 ⊢
    generalize scl ⟨n1, d1, s1⟩ = s at h1 k1 ⊢
    generalize num ⟨n1, d1, s1⟩ = n at h1 ⊢
    clear h
    subst k1
    split
    · next h2 => exact round_same n1 d1 s n k h1 (by omega) (by omega) w
    · next h2 => exact round_ok n1 d1 s n k h1 (by omega) w
  · next h =>
    by_cases h1 : Valid a
    · by_cases h2 : k < 0
      · exact round_bad2 a.neg a.ds a.sc k (by unfold maxLen; omega) h1 h2 w
      · exact round_bad3 a.neg a.ds a.sc k (by unfold maxLen; omega) h1 (by
          rcases Int.lt_or_le 60 k with h5 | h5
          · exact h5
          · exact absurd ⟨h1, by omega, h5⟩ h) w
    · exact round_bad1 a.neg a.ds a.sc k (by unfold maxLen; omega) h1 w
theorem r_cmp (a b : Dec) (za : a.ds.size ≤ 400) (zb : b.ds.size ≤ 400) (w : World) : Calls Tryz.prog 26 #[a.v, b.v] w fun e w' => e = .returned (.tuple #[.int .i64 (cmpS a b).1, .int .i64 (cmpS a b).2]) ∧ Below w.heap.size w w' := by
  unfold cmpS
  split
  · next h =>
    unfold ordS
    obtain ⟨n1, d1, s1⟩ := a
    obtain ⟨n2, d2, s2⟩ := b
    have h1 := h.1.is
    have h2 := h.2.is
    have k1 := h.1.sc
    have k2 := h.2.sc
    simp only at k1 k2 h1 h2 ⊢
    generalize scl ⟨n1, d1, s1⟩ = s at h1 k1 ⊢
    generalize scl ⟨n2, d2, s2⟩ = t at h2 k2 ⊢
    generalize num ⟨n1, d1, s1⟩ = n at h1 ⊢
    generalize num ⟨n2, d2, s2⟩ = m at h2 ⊢
    clear h za zb
    subst k1 k2
    by_cases hn : n1 = n2
    · subst hn
      by_cases hd : d1 = d2
      · subst hd
        by_cases hs : (s : Int) = (t : Int)
        · rw [if_pos ⟨rfl, rfl, hs⟩]
          have : s = t := by omega
          subst this
          exact cmp_eq n1 d1 s n h1 w
        · rw [if_neg (fun h => hs h.2.2)]
          cases n1 with
          | true => exact cmp_scale_t d1 s t n m h1 h2 hs w
          | false => exact cmp_scale_f d1 s t n m h1 h2 hs w
      · have hl : ¬ d1.toList = d2.toList := fun e => hd (bytes_ext (by rw [← Lib.toList_data, ← Lib.toList_data]; exact e))
        rw [if_neg (fun h => hd h.2.1)]
        cases n1 with
        | true => exact cmp_text_t d1 d2 s t n m h1 h2 hl w
        | false => exact cmp_text_f d1 d2 s t n m h1 h2 hl w
    · rw [if_neg (fun h => hn h.1)]
      cases n1 with
      | true =>
        cases n2 with
        | true => exact absurd rfl hn
        | false => exact cmp_tf d1 d2 s t n m h1 h2 w
      | false =>
        cases n2 with
        | true => exact cmp_ft d1 d2 s t n m h1 h2 w
        | false => exact absurd rfl hn
  · next h =>
    by_cases h1 : Valid a
    · exact cmp_bad2 a.neg b.neg a.ds b.ds a.sc b.sc (by unfold maxLen; omega) (by unfold maxLen; omega) h1 (fun h2 => h ⟨h1, h2⟩) w
    · exact cmp_bad1 a.neg b.neg a.ds b.ds a.sc b.sc (by unfold maxLen; omega) h1 w
end Go.Proofs.YtcpociafcjabkaaGreatDoor

/- What is asked of the program's functions; the statements' own helpers read and text. -/
namespace Go.Proofs.YtcpociafcjabkaaGreatDoor
open Go.RowKit

/-- The program's functions answer as the reference does, in the worlds of P. -/
structure ProgOk (P : World → Prop) : Prop where
  below : ∀ {w w' : World}, P w → Below w.heap.size w w' → P w'
  check : ∀ (a : Dec) (w : World), a.ds.size ≤ maxLen → P w → Calls Tryz.prog 13 #[a.v] w fun e w' => e = .returned (.int .i64 (chkR a)) ∧ Below w.heap.size w w'
  of : ∀ (n : Int) (w : World), -9223372036854775808 ≤ n → n ≤ 9223372036854775807 → P w → Calls Tryz.prog 15 #[.int .i64 n] w fun e w' => e = .returned (ofSpec n).v ∧ Below w.heap.size w w'
  read : ∀ (s : ByteArray) (w : World), s.size ≤ 400 → P w → Calls Tryz.prog 9 #[.string s] w fun e w' => e = .returned (readS s).v ∧ Below w.heap.size w w'
  text : ∀ (a : Dec) (w : World), a.ds.size ≤ 400 → P w → Calls Tryz.prog 11 #[a.v] w fun e w' => e = .returned (.tuple #[.string (textS a).1, .int .i64 (textS a).2]) ∧ Below w.heap.size w w'
  digits : ∀ (a : Dec) (w : World), a.ds.size ≤ 400 → P w → Calls Tryz.prog 31 #[a.v] w fun e w' => e = .returned (.tuple #[.int .i64 (digS a).1, .int .i64 (digS a).2.1, .int .i64 (digS a).2.2]) ∧ Below w.heap.size w w'
  add : ∀ (a b : Dec) (w : World), a.ds.size ≤ 400 → b.ds.size ≤ 400 → P w → Calls Tryz.prog 17 #[a.v, b.v] w fun e w' => e = .returned (addS a b).v ∧ Below w.heap.size w w'
  sub : ∀ (a b : Dec) (w : World), a.ds.size ≤ 400 → b.ds.size ≤ 400 → P w → Calls Tryz.prog 19 #[a.v, b.v] w fun e w' => e = .returned (subS a b).v ∧ Below w.heap.size w w'
  mul : ∀ (a b : Dec) (w : World), a.ds.size ≤ 400 → b.ds.size ≤ 400 → P w → Calls Tryz.prog 21 #[a.v, b.v] w fun e w' => e = .returned (mulS a b).v ∧ Below w.heap.size w w'
  neg : ∀ (a : Dec) (w : World), a.ds.size ≤ 400 → P w → Calls Tryz.prog 23 #[a.v] w fun e w' => e = .returned (negS a).v ∧ Below w.heap.size w w'
  div : ∀ (a b : Dec) (k : Int) (w : World), a.ds.size ≤ 400 → b.ds.size ≤ 400 → P w → Calls Tryz.prog 27 #[a.v, b.v, .int .i64 k] w fun e w' => e = .returned (divS a b k).v ∧ Below w.heap.size w w'
  round : ∀ (a : Dec) (k : Int) (w : World), a.ds.size ≤ 400 → P w → Calls Tryz.prog 29 #[a.v, .int .i64 k] w fun e w' => e = .returned (roundS a k).v ∧ Below w.heap.size w w'
  cmp : ∀ (a b : Dec) (w : World), a.ds.size ≤ 400 → b.ds.size ≤ 400 → P w → Calls Tryz.prog 25 #[a.v, b.v] w fun e w' => e = .returned (.tuple #[.int .i64 (cmpS a b).1, .int .i64 (cmpS a b).2]) ∧ Below w.heap.size w w'

set_option maxRecDepth 100000 in
set_option maxHeartbeats 2000000 in
theorem l_read (s : ByteArray) (hs : s.size ≤ 400) (w : World) : Calls Tryz.prog 35 #[.string s] w fun e w' => e = .returned (readS s).d.v ∧ Below w.heap.size w w' := by
  have c := fun W => r_read s hs W
  unfold DRes.v Dec.v at c
  unfold Dec.v
  generalize (readS s).d.neg = n at c ⊢
  generalize (readS s).d.ds = d at c ⊢
  generalize (readS s).d.sc = k at c ⊢
  generalize (readS s).e = q at c
  go_enter Tryz.func35, Tryz.ntmps35
  go_wp2_with fail
  refine (c _).mono ?_
  rintro e w1 ⟨rfl, b1⟩
  obtain ⟨r0, r1, r2, f0, f1, f2, hB, hz⟩ := one_all (b1.alloc b1.size (.cells #[.bool n, .string d, .int .i64 k] 23))
  have HB := Lib.hid hB
  clear c hB b1
  go_wp2
  exact bodyPost_ret (v := .agg #[.bool n, .string d, .int .i64 k]) (by simp [results, Tryz.results35, go_sem, r0, r1, r2]) rfl ⟨rfl, ((HB.out.setCell (by simp) _).setCell (by simp) _).setCell (by simp) _⟩

set_option maxRecDepth 100000 in
set_option maxHeartbeats 2000000 in
theorem l_text {P : World → Prop} (ok : ProgOk P) (a : Dec) (za : a.ds.size ≤ 400) (w : World) (hP : P w) : Calls Tryz.prog 36 #[a.v, .int .i64 0] w fun e w' => e = .returned (.string (textS a).1) ∧ Below w.heap.size w w' := by
  have c := fun W => ok.text a W za
  have hP1 : P (w.alloc (.cells #[.bool a.neg, .string a.ds, .int .i64 a.sc] 23)) := ok.below hP ((Below.refl _ _).alloc (Nat.le_refl _) _)
  unfold Dec.v at c ⊢
  generalize (textS a).1 = s at c ⊢
  generalize (textS a).2 = q at c
  clear za
  obtain ⟨n, d, k⟩ := a
  simp only at c hP1 ⊢
  have HP := Lib.hid hP1
  clear hP hP1
  go_enter Tryz.func36, Tryz.ntmps36
  go_wp2_with fail
  refine (c _ HP.out).mono ?_
  rintro e w1 ⟨rfl, b1⟩
  obtain ⟨r0, r1, r2, f0, f1, f2, hB, hz⟩ := one_all b1
  have HB := Lib.hid hB
  clear c hB b1
  go_wp2
  go_ret
  exact ⟨rfl, HB.out⟩
set_option maxRecDepth 100000 in
set_option maxHeartbeats 2000000 in
theorem l_text_bad (a : Dec) (e : Int) (he : e ≠ 0) (w : World) : Calls Tryz.prog 36 #[a.v, .int .i64 e] w fun e w' => e = .returned (.string ⟨#[]⟩) ∧ Below w.heap.size w w' := by
  unfold Dec.v
  have hb : (e != 0) = true := by simp [he]
  go_enter Tryz.func36, Tryz.ntmps36
  go_wp2
  go_ret
  exact ⟨rfl, (Below.refl _ _).alloc (Nat.le_refl _) _⟩
end Go.Proofs.YtcpociafcjabkaaGreatDoor
