/- Which decimals are valid, as the program says it. -/
import Derived.Test.YtcpociafcjabkaaGreatDoorPJ
import Derived.Test.YtcpociafcjabkaaGreatDoorLB
set_option linter.unusedSimpArgs false
set_option linter.unusedVariables false
namespace Go.Proofs.YtcpociafcjabkaaGreatDoor
open Go.RowKit

set_option maxRecDepth 100000 in
set_option maxHeartbeats 2000000 in
theorem pdigits_any (s : ByteArray) (hs : s.size ≤ maxLen) (w : World) :
    Calls Tryz.prog 40 #[.string s] w fun e w' => e = .returned (.bool (digB s.data.toList)) ∧ w = w' := by
  obtain ⟨L, hL⟩ : ∃ L, s.data.toList = L := ⟨_, rfl⟩
  have hLs : L.length = s.size := by rw [← hL]; exact bytes_len s
  have HL := Lib.hid (And.intro hL hLs)
  unfold maxLen at hs
  have hemp : s.toList.isEmpty = L.isEmpty := by rw [Lib.toList_data, hL]
  rw [hL]
  clear hL hLs
  obtain ⟨q, hq⟩ : ∃ q, L.isEmpty = q := ⟨_, rfl⟩
  rw [hq] at hemp
  have HQ := Lib.hid hq
  clear hq
  go_enter Tryz.func40, Tryz.ntmps40
  go_wp2
  go_loopg [6] (s.size + 1) (fun gk v6 wr => ∃ k : Nat, v6 = .int .i64 (k : Int) ∧ k ≤ s.size ∧ gk + k = s.size + 1 ∧ Hid (allDB (L.take k) = true) ∧ wr = w)
  case atStart => exact ⟨0, rfl, Nat.zero_le _, rfl, Lib.hid rfl, rfl⟩
  case round =>
    obtain ⟨k, rfl, hk, hgk, HT, rfl⟩ := hrel
    by_cases hlt : k < s.size
    · have hkL : k < L.length := by rw [HL.out.2]; exact hlt
      have hget := byte_at HL.out.1 hlt hkL
      have hsplit : L = L.take k ++ L[k] :: L.drop (k + 1) := by rw [← List.drop_eq_getElem_cons hkL, List.take_append_drop]
      rw [← hget] at hsplit
      by_cases h1 : (s[k].toNat : Int) < 48
      · have hb : Hid (digB L = false) := by
          show _ = _
          unfold digB allDB
          rw [hsplit, List.all_append, List.all_cons]
          have : isD s[k] = false := by unfold isD; exact decide_eq_false (by omega)
          rw [this]
          simp
        clear hget hsplit hkL HT
        go_wp2
        go_ret
        exact ⟨by rw [hb.out]; rfl, rfl⟩
      by_cases h2 : 57 < (s[k].toNat : Int)
      · have hb : Hid (digB L = false) := by
          show _ = _
          unfold digB allDB
          rw [hsplit, List.all_append, List.all_cons]
          have : isD s[k] = false := by unfold isD; exact decide_eq_false (by omega)
          rw [this]
          simp
        clear hget hsplit hkL HT
        go_wp2
        go_ret
        exact ⟨by rw [hb.out]; rfl, rfl⟩
      have HT2 : Hid (allDB (L.take (k + 1)) = true) := by
        show _ = _
        rw [List.take_add_one, List.getElem?_eq_getElem hkL, ← hget]
        unfold allDB isD at *
        rw [Option.toList_some, List.all_append, HT.out]
        simp
        omega
      clear hget hsplit hkL HT
      go_wp2
      go_roundg (s.size - k)
      case measure => omega
      case rel => exact ⟨k + 1, by go_num, by omega, by omega, HT2, rfl⟩
    · obtain rfl : k = s.size := by omega
      have hb : Hid (digB L = !q) := by
        have h := HT.out
        rw [← HL.out.2, List.take_length] at h
        show _ = _
        unfold digB
        rw [h, HQ.out]
        rfl
      clear HT hlt
      go_wp2
      go_ret
      exact ⟨by rw [hb.out]; try rfl, rfl⟩
theorem t_zero (neg : Bool) (ds : ByteArray) (sc : Int) (w : World) :
    Calls Tryz.prog 61 #[.agg #[.bool neg, .string ds, .int .i64 sc]] w fun e w' => e = .returned (.bool (!neg && (ds.toList == [48]) && decide (sc = 0))) ∧ Below w.heap.size w w' := by
  go_enter Tryz.func61, Tryz.ntmps61
  go_wp2
  all_goals go_ret
  all_goals exact ⟨by simp_all, (Below.refl _ _).alloc (Nat.le_refl _) _⟩
theorem t_scale (sc : Int) (w : World) :
    Calls Tryz.prog 62 #[.int .i64 sc] w fun e w' => e = .returned (.bool (decide (0 ≤ sc ∧ sc ≤ 60))) ∧ w' = w := by
  by_cases h0 : 0 ≤ sc
  · go_enter Tryz.func62, Tryz.ntmps62
    go_wp2
    go_ret
    exact ⟨by simp [h0], rfl⟩
  · go_enter Tryz.func62, Tryz.ntmps62
    go_wp2
    go_ret
    exact ⟨by simp; omega, rfl⟩

open Classical in
noncomputable def vB (d : Dec) : Bool := if Valid d then true else false
theorem vB_ok {d : Dec} (h : Valid d) : vB d = true := by unfold vB; rw [if_pos h]
theorem vB_bad {d : Dec} (h : ¬ Valid d) : vB d = false := by unfold vB; rw [if_neg h]

set_option maxRecDepth 100000 in
set_option maxHeartbeats 4000000 in
theorem valid_any (neg : Bool) (ds : ByteArray) (sc : Int) (hz : ds.size ≤ maxLen) (w : World) :
    Calls Tryz.prog 73 #[.agg #[.bool neg, .string ds, .int .i64 sc]] w fun e w' => e = .returned (.bool (vB ⟨neg, ds, sc⟩)) ∧ Below w.heap.size w w' := by
  have cZ := fun W => t_zero neg ds sc W
  have cD := fun W => pdigits_any ds hz W
  have cS := fun W => t_scale sc W
  obtain ⟨zq, hzq⟩ : ∃ q, (!neg && (ds.toList == [48]) && decide (sc = 0)) = q := ⟨_, rfl⟩
  obtain ⟨q, hq⟩ : ∃ q, digB ds.data.toList = q := ⟨_, rfl⟩
  rw [hzq] at cZ
  rw [hq] at cD
  unfold maxLen at hz
  cases zq with
  | true =>
    have HR : Hid (vB ⟨neg, ds, sc⟩ = true) := by
      show _ = _
      simp only [Bool.and_eq_true, Bool.not_eq_true', beq_iff_eq, decide_eq_true_eq] at hzq
      obtain ⟨⟨rfl, h48⟩, rfl⟩ := hzq
      rw [Lib.toList_data] at h48
      exact vB_ok ⟨0, 0, bytes_ext (by rw [h48, numS_list, digs_zero]), rfl, by rw [digs_zero]; simp, by omega, fun _ => ⟨rfl, rfl⟩, fun h => absurd h (by omega)⟩
    clear hzq hq hz cD cS
    go_enter Tryz.func73, Tryz.ntmps73
    go_wp2_with (first
      | (go_at_call 61; refine (cZ _).mono ?_; rintro e w1 ⟨rfl, b1⟩; obtain ⟨r0, r1, r2, f0, f1, f2, hB, hz1⟩ := one_all b1; have HB := Lib.hid hB; clear b1 hB)
      | (go_at_call 40; refine (cD _).mono ?_; rintro e w2 ⟨rfl, rfl⟩)
      | (go_at_call 62; refine (cS _).mono ?_; rintro e w2 ⟨rfl, rfl⟩))
    all_goals go_ret
    all_goals exact ⟨by rw [HR.out]; try rfl, HB.out⟩
  | false =>
    have hzero : ∀ n s, IsDec ⟨neg, ds, sc⟩ n s → n ≠ 0 := fun n s h h0 => by
      obtain ⟨h1, h2⟩ := h.zero h0
      have h3 := h.sc
      have h4 := h.ds
      simp only at h1 h3 h4
      subst h1 h2 h0
      rw [h3, h4, numS_toList, digs_zero] at hzq
      simp at hzq
    by_cases h60 : 60 < ds.size
    · have h60i : ¬ (ds.size : Int) - 1 < 60 := by omega
      have HR : Hid (vB ⟨neg, ds, sc⟩ = false) := by show _ = _; exact vB_bad (fun h => by
        obtain ⟨n, s, h⟩ := h
        have h1 := h.len
        have h2 := h.ds
        simp only at h2
        rw [← numS_size, ← h2] at h1
        omega)
      clear hzq hq h60 hzero cS
      go_enter Tryz.func73, Tryz.ntmps73
      go_wp2_with (first
        | (go_at_call 61; refine (cZ _).mono ?_; rintro e w1 ⟨rfl, b1⟩; obtain ⟨r0, r1, r2, f0, f1, f2, hB, hz1⟩ := one_all b1; have HB := Lib.hid hB; clear b1 hB)
        | (go_at_call 40; refine (cD _).mono ?_; rintro e w2 ⟨rfl, rfl⟩)
        | (go_at_call 62; refine (cS _).mono ?_; rintro e w2 ⟨rfl, rfl⟩))
      all_goals go_ret
      all_goals exact ⟨by rw [HR.out]; try rfl, HB.out⟩
    have h60i : (ds.size : Int) - 1 < 60 := by omega
    cases q with
    | false =>
      have HR : Hid (vB ⟨neg, ds, sc⟩ = false) := by show _ = _; exact vB_bad (fun h => by
        obtain ⟨n, s, h⟩ := h
        have h2 := (digB_iff _).2 ⟨h.num.all, h.num.ne⟩
        rw [hq] at h2
        cases h2)
      clear hzq hq h60 hzero
      go_enter Tryz.func73, Tryz.ntmps73
      go_wp2_with (first
        | (go_at_call 61; refine (cZ _).mono ?_; rintro e w1 ⟨rfl, b1⟩; obtain ⟨r0, r1, r2, f0, f1, f2, hB, hz1⟩ := one_all b1; have HB := Lib.hid hB; clear b1 hB)
        | (go_at_call 40; refine (cD _).mono ?_; rintro e w2 ⟨rfl, rfl⟩)
        | (go_at_call 62; refine (cS _).mono ?_; rintro e w2 ⟨rfl, rfl⟩))
      all_goals go_ret
      all_goals exact ⟨by rw [HR.out]; try rfl, HB.out⟩
    | true =>
      obtain ⟨hall, hne⟩ := (digB_iff _).1 hq
      have hp : 0 < ds.size := by rw [← bytes_len]; exact List.length_pos_iff.2 hne
      clear hq
      by_cases hf : (ds[0].toNat : Int) = 48
      · have hfb : ((ds[0].toNat : Int) != 48) = false := by rw [hf]; rfl
        have HR : Hid (vB ⟨neg, ds, sc⟩ = false) := by show _ = _; exact vB_bad (fun h => by
          obtain ⟨n, s2, h⟩ := h
          exact first_dig h.ds hp (.inr (hzero n s2 h)) (show ds[0].toNat = 48 by omega))
        clear hall hne h60 hzero hzq hf
        go_enter Tryz.func73, Tryz.ntmps73
        go_wp2_with (first
          | (go_at_call 61; refine (cZ _).mono ?_; rintro e w1 ⟨rfl, b1⟩; obtain ⟨r0, r1, r2, f0, f1, f2, hB, hz1⟩ := one_all b1; have HB := Lib.hid hB; clear b1 hB)
          | (go_at_call 40; refine (cD _).mono ?_; rintro e w2 ⟨rfl, rfl⟩)
          | (go_at_call 62; refine (cS _).mono ?_; rintro e w2 ⟨rfl, rfl⟩))
        all_goals go_ret
        all_goals exact ⟨by rw [HR.out]; try rfl, HB.out⟩
      have hfb : ((ds[0].toNat : Int) != 48) = true := by simpa using hf
      have hcan : Canon ds.data.toList := by
        refine ⟨hall, hne, fun e => ?_⟩
        exfalso
        cases hL : ds.data.toList with
        | nil => exact hne hL
        | cons c r =>
          rw [hL] at e
          have e0 := byte_at hL (k := 0) hp (by simp)
          simp only [List.getElem_cons_zero] at e0
          simp only [List.head?_cons, Option.some.injEq] at e
          rw [e0, e] at hf
          exact hf rfl
      obtain ⟨n, hn⟩ : ∃ n, val ds.data.toList = n := ⟨_, rfl⟩
      have hds : ds = numS n := by
        apply bytes_ext
        rw [numS_list, ← hn]
        exact canon_eq hcan
      have hlen : (digs n).length ≤ 60 := by rw [← numS_size, ← hds]; omega
      have hn0 : n ≠ 0 := fun h0 => by
        have h1 : ds.data.toList = [48] := by rw [hds, numS_list, h0, digs_zero]
        have e0 := byte_at h1 (k := 0) hp (by simp)
        rw [e0] at hf
        exact hf rfl
      by_cases hsc : 0 ≤ sc ∧ sc ≤ 60
      · obtain ⟨s, rfl⟩ : ∃ s : Nat, sc = (s : Int) := ⟨sc.toNat, by omega⟩
        rw [decide_eq_true hsc] at cS
        by_cases hs : s = 0
        · subst hs
          have HR : Hid (vB ⟨neg, ds, ((0 : Nat) : Int)⟩ = true) := by
            show _ = _
            exact vB_ok ⟨n, 0, hds, rfl, hlen, by omega, fun h => absurd h hn0, fun h => absurd h (by omega)⟩
          clear hall hne h60 hzero hzq hf hcan hn hds hlen hn0 hsc
          go_enter Tryz.func73, Tryz.ntmps73
          go_wp2_with (first
            | (go_at_call 61; refine (cZ _).mono ?_; rintro e w1 ⟨rfl, b1⟩; obtain ⟨r0, r1, r2, f0, f1, f2, hB, hz1⟩ := one_all b1; have HB := Lib.hid hB; clear b1 hB)
            | (go_at_call 40; refine (cD _).mono ?_; rintro e w2 ⟨rfl, rfl⟩)
            | (go_at_call 62; refine (cS _).mono ?_; rintro e w2 ⟨rfl, rfl⟩))
          all_goals go_ret
          all_goals exact ⟨by rw [HR.out]; try rfl, HB.out⟩
        have hsb : ((s : Int) == 0) = false := by simp; omega
        obtain ⟨m, hm⟩ : ∃ m, ds.size = m + 1 := ⟨ds.size - 1, by omega⟩
        have hld := last_dig hds hm
        have hmt : m < ds.size := by omega
        have hmi : (ds.size : Int) - 1 = (m : Int) := by omega
        by_cases hl10 : n % 10 = 0
        · have hl48 : ((ds[m].toNat : Int) != 48) = false := by rw [hld, hl10]; rfl
          have HR : Hid (vB ⟨neg, ds, (s : Int)⟩ = false) := by show _ = _; exact vB_bad (fun h => by
            obtain ⟨n2, s2, h⟩ := h
            have h1 := h.ds
            have h2 := h.sc
            simp only at h1 h2
            have h3 := h.last (by omega)
            have h4 := digs_val n2
            rw [← numS_list, ← h1, hn] at h4
            rw [← h4] at h3
            exact h3 hl10)
          rw [hmi] at h60i
          clear hall hne h60 hzero hzq hf hcan hn hds hlen hn0 hsc hm hld hl10 hs
          go_enter Tryz.func73, Tryz.ntmps73
          go_wp2_with (first
            | (go_at_call 61; refine (cZ _).mono ?_; rintro e w1 ⟨rfl, b1⟩; obtain ⟨r0, r1, r2, f0, f1, f2, hB, hz1⟩ := one_all b1; have HB := Lib.hid hB; clear b1 hB)
            | (go_at_call 40; refine (cD _).mono ?_; rintro e w2 ⟨rfl, rfl⟩)
            | (go_at_call 62; refine (cS _).mono ?_; rintro e w2 ⟨rfl, rfl⟩))
          all_goals go_ret
          all_goals exact ⟨by rw [HR.out]; try rfl, HB.out⟩
        · have hl48 : ((ds[m].toNat : Int) != 48) = true := by rw [hld]; simp; omega
          have HR : Hid (vB ⟨neg, ds, (s : Int)⟩ = true) := by
            show _ = _
            exact vB_ok ⟨n, s, hds, rfl, hlen, by omega, fun h => absurd h hn0, fun _ => hl10⟩
          rw [hmi] at h60i
          clear hall hne h60 hzero hzq hf hcan hn hds hlen hn0 hsc hm hld hl10 hs
          go_enter Tryz.func73, Tryz.ntmps73
          go_wp2_with (first
            | (go_at_call 61; refine (cZ _).mono ?_; rintro e w1 ⟨rfl, b1⟩; obtain ⟨r0, r1, r2, f0, f1, f2, hB, hz1⟩ := one_all b1; have HB := Lib.hid hB; clear b1 hB)
            | (go_at_call 40; refine (cD _).mono ?_; rintro e w2 ⟨rfl, rfl⟩)
            | (go_at_call 62; refine (cS _).mono ?_; rintro e w2 ⟨rfl, rfl⟩))
          all_goals go_ret
          all_goals exact ⟨by rw [HR.out]; try rfl, HB.out⟩
      · rw [decide_eq_false hsc] at cS
        have HR : Hid (vB ⟨neg, ds, sc⟩ = false) := by show _ = _; exact vB_bad (fun h => by
          obtain ⟨n, s, h⟩ := h
          have h1 := h.sc
          have h2 := h.le
          simp only at h1
          omega)
        clear hall hne h60 hzero hzq hf hcan hn hds hlen hn0 hsc
        go_enter Tryz.func73, Tryz.ntmps73
        go_wp2_with (first
          | (go_at_call 61; refine (cZ _).mono ?_; rintro e w1 ⟨rfl, b1⟩; obtain ⟨r0, r1, r2, f0, f1, f2, hB, hz1⟩ := one_all b1; have HB := Lib.hid hB; clear b1 hB)
          | (go_at_call 40; refine (cD _).mono ?_; rintro e w2 ⟨rfl, rfl⟩)
          | (go_at_call 62; refine (cS _).mono ?_; rintro e w2 ⟨rfl, rfl⟩))
        all_goals go_ret
        all_goals exact ⟨by rw [HR.out]; try rfl, HB.out⟩
end Go.Proofs.YtcpociafcjabkaaGreatDoor
