/- E F G H I J K L -/
import Derived.Deep.RegionWith
import Derived.Laws.Concat
import Derived.Laws.Strings2
import Derived.OpenShut
import Derived.Test.YtmdnijehoagamaaGreatDoorK00
set_option linter.unusedVariables false
set_option linter.unusedSimpArgs false
namespace Go.Proofs.YtmdnijehoagamaaGreatDoor
set_option maxRecDepth 100000
set_option maxHeartbeats 400000
open Go.RowKit
theorem minus_step (p x y c r q vT vA vB : Nat) (h : vT + vB = vA + c * p) (hq : q ≤ 1) (hD : 10 + x = y + c + (10 * q + r)) : (r * p + vT) + (y * p + vB) = (x * p + vA) + (1 - q) * (p * 10) := by
 have h1 : (10 + x) * p = (y + c + (10 * q + r)) * p := by rw [hD]
 rw [Nat.add_mul, Nat.add_mul, Nat.add_mul, Nat.add_mul] at h1
 have hq2 : q = 0 ∨ q = 1 := by omega
 rcases hq2 with rfl | rfl
 ·simp only [Nat.mul_zero, Nat.zero_mul] at h1
  simp only [Nat.sub_zero, Nat.one_mul]
  omega
 ·simp only [Nat.mul_one] at h1
  simp only [Nat.sub_self, Nat.zero_mul]
  omega
structure MinusAt (A B : List UInt8) (N k c : Nat) (O : List UInt8) : Prop where
 form : ∃ T : List UInt8, O = A.take (N - k) ++ T ∧ T.length = k ∧ AllD T ∧ val T + val (B.drop (N - k)) = val (A.drop (N - k)) + c * 10 ^ k
theorem MinusAt.next {A B O : List UInt8} {N k c j : Nat} (h : MinusAt A B N k c O) (hA : A.length = N) (hB : B.length = N) (hAD : AllD A) (hBD : AllD B) (hc : c ≤ 1) (hj : j + k + 1 = N) (ha : j < A.length) (hb : j < B.length)
  (d : UInt8) (hd : d.toNat = 48 + (10 + A[j].toNat - B[j].toNat - c) % 10) : MinusAt A B N (k + 1) (1 - (10 + A[j].toNat - B[j].toNat - c) / 10) (O.set j d) := by
 obtain ⟨T, hO, hT, hTD, hv⟩ := h.form
 have e1 : N - k = j + 1 := by omega
 have e2 : N - (k + 1) = j := by omega
 have hx := hAD A[j] (List.getElem_mem ha)
 have hy := hBD B[j] (List.getElem_mem hb)
 refine ⟨d :: T, ?_, by simp [hT], AllD.cons (by omega) hTD, ?_⟩
 ·rw [hO, e1, e2, List.take_add_one, List.getElem?_eq_getElem ha]
  have hl : (A.take j).length = j := by rw [List.length_take]; omega
  simp only [Option.toList_some, List.append_assoc, List.singleton_append]
  rw [List.set_append_right _ _ (by omega), hl, Nat.sub_self]
  rfl
 ·rw [e2, List.drop_eq_getElem_cons ha, List.drop_eq_getElem_cons hb, val_cons, val_cons, val_cons]
  rw [e1] at hv
  have l1 : (A.drop (j + 1)).length = k := by rw [List.length_drop]; omega
  have l2 : (B.drop (j + 1)).length = k := by rw [List.length_drop]; omega
  rw [l1, l2, hT, dg_eq d (by omega), dg_eq _ hx.1, dg_eq _ hy.1, Nat.pow_succ]
  refine minus_step _ _ _ c _ _ _ _ _ hv ?_ ?_
  ·omega
  ·rw [hd]
   omega
theorem MinusAt.last {A B O : List UInt8} {N c m n : Nat} (h : MinusAt A B N N c O) (hm : val A = m) (hn : val B = n) (h1 : n ≤ m) (_ : m < 10 ^ N) : AllD O ∧ O.length = N ∧ val O = m - n := by
 obtain ⟨T, hO, hT, hTD, hv⟩ := h.form
 rw [Nat.sub_self, List.take_zero, List.nil_append] at hO
 rw [Nat.sub_self, List.drop_zero, List.drop_zero, hm, hn] at hv
 subst hO
 refine ⟨hTD, hT, ?_⟩
 have hlt := val_lt hTD
 rw [hT] at hlt
 have hc : c = 0 := by
  rcases Nat.eq_zero_or_pos c with h0 | h0
  ·exact h0
  ·have : 1 * 10 ^ N ≤ c * 10 ^ N := Nat.mul_le_mul_right _ h0
   omega
 rw [hc] at hv
 omega
end Go.Proofs.YtmdnijehoagamaaGreatDoor
namespace Go.Proofs.YtmdnijehoagamaaGreatDoor
open Go.RowKit
theorem app_size (s t : ByteArray) : (s ++ t).size = s.size + t.size := by
 rw [← bytes_len, Joins.data_append, List.length_append, bytes_len, bytes_len]
theorem numS_len {v k : Nat} (h : v < 10 ^ k) (hk : 1 ≤ k) : (numS v).size ≤ k := by
 rw [numS_size]
 exact digs_len_le h hk
theorem val_take_succ {l : List UInt8} {i : Nat} (hi : i < l.length) : val (l.take (i + 1)) = val (l.take i) * 10 + dg l[i] := by
 rw [List.take_add_one, List.getElem?_eq_getElem hi, Option.toList_some, val_snoc]
theorem dg_le {c : UInt8} (h : 48 ≤ c.toNat ∧ c.toNat ≤ 57) : dg c ≤ 9 := by
 rw [dg_eq c h.1]
 omega
end Go.Proofs.YtmdnijehoagamaaGreatDoor
namespace Go.Proofs.YtmdnijehoagamaaGreatDoor
set_option maxRecDepth 100000
set_option maxHeartbeats 2000000
open Go.RowKit
theorem div_next {x n d : Nat} (hn : 0 < n) : (x * 10 + d) / n = x / n * 10 + (x % n * 10 + d) / n ∧ (x * 10 + d) % n = (x % n * 10 + d) % n := by
 have h : x * 10 + d = n * (x / n * 10) + (x % n * 10 + d) := by
  have h1 := Nat.div_add_mod x n
  have h2 : n * (x / n * 10) = n * (x / n) * 10 := by rw [Nat.mul_assoc]
  omega
 constructor
 ·rw [h, Nat.mul_add_div hn]
 ·rw [h, Nat.mul_add_mod]
theorem div_end {y n k : Nat} (h1 : k * n ≤ y) (h2 : y - k * n < n) : y / n = k ∧ y % n = y - k * n := by
 have hn : 0 < n := by omega
 obtain ⟨r, hr⟩ : ∃ r, y - k * n = r := ⟨_, rfl⟩
 rw [hr] at h2 ⊢
 have h : y = n * k + r := by rw [Nat.mul_comm]; omega
 rw [h]
 constructor
 ·rw [Nat.mul_add_div hn, Nat.div_eq_of_lt h2, Nat.add_zero]
 ·rw [Nat.mul_add_mod, Nat.mod_eq_of_lt h2]
theorem conv_one (z : Int) (W : World) : (convert 93 9 (.slice (some ⟨W.heap.size, 0, none⟩) 1 1)).run Tryz.prog (W.alloc (.cells #[.int .u8 z] 5)) = .ok (.string (strOfNums [z])) (W.alloc (.cells #[.int .u8 z] 5)) :=
 run_convert_bytes_arg (P := Tryz.prog) (W.alloc (.cells #[.int .u8 z] 5)) 93 5 Tryz.underlying93 Tryz.underlying5 W.heap.size 0 1 1 [z] rfl (fun i hi => by
  obtain rfl : i = 0 := by omega
  simp) 9 Tryz.underlying9
structure OverAt (a : ByteArray) (n i : Nat) (s : ByteArray) : Prop where
 all : AllD s.data.toList
 val : val s.data.toList = val (a.data.toList.take i) / n
 size : s.size = i
structure Dec where
 neg : Bool
 ds : ByteArray
 sc : Int
def Dec.v (d : Dec) : Value := .agg #[.bool d.neg, .string d.ds, .int .i64 d.sc]
def decNil : Dec := ⟨false, ⟨#[]⟩, 0⟩
def decZero : Dec := ⟨false, ⟨#[48]⟩, 0⟩
def strip : Nat → Nat → Nat × Nat
 | n, 0 => (n, 0)
 | n, s + 1 => if 10 ≤ n ∧ n % 10 = 0 then strip (n / 10) s else (n, s + 1)
theorem strip_zero (n : Nat) : strip n 0 = (n, 0) := rfl
theorem strip_go {n s : Nat} (h : 10 ≤ n ∧ n % 10 = 0) : strip n (s + 1) = strip (n / 10) s := by rw [strip, if_pos h]
theorem strip_stop {n s : Nat} (h : ¬ (10 ≤ n ∧ n % 10 = 0)) : strip n (s + 1) = (n, s + 1) := by rw [strip, if_neg h]
def mkDec (neg : Bool) (n s : Nat) : Option Dec :=
 if n = 0 then some decZero
 else if 60 < (digs (strip n s).1).length ∨ 60 < (strip n s).2 then none
 else some ⟨neg, numS (strip n s).1, ((strip n s).2 : Int)⟩
def decR (r : Option Dec) : Value := .tuple #[(r.getD decNil).v, .int .i64 (if r.isSome then 0 else 7)]
theorem digs_len_one {n : Nat} : (digs n).length = 1 ↔ n < 10 := by
 constructor
 ·intro h
  have := digs_len_lt n
  rw [h] at this
  omega
 ·intro h
  rw [digs_small h]
  rfl
theorem made_num (neg : Bool) (s : ByteArray) (n sc : Nat) (hs : IsNum s n) (hz : s.size ≤ 50000) (hsc : sc ≤ 50000) (w : World) :
  Calls Tryz.prog 71 #[.bool neg, .string s, .int .i64 (sc : Int)] w fun e w' => e = .returned (decR (mkDec neg n sc)) ∧ Below w.heap.size w w' := by
 have cb := fun W => bare_num hs (by unfold maxLen; omega) W
 have hzz : (numS n).size ≤ 50000 := by rw [numS_size]; exact Nat.le_trans hs.size_le hz
 have HS0 : Hid (strip n sc = strip n sc) := Lib.hid rfl
 clear hs
 go_enter Tryz.func71, Tryz.ntmps71
 go_wp2_with (go_at_call 109; refine (cb _).mono ?_; rintro e w1 ⟨rfl, rfl⟩)
 clear cb
 go_loopg [1, 2] (sc + 1) (fun gk v1 v2 wr => ∃ (k : Nat) (t : ByteArray) (q : Nat), v2 = .int .i64 (k : Int) ∧ v1 = .string t ∧ gk = k + 1 ∧ k ≤ 50000 ∧ t.size ≤ 50000 ∧ Hid (t = numS q ∧ strip q k = strip n sc ∧ (n = 0 ↔ q = 0)) ∧ wr = w.alloc (.cells #[.bool false, .string ⟨#[]⟩, .int .i64 0] 23))
 case atStart => exact ⟨sc, _, n, rfl, rfl, rfl, hsc, hzz, ⟨rfl, rfl, Iff.rfl⟩, rfl⟩
 case round =>
  obtain ⟨k, t, q, rfl, rfl, hgk, hk, htz, HT, rfl⟩ := hrel
  clear HS0
  have hlen : t.size = (digs q).length := by rw [HT.out.1, numS_size]
  by_cases hk0 : k = 0
  ·have hstop : strip q k = (q, k) := by rw [hk0]; rfl
   have hki : ¬ (0 : Int) < (k : Int) := by omega
   clear hk0
   by_cases hq0 : q = 0
   ·have hn0 := HT.out.2.2.2 hq0
    have hz0 : (t.toList == [48]) = true := by rw [HT.out.1, numS_toList, hq0, digs_zero]; rfl
    have HM : Hid (decR (mkDec neg n sc) = .tuple #[decZero.v, .int .i64 0]) := by show _ = _; unfold mkDec; rw [if_pos hn0]; rfl
    clear hq0 hn0 HT hlen
    go_wp2
    all_goals exact bodyPost_ret (v := .tuple #[.agg #[.bool false, .string ⟨#[48]⟩, .int .i64 0], .int .i64 0]) (by simp [results, Tryz.results71, go_sem]) rfl ⟨by rw [HM.out]; try rfl, (Below.refl _ _).alloc (Nat.le_refl _) _⟩
   have hn0 : n ≠ 0 := fun e => hq0 (HT.out.2.2.1 e)
   have hz0 : (t.toList == [48]) = false := by
    rw [HT.out.1, numS_toList]
    refine beq_eq_false_iff_ne.2 fun e => hq0 ?_
    have := digs_val q
    rw [e] at this
    exact this.symm
   by_cases hlong : 60 < t.size
   ·have HM : Hid (decR (mkDec neg n sc) = .tuple #[decNil.v, .int .i64 7]) := by
     show _ = _
     unfold mkDec
     rw [if_neg hn0, if_pos (.inl (by rw [← HT.out.2.1, hstop]; simp only; omega))]
     try rfl
    clear hq0 hn0 HT hlen hstop
    go_wp2
    all_goals exact bodyPost_ret (v := .tuple #[.agg #[.bool false, .string ⟨#[]⟩, .int .i64 0], .int .i64 7]) (by simp [results, Tryz.results71, go_sem]) rfl ⟨by rw [HM.out]; try rfl, (Below.refl _ _).alloc (Nat.le_refl _) _⟩
   by_cases hfar : 60 < k
   ·have HM : Hid (decR (mkDec neg n sc) = .tuple #[decNil.v, .int .i64 7]) := by
     show _ = _
     unfold mkDec
     rw [if_neg hn0, if_pos (.inr (by rw [← HT.out.2.1, hstop]; simp only; omega))]
     try rfl
    have hfi : (60 : Int) < (k : Int) := by omega
    clear hq0 hn0 HT hlen hstop hfar
    go_wp2
    all_goals exact bodyPost_ret (v := .tuple #[.agg #[.bool false, .string ⟨#[]⟩, .int .i64 0], .int .i64 7]) (by simp [results, Tryz.results71, go_sem]) rfl ⟨by rw [HM.out]; try rfl, (Below.refl _ _).alloc (Nat.le_refl _) _⟩
   have HM : Hid (decR (mkDec neg n sc) = .tuple #[.agg #[.bool neg, .string t, .int .i64 (k : Int)], .int .i64 0]) := by
    show _ = _
    unfold mkDec
    rw [if_neg hn0, if_neg (by rw [← HT.out.2.1, hstop]; simp only; omega), ← HT.out.2.1, hstop, HT.out.1]
    try rfl
   have hfi : (k : Int) ≤ 60 := by omega
   clear hq0 hn0 HT hlen hstop hfar
   go_wp2
   all_goals exact bodyPost_ret (v := .tuple #[.agg #[.bool neg, .string t, .int .i64 (k : Int)], .int .i64 0]) (by simp [results, Tryz.results71, go_sem]) rfl ⟨by rw [HM.out]; try rfl, (Below.refl _ _).alloc (Nat.le_refl _) _⟩
  have hki : (0 : Int) < (k : Int) := by omega
  by_cases h10 : q < 10
  ·have hstop : strip q k = (q, k) := by
    obtain ⟨k', rfl⟩ : ∃ k', k = k' + 1 := ⟨k - 1, by omega⟩
    exact strip_stop (by omega)
   have h1 : ¬ 1 < t.size := by rw [hlen, digs_len_one.2 h10]; omega
   clear h10 hk0
   by_cases hq0 : q = 0
   ·have hn0 := HT.out.2.2.2 hq0
    have hz0 : (t.toList == [48]) = true := by rw [HT.out.1, numS_toList, hq0, digs_zero]; rfl
    have HM : Hid (decR (mkDec neg n sc) = .tuple #[decZero.v, .int .i64 0]) := by show _ = _; unfold mkDec; rw [if_pos hn0]; rfl
    clear hq0 hn0 HT hlen
    go_wp2
    all_goals exact bodyPost_ret (v := .tuple #[.agg #[.bool false, .string ⟨#[48]⟩, .int .i64 0], .int .i64 0]) (by simp [results, Tryz.results71, go_sem]) rfl ⟨by rw [HM.out]; try rfl, (Below.refl _ _).alloc (Nat.le_refl _) _⟩
   have hn0 : n ≠ 0 := fun e => hq0 (HT.out.2.2.1 e)
   have hz0 : (t.toList == [48]) = false := by
    rw [HT.out.1, numS_toList]
    refine beq_eq_false_iff_ne.2 fun e => hq0 ?_
    have := digs_val q
    rw [e] at this
    exact this.symm
   by_cases hlong : 60 < t.size
   ·have HM : Hid (decR (mkDec neg n sc) = .tuple #[decNil.v, .int .i64 7]) := by
     show _ = _
     unfold mkDec
     rw [if_neg hn0, if_pos (.inl (by rw [← HT.out.2.1, hstop]; simp only; omega))]
     try rfl
    clear hq0 hn0 HT hlen hstop
    go_wp2
    all_goals exact bodyPost_ret (v := .tuple #[.agg #[.bool false, .string ⟨#[]⟩, .int .i64 0], .int .i64 7]) (by simp [results, Tryz.results71, go_sem]) rfl ⟨by rw [HM.out]; try rfl, (Below.refl _ _).alloc (Nat.le_refl _) _⟩
   by_cases hfar : 60 < k
   ·have HM : Hid (decR (mkDec neg n sc) = .tuple #[decNil.v, .int .i64 7]) := by
     show _ = _
     unfold mkDec
     rw [if_neg hn0, if_pos (.inr (by rw [← HT.out.2.1, hstop]; simp only; omega))]
     try rfl
    have hfi : (60 : Int) < (k : Int) := by omega
    clear hq0 hn0 HT hlen hstop hfar
    go_wp2
    all_goals exact bodyPost_ret (v := .tuple #[.agg #[.bool false, .string ⟨#[]⟩, .int .i64 0], .int .i64 7]) (by simp [results, Tryz.results71, go_sem]) rfl ⟨by rw [HM.out]; try rfl, (Below.refl _ _).alloc (Nat.le_refl _) _⟩
   have HM : Hid (decR (mkDec neg n sc) = .tuple #[.agg #[.bool neg, .string t, .int .i64 (k : Int)], .int .i64 0]) := by
    show _ = _
    unfold mkDec
    rw [if_neg hn0, if_neg (by rw [← HT.out.2.1, hstop]; simp only; omega), ← HT.out.2.1, hstop, HT.out.1]
    try rfl
   have hfi : (k : Int) ≤ 60 := by omega
   clear hq0 hn0 HT hlen hstop hfar
   go_wp2
   all_goals exact bodyPost_ret (v := .tuple #[.agg #[.bool neg, .string t, .int .i64 (k : Int)], .int .i64 0]) (by simp [results, Tryz.results71, go_sem]) rfl ⟨by rw [HM.out]; try rfl, (Below.refl _ _).alloc (Nat.le_refl _) _⟩
  have hbig := digs_big (n := q) (by omega)
  obtain ⟨m, hm⟩ : ∃ m, (digs (q / 10)).length = m := ⟨_, rfl⟩
  have hm1 : 1 ≤ m := by
   rcases Nat.eq_zero_or_pos m with h0 | h0
   ·exact absurd (List.eq_nil_of_length_eq_zero (hm.trans h0)) (digs_ne _)
   ·exact h0
  have hts : t.size = m + 1 := by rw [hlen, hbig, List.length_append, hm]; rfl
  have h1 : 1 < t.size := by omega
  have hmt : m < t.size := by omega
  have hmi : (t.size : Int) - 1 = (m : Int) := by omega
  have hTl : t.data.toList = digs (q / 10) ++ [UInt8.ofNat (48 + q % 10)] := by rw [HT.out.1, numS_list, hbig]
  have hlast : t[m].toNat = 48 + q % 10 := by
   have e1 := byte_at hTl hmt (by rw [List.length_append, hm]; simp)
   rw [e1, List.getElem_append_right (by omega)]
   simp only [hm, Nat.sub_self, List.getElem_cons_zero]
   exact dig_nat (Nat.mod_lt _ (by omega))
  by_cases hq10 : q % 10 = 0
  ·have h48 : (t[m].toNat : Int) = 48 := by rw [hlast, hq10]; rfl
   have hex : t.extract 0 m = numS (q / 10) := by
    refine (bytes_of (l := digs (q / 10)) ?_).trans rfl
    rw [Lib.extract_data, List.drop_zero, Nat.sub_zero, hTl, List.take_append_of_le_length (by omega), ← hm, List.take_length]
   obtain ⟨u, hu⟩ : ∃ u, t.extract 0 m = u := ⟨_, rfl⟩
   have hus : u.size ≤ 50000 := by rw [← hu, hex, numS_size]; omega
   have HU : Hid (u = numS (q / 10) ∧ strip (q / 10) (k - 1) = strip n sc ∧ (n = 0 ↔ q / 10 = 0)) := by
    refine ⟨by rw [← hu, hex], ?_, ?_⟩
    ·rw [← HT.out.2.1]
     obtain ⟨k', rfl⟩ : ∃ k', k = k' + 1 := ⟨k - 1, by omega⟩
     rw [strip_go ⟨by omega, hq10⟩]
     rfl
    ·rw [HT.out.2.2]
     constructor
     ·intro e; omega
     ·intro e; omega
   have hk1 : (k : Int) - 1 = ((k - 1 : Nat) : Int) := by omega
   clear hex hlast hTl hbig hm hq10 h10 HT hlen hk0 hts
   go_wp2
   go_roundg k
   case measure => omega
   case rel => exact ⟨k - 1, u, q / 10, by go_num, rfl, by omega, by omega, hus, HU, rfl⟩
  ·have h48 : ¬ (t[m].toNat : Int) = 48 := by rw [hlast]; omega
   have hstop : strip q k = (q, k) := by
    obtain ⟨k', rfl⟩ : ∃ k', k = k' + 1 := ⟨k - 1, by omega⟩
    exact strip_stop (fun h => hq10 h.2)
   clear hlast hTl hbig hm hq10 h10 hk0
   by_cases hq0 : q = 0
   ·have hn0 := HT.out.2.2.2 hq0
    have hz0 : (t.toList == [48]) = true := by rw [HT.out.1, numS_toList, hq0, digs_zero]; rfl
    have HM : Hid (decR (mkDec neg n sc) = .tuple #[decZero.v, .int .i64 0]) := by show _ = _; unfold mkDec; rw [if_pos hn0]; rfl
    clear hq0 hn0 HT hlen
    go_wp2
    all_goals exact bodyPost_ret (v := .tuple #[.agg #[.bool false, .string ⟨#[48]⟩, .int .i64 0], .int .i64 0]) (by simp [results, Tryz.results71, go_sem]) rfl ⟨by rw [HM.out]; try rfl, (Below.refl _ _).alloc (Nat.le_refl _) _⟩
   have hn0 : n ≠ 0 := fun e => hq0 (HT.out.2.2.1 e)
   have hz0 : (t.toList == [48]) = false := by
    rw [HT.out.1, numS_toList]
    refine beq_eq_false_iff_ne.2 fun e => hq0 ?_
    have := digs_val q
    rw [e] at this
    exact this.symm
   by_cases hlong : 60 < t.size
   ·have HM : Hid (decR (mkDec neg n sc) = .tuple #[decNil.v, .int .i64 7]) := by
     show _ = _
     unfold mkDec
     rw [if_neg hn0, if_pos (.inl (by rw [← HT.out.2.1, hstop]; simp only; omega))]
     try rfl
    clear hq0 hn0 HT hlen hstop
    go_wp2
    all_goals exact bodyPost_ret (v := .tuple #[.agg #[.bool false, .string ⟨#[]⟩, .int .i64 0], .int .i64 7]) (by simp [results, Tryz.results71, go_sem]) rfl ⟨by rw [HM.out]; try rfl, (Below.refl _ _).alloc (Nat.le_refl _) _⟩
   by_cases hfar : 60 < k
   ·have HM : Hid (decR (mkDec neg n sc) = .tuple #[decNil.v, .int .i64 7]) := by
     show _ = _
     unfold mkDec
     rw [if_neg hn0, if_pos (.inr (by rw [← HT.out.2.1, hstop]; simp only; omega))]
     try rfl
    have hfi : (60 : Int) < (k : Int) := by omega
    clear hq0 hn0 HT hlen hstop hfar
    go_wp2
    all_goals exact bodyPost_ret (v := .tuple #[.agg #[.bool false, .string ⟨#[]⟩, .int .i64 0], .int .i64 7]) (by simp [results, Tryz.results71, go_sem]) rfl ⟨by rw [HM.out]; try rfl, (Below.refl _ _).alloc (Nat.le_refl _) _⟩
   have HM : Hid (decR (mkDec neg n sc) = .tuple #[.agg #[.bool neg, .string t, .int .i64 (k : Int)], .int .i64 0]) := by
    show _ = _
    unfold mkDec
    rw [if_neg hn0, if_neg (by rw [← HT.out.2.1, hstop]; simp only; omega), ← HT.out.2.1, hstop, HT.out.1]
    try rfl
   have hfi : (k : Int) ≤ 60 := by omega
   clear hq0 hn0 HT hlen hstop hfar
   go_wp2
   all_goals exact bodyPost_ret (v := .tuple #[.agg #[.bool neg, .string t, .int .i64 (k : Int)], .int .i64 0]) (by simp [results, Tryz.results71, go_sem]) rfl ⟨by rw [HM.out]; try rfl, (Below.refl _ _).alloc (Nat.le_refl _) _⟩
end Go.Proofs.YtmdnijehoagamaaGreatDoor
namespace Go.Proofs.YtmdnijehoagamaaGreatDoor
set_option maxRecDepth 100000
set_option maxHeartbeats 4000000
open Go.RowKit
structure IsDec (d : Dec) (n s : Nat) : Prop where
 ds : d.ds = numS n
 sc : d.sc = (s : Int)
 len : (digs n).length ≤ 60
 le : s ≤ 60
 zero : n = 0 → d.neg = false ∧ s = 0
 last : 0 < s → n % 10 ≠ 0
def Valid (d : Dec) : Prop := ∃ n s, IsDec d n s
open Classical in
noncomputable def chkR (d : Dec) : Int := if Valid d then 0 else 2
theorem chkR_bad {d : Dec} (h : ¬ Valid d) : chkR d = 2 := by unfold chkR; rw [if_neg h]
theorem chkR_ok {d : Dec} (h : Valid d) : chkR d = 0 := by unfold chkR; rw [if_pos h]
theorem IsDec.num {d : Dec} {n s : Nat} (h : IsDec d n s) : IsNum d.ds n := by rw [h.ds]; exact IsNum.num n
theorem last_dig {s : ByteArray} {n m : Nat} (h : s = numS n) (hm : s.size = m + 1) : s[m].toNat = 48 + n % 10 := by
 subst h
 by_cases h10 : n < 10
 ·have hl := numS_list n
  rw [digs_small h10] at hl
  have h0 : m = 0 := by rw [numS_size, digs_len_one.2 h10] at hm; omega
  subst h0
  have e := byte_at hl (k := 0) (by omega) (by simp)
  rw [e]
  simp only [List.getElem_cons_zero]
  rw [dig_nat h10]
  omega
 ·have hl := numS_list n
  rw [digs_big h10] at hl
  have hm2 : (digs (n / 10)).length = m := by
   rw [numS_size, digs_big h10, List.length_append] at hm
   simpa using hm
  have e := byte_at hl (k := m) (by omega) (by rw [List.length_append, hm2]; simp)
  rw [e, List.getElem_append_right (by omega)]
  simp only [hm2, Nat.sub_self, List.getElem_cons_zero]
  exact dig_nat (Nat.mod_lt _ (by omega))
theorem first_dig {s : ByteArray} {n : Nat} (h : s = numS n) (hs : 0 < s.size) (hn : 10 ≤ n ∨ n ≠ 0) : s[0].toNat ≠ 48 := by
 subst h
 intro e
 have hc := digs_canon n
 have hl := numS_list n
 have hne := digs_ne n
 cases hd : digs n with
 | nil => exact hne hd
 | cons c r =>
  rw [hd] at hl hc
  have e0 := byte_at hl (k := 0) hs (by simp)
  rw [e0] at e
  simp only [List.getElem_cons_zero] at e
  have hc48 : c = 48 := UInt8.toNat_inj.1 (by rw [e]; rfl)
  subst hc48
  have h1 := hc.2.2 rfl
  have hr : r = [] := List.eq_nil_of_length_eq_zero (by simpa using h1)
  subst hr
  have h2 := digs_val n
  rw [hd] at h2
  have h3 : val [48] = 0 := rfl
  omega
theorem check_any (neg : Bool) (ds : ByteArray) (sc : Int) (hz : ds.size ≤ maxLen) (w : World) :
  Calls Tryz.prog 47 #[.agg #[.bool neg, .string ds, .int .i64 sc]] w fun e w' => e = .returned (.int .i64 (chkR ⟨neg, ds, sc⟩)) ∧ Below w.heap.size w w' := by
 have cD := fun W => rdigits_any ds hz W
 obtain ⟨q, hq⟩ : ∃ q, digB ds.data.toList = q := ⟨_, rfl⟩
 rw [hq] at cD
 unfold maxLen at hz
 cases q with
 | false =>
  have HR : Hid (chkR ⟨neg, ds, sc⟩ = 2) := by show _ = _; exact chkR_bad (fun h => by
   obtain ⟨n, s, h⟩ := h
   have h2 := (digB_iff _).2 ⟨h.num.all, h.num.ne⟩
   rw [hq] at h2
   cases h2)
  clear hq hz
  go_enter Tryz.func47, Tryz.ntmps47
  go_wp2_with (go_at_call 70; refine (cD _).mono ?_; rintro e w1 ⟨rfl, rfl⟩)
  go_ret
  exact ⟨by rw [HR.out]; try rfl, (Below.refl _ _).alloc (Nat.le_refl _) _⟩
 | true =>
  obtain ⟨hall, hne⟩ := (digB_iff _).1 hq
  have hp : 0 < ds.size := by rw [← bytes_len]; exact List.length_pos_iff.2 hne
  clear hq
  by_cases h60 : 60 < ds.size
  ·have h60i : (60 : Int) < (ds.size : Int) := by omega
   have HR : Hid (chkR ⟨neg, ds, sc⟩ = 2) := by show _ = _; exact chkR_bad (fun h => by
    obtain ⟨n, s, h⟩ := h
    have h1 := h.len
    have h2 := h.ds
    simp only at h2
    rw [← numS_size, ← h2] at h1
    omega)
   clear hall hne hp hz h60
   go_enter Tryz.func47, Tryz.ntmps47
   go_wp2_with (go_at_call 70; refine (cD _).mono ?_; rintro e w1 ⟨rfl, rfl⟩)
   go_ret
   exact ⟨by rw [HR.out]; try rfl, (Below.refl _ _).alloc (Nat.le_refl _) _⟩
  have h60i : ¬ (60 : Int) < (ds.size : Int) := by omega
  by_cases hs0 : sc < 0
  ·have HR : Hid (chkR ⟨neg, ds, sc⟩ = 2) := by show _ = _; exact chkR_bad (fun h => by
    obtain ⟨n, s, h⟩ := h
    have h1 := h.sc
    simp only at h1
    omega)
   clear hall hne hp hz h60
   go_enter Tryz.func47, Tryz.ntmps47
   go_wp2_with (go_at_call 70; refine (cD _).mono ?_; rintro e w1 ⟨rfl, rfl⟩)
   go_ret
   exact ⟨by rw [HR.out]; try rfl, (Below.refl _ _).alloc (Nat.le_refl _) _⟩
  by_cases hs6 : 60 < sc
  ·have HR : Hid (chkR ⟨neg, ds, sc⟩ = 2) := by show _ = _; exact chkR_bad (fun h => by
    obtain ⟨n, s, h⟩ := h
    have h1 := h.sc
    have h2 := h.le
    simp only at h1
    omega)
   clear hall hne hp hz h60
   go_enter Tryz.func47, Tryz.ntmps47
   go_wp2_with (go_at_call 70; refine (cD _).mono ?_; rintro e w1 ⟨rfl, rfl⟩)
   go_ret
   exact ⟨by rw [HR.out]; try rfl, (Below.refl _ _).alloc (Nat.le_refl _) _⟩
  obtain ⟨s, rfl⟩ : ∃ s : Nat, sc = (s : Int) := ⟨sc.toNat, by omega⟩
  by_cases h48 : ds.data.toList = [48]
  ·have hl : (ds.toList == [48]) = true := by rw [Lib.toList_data, h48]; rfl
   have hds : ds = numS 0 := by
    apply bytes_ext
    rw [h48, numS_list, digs_zero]
   have hn0 : ∀ n, ds = numS n → n = 0 := fun n e => by
    have := digs_val n
    rw [← numS_list, ← e, h48] at this
    exact this.symm
   cases neg with
   | true =>
    have HR : Hid (chkR ⟨true, ds, (s : Int)⟩ = 2) := by show _ = _; exact chkR_bad (fun h => by
     obtain ⟨n, s, h⟩ := h
     have h1 := (h.zero (hn0 n h.ds)).1
     cases h1)
    clear hall hne hp hz h60 h48 hds hn0
    go_enter Tryz.func47, Tryz.ntmps47
    go_wp2_with (go_at_call 70; refine (cD _).mono ?_; rintro e w1 ⟨rfl, rfl⟩)
    go_ret
    exact ⟨by rw [HR.out]; try rfl, (Below.refl _ _).alloc (Nat.le_refl _) _⟩
   | false =>
    by_cases hs : s = 0
    ·subst hs
     have HR : Hid (chkR ⟨false, ds, ((0 : Nat) : Int)⟩ = 0) := by
      show _ = _
      exact chkR_ok ⟨0, 0, hds, rfl, by rw [digs_zero]; simp, by omega, fun _ => ⟨rfl, rfl⟩, fun h => absurd h (by omega)⟩
     clear hall hne hp hz h60 h48 hds hn0
     go_enter Tryz.func47, Tryz.ntmps47
     go_wp2_with (go_at_call 70; refine (cD _).mono ?_; rintro e w1 ⟨rfl, rfl⟩)
     go_ret
     exact ⟨by rw [HR.out]; try rfl, (Below.refl _ _).alloc (Nat.le_refl _) _⟩
    ·have hsi : ¬ (s : Int) = 0 := by omega
     have hsb : ((s : Int) == 0) = false := beq_eq_false_iff_ne.2 hsi
     have HR : Hid (chkR ⟨false, ds, (s : Int)⟩ = 2) := by show _ = _; exact chkR_bad (fun h => by
      obtain ⟨n, s2, h⟩ := h
      have h1 := (h.zero (hn0 n h.ds)).2
      have h2 := h.sc
      simp only at h2
      omega)
     clear hall hne hp hz h60 h48 hds hn0 hs
     go_enter Tryz.func47, Tryz.ntmps47
     go_wp2_with (go_at_call 70; refine (cD _).mono ?_; rintro e w1 ⟨rfl, rfl⟩)
     go_ret
     exact ⟨by rw [HR.out]; try rfl, (Below.refl _ _).alloc (Nat.le_refl _) _⟩
  ·have hl : (ds.toList == [48]) = false := by rw [Lib.toList_data]; exact beq_eq_false_iff_ne.2 h48
   have hnz : ∀ n, ds = numS n → n ≠ 0 := fun n e h0 => by
    subst h0
    rw [e, numS_list, digs_zero] at h48
    exact h48 rfl
   by_cases hf : (ds[0].toNat : Int) = 48
   ·have HR : Hid (chkR ⟨neg, ds, (s : Int)⟩ = 2) := by show _ = _; exact chkR_bad (fun h => by
     obtain ⟨n, s2, h⟩ := h
     exact first_dig h.ds hp (.inr (hnz n h.ds)) (show ds[0].toNat = 48 by omega))
    clear hall hne hz h60 h48 hnz
    go_enter Tryz.func47, Tryz.ntmps47
    go_wp2_with (go_at_call 70; refine (cD _).mono ?_; rintro e w1 ⟨rfl, rfl⟩)
    go_ret
    exact ⟨by rw [HR.out]; try rfl, (Below.refl _ _).alloc (Nat.le_refl _) _⟩
   have hfb : ((ds[0].toNat : Int) == 48) = false := beq_eq_false_iff_ne.2 hf
   have hcan : Canon ds.data.toList := by
    refine ⟨hall, hne, fun e => ?_⟩
    exfalso
    cases hL : ds.data.toList with
    | nil => exact hne hL
    | cons c r =>
     rw [hL] at e
     have e0 := byte_at hL (k := 0) hp (by simp)
     simp only [List.getElem_cons_zero] at e0
     simp only [List.head?_cons, Option.some.injEq] at e
     rw [e0, e] at hf
     exact hf rfl
   obtain ⟨n, hn⟩ : ∃ n, val ds.data.toList = n := ⟨_, rfl⟩
   have hds : ds = numS n := by
    apply bytes_ext
    rw [numS_list, ← hn]
    exact canon_eq hcan
   have hlen : (digs n).length ≤ 60 := by rw [← numS_size, ← hds]; omega
   have hn0 := hnz n hds
   by_cases hs : s = 0
   ·subst hs
    have HR : Hid (chkR ⟨neg, ds, ((0 : Nat) : Int)⟩ = 0) := by
     show _ = _
     exact chkR_ok ⟨n, 0, hds, rfl, hlen, by omega, fun h => absurd h hn0, fun h => absurd h (by omega)⟩
    clear hall hne hz h60 h48 hnz hcan hn hds hlen hn0
    go_enter Tryz.func47, Tryz.ntmps47
    go_wp2_with (go_at_call 70; refine (cD _).mono ?_; rintro e w1 ⟨rfl, rfl⟩)
    go_ret
    exact ⟨by rw [HR.out]; try rfl, (Below.refl _ _).alloc (Nat.le_refl _) _⟩
   have hsi : (0 : Int) < (s : Int) := by omega
   obtain ⟨m, hm⟩ : ∃ m, ds.size = m + 1 := ⟨ds.size - 1, by omega⟩
   have hld := last_dig hds hm
   have hmt : m < ds.size := by omega
   have hmi : (ds.size : Int) - 1 = (m : Int) := by omega
   by_cases hl10 : n % 10 = 0
   ·have hl48 : (ds[m].toNat : Int) = 48 := by rw [hld, hl10]; rfl
    have HR : Hid (chkR ⟨neg, ds, (s : Int)⟩ = 2) := by show _ = _; exact chkR_bad (fun h => by
     obtain ⟨n2, s2, h⟩ := h
     have h1 := h.ds
     have h2 := h.sc
     simp only at h1 h2
     have h3 := h.last (by omega)
     have h4 := digs_val n2
     rw [← numS_list, ← h1, hn] at h4
     rw [← h4] at h3
     exact h3 hl10)
    clear hall hne hz h60 h48 hnz hcan hn hds hlen hn0 hm hld hl10 hs
    go_enter Tryz.func47, Tryz.ntmps47
    go_wp2_with (go_at_call 70; refine (cD _).mono ?_; rintro e w1 ⟨rfl, rfl⟩)
    go_ret
    exact ⟨by rw [HR.out]; try rfl, (Below.refl _ _).alloc (Nat.le_refl _) _⟩
   ·have hl48 : ¬ (ds[m].toNat : Int) = 48 := by rw [hld]; omega
    have hlb : ((ds[m].toNat : Int) == 48) = false := beq_eq_false_iff_ne.2 hl48
    have HR : Hid (chkR ⟨neg, ds, (s : Int)⟩ = 0) := by
     show _ = _
     exact chkR_ok ⟨n, s, hds, rfl, hlen, by omega, fun h => absurd h hn0, fun _ => hl10⟩
    clear hall hne hz h60 h48 hnz hcan hn hds hlen hn0 hm hld hl10 hs
    go_enter Tryz.func47, Tryz.ntmps47
    go_wp2_with (go_at_call 70; refine (cD _).mono ?_; rintro e w1 ⟨rfl, rfl⟩)
    go_ret
    exact ⟨by rw [HR.out]; try rfl, (Below.refl _ _).alloc (Nat.le_refl _) _⟩
end Go.Proofs.YtmdnijehoagamaaGreatDoor
namespace Go.Proofs.YtmdnijehoagamaaGreatDoor
set_option maxRecDepth 100000
set_option maxHeartbeats 2000000
open Go.RowKit
theorem num_zeros {s : ByteArray} {n : Nat} (h : IsNum s n) (k : Nat) : IsNum (s ++ zs k) (n * 10 ^ k) := by
 refine ⟨?_, ?_, ?_⟩
 ·rw [Joins.data_append, zs_list]
  exact h.all.append (AllD.zeros k)
 ·rw [Joins.data_append]
  intro e
  exact h.ne (List.append_eq_nil_iff.1 e).1
 ·rw [Joins.data_append, val_append, zs_list, val_zeros, List.length_replicate, h.val, Nat.add_zero]
theorem same_any (neg1 neg2 : Bool) (a b : ByteArray) (s t : Nat) (ha : a.size ≤ 1000) (hb : b.size ≤ 1000) (hs : s ≤ 1000) (ht : t ≤ 1000) (w : World) :
  Calls Tryz.prog 116 #[.agg #[.bool neg1, .string a, .int .i64 (s : Int)], .agg #[.bool neg2, .string b, .int .i64 (t : Int)]] w fun e w' =>
   e = .returned (.tuple #[.string (a ++ zs (max s t - s)), .string (b ++ zs (max s t - t)), .int .i64 ((max s t : Nat) : Int)]) ∧ Below w.heap.size w w' := by
 have hcase : (s < t ∧ max s t = t) ∨ (t ≤ s ∧ max s t = s) := by omega
 rcases hcase with ⟨h1, h2⟩ | ⟨h1, h2⟩
 ·rw [h2]
  clear h2
  have y1 : ¬ 9223372036854775807 < a.size + (zs (t - s)).size := by rw [zs_size]; omega
  have y2 : ¬ 9223372036854775807 < b.size + (zs 0).size := by rw [zs_size]; omega
  have w1 : IntKind.i64.wrap ((t : Int) - s) = ((t : Int) - s) := IntWalk.i64_in _ (by omega)
  have w2 : ((t : Int) - s) ≤ 100000 := by omega
  have h1i : (s : Int) < (t : Int) := by omega
  clear h1
  rw [Nat.sub_self]
  go_enter Tryz.func116, Tryz.ntmps116
  go_wp2_with fail
  go_quiet ((go_at_call 85; exact Calls.quiet_of_same ((zeros_any _ (by omega) _).mono fun e w' h => ⟨h.1, h.2.symm⟩)))
  go_wp2
  go_ret3
  exact ⟨rfl, below_drewN (((Below.refl _ _).alloc (Nat.le_refl _) _).alloc (by simp) _) _⟩
 ·rw [h2]
  clear h2
  have y1 : ¬ 9223372036854775807 < b.size + (zs (s - t)).size := by rw [zs_size]; omega
  have y2 : ¬ 9223372036854775807 < a.size + (zs 0).size := by rw [zs_size]; omega
  have w1 : IntKind.i64.wrap ((s : Int) - t) = ((s : Int) - t) := IntWalk.i64_in _ (by omega)
  have w2 : ((s : Int) - t) ≤ 100000 := by omega
  have h1i : (t : Int) ≤ (s : Int) := by omega
  clear h1
  rw [Nat.sub_self]
  go_enter Tryz.func116, Tryz.ntmps116
  go_wp2_with fail
  go_quiet ((go_at_call 85; exact Calls.quiet_of_same ((zeros_any _ (by omega) _).mono fun e w' h => ⟨h.1, h.2.symm⟩)))
  go_wp2
  go_ret3
  exact ⟨rfl, below_drewN (((Below.refl _ _).alloc (Nat.le_refl _) _).alloc (by simp) _) _⟩
end Go.Proofs.YtmdnijehoagamaaGreatDoor
namespace Go.Proofs.YtmdnijehoagamaaGreatDoor
set_option maxRecDepth 100000
set_option maxHeartbeats 4000000
open Go.RowKit
theorem below_drew1 (W : World) : Below W.heap.size W W.drew := ⟨rfl, rfl, rfl, Nat.le_refl _, fun _ _ => rfl⟩
def sumSpec (neg1 : Bool) (n s : Nat) (neg2 : Bool) (m t : Nat) : Option Dec :=
 if (neg1 == neg2) = true then mkDec neg1 (n * 10 ^ (max s t - s) + m * 10 ^ (max s t - t)) (max s t)
 else if n * 10 ^ (max s t - s) < m * 10 ^ (max s t - t) then mkDec neg2 (m * 10 ^ (max s t - t) - n * 10 ^ (max s t - s)) (max s t)
 else mkDec neg1 (n * 10 ^ (max s t - s) - m * 10 ^ (max s t - t)) (max s t)
end Go.Proofs.YtmdnijehoagamaaGreatDoor
