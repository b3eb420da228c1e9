/- LJ OB SB -/
import Derived.Test.YtmdnijehoagamaaGreatDoorK50
set_option linter.unusedVariables false
set_option linter.unusedSimpArgs false
namespace Go.Proofs.YtmdnijehoagamaaGreatDoor
open Go.RowKit
theorem mkDec_self {a : Dec} (ha : Valid a) : mkDec a.neg (num a) (scl a) = some a := by
 rw [mkDec_sign]
 have := ha.is.le
 exact ofInt_in (M := 60) ha (by omega) (by omega) rfl
theorem fin_self {a : Dec} (ha : Valid a) (t : ByteArray) (hall : AllD t.data.toList) (hne : t.data.toList ≠ []) (hv : val t.data.toList = num a) : finS a.neg t (scl a) = ⟨a, 0⟩ := by
 unfold finS
 rw [if_pos ((digB_iff _).2 ⟨hall, hne⟩), hv, mkDec_self ha]
 rfl
theorem body_self {a : Dec} (ha : Valid a) : bodyS a.neg (txtB (txtA a.ds (scl a)) (scl a)) = ⟨a, 0⟩ := by
 obtain ⟨hall, hv, hlt⟩ := txtA_list ha
 generalize txtA a.ds (scl a) = t at *
 have hlen := bytes_len t
 have hne : t.data.toList ≠ [] := by intro e; rw [e] at hlen; simp at hlen; omega
 unfold bodyS txtB
 by_cases h0 : 0 < scl a
 ·rw [if_pos h0]
  have hu : (t.extract 0 (t.size - scl a) ++ ⟨#[46]⟩ ++ t.extract (t.size - scl a) t.size : ByteArray).data.toList = t.data.toList.take (t.size - scl a) ++ 46 :: t.data.toList.drop (t.size - scl a) := by
   rw [Joins.data_append, Joins.data_append, upto_list, from_list]
   simp
  generalize (t.extract 0 (t.size - scl a) ++ ⟨#[46]⟩ ++ t.extract (t.size - scl a) t.size : ByteArray) = u at *
  have hlt2 : (t.data.toList.take (t.size - scl a)).length = t.size - scl a := by rw [List.length_take, hlen]; omega
  have hus : u.size = t.size + 1 := by
   rw [← bytes_len, hu, List.length_append, hlt2, List.length_cons, List.length_drop, hlen]
   omega
  have hpt : ptAt u = t.size - scl a := by
   unfold ptAt
   rw [hu, find_at (hall.take _), hlt2]
  rw [if_pos (by rw [hpt, hus]; omega)]
  have hj : u.extract 0 (ptAt u) ++ u.extract (ptAt u + 1) u.size = t := by
   apply bytes_ext
   rw [Joins.data_append, upto_list, from_list, hpt, hu]
   have e1 : List.take (t.size - scl a) (t.data.toList.take (t.size - scl a) ++ 46 :: t.data.toList.drop (t.size - scl a)) = t.data.toList.take (t.size - scl a) := by
    rw [List.take_append_of_le_length (by omega), List.take_take, Nat.min_self]
   have e2 : List.drop (t.size - scl a + 1) (t.data.toList.take (t.size - scl a) ++ 46 :: t.data.toList.drop (t.size - scl a)) = t.data.toList.drop (t.size - scl a) := by
    rw [List.drop_append, List.drop_eq_nil_of_le (by omega), hlt2, show t.size - scl a + 1 - (t.size - scl a) = 1 by omega]
    rfl
   rw [e1, e2, List.take_append_drop]
  rw [hj, show u.size - ptAt u - 1 = scl a by rw [hpt, hus]; omega]
  exact fin_self ha t hall hne hv
 ·rw [if_neg h0]
  have hz : scl a = 0 := by omega
  have hpt : ptAt t = t.size := by unfold ptAt; rw [find_none hall, hlen]
  rw [if_neg (by omega)]
  have := fin_self ha t hall hne hv
  rw [hz] at this
  exact this
theorem first_digit {a : Dec} (ha : Valid a) (hp : 0 < (txtB (txtA a.ds (scl a)) (scl a)).size) : 48 ≤ (txtB (txtA a.ds (scl a)) (scl a))[0].toNat := by
 obtain ⟨hall, hv, hlt⟩ := txtA_list ha
 generalize txtA a.ds (scl a) = t at *
 have hlen := bytes_len t
 have hd : ∃ c r, t.data.toList = c :: r ∧ 48 ≤ c.toNat := by
  cases hl : t.data.toList with
  | nil => rw [hl] at hlen; simp at hlen; omega
  | cons c r => exact ⟨c, r, rfl, (hall c (by rw [hl]; exact List.mem_cons_self)).1⟩
 obtain ⟨c, r, hl, hc⟩ := hd
 have hu : ∃ r', (txtB t (scl a)).data.toList = c :: r' := by
  unfold txtB
  split
  ·rw [Joins.data_append, Joins.data_append, upto_list, hl]
   obtain ⟨k, hk⟩ : ∃ k, t.size - scl a = k + 1 := ⟨t.size - scl a - 1, by omega⟩
   rw [hk]
   exact ⟨_, rfl⟩
  ·exact ⟨r, hl⟩
 obtain ⟨r', hu⟩ := hu
 rw [byte_at hu hp (by simp)]
 exact hc
theorem back {a : Dec} (ha : Valid a) : readS (textOf a) = ⟨a, 0⟩ := by
 have hb := body_self ha
 have hf := first_digit ha
 unfold textOf
 rw [show a.sc.toNat = scl a from rfl]
 generalize txtB (txtA a.ds (scl a)) (scl a) = u at *
 unfold txtC
 cases hn : a.neg with
 | true =>
  rw [if_pos rfl]
  have hl : ((⟨#[45]⟩ : ByteArray) ++ u).data.toList = 45 :: u.data.toList := by rw [Joins.data_append]; rfl
  have hz : 0 < ((⟨#[45]⟩ : ByteArray) ++ u).size := by rw [app_size]; show 0 < 1 + _; omega
  have he : ((⟨#[45]⟩ : ByteArray) ++ u).extract 1 ((⟨#[45]⟩ : ByteArray) ++ u).size = u := bytes_ext (by rw [from_list, hl]; rfl)
  unfold readS
  rw [dif_pos hz, if_pos (by rw [byte_at hl hz (by simp)]; rfl), he]
  rw [hn] at hb
  exact hb
 | false =>
  rw [if_neg (by simp)]
  rw [hn] at hb
  unfold readS
  by_cases hz : 0 < u.size
  ·have h1 := hf hz
   rw [dif_pos hz, if_neg (by omega), if_neg (by omega)]
   exact hb
  ·rw [dif_neg hz]
   exact hb
theorem body_any {a : Dec} (ha : Valid a) (t : ByteArray) (hall : AllD t.data.toList) (hv : val t.data.toList = num a) (hlt : scl a < t.size) : bodyS a.neg (txtB t (scl a)) = ⟨a, 0⟩ := by
 have hlen := bytes_len t
 have hne : t.data.toList ≠ [] := by intro e; rw [e] at hlen; simp at hlen; omega
 unfold bodyS txtB
 by_cases h0 : 0 < scl a
 ·rw [if_pos h0]
  have hu : (t.extract 0 (t.size - scl a) ++ ⟨#[46]⟩ ++ t.extract (t.size - scl a) t.size : ByteArray).data.toList = t.data.toList.take (t.size - scl a) ++ 46 :: t.data.toList.drop (t.size - scl a) := by
   rw [Joins.data_append, Joins.data_append, upto_list, from_list]
   simp
  generalize (t.extract 0 (t.size - scl a) ++ ⟨#[46]⟩ ++ t.extract (t.size - scl a) t.size : ByteArray) = u at *
  have hlt2 : (t.data.toList.take (t.size - scl a)).length = t.size - scl a := by rw [List.length_take, hlen]; omega
  have hus : u.size = t.size + 1 := by
   rw [← bytes_len, hu, List.length_append, hlt2, List.length_cons, List.length_drop, hlen]
   omega
  have hpt : ptAt u = t.size - scl a := by
   unfold ptAt
   rw [hu, find_at (hall.take _), hlt2]
  rw [if_pos (by rw [hpt, hus]; omega)]
  have hj : u.extract 0 (ptAt u) ++ u.extract (ptAt u + 1) u.size = t := by
   apply bytes_ext
   rw [Joins.data_append, upto_list, from_list, hpt, hu]
   have e1 : List.take (t.size - scl a) (t.data.toList.take (t.size - scl a) ++ 46 :: t.data.toList.drop (t.size - scl a)) = t.data.toList.take (t.size - scl a) := by
    rw [List.take_append_of_le_length (by omega), List.take_take, Nat.min_self]
   have e2 : List.drop (t.size - scl a + 1) (t.data.toList.take (t.size - scl a) ++ 46 :: t.data.toList.drop (t.size - scl a)) = t.data.toList.drop (t.size - scl a) := by
    rw [List.drop_append, List.drop_eq_nil_of_le (by omega), hlt2, show t.size - scl a + 1 - (t.size - scl a) = 1 by omega]
    rfl
   rw [e1, e2, List.take_append_drop]
  rw [hj, show u.size - ptAt u - 1 = scl a by rw [hpt, hus]; omega]
  exact fin_self ha t hall hne hv
 ·rw [if_neg h0]
  have hz : scl a = 0 := by omega
  have hpt : ptAt t = t.size := by unfold ptAt; rw [find_none hall, hlen]
  rw [if_neg (by omega)]
  have := fin_self ha t hall hne hv
  rw [hz] at this
  exact this
theorem sec_back {a : Dec} (ha : Valid a) (hn : a.neg = false) (hlt : num a < 60 * 10 ^ scl a) : readS ⟨(secL a).toArray⟩ = ⟨a, 0⟩ := by
 obtain ⟨hall, hv, hsz⟩ := txtA_list ha
 obtain ⟨w1, w2, w3, w4, w5⟩ := sec_parts ha hlt
 have hl := bytes_len (txtA a.ds (scl a))
 obtain ⟨z, hz⟩ : ∃ z, 2 - (wholeL a).length = z := ⟨_, rfl⟩
 have hT : (zs z ++ txtA a.ds (scl a)).data.toList = List.replicate z 48 ++ tenL a := by rw [Joins.data_append, zs_list]; rfl
 have hb := body_any ha (zs z ++ txtA a.ds (scl a)) (by rw [hT]; exact (AllD.zeros _).append hall) (by rw [hT, val_append, val_zeros, Nat.zero_mul, Nat.zero_add]; exact hv) (by rw [app_size, zs_size]; omega)
 have hs : (zs z ++ txtA a.ds (scl a)).size = z + (tenL a).length := by rw [app_size, zs_size, ← hl]; rfl
 have hlen2 : scl a < (tenL a).length := by unfold tenL; omega
 have e : (⟨(secL a).toArray⟩ : ByteArray) = txtB (zs z ++ txtA a.ds (scl a)) (scl a) := by
  apply bytes_ext
  rw [bytes_mk]
  unfold secL txtB tailL wholeL
  unfold wholeL at hz
  rw [hz]
  split
  ·rw [Joins.data_append, Joins.data_append, upto_list, from_list, hT, hs]
   have e1 : List.take (z + (tenL a).length - scl a) (List.replicate z 48 ++ tenL a) = List.replicate z 48 ++ (tenL a).take ((tenL a).length - scl a) := by
    rw [List.take_append, List.length_replicate, show z + (tenL a).length - scl a - z = (tenL a).length - scl a by omega, List.take_of_length_le (i := z + (tenL a).length - scl a) (by rw [List.length_replicate]; omega)]
   have e2 : List.drop (z + (tenL a).length - scl a) (List.replicate z 48 ++ tenL a) = (tenL a).drop ((tenL a).length - scl a) := by
    rw [List.drop_append, List.length_replicate, show z + (tenL a).length - scl a - z = (tenL a).length - scl a by omega, List.drop_eq_nil_of_le (i := z + (tenL a).length - scl a) (by rw [List.length_replicate]; omega), List.nil_append]
   rw [e1, e2]
   simp
  ·next h => rw [hT, show scl a = 0 by omega]; simp
 have hfirst : ∃ c r, secL a = c :: r ∧ 48 ≤ c.toNat := by
  unfold secL
  have h1 : AllD (List.replicate (2 - (wholeL a).length) 48 ++ wholeL a) := (AllD.zeros _).append w1
  have h2 : (List.replicate (2 - (wholeL a).length) 48 ++ wholeL a).length = 2 := by rw [List.length_append, List.length_replicate]; omega
  generalize List.replicate (2 - (wholeL a).length) 48 ++ wholeL a = u at *
  match u, h2, h1 with
  | c :: r, _, h1 => exact ⟨c, r ++ tailL a, rfl, h1.head.1⟩
 rw [hn, ← e] at hb
 obtain ⟨c, r, hc, hc2⟩ := hfirst
 have hd : (⟨(secL a).toArray⟩ : ByteArray).data.toList = c :: r := by rw [bytes_mk, hc]
 have hz0 : 0 < (⟨(secL a).toArray⟩ : ByteArray).size := by rw [← bytes_len, hd]; simp
 unfold readS
 have hb0 := byte_at hd hz0 (by simp)
 simp only [List.getElem_cons_zero] at hb0
 rw [dif_pos hz0, hb0, if_neg (by omega), if_neg (by omega)]
 exact hb
theorem has_two (k : Nat) {n : Nat} (r : List UInt8) : hasDg k (twoL n k ++ r) = true := by
 rw [hasDg_iff, List.length_append, twoL_len, List.take_left' (twoL_len k n)]
 exact ⟨by omega, twoL_all k n⟩
theorem num_two {k n : Nat} (h : n < 10 ^ k) (r : List UInt8) : numP k (twoL n k ++ r) = some (n, r) := by
 unfold numP
 rw [if_pos (has_two k r), List.take_left' (twoL_len k n), List.drop_left' (twoL_len k n), twoL_val k n h]
theorem is_not {c : UInt8} {s : List UInt8} (h : ∀ x r, s = x :: r → x ≠ c) : isP c s = (false, s) := by
 cases s with
 | nil => rfl
 | cons x r =>
  show (if x = c then (true, r) else (false, x :: r)) = _
  rw [if_neg (h x r rfl)]
theorem two_first {n k : Nat} (hk : 1 ≤ k) {r t : List UInt8} {x : UInt8} (h : twoL n k ++ r = x :: t) : 48 ≤ x.toNat ∧ x.toNat ≤ 57 := by
 have h1 := twoL_all k n
 have h2 := twoL_len k n
 cases hl : twoL n k with
 | nil => rw [hl] at h2; simp at h2; omega
 | cons y q =>
  rw [hl] at h h1
  simp only [List.cons_append, List.cons.injEq] at h
  rw [← h.1]
  exact h1.head
theorem date_back {y mo d : Int} (y0 : -9999 ≤ y) (y1 : y ≤ 9999) (m0 : 0 ≤ mo) (m1 : mo ≤ 99) (d0 : 0 ≤ d) (d1 : d ≤ 99) (r : List UInt8) : dateP (dateL y mo d ++ r) = some ((y, mo, d), r) := by
 obtain ⟨mn, rfl⟩ : ∃ n : Nat, mo = (n : Int) := ⟨mo.toNat, by omega⟩
 obtain ⟨dn, rfl⟩ : ∃ n : Nat, d = (n : Int) := ⟨d.toNat, by omega⟩
 unfold dateP dateL
 simp only [Int.toNat_natCast]
 have h4 : y.natAbs < 10 ^ 4 := by omega
 have h2 : mn < 10 ^ 2 := by omega
 have h3 : dn < 10 ^ 2 := by omega
 by_cases hy : y < 0
 ·rw [if_pos hy]
  simp only [List.cons_append, List.nil_append, List.append_assoc, is_one, num_two h4, num_two h2, num_two h3, ch_one, Option.bind_some, if_true]
  congr 3
  omega
 ·rw [if_neg hy]
  have hi : isP 45 (twoL y.natAbs 4 ++ 45 :: (twoL mn 2 ++ 45 :: (twoL dn 2 ++ r))) = (false, twoL y.natAbs 4 ++ 45 :: (twoL mn 2 ++ 45 :: (twoL dn 2 ++ r))) := is_not fun x t e hx => by
   have := two_first (by omega) e
   rw [hx] at this
   exact absurd this.1 (by decide)
  simp only [List.cons_append, List.nil_append, List.append_assoc, hi, num_two h4, num_two h2, num_two h3, ch_one, Option.bind_some, Bool.false_eq_true, if_false]
  congr 3
  omega
def Past (r : List UInt8) : Prop := ∀ x t, r = x :: t → dgB x = false ∧ x ≠ 46
theorem run_back {b r : List UInt8} (hb : AllD b) (h1 : 1 ≤ b.length) (hr : Past r) : runP (b ++ r) = some (b, r) := by
 unfold runP
 rw [if_pos ((hasDg_iff _ _).2 ⟨by rw [List.length_append]; omega, by rw [List.take_append_of_le_length h1]; exact hb.take _⟩)]
 have hall : ∀ x ∈ b, dgB x = true := fun x hx => (dgB_iff x).2 (hb x hx)
 have e1 : (b ++ r).takeWhile dgB = b := by
  rw [List.takeWhile_append_of_pos hall]
  cases r with
  | nil => simp
  | cons x t => rw [List.takeWhile_cons, (hr x t rfl).1]; simp
 have e2 : (b ++ r).dropWhile dgB = r := by
  rw [List.dropWhile_append_of_pos hall]
  cases r with
  | nil => rfl
  | cons x t => rw [List.dropWhile_cons, (hr x t rfl).1]; simp
 rw [e1, e2]
theorem time_back {h mi : Int} {s : Dec} (h0 : 0 ≤ h) (h1 : h ≤ 99) (m0 : 0 ≤ mi) (m1 : mi ≤ 99) (hs : Valid s) (hlt : num s < 60 * 10 ^ scl s) (r : List UInt8) (hr : Past r) : timeP (clkL h mi s ++ r) = some ((h, mi, secL s), r) := by
 obtain ⟨hn, rfl⟩ : ∃ n : Nat, h = (n : Int) := ⟨h.toNat, by omega⟩
 obtain ⟨mn, rfl⟩ : ∃ n : Nat, mi = (n : Int) := ⟨mi.toNat, by omega⟩
 have h2 : hn < 10 ^ 2 := by omega
 have h3 : mn < 10 ^ 2 := by omega
 obtain ⟨w1, w2, w3, w4, w5⟩ := sec_parts hs hlt
 obtain ⟨u, hu⟩ : ∃ u, List.replicate (2 - (wholeL s).length) 48 ++ wholeL s = u := ⟨_, rfl⟩
 have u1 : AllD u := by rw [← hu]; exact (AllD.zeros _).append w1
 have u2 : u.length = 2 := by rw [← hu, List.length_append, List.length_replicate]; omega
 unfold timeP clkL secL
 rw [hu]
 have ht : ∀ q, txtP 2 (u ++ q) = some (u, q) := fun q => by
  unfold txtP
  rw [if_pos ((hasDg_iff _ _).2 ⟨by rw [List.length_append]; omega, by rw [List.take_left' u2]; exact u1⟩), List.take_left' u2, List.drop_left' u2]
 have hf : fracP u (tailL s ++ r) = some (u ++ tailL s, r) := by
  unfold fracP tailL
  split
  ·next hp =>
   simp only [List.cons_append, is_one, if_true]
   rw [run_back w4 (by omega) hr]
   rfl
  ·rw [List.nil_append, is_not fun x t e => (hr x t e).2]
   simp
 simp only [Int.toNat_natCast, List.cons_append, List.append_assoc, num_two h2, num_two h3, ch_one, Option.bind_some, ht, hf]
theorem zone_back {zd : Bool} {z : Int} (z0 : -840 ≤ z) (z1 : z ≤ 840) (hz : zd = true ∨ z = 0) : zoneP (zoneL zd z) = some (zd, z) := by
 unfold zoneL
 cases zd with
 | false =>
  rw [if_neg (by simp)]
  rcases hz with h | h
  ·cases h
  ·rw [h]; rfl
 | true =>
  rw [if_pos rfl]
  by_cases h0 : z = 0
  ·rw [if_pos h0, h0]
   rfl
  ·rw [if_neg h0]
   have ha : awayP (twoL (z.natAbs / 60) 2 ++ 58 :: twoL (z.natAbs % 60) 2) = some (z.natAbs, []) := by
    unfold awayP
    have e := num_two (show z.natAbs % 60 < 10 ^ 2 by omega) []
    rw [List.append_nil] at e
    rw [num_two (show z.natAbs / 60 < 10 ^ 2 by omega)]
    simp only [Option.bind_some, ch_one, e]
    rw [if_pos (by omega)]
    congr 2
    omega
   unfold zoneP
   by_cases hn : z < 0
   ·rw [if_pos hn]
    simp only [ha]
    rw [if_neg (by decide), if_pos (by decide)]
    simp only [Option.bind_some, if_true]
    congr 2
    omega
   ·rw [if_neg hn]
    simp only [ha]
    rw [if_neg (by decide), if_pos (by decide)]
    simp only [Option.bind_some, if_true]
    rw [if_neg (by decide)]
    congr 2
    omega
theorem zone_past (zd : Bool) (z : Int) : Past (zoneL zd z) := by
 unfold Past zoneL
 intro x t h
 split at h
 ·split at h
  ·obtain ⟨rfl, _⟩ := List.cons.inj h; decide
  ·split at h
   ·obtain ⟨rfl, _⟩ := List.cons.inj h; decide
   ·obtain ⟨rfl, _⟩ := List.cons.inj h; decide
 ·cases h
theorem parts_back {m : Mom} (h : OkF m) : partsP m.k (textL m) = some ⟨m.y, m.mo, m.d, m.h, m.mi, if timedB m.k then secL m.sec else [], m.zd, m.z⟩ := by
 obtain ⟨z0, z1, z2⟩ := h.zone
 have hz := zone_back z0 z1 z2
 have hp := zone_past m.zd m.z
 unfold partsP textL
 have e1 : ∀ r, dayP m.k ((if datedB m.k then dateL m.y m.mo m.d else []) ++ r) = some ((m.y, m.mo, m.d), r) := by
  intro r
  unfold dayP
  cases hd : datedB m.k with
  | true =>
   have := h.date hd
   have := h.days hd
   simp only [if_true]
   exact date_back (by omega) (by omega) (by omega) (by omega) (by omega) (by omega) r
  | false =>
   obtain ⟨a, b, c⟩ := h.nodate hd
   rw [a, b, c]
   rfl
 have e2 : ∀ r, midP m.k ((if m.k = 3 then [84] else []) ++ r) = some ((), r) := by
  intro r
  unfold midP
  split
  ·exact ch_one 84 r
  ·rfl
 have e3 : clkP m.k ((if timedB m.k then clkL m.h m.mi m.sec else []) ++ zoneL m.zd m.z) = some ((m.h, m.mi, if timedB m.k then secL m.sec else []), zoneL m.zd m.z) := by
  unfold clkP
  cases ht : timedB m.k with
  | true =>
   have hh := h.time ht
   simp only [if_true]
   exact time_back (by omega) (by omega) (by omega) (by omega) hh.2.2.2.2.1 (h.sec_lt ht) _ hp
  | false =>
   obtain ⟨a, b, c⟩ := h.notime ht
   rw [a, b]
   rfl
 simp only [e1, e2, e3, hz, Option.bind_some]
theorem read_back {m : Mom} (hm : okB m = true) : readS6 m.k (textL m) = ⟨m, 0⟩ := by
 have h := okF hm
 unfold readS6
 rw [if_pos h.kind, parts_back h]
 simp only
 unfold partsS
 cases ht : timedB m.k with
 | true =>
  have hh := h.time ht
  simp only [if_true]
  rw [sec_back hh.2.2.2.2.1 hh.2.2.2.2.2.1 (h.sec_lt ht)]
  simp only [if_true]
  unfold seenS Parts.mom
  rw [if_pos hm]
 | false =>
  rw [if_neg (by simp)]
  have hh := h.notime ht
  unfold seenS Parts.mom
  simp only
  rw [← hh.2.2, if_pos hm]
theorem cmp_bad {a b : Mom} (h : ¬ (okB a = true ∧ okB b = true ∧ a.k = b.k)) : cmpS6 a b = (0, false, 2) := by
  unfold cmpS6
  rw [if_neg]
  intro g
  unfold bothB at g
  simp only [Bool.and_eq_true, beq_iff_eq] at g
  exact h ⟨g.1.1, g.1.2, g.2⟩
theorem cmp_self {a : Mom} (ha : okB a = true) : cmpS6 a a = (0, true, 0) ∧ eqS6 a a = (true, 0) := by
  obtain ⟨A, B, G, _, h1, h2, _, e⟩ := cmp_tot ha ha rfl
  have hz : (a.zd == a.zd) = true := by cases a.zd <;> rfl
  have e2 : cmpS6 a a = (0, true, 0) := by
    rw [e, if_pos hz, if_neg (by omega), if_pos (by omega)]
  refine ⟨e2, ?_⟩
  unfold eqS6
  rw [e2]
  rfl
theorem less_ok {a b : Mom} (h : lessB a b = true) : okB a = true ∧ okB b = true ∧ a.k = b.k := by
  by_cases g : okB a = true ∧ okB b = true ∧ a.k = b.k
  · exact g
  · unfold lessB at h
    rw [cmp_bad g] at h
    cases h
theorem less_back {a b : Mom} (h : lessB a b = true) : cmpS6 b a = (1, true, 0) := by
  obtain ⟨ha, hb, hk⟩ := less_ok h
  obtain ⟨A, B, G, hG, h1, h2, h3, e⟩ := cmp_tot ha hb hk
  obtain ⟨B', A', G', _, k1, k2, k3, e'⟩ := cmp_tot hb ha hk.symm
  have : A' = A := by omega
  subst this
  have : B' = B := by omega
  subst this
  have : G' = G := by omega
  subst this
  unfold lessB at h
  rw [e] at h
  rw [e']
  clear e e' h1 h2 h3 k1 k2 k3
  by_cases hz : a.zd = b.zd
  · rw [if_pos (by simp [hz])] at h
    rw [if_pos (by simp [hz])]
    by_cases g : A' < B'
    · rw [if_neg (by omega), if_neg (by omega)]
    · rw [if_neg g] at h
      split at h <;> cases h
  · rw [if_neg (by simp [hz])] at h
    rw [if_neg (by simp [Ne.symm hz])]
    by_cases g : A' < B' - G'
    · rw [if_neg (by omega), if_pos (by omega)]
    · rw [if_neg g] at h
      split at h <;> cases h
theorem less_trans {a b c : Mom} (h : lessB a b = true) (k : lessB b c = true) : (cmpS6 a c = (-1, true, 0) ∨ cmpS6 a c = (0, false, 0)) ∧ eqS6 a c = (false, 0) := by
  obtain ⟨ha, hb, hk⟩ := less_ok h
  obtain ⟨_, hc, hk2⟩ := less_ok k
  obtain ⟨A, B, G, hG, h1, h2, h3, e⟩ := cmp_tot ha hb hk
  obtain ⟨B', C, G', _, k1, k2, k3, e'⟩ := cmp_tot hb hc hk2
  obtain ⟨A', C', G2, _, l1, l2, l3, e2⟩ := cmp_tot ha hc (hk.trans hk2)
  have lt1 : A < B := by
    unfold lessB at h
    rw [e] at h
    by_cases g : A < B
    · exact g
    · exfalso
      by_cases hz : (a.zd == b.zd) = true
      · rw [if_pos hz, if_neg g] at h
        by_cases g2 : A = B
        · rw [if_pos g2] at h; cases h
        · rw [if_neg g2] at h; cases h
      · rw [if_neg hz, if_neg (show ¬ A < B - G by omega)] at h
        by_cases g2 : B + G < A
        · rw [if_pos g2] at h; cases h
        · rw [if_neg g2] at h; cases h
  have lt2 : B' < C := by
    unfold lessB at k
    rw [e'] at k
    by_cases g : B' < C
    · exact g
    · exfalso
      by_cases hz : (b.zd == c.zd) = true
      · rw [if_pos hz, if_neg g] at k
        by_cases g2 : B' = C
        · rw [if_pos g2] at k; cases k
        · rw [if_neg g2] at k; cases k
      · rw [if_neg hz, if_neg (show ¬ B' < C - G' by omega)] at k
        by_cases g2 : C + G' < B'
        · rw [if_pos g2] at k; cases k
        · rw [if_neg g2] at k; cases k
  have hc2 : cmpS6 a c = (-1, true, 0) ∨ cmpS6 a c = (0, false, 0) := by
    rw [e2]
    have hlt : A' < C' := by omega
    by_cases hz : (a.zd == c.zd) = true
    · rw [if_pos hz, if_pos hlt]; exact Or.inl rfl
    · rw [if_neg hz]
      by_cases g : A' < C' - G2
      · rw [if_pos g]; exact Or.inl rfl
      · rw [if_neg g, if_neg (show ¬ C' + G2 < A' by omega)]; exact Or.inr rfl
  refine ⟨hc2, ?_⟩
  unfold eqS6
  rcases hc2 with g | g <;> rw [g] <;> rfl
end Go.Proofs.YtmdnijehoagamaaGreatDoor
