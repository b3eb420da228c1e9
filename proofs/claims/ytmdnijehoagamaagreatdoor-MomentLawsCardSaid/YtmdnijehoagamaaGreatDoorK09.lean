/- PJ PM LC LE -/
import Derived.Lib.AppendIntMem
import Derived.Lib.ItoaMem
import Derived.Test.YtmdnijehoagamaaGreatDoorK06
import Derived.Test.YtmdnijehoagamaaGreatDoorK08
set_option linter.unusedVariables false
set_option linter.unusedSimpArgs false
namespace Go.Proofs.YtmdnijehoagamaaGreatDoor
open Go.RowKit Go.Shelf
def monthTab (i : Nat) : Int := ([31, 28, 31, 30, 31, 30, 31, 31, 30, 31, 30, 31] : List Int).getD i 0
structure Tabs (w : World) : Prop where
 pow : Lib.TabIs Tryz.prog w "internal/strconv.uint64pow10" .u64 Lib.pow10Tab
 maxl : ∃ m, w.cell? ⟨1, 0, none⟩ = some (.int .i64 m)
 size : 9 ≤ w.heap.size
 mds : ∀ i, i < 12 → w.cell? ⟨0, i, none⟩ = some (.int .i64 (monthTab i))
theorem var_block {w w' : World} {g : Nat} (h : w'.heap[g]? = w.heap[g]?) {name : String} (hg : Tryz.prog.globalNamed name = some g) : w'.var? Tryz.prog name = w.var? Tryz.prog name := by
 unfold World.var?
 rw [hg]
 simp only [Option.bind_some, h]
theorem Tabs.below {w w' : World} {B : Nat} (h : Tabs w) (hb : Below B w w') (hB : 9 ≤ B) : Tabs w' := by
 obtain ⟨hp, ⟨m, hm⟩, hs, hd⟩ := h
 refine ⟨?_, ⟨m, (hb.cell (p := ⟨1, 0, none⟩) (show 1 < B by omega)).trans hm⟩, Nat.le_trans hs hb.size, fun i hi => (hb.cell (p := ⟨0, i, none⟩) (show 0 < B by omega)).trans (hd i hi)⟩
 unfold Lib.TabIs at hp ⊢
 rw [var_block (hb.block 2 (by omega)) (show Tryz.prog.globalNamed "internal/strconv.uint64pow10" = some 2 by kernel_rfl)]
 exact hp
theorem Tabs.next {w w' : World} (h : Tabs w) (hb : Below w.heap.size w w') : Tabs w' := h.below hb h.size
theorem decDigits_digs (u : Nat) : Lib.decDigits u = digs u := by
 induction u using Nat.strongRecOn with
 | ind u ih =>
  by_cases h : u < 10
  ·rw [digs_small h, Lib.decDigits, dif_pos h]
  ·rw [digs_big h, Lib.decDigits, dif_neg h, ih (u / 10) (by omega)]
theorem itoa_digs (u : Nat) : Lib.itoa (u : Int) = digs u := by rw [Lib.itoa_nonneg, decDigits_digs]
theorem format_call (n : Int) (h0 : -9223372036854775808 ≤ n) (h1 : n ≤ 9223372036854775807) (w : World) (hT : Tabs w) :
  Calls Tryz.prog 102 #[.int .i64 n, .int .i64 10] w fun e w' => e = .returned (.string ⟨(Lib.itoa n).toArray⟩) ∧ Below w.heap.size w w' :=
 (Tryz.strconv_FormatInt_10 n h0 h1 w hT.pow).mono fun e w' ⟨he, k, os, hw⟩ => ⟨he, hw ▸ Lib.below_grow _ w (Nat.le_refl _) k os⟩
theorem repeat_zeros (c : Nat) : Lib.repeatL [48] c = List.replicate c 48 := by
 induction c with
 | zero => rfl
 | succ c ih => rw [Lib.repeatL, ih]; rfl
theorem pzeros_call (n : Int) (h1 : n ≤ 100000) (h0 : -100000 ≤ n) (w : World) :
  Calls Tryz.prog 138 #[.int .i64 n] w fun e w' => e = .returned (.string (zs n.toNat)) ∧ Below w.heap.size w w' := by
 have c := fun W => Tryz.strings_Repeat ⟨#[48]⟩ n.toNat W (by omega) (by show 1 * n.toNat ≤ _; omega)
 rw [show (ByteArray.mk #[48]).data.toList = [48] from rfl, repeat_zeros, show (ByteArray.mk (List.replicate n.toNat 48).toArray) = zs n.toNat from rfl] at c
 rcases Int.lt_or_le n 0 with h | h
 ·have hn : n.toNat = 0 := by omega
  have hz : max n 0 = 0 := by omega
  rw [hn] at c ⊢
  go_enter Tryz.func138, Tryz.ntmps138
  go_wp2_with (go_at_call 115; refine (c _).mono ?_; rintro e w1 ⟨rfl, b1⟩)
  go_ret
  exact ⟨rfl, b1⟩
 ·obtain ⟨k, rfl⟩ : ∃ k : Nat, n = (k : Int) := ⟨n.toNat, by omega⟩
  rw [Int.toNat_natCast] at c ⊢
  have hz : max (k : Int) 0 = (k : Int) := by omega
  generalize zs k = Z at c ⊢
  go_enter Tryz.func138, Tryz.ntmps138
  go_wp2_with (go_at_call 115; refine (c _).mono ?_; rintro e w1 ⟨rfl, b1⟩)
  go_ret
  exact ⟨rfl, b1⟩
def pad9 (q : Nat) : List UInt8 := List.replicate (9 - (digs q).length) 48 ++ digs q
def padOf (n : Nat) (l : List (Fin 14)) : List UInt8 := l.flatMap fun x => pad9 (part n x.1)
theorem pad9_all (q : Nat) : AllD (pad9 q) := (AllD.zeros _).append (digs_all q)
theorem digs_nine {q : Nat} (h : q < 1000000000) : (digs q).length ≤ 9 := digs_len_le (show q < 10 ^ 9 from h) (by omega)
theorem pad9_len {q : Nat} (h : q < 1000000000) : (pad9 q).length = 9 := by
 have := digs_nine h
 unfold pad9
 rw [List.length_append, List.length_replicate]
 omega
theorem pad9_val (q : Nat) : val (pad9 q) = q := by
 unfold pad9
 rw [val_append, val_zeros, digs_val]
 simp
theorem padOf_snoc (n : Nat) (l : List (Fin 14)) (x : Fin 14) : padOf n (l ++ [x]) = padOf n l ++ pad9 (part n x.1) := by
 unfold padOf
 rw [List.flatMap_append, List.flatMap_singleton]
theorem padOf_len (n : Nat) (l : List (Fin 14)) : (padOf n l).length = 9 * l.length := by
 induction l with
 | nil => rfl
 | cons x l ih =>
  show (pad9 _ ++ padOf n l).length = _
  rw [List.length_append, ih, pad9_len (part_lt n x.1), List.length_cons]
  omega
theorem padOf_all (n : Nat) (l : List (Fin 14)) : AllD (padOf n l) := fun c hc => by
 obtain ⟨x, _, hx⟩ := List.mem_flatMap.1 hc
 exact pad9_all _ c hx
theorem padOf_val (n : Nat) (hn : n < 10 ^ 126) : ∀ k, k ≤ 14 → val (padOf n (backF.take k)) = n / 10 ^ (9 * (14 - k))
 | 0, _ => by
  rw [Nat.div_eq_of_lt hn]
  rfl
 | k + 1, hk => by
  have ih := padOf_val n hn k (by omega)
  have e := backF_take (13 - k) (by omega)
  rw [show 14 - (13 - k + 1) = k by omega, show 14 - (13 - k) = k + 1 by omega] at e
  rw [← e, padOf_snoc, val_append, ih, pad9_len (part_lt _ _), pad9_val]
  show _ * 10 ^ 9 + part n (13 - k) = _
  have h := part_top n (13 - k)
  rw [show 13 - k + 1 = 14 - k by omega] at h
  rw [show 14 - (k + 1) = 13 - k by omega, h]
def padS (n : Nat) : ByteArray := ⟨(padOf n backF).toArray⟩
theorem padS_list (n : Nat) : (padS n).data.toList = padOf n backF := bytes_mk _
theorem padS_all (n : Nat) : AllD (padS n).data.toList := by rw [padS_list]; exact padOf_all n _
theorem padS_val {n : Nat} (hn : n < 10 ^ 126) : val (padS n).data.toList = n := by
 have h := padOf_val n hn 14 (Nat.le_refl _)
 rw [padS_list]
 simpa [backF] using h
theorem padS_size (n : Nat) : (padS n).size = 126 := by rw [← bytes_len, padS_list, padOf_len]; rfl
end Go.Proofs.YtmdnijehoagamaaGreatDoor
namespace Go.Proofs.YtmdnijehoagamaaGreatDoor
set_option maxRecDepth 100000
set_option maxHeartbeats 4000000
open Go.RowKit
theorem pdigits_any (s : ByteArray) (hs : s.size ≤ maxLen) (w : World) :
  Calls Tryz.prog 132 #[.string s] w fun e w' => e = .returned (.bool (digB s.data.toList)) ∧ w = w' := by
 obtain ⟨L, hL⟩ : ∃ L, s.data.toList = L := ⟨_, rfl⟩
 have hLs : L.length = s.size := by rw [← hL]; exact bytes_len s
 have HL := Lib.hid (And.intro hL hLs)
 unfold maxLen at hs
 have hemp : s.toList.isEmpty = L.isEmpty := by rw [Lib.toList_data, hL]
 rw [hL]
 clear hL hLs
 obtain ⟨q, hq⟩ : ∃ q, L.isEmpty = q := ⟨_, rfl⟩
 rw [hq] at hemp
 have HQ := Lib.hid hq
 clear hq
 go_enter Tryz.func132, Tryz.ntmps132
 go_wp2
 go_loopg [6] (s.size + 1) (fun gk v6 wr => ∃ k : Nat, v6 = .int .i64 (k : Int) ∧ k ≤ s.size ∧ gk + k = s.size + 1 ∧ Hid (allDB (L.take k) = true) ∧ wr = w)
 case atStart => exact ⟨0, rfl, Nat.zero_le _, rfl, Lib.hid rfl, rfl⟩
 case round =>
  obtain ⟨k, rfl, hk, hgk, HT, rfl⟩ := hrel
  by_cases hlt : k < s.size
  ·have hkL : k < L.length := by rw [HL.out.2]; exact hlt
   have hget := byte_at HL.out.1 hlt hkL
   have hsplit : L = L.take k ++ L[k] :: L.drop (k + 1) := by rw [← List.drop_eq_getElem_cons hkL, List.take_append_drop]
   rw [← hget] at hsplit
   by_cases h1 : (s[k].toNat : Int) < 48
   ·have hb : Hid (digB L = false) := by
     show _ = _
     unfold digB allDB
     rw [hsplit, List.all_append, List.all_cons]
     have : isD s[k] = false := by unfold isD; exact decide_eq_false (by omega)
     rw [this]
     simp
    clear hget hsplit hkL HT
    go_wp2
    go_ret
    exact ⟨by rw [hb.out]; rfl, rfl⟩
   by_cases h2 : 57 < (s[k].toNat : Int)
   ·have hb : Hid (digB L = false) := by
     show _ = _
     unfold digB allDB
     rw [hsplit, List.all_append, List.all_cons]
     have : isD s[k] = false := by unfold isD; exact decide_eq_false (by omega)
     rw [this]
     simp
    clear hget hsplit hkL HT
    go_wp2
    go_ret
    exact ⟨by rw [hb.out]; rfl, rfl⟩
   have HT2 : Hid (allDB (L.take (k + 1)) = true) := by
    show _ = _
    rw [List.take_add_one, List.getElem?_eq_getElem hkL, ← hget]
    unfold allDB isD at *
    rw [Option.toList_some, List.all_append, HT.out]
    simp
    omega
   clear hget hsplit hkL HT
   go_wp2
   go_roundg (s.size - k)
   case measure => omega
   case rel => exact ⟨k + 1, by go_num, by omega, by omega, HT2, rfl⟩
  ·obtain rfl : k = s.size := by omega
   have hb : Hid (digB L = !q) := by
    have h := HT.out
    rw [← HL.out.2, List.take_length] at h
    show _ = _
    unfold digB
    rw [h, HQ.out]
    rfl
   clear HT hlt
   go_wp2
   go_ret
   exact ⟨by rw [hb.out]; try rfl, rfl⟩
theorem t_zero (neg : Bool) (ds : ByteArray) (sc : Int) (w : World) :
  Calls Tryz.prog 135 #[.agg #[.bool neg, .string ds, .int .i64 sc]] w fun e w' => e = .returned (.bool (!neg && (ds.toList == [48]) && decide (sc = 0))) ∧ Below w.heap.size w w' := by
 go_enter Tryz.func135, Tryz.ntmps135
 go_wp2
 all_goals go_ret
 all_goals exact ⟨by simp_all, (Below.refl _ _).alloc (Nat.le_refl _) _⟩
theorem t_scale (sc : Int) (w : World) :
  Calls Tryz.prog 136 #[.int .i64 sc] w fun e w' => e = .returned (.bool (decide (0 ≤ sc ∧ sc ≤ 60))) ∧ w' = w := by
 by_cases h0 : 0 ≤ sc
 ·go_enter Tryz.func136, Tryz.ntmps136
  go_wp2
  go_ret
  exact ⟨by simp [h0], rfl⟩
 ·go_enter Tryz.func136, Tryz.ntmps136
  go_wp2
  go_ret
  exact ⟨by simp; omega, rfl⟩
open Classical in
noncomputable def vB (d : Dec) : Bool := if Valid d then true else false
theorem vB_ok {d : Dec} (h : Valid d) : vB d = true := by unfold vB; rw [if_pos h]
theorem vB_bad {d : Dec} (h : ¬ Valid d) : vB d = false := by unfold vB; rw [if_neg h]
theorem valid_any (neg : Bool) (ds : ByteArray) (sc : Int) (hz : ds.size ≤ maxLen) (w : World) :
  Calls Tryz.prog 129 #[.agg #[.bool neg, .string ds, .int .i64 sc]] w fun e w' => e = .returned (.bool (vB ⟨neg, ds, sc⟩)) ∧ Below w.heap.size w w' := by
 have cZ := fun W => t_zero neg ds sc W
 have cD := fun W => pdigits_any ds hz W
 have cS := fun W => t_scale sc W
 obtain ⟨zq, hzq⟩ : ∃ q, (!neg && (ds.toList == [48]) && decide (sc = 0)) = q := ⟨_, rfl⟩
 obtain ⟨q, hq⟩ : ∃ q, digB ds.data.toList = q := ⟨_, rfl⟩
 rw [hzq] at cZ
 rw [hq] at cD
 unfold maxLen at hz
 cases zq with
 | true =>
  have HR : Hid (vB ⟨neg, ds, sc⟩ = true) := by
   show _ = _
   simp only [Bool.and_eq_true, Bool.not_eq_true', beq_iff_eq, decide_eq_true_eq] at hzq
   obtain ⟨⟨rfl, h48⟩, rfl⟩ := hzq
   rw [Lib.toList_data] at h48
   exact vB_ok ⟨0, 0, bytes_ext (by rw [h48, numS_list, digs_zero]), rfl, by rw [digs_zero]; simp, by omega, fun _ => ⟨rfl, rfl⟩, fun h => absurd h (by omega)⟩
  clear hzq hq hz cD cS
  go_enter Tryz.func129, Tryz.ntmps129
  go_wp2_with (first
   | (go_at_call 135; refine (cZ _).mono ?_; rintro e w1 ⟨rfl, b1⟩; obtain ⟨r0, r1, r2, f0, f1, f2, hB, hz1⟩ := one_all b1; have HB := Lib.hid hB; clear b1 hB)
   | (go_at_call 132; refine (cD _).mono ?_; rintro e w2 ⟨rfl, rfl⟩)
   | (go_at_call 136; refine (cS _).mono ?_; rintro e w2 ⟨rfl, rfl⟩))
  all_goals go_ret
  all_goals exact ⟨by rw [HR.out]; try rfl, HB.out⟩
 | false =>
  have hzero : ∀ n s, IsDec ⟨neg, ds, sc⟩ n s → n ≠ 0 := fun n s h h0 => by
   obtain ⟨h1, h2⟩ := h.zero h0
   have h3 := h.sc
   have h4 := h.ds
   simp only at h1 h3 h4
   subst h1 h2 h0
   rw [h3, h4, numS_toList, digs_zero] at hzq
   simp at hzq
  by_cases h60 : 60 < ds.size
  ·have h60i : ¬ (ds.size : Int) - 1 < 60 := by omega
   have HR : Hid (vB ⟨neg, ds, sc⟩ = false) := by show _ = _; exact vB_bad (fun h => by
    obtain ⟨n, s, h⟩ := h
    have h1 := h.len
    have h2 := h.ds
    simp only at h2
    rw [← numS_size, ← h2] at h1
    omega)
   clear hzq hq h60 hzero cS
   go_enter Tryz.func129, Tryz.ntmps129
   go_wp2_with (first
    | (go_at_call 135; refine (cZ _).mono ?_; rintro e w1 ⟨rfl, b1⟩; obtain ⟨r0, r1, r2, f0, f1, f2, hB, hz1⟩ := one_all b1; have HB := Lib.hid hB; clear b1 hB)
    | (go_at_call 132; refine (cD _).mono ?_; rintro e w2 ⟨rfl, rfl⟩)
    | (go_at_call 136; refine (cS _).mono ?_; rintro e w2 ⟨rfl, rfl⟩))
   all_goals go_ret
   all_goals exact ⟨by rw [HR.out]; try rfl, HB.out⟩
  have h60i : (ds.size : Int) - 1 < 60 := by omega
  cases q with
  | false =>
   have HR : Hid (vB ⟨neg, ds, sc⟩ = false) := by show _ = _; exact vB_bad (fun h => by
    obtain ⟨n, s, h⟩ := h
    have h2 := (digB_iff _).2 ⟨h.num.all, h.num.ne⟩
    rw [hq] at h2
    cases h2)
   clear hzq hq h60 hzero
   go_enter Tryz.func129, Tryz.ntmps129
   go_wp2_with (first
    | (go_at_call 135; refine (cZ _).mono ?_; rintro e w1 ⟨rfl, b1⟩; obtain ⟨r0, r1, r2, f0, f1, f2, hB, hz1⟩ := one_all b1; have HB := Lib.hid hB; clear b1 hB)
    | (go_at_call 132; refine (cD _).mono ?_; rintro e w2 ⟨rfl, rfl⟩)
    | (go_at_call 136; refine (cS _).mono ?_; rintro e w2 ⟨rfl, rfl⟩))
   all_goals go_ret
   all_goals exact ⟨by rw [HR.out]; try rfl, HB.out⟩
  | true =>
   obtain ⟨hall, hne⟩ := (digB_iff _).1 hq
   have hp : 0 < ds.size := by rw [← bytes_len]; exact List.length_pos_iff.2 hne
   clear hq
   by_cases hf : (ds[0].toNat : Int) = 48
   ·have hfb : ((ds[0].toNat : Int) != 48) = false := by rw [hf]; rfl
    have HR : Hid (vB ⟨neg, ds, sc⟩ = false) := by show _ = _; exact vB_bad (fun h => by
     obtain ⟨n, s2, h⟩ := h
     exact first_dig h.ds hp (.inr (hzero n s2 h)) (show ds[0].toNat = 48 by omega))
    clear hall hne h60 hzero hzq hf
    go_enter Tryz.func129, Tryz.ntmps129
    go_wp2_with (first
     | (go_at_call 135; refine (cZ _).mono ?_; rintro e w1 ⟨rfl, b1⟩; obtain ⟨r0, r1, r2, f0, f1, f2, hB, hz1⟩ := one_all b1; have HB := Lib.hid hB; clear b1 hB)
     | (go_at_call 132; refine (cD _).mono ?_; rintro e w2 ⟨rfl, rfl⟩)
     | (go_at_call 136; refine (cS _).mono ?_; rintro e w2 ⟨rfl, rfl⟩))
    all_goals go_ret
    all_goals exact ⟨by rw [HR.out]; try rfl, HB.out⟩
   have hfb : ((ds[0].toNat : Int) != 48) = true := by simpa using hf
   have hcan : Canon ds.data.toList := by
    refine ⟨hall, hne, fun e => ?_⟩
    exfalso
    cases hL : ds.data.toList with
    | nil => exact hne hL
    | cons c r =>
     rw [hL] at e
     have e0 := byte_at hL (k := 0) hp (by simp)
     simp only [List.getElem_cons_zero] at e0
     simp only [List.head?_cons, Option.some.injEq] at e
     rw [e0, e] at hf
     exact hf rfl
   obtain ⟨n, hn⟩ : ∃ n, val ds.data.toList = n := ⟨_, rfl⟩
   have hds : ds = numS n := by
    apply bytes_ext
    rw [numS_list, ← hn]
    exact canon_eq hcan
   have hlen : (digs n).length ≤ 60 := by rw [← numS_size, ← hds]; omega
   have hn0 : n ≠ 0 := fun h0 => by
    have h1 : ds.data.toList = [48] := by rw [hds, numS_list, h0, digs_zero]
    have e0 := byte_at h1 (k := 0) hp (by simp)
    rw [e0] at hf
    exact hf rfl
   by_cases hsc : 0 ≤ sc ∧ sc ≤ 60
   ·obtain ⟨s, rfl⟩ : ∃ s : Nat, sc = (s : Int) := ⟨sc.toNat, by omega⟩
    rw [decide_eq_true hsc] at cS
    by_cases hs : s = 0
    ·subst hs
     have HR : Hid (vB ⟨neg, ds, ((0 : Nat) : Int)⟩ = true) := by
      show _ = _
      exact vB_ok ⟨n, 0, hds, rfl, hlen, by omega, fun h => absurd h hn0, fun h => absurd h (by omega)⟩
     clear hall hne h60 hzero hzq hf hcan hn hds hlen hn0 hsc
     go_enter Tryz.func129, Tryz.ntmps129
     go_wp2_with (first
      | (go_at_call 135; refine (cZ _).mono ?_; rintro e w1 ⟨rfl, b1⟩; obtain ⟨r0, r1, r2, f0, f1, f2, hB, hz1⟩ := one_all b1; have HB := Lib.hid hB; clear b1 hB)
      | (go_at_call 132; refine (cD _).mono ?_; rintro e w2 ⟨rfl, rfl⟩)
      | (go_at_call 136; refine (cS _).mono ?_; rintro e w2 ⟨rfl, rfl⟩))
     all_goals go_ret
     all_goals exact ⟨by rw [HR.out]; try rfl, HB.out⟩
    have hsb : ((s : Int) == 0) = false := by simp; omega
    obtain ⟨m, hm⟩ : ∃ m, ds.size = m + 1 := ⟨ds.size - 1, by omega⟩
    have hld := last_dig hds hm
    have hmt : m < ds.size := by omega
    have hmi : (ds.size : Int) - 1 = (m : Int) := by omega
    by_cases hl10 : n % 10 = 0
    ·have hl48 : ((ds[m].toNat : Int) != 48) = false := by rw [hld, hl10]; rfl
     have HR : Hid (vB ⟨neg, ds, (s : Int)⟩ = false) := by show _ = _; exact vB_bad (fun h => by
      obtain ⟨n2, s2, h⟩ := h
      have h1 := h.ds
      have h2 := h.sc
      simp only at h1 h2
      have h3 := h.last (by omega)
      have h4 := digs_val n2
      rw [← numS_list, ← h1, hn] at h4
      rw [← h4] at h3
      exact h3 hl10)
     rw [hmi] at h60i
     clear hall hne h60 hzero hzq hf hcan hn hds hlen hn0 hsc hm hld hl10 hs
     go_enter Tryz.func129, Tryz.ntmps129
     go_wp2_with (first
      | (go_at_call 135; refine (cZ _).mono ?_; rintro e w1 ⟨rfl, b1⟩; obtain ⟨r0, r1, r2, f0, f1, f2, hB, hz1⟩ := one_all b1; have HB := Lib.hid hB; clear b1 hB)
      | (go_at_call 132; refine (cD _).mono ?_; rintro e w2 ⟨rfl, rfl⟩)
      | (go_at_call 136; refine (cS _).mono ?_; rintro e w2 ⟨rfl, rfl⟩))
     all_goals go_ret
     all_goals exact ⟨by rw [HR.out]; try rfl, HB.out⟩
    ·have hl48 : ((ds[m].toNat : Int) != 48) = true := by rw [hld]; simp; omega
     have HR : Hid (vB ⟨neg, ds, (s : Int)⟩ = true) := by
      show _ = _
      exact vB_ok ⟨n, s, hds, rfl, hlen, by omega, fun h => absurd h hn0, fun _ => hl10⟩
     rw [hmi] at h60i
     clear hall hne h60 hzero hzq hf hcan hn hds hlen hn0 hsc hm hld hl10 hs
     go_enter Tryz.func129, Tryz.ntmps129
     go_wp2_with (first
      | (go_at_call 135; refine (cZ _).mono ?_; rintro e w1 ⟨rfl, b1⟩; obtain ⟨r0, r1, r2, f0, f1, f2, hB, hz1⟩ := one_all b1; have HB := Lib.hid hB; clear b1 hB)
      | (go_at_call 132; refine (cD _).mono ?_; rintro e w2 ⟨rfl, rfl⟩)
      | (go_at_call 136; refine (cS _).mono ?_; rintro e w2 ⟨rfl, rfl⟩))
     all_goals go_ret
     all_goals exact ⟨by rw [HR.out]; try rfl, HB.out⟩
   ·rw [decide_eq_false hsc] at cS
    have HR : Hid (vB ⟨neg, ds, sc⟩ = false) := by show _ = _; exact vB_bad (fun h => by
     obtain ⟨n, s, h⟩ := h
     have h1 := h.sc
     have h2 := h.le
     simp only at h1
     omega)
    clear hall hne h60 hzero hzq hf hcan hn hds hlen hn0 hsc
    go_enter Tryz.func129, Tryz.ntmps129
    go_wp2_with (first
     | (go_at_call 135; refine (cZ _).mono ?_; rintro e w1 ⟨rfl, b1⟩; obtain ⟨r0, r1, r2, f0, f1, f2, hB, hz1⟩ := one_all b1; have HB := Lib.hid hB; clear b1 hB)
     | (go_at_call 132; refine (cD _).mono ?_; rintro e w2 ⟨rfl, rfl⟩)
     | (go_at_call 136; refine (cS _).mono ?_; rintro e w2 ⟨rfl, rfl⟩))
    all_goals go_ret
    all_goals exact ⟨by rw [HR.out]; try rfl, HB.out⟩
end Go.Proofs.YtmdnijehoagamaaGreatDoor
namespace Go.Proofs.YtmdnijehoagamaaGreatDoor
open Go.RowKit
theorem IsDec.valid {a : Dec} {n s : Nat} (h : IsDec a n s) : Valid a := ⟨n, s, h⟩
theorem addS_ok {a b : Dec} {n s m t : Nat} (ha : IsDec a n s) (hb : IsDec b m t) : addS a b = ofOpt (sumSpec a.neg n s b.neg m t) := by
 unfold addS
 rw [if_pos ⟨ha.valid, hb.valid⟩, ha.num_eq, ha.scl_eq, hb.num_eq, hb.scl_eq]
theorem subS_ok {a b : Dec} {n s m t : Nat} (ha : IsDec a n s) (hb : IsDec b m t) : subS a b = ofOpt (sumSpec a.neg n s (!b.neg && decide (m ≠ 0)) m t) := by
 unfold subS
 rw [if_pos ⟨ha.valid, hb.valid⟩, ha.num_eq, ha.scl_eq, hb.num_eq, hb.scl_eq]
theorem divS_ok {a b : Dec} {n s m t k : Nat} (ha : IsDec a n s) (hb : IsDec b m t) (hm : m ≠ 0) (hk : k ≤ 60) : divS a b (k : Int) = ofOpt (divSpec a.neg n s b.neg m t k) := by
 unfold divS
 rw [if_pos ⟨⟨ha.valid, hb.valid⟩, by rw [hb.num_eq]; exact hm, by omega, by omega⟩, ha.num_eq, ha.scl_eq, hb.num_eq, hb.scl_eq]
 rfl
theorem cmpS_ok {a b : Dec} (ha : Valid a) (hb : Valid b) : cmpS a b = (ordS a b, 0) := by
 unfold cmpS
 rw [if_pos ⟨ha, hb⟩]
theorem textS_ok {a : Dec} (ha : Valid a) : textS a = (textOf a, 0) := by
 unfold textS
 rw [if_pos ha]
theorem step {w W W' : World} (B : Below w.heap.size w W) (b : Below W.heap.size W W') : Below w.heap.size w W' := B.trans (b.mono B.size)
theorem stepA {w W : World} (B : Below w.heap.size w W) (o : Obj) : Below w.heap.size w (W.alloc o) := B.alloc B.size o
def Has (W : World) (b : Nat) (v0 v1 v2 : Value) : Prop :=
 W.cell? ⟨b, 0, none⟩ = some v0 ∧ W.cell? ⟨b, 1, none⟩ = some v1 ∧ W.cell? ⟨b, 2, none⟩ = some v2 ∧ W.frozen? ⟨b, 0, none⟩ = false ∧ W.frozen? ⟨b, 1, none⟩ = false ∧ W.frozen? ⟨b, 2, none⟩ = false ∧ b < W.heap.size
theorem Has.call {W W' : World} {b : Nat} {v0 v1 v2 : Value} (h : Has W b v0 v1 v2) (B : Below W.heap.size W W') : Has W' b v0 v1 v2 := by
 obtain ⟨h0, h1, h2, f0, f1, f2, hb⟩ := h
 have := B.size
 exact ⟨(B.cell (p := ⟨b, 0, none⟩) hb).trans h0, (B.cell (p := ⟨b, 1, none⟩) hb).trans h1, (B.cell (p := ⟨b, 2, none⟩) hb).trans h2,
  (B.frozen (p := ⟨b, 0, none⟩) hb).trans f0, (B.frozen (p := ⟨b, 1, none⟩) hb).trans f1, (B.frozen (p := ⟨b, 2, none⟩) hb).trans f2, by omega⟩
theorem Has.alloc {W : World} {b : Nat} {v0 v1 v2 : Value} (h : Has W b v0 v1 v2) (o : Obj) : Has (W.alloc o) b v0 v1 v2 := h.call ((Below.refl _ _).alloc (Nat.le_refl _) o)
theorem Has.new (W : World) (v0 v1 v2 : Value) (T : TypeId) : Has (W.alloc (.cells #[v0, v1, v2] T)) W.heap.size v0 v1 v2 := by
 refine ⟨?_, ?_, ?_, ?_, ?_, ?_, by simp⟩
 ·rw [World.cell?_alloc_at _ _ _ _ rfl]; rfl
 ·rw [World.cell?_alloc_at _ _ _ _ rfl]; rfl
 ·rw [World.cell?_alloc_at _ _ _ _ rfl]; rfl
 ·rw [World.frozen?_alloc_at _ _ _ _ rfl]
 ·rw [World.frozen?_alloc_at _ _ _ _ rfl]
 ·rw [World.frozen?_alloc_at _ _ _ _ rfl]
theorem Has.far {W : World} {b c : Nat} {v0 v1 v2 : Value} (h : Has W b v0 v1 v2) (hne : c ≠ b) (u0 u1 u2 : Value) :
  Has (((W.setCell ⟨c, 0, none⟩ u0).setCell ⟨c, 1, none⟩ u1).setCell ⟨c, 2, none⟩ u2) b v0 v1 v2 := by
 obtain ⟨h0, h1, h2, f0, f1, f2, hb⟩ := h
 refine ⟨?_, ?_, ?_, ?_, ?_, ?_, by simpa [World.setCell] using hb⟩
 ·rw [World.cell?_setCell_far _ _ _ _ hne, World.cell?_setCell_far _ _ _ _ hne, World.cell?_setCell_far _ _ _ _ hne]; exact h0
 ·rw [World.cell?_setCell_far _ _ _ _ hne, World.cell?_setCell_far _ _ _ _ hne, World.cell?_setCell_far _ _ _ _ hne]; exact h1
 ·rw [World.cell?_setCell_far _ _ _ _ hne, World.cell?_setCell_far _ _ _ _ hne, World.cell?_setCell_far _ _ _ _ hne]; exact h2
 ·rw [World.frozen?_setCell, World.frozen?_setCell, World.frozen?_setCell]; exact f0
 ·rw [World.frozen?_setCell, World.frozen?_setCell, World.frozen?_setCell]; exact f1
 ·rw [World.frozen?_setCell, World.frozen?_setCell, World.frozen?_setCell]; exact f2
theorem other_cell (W : World) (b : Nat) {j k : Nat} (h : j ≠ k) (u : Value) : (W.setCell ⟨b, j, none⟩ u).cell? ⟨b, k, none⟩ = W.cell? ⟨b, k, none⟩ :=
 World.cell?_setCell_other W _ _ u (fun e => h (by injection e))
theorem Has.set {W : World} {b : Nat} {v0 v1 v2 : Value} (h : Has W b v0 v1 v2) (u0 u1 u2 : Value) :
  Has (((W.setCell ⟨b, 0, none⟩ u0).setCell ⟨b, 1, none⟩ u1).setCell ⟨b, 2, none⟩ u2) b u0 u1 u2 := by
 obtain ⟨h0, h1, h2, f0, f1, f2, hb⟩ := h
 refine ⟨?_, ?_, ?_, ?_, ?_, ?_, by simpa [World.setCell] using hb⟩
 ·rw [other_cell _ _ (by omega), other_cell _ _ (by omega)]
  exact World.cell?_setCell_same _ _ _ h0
 ·rw [other_cell _ _ (by omega)]
  exact World.cell?_setCell_same (u := v1) _ _ _ (by rw [other_cell _ _ (by omega)]; exact h1)
 ·exact World.cell?_setCell_same (u := v2) _ _ _ (by rw [other_cell _ _ (by omega), other_cell _ _ (by omega)]; exact h2)
 ·rw [World.frozen?_setCell, World.frozen?_setCell, World.frozen?_setCell]; exact f0
 ·rw [World.frozen?_setCell, World.frozen?_setCell, World.frozen?_setCell]; exact f1
 ·rw [World.frozen?_setCell, World.frozen?_setCell, World.frozen?_setCell]; exact f2
theorem Has.lt {W : World} {b : Nat} {v0 v1 v2 : Value} (h : Has W b v0 v1 v2) : b < W.heap.size := h.2.2.2.2.2.2
theorem Has.le {w W : World} {b : Nat} {v0 v1 v2 : Value} (_ : Has W b v0 v1 v2) (h : w.heap.size ≤ b) : w.heap.size ≤ b := h
end Go.Proofs.YtmdnijehoagamaaGreatDoor
