/- V W Y -/
import Derived.Test.YtmdnijehoagamaaGreatDoorK02
set_option linter.unusedVariables false
set_option linter.unusedSimpArgs false
namespace Go.Proofs.YtmdnijehoagamaaGreatDoor
set_option maxRecDepth 100000
set_option maxHeartbeats 2000000
open Go.RowKit
def ofSpec (n : Int) : Dec := if n = 0 then decZero else ⟨decide (n < 0), numS n.natAbs, 0⟩
theorem tmod_pos (q : Nat) : ((q : Int)).tmod 10 = ((q % 10 : Nat) : Int) := by rw [Int.tmod_eq_emod_of_nonneg (by omega)]; omega
theorem tmod_neg (q : Nat) : (-(q : Int)).tmod 10 = -((q % 10 : Nat) : Int) := by rw [Int.neg_tmod, tmod_pos]
theorem tdiv_pos (q : Nat) : ((q : Int)).tdiv 10 = ((q / 10 : Nat) : Int) := by rw [Int.tdiv_eq_ediv_of_nonneg (by omega)]; omega
theorem tdiv_neg (q : Nat) : (-(q : Int)).tdiv 10 = -((q / 10 : Nat) : Int) := by rw [Int.neg_tdiv, tdiv_pos]
def OfAt (N q : Nat) (s : List UInt8) : Prop := (q ≠ 0 ∧ digs N = digs q ++ s) ∨ (q = 0 ∧ s = digs N)
theorem OfAt.next {N q : Nat} {s : List UInt8} (h : OfAt N q s) (hq : q ≠ 0) : OfAt N (q / 10) (UInt8.ofNat (48 + q % 10) :: s) := by
 obtain ⟨_, h⟩ := h.resolve_right (fun e => hq e.1)
 by_cases h10 : q < 10
 ·right
  refine ⟨by omega, ?_⟩
  rw [h, digs_small h10, show q % 10 = q by omega]
  rfl
 ·left
  refine ⟨by omega, ?_⟩
  rw [h, digs_big h10, List.append_assoc]
  rfl
theorem of_zero (w : World) : Calls Tryz.prog 88 #[.int .i64 0] w fun e w' => e = .returned (ofSpec 0).v ∧ Below w.heap.size w w' := by
 go_enter Tryz.func88, Tryz.ntmps88
 go_wp2
 go_loopg [3, 4, 5] 1 (fun gk v3 v4 v5 wr => v3 = .string ⟨#[]⟩ ∧ v4 = .int .i64 0 ∧ wr = w.alloc (.cells #[.bool false, .string ⟨#[]⟩, .int .i64 0] 23))
 case atStart => exact ⟨rfl, rfl, rfl⟩
 case round =>
  obtain ⟨rfl, rfl, rfl⟩ := hrel
  go_wp2
  exact bodyPost_ret (v := .agg #[.bool false, .string ⟨#[48]⟩, .int .i64 0]) (by simp [results, Tryz.results88, go_sem]) rfl ⟨rfl, (Below.refl _ _).alloc (Nat.le_refl _) _⟩
theorem one_all {w W : World} {a0 a1 a2 : Value} {T : TypeId} (hB : Below (w.alloc (.cells #[a0, a1, a2] T)).heap.size (w.alloc (.cells #[a0, a1, a2] T)) W) :
  W.cell? ⟨w.heap.size, 0, none⟩ = some a0 ∧ W.cell? ⟨w.heap.size, 1, none⟩ = some a1 ∧ W.cell? ⟨w.heap.size, 2, none⟩ = some a2 ∧
  W.frozen? ⟨w.heap.size, 0, none⟩ = false ∧ W.frozen? ⟨w.heap.size, 1, none⟩ = false ∧ W.frozen? ⟨w.heap.size, 2, none⟩ = false ∧ Below w.heap.size w W ∧ w.heap.size + 1 ≤ W.heap.size := by
 have hz : (w.alloc (.cells #[a0, a1, a2] T)).heap.size = w.heap.size + 1 := by simp
 refine ⟨?_, ?_, ?_, ?_, ?_, ?_, ?_, ?_⟩
 ·rw [hB.cell (p := ⟨w.heap.size, 0, none⟩) (by show w.heap.size < _; omega), World.cell?_alloc_at _ _ _ _ rfl]
  rfl
 ·rw [hB.cell (p := ⟨w.heap.size, 1, none⟩) (by show w.heap.size < _; omega), World.cell?_alloc_at _ _ _ _ rfl]
  rfl
 ·rw [hB.cell (p := ⟨w.heap.size, 2, none⟩) (by show w.heap.size < _; omega), World.cell?_alloc_at _ _ _ _ rfl]
  rfl
 ·rw [hB.frozen (p := ⟨w.heap.size, 0, none⟩) (by show w.heap.size < _; omega), World.frozen?_alloc_at _ _ _ _ rfl]
 ·rw [hB.frozen (p := ⟨w.heap.size, 1, none⟩) (by show w.heap.size < _; omega), World.frozen?_alloc_at _ _ _ _ rfl]
 ·rw [hB.frozen (p := ⟨w.heap.size, 2, none⟩) (by show w.heap.size < _; omega), World.frozen?_alloc_at _ _ _ _ rfl]
 ·exact ((Below.refl _ _).alloc (Nat.le_refl _) _).trans (hB.mono (by omega))
 ·have := hB.size
  omega
theorem of_pos (N : Nat) (hN : N ≠ 0) (hNm : N ≤ 9223372036854775807) (w : World) : Calls Tryz.prog 88 #[.int .i64 ((N : Int))] w fun e w' => e = .returned (Dec.mk false (numS N) 0).v ∧ Below w.heap.size w w' := by
 have H0 : Hid (OfAt N N ((⟨#[]⟩ : ByteArray).data.toList)) := Lib.hid (.inl ⟨hN, by simp⟩)
 have hn0 : 1 ≤ (N : Int) := by omega
 have hn1 : (N : Int) ≤ 9223372036854775807 := by omega
 have hlenN : (digs N).length ≤ 19 := digs_len_le (Nat.lt_of_le_of_lt hNm (by decide)) (by omega)
 simp only [Dec.v]
 have HL := Lib.hid hlenN
 clear hN hNm hlenN
 go_enter Tryz.func88, Tryz.ntmps88
 go_wp2
 go_loopg [3, 4, 5] (N + 1) (fun gk v3 v4 v5 wr => ∃ (q : Nat) (s : ByteArray), v3 = .string s ∧ v4 = .int .i64 ((q : Int)) ∧ gk = q + 1 ∧ (q : Int) ≤ 9223372036854775807 ∧ s.size ≤ 19 ∧ Hid (OfAt N q s.data.toList) ∧ Below (w.alloc (.cells #[.bool false, .string ⟨#[]⟩, .int .i64 0] 23)).heap.size (w.alloc (.cells #[.bool false, .string ⟨#[]⟩, .int .i64 0] 23)) wr)
 case atStart => exact ⟨N, ⟨#[]⟩, rfl, rfl, rfl, by omega, by show 0 ≤ _; omega, H0, Below.refl _ _⟩
 case round =>
  obtain ⟨q, s, rfl, rfl, hgk, hq1, hs, HO, hB⟩ := hrel
  obtain ⟨r0, r1, r2, f0, f1, f2, hB2, hz⟩ := one_all hB
  by_cases hq : q = 0
  ·have hS : Hid (s = numS N ∧ (s.toList = []) = False) := by
    have h1 := (HO.out.resolve_left (fun e => e.1 hq)).2
    refine ⟨bytes_ext (by rw [h1, numS_list]), ?_⟩
    rw [Lib.toList_data, h1]
    exact eq_false (digs_ne N)
   have hE : s.toList.isEmpty = false := by
    rw [Lib.toList_data, (HO.out.resolve_left (fun e => e.1 hq)).2]
    cases hd : digs N with
    | nil => exact absurd hd (digs_ne N)
    | cons => rfl
   subst hq
   have HB2 := Lib.hid hB2
   clear HO H0 hB hB2
   go_wp2
   exact bodyPost_ret (v := .agg #[.bool false, .string s, .int .i64 0]) (by simp [results, Tryz.results88, go_sem, r0, r1, r2]) rfl ⟨by rw [hS.out.1]; try rfl, ((HB2.out.setCell (by simp) _).setCell (by simp) _).setCell (by simp) _⟩
  ·have hqi : ¬ (q : Int) = 0 := by omega
   have hqp : 1 ≤ (q : Int) := by omega
   have hnext := HO.out.next hq
   have d0 : 0 ≤ (q : Int) % 10 := by omega
   have d1 : (q : Int) % 10 ≤ 9 := by omega
   have HD : Hid ((q : Int) / 10 = ((q / 10 : Nat) : Int)) := Lib.hid (by omega)
   have w8 : IntKind.u8.wrap (48 + (q : Int) % 10) = 48 + (q : Int) % 10 := by rw [IntKind.wrap_u8]; omega
   have hcv := fun W => conv_one (48 + (q : Int) % 10) W
   have hcn : (strOfNums [48 + (q : Int) % 10]).data.toList = [UInt8.ofNat (48 + q % 10)] := by
    rw [strOfNums_data]
    show [UInt8.ofNat ((48 + (q : Int) % 10).toNat)] = _
    congr 2
    try omega
   have hcz : (strOfNums [48 + (q : Int) % 10]).size = 1 := by rw [strOfNums_size]; rfl
   generalize strOfNums [48 + (q : Int) % 10] = z at hcv hcn hcz
   have hsz : z.size + s.size ≤ 9223372036854775807 := by omega
   have HN : Hid (OfAt N (q / 10) (z ++ s).data.toList ∧ (z ++ s).size ≤ 19) := by
    have h1 : OfAt N (q / 10) (z ++ s).data.toList := by rw [Joins.data_append, hcn]; exact hnext
    refine ⟨h1, ?_⟩
    rw [← bytes_len]
    rcases h1 with ⟨_, h⟩ | ⟨_, h⟩
    ·have := HL.out
     rw [h, List.length_append] at this
     omega
    ·rw [h]; exact HL.out
   clear hnext hcn hcz HO H0 hq r0 r1 r2 f0 f1 f2 hB2
   go_wp2
   go_roundg (q / 10 + 1)
   case measure => omega
   case rel => exact ⟨q / 10, z ++ s, rfl, by first | rfl | go_num | rw [HD.out] | (congr 1; omega), rfl, by omega, HN.out.2, HN.out.1, hB.alloc hB.size _⟩
theorem of_neg (N : Nat) (hN : N ≠ 0) (hNm : N ≤ 9223372036854775808) (w : World) : Calls Tryz.prog 88 #[.int .i64 (-(N : Int))] w fun e w' => e = .returned (Dec.mk true (numS N) 0).v ∧ Below w.heap.size w w' := by
 have H0 : Hid (OfAt N N ((⟨#[]⟩ : ByteArray).data.toList)) := Lib.hid (.inl ⟨hN, by simp⟩)
 have hn0 : 1 ≤ (N : Int) := by omega
 have hn1 : (N : Int) ≤ 9223372036854775808 := by omega
 have hlenN : (digs N).length ≤ 19 := digs_len_le (Nat.lt_of_le_of_lt hNm (by decide)) (by omega)
 have hneg : -(N : Int) < 0 := by omega
 have hNp : 0 < N := by omega
 simp only [Dec.v]
 have HL := Lib.hid hlenN
 have HN1 := Lib.hid hn1
 clear hN hNm hlenN hn1
 go_enter Tryz.func88, Tryz.ntmps88
 go_wp2
 go_loopg [3, 4, 5] (N + 1) (fun gk v3 v4 v5 wr => ∃ (q : Nat) (s : ByteArray), v3 = .string s ∧ v4 = .int .i64 (-(q : Int)) ∧ gk = q + 1 ∧ Hid ((q : Int) ≤ 9223372036854775808) ∧ s.size ≤ 19 ∧ Hid (OfAt N q s.data.toList) ∧ Below (w.alloc (.cells #[.bool false, .string ⟨#[]⟩, .int .i64 0] 23)).heap.size (w.alloc (.cells #[.bool false, .string ⟨#[]⟩, .int .i64 0] 23)) wr)
 case atStart => exact ⟨N, ⟨#[]⟩, rfl, rfl, rfl, HN1, by show 0 ≤ _; omega, H0, Below.refl _ _⟩
 case round =>
  obtain ⟨q, s, rfl, rfl, hgk, HQ, hs, HO, hB⟩ := hrel
  obtain ⟨r0, r1, r2, f0, f1, f2, hB2, hz⟩ := one_all hB
  by_cases hq : q = 0
  ·have hS : Hid (s = numS N ∧ (s.toList = []) = False) := by
    have h1 := (HO.out.resolve_left (fun e => e.1 hq)).2
    refine ⟨bytes_ext (by rw [h1, numS_list]), ?_⟩
    rw [Lib.toList_data, h1]
    exact eq_false (digs_ne N)
   have hE : s.toList.isEmpty = false := by
    rw [Lib.toList_data, (HO.out.resolve_left (fun e => e.1 hq)).2]
    cases hd : digs N with
    | nil => exact absurd hd (digs_ne N)
    | cons => rfl
   subst hq
   have HB2 := Lib.hid hB2
   clear HO H0 hB hB2 HQ
   go_wp2
   exact bodyPost_ret (v := .agg #[.bool true, .string s, .int .i64 0]) (by simp [results, Tryz.results88, go_sem, r0, r1, r2]) rfl ⟨by rw [hS.out.1]; try rfl, ((HB2.out.setCell (by simp) _).setCell (by simp) _).setCell (by simp) _⟩
  ·have hqi : ¬ -(q : Int) = 0 := by omega
   have hqp : 1 ≤ (q : Int) := by omega
   have hnext := HO.out.next hq
   obtain ⟨p, hp⟩ : ∃ p, q % 10 = p := ⟨_, rfl⟩
   have e1 : (-(q : Int)).tmod 10 = -(p : Int) := by rw [tmod_neg, hp]
   have e2 : (-(q : Int)).tdiv 10 = -((q / 10 : Nat) : Int) := tdiv_neg q
   rw [hp] at hnext
   have hp9 : p ≤ 9 := by omega
   have HQ2 : Hid (((q / 10 : Nat) : Int) ≤ 9223372036854775808) := Lib.hid (by have := HQ.out; omega)
   have HD : Hid ((q : Int) / 10 = ((q / 10 : Nat) : Int)) := Lib.hid (by omega)
   have Hlt : Hid (q / 10 < q) := Lib.hid (by omega)
   clear hp
   by_cases hp0 : p = 0
   ·subst hp0
    have hcv := fun W => conv_one (48) W
    have hcn : (strOfNums [48]).data.toList = [UInt8.ofNat (48)] := by
     rw [strOfNums_data]
     show [UInt8.ofNat ((48 : Int).toNat)] = _
     rfl
    have hcz : (strOfNums [48]).size = 1 := by rw [strOfNums_size]; rfl
    generalize strOfNums [48] = z at hcv hcn hcz
    have hsz : z.size + s.size ≤ 9223372036854775807 := by omega
    have HN : Hid (OfAt N (q / 10) (z ++ s).data.toList ∧ (z ++ s).size ≤ 19) := by
     have h1 : OfAt N (q / 10) (z ++ s).data.toList := by rw [Joins.data_append, hcn]; exact hnext
     refine ⟨h1, ?_⟩
     rw [← bytes_len]
     rcases h1 with ⟨_, h⟩ | ⟨_, h⟩
     ·have := HL.out
      rw [h, List.length_append] at this
      omega
     ·rw [h]; exact HL.out
    clear hnext hcn hcz HO H0 hq r0 r1 r2 f0 f1 f2 hB2 hqp HQ
    go_wp2
    go_roundg (q / 10 + 1)
    case measure => have := Hlt.out; omega
    case rel => exact ⟨q / 10, z ++ s, rfl, by have h1 := HD.out; have h2 := HQ2.out; rw [h1, IntWalk.wrap64_in _ (by omega)], rfl, HQ2, HN.out.2, HN.out.1, hB.alloc hB.size _⟩
   ·have hpn : -(p : Int) < 0 := by omega
    clear hp0
    have w8 : IntKind.u8.wrap (48 + (p : Int)) = 48 + (p : Int) := by rw [IntKind.wrap_u8]; omega
    have hcv := fun W => conv_one (48 + (p : Int)) W
    have hcn : (strOfNums [48 + (p : Int)]).data.toList = [UInt8.ofNat (48 + p)] := by
     rw [strOfNums_data]
     show [UInt8.ofNat ((48 + (p : Int)).toNat)] = _
     congr 2
    have hcz : (strOfNums [48 + (p : Int)]).size = 1 := by rw [strOfNums_size]; rfl
    generalize strOfNums [48 + (p : Int)] = z at hcv hcn hcz
    have hsz : z.size + s.size ≤ 9223372036854775807 := by omega
    have HN : Hid (OfAt N (q / 10) (z ++ s).data.toList ∧ (z ++ s).size ≤ 19) := by
     have h1 : OfAt N (q / 10) (z ++ s).data.toList := by rw [Joins.data_append, hcn]; exact hnext
     refine ⟨h1, ?_⟩
     rw [← bytes_len]
     rcases h1 with ⟨_, h⟩ | ⟨_, h⟩
     ·have := HL.out
      rw [h, List.length_append] at this
      omega
     ·rw [h]; exact HL.out
    clear hnext hcn hcz HO H0 hq r0 r1 r2 f0 f1 f2 hB2 hqp HQ
    go_wp2
    go_roundg (q / 10 + 1)
    case measure => have := Hlt.out; omega
    case rel => exact ⟨q / 10, z ++ s, rfl, by have h1 := HD.out; have h2 := HQ2.out; rw [h1, IntWalk.wrap64_in _ (by omega)], rfl, HQ2, HN.out.2, HN.out.1, hB.alloc hB.size _⟩
theorem of_any (n : Int) (h0 : -9223372036854775808 ≤ n) (h1 : n ≤ 9223372036854775807) (w : World) : Calls Tryz.prog 88 #[.int .i64 n] w fun e w' => e = .returned (ofSpec n).v ∧ Below w.heap.size w w' := by
 by_cases hz : n = 0
 ·subst hz
  exact of_zero w
 ·by_cases hn : n < 0
  ·have e : ofSpec n = ⟨true, numS n.natAbs, 0⟩ := by unfold ofSpec; rw [if_neg hz, decide_eq_true hn]
   have e2 : n = -(n.natAbs : Int) := by omega
   have := of_neg n.natAbs (by omega) (by omega) w
   rw [← e2] at this
   rw [e]
   exact this
  ·have e : ofSpec n = ⟨false, numS n.natAbs, 0⟩ := by unfold ofSpec; rw [if_neg hz, decide_eq_false hn]
   have e2 : n = (n.natAbs : Int) := by omega
   have := of_pos n.natAbs (by omega) (by omega) w
   rw [← e2] at this
   rw [e]
   exact this
end Go.Proofs.YtmdnijehoagamaaGreatDoor
namespace Go.Proofs.YtmdnijehoagamaaGreatDoor
set_option maxRecDepth 100000
set_option maxHeartbeats 4000000
open Go.RowKit
def txtA (a : ByteArray) (s : Nat) : ByteArray := if a.size ≤ s then zs (s - a.size + 1) ++ a else a
def txtB (t : ByteArray) (s : Nat) : ByteArray := if 0 < s then t.extract 0 (t.size - s) ++ ⟨#[46]⟩ ++ t.extract (t.size - s) t.size else t
def txtC (neg : Bool) (u : ByteArray) : ByteArray := if neg then ⟨#[45]⟩ ++ u else u
def textOf (d : Dec) : ByteArray := txtC d.neg (txtB (txtA d.ds d.sc.toNat) d.sc.toNat)
end Go.Proofs.YtmdnijehoagamaaGreatDoor
