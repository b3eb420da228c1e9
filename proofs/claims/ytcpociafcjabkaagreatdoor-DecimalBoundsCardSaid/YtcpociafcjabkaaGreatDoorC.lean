/- The reference's words on strings of digits: digits, bare, zeros, long. -/
import Derived.Deep.LoopGhost
import Derived.Deep.QuietTactic
import Derived.BigQuiet
import Derived.WalkKit
import Derived.OwnWalk
import Derived.IntWalk
import Derived.Lib.Hide
import Derived.Lib.IndexBytes
import Derived.Lib.SmallJoins
import Derived.Test.YtcpociafcjabkaaGreatDoorProg
import Derived.Test.YtcpociafcjabkaaGreatDoorA
set_option linter.unusedSimpArgs false
set_option linter.unusedVariables false
namespace Go.Proofs.YtcpociafcjabkaaGreatDoor
open Go.RowKit

theorem bytes_ext {a b : ByteArray} (h : a.data.toList = b.data.toList) : a = b := by
  obtain ⟨⟨a⟩⟩ := a
  obtain ⟨⟨b⟩⟩ := b
  simp only at h
  rw [h]
theorem ret_string {a b : ByteArray} (h : a = b) : Ending.returned (.string a) = .returned (.string b) := by rw [h]
theorem bytes_len (s : ByteArray) : s.data.toList.length = s.size := (Lib.size_eq s).symm
theorem bytes_mk (l : List UInt8) : (ByteArray.mk l.toArray).data.toList = l := by simp
theorem bytes_mk_size (l : List UInt8) : (ByteArray.mk l.toArray).size = l.length := by simp [ByteArray.size]
theorem bytes_of {s : ByteArray} {l : List UInt8} (h : s.data.toList = l) : s = ⟨l.toArray⟩ := bytes_ext (by rw [h])
theorem byte_at {s : ByteArray} {l : List UInt8} (h : s.data.toList = l) {k : Nat} (hk : k < s.size) (hl : k < l.length) : s[k] = l[k] := by
  subst h
  rfl

/-- Is a string one of digits? -/
def digB (l : List UInt8) : Bool := allDB l && !l.isEmpty
theorem digB_iff (l : List UInt8) : digB l = true ↔ AllD l ∧ l ≠ [] := by
  unfold digB
  rw [Bool.and_eq_true, allDB_iff]
  cases l <;> simp

set_option maxRecDepth 100000 in
set_option maxHeartbeats 2000000 in
theorem rdigits_any (s : ByteArray) (hs : s.size ≤ maxLen) (w : World) :
    Calls Tryz.prog 42 #[.string s] w fun e w' => e = .returned (.bool (digB s.data.toList)) ∧ w = w' := by
  obtain ⟨L, hL⟩ : ∃ L, s.data.toList = L := ⟨_, rfl⟩
  have hLs : L.length = s.size := by rw [← hL]; exact bytes_len s
  have HL := Lib.hid (And.intro hL hLs)
  unfold maxLen at hs
  have hemp : s.toList.isEmpty = L.isEmpty := by rw [Lib.toList_data, hL]
  rw [hL]
  clear hL hLs
  obtain ⟨q, hq⟩ : ∃ q, L.isEmpty = q := ⟨_, rfl⟩
  rw [hq] at hemp
  have HQ := Lib.hid hq
  clear hq
  go_enter Tryz.func42, Tryz.ntmps42
  go_wp2
  go_loopg [3] (s.size + 1) (fun gk v3 wr => ∃ k : Nat, v3 = .int .i64 (k : Int) ∧ k ≤ s.size ∧ gk + k = s.size + 1 ∧ Hid (allDB (L.take k) = true) ∧ wr = w)
  case atStart => exact ⟨0, rfl, Nat.zero_le _, rfl, Lib.hid rfl, rfl⟩
  case round =>
    obtain ⟨k, rfl, hk, hgk, HT, rfl⟩ := hrel
    by_cases hlt : k < s.size
    · have hkL : k < L.length := by rw [HL.out.2]; exact hlt
      have hget := byte_at HL.out.1 hlt hkL
      have hsplit : L = L.take k ++ L[k] :: L.drop (k + 1) := by rw [← List.drop_eq_getElem_cons hkL, List.take_append_drop]
      rw [← hget] at hsplit
      by_cases h1 : (s[k].toNat : Int) < 48
      · have hb : Hid (digB L = false) := by
          show _ = _
          unfold digB allDB
          rw [hsplit, List.all_append, List.all_cons]
          have : isD s[k] = false := by unfold isD; exact decide_eq_false (by omega)
          rw [this]
          simp
        clear hget hsplit hkL HT
        go_wp2
        go_ret
        exact ⟨by rw [hb.out]; rfl, rfl⟩
      by_cases h2 : 57 < (s[k].toNat : Int)
      · have hb : Hid (digB L = false) := by
          show _ = _
          unfold digB allDB
          rw [hsplit, List.all_append, List.all_cons]
          have : isD s[k] = false := by unfold isD; exact decide_eq_false (by omega)
          rw [this]
          simp
        clear hget hsplit hkL HT
        go_wp2
        go_ret
        exact ⟨by rw [hb.out]; rfl, rfl⟩
      have hT2 : Hid (allDB (L.take (k + 1)) = true) := by
        show _ = _
        have hd : isD s[k] = true := by unfold isD; exact decide_eq_true (by omega)
        rw [List.take_add_one, List.getElem?_eq_getElem hkL, ← hget]
        unfold allDB
        rw [List.all_append]
        have := HT.out
        unfold allDB at this
        rw [this]
        simp [hd]
      clear hget hsplit hkL HT
      go_wp2
      go_roundg (gk - 1)
      case measure => omega
      case rel => exact ⟨k + 1, by go_num, by omega, by omega, hT2, rfl⟩
    · obtain rfl : k = s.size := by omega
      have hb : Hid (digB L = !q) := by
        show _ = _
        have h1 := HT.out
        rw [← HL.out.2, List.take_length] at h1
        unfold digB
        rw [h1, HQ.out, Bool.true_and]
      clear HT
      go_wp2
      go_ret
      exact ⟨by rw [hb.out]; rfl, rfl⟩

set_option maxRecDepth 100000 in
set_option maxHeartbeats 2000000 in
theorem bare_any (s : ByteArray) (hs : s.size ≤ maxLen) (w : World) :
    Calls Tryz.prog 75 #[.string s] w fun e w' => e = .returned (.string ⟨(bareL s.data.toList).toArray⟩) ∧ w = w' := by
  obtain ⟨R, hR⟩ : ∃ R, bareL s.data.toList = R := ⟨_, rfl⟩
  have HR := Lib.hid hR
  rw [hR]
  clear hR
  unfold maxLen at hs
  have hs0 : s.size ≤ s.size := Nat.le_refl _
  go_enter Tryz.func75, Tryz.ntmps75
  go_wp2
  go_loopg [0] (s.size + 1) (fun gk v0 wr => ∃ t : ByteArray, v0 = .string t ∧ t.size < gk ∧ t.size ≤ 9223372036854775807 ∧ Hid (bareL t.data.toList = R) ∧ wr = w)
  case atStart => exact ⟨s, rfl, by omega, hs, HR, rfl⟩
  case round =>
    obtain ⟨t, rfl, hgk, htm, HT, rfl⟩ := hrel
    clear HR hs
    by_cases h1 : 1 < t.size
    · have hp : 0 < t.size := by omega
      have hp1 : 1 ≤ t.size := by omega
      have hlen := bytes_len t
      have hex : (t.extract 1 t.size).size = t.size - 1 := by rw [ByteArray.size_extract]; omega
      have hexl : (t.extract 1 t.size).data.toList = t.data.toList.drop 1 := Lib.extract_to_end t 1
      cases hT : t.data.toList with
      | nil => rw [hT] at hlen; simp at hlen; omega
      | cons c r =>
        have hc : t[0] = c := byte_at hT hp (by simp)
        have HTo := HT.out
        rw [hT] at HTo hexl
        cases r with
        | nil => rw [hT] at hlen; simp at hlen; omega
        | cons d l =>
          simp only [List.drop_succ_cons, List.drop_zero] at hexl
          by_cases h48 : (t[0].toNat : Int) = 48
          · have hc48 : c = 48 := by rw [← hc]; exact UInt8.toNat_inj.1 (by have : (48 : UInt8).toNat = 48 := rfl; omega)
            rw [hc48, bareL_skip] at HTo
            obtain ⟨u, hu⟩ : ∃ u, t.extract 1 t.size = u := ⟨_, rfl⟩
            rw [hu] at hex hexl
            have HU : Hid (bareL u.data.toList = R) := by show _ = _; rw [hexl]; exact HTo
            clear HTo hexl hc hc48 hlen hT HT
            have hus : u.size < gk - 1 := by omega
            have hum : u.size ≤ 9223372036854775807 := by omega
            clear hex
            go_wp2
            go_roundg (gk - 1)
            case measure => omega
            case rel => exact ⟨u, rfl, hus, hum, HU, rfl⟩
          · have hne : c ≠ 48 := by rw [← hc]; intro e; rw [e] at h48; exact h48 rfl
            rw [bareL_stop (.inl hne), ← hT] at HTo
            have HO := Lib.hid HTo
            clear HTo hexl hc hne hlen hex hT HT
            go_wp2
            go_ret
            exact ⟨by rw [← HO.out]; exact ret_string (bytes_of rfl), rfl⟩
    · have HO : Hid (t.data.toList = R) := by
        show _ = _
        have hlen := bytes_len t
        rw [← HT.out]
        cases hT : t.data.toList with
        | nil => rfl
        | cons c r =>
          cases r with
          | nil => rfl
          | cons d l => rw [hT] at hlen; simp at hlen; omega
      clear HT
      go_wp2
      go_ret
      exact ⟨by rw [← HO.out]; exact ret_string (bytes_of rfl), rfl⟩

/-- So many zeros. -/
def zs (n : Nat) : ByteArray := ⟨(List.replicate n (48 : UInt8)).toArray⟩
theorem zs_list (n : Nat) : (zs n).data.toList = List.replicate n 48 := bytes_mk _
theorem zs_size (n : Nat) : (zs n).size = n := by rw [← bytes_len, zs_list, List.length_replicate]
set_option maxRecDepth 100000 in
set_option maxHeartbeats 2000000 in
theorem zeros_any (n : Int) (h0 : n ≤ 100000) (w : World) :
    Calls Tryz.prog 46 #[.int .i64 n] w fun e w' => e = .returned (.string (zs n.toNat)) ∧ w = w' := by
  obtain ⟨R, hR⟩ : ∃ R, zs n.toNat = R := ⟨_, rfl⟩
  have HR := Lib.hid hR
  rw [hR]
  clear hR
  go_enter Tryz.func46, Tryz.ntmps46
  go_wp2
  go_loopg [3, 4] (n.toNat + 1) (fun gk v3 v4 wr => ∃ (k : Nat) (t : ByteArray), v4 = .int .i64 (k : Int) ∧ v3 = .string t ∧ k ≤ n.toNat ∧ gk + k = n.toNat + 1 ∧ Hid (t.data.toList = List.replicate k 48) ∧ wr = w)
  case atStart => exact ⟨0, ⟨#[]⟩, rfl, rfl, Nat.zero_le _, rfl, Lib.hid rfl, rfl⟩
  case round =>
    obtain ⟨k, t, rfl, rfl, hk, hgk, HT, rfl⟩ := hrel
    have hlen : t.size = k := by rw [← bytes_len, HT.out, List.length_replicate]
    by_cases hlt : (k : Int) < n
    · have HT2 : Hid ((t ++ ⟨#[48]⟩ : ByteArray).data.toList = List.replicate (k + 1) 48) := by
        show _ = _
        rw [Joins.data_append, HT.out, List.replicate_succ']
      have hts : t.size + 1 ≤ 9223372036854775807 := by omega
      clear HT hlen
      go_wp2
      go_roundg (gk - 1)
      case measure => omega
      case rel => exact ⟨k + 1, _, by go_num, rfl, by omega, by omega, HT2, rfl⟩
    · have hkn : k = n.toNat := by omega
      have HO : Hid (t = R) := by show _ = _; rw [← HR.out, ← hkn]; exact bytes_of HT.out
      clear HT hkn hlen
      go_wp2
      go_ret
      exact ⟨by rw [← HO.out]; rfl, rfl⟩

/-- Digits with zeros in front, so many altogether. -/
def longS (s : ByteArray) (n : Int) : ByteArray := zs (n - s.size).toNat ++ s
theorem longS_list (s : ByteArray) (n : Int) : (longS s n).data.toList = List.replicate (n - s.size).toNat 48 ++ s.data.toList := by
  unfold longS
  rw [Joins.data_append, zs_list]
theorem longS_size (s : ByteArray) (n : Nat) (h : s.size ≤ n) : (longS s n).size = n := by
  rw [← bytes_len, longS_list, List.length_append, List.length_replicate, bytes_len]
  omega
set_option maxRecDepth 100000 in
set_option maxHeartbeats 1000000 in
theorem long_any (s : ByteArray) (n : Int) (hs : s.size ≤ 100000) (h0 : 0 ≤ n) (h1 : n ≤ 100000) (w : World) :
    Calls Tryz.prog 85 #[.string s, .int .i64 n] w fun e w' => e = .returned (.string (longS s n)) ∧ w = w' := by
  have cZ := fun W => zeros_any (n - s.size) (by omega) W
  have hz : (zs (n - s.size).toNat).size ≤ 100000 := by rw [zs_size]; omega
  obtain ⟨Z, hZ⟩ : ∃ Z, zs (n - s.size).toNat = Z := ⟨_, rfl⟩
  have HR : Hid (longS s n = Z ++ s) := by show _ = _; unfold longS; rw [hZ]
  rw [HR.out]
  rw [hZ] at cZ hz
  clear hZ HR
  go_enter Tryz.func85, Tryz.ntmps85
  go_wp2_with (go_at_call 46; refine (cZ _).mono ?_; rintro e w1 ⟨rfl, rfl⟩)
  go_ret
  exact ⟨rfl, rfl⟩
end Go.Proofs.YtcpociafcjabkaaGreatDoor

/- The reference's words on strings of digits: less, plus, minus. -/
namespace Go.Proofs.YtcpociafcjabkaaGreatDoor
open Go.RowKit

theorem bytesLess_val : ∀ (a b : List UInt8), a.length = b.length → AllD a → AllD b → Op.bytesLess a b = decide (val a < val b)
  | [], [], _, _, _ => rfl
  | [], _ :: _, h, _, _ => by simp at h
  | _ :: _, [], h, _, _ => by simp at h
  | c :: a, d :: b, h, ha, hb => by
    have hl : a.length = b.length := by simpa using h
    have ih := bytesLess_val a b hl ha.tail hb.tail
    have h1 := val_lt ha.tail
    have h2 := val_lt hb.tail
    have hc := ha.head
    have hd := hb.head
    have e1 := dg_eq c hc.1
    have e2 := dg_eq d hd.1
    rw [val_cons, val_cons, e1, e2, hl]
    rw [hl] at h1
    unfold Op.bytesLess
    rw [ih]
    generalize 10 ^ b.length = p at h1 h2 ⊢
    by_cases hlt : c < d
    · rw [UInt8.lt_iff_toNat_lt] at hlt
      have hm : (c.toNat - 48 + 1) * p ≤ (d.toNat - 48) * p := Nat.mul_le_mul_right _ (by omega)
      rw [Nat.add_mul, Nat.one_mul] at hm
      simp only [UInt8.lt_iff_toNat_lt, hlt, decide_true, Bool.true_or]
      exact (decide_eq_true (by omega)).symm
    · by_cases heq : c = d
      · subst heq
        simp
      · have hgt : d.toNat < c.toNat := by
          rw [UInt8.lt_iff_toNat_lt] at hlt
          have : c.toNat ≠ d.toNat := fun e => heq (UInt8.toNat_inj.1 e)
          omega
        have hm : (d.toNat - 48 + 1) * p ≤ (c.toNat - 48) * p := Nat.mul_le_mul_right _ (by omega)
        rw [Nat.add_mul, Nat.one_mul] at hm
        have hn : ¬ ((c.toNat - 48) * p + val a < (d.toNat - 48) * p + val b) := by omega
        simp [hlt, heq, hn]

theorem digs_lt_len {m n : Nat} (h : (digs m).length < (digs n).length) : m < n := by
  have h1 := digs_len_lt m
  have hn : n ≠ 0 := by
    rintro rfl
    rw [digs_zero] at h
    have : (digs m).length ≠ 0 := fun e => digs_ne _ (List.eq_nil_of_length_eq_zero e)
    simp only [List.length_cons, List.length_nil] at h
    omega
  have h2 := digs_len_ge hn
  have h3 : 10 ^ (digs m).length ≤ 10 ^ ((digs n).length - 1) := Nat.pow_le_pow_right (by omega) (by omega)
  exact Nat.lt_of_lt_of_le h1 (Nat.le_trans h3 h2)

/-- The string of a number. -/
def numS (n : Nat) : ByteArray := ⟨(digs n).toArray⟩
theorem numS_list (n : Nat) : (numS n).data.toList = digs n := bytes_mk _
theorem numS_size (n : Nat) : (numS n).size = (digs n).length := by rw [← bytes_len, numS_list]
theorem numS_toList (n : Nat) : (numS n).toList = digs n := by rw [Lib.toList_data, numS_list]
/-- A string of digits, and its number. -/
structure IsNum (s : ByteArray) (n : Nat) : Prop where
  all : AllD s.data.toList
  ne : s.data.toList ≠ []
  val : val s.data.toList = n
theorem IsNum.num (n : Nat) : IsNum (numS n) n := ⟨by rw [numS_list]; exact digs_all n, by rw [numS_list]; exact digs_ne n, by rw [numS_list]; exact digs_val n⟩
theorem IsNum.pos {s : ByteArray} {n : Nat} (h : IsNum s n) : 0 < s.size := by
  rw [← bytes_len]
  exact List.length_pos_iff.2 h.ne
theorem IsNum.size_le {s : ByteArray} {n : Nat} (h : IsNum s n) : (digs n).length ≤ s.size := by
  refine digs_len_le ?_ h.pos
  have := val_lt h.all
  rw [h.val, bytes_len] at this
  exact this
theorem IsNum.bare {s : ByteArray} {n : Nat} (h : IsNum s n) : bareL s.data.toList = digs n := by
  rw [bareL_digs h.all h.ne, h.val]
theorem bare_num {s : ByteArray} {n : Nat} (h : IsNum s n) (hs : s.size ≤ maxLen) (w : World) :
    Calls Tryz.prog 75 #[.string s] w fun e w' => e = .returned (.string (numS n)) ∧ w = w' := by
  have hb := bare_any s hs w
  rw [h.bare] at hb
  exact hb

set_option maxRecDepth 100000 in
set_option maxHeartbeats 1000000 in
theorem less_num {a b : ByteArray} {m n : Nat} (ha : IsNum a m) (hb : IsNum b n) (hsa : a.size ≤ maxLen) (hsb : b.size ≤ maxLen) (w : World) :
    Calls Tryz.prog 60 #[.string a, .string b] w fun e w' => e = .returned (.bool (decide (m < n))) ∧ w = w' := by
  have c1 := fun W => bare_num ha hsa W
  have c2 := fun W => bare_num hb hsb W
  have hz1 := numS_size m
  have hz2 := numS_size n
  by_cases hlt : (digs m).length < (digs n).length
  · rw [decide_eq_true (digs_lt_len hlt)]
    have h1 : ((numS m).size : Int) < ((numS n).size : Int) := by omega
    have h1' : (numS m).size < (numS n).size := by omega
    generalize numS m = x at *
    generalize numS n = y at *
    clear hlt hz1 hz2 ha hb hsa hsb
    go_enter Tryz.func60, Tryz.ntmps60
    go_wp2_with fail
    refine (c1 _).mono ?_
    rintro e w1 ⟨rfl, rfl⟩
    go_wp2_with fail
    refine (c2 _).mono ?_
    rintro e w2 ⟨rfl, rfl⟩
    go_wp2_with fail
    go_ret
    exact ⟨rfl, rfl⟩
  by_cases heq : (digs m).length = (digs n).length
  · have hv := bytesLess_val (digs m) (digs n) heq (digs_all m) (digs_all n)
    rw [digs_val, digs_val, ← numS_toList m, ← numS_toList n] at hv
    have h1 : ¬ (numS m).size < (numS n).size := by omega
    have h2 : (numS m).size = (numS n).size := by omega
    obtain ⟨q, hq⟩ : ∃ q, decide (m < n) = q := ⟨_, rfl⟩
    rw [hq] at hv ⊢
    generalize numS m = x at *
    generalize numS n = y at *
    clear hlt heq hz1 hz2 ha hb hsa hsb hq
    go_enter Tryz.func60, Tryz.ntmps60
    go_wp2_with fail
    refine (c1 _).mono ?_
    rintro e w1 ⟨rfl, rfl⟩
    go_wp2_with fail
    refine (c2 _).mono ?_
    rintro e w2 ⟨rfl, rfl⟩
    go_wp2_with fail
    go_ret
    exact ⟨rfl, rfl⟩
  · have hgt : n < m := digs_lt_len (by omega)
    rw [decide_eq_false (by omega)]
    have h1 : ¬ (numS m).size < (numS n).size := by omega
    have h2 : ¬ (numS m).size = (numS n).size := by omega
    generalize numS m = x at *
    generalize numS n = y at *
    clear hlt heq hz1 hz2 ha hb hsa hsb hgt
    go_enter Tryz.func60, Tryz.ntmps60
    go_wp2_with fail
    refine (c1 _).mono ?_
    rintro e w1 ⟨rfl, rfl⟩
    go_wp2_with fail
    refine (c2 _).mono ?_
    rintro e w2 ⟨rfl, rfl⟩
    go_wp2_with fail
    go_ret
    exact ⟨rfl, rfl⟩
end Go.Proofs.YtcpociafcjabkaaGreatDoor
