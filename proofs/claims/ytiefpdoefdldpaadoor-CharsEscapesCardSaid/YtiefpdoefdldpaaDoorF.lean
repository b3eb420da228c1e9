/- The reference's functions on the bytes of one character: Bytes, more, Next. -/
import Derived.Lib.PathFns
import Derived.Laws.BytesArg
import Derived.Test.YtiefpdoefdldpaaDoorB
import Derived.Test.YtiefpdoefdldpaaDoorC
namespace Go.Proofs.YtiefpdoefdldpaaDoor
open Go.RowKit

def bytesL (c : Nat) : List UInt8 :=
  if c < 128 then [UInt8.ofNat c] else if c < 2048 then [UInt8.ofNat (192 + c / 64), UInt8.ofNat (128 + c % 64)]
  else if c < 65536 then [UInt8.ofNat (224 + c / 4096), UInt8.ofNat (128 + c / 64 % 64), UInt8.ofNat (128 + c % 64)]
  else [UInt8.ofNat (240 + c / 262144), UInt8.ofNat (128 + c / 4096 % 64), UInt8.ofNat (128 + c / 64 % 64), UInt8.ofNat (128 + c % 64)]

theorem ret_string {a b : ByteArray} (h : a = b) : Ending.returned (.string a) = .returned (.string b) := by rw [h]

set_option maxRecDepth 100000 in
theorem bytes_1 (c : Int) (h0 : 0 ≤ c) (h : c < 128) (w : World) :
    Calls Tryd.prog 33 #[.int .i32 c] w fun e w' => e = .returned (.string (strOfNums [c])) ∧ Below w.heap.size w w' := by
  have hcv := run_convert_bytes_arg (P := Tryd.prog) (w.alloc (.cells #[.int .u8 c] 5)) 47 5 Tryd.underlying47 Tryd.underlying5 w.heap.size 0 1 1 [c] rfl (fun i hi => by
    obtain rfl : i = 0 := by omega
    simp) 9 Tryd.underlying9
  go_enter Tryd.func33, Tryd.ntmps33
  go_wp2
  go_ret
  exact ⟨rfl, (Below.refl _ _).alloc (Nat.le_refl _) _⟩
set_option maxRecDepth 100000 in
theorem bytes_2 (c : Int) (h0 : 128 ≤ c) (h : c < 2048) (w : World) :
    Calls Tryd.prog 33 #[.int .i32 c] w fun e w' => e = .returned (.string (strOfNums [192 + c / 64, 128 + c % 64])) ∧ Below w.heap.size w w' := by
  have hcv := run_convert_bytes_arg (P := Tryd.prog) (w.alloc (.cells #[.int .u8 (192 + c / 64), .int .u8 (128 + c % 64)] 5)) 47 5 Tryd.underlying47 Tryd.underlying5 w.heap.size 0 2 2 [192 + c / 64, 128 + c % 64] rfl (fun i hi => by
    rcases (by omega : i = 0 ∨ i = 1) with rfl | rfl <;> simp) 9 Tryd.underlying9
  go_enter Tryd.func33, Tryd.ntmps33
  go_wp2
  go_ret
  exact ⟨rfl, (Below.refl _ _).alloc (Nat.le_refl _) _⟩
set_option maxRecDepth 100000 in
theorem bytes_3 (c : Int) (h0 : 2048 ≤ c) (h : c < 65536) (w : World) :
    Calls Tryd.prog 33 #[.int .i32 c] w fun e w' => e = .returned (.string (strOfNums [224 + c / 4096, 128 + c / 64 % 64, 128 + c % 64])) ∧ Below w.heap.size w w' := by
  have hcv := run_convert_bytes_arg (P := Tryd.prog) (w.alloc (.cells #[.int .u8 (224 + c / 4096), .int .u8 (128 + c / 64 % 64), .int .u8 (128 + c % 64)] 5)) 47 5 Tryd.underlying47 Tryd.underlying5 w.heap.size 0 3 3 [224 + c / 4096, 128 + c / 64 % 64, 128 + c % 64] rfl (fun i hi => by
    rcases (by omega : i = 0 ∨ i = 1 ∨ i = 2) with rfl | rfl | rfl <;> simp) 9 Tryd.underlying9
  go_enter Tryd.func33, Tryd.ntmps33
  go_wp2
  go_ret
  exact ⟨rfl, (Below.refl _ _).alloc (Nat.le_refl _) _⟩
set_option maxRecDepth 100000 in
theorem bytes_4 (c : Int) (h0 : 65536 ≤ c) (h : c ≤ 1114111) (w : World) :
    Calls Tryd.prog 33 #[.int .i32 c] w fun e w' => e = .returned (.string (strOfNums [240 + c / 262144, 128 + c / 4096 % 64, 128 + c / 64 % 64, 128 + c % 64])) ∧ Below w.heap.size w w' := by
  have hcv := run_convert_bytes_arg (P := Tryd.prog) (w.alloc (.cells #[.int .u8 (240 + c / 262144), .int .u8 (128 + c / 4096 % 64), .int .u8 (128 + c / 64 % 64), .int .u8 (128 + c % 64)] 5)) 47 5 Tryd.underlying47 Tryd.underlying5 w.heap.size 0 4 4 [240 + c / 262144, 128 + c / 4096 % 64, 128 + c / 64 % 64, 128 + c % 64] rfl (fun i hi => by
    rcases (by omega : i = 0 ∨ i = 1 ∨ i = 2 ∨ i = 3) with rfl | rfl | rfl | rfl <;> simp) 9 Tryd.underlying9
  go_enter Tryd.func33, Tryd.ntmps33
  go_wp2
  go_ret
  exact ⟨rfl, (Below.refl _ _).alloc (Nat.le_refl _) _⟩

theorem bytes_any (c : Nat) (hc : c ≤ 1114111) (w : World) :
    Calls Tryd.prog 33 #[.int .i32 (c : Int)] w fun e w' => e = .returned (.string ⟨(bytesL c).toArray⟩) ∧ Below w.heap.size w w' := by
  unfold bytesL
  by_cases h1 : c < 128
  · refine (bytes_1 c (by omega) (by omega) w).mono fun e w' ⟨he, hb⟩ => ⟨he.trans (ret_string ?_), hb⟩
    simp only [strOfNums, h1, if_true, List.map_cons, List.map_nil, Int.toNat_natCast]
  by_cases h2 : c < 2048
  · refine (bytes_2 c (by omega) (by omega) w).mono fun e w' ⟨he, hb⟩ => ⟨he.trans (ret_string ?_), hb⟩
    simp only [strOfNums, h1, h2, if_true, if_false, List.map_cons, List.map_nil]
    rw [show ((192 : Int) + (c : Int) / 64).toNat = 192 + c / 64 by omega, show ((128 : Int) + (c : Int) % 64).toNat = 128 + c % 64 by omega]
  by_cases h3 : c < 65536
  · refine (bytes_3 c (by omega) (by omega) w).mono fun e w' ⟨he, hb⟩ => ⟨he.trans (ret_string ?_), hb⟩
    simp only [strOfNums, h1, h2, h3, if_true, if_false, List.map_cons, List.map_nil]
    rw [show ((224 : Int) + (c : Int) / 4096).toNat = 224 + c / 4096 by omega, show ((128 : Int) + (c : Int) / 64 % 64).toNat = 128 + c / 64 % 64 by omega, show ((128 : Int) + (c : Int) % 64).toNat = 128 + c % 64 by omega]
  · refine (bytes_4 c (by omega) (by omega) w).mono fun e w' ⟨he, hb⟩ => ⟨he.trans (ret_string ?_), hb⟩
    simp only [strOfNums, h1, h2, h3, if_false, List.map_cons, List.map_nil]
    rw [show ((240 : Int) + (c : Int) / 262144).toNat = 240 + c / 262144 by omega, show ((128 : Int) + (c : Int) / 4096 % 64).toNat = 128 + c / 4096 % 64 by omega, show ((128 : Int) + (c : Int) / 64 % 64).toNat = 128 + c / 64 % 64 by omega, show ((128 : Int) + (c : Int) % 64).toNat = 128 + c % 64 by omega]

/-- The number of the bytes that follow. -/
def moreL (n : Int) : List UInt8 → Option Int
  | [] => some n
  | b :: t => if b.toNat < 128 ∨ 191 < b.toNat then none else moreL (n * 64 + ((b.toNat : Int) - 128)) t
def moreR (n : Int) (l : List UInt8) (many : Nat) : Option Int := if l.length < many + 1 then none else moreL n ((l.drop 1).take many)
def optI (o : Option Int) : Int := o.getD 0
def optB (o : Option Int) : Bool := o.isSome

set_option maxRecDepth 100000 in
set_option maxHeartbeats 400000 in
theorem more_any (n : Int) (h0 : 0 ≤ n) (h32 : n < 32) (s : ByteArray) (hs : s.size ≤ maxLen) (many : Nat) (h1 : 1 ≤ many) (h3 : many ≤ 3) (w : World) :
    Calls Tryd.prog 51 #[.int .i32 n, .string s, .int .i64 (many : Int)] w fun e w' => e = .returned (.tuple #[.int .i32 (optI (moreR n s.data.toList many)), .bool (optB (moreR n s.data.toList many))]) ∧ w' = w := by
  unfold maxLen at hs
  obtain ⟨L, hL⟩ : ∃ L, s.data.toList = L := ⟨_, rfl⟩
  have hLs : L.length = s.size := by rw [← hL]; simp
  rw [hL]
  by_cases hlen : s.size < many + 1
  · have e1 : moreR n L many = none := by unfold moreR; rw [if_pos (by omega)]
    rw [e1]
    clear e1
    have HL := Lib.hid hL
    have HLs := Lib.hid hLs
    clear hL hLs
    go_enter Tryd.func51, Tryd.ntmps51
    go_wp2
    go_ret2
    exact ⟨rfl, rfl⟩
  · have hR : moreR n L many = moreL n ((L.drop 1).take many) := by unfold moreR; rw [if_neg (by omega)]
    rw [hR]
    clear hR
    obtain ⟨R, hR⟩ : ∃ R, moreL n ((L.drop 1).take many) = R := ⟨_, rfl⟩
    rw [hR]
    have HR := Lib.hid hR
    have HL := Lib.hid hL
    have HLs := Lib.hid hLs
    clear hL hLs hR
    have hge : many + 1 ≤ s.size := by omega
    go_enter Tryd.func51, Tryd.ntmps51
    go_wp2
    go_loop [0, 8] (fun nv iv => ∃ (i : Nat) (x : Int), 1 ≤ i ∧ i ≤ many + 1 ∧ iv = .int .i64 (i : Int) ∧ nv = .int .i32 x ∧ 0 ≤ x ∧ (i = 1 → x < 32) ∧ (i = 2 → x < 2048) ∧ (i = 3 → x < 131072) ∧ (i = 4 → x < 8388608) ∧ Hid (R = moreL x ((L.drop i).take (many + 1 - i)))) (fun _ iv => many + 1 - (intOf iv).toNat)
    case atStart => exact ⟨1, n, by omega, by omega, rfl, rfl, h0, fun _ => h32, fun h => by omega, fun h => by omega, fun h => by omega, HR.out.symm⟩
    case round =>
      obtain ⟨i, x, hi1, him, rfl, rfl, hx0, hx1, hx2, hx3, hx4, HM⟩ := hrel
      by_cases hle : i ≤ many
      · have hxx : x < 131072 := by omega
        have his : i < s.size := by omega
        have hstep : (L.drop i).take (many + 1 - i) = s[i] :: (L.drop (i + 1)).take (many + 1 - (i + 1)) := by
          have hi : i < L.length := by rw [HLs.out]; exact his
          rw [List.drop_eq_getElem_cons hi, show many + 1 - i = (many + 1 - (i + 1)) + 1 by omega, List.take_succ_cons]
          congr 1
          have h2 := HL.out
          subst h2
          rfl
        have hm := HM.out
        rw [hstep] at hm
        clear hstep HM
        unfold moreL at hm
        by_cases hbad : s[i].toNat < 128 ∨ 191 < s[i].toNat
        · rw [if_pos hbad] at hm
          have HM := Lib.hid hm
          clear hm
          rcases hbad with hb | hb
          · have hb' : ((s[i].toNat : Int) < 128) := by omega
            go_wp2
            go_ret2
            exact ⟨by rw [HM.out]; rfl, rfl⟩
          · have hb' : ¬ ((s[i].toNat : Int) < 128) := by omega
            have hb2 : (191 < (s[i].toNat : Int)) := by omega
            go_wp2
            go_ret2
            exact ⟨by rw [HM.out]; rfl, rfl⟩
        · rw [if_neg hbad] at hm
          have hb' : ¬ ((s[i].toNat : Int) < 128) := by omega
          have hb2 : ¬ (191 < (s[i].toNat : Int)) := by omega
          have HM := Lib.hid hm
          clear hm hbad
          have hlo : 128 ≤ s[i].toNat := by omega
          have hhi : s[i].toNat ≤ 191 := by omega
          go_wp2
          refine ⟨⟨i + 1, x * 64 + ((s[i].toNat : Int) - 128), by omega, by omega, by go_num, rfl, by omega, by omega, by omega, by omega, by omega, HM.out⟩, ?_⟩
          simp [intOf]
          omega
      · obtain rfl : i = many + 1 := by omega
        have hm := HM.out
        rw [show many + 1 - (many + 1) = 0 by omega, List.take_zero] at hm
        have HM2 := Lib.hid hm
        clear hm HM
        go_wp2
        go_ret2
        exact ⟨by rw [HM2.out]; rfl, rfl⟩

/-- The reference's way, in numbers: what 'more' gives. -/
theorem moreR_get (n : Nat) (l : List UInt8) (many : Nat) : moreR n l many = if l.length < many + 1 then none else moreL n ((l.drop 1).take many) := rfl
theorem more1 (n : Nat) (l : List UInt8) : moreR n l 1 = if 1 < l.length ∧ 128 ≤ (l.getD 1 0).toNat ∧ (l.getD 1 0).toNat ≤ 191 then some (((n * 64 + ((l.getD 1 0).toNat - 128) : Nat)) : Int) else none := by
  unfold moreR
  match l with
  | [] => simp
  | [_] => simp
  | _ :: b :: t =>
    simp only [List.length_cons, List.drop_succ_cons, List.drop_zero, List.take_succ_cons, List.take_zero, moreL, List.getD_cons_succ, List.getD_cons_zero]
    by_cases h : b.toNat < 128 ∨ 191 < b.toNat
    · rw [if_neg (by omega), if_pos h, if_neg (by omega)]
    · rw [if_neg (by omega), if_neg h, if_pos (by omega)]
      congr 1
      omega
theorem more2 (n : Nat) (l : List UInt8) : moreR n l 2 = if 2 < l.length ∧ (128 ≤ (l.getD 1 0).toNat ∧ (l.getD 1 0).toNat ≤ 191) ∧ (128 ≤ (l.getD 2 0).toNat ∧ (l.getD 2 0).toNat ≤ 191) then some ((((n * 64 + ((l.getD 1 0).toNat - 128)) * 64 + ((l.getD 2 0).toNat - 128) : Nat)) : Int) else none := by
  unfold moreR
  match l with
  | [] => simp
  | [_] => simp
  | [_, _] => simp
  | _ :: b :: c :: t =>
    simp only [List.length_cons, List.drop_succ_cons, List.drop_zero, List.take_succ_cons, List.take_zero, moreL, List.getD_cons_succ, List.getD_cons_zero]
    by_cases h : b.toNat < 128 ∨ 191 < b.toNat
    · rw [if_neg (by omega), if_pos h, if_neg (by omega)]
    · by_cases h2 : c.toNat < 128 ∨ 191 < c.toNat
      · rw [if_neg (by omega), if_neg h, if_pos h2, if_neg (by omega)]
      · rw [if_neg (by omega), if_neg h, if_neg h2, if_pos (by omega)]
        congr 1
        omega
theorem more3 (n : Nat) (l : List UInt8) : moreR n l 3 = if 3 < l.length ∧ (128 ≤ (l.getD 1 0).toNat ∧ (l.getD 1 0).toNat ≤ 191) ∧ (128 ≤ (l.getD 2 0).toNat ∧ (l.getD 2 0).toNat ≤ 191) ∧ (128 ≤ (l.getD 3 0).toNat ∧ (l.getD 3 0).toNat ≤ 191) then some (((((n * 64 + ((l.getD 1 0).toNat - 128)) * 64 + ((l.getD 2 0).toNat - 128)) * 64 + ((l.getD 3 0).toNat - 128) : Nat)) : Int) else none := by
  unfold moreR
  match l with
  | [] => simp
  | [_] => simp
  | [_, _] => simp
  | [_, _, _] => simp
  | _ :: b :: c :: d :: t =>
    simp only [List.length_cons, List.drop_succ_cons, List.drop_zero, List.take_succ_cons, List.take_zero, moreL, List.getD_cons_succ, List.getD_cons_zero]
    by_cases h : b.toNat < 128 ∨ 191 < b.toNat
    · rw [if_neg (by omega), if_pos h, if_neg (by omega)]
    · by_cases h2 : c.toNat < 128 ∨ 191 < c.toNat
      · rw [if_neg (by omega), if_neg h, if_pos h2, if_neg (by omega)]
      · by_cases h3 : d.toNat < 128 ∨ 191 < d.toNat
        · rw [if_neg (by omega), if_neg h, if_neg h2, if_pos h3, if_neg (by omega)]
        · rw [if_neg (by omega), if_neg h, if_neg h2, if_neg h3, if_pos (by omega)]
          congr 1
          omega

/-- What Next has found before it compares: a number, or none. -/
def foundR (l : List UInt8) : Option Int :=
  if (l.getD 0 0).toNat < 128 then some ((l.getD 0 0).toNat : Int)
  else if 192 ≤ (l.getD 0 0).toNat ∧ (l.getD 0 0).toNat < 224 then moreR (((l.getD 0 0).toNat - 192 : Nat) : Int) l 1
  else if 224 ≤ (l.getD 0 0).toNat ∧ (l.getD 0 0).toNat < 240 then moreR (((l.getD 0 0).toNat - 224 : Nat) : Int) l 2
  else if 240 ≤ (l.getD 0 0).toNat ∧ (l.getD 0 0).toNat < 248 then moreR (((l.getD 0 0).toNat - 240 : Nat) : Int) l 3
  else none
/-- THE REFERENCE's CHARACTER AT THE HEAD OF A ROW OF BYTES. -/
def stepR (l : List UInt8) : Option (Nat × Nat) :=
  match foundR l with
  | none => none
  | some c => if vldB c = true ∧ (bytesL c.toNat).length ≤ l.length ∧ l.take (bytesL c.toNat).length = bytesL c.toNat then some (c.toNat, (bytesL c.toNat).length) else none

theorem u8_eq (b : UInt8) (n : Nat) (hn : n < 256) : b = UInt8.ofNat n ↔ b.toNat = n := by
  constructor
  · rintro rfl
    simpa using Nat.mod_eq_of_lt hn
  · intro h
    rw [← h]
    simp

set_option maxHeartbeats 2000000 in
theorem stepR_eq (l : List UInt8) (h0 : l ≠ []) : stepR l = stepD l := by
  rw [stepD_eq l h0]
  unfold stepR foundR stepN
  obtain ⟨b, t, rfl⟩ : ∃ b t, l = b :: t := by
    cases l with
    | nil => exact absurd rfl h0
    | cons b t => exact ⟨b, t, rfl⟩
  have hb := UInt8.toNat_lt b
  simp only [List.getD_cons_zero]
  by_cases a1 : b.toNat < 128
  · simp only [a1, if_true, Int.toNat_natCast, bytesL, List.length_cons, List.length_nil]
    rw [vld_V]
    by_cases v : V b.toNat
    · rw [if_pos (show V b.toNat from v), if_pos]
      refine ⟨by simpa using v, by omega, ?_⟩
      simp
    · rw [if_neg (show ¬ V b.toNat from v), if_neg]
      rintro ⟨h, _⟩
      exact v (by simpa using h)
  simp only [a1, if_false]
  by_cases a2 : 192 ≤ b.toNat ∧ b.toNat < 224
  · rw [if_pos a2, if_pos a2, more1]
    by_cases g : 1 < (b :: t).length ∧ 128 ≤ ((b :: t).getD 1 0).toNat ∧ ((b :: t).getD 1 0).toNat ≤ 191
    · rw [if_pos g]
      obtain ⟨g0, g1, g2⟩ := g
      match t, g0 with
      | x1 :: t2, g0 =>
        simp only [List.getD_cons_succ, List.getD_cons_zero] at g1 g2 ⊢
        have hc : (b.toNat - 192) * 64 + (x1.toNat - 128) < 2048 := by omega
        obtain ⟨c, hcc⟩ : ∃ c, (b.toNat - 192) * 64 + (x1.toNat - 128) = c := ⟨_, rfl⟩
        rw [hcc] at hc ⊢
        simp only [Int.toNat_natCast, vld_V, decide_eq_true_eq]
        by_cases s1 : c < 128
        · have hby : bytesL c = [UInt8.ofNat c] := by unfold bytesL; rw [if_pos s1]
          rw [hby, if_neg, if_neg (by omega)]
          rintro ⟨_, _, h⟩
          simp only [List.length_cons, List.length_nil, List.take_succ_cons, List.take_zero, List.cons.injEq, and_true] at h
          have := (u8_eq b c (by omega)).1 h
          omega
        · have hby : bytesL c = [UInt8.ofNat (192 + c / 64), UInt8.ofNat (128 + c % 64)] := by unfold bytesL; rw [if_neg s1, if_pos hc]
          have e1 := (u8_eq b (192 + c / 64) (by omega)).2 (by omega)
          have e2 := (u8_eq x1 (128 + c % 64) (by omega)).2 (by omega)
          rw [hby, ← e1, ← e2]
          simp only [List.length_cons, List.length_nil, List.take_succ_cons, List.take_zero]
          rw [if_pos (by refine ⟨by omega, by omega, trivial⟩), if_pos (by omega)]
    · rw [if_neg g, if_neg (by omega)]
  rw [if_neg a2, if_neg a2]
  by_cases a3 : 224 ≤ b.toNat ∧ b.toNat < 240
  · rw [if_pos a3, if_pos a3, more2]
    by_cases g : 2 < (b :: t).length ∧ (128 ≤ ((b :: t).getD 1 0).toNat ∧ ((b :: t).getD 1 0).toNat ≤ 191) ∧ (128 ≤ ((b :: t).getD 2 0).toNat ∧ ((b :: t).getD 2 0).toNat ≤ 191)
    · rw [if_pos g]
      obtain ⟨g0, g1, g2⟩ := g
      match t, g0 with
      | x1 :: x2 :: t2, g0 =>
        simp only [List.getD_cons_succ, List.getD_cons_zero] at g1 g2 ⊢
        have hc : ((b.toNat - 224) * 64 + (x1.toNat - 128)) * 64 + (x2.toNat - 128) < 65536 := by omega
        obtain ⟨c, hcc⟩ : ∃ c, ((b.toNat - 224) * 64 + (x1.toNat - 128)) * 64 + (x2.toNat - 128) = c := ⟨_, rfl⟩
        rw [hcc] at hc ⊢
        simp only [Int.toNat_natCast, vld_V, decide_eq_true_eq]
        by_cases s1 : c < 128
        · have hby : bytesL c = [UInt8.ofNat c] := by unfold bytesL; rw [if_pos s1]
          rw [hby, if_neg, if_neg (by omega)]
          rintro ⟨_, _, h⟩
          simp only [List.length_cons, List.length_nil, List.take_succ_cons, List.take_zero, List.cons.injEq, and_true] at h
          have := (u8_eq b c (by omega)).1 h
          omega
        by_cases s2 : c < 2048
        · have hby : bytesL c = [UInt8.ofNat (192 + c / 64), UInt8.ofNat (128 + c % 64)] := by unfold bytesL; rw [if_neg s1, if_pos s2]
          rw [hby, if_neg, if_neg (by omega)]
          rintro ⟨_, _, h⟩
          simp only [List.length_cons, List.length_nil, List.take_succ_cons, List.take_zero, List.cons.injEq, and_true] at h
          have := (u8_eq b (192 + c / 64) (by omega)).1 h.1
          omega
        · have hby : bytesL c = [UInt8.ofNat (224 + c / 4096), UInt8.ofNat (128 + c / 64 % 64), UInt8.ofNat (128 + c % 64)] := by unfold bytesL; rw [if_neg s1, if_neg s2, if_pos hc]
          have e1 := (u8_eq b (224 + c / 4096) (by omega)).2 (by omega)
          have e2 := (u8_eq x1 (128 + c / 64 % 64) (by omega)).2 (by omega)
          have e3 := (u8_eq x2 (128 + c % 64) (by omega)).2 (by omega)
          rw [hby, ← e1, ← e2, ← e3]
          simp only [List.length_cons, List.length_nil, List.take_succ_cons, List.take_zero]
          by_cases v : V c
          · rw [if_pos (by refine ⟨v, by omega, trivial⟩), if_pos (by refine ⟨by omega, by omega, by omega, by omega, v⟩)]
          · rw [if_neg (fun h => v h.1), if_neg (fun h => v h.2.2.2.2)]
    · rw [if_neg g, if_neg (fun h => g ⟨h.1, h.2.1, h.2.2.1⟩)]
  rw [if_neg a3, if_neg a3]
  by_cases a4 : 240 ≤ b.toNat ∧ b.toNat < 248
  · rw [if_pos a4, if_pos a4, more3]
    by_cases g : 3 < (b :: t).length ∧ (128 ≤ ((b :: t).getD 1 0).toNat ∧ ((b :: t).getD 1 0).toNat ≤ 191) ∧ (128 ≤ ((b :: t).getD 2 0).toNat ∧ ((b :: t).getD 2 0).toNat ≤ 191) ∧ (128 ≤ ((b :: t).getD 3 0).toNat ∧ ((b :: t).getD 3 0).toNat ≤ 191)
    · rw [if_pos g]
      obtain ⟨g0, g1, g2, g3⟩ := g
      match t, g0 with
      | x1 :: x2 :: x3 :: t2, g0 =>
        simp only [List.getD_cons_succ, List.getD_cons_zero] at g1 g2 g3 ⊢
        have hc : (((b.toNat - 240) * 64 + (x1.toNat - 128)) * 64 + (x2.toNat - 128)) * 64 + (x3.toNat - 128) < 2097152 := by omega
        obtain ⟨c, hcc⟩ : ∃ c, (((b.toNat - 240) * 64 + (x1.toNat - 128)) * 64 + (x2.toNat - 128)) * 64 + (x3.toNat - 128) = c := ⟨_, rfl⟩
        rw [hcc] at hc ⊢
        simp only [Int.toNat_natCast, vld_V, decide_eq_true_eq]
        by_cases s1 : c < 128
        · have hby : bytesL c = [UInt8.ofNat c] := by unfold bytesL; rw [if_pos s1]
          rw [hby, if_neg, if_neg (by omega)]
          rintro ⟨_, _, h⟩
          simp only [List.length_cons, List.length_nil, List.take_succ_cons, List.take_zero, List.cons.injEq, and_true] at h
          have := (u8_eq b c (by omega)).1 h
          omega
        by_cases s2 : c < 2048
        · have hby : bytesL c = [UInt8.ofNat (192 + c / 64), UInt8.ofNat (128 + c % 64)] := by unfold bytesL; rw [if_neg s1, if_pos s2]
          rw [hby, if_neg, if_neg (by omega)]
          rintro ⟨_, _, h⟩
          simp only [List.length_cons, List.length_nil, List.take_succ_cons, List.take_zero, List.cons.injEq, and_true] at h
          have := (u8_eq b (192 + c / 64) (by omega)).1 h.1
          omega
        by_cases s3 : c < 65536
        · have hby : bytesL c = [UInt8.ofNat (224 + c / 4096), UInt8.ofNat (128 + c / 64 % 64), UInt8.ofNat (128 + c % 64)] := by unfold bytesL; rw [if_neg s1, if_neg s2, if_pos s3]
          rw [hby, if_neg, if_neg (by omega)]
          rintro ⟨_, _, h⟩
          simp only [List.length_cons, List.length_nil, List.take_succ_cons, List.take_zero, List.cons.injEq, and_true] at h
          have := (u8_eq b (224 + c / 4096) (by omega)).1 h.1
          omega
        · have hby : bytesL c = [UInt8.ofNat (240 + c / 262144), UInt8.ofNat (128 + c / 4096 % 64), UInt8.ofNat (128 + c / 64 % 64), UInt8.ofNat (128 + c % 64)] := by unfold bytesL; rw [if_neg s1, if_neg s2, if_neg s3]
          have e1 := (u8_eq b (240 + c / 262144) (by omega)).2 (by omega)
          have e2 := (u8_eq x1 (128 + c / 4096 % 64) (by omega)).2 (by omega)
          have e3 := (u8_eq x2 (128 + c / 64 % 64) (by omega)).2 (by omega)
          have e4 := (u8_eq x3 (128 + c % 64) (by omega)).2 (by omega)
          rw [hby, ← e1, ← e2, ← e3, ← e4]
          simp only [List.length_cons, List.length_nil, List.take_succ_cons, List.take_zero]
          by_cases v : V c
          · rw [if_pos (by refine ⟨v, by omega, trivial⟩), if_pos (by refine ⟨by omega, by omega, by omega, by omega, by omega, by omega⟩)]
          · rw [if_neg (fun h => v h.1), if_neg (by omega)]
    · rw [if_neg g, if_neg (fun h => g ⟨h.1, h.2.1, h.2.2.1, h.2.2.2.1⟩)]
  · rw [if_neg a4, if_neg a4]
end Go.Proofs.YtiefpdoefdldpaaDoor
