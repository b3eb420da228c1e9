/- What the library reads of any text at the base 10 and at the base 16: the number, or an error. -/
import Derived.Test.YtiefpdoefdldpaaDoorO
namespace Go.Proofs.YtiefpdoefdldpaaDoor
open Go.RowKit

/-- The value of a digit or a letter. -/
def digV (n : Nat) : Option Nat := if 48 ≤ n ∧ n ≤ 57 then some (n - 48) else if 97 ≤ n ∧ n ≤ 122 then some (n - 87) else if 65 ≤ n ∧ n ≤ 90 then some (n - 55) else none
/-- The number of at most 31 bits; none: an error. -/
def pu (b : Nat) : Nat → List UInt8 → Option Nat
  | acc, [] => some acc
  | acc, c :: l => match digV c.toNat with
    | none => none
    | some d => if b ≤ d ∨ 2147483647 < acc * b + d then none else pu b (acc * b + d) l
def PuPost (r : Option Nat) (w : World) (e : Ending) (w' : World) : Prop :=
  (match r with
    | some n => e = .returned (.tuple #[.int .u64 (n : Int), .nilIface])
    | none => ∃ (x y : Int), (y = 1 ∨ y = 2) ∧ e = .returned (.tuple #[.int .u64 x, .iface 110 (.int .i64 y)])) ∧ Below w.heap.size w w'
theorem PuPost.err {w W : World} {r : Option Nat} {x y : Int} (hr : r = none) (hy : y = 1 ∨ y = 2) (hb : Below w.heap.size w W) : PuPost r w (.returned (.tuple #[.int .u64 x, .iface 110 (.int .i64 y)])) W := by
  subst hr
  exact ⟨⟨x, y, hy, rfl⟩, hb⟩
theorem PuPost.num {w W : World} {r : Option Nat} {n : Nat} (hr : r = some n) (hb : Below w.heap.size w W) : PuPost r w (.returned (.tuple #[.int .u64 (n : Int), .nilIface])) W := by
  subst hr
  exact ⟨rfl, hb⟩
theorem or32 (n : Nat) (h : n < 256) : bits .or .u8 (n : Int) 32 = (((if n / 32 % 2 = 1 then n else n + 32) : Nat) : Int) := by
  have key : ∀ m : Fin 256, bits .or .u8 ((m.val : Nat) : Int) 32 = (((if m.val / 32 % 2 = 1 then m.val else m.val + 32) : Nat) : Int) := by decide +kernel
  exact key ⟨n, h⟩

set_option maxRecDepth 100000 in
set_option maxHeartbeats 16000000 in
theorem pu_10 (t : ByteArray) (hne : t.size ≠ 0) (hmax : t.size ≤ 1000) (w : World) :
    Calls Tryd.prog 74 #[.string t, .int .i64 10, .int .i64 31] w (PuPost (pu 10 0 t.data.toList) w) := by
  have hemp : t.toList.isEmpty = false := by
    rw [← decide_eq_emptyBytes]
    exact decide_eq_false (fun h => hne (by rw [h]; rfl))
  have hcv := Lib.run_convert_string_bytes (P := Tryd.prog) w 9 47 5 t (u := .string) Tryd.underlying9 Tryd.underlying47 Tryd.underlying5
  have hB : ∀ j, j < t.size → (Lib.bytesWorld w 5 t).cell? ⟨w.heap.size, j, none⟩ = some (.int .u8 (t.data.toList.getD j 0).toNat) := fun j hj => Lib.bytesWorld_cell w 5 t j hj
  have hBel : Below w.heap.size w (Lib.bytesWorld w 5 t) := ⟨rfl, rfl, rfl, by rw [Lib.bytesWorld_size]; omega, fun k hk => Lib.bytesWorld_at_old w 5 t k hk⟩
  obtain ⟨W1, hW1⟩ : ∃ W1, W1 = Lib.bytesWorld w 5 t := ⟨_, rfl⟩
  rw [← hW1] at hcv hB hBel
  clear hW1
  obtain ⟨bs, hL⟩ : ∃ bs, bs = t.data.toList := ⟨_, rfl⟩
  have hLn : bs.length = t.size := by rw [hL, Lib.size_eq]
  rw [← hL] at hB ⊢
  clear hL
  have hBelH := Lib.hid hBel
  clear hBel
  obtain ⟨R, hM⟩ : ∃ R, R = pu 10 0 bs := ⟨_, rfl⟩
  rw [← hM]
  have hMH := Lib.hid hM
  clear hM
  have hmv : IntKind.u64.wrap (IntKind.u64.wrap 2147483648 - 1) = 2147483647 := by
    rw [IntKind.wrap_u64, IntKind.wrap_u64]
    decide
  go_enter Tryd.func74, Tryd.ntmps74
  go_wp2
  go_loop [12, 13, 101] (fun vu vn vi => ∃ (k acc : Nat) (a : Int), vu = .bool false ∧ vn = .int .u64 a ∧ vi = .int .i64 k ∧ k ≤ t.size ∧ Hid (a = (acc : Int) ∧ acc ≤ 2147483647 ∧ R = pu 10 acc (bs.drop k)))
    (fun _ _ vi => t.size - (intOf vi).toNat)
  case atStart => exact ⟨0, 0, 0, rfl, rfl, rfl, by omega, rfl, by omega, hMH.out⟩
  case round =>
    obtain ⟨k, acc, a, rfl, rfl, rfl, hk, hh⟩ := hrel
    obtain ⟨ha, hacc, hdec⟩ := hh.out
    clear hh
    have a0 : 0 ≤ a := by omega
    have a1 : a ≤ 2147483647 := by omega
    by_cases hkn : k < t.size
    · have hc := hB k hkn
      have hdrop : bs.drop k = bs[k]'(by omega) :: bs.drop (k + 1) := List.drop_eq_getElem_cons (by omega)
      have hget : bs.getD k 0 = bs[k]'(by omega) := by simp [List.getD, List.getElem?_eq_getElem (show k < bs.length by omega)]
      rw [hdrop] at hdec
      rw [hget] at hc
      generalize bs[k]'(by omega) = c at hc hdec
      have hc256 : c.toNat < 256 := c.toNat_lt
      have cL := fun W => Tryd.internal_strconv_lower (c.toNat : Int) W
      have ho := or32 c.toNat hc256
      generalize bits .or .u8 (c.toNat : Int) 32 = lo at cL ho
      clear hB hdrop hget
      by_cases h95 : c.toNat = 95
      · have hdv : digV c.toNat = none := by rw [h95]; rfl
        simp only [pu, hdv] at hdec
        have HR := Lib.hid hdec
        rw [h95] at hc
        have c95 := fun W => Tryd.internal_strconv_lower 95 W
        rw [show bits .or .u8 (95 : Int) 32 = 127 by decide] at c95
        clear hdec hdv ha hacc ho cL h95
        go_wp2_with (go_at_call 79; refine (c95 _).mono ?_; rintro e w3 ⟨rfl, rfl⟩)
        all_goals go_ret2
        all_goals exact PuPost.err HR.out (.inr rfl) hBelH.out
      have hn95 : ¬ ((c.toNat : Int) = 95) := by omega
      clear h95
      by_cases hdig : 48 ≤ c.toNat ∧ c.toNat ≤ 57
      · obtain ⟨hd0, hd1⟩ := hdig
        clear ho
        have hdv : digV c.toNat = some (c.toNat - 48) := by unfold digV; rw [if_pos ⟨hd0, hd1⟩]
        simp only [pu, hdv] at hdec
        by_cases hov : 2147483647 < acc * 10 + (c.toNat - 48)
        · have hR : R = none := by rw [hdec, if_pos (.inr hov)]
          have HR := Lib.hid hR
          have iov : 2147483647 < a * 10 + ((c.toNat : Int) - 48) := by omega
          clear hdec hR hov hdv ha hacc
          go_wp2
          go_ret2
          exact PuPost.err HR.out (.inl rfl) hBelH.out
        · have hR : R = pu 10 (acc * 10 + (c.toNat - 48)) (bs.drop (k + 1)) := by rw [hdec, if_neg (by omega)]
          have HN : Hid (a * 10 + ((c.toNat : Int) - 48) = ((acc * 10 + (c.toNat - 48) : Nat) : Int) ∧ acc * 10 + (c.toNat - 48) ≤ 2147483647 ∧ R = pu 10 (acc * 10 + (c.toNat - 48)) (bs.drop (k + 1))) := Lib.hid ⟨by omega, by omega, hR⟩
          have iov : a * 10 + ((c.toNat : Int) - 48) ≤ 2147483647 := by omega
          clear hdec hR hov hdv ha hacc
          go_wp2
          refine ⟨⟨k + 1, acc * 10 + (c.toNat - 48), a * 10 + ((c.toNat : Int) - 48), rfl, (by first | rfl | (congr 1; omega)), (by first | rfl | (congr 1; omega)), by omega, HN⟩, by simp [intOf]; omega⟩
      · by_cases hlet : 97 ≤ lo ∧ lo ≤ 122
        · obtain ⟨l0, l1⟩ := hlet
          obtain ⟨d, hd⟩ : ∃ d : Nat, lo = ((d + 87 : Nat) : Int) := ⟨lo.toNat - 87, by omega⟩
          have hdv : digV c.toNat = some d := by
            unfold digV
            rw [if_neg hdig]
            split at ho
            · rw [if_pos (by omega)]; congr 1; omega
            · rw [if_neg (by omega), if_pos (by omega)]; congr 1; omega
          simp only [pu, hdv] at hdec
          have hnd : (c.toNat : Int) < 48 ∨ 57 < (c.toNat : Int) := by omega
          by_cases hbig : 10 ≤ d
          · have hR : R = none := by rw [hdec, if_pos (.inl hbig)]
            have HR := Lib.hid hR
            have ibig : (10 : Int) ≤ lo - 97 + 10 := by omega
            clear hdec hR hdv ha hacc ho hdig hd hbig
            rcases hnd with hn | hn
            · go_wp2_with (go_at_call 79; refine (cL _).mono ?_; rintro e w3 ⟨rfl, rfl⟩)
              all_goals go_ret2
              all_goals exact PuPost.err HR.out (.inr rfl) hBelH.out
            · go_wp2_with (go_at_call 79; refine (cL _).mono ?_; rintro e w3 ⟨rfl, rfl⟩)
              all_goals go_ret2
              all_goals exact PuPost.err HR.out (.inr rfl) hBelH.out
          · exfalso
            omega
        · have hdv : digV c.toNat = none := by
            unfold digV
            rw [if_neg hdig]
            split at ho
            · rw [if_neg (by omega), if_neg (by omega)]
            · rw [if_neg (by omega), if_neg (by omega)]
          simp only [pu, hdv] at hdec
          have HR := Lib.hid hdec
          have hnd : (c.toNat : Int) < 48 ∨ 57 < (c.toNat : Int) := by omega
          have hnl : lo < 97 ∨ 122 < lo := by omega
          have hlo2 : 0 ≤ lo ∧ lo ≤ 255 := by split at ho <;> omega
          obtain ⟨l0, l1⟩ := hlo2
          clear hdec hdv ha hacc ho hdig hlet
          rcases hnd with hn | hn <;> rcases hnl with hl | hl
          all_goals go_wp2_with (go_at_call 79; refine (cL _).mono ?_; rintro e w3 ⟨rfl, rfl⟩)
          all_goals go_ret2
          all_goals exact PuPost.err HR.out (.inr rfl) hBelH.out
    · have hkk : k = t.size := by omega
      subst hkk
      have hF : R = some acc := by rw [hdec, List.drop_eq_nil_of_le (by omega)]; rfl
      subst ha
      have hF2 := Lib.hid hF
      clear hacc a0 a1 hdec hF
      go_wp2
      go_ret2
      exact PuPost.num hF2.out hBelH.out

set_option maxRecDepth 100000 in
set_option maxHeartbeats 16000000 in
theorem pu_16 (t : ByteArray) (hne : t.size ≠ 0) (hmax : t.size ≤ 1000) (w : World) :
    Calls Tryd.prog 74 #[.string t, .int .i64 16, .int .i64 31] w (PuPost (pu 16 0 t.data.toList) w) := by
  have hemp : t.toList.isEmpty = false := by
    rw [← decide_eq_emptyBytes]
    exact decide_eq_false (fun h => hne (by rw [h]; rfl))
  have hcv := Lib.run_convert_string_bytes (P := Tryd.prog) w 9 47 5 t (u := .string) Tryd.underlying9 Tryd.underlying47 Tryd.underlying5
  have hB : ∀ j, j < t.size → (Lib.bytesWorld w 5 t).cell? ⟨w.heap.size, j, none⟩ = some (.int .u8 (t.data.toList.getD j 0).toNat) := fun j hj => Lib.bytesWorld_cell w 5 t j hj
  have hBel : Below w.heap.size w (Lib.bytesWorld w 5 t) := ⟨rfl, rfl, rfl, by rw [Lib.bytesWorld_size]; omega, fun k hk => Lib.bytesWorld_at_old w 5 t k hk⟩
  obtain ⟨W1, hW1⟩ : ∃ W1, W1 = Lib.bytesWorld w 5 t := ⟨_, rfl⟩
  rw [← hW1] at hcv hB hBel
  clear hW1
  obtain ⟨bs, hL⟩ : ∃ bs, bs = t.data.toList := ⟨_, rfl⟩
  have hLn : bs.length = t.size := by rw [hL, Lib.size_eq]
  rw [← hL] at hB ⊢
  clear hL
  have hBelH := Lib.hid hBel
  clear hBel
  obtain ⟨R, hM⟩ : ∃ R, R = pu 16 0 bs := ⟨_, rfl⟩
  rw [← hM]
  have hMH := Lib.hid hM
  clear hM
  have hmv : IntKind.u64.wrap (IntKind.u64.wrap 2147483648 - 1) = 2147483647 := by
    rw [IntKind.wrap_u64, IntKind.wrap_u64]
    decide
  go_enter Tryd.func74, Tryd.ntmps74
  go_wp2
  go_loop [12, 13, 101] (fun vu vn vi => ∃ (k acc : Nat) (a : Int), vu = .bool false ∧ vn = .int .u64 a ∧ vi = .int .i64 k ∧ k ≤ t.size ∧ Hid (a = (acc : Int) ∧ acc ≤ 2147483647 ∧ R = pu 16 acc (bs.drop k)))
    (fun _ _ vi => t.size - (intOf vi).toNat)
  case atStart => exact ⟨0, 0, 0, rfl, rfl, rfl, by omega, rfl, by omega, hMH.out⟩
  case round =>
    obtain ⟨k, acc, a, rfl, rfl, rfl, hk, hh⟩ := hrel
    obtain ⟨ha, hacc, hdec⟩ := hh.out
    clear hh
    have a0 : 0 ≤ a := by omega
    have a1 : a ≤ 2147483647 := by omega
    by_cases hkn : k < t.size
    · have hc := hB k hkn
      have hdrop : bs.drop k = bs[k]'(by omega) :: bs.drop (k + 1) := List.drop_eq_getElem_cons (by omega)
      have hget : bs.getD k 0 = bs[k]'(by omega) := by simp [List.getD, List.getElem?_eq_getElem (show k < bs.length by omega)]
      rw [hdrop] at hdec
      rw [hget] at hc
      generalize bs[k]'(by omega) = c at hc hdec
      have hc256 : c.toNat < 256 := c.toNat_lt
      have cL := fun W => Tryd.internal_strconv_lower (c.toNat : Int) W
      have ho := or32 c.toNat hc256
      generalize bits .or .u8 (c.toNat : Int) 32 = lo at cL ho
      clear hB hdrop hget
      by_cases h95 : c.toNat = 95
      · have hdv : digV c.toNat = none := by rw [h95]; rfl
        simp only [pu, hdv] at hdec
        have HR := Lib.hid hdec
        rw [h95] at hc
        have c95 := fun W => Tryd.internal_strconv_lower 95 W
        rw [show bits .or .u8 (95 : Int) 32 = 127 by decide] at c95
        clear hdec hdv ha hacc ho cL h95
        go_wp2_with (go_at_call 79; refine (c95 _).mono ?_; rintro e w3 ⟨rfl, rfl⟩)
        all_goals go_ret2
        all_goals exact PuPost.err HR.out (.inr rfl) hBelH.out
      have hn95 : ¬ ((c.toNat : Int) = 95) := by omega
      clear h95
      by_cases hdig : 48 ≤ c.toNat ∧ c.toNat ≤ 57
      · obtain ⟨hd0, hd1⟩ := hdig
        clear ho
        have hdv : digV c.toNat = some (c.toNat - 48) := by unfold digV; rw [if_pos ⟨hd0, hd1⟩]
        simp only [pu, hdv] at hdec
        by_cases hov : 2147483647 < acc * 16 + (c.toNat - 48)
        · have hR : R = none := by rw [hdec, if_pos (.inr hov)]
          have HR := Lib.hid hR
          have iov : 2147483647 < a * 16 + ((c.toNat : Int) - 48) := by omega
          clear hdec hR hov hdv ha hacc
          go_wp2
          go_ret2
          exact PuPost.err HR.out (.inl rfl) hBelH.out
        · have hR : R = pu 16 (acc * 16 + (c.toNat - 48)) (bs.drop (k + 1)) := by rw [hdec, if_neg (by omega)]
          have HN : Hid (a * 16 + ((c.toNat : Int) - 48) = ((acc * 16 + (c.toNat - 48) : Nat) : Int) ∧ acc * 16 + (c.toNat - 48) ≤ 2147483647 ∧ R = pu 16 (acc * 16 + (c.toNat - 48)) (bs.drop (k + 1))) := Lib.hid ⟨by omega, by omega, hR⟩
          have iov : a * 16 + ((c.toNat : Int) - 48) ≤ 2147483647 := by omega
          clear hdec hR hov hdv ha hacc
          go_wp2
          refine ⟨⟨k + 1, acc * 16 + (c.toNat - 48), a * 16 + ((c.toNat : Int) - 48), rfl, (by first | rfl | (congr 1; omega)), (by first | rfl | (congr 1; omega)), by omega, HN⟩, by simp [intOf]; omega⟩
      · by_cases hlet : 97 ≤ lo ∧ lo ≤ 122
        · obtain ⟨l0, l1⟩ := hlet
          obtain ⟨d, hd⟩ : ∃ d : Nat, lo = ((d + 87 : Nat) : Int) := ⟨lo.toNat - 87, by omega⟩
          have hdv : digV c.toNat = some d := by
            unfold digV
            rw [if_neg hdig]
            split at ho
            · rw [if_pos (by omega)]; congr 1; omega
            · rw [if_neg (by omega), if_pos (by omega)]; congr 1; omega
          simp only [pu, hdv] at hdec
          have hnd : (c.toNat : Int) < 48 ∨ 57 < (c.toNat : Int) := by omega
          by_cases hbig : 16 ≤ d
          · have hR : R = none := by rw [hdec, if_pos (.inl hbig)]
            have HR := Lib.hid hR
            have ibig : (16 : Int) ≤ lo - 97 + 10 := by omega
            clear hdec hR hdv ha hacc ho hdig hd hbig
            rcases hnd with hn | hn
            · go_wp2_with (go_at_call 79; refine (cL _).mono ?_; rintro e w3 ⟨rfl, rfl⟩)
              all_goals go_ret2
              all_goals exact PuPost.err HR.out (.inr rfl) hBelH.out
            · go_wp2_with (go_at_call 79; refine (cL _).mono ?_; rintro e w3 ⟨rfl, rfl⟩)
              all_goals go_ret2
              all_goals exact PuPost.err HR.out (.inr rfl) hBelH.out
          · by_cases hov : 2147483647 < acc * 16 + d
            · have hR : R = none := by rw [hdec, if_pos (.inr hov)]
              have HR := Lib.hid hR
              have ibig : lo - 97 + 10 < (16 : Int) := by omega
              have iov : 2147483647 < a * 16 + (lo - 97 + 10) := by omega
              clear hdec hR hdv ha hacc ho hdig hd hbig hov
              rcases hnd with hn | hn
              · go_wp2_with (go_at_call 79; refine (cL _).mono ?_; rintro e w3 ⟨rfl, rfl⟩)
                all_goals go_ret2
                all_goals exact PuPost.err HR.out (.inl rfl) hBelH.out
              · go_wp2_with (go_at_call 79; refine (cL _).mono ?_; rintro e w3 ⟨rfl, rfl⟩)
                all_goals go_ret2
                all_goals exact PuPost.err HR.out (.inl rfl) hBelH.out
            · have hR : R = pu 16 (acc * 16 + d) (bs.drop (k + 1)) := by rw [hdec, if_neg (by omega)]
              have HN : Hid (a * 16 + (lo - 97 + 10) = ((acc * 16 + d : Nat) : Int) ∧ acc * 16 + d ≤ 2147483647 ∧ R = pu 16 (acc * 16 + d) (bs.drop (k + 1))) := Lib.hid ⟨by omega, by omega, hR⟩
              have ibig : lo - 97 + 10 < (16 : Int) := by omega
              have iov : a * 16 + (lo - 97 + 10) ≤ 2147483647 := by omega
              clear hdec hR hov hdv ha hacc ho hdig hd hbig
              rcases hnd with hn | hn
              · go_wp2_with (go_at_call 79; refine (cL _).mono ?_; rintro e w3 ⟨rfl, rfl⟩)
                all_goals exact ⟨⟨k + 1, acc * 16 + d, a * 16 + (lo - 97 + 10), rfl, rfl, (by first | rfl | (congr 1; omega)), by omega, HN⟩, by simp [intOf]; omega⟩
              · go_wp2_with (go_at_call 79; refine (cL _).mono ?_; rintro e w3 ⟨rfl, rfl⟩)
                all_goals exact ⟨⟨k + 1, acc * 16 + d, a * 16 + (lo - 97 + 10), rfl, rfl, (by first | rfl | (congr 1; omega)), by omega, HN⟩, by simp [intOf]; omega⟩
        · have hdv : digV c.toNat = none := by
            unfold digV
            rw [if_neg hdig]
            split at ho
            · rw [if_neg (by omega), if_neg (by omega)]
            · rw [if_neg (by omega), if_neg (by omega)]
          simp only [pu, hdv] at hdec
          have HR := Lib.hid hdec
          have hnd : (c.toNat : Int) < 48 ∨ 57 < (c.toNat : Int) := by omega
          have hnl : lo < 97 ∨ 122 < lo := by omega
          have hlo2 : 0 ≤ lo ∧ lo ≤ 255 := by split at ho <;> omega
          obtain ⟨l0, l1⟩ := hlo2
          clear hdec hdv ha hacc ho hdig hlet
          rcases hnd with hn | hn <;> rcases hnl with hl | hl
          all_goals go_wp2_with (go_at_call 79; refine (cL _).mono ?_; rintro e w3 ⟨rfl, rfl⟩)
          all_goals go_ret2
          all_goals exact PuPost.err HR.out (.inr rfl) hBelH.out
    · have hkk : k = t.size := by omega
      subst hkk
      have hF : R = some acc := by rw [hdec, List.drop_eq_nil_of_le (by omega)]; rfl
      subst ha
      have hF2 := Lib.hid hF
      clear hacc a0 a1 hdec hF
      go_wp2
      go_ret2
      exact PuPost.num hF2.out hBelH.out
end Go.Proofs.YtiefpdoefdldpaaDoor
