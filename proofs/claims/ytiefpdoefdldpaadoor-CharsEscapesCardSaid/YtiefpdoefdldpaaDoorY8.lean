/- The reference's Escape, at every string: it says what package chars says. -/
import Derived.Lib.AppendStr
import Derived.Test.YtiefpdoefdldpaaDoorY6
namespace Go.Proofs.YtiefpdoefdldpaaDoor
open Go.RowKit

theorem rtext_any (s : ByteArray) (hs : s.size ≤ 100000) (w : World) : Calls Tryd.prog 38 #[.string s] w fun e w' => e = .returned (.bool (!decBad s.data.toList)) ∧ Below w.heap.size w w' := by
  have cD := (rdecode_any s hs w).mono fun e w' h => dec_form h
  have eQ : decQ s.data.toList = if decBad s.data.toList then 6 else 0 := rfl
  generalize decP s.data.toList = dp at cD
  rw [eQ] at cD
  cases hb : decBad s.data.toList with
  | true =>
    rw [hb, if_pos rfl] at cD
    clear hb eQ
    go_enter Tryd.func38, Tryd.ntmps38
    go_wp2_with (go_at_call 19; refine cD.mono ?_; rintro e w1 ⟨v1, rfl, _, b1⟩)
    go_ret
    exact ⟨rfl, b1⟩
  | false =>
    rw [hb, if_neg (by decide)] at cD
    clear hb eQ
    go_enter Tryd.func38, Tryd.ntmps38
    go_wp2_with (go_at_call 19; refine cD.mono ?_; rintro e w1 ⟨v1, rfl, _, b1⟩)
    go_ret
    exact ⟨rfl, b1⟩

/-- What a byte becomes. -/
def rescL (attr : Bool) (b : UInt8) : List UInt8 := (escL attr (b.toNat : Int)).getD [b]

set_option maxRecDepth 100000 in
set_option maxHeartbeats 2000000 in
theorem resc_lit (n : Int) (attr : Bool) (lit : List UInt8) (h : escL attr n = some lit) (w : World) :
    Calls Tryd.prog 39 #[.int .u8 n, .bool attr] w fun e w' => e = .returned (.string ⟨lit.toArray⟩) ∧ Below w.heap.size w w' := by
  unfold escL at h
  split at h
  · rename_i h0; subst h0; cases h
    go_enter Tryd.func39, Tryd.ntmps39
    go_wp2
    go_ret
    exact ⟨rfl, Below.refl _ _⟩
  split at h
  · rename_i h0; subst h0; cases h
    go_enter Tryd.func39, Tryd.ntmps39
    go_wp2
    go_ret
    exact ⟨rfl, Below.refl _ _⟩
  split at h
  · rename_i h0; subst h0; cases h
    go_enter Tryd.func39, Tryd.ntmps39
    go_wp2
    go_ret
    exact ⟨rfl, Below.refl _ _⟩
  split at h
  · rename_i h0; subst h0; cases h
    go_enter Tryd.func39, Tryd.ntmps39
    go_wp2
    go_ret
    exact ⟨rfl, Below.refl _ _⟩
  split at h
  · rename_i h0; obtain ⟨rfl, rfl⟩ := h0; cases h
    go_enter Tryd.func39, Tryd.ntmps39
    go_wp2
    go_ret
    exact ⟨rfl, Below.refl _ _⟩
  split at h
  · rename_i h0; obtain ⟨rfl, rfl⟩ := h0; cases h
    go_enter Tryd.func39, Tryd.ntmps39
    go_wp2
    go_ret
    exact ⟨rfl, Below.refl _ _⟩
  split at h
  · rename_i h0; obtain ⟨rfl, rfl⟩ := h0; cases h
    go_enter Tryd.func39, Tryd.ntmps39
    go_wp2
    go_ret
    exact ⟨rfl, Below.refl _ _⟩
  · cases h
set_option maxRecDepth 100000 in
set_option maxHeartbeats 2000000 in
theorem resc_none (n : Int) (attr : Bool) (h : escL attr n = none) (w : World) :
    Calls Tryd.prog 39 #[.int .u8 n, .bool attr] w fun e w' => e = .returned (.string (strOfNums [n])) ∧ Below w.heap.size w w' := by
  have hcv := run_convert_bytes_arg (P := Tryd.prog) (w.alloc (.cells #[.int .u8 n] 5)) 47 5 Tryd.underlying47 Tryd.underlying5 w.heap.size 0 1 1 [n] rfl (fun i hi => by
    obtain rfl : i = 0 := by omega
    simp) 9 Tryd.underlying9
  unfold escL at h
  have h60 : ¬ n = 60 := fun e => by rw [if_pos e] at h; cases h
  rw [if_neg h60] at h
  have h62 : ¬ n = 62 := fun e => by rw [if_pos e] at h; cases h
  rw [if_neg h62] at h
  have h38 : ¬ n = 38 := fun e => by rw [if_pos e] at h; cases h
  rw [if_neg h38] at h
  have h13 : ¬ n = 13 := fun e => by rw [if_pos e] at h; cases h
  rw [if_neg h13] at h
  cases attr with
  | false =>
    clear h
    go_enter Tryd.func39, Tryd.ntmps39
    go_wp2
    go_ret
    exact ⟨rfl, (Below.refl _ _).alloc (Nat.le_refl _) _⟩
  | true =>
    have h34 : ¬ n = 34 := fun e => by rw [if_pos ⟨rfl, e⟩] at h; cases h
    rw [if_neg (fun e => h34 e.2)] at h
    have h9 : ¬ n = 9 := fun e => by rw [if_pos ⟨rfl, e⟩] at h; cases h
    rw [if_neg (fun e => h9 e.2)] at h
    have h10 : ¬ n = 10 := fun e => by rw [if_pos ⟨rfl, e⟩] at h; cases h
    clear h
    go_enter Tryd.func39, Tryd.ntmps39
    go_wp2
    go_ret
    exact ⟨rfl, (Below.refl _ _).alloc (Nat.le_refl _) _⟩
theorem resc_any (b : UInt8) (attr : Bool) (w : World) : Calls Tryd.prog 39 #[.int .u8 (b.toNat : Int), .bool attr] w fun e w' => e = .returned (.string ⟨(rescL attr b).toArray⟩) ∧ Below w.heap.size w w' := by
  unfold rescL
  cases h : escL attr (b.toNat : Int) with
  | some lit => exact resc_lit _ attr lit h w
  | none =>
    refine (resc_none _ attr h w).mono fun e w' ⟨he, hb⟩ => ⟨he.trans (ret_string ?_), hb⟩
    apply bytes_ext
    simp [strOfNums]

def rescAll (attr : Bool) (l : List UInt8) : List UInt8 := l.flatMap (rescL attr)
theorem rescL_len (attr : Bool) (b : UInt8) : (rescL attr b).length ≤ 6 := by
  unfold rescL
  cases h : escL attr (b.toNat : Int) with
  | none => simp
  | some lit =>
    have := encB_len attr (b.toNat : Int)
    unfold encB at this
    rw [h] at this
    exact this
theorem rescAll_len (attr : Bool) : ∀ l : List UInt8, (rescAll attr l).length ≤ 6 * l.length
  | [] => by simp [rescAll]
  | b :: l => by
    have h := rescAll_len attr l
    have h1 := rescL_len attr b
    simp only [rescAll, List.flatMap_cons, List.length_append, List.length_cons] at h ⊢
    omega

theorem escL_high (attr : Bool) (c : Int) (h : 128 ≤ c) : escL attr c = none := by
  unfold escL
  rw [if_neg (by omega), if_neg (by omega), if_neg (by omega), if_neg (by omega), if_neg (by omega), if_neg (by omega), if_neg (by omega)]
theorem resc_char (attr : Bool) (n : Nat) (hm : n ≤ 1114111) : rescAll attr (bytesL n) = encB attr (n : Int) := by
  have high : ∀ k : Nat, 128 ≤ k → k < 256 → rescL attr (UInt8.ofNat k) = [UInt8.ofNat k] := fun k h1 h2 => by
    unfold rescL
    rw [ofNat_toNat h2, escL_high attr k (by omega)]
    rfl
  unfold encB
  by_cases h1 : n < 128
  · have e : bytesL n = [UInt8.ofNat n] := by unfold bytesL; rw [if_pos h1]
    rw [Int.toNat_natCast, e]
    unfold rescAll rescL
    rw [List.flatMap_cons, List.flatMap_nil, List.append_nil, ofNat_toNat (by omega)]
  · rw [escL_high attr n (by omega), Int.toNat_natCast]
    show rescAll attr (bytesL n) = bytesL n
    unfold bytesL rescAll
    rw [if_neg h1]
    by_cases h2 : n < 2048
    · rw [if_pos h2]
      simp only [List.flatMap_cons, List.flatMap_nil]
      rw [high _ (by omega) (by omega), high _ (by omega) (by omega)]
      rfl
    by_cases h3 : n < 65536
    · rw [if_neg h2, if_pos h3]
      simp only [List.flatMap_cons, List.flatMap_nil]
      rw [high _ (by omega) (by omega), high _ (by omega) (by omega), high _ (by omega) (by omega)]
      rfl
    · rw [if_neg h2, if_neg h3]
      simp only [List.flatMap_cons, List.flatMap_nil]
      rw [high _ (by omega) (by omega), high _ (by omega) (by omega), high _ (by omega) (by omega), high _ (by omega) (by omega)]
      rfl
theorem resc_text (attr : Bool) : ∀ zs : List Int, zs.all vldB = true → rescAll attr (encAll zs) = escAll attr zs
  | [], _ => rfl
  | c :: zs, hv => by
    rw [List.all_cons, Bool.and_eq_true] at hv
    obtain ⟨n, rfl, _, hm⟩ := vld_nat hv.1
    have ih := resc_text attr zs hv.2
    have h := resc_char attr n hm
    unfold rescAll at h ih ⊢
    rw [encAll_cons, escAll_cons, Int.toNat_natCast, List.flatMap_append, ih, h]

set_option maxRecDepth 100000 in
set_option maxHeartbeats 2000000 in
theorem rescape_any (s : ByteArray) (attr : Bool) (w : World) (hs : s.size ≤ 100000) :
    Calls Tryd.prog 24 #[.string s, .bool attr] w fun e w' => e = .returned (.tuple #[.string (escS attr s.data.toList), .int .i64 (sqQ s.data.toList)]) ∧ Below w.heap.size w w' := by
  have cT := rtext_any s hs w
  unfold escS sqQ
  cases hb : decBad s.data.toList with
  | true =>
    rw [hb] at cT
    rw [if_pos rfl, if_pos rfl]
    clear hb
    go_enter Tryd.func24, Tryd.ntmps24
    go_wp2_with (go_at_call 38; refine cT.mono ?_; rintro e w1 ⟨rfl, b1⟩)
    go_ret2
    exact ⟨rfl, b1⟩
  | false =>
    rw [hb] at cT
    rw [if_neg (by decide), if_neg (by decide)]
    obtain ⟨t1, t2⟩ := back_text hb
    have hT := resc_text attr (decL s.data.toList) t2
    rw [t1] at hT
    rw [← hT]
    clear hT t1 t2 hb
    obtain ⟨L, hL⟩ : ∃ L, s.data.toList = L := ⟨_, rfl⟩
    have hLs : L.length = s.size := by rw [← hL]; simp
    rw [hL]
    have HL := Lib.hid hL
    have HLs := Lib.hid hLs
    clear hL hLs
    obtain ⟨R, hR⟩ : ∃ R, ByteArray.mk (rescAll attr L).toArray = R := ⟨_, rfl⟩
    rw [hR]
    have HR := Lib.hid hR
    clear hR
    obtain ⟨i5, hi, hz0, hz1, hz2⟩ := info_parts info5
    have Hi := Lib.hid hi
    have Hz0 := Lib.hid hz0
    have Hz1 := Lib.hid hz1
    have Hz2 := Lib.hid hz2
    clear hi hz0 hz1 hz2
    go_enter Tryd.func24, Tryd.ntmps24
    go_wp2_with (first | (go_at_call 38; refine cT.mono ?_; rintro e w1 ⟨rfl, b1⟩) | fail)
    go_loopg [6, 7] (s.size + 1) (fun gk v6 v7 wr => ∃ k : Nat, v7 = .int .i64 (k : Int) ∧ k ≤ s.size ∧ gk + k = s.size + 1 ∧ Hid (wr.ownsRow w.heap.size 5 1 v6 (rescAll attr (L.take k)).length (Lib.byteCells (rescAll attr (L.take k)))) ∧ Below w.heap.size w wr)
    case atStart => exact ⟨0, rfl, Nat.zero_le _, rfl, World.ownsRow_nil _ _ _ _, b1⟩
    case round =>
      clear b1
      obtain ⟨k, rfl, hk, hgk, HH, hB⟩ := hrel
      by_cases hlt : k < s.size
      · have hkL : k < L.length := by rw [HLs.out]; exact hlt
        have hget : s[k] = L[k]'hkL := by
          have h := HL.out
          subst h
          rfl
        have cR := fun W => resc_any s[k] attr W
        have htk : rescAll attr (L.take (k + 1)) = rescAll attr (L.take k) ++ rescL attr s[k] := by
          rw [List.take_add_one, List.getElem?_eq_getElem hkL, hget]
          show (L.take k ++ [L[k]'hkL]).flatMap (rescL attr) = _
          rw [List.flatMap_append, List.flatMap_cons, List.flatMap_nil, List.append_nil]
          rfl
        have h6 := rescL_len attr s[k]
        have h6k := rescAll_len attr (L.take k)
        have hlk : (L.take k).length = k := by simp; omega
        obtain ⟨B, hBn⟩ : ∃ B, ByteArray.mk (rescL attr s[k]).toArray = B := ⟨_, rfl⟩
        have hBs : B.size = (rescL attr s[k]).length := by rw [← hBn]; exact List.size_toArray
        have hBc : Lib.strCells B = Lib.byteCells (rescL attr s[k]) := by rw [Lib.strCells_eq, ← hBn]
        rw [hBn] at cR
        obtain ⟨m, hm⟩ : ∃ m, (rescAll attr (L.take k)).length = m := ⟨_, rfl⟩
        have hown := HH.out
        rw [hm] at hown h6k
        have h63 : m + B.size ≤ maxLen := by unfold maxLen; omega
        have h47 : m + B.size ≤ 140737488355328 := by omega
        have Hown := Lib.hid hown
        have HN := Lib.hid (And.intro htk (And.intro hBs (And.intro hBc hm)))
        clear hown htk h6 h6k hlk hBn hBs hBc hm hget hkL
        go_wp2_with (first
          | (go_at_call 39; refine (cR _).mono ?_; rintro e w2 ⟨rfl, hb2⟩)
          | (at_builtin; refine Lib.wpList_append_own_string _ rfl _ _ 47 9 rfl w.heap.size 5 i5 Tryd.underlying47 Tryd.underlying9 Hi.out Hz0.out Hz1.out Hz2.out _ m (Lib.byteCells (rescAll attr (L.take k))) rfl (own_below Hown.out hb2) B rfl h63 h47 (Nat.le_trans hB.size hb2.size) ?_; intro v' w3 hown3 hg3 _))
        have hbz : Below w.heap.size w w2 := hB.trans (hb2.mono hB.size)
        have hb3 : Below w.heap.size w w3 := hbz.grown hg3 hbz.size (fun j e => (Hown.out.lt j e).1)
        have hlen2 : (rescAll attr (L.take (k + 1))).length = m + B.size := by rw [HN.out.1, List.length_append, HN.out.2.2.2, HN.out.2.1]
        have HI : Hid (w3.ownsRow w.heap.size 5 1 v' (rescAll attr (L.take (k + 1))).length (Lib.byteCells (rescAll attr (L.take (k + 1))))) := by
          show w3.ownsRow _ _ _ _ _ _
          rw [hlen2, HN.out.1, Lib.byteCells_append, ← HN.out.2.2.1]
          exact hown3
        go_roundg (gk - 1)
        case measure => omega
        case rel => exact ⟨k + 1, by go_num, by omega, by omega, HI, hb3⟩
      · obtain rfl : k = s.size := by omega
        have hown := HH.out
        have htl : L.take s.size = L := by rw [← HLs.out, List.take_length]
        rw [htl] at hown
        have hconv := conv_own hown
        rw [HR.out] at hconv
        clear hown htl HH hlt
        go_wp2
        go_ret2
        exact ⟨rfl, hB⟩
end Go.Proofs.YtiefpdoefdldpaaDoor
