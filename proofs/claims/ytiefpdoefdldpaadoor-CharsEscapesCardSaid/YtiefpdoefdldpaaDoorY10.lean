/- Squeeze of package chars and the reference's, at every string and every mode: they answer alike. -/
import Derived.Test.YtiefpdoefdldpaaDoorY9
namespace Go.Proofs.YtiefpdoefdldpaaDoor
open Go.RowKit

def sqT (m : Int) (l : List UInt8) : List UInt8 := if m = 1 then sq1 l else if m = 2 then sq2 l else if m = 0 ∧ decBad l = false then l else []
def sqE (m : Int) (l : List UInt8) : Int := if m = 0 ∨ m = 1 ∨ m = 2 then sqQ l else 2

set_option maxRecDepth 100000 in
set_option maxHeartbeats 2000000 in
theorem squeeze_other (s : ByteArray) (m : Int) (h0 : ¬ m = 0) (h1 : ¬ m = 1) (h2 : ¬ m = 2) (w : World) :
    Calls Tryd.prog 27 #[.string s, .int .i64 m] w fun e w' => e = .returned (.tuple #[.string ⟨#[]⟩, .int .i64 2]) ∧ Below w.heap.size w w' := by
  have q0 : (m != 0) = true := by simp [h0]
  have q1 : (m != 1) = true := by simp [h1]
  have q2 : (m != 2) = true := by simp [h2]
  go_enter Tryd.func27, Tryd.ntmps27
  go_wp2
  go_ret2
  exact ⟨rfl, Below.refl _ _⟩
set_option maxRecDepth 100000 in
set_option maxHeartbeats 2000000 in
theorem squeeze_zero (s : ByteArray) (w : World) (hs : s.size ≤ 100000) (hT : Tabs w) :
    Calls Tryd.prog 27 #[.string s, .int .i64 0] w fun e w' => e = .returned (.tuple #[.string (if decBad s.data.toList then ⟨#[]⟩ else s), .int .i64 (sqQ s.data.toList)]) ∧ Below w.heap.size w w' := by
  have cF := firstWrong_any s w (by unfold maxLen; omega) hT
  rw [badB_eq] at cF
  unfold sqQ
  generalize badI s.data.toList = bi at cF
  cases hb : decBad s.data.toList with
  | true =>
    rw [hb] at cF
    rw [if_pos rfl, if_pos rfl]
    clear hb
    go_enter Tryd.func27, Tryd.ntmps27
    go_wp2_with (go_at_call 40; refine cF.mono ?_; rintro e w1 ⟨rfl, hb1⟩)
    go_ret2
    exact ⟨rfl, hb1⟩
  | false =>
    rw [hb] at cF
    rw [if_neg (by decide), if_neg (by decide)]
    clear hb
    go_enter Tryd.func27, Tryd.ntmps27
    go_wp2_with (go_at_call 40; refine cF.mono ?_; rintro e w1 ⟨rfl, hb1⟩)
    go_ret2
    exact ⟨rfl, hb1⟩
theorem squeeze_any (s : ByteArray) (m : Int) (w : World) (hs : s.size ≤ 50000) (hT : Tabs w) :
    Calls Tryd.prog 27 #[.string s, .int .i64 m] w fun e w' => e = .returned (.tuple #[.string ⟨(sqT m s.data.toList).toArray⟩, .int .i64 (sqE m s.data.toList)]) ∧ Below w.heap.size w w' := by
  by_cases h1 : m = 1
  · subst h1
    exact squeeze1_any s w (by omega) hT
  by_cases h2 : m = 2
  · subst h2
    exact squeeze2_any s w hs hT
  by_cases h0 : m = 0
  · subst h0
    have h := squeeze_zero s w (by omega) hT
    have e1 : sqE 0 s.data.toList = sqQ s.data.toList := rfl
    have e2 : (if decBad s.data.toList then ⟨#[]⟩ else s) = ByteArray.mk (sqT 0 s.data.toList).toArray := by
      apply bytes_ext
      cases hb : decBad s.data.toList <;> simp [sqT, hb]
    rw [e1, ← e2]
    exact h
  · have h := squeeze_other s m h0 h1 h2 w
    have e1 : sqE m s.data.toList = 2 := by unfold sqE; rw [if_neg (by omega)]
    have e2 : sqT m s.data.toList = [] := by unfold sqT; rw [if_neg h1, if_neg h2, if_neg (fun e => h0 e.1)]
    rw [e1, e2]
    exact h

/-! ### the reference's -/
set_option maxRecDepth 100000 in
set_option maxHeartbeats 2000000 in
theorem rsqueeze_other (s : ByteArray) (m : Int) (h : m < 0 ∨ 2 < m) (w : World) :
    Calls Tryd.prog 28 #[.string s, .int .i64 m] w fun e w' => e = .returned (.tuple #[.string ⟨#[]⟩, .int .i64 2]) ∧ Below w.heap.size w w' := by
  by_cases h1 : m < 0
  · clear h
    go_enter Tryd.func28, Tryd.ntmps28
    go_wp2
    go_ret2
    exact ⟨rfl, Below.refl _ _⟩
  · have h2 : 2 < m := by omega
    clear h
    go_enter Tryd.func28, Tryd.ntmps28
    go_wp2
    go_ret2
    exact ⟨rfl, Below.refl _ _⟩
set_option maxRecDepth 100000 in
set_option maxHeartbeats 2000000 in
theorem rsqueeze_bad (s : ByteArray) (m : Int) (h1 : ¬ m < 0) (h2 : ¬ 2 < m) (w : World) (hs : s.size ≤ 100000) (hb : decBad s.data.toList = true) :
    Calls Tryd.prog 28 #[.string s, .int .i64 m] w fun e w' => e = .returned (.tuple #[.string ⟨#[]⟩, .int .i64 6]) ∧ Below w.heap.size w w' := by
  have cT := rtext_any s hs w
  rw [hb] at cT
  clear hb
  go_enter Tryd.func28, Tryd.ntmps28
  go_wp2_with (go_at_call 38; refine cT.mono ?_; rintro e w1 ⟨rfl, b1⟩)
  go_ret2
  exact ⟨rfl, b1⟩
set_option maxRecDepth 100000 in
set_option maxHeartbeats 2000000 in
theorem rsqueeze_zero (s : ByteArray) (w : World) (hs : s.size ≤ 100000) (hb : decBad s.data.toList = false) :
    Calls Tryd.prog 28 #[.string s, .int .i64 0] w fun e w' => e = .returned (.tuple #[.string s, .int .i64 0]) ∧ Below w.heap.size w w' := by
  have cT := rtext_any s hs w
  rw [hb] at cT
  clear hb
  go_enter Tryd.func28, Tryd.ntmps28
  go_wp2_with (go_at_call 38; refine cT.mono ?_; rintro e w1 ⟨rfl, b1⟩)
  go_ret2
  exact ⟨rfl, b1⟩

theorem u8_i32 (b : UInt8) : IntKind.i32.wrap (b.toNat : Int) = b.toNat := by
  have := b.toNat_lt
  rw [IntKind.wrap_i32]
  omega

set_option maxRecDepth 100000 in
set_option maxHeartbeats 4000000 in
theorem rsqueeze_one (s : ByteArray) (w : World) (hs : s.size ≤ 100000) (hb : decBad s.data.toList = false) :
    Calls Tryd.prog 28 #[.string s, .int .i64 1] w fun e w' => e = .returned (.tuple #[.string ⟨(s.data.toList.map spB).toArray⟩, .int .i64 0]) ∧ Below w.heap.size w w' := by
  have cT := rtext_any s hs w
  rw [hb] at cT
  clear hb
  obtain ⟨L, hL⟩ : ∃ L, s.data.toList = L := ⟨_, rfl⟩
  have hLs : L.length = s.size := by rw [← hL]; simp
  rw [hL]
  have HL := Lib.hid hL
  have HLs := Lib.hid hLs
  clear hL hLs
  obtain ⟨R, hR⟩ : ∃ R, ByteArray.mk (L.map spB).toArray = R := ⟨_, rfl⟩
  rw [hR]
  have HR := Lib.hid hR
  clear hR
  obtain ⟨i5, hi, hz0, hz1, hz2⟩ := info_parts info5
  have Hi := Lib.hid hi
  have Hz0 := Lib.hid hz0
  have Hz1 := Lib.hid hz1
  have Hz2 := Lib.hid hz2
  clear hi hz0 hz1 hz2
  go_enter Tryd.func28, Tryd.ntmps28
  go_wp2_with (first | (go_at_call 38; refine cT.mono ?_; rintro e w1 ⟨rfl, b1⟩) | fail)
  go_loopg [6, 7] (s.size + 1) (fun gk v6 v7 wr => ∃ k : Nat, v7 = .int .i64 (k : Int) ∧ k ≤ s.size ∧ gk + k = s.size + 1 ∧ Hid (wr.ownsRow w.heap.size 5 1 v6 k (Lib.byteCells ((L.take k).map spB))) ∧ Below w.heap.size w wr)
  case atStart => exact ⟨0, rfl, Nat.zero_le _, rfl, World.ownsRow_nil _ _ _ _, b1⟩
  case round =>
    clear b1
    obtain ⟨k, rfl, hk, hgk, HH, hB⟩ := hrel
    by_cases hlt : k < s.size
    · have hkL : k < L.length := by rw [HLs.out]; exact hlt
      have hget : s[k] = L[k]'hkL := by
        have h := HL.out
        subst h
        rfl
      have hw32 := u8_i32 s[k]
      have cB := fun W => rblank_any (s[k].toNat : Int) W
      have htk : (L.take (k + 1)).map spB = (L.take k).map spB ++ [spB s[k]] := by
        rw [List.take_add_one, List.getElem?_eq_getElem hkL, hget, List.map_append]
        rfl
      have hsp : spB s[k] = if rblkB (s[k].toNat : Int) then 32 else s[k] := rfl
      have h63 : k + 1 ≤ maxLen := by unfold maxLen; omega
      have h47 : (k + 1) * 1 ≤ 140737488355328 := by omega
      have hn256 : s[k].toNat < 256 := s[k].toNat_lt
      have Hown := Lib.hid HH.out
      cases hbl : rblkB (s[k].toNat : Int) with
      | true =>
        rw [hbl] at cB hsp
        have HN := Lib.hid (And.intro htk hsp)
        clear htk hsp hget hkL hbl HH
        go_wp2_with (first
          | (go_at_call 11; refine (cB _).mono ?_; rintro e w2 ⟨rfl, rfl⟩)
          | (at_builtin; refine wpList_append_own _ rfl _ _ 47 rfl w.heap.size 5 i5 (.int .u8 0) 1 1 Tryd.underlying47 Hi.out Hz0.out Hz1.out Hz2.out rfl (by decide) _ k (Lib.byteCells ((L.take k).map spB)) rfl (Hown.out.alloc _) ⟨_, 0, none⟩ 1 1 [.int .u8 32] rfl rfl (cell_one_new _ _ _) (by simp [Value.oneCell']) h63 h47 (by have h1 := hB.size; simp; omega) ?_; intro v' w3 hown3 hg3 _))
        have hb3 : Below w.heap.size w w3 := (hB.alloc hB.size _).grown hg3 (Nat.le_trans hB.size (by simp)) (fun j e => (Hown.out.lt j e).1)
        have HI : Hid (w3.ownsRow w.heap.size 5 1 v' (k + 1) (Lib.byteCells ((L.take (k + 1)).map spB))) := by
          show w3.ownsRow _ _ _ _ _ _
          rw [HN.out.1, HN.out.2, Lib.byteCells_append]
          exact hown3
        go_roundg (gk - 1)
        case measure => omega
        case rel => exact ⟨k + 1, by go_num, by omega, by omega, HI, hb3⟩
      | false =>
        rw [hbl] at cB hsp
        have HN := Lib.hid (And.intro htk hsp)
        clear htk hsp hget hkL hbl HH
        go_wp2_with (first
          | (go_at_call 11; refine (cB _).mono ?_; rintro e w2 ⟨rfl, rfl⟩)
          | (at_builtin; refine wpList_append_own _ rfl _ _ 47 rfl w.heap.size 5 i5 (.int .u8 0) 1 1 Tryd.underlying47 Hi.out Hz0.out Hz1.out Hz2.out rfl (by decide) _ k (Lib.byteCells ((L.take k).map spB)) rfl (Hown.out.alloc _) ⟨_, 0, none⟩ 1 1 [.int .u8 (s[k].toNat : Int)] rfl rfl (cell_one_new _ _ _) (by simp [Value.oneCell']) h63 h47 (by have h1 := hB.size; simp; omega) ?_; intro v' w3 hown3 hg3 _))
        have hb3 : Below w.heap.size w w3 := (hB.alloc hB.size _).grown hg3 (Nat.le_trans hB.size (by simp)) (fun j e => (Hown.out.lt j e).1)
        have HI : Hid (w3.ownsRow w.heap.size 5 1 v' (k + 1) (Lib.byteCells ((L.take (k + 1)).map spB))) := by
          show w3.ownsRow _ _ _ _ _ _
          rw [HN.out.1, HN.out.2, Lib.byteCells_append]
          exact hown3
        go_roundg (gk - 1)
        case measure => omega
        case rel => exact ⟨k + 1, by go_num, by omega, by omega, HI, hb3⟩
    · obtain rfl : k = s.size := by omega
      have hown := HH.out
      have htl : L.take s.size = L := by rw [← HLs.out, List.take_length]
      rw [htl] at hown
      have hconv := conv_own hown
      rw [HR.out] at hconv
      clear hown htl HH hlt
      go_wp2
      go_ret2
      exact ⟨rfl, hB⟩
end Go.Proofs.YtiefpdoefdldpaaDoor
