/- The reference's Squeeze at mode 2. -/
import Derived.Test.YtiefpdoefdldpaaDoorY10
namespace Go.Proofs.YtiefpdoefdldpaaDoor
open Go.RowKit

theorem byteCells_at {l : List UInt8} {j : Nat} {b : UInt8} (h : l[j]? = some b) : (Lib.byteCells l)[j]? = some (.int .u8 (b.toNat : Int)) := by
  simp [Lib.byteCells, h]
theorem last_at {l : List UInt8} {j : Nat} (h : l.length = j + 1) : ∃ b, l.getLast? = some b ∧ l[j]? = some b := by
  refine ⟨l[j]'(by omega), ?_, List.getElem?_eq_getElem (by omega)⟩
  rw [List.getLast?_eq_getElem?, show l.length - 1 = j by omega]
  exact List.getElem?_eq_getElem (by omega)
set_option maxRecDepth 100000 in
set_option maxHeartbeats 8000000 in
theorem rsqueeze_two (s : ByteArray) (w : World) (hs : s.size ≤ 100000) (hb : decBad s.data.toList = false) :
    Calls Tryd.prog 28 #[.string s, .int .i64 2] w fun e w' => e = .returned (.tuple #[.string ⟨(sqEnd (s.data.toList.foldl sqStep [])).toArray⟩, .int .i64 0]) ∧ Below w.heap.size w w' := by
  have cT := rtext_any s hs w
  rw [hb] at cT
  clear hb
  obtain ⟨L, hL⟩ : ∃ L, s.data.toList = L := ⟨_, rfl⟩
  have hLs : L.length = s.size := by rw [← hL]; simp
  rw [hL]
  have HL := Lib.hid hL
  have HLs := Lib.hid hLs
  clear hL hLs
  obtain ⟨R, hR⟩ : ∃ R, ByteArray.mk (sqEnd (L.foldl sqStep [])).toArray = R := ⟨_, rfl⟩
  rw [hR]
  have HR := Lib.hid hR
  clear hR
  obtain ⟨i5, hi, hz0, hz1, hz2⟩ := info_parts info5
  have Hi := Lib.hid hi
  have Hz0 := Lib.hid hz0
  have Hz1 := Lib.hid hz1
  have Hz2 := Lib.hid hz2
  clear hi hz0 hz1 hz2
  go_enter Tryd.func28, Tryd.ntmps28
  go_wp2_with (first | (go_at_call 38; refine cT.mono ?_; rintro e w1 ⟨rfl, b1⟩) | fail)
  go_loopg [6, 7] (s.size + 1) (fun gk v6 v7 wr => ∃ (k n : Nat) (O : List UInt8) (v : Value), v = v6 ∧ v7 = .int .i64 (k : Int) ∧ k ≤ s.size ∧ gk + k = s.size + 1 ∧ n ≤ k ∧ Hid (O = (L.take k).foldl sqStep [] ∧ O.length = n ∧ wr.ownsRow w.heap.size 5 1 v n (Lib.byteCells O)) ∧ Below w.heap.size w wr)
  case atStart => exact ⟨0, 0, [], _, rfl, rfl, Nat.zero_le _, rfl, Nat.le_refl _, ⟨rfl, rfl, World.ownsRow_nil _ _ _ _⟩, b1⟩
  case round =>
    clear b1
    obtain ⟨k, n, O, v, rfl, rfl, hk, hgk, hnk, HH, hB⟩ := hrel
    by_cases hlt : k < s.size
    · have hkL : k < L.length := by rw [HLs.out]; exact hlt
      have hget : s[k] = L[k]'hkL := by
        have h := HL.out
        subst h
        rfl
      have hw32 := u8_i32 s[k]
      have cB := fun W => rblank_any (s[k].toNat : Int) W
      have htk : (L.take (k + 1)).foldl sqStep [] = sqStep O s[k] := by
        rw [List.take_add_one, List.getElem?_eq_getElem hkL, hget, List.foldl_append, ← HH.out.1]
        rfl
      have hsp : spB s[k] = if rblkB (s[k].toNat : Int) then 32 else s[k] := rfl
      have h63 : n + 1 ≤ maxLen := by unfold maxLen; omega
      have h47 : (n + 1) * 1 ≤ 140737488355328 := by omega
      have hn256 : s[k].toNat < 256 := s[k].toNat_lt
      have Hown := Lib.hid HH.out.2.2
      have HOn := Lib.hid HH.out.2.1
      cases hbl : rblkB (s[k].toNat : Int) with
      | true =>
        rw [hbl, if_pos rfl] at hsp
        rw [hbl] at cB
        cases n with
        | zero =>
          have hO : O = [] := List.eq_nil_of_length_eq_zero HOn.out
          have hst : sqStep O s[k] = O := by unfold sqStep; rw [if_pos ⟨hsp, .inl hO⟩]
          have hlen0 : ∃ a c, v = .slice a 0 c := by
            rcases Hown.out.2 with ⟨e1, e2⟩ | ⟨g, cap, cur, e1, _⟩
            · exact ⟨none, 0, e1⟩
            · exact ⟨some ⟨g, 0, none⟩, cap, e1⟩
          obtain ⟨a, c, rfl⟩ := hlen0
          have HI : Hid (O = (L.take (k + 1)).foldl sqStep [] ∧ O.length = 0) := ⟨by rw [htk, hst], HOn.out⟩
          clear htk hsp hget hkL hbl HH hO hst
          go_wp2_with (go_at_call 11; refine (cB _).mono ?_; rintro e w2 ⟨rfl, rfl⟩)
          go_roundg (gk - 1)
          case measure => omega
          case rel => exact ⟨k + 1, 0, O, _, rfl, by go_num, by omega, by omega, by omega, ⟨HI.out.1, HI.out.2, Hown.out⟩, hB⟩
        | succ j =>
          obtain ⟨b, hb1, hb2⟩ := last_at HOn.out
          have hform : ∃ g cap, v = .slice (some ⟨g, 0, none⟩) (j + 1) cap := by
            rcases Hown.out.2 with ⟨_, e2⟩ | ⟨g, cap, cur, e1, _⟩
            · cases e2
            · exact ⟨g, cap, e1⟩
          obtain ⟨g, cap, rfl⟩ := hform
          have hcell : wr.cell? ⟨g, j, none⟩ = some (.int .u8 (b.toNat : Int)) := by
            have h := Hown.out.cells rfl j _ (byteCells_at hb2)
            have ha : (⟨g, 0, none⟩ : Addr).add j = ⟨g, j, none⟩ := by unfold Addr.add; split <;> simp_all
            rw [ha] at h
            exact h
          have hj1 : ((j + 1 : Nat) : Int) - 1 = (j : Int) := by omega
          by_cases hb32 : b = 32
          · have hst : sqStep O s[k] = O := by unfold sqStep; rw [if_pos ⟨hsp, .inr (by rw [hb1, hb32])⟩]
            have HI : Hid (O = (L.take (k + 1)).foldl sqStep [] ∧ O.length = j + 1) := ⟨by rw [htk, hst], HOn.out⟩
            have hbn : (b.toNat : Int) = 32 := by rw [hb32]; rfl
            rw [hbn] at hcell
            clear htk hsp hget hkL hbl HH hst hb1 hb2 hb32 hbn
            go_wp2_with (go_at_call 11; refine (cB _).mono ?_; rintro e w2 ⟨rfl, rfl⟩)
            go_roundg (gk - 1)
            case measure => omega
            case rel => exact ⟨k + 1, j + 1, O, _, rfl, by go_num, by omega, by omega, by omega, ⟨HI.out.1, HI.out.2, Hown.out⟩, hB⟩
          · have hst : sqStep O s[k] = O ++ [32] := by
              unfold sqStep
              rw [hsp, if_neg]
              rintro ⟨_, h | h⟩
              · rw [h] at hb1; cases hb1
              · rw [hb1] at h; exact hb32 (Option.some.inj h)
            have HI : Hid (O ++ [32] = (L.take (k + 1)).foldl sqStep [] ∧ O.length = j + 1) := ⟨by rw [htk, hst], HOn.out⟩
            have hbn : ¬ ((b.toNat : Int) = 32) := fun e => by
              apply hb32
              apply UInt8.toNat_inj.1
              have h2 : b.toNat = 32 := by omega
              rw [h2]
              rfl
            have hbn2 : ((b.toNat : Int) == 32) = false := beq_eq_false_iff_ne.2 hbn
            have hj0 : ((j : Int) + 1 == 0) = false := beq_eq_false_iff_ne.2 (by omega)
            clear htk hsp hget hkL hbl HH hst hb1 hb2 hb32
            go_wp2_with (first
              | (go_at_call 11; refine (cB _).mono ?_; rintro e w2 ⟨rfl, rfl⟩)
              | (at_builtin; refine wpList_append_own _ rfl _ _ 47 rfl w.heap.size 5 i5 (.int .u8 0) 1 1 Tryd.underlying47 Hi.out Hz0.out Hz1.out Hz2.out rfl (by decide) _ (j + 1) (Lib.byteCells O) rfl (Hown.out.alloc _) ⟨_, 0, none⟩ 1 1 [.int .u8 32] rfl rfl (cell_one_new _ _ _) (by simp [Value.oneCell']) h63 h47 (by have h1 := hB.size; simp; omega) ?_; intro v' w3 hown3 hg3 _))
            have hb3 : Below w.heap.size w w3 := (hB.alloc hB.size _).grown hg3 (Nat.le_trans hB.size (by simp)) (fun j e => (Hown.out.lt j e).1)
            have HI2 : Hid (O ++ [32] = (L.take (k + 1)).foldl sqStep [] ∧ (O ++ [32]).length = (j + 1) + 1 ∧ w3.ownsRow w.heap.size 5 1 v' ((j + 1) + 1) (Lib.byteCells (O ++ [32]))) := by
              refine ⟨HI.out.1, by rw [List.length_append, HI.out.2]; rfl, ?_⟩
              rw [Lib.byteCells_append]
              exact hown3
            go_roundg (gk - 1)
            case measure => omega
            case rel => exact ⟨k + 1, (j + 1) + 1, O ++ [32], _, rfl, by go_num, by omega, by omega, by omega, HI2, hb3⟩
      | false =>
        rw [hbl, if_neg (by decide)] at hsp
        rw [hbl] at cB
        have hne : ¬ ((s[k].toNat : Int) = 32) := fun e => by rw [e] at hbl; exact absurd hbl (by decide)
        have hst : sqStep O s[k] = O ++ [s[k]] := by
          unfold sqStep
          rw [hsp, if_neg]
          rintro ⟨h, _⟩
          apply hne
          rw [h]
          rfl
        have HI : Hid (O ++ [s[k]] = (L.take (k + 1)).foldl sqStep [] ∧ O.length = n) := ⟨by rw [htk, hst], HOn.out⟩
        clear htk hsp hget hkL hbl HH hst
        go_wp2_with (first
          | (go_at_call 11; refine (cB _).mono ?_; rintro e w2 ⟨rfl, rfl⟩)
          | (at_builtin; refine wpList_append_own _ rfl _ _ 47 rfl w.heap.size 5 i5 (.int .u8 0) 1 1 Tryd.underlying47 Hi.out Hz0.out Hz1.out Hz2.out rfl (by decide) _ n (Lib.byteCells O) rfl (Hown.out.alloc _) ⟨_, 0, none⟩ 1 1 [.int .u8 (s[k].toNat : Int)] rfl rfl (cell_one_new _ _ _) (by simp [Value.oneCell']) h63 h47 (by have h1 := hB.size; simp; omega) ?_; intro v' w3 hown3 hg3 _))
        have hb3 : Below w.heap.size w w3 := (hB.alloc hB.size _).grown hg3 (Nat.le_trans hB.size (by simp)) (fun j e => (Hown.out.lt j e).1)
        have HI2 : Hid (O ++ [s[k]] = (L.take (k + 1)).foldl sqStep [] ∧ (O ++ [s[k]]).length = n + 1 ∧ w3.ownsRow w.heap.size 5 1 v' (n + 1) (Lib.byteCells (O ++ [s[k]]))) := by
          refine ⟨HI.out.1, by rw [List.length_append, HI.out.2]; rfl, ?_⟩
          rw [Lib.byteCells_append]
          exact hown3
        go_roundg (gk - 1)
        case measure => omega
        case rel => exact ⟨k + 1, n + 1, O ++ [s[k]], _, rfl, by go_num, by omega, by omega, by omega, HI2, hb3⟩
    · obtain rfl : k = s.size := by omega
      have htl : L.take s.size = L := by rw [← HLs.out, List.take_length]
      have hO := HH.out.1
      rw [htl] at hO
      have Hown := Lib.hid HH.out.2.2
      have HOn := Lib.hid HH.out.2.1
      have HR2 : Hid (ByteArray.mk (sqEnd O).toArray = R) := by
        show _ = _
        rw [hO]
        exact HR.out
      clear hO htl HH hlt
      cases n with
      | zero =>
        have hO : O = [] := List.eq_nil_of_length_eq_zero HOn.out
        have hconv := conv_own Hown.out
        have hE : sqEnd O = O := by rw [hO]; rfl
        rw [← hE, HR2.out] at hconv
        have hlen0 : ∃ a c, v = .slice a 0 c := by
          rcases Hown.out.2 with ⟨e1, e2⟩ | ⟨g, cap, cur, e1, _⟩
          · exact ⟨none, 0, e1⟩
          · exact ⟨some ⟨g, 0, none⟩, cap, e1⟩
        obtain ⟨a, c, rfl⟩ := hlen0
        clear hO hE
        go_wp2
        go_ret2
        exact ⟨rfl, hB⟩
      | succ j =>
        obtain ⟨b, hb1, hb2⟩ := last_at HOn.out
        have hform : ∃ g cap, v = .slice (some ⟨g, 0, none⟩) (j + 1) cap ∧ j + 1 ≤ cap := by
          rcases Hown.out.2 with ⟨_, e2⟩ | ⟨g, cap, cur, e1, _, _, hc, _⟩
          · cases e2
          · exact ⟨g, cap, e1, hc⟩
        obtain ⟨g, cap, rfl, hcap⟩ := hform
        have hcell : wr.cell? ⟨g, j, none⟩ = some (.int .u8 (b.toNat : Int)) := by
          have h := Hown.out.cells rfl j _ (byteCells_at hb2)
          have ha : (⟨g, 0, none⟩ : Addr).add j = ⟨g, j, none⟩ := by unfold Addr.add; split <;> simp_all
          rw [ha] at h
          exact h
        have hj1 : ((j + 1 : Nat) : Int) - 1 = (j : Int) := by omega
        by_cases hb32 : b = 32
        · have hE : sqEnd O = O.dropLast := by unfold sqEnd; rw [if_pos (by rw [hb1, hb32])]
          have hdl : O.dropLast.length = j := by rw [List.length_dropLast, HOn.out]; rfl
          have hconv : ∀ c : Nat, (convert 47 9 (.slice (some ⟨g, 0, none⟩) j c)).run Tryd.prog wr = .ok (.string R) wr := fun c => by
            have h := run_convert_bytes_back wr 47 9 5 ⟨g, 0, none⟩ c O.dropLast Tryd.underlying47 Tryd.underlying5 Tryd.underlying9 (fun i hi => by
              have hi2 : i < O.length := by rw [List.length_dropLast] at hi; omega
              have h1 := Hown.out.cells rfl i _ (byteCells_at (List.getElem?_eq_getElem hi2))
              rw [List.getElem_dropLast]
              exact h1)
            rw [hdl, ← hE, HR2.out] at h
            exact h
          have hbn : (b.toNat : Int) = 32 := by rw [hb32]; rfl
          rw [hbn] at hcell
          clear hE hdl hb1 hb2 hb32 hbn
          go_wp2
          go_ret2
          exact ⟨rfl, hB⟩
        · have hE : sqEnd O = O := by
            unfold sqEnd
            rw [if_neg]
            rw [hb1]
            exact fun h => hb32 (Option.some.inj h)
          have hconv := conv_own Hown.out
          rw [← hE, HR2.out] at hconv
          have hbn : ¬ ((b.toNat : Int) = 32) := fun e => by
            apply hb32
            apply UInt8.toNat_inj.1
            have h2 : b.toNat = 32 := by omega
            rw [h2]
            rfl
          clear hE hb1 hb2 hb32
          go_wp2
          go_ret2
          exact ⟨rfl, hB⟩

theorem rsqueeze_any (s : ByteArray) (m : Int) (w : World) (hs : s.size ≤ 50000) :
    Calls Tryd.prog 28 #[.string s, .int .i64 m] w fun e w' => e = .returned (.tuple #[.string ⟨(sqT m s.data.toList).toArray⟩, .int .i64 (sqE m s.data.toList)]) ∧ Below w.heap.size w w' := by
  by_cases ho : m < 0 ∨ 2 < m
  · have h := rsqueeze_other s m ho w
    have e1 : sqE m s.data.toList = 2 := by unfold sqE; rw [if_neg (by omega)]
    have e2 : sqT m s.data.toList = [] := by unfold sqT; rw [if_neg (by omega), if_neg (by omega), if_neg (fun e => by omega)]
    rw [e1, e2]
    exact h
  cases hb : decBad s.data.toList with
  | true =>
    have h := rsqueeze_bad s m (by omega) (by omega) w (by omega) hb
    have e1 : sqE m s.data.toList = 6 := by unfold sqE sqQ; rw [if_pos (by omega), hb]; rfl
    have e2 : sqT m s.data.toList = [] := by
      unfold sqT sq1 sq2
      rw [hb]
      simp
    rw [e1, e2]
    exact h
  | false =>
    have e1 : sqE m s.data.toList = 0 := by unfold sqE sqQ; rw [if_pos (by omega), hb]; rfl
    rw [e1]
    have hcase : m = 0 ∨ m = 1 ∨ m = 2 := by omega
    rcases hcase with rfl | rfl | rfl
    · have e2 : ByteArray.mk (sqT 0 s.data.toList).toArray = s := by
        apply bytes_ext
        simp [sqT, hb]
      rw [e2]
      exact rsqueeze_zero s w (by omega) hb
    · have h := rsqueeze_one s w (by omega) hb
      rw [rsq1_eq hb] at h
      exact h
    · have h := rsqueeze_two s w (by omega) hb
      rw [rsq2_eq hb] at h
      exact h
end Go.Proofs.YtiefpdoefdldpaaDoor
