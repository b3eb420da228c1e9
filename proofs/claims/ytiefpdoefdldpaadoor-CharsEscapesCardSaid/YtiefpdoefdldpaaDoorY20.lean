/- The reference's Unescape, at every text. -/
import Derived.Test.YtiefpdoefdldpaaDoorY11
import Derived.Test.YtiefpdoefdldpaaDoorY19
namespace Go.Proofs.YtiefpdoefdldpaaDoor
open Go.RowKit

/-- What is still to come, behind what has been written. -/
def UGo (E : List UInt8 → Int) (S : Nat) (R : List UInt8 × Int × Int) (O l : List UInt8) : Prop :=
  ∃ f, l.length < f ∧ R = ug E S f O (Lib.cut l [38]).1 (Lib.cut l [38]).2.1 (Lib.cut l [38]).2.2

theorem UGo.nil {E : List UInt8 → Int} {S : Nat} {R : List UInt8 × Int × Int} {O : List UInt8} (h : UGo E S R O []) : R = (O, 0, 0) := by
  obtain ⟨f, hf, hR⟩ := h
  obtain ⟨g, rfl⟩ : ∃ g, f = g + 1 := ⟨f - 1, by simp at hf; omega⟩
  rw [hR, show Lib.cut ([] : List UInt8) [38] = ([], [], false) from rfl]
  simp only [ug, List.append_nil]
theorem UGo.byte {E : List UInt8 → Int} {S : Nat} {R : List UInt8 × Int × Int} {O l : List UInt8} {c : UInt8} (h : UGo E S R O (c :: l)) (hc : c ≠ 38) : UGo E S R (O ++ [c]) l := by
  obtain ⟨f, hf, hR⟩ := h
  refine ⟨f, by simp at hf; omega, ?_⟩
  rw [hR, cut_cons, if_neg hc]
  exact ug_acc E S f O [c] _ _ _
theorem UGo.bad {E : List UInt8 → Int} {S : Nat} {R : List UInt8 × Int × Int} {O l : List UInt8} (h : UGo E S R O (38 :: l)) (hb : 59 ∉ l) : R = ([], (S : Int) - l.length - 1, 6) := by
  obtain ⟨f, hf, hR⟩ := h
  obtain ⟨g, rfl⟩ : ∃ g, f = g + 1 := ⟨f - 1, by simp at hf; omega⟩
  have hc := cut_skip 59 l [] hb
  rw [List.append_nil, show Lib.cut ([] : List UInt8) [59] = ([], [], false) from rfl] at hc
  rw [hR, cut_cons, if_pos rfl]
  simp only [ug]
  rw [if_pos (.inl (by rw [hc]))]
theorem UGo.none {E : List UInt8 → Int} {S : Nat} {R : List UInt8 × Int × Int} {O wd l : List UInt8} (h : UGo E S R O (38 :: (wd ++ 59 :: l))) (hb : 59 ∉ wd) (hE : E wd = -1) : R = ([], (S : Int) - (wd ++ 59 :: l).length - 1, 6) := by
  obtain ⟨f, hf, hR⟩ := h
  obtain ⟨g, rfl⟩ : ∃ g, f = g + 1 := ⟨f - 1, by simp at hf; omega⟩
  have hc := cut_at 59 wd l hb
  rw [hR, cut_cons, if_pos rfl]
  simp only [ug]
  rw [if_pos (.inr (by rw [hc]; exact hE))]
theorem UGo.some {E : List UInt8 → Int} {S : Nat} {R : List UInt8 × Int × Int} {O wd l : List UInt8} (h : UGo E S R O (38 :: (wd ++ 59 :: l))) (hb : 59 ∉ wd) (hE : E wd ≠ -1) : UGo E S R (O ++ bytesL (E wd).toNat) l := by
  obtain ⟨f, hf, hR⟩ := h
  obtain ⟨g, rfl⟩ : ∃ g, f = g + 1 := ⟨f - 1, by simp at hf; omega⟩
  have hc := cut_at 59 wd l hb
  refine ⟨g, by simp at hf; omega, ?_⟩
  rw [hR, cut_cons, if_pos rfl]
  simp only [ug, hc]
  rw [if_neg (by rintro (h | h); cases h; exact hE h), List.append_nil]

theorem UPost.of {R r : List UInt8 × Int × Int} {w w' : World} {e : Ending} (hR : R = r) (he : e = .returned (.tuple #[.string ⟨r.1.toArray⟩, .int .i64 r.2.1, .int .i64 r.2.2])) (hb : Below w.heap.size w w') : UPost R w e w' := by
  subst hR
  exact ⟨he, hb⟩

set_option maxRecDepth 100000 in
set_option maxHeartbeats 16000000 in
theorem runescape_good (s : ByteArray) (w : World) (hs : s.size ≤ 100000) (R : List UInt8 × Int × Int) (hU : UGo fullE s.size R [] s.data.toList)
    (cD : Calls Tryd.prog 19 #[.string s] w fun e w' => ∃ v, e = .returned (.tuple #[v, .int .i64 0, .int .i64 0]) ∧ Below w.heap.size w w') :
    Calls Tryd.prog 26 #[.string s] w (UPost R w) := by
  obtain ⟨L, hL⟩ : ∃ L, s.data.toList = L := ⟨_, rfl⟩
  have hLs : L.length = s.size := by rw [← hL]; simp
  rw [hL] at hU
  have HL := Lib.hid (And.intro hL hLs)
  have HU := Lib.hid hU
  clear hL hLs hU
  obtain ⟨i5, hi, hz0, hz1, hz2⟩ := info_parts info5
  have Hi := Lib.hid hi
  have Hz0 := Lib.hid hz0
  have Hz1 := Lib.hid hz1
  have Hz2 := Lib.hid hz2
  clear hi hz0 hz1 hz2
  go_enter Tryd.func26, Tryd.ntmps26
  go_wp2_with (first | (go_at_call 19; refine cD.mono ?_; rintro e w1 ⟨v1, rfl, b1⟩) | fail)
  clear cD
  go_loopg [8, 9] (s.size + 1) (fun gk v8 v9 wr => ∃ (k n : Nat) (O : List UInt8) (v : Value), v = v8 ∧ v9 = .int .i64 (k : Int) ∧ k ≤ s.size ∧ gk + k = s.size + 1 ∧ n ≤ 4 * k ∧ Hid (UGo fullE s.size R O (L.drop k) ∧ O.length = n ∧ wr.ownsRow w.heap.size 5 1 v n (Lib.byteCells O)) ∧ Below w.heap.size w wr)
  case atStart => exact ⟨0, 0, [], _, rfl, rfl, Nat.zero_le _, rfl, Nat.zero_le _, ⟨HU.out, rfl, World.ownsRow_nil _ _ _ _⟩, b1⟩
  case round =>
    clear b1
    obtain ⟨k, n, O, v, rfl, rfl, hk, hgk, hnk, HH, hB⟩ := hrel
    by_cases hlt : k < s.size
    · have hkL : k < L.length := by rw [HL.out.2]; exact hlt
      have hget : s[k] = L[k]'hkL := by
        have h := HL.out.1
        subst h
        rfl
      have hdrop : L.drop k = s[k] :: L.drop (k + 1) := by rw [hget]; exact List.drop_eq_getElem_cons hkL
      have h63 : n + 4 ≤ maxLen := by unfold maxLen; omega
      have h47 : n + 4 ≤ 140737488355328 := by omega
      have Hown := Lib.hid HH.out.2.2
      have HOn := Lib.hid HH.out.2.1
      have hUk := HH.out.1
      rw [hdrop] at hUk
      by_cases h38 : (s[k].toNat : Int) = 38
      · have hb : s[k] = 38 := byte_eq _ _ h38
        rw [hb] at hUk
        have HUk := Lib.hid hUk
        clear hUk hb hdrop hget hkL HH HU
        go_wp2_with fail
        go_loopg [10] (s.size - k) (fun g2 v10 wr2 => ∃ j : Nat, v10 = .int .i64 (j : Int) ∧ k + 1 ≤ j ∧ j ≤ s.size ∧ g2 + j = s.size + 1 ∧ Hid (59 ∉ (L.drop (k + 1)).take (j - (k + 1))) ∧ wr2 = wr)
        case atStart => exact ⟨k + 1, by go_num, by omega, by omega, by omega, Lib.hid (by simp), rfl⟩
        case round =>
          obtain ⟨j, rfl, hj0, hj1, hg2, HJ, rfl⟩ := hrel
          have hdl : (L.drop (k + 1)).length = s.size - (k + 1) := by rw [List.length_drop, HL.out.2]
          by_cases hjs : j < s.size
          · have hjL : j < L.length := by rw [HL.out.2]; exact hjs
            have hjget : s[j] = L[j]'hjL := by
              have h := HL.out.1
              subst h
              rfl
            have hsplit : L.drop (k + 1) = (L.drop (k + 1)).take (j - (k + 1)) ++ s[j] :: L.drop (j + 1) := by
              have h1 : L.drop j = s[j] :: L.drop (j + 1) := by rw [hjget]; exact List.drop_eq_getElem_cons hjL
              have h2 : (L.drop (k + 1)).drop (j - (k + 1)) = L.drop j := by rw [List.drop_drop]; congr 1; omega
              rw [← h1, ← h2, List.take_append_drop]
            by_cases h59 : (s[j].toNat : Int) = 59
            · have hb59 : s[j] = 59 := byte_eq _ _ h59
              rw [hb59] at hsplit
              have hex : (s.extract (k + 1) j).data.toList = (L.drop (k + 1)).take (j - (k + 1)) := by
                rw [Lib.extract_data, HL.out.1]
              have hexs : (s.extract (k + 1) j).size ≤ 100000 := by
                have : (s.extract (k + 1) j).size = (s.extract (k + 1) j).data.toList.length := Lib.size_eq _
                rw [this, hex, List.length_take, hdl]
                omega
              have cE := fun W => rescaped_any (s.extract (k + 1) j) hexs W
              rw [hex] at cE
              have hEv := fullE_some ((L.drop (k + 1)).take (j - (k + 1)))
              have hUk := HUk.out
              rw [hsplit] at hUk
              have hno := HJ.out
              generalize (L.drop (k + 1)).take (j - (k + 1)) = wd at cE hEv hUk hno hsplit
              have hlen : wd.length + 1 + (L.drop (j + 1)).length = s.size - (k + 1) := by
                rw [← hdl, hsplit, List.length_append, List.length_cons]
                omega
              have hjn : ((j : Int) == (s.size : Int)) = false := beq_eq_false_iff_ne.2 (by omega)
              have hjn2 : ¬ ((j : Int) = (s.size : Int)) := by omega
              have hkj : k + 1 ≤ j := hj0
              by_cases hE : fullE wd = -1
              · have hR := hUk.none hno hE
                have HR := Lib.hid (And.intro hR (And.intro hE hlen))
                unfold RePost at cE
                rw [hE] at cE
                clear hR hE hEv hUk hno hex hexs hb59 hsplit hjget hjL hdl HJ HUk hlen
                go_wp2_with (first | (go_at_call 44; refine (cE _).mono ?_; rintro e w3 ⟨rfl, b3⟩) | fail)
                go_ret3
                refine UPost.of HR.out.1 ?_ (hB.trans (b3.mono hB.size))
                rw [List.length_append, List.length_cons]
                rw [show (s.size : Int) - ((wd.length + ((L.drop (j + 1)).length + 1) : Nat) : Int) - 1 = (k : Int) by have := HR.out.2.2; omega]
                rfl
              · obtain ⟨c, hc, hV, hcm⟩ := hEv.resolve_left hE
                have hU2 := hUk.some hno hE
                rw [hc, Int.toNat_natCast] at hU2
                have HR := Lib.hid (And.intro hU2 hlen)
                unfold RePost at cE
                rw [if_neg hE, bne_iff_ne.2 hE, hc] at cE
                have cBy := fun W => bytes_any c hcm W
                have hb4 := bytesL_len4 c
                obtain ⟨B, hBn⟩ : ∃ B, ByteArray.mk (bytesL c).toArray = B := ⟨_, rfl⟩
                have hBs : B.size = (bytesL c).length := by rw [← hBn]; exact List.size_toArray
                have hBc : Lib.strCells B = Lib.byteCells (bytesL c) := by rw [Lib.strCells_eq, ← hBn]
                rw [hBn] at cBy
                have h63 : n + B.size ≤ maxLen := by unfold maxLen; omega
                have h47 : n + B.size ≤ 140737488355328 := by omega
                have HN := Lib.hid (And.intro hBs (And.intro hBc hb4))
                clear hU2 hE hc hEv hUk hno hex hexs hb59 hsplit hjget hjL hdl HJ HUk hlen hBn hBs hBc hb4 hV hcm
                go_wp2_with (first
                  | (go_at_call 44; refine (cE _).mono ?_; rintro e w3 ⟨rfl, b3⟩)
                  | (go_at_call 33; refine (cBy _).mono ?_; rintro e w4 ⟨rfl, b4⟩)
                  | (at_builtin; refine Lib.wpList_append_own_string _ rfl _ _ 47 9 rfl w.heap.size 5 i5 Tryd.underlying47 Tryd.underlying9 Hi.out Hz0.out Hz1.out Hz2.out _ n (Lib.byteCells O) rfl (own_below (own_below Hown.out b3) b4) B rfl h63 h47 (Nat.le_trans hB.size (Nat.le_trans b3.size b4.size)) ?_; intro v' w5 hown5 hg5 _))
                have hb35 : Below w.heap.size w w4 := (hB.trans (b3.mono hB.size)).trans (b4.mono (Nat.le_trans hB.size b3.size))
                have hb5 : Below w.heap.size w w5 := hb35.grown hg5 hb35.size (fun j e => (Hown.out.lt j e).1)
                have HI2 : Hid (UGo fullE s.size R (O ++ bytesL c) (L.drop (j + 1)) ∧ (O ++ bytesL c).length = n + B.size ∧ w5.ownsRow w.heap.size 5 1 v' (n + B.size) (Lib.byteCells (O ++ bytesL c))) := by
                  refine ⟨HR.out.1, by rw [List.length_append, HOn.out, HN.out.1], ?_⟩
                  rw [Lib.byteCells_append, ← HN.out.2.1]
                  exact hown5
                have hB4 : B.size ≤ 4 := by rw [HN.out.1]; exact HN.out.2.2
                go_roundg (s.size - j)
                case measure => omega
                case rel => exact ⟨j + 1, n + B.size, O ++ bytesL c, _, rfl, by go_num, by omega, by omega, by omega, HI2, hb5⟩
            · have hdj : L.drop (k + 1) = L.drop (k + 1) := rfl
              have hno : Hid (59 ∉ (L.drop (k + 1)).take (j + 1 - (k + 1))) := by
                show ¬ _
                intro hm
                rw [show j + 1 - (k + 1) = (j - (k + 1)) + 1 by omega, List.take_add_one, List.mem_append] at hm
                rcases hm with hm | hm
                · exact HJ.out hm
                · rw [List.getElem?_drop, show k + 1 + (j - (k + 1)) = j by omega, List.getElem?_eq_getElem hjL] at hm
                  simp only [Option.toList_some, List.mem_singleton] at hm
                  rw [← hjget] at hm
                  exact h59 (by rw [← hm]; rfl)
              clear hsplit hjget hjL hdl HJ HUk hdj
              go_wp2_with fail
              go_roundg (s.size - j)
              case measure => omega
              case rel => exact ⟨j + 1, by go_num, by omega, by omega, by omega, hno, rfl⟩
          · obtain rfl : j = s.size := by omega
            have hno := HJ.out
            rw [List.take_of_length_le (by omega)] at hno
            have HR := Lib.hid (And.intro (HUk.out.bad hno) hdl)
            have hje : ((s.size : Int) == (s.size : Int)) = true := by simp
            clear hno hdl HJ HUk hjs
            go_wp2_with fail
            go_ret3
            refine UPost.of HR.out.1 ?_ hB
            rw [HR.out.2]
            rw [show (s.size : Int) - ((s.size - (k + 1) : Nat) : Int) - 1 = (k : Int) by omega]
            rfl
      · have hne38 : s[k] ≠ 38 := fun e => h38 (by rw [e]; rfl)
        have HU2 := Lib.hid (hUk.byte hne38)
        clear hUk hne38 hdrop hget hkL HH HU
        have h631 : n + 1 ≤ maxLen := by unfold maxLen; omega
        have h471 : (n + 1) * 1 ≤ 140737488355328 := by omega
        go_wp2_with (first
          | (at_builtin; refine wpList_append_own _ rfl _ _ 47 rfl w.heap.size 5 i5 (.int .u8 0) 1 1 Tryd.underlying47 Hi.out Hz0.out Hz1.out Hz2.out rfl (by decide) _ n (Lib.byteCells O) rfl (Hown.out.alloc _) ⟨_, 0, none⟩ 1 1 [.int .u8 (s[k].toNat : Int)] rfl rfl (cell_one_new _ _ _) (by simp [Value.oneCell']) h631 h471 (by have h1 := hB.size; simp; omega) ?_; intro v' w3 hown3 hg3 _))
        have hb3 : Below w.heap.size w w3 := (hB.alloc hB.size _).grown hg3 (Nat.le_trans hB.size (by simp)) (fun j e => (Hown.out.lt j e).1)
        have HI2 : Hid (UGo fullE s.size R (O ++ [s[k]]) (L.drop (k + 1)) ∧ (O ++ [s[k]]).length = n + 1 ∧ w3.ownsRow w.heap.size 5 1 v' (n + 1) (Lib.byteCells (O ++ [s[k]]))) := by
          refine ⟨HU2.out, by rw [List.length_append, HOn.out]; rfl, ?_⟩
          rw [Lib.byteCells_append]
          exact hown3
        go_roundg (gk - 1)
        case measure => omega
        case rel => exact ⟨k + 1, n + 1, O ++ [s[k]], _, rfl, by go_num, by omega, by omega, by omega, HI2, hb3⟩
    · obtain rfl : k = s.size := by omega
      have hdr : L.drop s.size = [] := by rw [← HL.out.2]; exact List.drop_length
      have hUk := HH.out.1
      rw [hdr] at hUk
      have HR := Lib.hid hUk.nil
      have hconv := conv_own HH.out.2.2
      clear hUk hdr HH HU hlt
      go_wp2
      go_ret3
      exact UPost.of HR.out rfl hB

set_option maxRecDepth 100000 in
set_option maxHeartbeats 2000000 in
theorem runescape_any (s : ByteArray) (w : World) (hs : s.size ≤ 100000) : Calls Tryd.prog 26 #[.string s] w (UPost (unesc fullE s.data.toList) w) := by
  have cR := rdecode_any s hs w
  have hl : s.data.toList.length = s.size := by simp
  cases hb : decBad s.data.toList with
  | true =>
    have hbB : badB s.data.toList = true := by rw [badB_eq, hb]
    have cD : Calls Tryd.prog 19 #[.string s] w fun e w' => e = .returned (.tuple #[.slice none 0 0, .int .i64 (badI s.data.toList), .int .i64 6]) ∧ Below w.heap.size w w' := cR.mono fun e w' h => by
      obtain ⟨h, hbl⟩ := h
      rcases h with ⟨pre, i, hl, hn, _, rfl⟩ | ⟨hg, v, rfl, hown⟩
      · refine ⟨?_, hbl⟩
        have := (bad_some (l := s.data.toList) (ini := pre) (t := []) (x := (i, -1)) (by rw [List.append_nil]; exact hl) (fun y hy => by unfold isBad; exact beq_eq_false_iff_ne.2 (hn y hy)) (by rfl)).1
        rw [this]
      · exfalso
        unfold decBad at hb
        obtain ⟨x, hx, h2⟩ := List.any_eq_true.1 hb
        exact hg x hx (by simpa [isBad] using h2)
    have HR : Hid (unesc fullE s.data.toList = ([], badI s.data.toList, 6)) := by show _ = _; unfold unesc; rw [hbB]; rfl
    rw [HR.out]
    generalize badI s.data.toList = bi at cD ⊢
    clear HR hbB hb cR
    go_enter Tryd.func26, Tryd.ntmps26
    go_wp2_with (go_at_call 19; refine cD.mono ?_; rintro e w1 ⟨rfl, hb⟩)
    go_ret3
    exact ⟨rfl, hb⟩
  | false =>
    have hbB : badB s.data.toList = false := by rw [badB_eq, hb]
    refine runescape_good s w hs _ ⟨s.size + 1, by omega, ?_⟩ (cR.mono fun e w' h => ?_)
    · unfold unesc
      rw [hbB, hl]
      rfl
    · obtain ⟨h, hbl⟩ := h
      rcases h with ⟨pre, i, hl, hn, _, rfl⟩ | ⟨hg, v, rfl, hown⟩
      · exfalso
        unfold decBad at hb
        rw [hl, List.any_append] at hb
        simp [isBad] at hb
      · exact ⟨v, rfl, hbl⟩
end Go.Proofs.YtiefpdoefdldpaaDoor
