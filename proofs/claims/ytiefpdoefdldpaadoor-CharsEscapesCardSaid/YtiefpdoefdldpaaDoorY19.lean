/- The reference's character of an escape, at the words without a name. -/
import Derived.Test.YtiefpdoefdldpaaDoorY18
namespace Go.Proofs.YtiefpdoefdldpaaDoor
open Go.RowKit

/-- What the reference answers behind the names. -/
def rtE (l : List UInt8) : Int := if l.head? = some 35 then (if l.tail.head? = some 120 then numE 16 l.tail.tail else numE 10 l.tail) else -1

theorem rtE_x (d : List UInt8) : rtE (35 :: 120 :: d) = numE 16 d := by
  unfold rtE
  rw [if_pos (show (List.head? ((35 : UInt8) :: 120 :: d)) = some 35 from rfl)]
  exact if_pos rfl
theorem rtE_d (l : List UInt8) (h : ¬ l.head? = some 120) : rtE (35 :: l) = numE 10 l := by
  unfold rtE
  rw [if_pos (show (List.head? ((35 : UInt8) :: l)) = some 35 from rfl)]
  exact if_neg h

theorem empty_of (s : ByteArray) (h : s.size = 0) : s.data.toList = [] := by
  apply List.eq_nil_of_length_eq_zero
  have : s.data.toList.length = s.size := by simp
  omega
theorem isEmpty_of (s : ByteArray) (h : 0 < s.size) : s.toList.isEmpty = false := by
  rw [Lib.toList_data]
  cases hs : s.data.toList with
  | nil =>
    have : s.data.toList.length = s.size := by simp
    rw [hs] at this
    simp at this
    omega
  | cons a l => rfl
theorem isEmpty_none (s : ByteArray) (h : s.size = 0) : s.toList.isEmpty = true := by
  rw [Lib.toList_data, empty_of s h]
  rfl
theorem head_of (s : ByteArray) (h : 0 < s.size) : s.data.toList = s[0] :: (s.extract 1 s.size).data.toList := by
  have hl : s.data.toList.length = s.size := by simp
  rw [Lib.extract_from]
  have h1 := List.drop_eq_getElem_cons (l := s.data.toList) (i := 0) (by omega)
  rw [List.drop_zero] at h1
  rw [h1]
  rfl
theorem byte_eq (b c : UInt8) (h : (b.toNat : Int) = c.toNat) : b = c := UInt8.toNat_inj.1 (by omega)

set_option maxRecDepth 100000 in
set_option maxHeartbeats 16000000 in
theorem rescaped_rest (s : ByteArray) (hs : s.size ≤ 100000) (f0 : (s.toList == [108, 116]) = false) (f1 : (s.toList == [103, 116]) = false) (f2 : (s.toList == [97, 109, 112]) = false) (f3 : (s.toList == [113, 117, 111, 116]) = false) (f4 : (s.toList == [97, 112, 111, 115]) = false) (E : Int) (hE : E = rtE s.data.toList) (w : World) :
    Calls Tryd.prog 44 #[.string s] w (RePost E w) := by
  go_enter Tryd.func44, Tryd.ntmps44
  go_wp2
  go_loopg [6] 6 (fun gk v6 wr => ∃ k : Nat, v6 = .int .i64 (k : Int) ∧ k ≤ 5 ∧ gk + k = 6 ∧ Below w.heap.size w wr ∧ Hid (RW w.heap.size wr))
  case atStart =>
    refine ⟨0, rfl, Nat.zero_le _, rfl, ((Below.refl _ _).alloc (Nat.le_refl _) _).alloc (by simp) _, Lib.hid (rw_start w)⟩
  case round =>
    obtain ⟨k, rfl, hk, hgk, hB, HW⟩ := hrel
    have hcase : k = 0 ∨ k = 1 ∨ k = 2 ∨ k = 3 ∨ k = 4 ∨ k = 5 := by omega
    rcases hcase with rfl | rfl | rfl | rfl | rfl | rfl
    · obtain ⟨g0, g1, g2, g3, g4, h0, h1, h2, h3, h4⟩ := HW.out
      clear f1 f2 f3 f4 hE
      go_wp2
      go_roundg 5
      case measure => omega
      case rel => exact ⟨1, rfl, by omega, rfl, hB, HW⟩
    · obtain ⟨g0, g1, g2, g3, g4, h0, h1, h2, h3, h4⟩ := HW.out
      clear f0 f2 f3 f4 hE
      go_wp2
      go_roundg 4
      case measure => omega
      case rel => exact ⟨2, rfl, by omega, rfl, hB, HW⟩
    · obtain ⟨g0, g1, g2, g3, g4, h0, h1, h2, h3, h4⟩ := HW.out
      clear f0 f1 f3 f4 hE
      go_wp2
      go_roundg 3
      case measure => omega
      case rel => exact ⟨3, rfl, by omega, rfl, hB, HW⟩
    · obtain ⟨g0, g1, g2, g3, g4, h0, h1, h2, h3, h4⟩ := HW.out
      clear f0 f1 f2 f4 hE
      go_wp2
      go_roundg 2
      case measure => omega
      case rel => exact ⟨4, rfl, by omega, rfl, hB, HW⟩
    · obtain ⟨g0, g1, g2, g3, g4, h0, h1, h2, h3, h4⟩ := HW.out
      clear f0 f1 f2 f3 hE
      go_wp2
      go_roundg 1
      case measure => omega
      case rel => exact ⟨5, rfl, by omega, rfl, hB, HW⟩
    · clear f0 f1 f2 f3 f4 HW hgk hk
      by_cases hemp : s.size = 0
      · have HE : Hid (E = -1) := by show _ = _; rw [hE, empty_of s hemp]; rfl
        have he := isEmpty_none s hemp
        clear hE hemp
        go_wp2
        go_ret2
        exact ⟨by rw [HE.out]; rfl, hB⟩
      have hp0 : 0 < s.size := by omega
      have he := isEmpty_of s hp0
      have hl := head_of s hp0
      rw [hl] at hE
      clear hemp hl
      by_cases h35 : (s[0].toNat : Int) = 35
      · have hb : s[0] = 35 := byte_eq _ _ h35
        rw [hb] at hE
        clear hb
        obtain ⟨t, ht⟩ : ∃ t, s.extract 1 s.size = t := ⟨_, rfl⟩
        have hp1 : 1 ≤ s.size := by omega
        rw [ht] at hE
        by_cases hemt : t.size = 0
        · have HE : Hid (E = -1) := by show _ = _; rw [hE, empty_of t hemt]; rfl
          have hte := isEmpty_none t hemt
          clear hE hemt
          go_wp2_with (go_quiet (fail))
          go_ret2
          exact ⟨by rw [HE.out]; rfl, by first | exact hB | exact below_drewNx hB _ | exact below_drewNx (below_drewNx hB _) _⟩
        have htp : 0 < t.size := by omega
        have hte := isEmpty_of t htp
        clear hemt
        by_cases h120 : (t[0].toNat : Int) = 120
        · have hb : t[0] = 120 := byte_eq _ _ h120
          rw [head_of t htp, hb, rtE_x] at hE
          clear hb
          obtain ⟨d, hd⟩ : ∃ d, t.extract 1 t.size = d := ⟨_, rfl⟩
          have htp1 : 1 ≤ t.size := by omega
          rw [hd] at hE
          have hdl : d.data.toList.length = d.size := by simp
          by_cases hemd : d.size = 0
          · have HE : Hid (E = -1) := by show _ = _; rw [hE, empty_of d hemd]; rfl
            have hde := isEmpty_none d hemd
            clear hE hemd hdl
            go_wp2_with (go_quiet (fail))
            go_ret2
            exact ⟨by rw [HE.out]; rfl, by first | exact hB | exact below_drewNx hB _ | exact below_drewNx (below_drewNx hB _) _⟩
          have hde := isEmpty_of d (by omega)
          by_cases h20 : 20 < d.size
          · have HE : Hid (E = -1) := by show _ = _; rw [hE]; unfold numE; rw [if_pos (.inr (by omega))]
            have hd20 : (20 : Int) < d.size := by omega
            clear hE hemd hdl h20
            go_wp2_with (go_quiet (fail))
            go_ret2
            exact ⟨by rw [HE.out]; rfl, by first | exact hB | exact below_drewNx hB _ | exact below_drewNx (below_drewNx hB _) _⟩
          have hd20 : ¬ (20 : Int) < d.size := by omega
          rw [rnE_eq 16 (.inr rfl) _ (by
            rintro (h | h)
            · rw [h] at hdl; exact hemd hdl.symm
            · omega)] at hE
          have HR : Hid (E = rnE 16 d.data.toList) := Lib.hid hE
          clear hE hemd hdl h20
          obtain ⟨D, hD⟩ : ∃ D, d.data.toList = D := ⟨_, rfl⟩
          have hDl : D.length = d.size := by rw [← hD]; simp
          rw [hD] at HR
          have HD := Lib.hid (And.intro hD hDl)
          clear hD hDl
          go_wp2_with (go_quiet (fail))
          go_loopg [8, 9, 10] (d.size + 1) (fun gk v8 v9 v10 wr' => ∃ (k : Nat) (a : Int), v8 = .int .i64 a ∧ v9 = .int .i64 (k : Int) ∧ k ≤ d.size ∧ gk + k = d.size + 1 ∧ 0 ≤ a ∧ a ≤ 2000000 ∧ Hid (rfN 16 0 D = rfN 16 a (D.drop k)) ∧ Below w.heap.size w wr')
          case atStart => exact ⟨0, 0, rfl, rfl, Nat.zero_le _, rfl, by omega, by omega, Lib.hid rfl, by first | exact hB | exact below_drewNx hB _ | exact below_drewNx (below_drewNx hB _) _⟩
          case round =>
            clear hB
            obtain ⟨k, a, rfl, rfl, hk, hgk, ha0, ha1, HA, hB⟩ := hrel
            by_cases hlt : k < d.size
            · have hkL : k < D.length := by rw [HD.out.2]; exact hlt
              have hget : d[k] = D[k]'hkL := by
                have h := HD.out.1
                subst h
                rfl
              have hdrop : D.drop k = D[k]'hkL :: D.drop (k + 1) := List.drop_eq_getElem_cons hkL
              have hA := HA.out
              rw [hdrop] at hA
              simp only [rfN] at hA
              rw [← hget] at hA
              have cR := fun W => digit_any (d[k].toNat : Int) 16 (by omega) (by have := (d[k]).toNat_lt; omega) (by omega) (by omega) W
              have hdg := dig_both 16 (by omega) d[k]
              have hv15 : dgI (d[k].toNat : Int) 16 = -1 ∨ (0 ≤ dgI (d[k].toNat : Int) 16 ∧ dgI (d[k].toNat : Int) 16 ≤ 15) := by
                rcases hdg with ⟨x, _, hx, he⟩ | ⟨_, he⟩
                · exact .inr ⟨by rw [show ((16 : Nat) : Int) = 16 from rfl] at he; omega, by rw [show ((16 : Nat) : Int) = 16 from rfl] at he; omega⟩
                · exact .inl he
              clear hdg
              generalize dgI (d[k].toNat : Int) 16 = v at cR hA hv15
              by_cases hneg : v < 0
              · have HE : Hid (E = -1) := by
                  show _ = _
                  rw [HR.out]
                  unfold rnE
                  rw [hA, if_pos hneg]
                clear hA hv15 hdrop hget hkL HA
                go_wp2_with (go_at_call 57; refine (cR _).mono ?_; rintro e w3 ⟨rfl, rfl⟩)
                go_ret2
                exact ⟨by rw [HE.out]; rfl, hB⟩
              · have hv0 : 0 ≤ v := by omega
                have hv1 : v ≤ 15 := by omega
                rw [if_neg hneg] at hA
                have HA2 := Lib.hid hA
                clear hA hv15 hdrop hget hkL HA hneg
                have hnn : ¬ v < 0 := by omega
                have hm0 : 0 ≤ min (a * 16 + v) 2000000 := by omega
                have hm1 : min (a * 16 + v) 2000000 ≤ 2000000 := by omega
                have HM := Lib.hid (And.intro hm0 hm1)
                clear hm0 hm1
                go_wp2_with (go_at_call 57; refine (cR _).mono ?_; rintro e w3 ⟨rfl, rfl⟩)
                go_roundg (gk - 1)
                case measure => omega
                case rel => exact ⟨k + 1, min (a * 16 + v) 2000000, rfl, by go_num, by omega, by omega, HM.out.1, HM.out.2, HA2, hB⟩
            · obtain rfl : k = d.size := by omega
              have hdr : D.drop d.size = [] := by rw [← HD.out.2]; exact List.drop_length
              have hA := HA.out
              rw [hdr] at hA
              simp only [rfN] at hA
              have hE : E = if rvldB a then a else -1 := by
                rw [HR.out]
                unfold rnE
                rw [hA]
              have cV := fun W => rvalid_any a W
              cases hva : rvldB a with
              | true =>
                rw [hva] at hE cV
                have HE : Hid (E = a ∧ a ≠ -1) := Lib.hid ⟨hE, by omega⟩
                clear hE hA hdr HA hlt hva
                go_wp2_with (go_at_call 9; refine (cV _).mono ?_; rintro e w3 ⟨rfl, rfl⟩)
                go_ret2
                have h1 : (if E = -1 then 0 else E) = a := by rw [HE.out.1, if_neg HE.out.2]
                have h2 : (E != -1) = true := by rw [HE.out.1]; exact bne_iff_ne.2 HE.out.2
                refine ⟨?_, hB⟩
                rw [h1, h2]
                rfl
              | false =>
                rw [hva] at hE cV
                have HE : Hid (E = -1) := Lib.hid hE
                clear hE hA hdr HA hlt hva
                go_wp2_with (go_at_call 9; refine (cV _).mono ?_; rintro e w3 ⟨rfl, rfl⟩)
                go_ret2
                exact ⟨by rw [HE.out]; rfl, hB⟩
        · have hb : ¬ t[0] = 120 := fun e => h120 (by rw [e]; rfl)
          have hhd : ¬ t.data.toList.head? = some 120 := by rw [head_of t htp]; simpa using hb
          rw [rtE_d _ hhd] at hE
          clear hhd hb
          have hdl : t.data.toList.length = t.size := by simp
          by_cases h20 : 20 < t.size
          · have HE : Hid (E = -1) := by show _ = _; rw [hE]; unfold numE; rw [if_pos (.inr (by omega))]
            have hd20 : (20 : Int) < t.size := by omega
            clear hE hdl h20
            go_wp2_with (go_quiet (fail))
            go_ret2
            exact ⟨by rw [HE.out]; rfl, by first | exact hB | exact below_drewNx hB _ | exact below_drewNx (below_drewNx hB _) _⟩
          have hd20 : ¬ (20 : Int) < t.size := by omega
          rw [rnE_eq 10 (.inl rfl) _ (by
            rintro (h | h)
            · rw [h] at hdl; simp at hdl; omega
            · omega)] at hE
          have HR : Hid (E = rnE 10 t.data.toList) := Lib.hid hE
          clear hE hdl h20
          obtain ⟨D, hD⟩ : ∃ D, t.data.toList = D := ⟨_, rfl⟩
          have hDl : D.length = t.size := by rw [← hD]; simp
          rw [hD] at HR
          have HD := Lib.hid (And.intro hD hDl)
          clear hD hDl
          go_wp2_with (go_quiet (fail))
          go_loopg [8, 9, 10] (t.size + 1) (fun gk v8 v9 v10 wr' => ∃ (k : Nat) (a : Int), v8 = .int .i64 a ∧ v9 = .int .i64 (k : Int) ∧ k ≤ t.size ∧ gk + k = t.size + 1 ∧ 0 ≤ a ∧ a ≤ 2000000 ∧ Hid (rfN 10 0 D = rfN 10 a (D.drop k)) ∧ Below w.heap.size w wr')
          case atStart => exact ⟨0, 0, rfl, rfl, Nat.zero_le _, rfl, by omega, by omega, Lib.hid rfl, by first | exact hB | exact below_drewNx hB _ | exact below_drewNx (below_drewNx hB _) _⟩
          case round =>
            clear hB
            obtain ⟨k, a, rfl, rfl, hk, hgk, ha0, ha1, HA, hB⟩ := hrel
            by_cases hlt : k < t.size
            · have hkL : k < D.length := by rw [HD.out.2]; exact hlt
              have hget : t[k] = D[k]'hkL := by
                have h := HD.out.1
                subst h
                rfl
              have hdrop : D.drop k = D[k]'hkL :: D.drop (k + 1) := List.drop_eq_getElem_cons hkL
              have hA := HA.out
              rw [hdrop] at hA
              simp only [rfN] at hA
              rw [← hget] at hA
              have cR := fun W => digit_any (t[k].toNat : Int) 10 (by omega) (by have := (t[k]).toNat_lt; omega) (by omega) (by omega) W
              have hdg := dig_both 10 (by omega) t[k]
              have hv15 : dgI (t[k].toNat : Int) 10 = -1 ∨ (0 ≤ dgI (t[k].toNat : Int) 10 ∧ dgI (t[k].toNat : Int) 10 ≤ 15) := by
                rcases hdg with ⟨x, _, hx, he⟩ | ⟨_, he⟩
                · exact .inr ⟨by rw [show ((10 : Nat) : Int) = 10 from rfl] at he; omega, by rw [show ((10 : Nat) : Int) = 10 from rfl] at he; omega⟩
                · exact .inl he
              clear hdg
              generalize dgI (t[k].toNat : Int) 10 = v at cR hA hv15
              by_cases hneg : v < 0
              · have HE : Hid (E = -1) := by
                  show _ = _
                  rw [HR.out]
                  unfold rnE
                  rw [hA, if_pos hneg]
                clear hA hv15 hdrop hget hkL HA
                go_wp2_with (go_at_call 57; refine (cR _).mono ?_; rintro e w3 ⟨rfl, rfl⟩)
                go_ret2
                exact ⟨by rw [HE.out]; rfl, hB⟩
              · have hv0 : 0 ≤ v := by omega
                have hv1 : v ≤ 15 := by omega
                rw [if_neg hneg] at hA
                have HA2 := Lib.hid hA
                clear hA hv15 hdrop hget hkL HA hneg
                have hnn : ¬ v < 0 := by omega
                have hm0 : 0 ≤ min (a * 10 + v) 2000000 := by omega
                have hm1 : min (a * 10 + v) 2000000 ≤ 2000000 := by omega
                have HM := Lib.hid (And.intro hm0 hm1)
                clear hm0 hm1
                go_wp2_with (go_at_call 57; refine (cR _).mono ?_; rintro e w3 ⟨rfl, rfl⟩)
                go_roundg (gk - 1)
                case measure => omega
                case rel => exact ⟨k + 1, min (a * 10 + v) 2000000, rfl, by go_num, by omega, by omega, HM.out.1, HM.out.2, HA2, hB⟩
            · obtain rfl : k = t.size := by omega
              have hdr : D.drop t.size = [] := by rw [← HD.out.2]; exact List.drop_length
              have hA := HA.out
              rw [hdr] at hA
              simp only [rfN] at hA
              have hE : E = if rvldB a then a else -1 := by
                rw [HR.out]
                unfold rnE
                rw [hA]
              have cV := fun W => rvalid_any a W
              cases hva : rvldB a with
              | true =>
                rw [hva] at hE cV
                have HE : Hid (E = a ∧ a ≠ -1) := Lib.hid ⟨hE, by omega⟩
                clear hE hA hdr HA hlt hva
                go_wp2_with (go_at_call 9; refine (cV _).mono ?_; rintro e w3 ⟨rfl, rfl⟩)
                go_ret2
                have h1 : (if E = -1 then 0 else E) = a := by rw [HE.out.1, if_neg HE.out.2]
                have h2 : (E != -1) = true := by rw [HE.out.1]; exact bne_iff_ne.2 HE.out.2
                refine ⟨?_, hB⟩
                rw [h1, h2]
                rfl
              | false =>
                rw [hva] at hE cV
                have HE : Hid (E = -1) := Lib.hid hE
                clear hE hA hdr HA hlt hva
                go_wp2_with (go_at_call 9; refine (cV _).mono ?_; rintro e w3 ⟨rfl, rfl⟩)
                go_ret2
                exact ⟨by rw [HE.out]; rfl, hB⟩
      · have HE : Hid (E = -1) := by
          show _ = _
          rw [hE]
          unfold rtE
          rw [if_neg]
          intro h
          have h2 : s[0] = 35 := by simpa using h
          exact h35 (by rw [h2]; rfl)
        clear hE
        go_wp2
        go_ret2
        exact ⟨by rw [HE.out]; rfl, hB⟩
/-- The reference's Escaped, at every word. -/
theorem rescaped_any (s : ByteArray) (hs : s.size ≤ 100000) (w : World) : Calls Tryd.prog 44 #[.string s] w (RePost (fullE s.data.toList) w) := by
  have hd := Lib.toList_data s
  unfold fullE
  cases hn : namL s.data.toList with
  | some c =>
    have key : ∃ i, i < 5 ∧ s.toList = rword i ∧ c = rchar i := by
      rw [hd]
      unfold namL at hn
      split at hn
      · rename_i h; cases hn; exact ⟨0, by omega, h, rfl⟩
      split at hn
      · rename_i h; cases hn; exact ⟨1, by omega, h, rfl⟩
      split at hn
      · rename_i h; cases hn; exact ⟨2, by omega, h, rfl⟩
      split at hn
      · rename_i h; cases hn; exact ⟨3, by omega, h, rfl⟩
      split at hn
      · rename_i h; cases hn; exact ⟨4, by omega, h, rfl⟩
      · cases hn
    obtain ⟨i, hi, hL, rfl⟩ := key
    have hc : rchar i ≠ -1 := by
      have : i = 0 ∨ i = 1 ∨ i = 2 ∨ i = 3 ∨ i = 4 := by omega
      rcases this with rfl | rfl | rfl | rfl | rfl <;> decide
    refine (rescaped_named s i hi hL w).mono fun e w' ⟨he, hb⟩ => ⟨?_, hb⟩
    show e = Ending.returned (.tuple #[.int .i32 (if rchar i = -1 then 0 else rchar i), .bool (rchar i != -1)])
    rw [if_neg hc, bne_iff_ne.2 hc]
    exact he
  | none =>
    have no : ∀ l : List UInt8, namL l ≠ none → (s.toList == l) = false := fun l hl => beq_eq_false_iff_ne.2 (fun e => hl (by rw [← e, hd]; exact hn))
    exact rescaped_rest s hs (no _ (by decide)) (no _ (by decide)) (no _ (by decide)) (no _ (by decide)) (no _ (by decide)) _ rfl w
end Go.Proofs.YtiefpdoefdldpaaDoor
