/- The reference's Local, at every string: it says what package chars says. -/
import Derived.Test.YtiefpdoefdldpaaDoorI
import Derived.Test.YtiefpdoefdldpaaDoorE
namespace Go.Proofs.YtiefpdoefdldpaaDoor
open Go.RowKit

set_option maxRecDepth 100000 in
set_option maxHeartbeats 400000 in
theorem rlocal_bad (s : ByteArray) (w : World)
    (cD : Calls Tryd.prog 19 #[.string s] w fun e w' => ∃ i : Int, e = .returned (.tuple #[.slice none 0 0, .int .i64 i, .int .i64 6]) ∧ Below w.heap.size w w') :
    Calls Tryd.prog 17 #[.string s] w fun e w' => e = .returned (.bool false) ∧ Below w.heap.size w w' := by
  go_enter Tryd.func17, Tryd.ntmps17
  go_wp2_with (go_at_call 19; refine cD.mono ?_; rintro e w1 ⟨i, rfl, hb⟩)
  go_ret
  exact ⟨rfl, hb⟩

set_option maxRecDepth 100000 in
set_option maxHeartbeats 400000 in
theorem rlocal_none (s : ByteArray) (w : World)
    (cD : Calls Tryd.prog 19 #[.string s] w fun e w' => ∃ v, e = .returned (.tuple #[v, .int .i64 0, .int .i64 0]) ∧ (w'.ownsRow w.heap.size 21 1 v 0 []) ∧ Below w.heap.size w w') :
    Calls Tryd.prog 17 #[.string s] w fun e w' => e = .returned (.bool false) ∧ Below w.heap.size w w' := by
  go_enter Tryd.func17, Tryd.ntmps17
  go_wp2_with fail
  refine cD.mono ?_
  rintro e w1 ⟨v, rfl, ⟨_, hv | hv⟩, hb⟩
  · obtain ⟨rfl, _⟩ := hv
    go_wp2
    go_ret
    exact ⟨rfl, hb⟩
  · obtain ⟨g, cap, cur, rfl, _⟩ := hv
    go_wp2
    go_ret
    exact ⟨rfl, hb⟩

set_option maxRecDepth 100000 in
set_option maxHeartbeats 1000000 in
theorem rlocal_some (s : ByteArray) (cs : List Int) (c0 : Int) (w : World) (hs : s.size ≤ 100000) (hn : cs.length ≤ s.size) (hc0 : cs[0]? = some c0)
    (cD : Calls Tryd.prog 19 #[.string s] w fun e w' => ∃ v, e = .returned (.tuple #[v, .int .i64 0, .int .i64 0]) ∧ (w'.ownsRow w.heap.size 21 1 v cs.length (cs.map (Value.int .i32))) ∧ Below w.heap.size w w') :
    Calls Tryd.prog 17 #[.string s] w fun e w' => e = .returned (.bool (decide (s.size ≤ 200) && fstB c0 && cs.all innB)) ∧ Below w.heap.size w w' := by
  have hpos : 0 < cs.length := by
    cases cs with
    | nil => simp at hc0
    | cons _ _ => simp
  have hlz : ((cs.length : Int) == 0) = false := beq_eq_false_iff_ne.2 (by omega)
  have cF := fun X : World => rfirst_any c0 X
  rw [← fst_eq] at cF
  obtain ⟨R, hR⟩ : ∃ R, (decide (s.size ≤ 200) && fstB c0 && cs.all innB) = R := ⟨_, rfl⟩
  rw [hR]
  obtain ⟨fb, hfb⟩ : ∃ fb, fstB c0 = fb := ⟨_, rfl⟩
  rw [hfb] at cF hR
  have HR := Lib.hid hR
  clear hR hfb
  go_enter Tryd.func17, Tryd.ntmps17
  go_wp2_with fail
  refine cD.mono ?_
  rintro e w1 ⟨v, rfl, hown, hb⟩
  have hform := hown
  obtain ⟨_, hv | hv⟩ := hform
  · obtain ⟨rfl, h0⟩ := hv
    omega
  obtain ⟨g, cap, cur, rfl, _, _, hcap, hmax, _, _⟩ := hv
  unfold maxLen at hmax
  have hcell : ∀ (j : Nat) (x : Int), cs[j]? = some x → w1.cell? ⟨g, j, none⟩ = some (.int .i32 x) := fun j x hj => by
    have h := hown.cells rfl j (.int .i32 x) (by simp [hj])
    have ha : (⟨g, 0, none⟩ : Addr).add j = ⟨g, j, none⟩ := by unfold Addr.add; split <;> simp_all
    rw [ha] at h
    exact h
  have hcell0 := hcell 0 c0 hc0
  have Hcell := Lib.hid hcell
  have Hown := Lib.hid hown
  have Hc0 := Lib.hid hc0
  clear hcell hown hc0 cD
  by_cases h2 : s.size ≤ 200
  · have h2' : ¬ ((200 : Int) < (s.size : Int)) := by omega
    cases fb
    · go_wp2_with (go_at_call 13; refine (cF _).mono ?_; rintro e w2 ⟨rfl, rfl⟩)
      go_ret
      exact ⟨by rw [← HR.out]; simp, hb⟩
    · have hR2 : cs.all innB = R := by rw [← HR.out]; simp [h2]
      have HR2 := Lib.hid hR2
      clear hR2 HR
      go_wp2_with (go_at_call 13; refine (cF _).mono ?_; rintro e w2 ⟨rfl, rfl⟩)
      go_loop [6] (fun iv => ∃ k : Nat, k ≤ cs.length ∧ iv = .int .i64 (k : Int) ∧ Hid (cs.all innB = (cs.drop k).all innB)) (fun iv => cs.length - (intOf iv).toNat)
      case atStart => exact ⟨0, by omega, rfl, rfl⟩
      case round =>
        obtain ⟨k, hk, rfl, HA⟩ := hrel
        by_cases hlt : k < cs.length
        · have hck := Hcell.out k (cs[k]'hlt) (List.getElem?_eq_getElem hlt)
          have cI := fun X : World => rinner_any (cs[k]'hlt) X
          have hA : cs.all innB = (innB (cs[k]'hlt) && (cs.drop (k + 1)).all innB) := by rw [HA.out, List.drop_eq_getElem_cons hlt]; rfl
          rw [← inn_eq] at cI
          obtain ⟨x, hx⟩ : ∃ x, cs[k]'hlt = x := ⟨_, rfl⟩
          rw [hx] at hck cI hA
          obtain ⟨b, hb2⟩ : ∃ b, innB x = b := ⟨_, rfl⟩
          rw [hb2] at cI hA
          have HA2 := Lib.hid hA
          clear hx hb2 hA HA
          cases b
          · go_wp2_with (go_at_call 15; refine (cI _).mono ?_; rintro e w3 ⟨rfl, rfl⟩)
            go_ret
            exact ⟨by rw [← HR2.out, HA2.out]; rfl, hb⟩
          · go_wp2_with (go_at_call 15; refine (cI _).mono ?_; rintro e w3 ⟨rfl, rfl⟩)
            refine ⟨⟨k + 1, by omega, by go_num, ?_⟩, by simp [intOf]; omega⟩
            show _ = _
            rw [HA2.out]
            rfl
        · obtain rfl : k = cs.length := by omega
          go_wp2
          go_ret
          exact ⟨by rw [← HR2.out, HA.out]; simp, hb⟩
  · have h2' : ((200 : Int) < (s.size : Int)) := by omega
    go_wp2
    go_ret
    exact ⟨by rw [← HR.out]; simp [h2], hb⟩

/-! ### what is yielded -/
theorem charsGo_le : ∀ (f k : Nat) (l : List UInt8), (charsGo f k l).length ≤ l.length
  | 0, _, _ => by simp [charsGo]
  | f + 1, k, l => by
    unfold charsGo
    split
    · simp
    · rename_i hl
      have h1 : 1 ≤ l.length := by
        cases l with
        | nil => exact absurd rfl hl
        | cons _ _ => simp
      split
      · simp
        omega
      · rename_i c n hst
        have hb := stepD_le hst
        have h2 := charsGo_le f (k + n) (l.drop n)
        simp at h2 ⊢
        omega
theorem charsGo_pos : ∀ (f k : Nat) (l : List UInt8), ∀ x ∈ charsGo f k l, k ≤ x.1
  | 0, _, _, x, hx => by simp [charsGo] at hx
  | f + 1, k, l, x, hx => by
    unfold charsGo at hx
    split at hx
    · simp at hx
    · split at hx
      · simp at hx
        simp [hx]
      · rename_i c n hst
        rcases List.mem_cons.1 hx with h | h
        · simp [h]
        · have := charsGo_pos f (k + n) (l.drop n) x h
          omega
/-- The first one stands at 0, the others behind it. -/
theorem charsOf_cons {l : List UInt8} (h0 : l ≠ []) : ∃ c0 rest, charsOf l = (0, c0) :: rest ∧ ∀ x ∈ rest, x.1 ≠ 0 := by
  obtain ⟨b, t, rfl⟩ : ∃ b t, l = b :: t := by
    cases l with
    | nil => exact absurd rfl h0
    | cons b t => exact ⟨b, t, rfl⟩
  unfold charsOf
  rw [List.length_cons]
  unfold charsGo
  rw [if_neg (by simp)]
  split
  · exact ⟨_, _, rfl, by simp⟩
  · rename_i c n hst
    refine ⟨_, _, rfl, fun x hx => ?_⟩
    have h1 := charsGo_pos _ _ _ x hx
    have h2 := (stepD_le hst).1
    omega
theorem all_okL {l : List UInt8} {c0 : Int} {rest : List (Nat × Int)} (h : charsOf l = (0, c0) :: rest) (hr : ∀ x ∈ rest, x.1 ≠ 0) :
    (charsOf l).all okL = (fstB c0 && ((charsOf l).map (·.2)).all innB) := by
  rw [h, List.all_cons, List.map_cons, List.all_cons]
  have e1 : okL (0, c0) = (innB c0 && fstB c0) := by simp [okL]
  have e2 : ∀ rest : List (Nat × Int), (∀ x ∈ rest, x.1 ≠ 0) → rest.all okL = (rest.map (·.2)).all innB := by
    intro rest
    induction rest with
    | nil => intro _; rfl
    | cons x t ih =>
      intro h
      have h1 := h x (by simp)
      rw [List.all_cons, List.map_cons, List.all_cons, ih (fun y hy => h y (List.mem_cons_of_mem _ hy))]
      have h2 : (x.1 != 0) = true := bne_iff_ne.2 h1
      unfold okL
      rw [h2, Bool.true_or, Bool.and_true]
  rw [e1, e2 rest hr]
  cases innB c0 <;> cases fstB c0 <;> rfl

/-- **THE REFERENCE's Local: WHAT PACKAGE chars SAYS.** -/
theorem rlocal_any (s : ByteArray) (hs : s.size ≤ 100000) (w : World) :
    Calls Tryd.prog 17 #[.string s] w fun e w' => e = .returned (.bool (localB s.data.toList)) ∧ Below w.heap.size w w' := by
  have hlen : s.data.toList.length = s.size := by simp
  have hD := rdecode_any s hs w
  by_cases hbad : ∀ x ∈ charsOf s.data.toList, x.2 ≠ -1
  · have hD2 : Calls Tryd.prog 19 #[.string s] w fun e w' => ∃ v, e = .returned (.tuple #[v, .int .i64 0, .int .i64 0]) ∧ (w'.ownsRow w.heap.size 21 1 v (charsOf s.data.toList).length ((charsOf s.data.toList).map fun x => .int .i32 x.2)) ∧ Below w.heap.size w w' := hD.mono fun e w' h => by
      obtain ⟨⟨pre, i, h1, _⟩ | ⟨_, v, h1, h2⟩, hb⟩ := h
      · exact absurd rfl (hbad (i, -1) (by rw [h1]; simp))
      · exact ⟨v, h1, h2, hb⟩
    by_cases h0 : s.data.toList = []
    · have hc : charsOf s.data.toList = [] := by rw [h0]; rfl
      rw [hc] at hD2
      refine (rlocal_none s w hD2).mono fun e w' ⟨he, hb⟩ => ⟨he.trans (ret_bool ?_), hb⟩
      unfold localB
      rw [h0]
      rfl
    · obtain ⟨c0, rest, hc, hr⟩ := charsOf_cons h0
      have hm : ((charsOf s.data.toList).map fun x => Value.int .i32 x.2) = ((charsOf s.data.toList).map (·.2)).map (Value.int .i32) := by simp
      have hl : (charsOf s.data.toList).length = ((charsOf s.data.toList).map (·.2)).length := by simp
      rw [hm, hl] at hD2
      refine (rlocal_some s _ c0 w hs (by rw [List.length_map, ← hlen]; exact charsGo_le _ _ _) (by rw [hc]; rfl) hD2).mono fun e w' ⟨he, hb⟩ => ⟨he.trans (ret_bool ?_), hb⟩
      unfold localB
      rw [all_okL hc hr, hlen]
      have : s.data.toList.isEmpty = false := by
        cases hq : s.data.toList with
        | nil => exact absurd hq h0
        | cons _ _ => rfl
      rw [this]
      simp [Bool.and_assoc]
  · have hex : ∃ x ∈ charsOf s.data.toList, x.2 = -1 := by
      refine Classical.byContradiction fun h => hbad fun x hx e => h ⟨x, hx, e⟩
    have hall : (charsOf s.data.toList).all okL = false := by
      obtain ⟨x, hx, he⟩ := hex
      rw [List.all_eq_false]
      refine ⟨x, hx, ?_⟩
      unfold okL
      rw [he, show innB (-1) = false by decide]
      simp
    have hD2 : Calls Tryd.prog 19 #[.string s] w fun e w' => ∃ i : Int, e = .returned (.tuple #[.slice none 0 0, .int .i64 i, .int .i64 6]) ∧ Below w.heap.size w w' := hD.mono fun e w' h => by
      obtain ⟨⟨pre, i, _, _, _, h4⟩ | ⟨h1, _⟩, hb⟩ := h
      · exact ⟨_, h4, hb⟩
      · exact absurd h1 hbad
    refine (rlocal_bad s w hD2).mono fun e w' ⟨he, hb⟩ => ⟨he.trans (ret_bool ?_), hb⟩
    unfold localB
    rw [hall]
    simp
end Go.Proofs.YtiefpdoefdldpaaDoor
