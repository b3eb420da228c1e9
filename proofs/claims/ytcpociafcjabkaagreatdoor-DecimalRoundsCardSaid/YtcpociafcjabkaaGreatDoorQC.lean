/- The program's Round, for all that it is given. -/
import Derived.Test.YtcpociafcjabkaaGreatDoorQA
import Derived.Test.YtcpociafcjabkaaGreatDoorLB
set_option linter.unusedSimpArgs false
set_option linter.unusedVariables false
namespace Go.Proofs.YtcpociafcjabkaaGreatDoor
open Go.RowKit

set_option maxRecDepth 100000 in
set_option maxHeartbeats 4000000 in
theorem round_small (neg : Bool) (a : ByteArray) (s n k : Nat) (ha : IsDec ⟨neg, a, (s : Int)⟩ n s) (hsk : s ≤ k) (hk : k ≤ 60) (w : World) :
    Calls Tryz.prog 29 #[.agg #[.bool neg, .string a, .int .i64 (s : Int)], .int .i64 (k : Int)] w fun e w' => e = .returned (.tuple #[.agg #[.bool neg, .string a, .int .i64 (s : Int)], .int .i64 0]) ∧ Below w.heap.size w w' := by
  have za := dec_size ha
  simp only at za
  have cC := check_at ⟨neg, a, (s : Int)⟩ (by unfold maxLen; simp only; omega) 0 (by rw [vB_ok ⟨_, _, ha⟩]; rfl)
  have cS := fun W => t_scale (k : Int) W
  rw [decide_eq_true (show 0 ≤ (k : Int) ∧ (k : Int) ≤ 60 by omega)] at cS
  clear ha za hk
  go_enter Tryz.func29, Tryz.ntmps29
  go_wp2_with fail
  refine (cC _ _ (by simp)).mono ?_
  rintro e w1 ⟨rfl, b1⟩
  have b1 := past (by simp) b1
  have K0 := ((Has.new w (.bool neg) (.string a) (.int .i64 (s : Int)) 23).alloc (.cells #[.bool false, .string ⟨#[]⟩, .int .i64 0] 23)).call b1
  have K1 := (Has.new (w.alloc (.cells #[.bool neg, .string a, .int .i64 (s : Int)] 23)) (.bool false) (.string ⟨#[]⟩) (.int .i64 0) 23).call b1
  rw [World.size_alloc] at K1
  have GB : Hid (Below w.heap.size w w1) := (((Below.refl w.heap.size w).alloc (Nat.le_refl _) _).alloc (by simp) _).trans (b1.mono (by simp; omega))
  obtain ⟨x0, x1, x2, f0, f1, f2, _⟩ := K0
  obtain ⟨q0, q1, q2, g0, g1, g2, _⟩ := K1
  clear b1 cC
  go_wp2_with (go_at_call 62; refine (cS _).mono ?_; rintro e w3 ⟨rfl, rfl⟩)
  exact bodyPost_ret (v := .tuple #[.agg #[.bool neg, .string a, .int .i64 (s : Int)], .int .i64 0]) (by simp [results, Tryz.results29, go_sem, q0, q1, q2]) rfl ⟨rfl, ((GB.out.setCell (by simp) _).setCell (by simp) _).setCell (by simp) _⟩

set_option maxRecDepth 100000 in
set_option maxHeartbeats 4000000 in
theorem round_bad (neg : Bool) (a : ByteArray) (s k : Int) (za : a.size ≤ 400) (h : ¬ (Valid ⟨neg, a, s⟩ ∧ 0 ≤ k ∧ k ≤ 60)) (w : World) :
    Calls Tryz.prog 29 #[.agg #[.bool neg, .string a, .int .i64 s], .int .i64 k] w fun e w' => e = .returned (.tuple #[.agg #[.bool false, .string ⟨#[]⟩, .int .i64 0], .int .i64 2]) ∧ Below w.heap.size w w' := by
  by_cases hv : Valid ⟨neg, a, s⟩
  · have cC := check_at ⟨neg, a, s⟩ (by unfold maxLen; simp only; omega) 0 (chk_ok hv)
    have cS := fun W => t_scale k W
    rw [decide_eq_false (fun h2 => h ⟨hv, h2⟩)] at cS
    clear h hv
    go_enter Tryz.func29, Tryz.ntmps29
    go_wp2_with fail
    refine (cC _ _ (by simp)).mono ?_
    rintro e w1 ⟨rfl, b1⟩
    have b1 := past (by simp) b1
    have K1 := (Has.new (w.alloc (.cells #[.bool neg, .string a, .int .i64 s] 23)) (.bool false) (.string ⟨#[]⟩) (.int .i64 0) 23).call b1
    rw [World.size_alloc] at K1
    have GB : Hid (Below w.heap.size w w1) := (((Below.refl w.heap.size w).alloc (Nat.le_refl _) _).alloc (by simp) _).trans (b1.mono (by simp; omega))
    obtain ⟨q0, q1, q2, g0, g1, g2, _⟩ := K1
    clear b1 cC
    go_wp2_with (go_at_call 62; refine (cS _).mono ?_; rintro e w3 ⟨rfl, rfl⟩)
    exact bodyPost_ret (v := .tuple #[.agg #[.bool false, .string ⟨#[]⟩, .int .i64 0], .int .i64 2]) (by simp [results, Tryz.results29, go_sem, q0, q1, q2]) rfl ⟨rfl, ((GB.out.setCell (by simp) _).setCell (by simp) _).setCell (by simp) _⟩
  · have cC := check_at ⟨neg, a, s⟩ (by unfold maxLen; simp only; omega) 2 (chk_bad hv)
    clear h hv
    go_enter Tryz.func29, Tryz.ntmps29
    go_wp2_with fail
    refine (cC _ _ (by simp)).mono ?_
    rintro e w1 ⟨rfl, b1⟩
    have b1 := past (by simp) b1
    have K1 := (Has.new (w.alloc (.cells #[.bool neg, .string a, .int .i64 s] 23)) (.bool false) (.string ⟨#[]⟩) (.int .i64 0) 23).call b1
    rw [World.size_alloc] at K1
    have GB : Hid (Below w.heap.size w w1) := (((Below.refl w.heap.size w).alloc (Nat.le_refl _) _).alloc (by simp) _).trans (b1.mono (by simp; omega))
    obtain ⟨q0, q1, q2, g0, g1, g2, _⟩ := K1
    clear b1 cC
    go_wp2
    exact bodyPost_ret (v := .tuple #[.agg #[.bool false, .string ⟨#[]⟩, .int .i64 0], .int .i64 2]) (by simp [results, Tryz.results29, go_sem, q0, q1, q2]) rfl ⟨rfl, ((GB.out.setCell (by simp) _).setCell (by simp) _).setCell (by simp) _⟩

theorem p_round (a : Dec) (k : Int) (za : a.ds.size ≤ 400) (w : World) (hT : Tabs w) : Calls Tryz.prog 29 #[a.v, .int .i64 k] w fun e w' => e = .returned (roundS a k).v ∧ Below w.heap.size w w' := by
  by_cases hok : Valid a ∧ 0 ≤ k ∧ k ≤ 60
  · have hd : roundS a k = if a.sc ≤ k then ⟨a, 0⟩ else ofOpt (mkDec a.neg (roundTo (num a) (scl a) k.toNat) k.toNat) := by unfold roundS; rw [if_pos hok]
    rw [hd]
    obtain ⟨h, hk0, hk6⟩ := hok
    obtain ⟨k, rfl⟩ : ∃ j : Nat, k = (j : Int) := ⟨k.toNat, by omega⟩
    rw [Int.toNat_natCast]
    have ha := h.is
    have h1 := h.sc
    clear hd h
    generalize num a = n at *
    generalize scl a = s at *
    obtain ⟨neg, d, s1⟩ := a
    simp only at h1 za ⊢
    subst h1
    by_cases hle : (s : Int) ≤ (k : Int)
    · rw [if_pos hle]
      exact round_small neg d s n k ha (by omega) (by omega) w
    · rw [if_neg hle, ← ofOpt_v]
      obtain ⟨j, hj⟩ : ∃ j, s - k = j := ⟨_, rfl⟩
      unfold roundTo
      rw [hj]
      unfold Dec.v
      by_cases hA : 10 ^ j < n % 10 ^ j + n % 10 ^ j
      · rw [if_pos (Or.inl hA)]
        exact round_gt neg d s n k j ha (by omega) (by omega) hA w hT
      · by_cases hB : n % 10 ^ j + n % 10 ^ j = 10 ^ j ∧ n / 10 ^ j % 2 = 1
        · rw [if_pos (Or.inr hB)]
          exact round_odd neg d s n k j ha (by omega) (by omega) hB w hT
        · rw [if_neg (fun hC => hC.elim hA hB)]
          by_cases hC : n % 10 ^ j + n % 10 ^ j = 10 ^ j
          · exact round_even neg d s n k j ha (by omega) (by omega) ⟨hC, by have : ¬ n / 10 ^ j % 2 = 1 := fun h2 => hB ⟨hC, h2⟩; omega⟩ w hT
          · exact round_lt neg d s n k j ha (by omega) (by omega) (by omega) w hT
  · have hd : roundS a k = argRes := by unfold roundS; rw [if_neg hok]
    rw [hd]
    obtain ⟨neg, d, s⟩ := a
    exact round_bad neg d s k za hok w
end Go.Proofs.YtcpociafcjabkaaGreatDoor

/- What the program's functions of package decimal answer, all of them. -/
namespace Go.Proofs.YtcpociafcjabkaaGreatDoor
open Go.RowKit

theorem progOk : ProgOk Tabs where
  below := fun h b => h.next b
  check := fun a w za _ => p_check a za w
  of := fun n w h0 h1 hT => p_of n h0 h1 w hT
  read := fun s w hs hT => p_read s hs w hT
  text := fun a w za _ => p_text a za w
  digits := fun a w za _ => p_digits a za w
  add := fun a b w za zb hT => p_add a b za zb w hT
  sub := fun a b w za zb hT => p_sub a b za zb w hT
  mul := fun a b w za zb hT => p_mul a b za zb w hT
  neg := fun a w za _ => p_neg a za w
  div := fun a b k w za zb _ => p_div a b k za zb w
  round := fun a k w za hT => p_round a k za w hT
  cmp := fun a b w za zb _ => p_cmp a b za zb w
end Go.Proofs.YtcpociafcjabkaaGreatDoor
