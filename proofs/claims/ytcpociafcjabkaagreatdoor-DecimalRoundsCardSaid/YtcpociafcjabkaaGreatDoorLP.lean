/- The law DecimalBounds, where it asks. -/
import Derived.Test.YtcpociafcjabkaaGreatDoorLE
import Derived.Test.YtcpociafcjabkaaGreatDoorLN
set_option linter.unusedSimpArgs false
set_option linter.unusedVariables false
namespace Go.Proofs.YtcpociafcjabkaaGreatDoor
open Go.RowKit

theorem keep5 {P : World → Prop} (ok : ProgOk P) {wk W W' : World} {B0 B1 B2 B3 B4 : Nat} {a00 a01 a02 a10 a11 a12 a20 a21 a22 a30 a31 a32 a40 a41 a42 : Value} (h : W.cell? ⟨B0, 0, none⟩ = some (a00) ∧ W.cell? ⟨B0, 1, none⟩ = some (a01) ∧ W.cell? ⟨B0, 2, none⟩ = some (a02) ∧ W.cell? ⟨B1, 0, none⟩ = some (a10) ∧ W.cell? ⟨B1, 1, none⟩ = some (a11) ∧ W.cell? ⟨B1, 2, none⟩ = some (a12) ∧ W.cell? ⟨B2, 0, none⟩ = some (a20) ∧ W.cell? ⟨B2, 1, none⟩ = some (a21) ∧ W.cell? ⟨B2, 2, none⟩ = some (a22) ∧ W.cell? ⟨B3, 0, none⟩ = some (a30) ∧ W.cell? ⟨B3, 1, none⟩ = some (a31) ∧ W.cell? ⟨B3, 2, none⟩ = some (a32) ∧ W.cell? ⟨B4, 0, none⟩ = some (a40) ∧ W.cell? ⟨B4, 1, none⟩ = some (a41) ∧ W.cell? ⟨B4, 2, none⟩ = some (a42) ∧ P W ∧ Below wk.heap.size wk W) (l0 : B0 < wk.heap.size) (l1 : B1 < wk.heap.size) (l2 : B2 < wk.heap.size) (l3 : B3 < wk.heap.size) (l4 : B4 < wk.heap.size) (b : Below W.heap.size W W') : W'.cell? ⟨B0, 0, none⟩ = some (a00) ∧ W'.cell? ⟨B0, 1, none⟩ = some (a01) ∧ W'.cell? ⟨B0, 2, none⟩ = some (a02) ∧ W'.cell? ⟨B1, 0, none⟩ = some (a10) ∧ W'.cell? ⟨B1, 1, none⟩ = some (a11) ∧ W'.cell? ⟨B1, 2, none⟩ = some (a12) ∧ W'.cell? ⟨B2, 0, none⟩ = some (a20) ∧ W'.cell? ⟨B2, 1, none⟩ = some (a21) ∧ W'.cell? ⟨B2, 2, none⟩ = some (a22) ∧ W'.cell? ⟨B3, 0, none⟩ = some (a30) ∧ W'.cell? ⟨B3, 1, none⟩ = some (a31) ∧ W'.cell? ⟨B3, 2, none⟩ = some (a32) ∧ W'.cell? ⟨B4, 0, none⟩ = some (a40) ∧ W'.cell? ⟨B4, 1, none⟩ = some (a41) ∧ W'.cell? ⟨B4, 2, none⟩ = some (a42) ∧ P W' ∧ Below wk.heap.size wk W' := by
  obtain ⟨h0, h1, h2, h3, h4, h5, h6, h7, h8, h9, h10, h11, h12, h13, h14, hp, hB⟩ := h
  have hz := hB.size
  exact ⟨(b.cell (p := ⟨B0, 0, none⟩) (by show B0 < _; omega)).trans h0, (b.cell (p := ⟨B0, 1, none⟩) (by show B0 < _; omega)).trans h1, (b.cell (p := ⟨B0, 2, none⟩) (by show B0 < _; omega)).trans h2, (b.cell (p := ⟨B1, 0, none⟩) (by show B1 < _; omega)).trans h3, (b.cell (p := ⟨B1, 1, none⟩) (by show B1 < _; omega)).trans h4, (b.cell (p := ⟨B1, 2, none⟩) (by show B1 < _; omega)).trans h5, (b.cell (p := ⟨B2, 0, none⟩) (by show B2 < _; omega)).trans h6, (b.cell (p := ⟨B2, 1, none⟩) (by show B2 < _; omega)).trans h7, (b.cell (p := ⟨B2, 2, none⟩) (by show B2 < _; omega)).trans h8, (b.cell (p := ⟨B3, 0, none⟩) (by show B3 < _; omega)).trans h9, (b.cell (p := ⟨B3, 1, none⟩) (by show B3 < _; omega)).trans h10, (b.cell (p := ⟨B3, 2, none⟩) (by show B3 < _; omega)).trans h11, (b.cell (p := ⟨B4, 0, none⟩) (by show B4 < _; omega)).trans h12, (b.cell (p := ⟨B4, 1, none⟩) (by show B4 < _; omega)).trans h13, (b.cell (p := ⟨B4, 2, none⟩) (by show B4 < _; omega)).trans h14, ok.below hp b, step hB b⟩
theorem keepP5 {P : World → Prop} {wk W : World} {B0 B1 B2 B3 B4 : Nat} {a00 a01 a02 a10 a11 a12 a20 a21 a22 a30 a31 a32 a40 a41 a42 : Value} (h : W.cell? ⟨B0, 0, none⟩ = some (a00) ∧ W.cell? ⟨B0, 1, none⟩ = some (a01) ∧ W.cell? ⟨B0, 2, none⟩ = some (a02) ∧ W.cell? ⟨B1, 0, none⟩ = some (a10) ∧ W.cell? ⟨B1, 1, none⟩ = some (a11) ∧ W.cell? ⟨B1, 2, none⟩ = some (a12) ∧ W.cell? ⟨B2, 0, none⟩ = some (a20) ∧ W.cell? ⟨B2, 1, none⟩ = some (a21) ∧ W.cell? ⟨B2, 2, none⟩ = some (a22) ∧ W.cell? ⟨B3, 0, none⟩ = some (a30) ∧ W.cell? ⟨B3, 1, none⟩ = some (a31) ∧ W.cell? ⟨B3, 2, none⟩ = some (a32) ∧ W.cell? ⟨B4, 0, none⟩ = some (a40) ∧ W.cell? ⟨B4, 1, none⟩ = some (a41) ∧ W.cell? ⟨B4, 2, none⟩ = some (a42) ∧ P W ∧ Below wk.heap.size wk W) : P W := h.2.2.2.2.2.2.2.2.2.2.2.2.2.2.2.1
theorem keepB5 {P : World → Prop} {wk W : World} {B0 B1 B2 B3 B4 : Nat} {a00 a01 a02 a10 a11 a12 a20 a21 a22 a30 a31 a32 a40 a41 a42 : Value} (h : W.cell? ⟨B0, 0, none⟩ = some (a00) ∧ W.cell? ⟨B0, 1, none⟩ = some (a01) ∧ W.cell? ⟨B0, 2, none⟩ = some (a02) ∧ W.cell? ⟨B1, 0, none⟩ = some (a10) ∧ W.cell? ⟨B1, 1, none⟩ = some (a11) ∧ W.cell? ⟨B1, 2, none⟩ = some (a12) ∧ W.cell? ⟨B2, 0, none⟩ = some (a20) ∧ W.cell? ⟨B2, 1, none⟩ = some (a21) ∧ W.cell? ⟨B2, 2, none⟩ = some (a22) ∧ W.cell? ⟨B3, 0, none⟩ = some (a30) ∧ W.cell? ⟨B3, 1, none⟩ = some (a31) ∧ W.cell? ⟨B3, 2, none⟩ = some (a32) ∧ W.cell? ⟨B4, 0, none⟩ = some (a40) ∧ W.cell? ⟨B4, 1, none⟩ = some (a41) ∧ W.cell? ⟨B4, 2, none⟩ = some (a42) ∧ P W ∧ Below wk.heap.size wk W) : Below wk.heap.size wk W := h.2.2.2.2.2.2.2.2.2.2.2.2.2.2.2.2
structure BelowOk (x y : Dec) (also : Bool) : Prop where
  h : ordS x y < 0 ∨ (also = true ∧ ordS x y = 0)
theorem l_below2 {P : World → Prop} (ok : ProgOk P) (xn : Bool) (xd : ByteArray) (xk : Int) (yn : Bool) (yd : ByteArray) (yk : Int) (also : Bool) (ha : Valid ⟨xn, xd, xk⟩) (hb : Valid ⟨yn, yd, yk⟩) (h : BelowOk ⟨xn, xd, xk⟩ ⟨yn, yd, yk⟩ also) (w : World) (hP : P w) : Calls Tryz.prog 33 #[.agg #[.bool xn, .string xd, .int .i64 xk], .agg #[.bool yn, .string yd, .int .i64 yk], .bool also] w fun e w' => e = .returned (.bool true) ∧ Below w.heap.size w w' :=
  l_below ok ⟨xn, xd, xk⟩ ⟨yn, yd, yk⟩ also ha hb h.h w hP

set_option maxRecDepth 100000 in
set_option maxHeartbeats 16000000 in
theorem bounds_main {P : World → Prop} (ok : ProgOk P) (an : Bool) (ad : ByteArray) (ak : Int) (bn : Bool) (bd : ByteArray) (bk : Int) (k : Nat) (hk : k ≤ 10) (za : ad.size ≤ maxLen) (zb : bd.size ≤ maxLen) (ha : Valid ⟨an, ad, ak⟩) (hb : Valid ⟨bn, bd, bk⟩) (g0 : ¬ (20 : Int) < (ad.size : Int)) (g1 : ¬ (20 : Int) < (bd.size : Int)) (g2 : ¬ (10 : Int) < ak) (g3 : ¬ (10 : Int) < bk) (g6 : (bd.toList == [48]) = false) (w : World) (hP : P w) : Calls Tryz.prog 7 #[.agg #[.bool an, .string ad, .int .i64 ak], .agg #[.bool bn, .string bd, .int .i64 bk], .int .i64 (k : Int)] w fun e w' => e = .returned (.bool true) ∧ Below w.heap.size w w' := by
  have HP := Lib.hid hP
  clear hP
  have HA0 : Hid (Has ((w.alloc (.cells #[.bool an, .string ad, .int .i64 ak] 23)).alloc (.cells #[.bool bn, .string bd, .int .i64 bk] 23)) w.heap.size (.bool an) (.string ad) (.int .i64 ak)) := Lib.hid ((Has.new w (.bool an) (.string ad) (.int .i64 ak) 23).alloc (.cells #[.bool bn, .string bd, .int .i64 bk] 23))
  have HB0 : Hid (Has ((w.alloc (.cells #[.bool an, .string ad, .int .i64 ak] 23)).alloc (.cells #[.bool bn, .string bd, .int .i64 bk] 23)) (w.heap.size + 1) (.bool bn) (.string bd) (.int .i64 bk)) := Lib.hid (by have h := (Has.new (w.alloc (.cells #[.bool an, .string ad, .int .i64 ak] 23)) (.bool bn) (.string bd) (.int .i64 bk) 23); simpa using h)
  have HW0 := Lib.hid (stepA (stepA (Below.refl w.heap.size w) (.cells #[.bool an, .string ad, .int .i64 ak] 23)) (.cells #[.bool bn, .string bd, .int .i64 bk] 23))
  have na : num ⟨an, ad, ak⟩ < 10 ^ 20 := Nat.lt_of_lt_of_le ha.is.num.lt (Nat.pow_le_pow_right (by omega) (by simp only; omega))
  have nb : num ⟨bn, bd, bk⟩ < 10 ^ 20 := Nat.lt_of_lt_of_le hb.is.num.lt (Nat.pow_le_pow_right (by omega) (by simp only; omega))
  have sa : scl ⟨an, ad, ak⟩ ≤ 10 := by have := ha.sc; simp only at this; omega
  have sb : scl ⟨bn, bd, bk⟩ ≤ 10 := by have := hb.sc; simp only at this; omega
  have hm : num ⟨bn, bd, bk⟩ ≠ 0 := by have := is_zero hb; simp only at this; rw [g6] at this; exact fun e => by rw [decide_eq_true e] at this; cases this
  obtain ⟨⟨qn, qd, qk⟩, ⟨pn, pd, pk⟩, ⟨rn, rd, rk⟩, ⟨sn, sd, sk⟩, F⟩ : ∃ q p rest small, DivFacts ⟨an, ad, ak⟩ ⟨bn, bd, bk⟩ k q p rest small := ⟨_, _, _, _, div_facts ha hb na nb sa sb hk hm⟩
  obtain ⟨⟨on, od, ok2⟩, ⟨en, ed, ek⟩, ⟨tn, td, tk⟩, G⟩ : ∃ r rest twice, RoundFacts ⟨an, ad, ak⟩ k r rest twice := ⟨_, _, _, round_facts ha na sa hk⟩
  have vu : Valid ⟨false, ⟨#[49]⟩, (k : Int)⟩ := ⟨_, _, unit_is k hk⟩
  have c1 := fun W => ok.check ⟨an, ad, ak⟩ W za
  rw [chkR_ok ha] at c1
  unfold Dec.v at c1
  have c2 := fun W => ok.check ⟨bn, bd, bk⟩ W zb
  rw [chkR_ok hb] at c2
  unfold Dec.v at c2
  have cD := fun W => ok.div ⟨an, ad, ak⟩ ⟨bn, bd, bk⟩ (k : Int) W (Nat.le_trans (Valid.size ha) (by omega)) (Nat.le_trans (Valid.size hb) (by omega))
  rw [F.hq] at cD
  unfold DRes.v Dec.v at cD
  simp only at cD
  have cM := fun W => ok.mul ⟨qn, qd, qk⟩ ⟨bn, bd, bk⟩ W (Nat.le_trans (Valid.size F.vq) (by omega)) (Nat.le_trans (Valid.size hb) (by omega))
  rw [F.hp] at cM
  unfold DRes.v Dec.v at cM
  simp only at cM
  have cS := fun W => ok.sub ⟨an, ad, ak⟩ ⟨pn, pd, pk⟩ W (Nat.le_trans (Valid.size ha) (by omega)) (Nat.le_trans (Valid.size F.vp) (by omega))
  rw [F.hr] at cS
  unfold DRes.v Dec.v at cS
  simp only at cS
  have cU := fun W => ok.mul ⟨bn, bd, bk⟩ ⟨false, ⟨#[49]⟩, (k : Int)⟩ W (Nat.le_trans (Valid.size hb) (by omega)) (Nat.le_trans (Valid.size vu) (by omega))
  rw [F.hs] at cU
  unfold DRes.v Dec.v at cU
  simp only at cU
  have cO := fun W => ok.round ⟨an, ad, ak⟩ (k : Int) W (Nat.le_trans (Valid.size ha) (by omega))
  rw [G.hr] at cO
  unfold DRes.v Dec.v at cO
  simp only at cO
  have cE := fun W => ok.sub ⟨an, ad, ak⟩ ⟨on, od, ok2⟩ W (Nat.le_trans (Valid.size ha) (by omega)) (Nat.le_trans (Valid.size G.vr) (by omega))
  rw [G.hs] at cE
  unfold DRes.v Dec.v at cE
  simp only at cE
  have cT := fun W => ok.add ⟨en, ed, ek⟩ ⟨en, ed, ek⟩ W (Nat.le_trans (Valid.size G.vs) (by omega)) (Nat.le_trans (Valid.size G.vs) (by omega))
  rw [G.ht] at cT
  unfold DRes.v Dec.v at cT
  simp only at cT
  have VP := Lib.hid (F.vp).plain
  have VA := Lib.hid (ha).plain
  have VR := Lib.hid (F.vr).plain
  have VS := Lib.hid (F.vs).plain
  have VT := Lib.hid (G.vt).plain
  have VU := Lib.hid vu
  have H1 : Hid (BelowOk ⟨false, pd, pk⟩ ⟨false, ad, ak⟩ true) := Lib.hid ⟨F.le⟩
  have H2 : Hid (BelowOk ⟨false, rd, rk⟩ ⟨false, sd, sk⟩ false) := Lib.hid ⟨F.lt⟩
  have H3 : Hid (BelowOk ⟨false, td, tk⟩ ⟨false, ⟨#[49]⟩, (k : Int)⟩ true) := Lib.hid ⟨G.le⟩
  have k1 : qk ≤ (k : Int) := F.sc
  have k2 : ok2 ≤ (k : Int) := G.sc
  have k3 : (k : Int) ≤ 10 := by omega
  have k4 : (0 : Int) ≤ (k : Int) := by omega
  have k5 : ¬ (k : Int) < qk := by omega
  unfold plainD at VP VA VR VS VT
  simp only at VP VA VR VS VT
  clear F G ha hb na nb sa sb hm vu hk za zb
  go_enter Tryz.func7, Tryz.ntmps7
  have GA := HA0
  have GB := HB0
  have GW := HW0
  clear HA0 HB0 HW0
  obtain ⟨dA0, dA1, dA2, _⟩ := GA.out
  go_wp2_with fail
  refine (c1 _ (ok.below HP.out GW.out)).mono ?_
  rintro e w1 ⟨rfl, b1⟩
  have HA1 := Lib.hid (GA.out.call b1)
  have HB1 := Lib.hid (GB.out.call b1)
  have HW1 := Lib.hid (step GW.out b1)
  clear b1 GW GA GB dA0 dA1 dA2
  have GA := HA1
  have GB := HB1
  have GW := HW1
  clear HA1 HB1 HW1
  obtain ⟨dA0, dA1, dA2, _⟩ := GA.out
  obtain ⟨dB0, dB1, dB2, _⟩ := GB.out
  go_wp2_with fail
  refine (c2 _ (ok.below HP.out GW.out)).mono ?_
  rintro e w2 ⟨rfl, b2⟩
  have HA2 := Lib.hid (GA.out.call b2)
  have HB2 := Lib.hid (GB.out.call b2)
  have HW2 := Lib.hid (step GW.out b2)
  clear b2 GW GA GB dA0 dA1 dA2 dB0 dB1 dB2
  obtain ⟨cA0, cA1, cA2, zA0, zA1, zA2, _⟩ := HA2.out
  obtain ⟨cB0, cB1, cB2, zB0, zB1, zB2, _⟩ := HB2.out
  have GA := Lib.hid (HA2.out.alloc (.cells #[.bool false, .string ⟨#[49]⟩, .int .i64 (k : Int)] 23))
  have GB := Lib.hid (HB2.out.alloc (.cells #[.bool false, .string ⟨#[49]⟩, .int .i64 (k : Int)] 23))
  have GU := Lib.hid (Has.new w2 (.bool false) (.string ⟨#[49]⟩) (.int .i64 (k : Int)) 23)
  have GW := Lib.hid (stepA HW2.out (.cells #[.bool false, .string ⟨#[49]⟩, .int .i64 (k : Int)] 23))
  have le_U : w.heap.size ≤ w2.heap.size := HW2.out.size
  have ne_U_A : w2.heap.size ≠ w.heap.size := by have := HA2.out.lt; omega
  have nf_U_A : w.heap.size ≠ w2.heap.size := by have := HA2.out.lt; omega
  have ne_U_B : w2.heap.size ≠ (w.heap.size + 1) := by have := HB2.out.lt; omega
  have nf_U_B : (w.heap.size + 1) ≠ w2.heap.size := by have := HB2.out.lt; omega
  clear HA2 HB2 HW2
  obtain ⟨dA0, dA1, dA2, _⟩ := GA.out
  obtain ⟨dB0, dB1, dB2, _⟩ := GB.out
  go_wp2_with fail
  refine (cD _ (ok.below HP.out GW.out)).mono ?_
  rintro e w3 ⟨rfl, b3⟩
  have HA3 := Lib.hid (GA.out.call b3)
  have HB3 := Lib.hid (GB.out.call b3)
  have HU3 := Lib.hid (GU.out.call b3)
  have HW3 := Lib.hid (step GW.out b3)
  clear b3 GW GA GB GU dA0 dA1 dA2 dB0 dB1 dB2 cA0 cA1 cA2 zA0 zA1 zA2 cB0 cB1 cB2 zB0 zB1 zB2
  have GA := Lib.hid (HA3.out.alloc (.cells #[.bool qn, .string qd, .int .i64 qk] 23))
  have GB := Lib.hid (HB3.out.alloc (.cells #[.bool qn, .string qd, .int .i64 qk] 23))
  have GU := Lib.hid (HU3.out.alloc (.cells #[.bool qn, .string qd, .int .i64 qk] 23))
  have GQ := Lib.hid (Has.new w3 (.bool qn) (.string qd) (.int .i64 qk) 23)
  have GW := Lib.hid (stepA HW3.out (.cells #[.bool qn, .string qd, .int .i64 qk] 23))
  have le_Q : w.heap.size ≤ w3.heap.size := HW3.out.size
  have ne_Q_A : w3.heap.size ≠ w.heap.size := by have := HA3.out.lt; omega
  have nf_Q_A : w.heap.size ≠ w3.heap.size := by have := HA3.out.lt; omega
  have ne_Q_B : w3.heap.size ≠ (w.heap.size + 1) := by have := HB3.out.lt; omega
  have nf_Q_B : (w.heap.size + 1) ≠ w3.heap.size := by have := HB3.out.lt; omega
  have ne_Q_U : w3.heap.size ≠ w2.heap.size := by have := HU3.out.lt; omega
  have nf_Q_U : w2.heap.size ≠ w3.heap.size := by have := HU3.out.lt; omega
  clear HA3 HB3 HU3 HW3
  obtain ⟨dB0, dB1, dB2, _⟩ := GB.out
  obtain ⟨dQ0, dQ1, dQ2, _⟩ := GQ.out
  go_wp2_with fail
  refine (cM _ (ok.below HP.out GW.out)).mono ?_
  rintro e w4 ⟨rfl, b4⟩
  have HA4 := Lib.hid (GA.out.call b4)
  have HB4 := Lib.hid (GB.out.call b4)
  have HU4 := Lib.hid (GU.out.call b4)
  have HQ4 := Lib.hid (GQ.out.call b4)
  have HW4 := Lib.hid (step GW.out b4)
  clear b4 GW GA GB GU GQ dB0 dB1 dB2 dQ0 dQ1 dQ2
  have GA := Lib.hid (HA4.out.alloc (.cells #[.bool pn, .string pd, .int .i64 pk] 23))
  have GB := Lib.hid (HB4.out.alloc (.cells #[.bool pn, .string pd, .int .i64 pk] 23))
  have GU := Lib.hid (HU4.out.alloc (.cells #[.bool pn, .string pd, .int .i64 pk] 23))
  have GQ := Lib.hid (HQ4.out.alloc (.cells #[.bool pn, .string pd, .int .i64 pk] 23))
  have GP := Lib.hid (Has.new w4 (.bool pn) (.string pd) (.int .i64 pk) 23)
  have GW := Lib.hid (stepA HW4.out (.cells #[.bool pn, .string pd, .int .i64 pk] 23))
  have le_P : w.heap.size ≤ w4.heap.size := HW4.out.size
  have ne_P_A : w4.heap.size ≠ w.heap.size := by have := HA4.out.lt; omega
  have nf_P_A : w.heap.size ≠ w4.heap.size := by have := HA4.out.lt; omega
  have ne_P_B : w4.heap.size ≠ (w.heap.size + 1) := by have := HB4.out.lt; omega
  have nf_P_B : (w.heap.size + 1) ≠ w4.heap.size := by have := HB4.out.lt; omega
  have ne_P_U : w4.heap.size ≠ w2.heap.size := by have := HU4.out.lt; omega
  have nf_P_U : w2.heap.size ≠ w4.heap.size := by have := HU4.out.lt; omega
  have ne_P_Q : w4.heap.size ≠ w3.heap.size := by have := HQ4.out.lt; omega
  have nf_P_Q : w3.heap.size ≠ w4.heap.size := by have := HQ4.out.lt; omega
  clear HA4 HB4 HU4 HQ4 HW4
  obtain ⟨dA0, dA1, dA2, _⟩ := GA.out
  obtain ⟨dP0, dP1, dP2, _⟩ := GP.out
  go_wp2_with fail
  refine (cS _ (ok.below HP.out GW.out)).mono ?_
  rintro e w5 ⟨rfl, b5⟩
  have HA5 := Lib.hid (GA.out.call b5)
  have HB5 := Lib.hid (GB.out.call b5)
  have HU5 := Lib.hid (GU.out.call b5)
  have HQ5 := Lib.hid (GQ.out.call b5)
  have HP5 := Lib.hid (GP.out.call b5)
  have HW5 := Lib.hid (step GW.out b5)
  clear b5 GW GA GB GU GQ GP dA0 dA1 dA2 dP0 dP1 dP2
  have GA := Lib.hid (HA5.out.alloc (.cells #[.bool rn, .string rd, .int .i64 rk] 23))
  have GB := Lib.hid (HB5.out.alloc (.cells #[.bool rn, .string rd, .int .i64 rk] 23))
  have GU := Lib.hid (HU5.out.alloc (.cells #[.bool rn, .string rd, .int .i64 rk] 23))
  have GQ := Lib.hid (HQ5.out.alloc (.cells #[.bool rn, .string rd, .int .i64 rk] 23))
  have GP := Lib.hid (HP5.out.alloc (.cells #[.bool rn, .string rd, .int .i64 rk] 23))
  have GR := Lib.hid (Has.new w5 (.bool rn) (.string rd) (.int .i64 rk) 23)
  have GW := Lib.hid (stepA HW5.out (.cells #[.bool rn, .string rd, .int .i64 rk] 23))
  have le_R : w.heap.size ≤ w5.heap.size := HW5.out.size
  have ne_R_A : w5.heap.size ≠ w.heap.size := by have := HA5.out.lt; omega
  have nf_R_A : w.heap.size ≠ w5.heap.size := by have := HA5.out.lt; omega
  have ne_R_B : w5.heap.size ≠ (w.heap.size + 1) := by have := HB5.out.lt; omega
  have nf_R_B : (w.heap.size + 1) ≠ w5.heap.size := by have := HB5.out.lt; omega
  have ne_R_U : w5.heap.size ≠ w2.heap.size := by have := HU5.out.lt; omega
  have nf_R_U : w2.heap.size ≠ w5.heap.size := by have := HU5.out.lt; omega
  have ne_R_Q : w5.heap.size ≠ w3.heap.size := by have := HQ5.out.lt; omega
  have nf_R_Q : w3.heap.size ≠ w5.heap.size := by have := HQ5.out.lt; omega
  have ne_R_P : w5.heap.size ≠ w4.heap.size := by have := HP5.out.lt; omega
  have nf_R_P : w4.heap.size ≠ w5.heap.size := by have := HP5.out.lt; omega
  clear HA5 HB5 HU5 HQ5 HP5 HW5
  obtain ⟨dB0, dB1, dB2, _⟩ := GB.out
  obtain ⟨dU0, dU1, dU2, _⟩ := GU.out
  go_wp2_with fail
  refine (cU _ (ok.below HP.out GW.out)).mono ?_
  rintro e w6 ⟨rfl, b6⟩
  have HA6 := Lib.hid (GA.out.call b6)
  have HB6 := Lib.hid (GB.out.call b6)
  have HU6 := Lib.hid (GU.out.call b6)
  have HQ6 := Lib.hid (GQ.out.call b6)
  have HP6 := Lib.hid (GP.out.call b6)
  have HR6 := Lib.hid (GR.out.call b6)
  have HW6 := Lib.hid (step GW.out b6)
  clear b6 GW GA GB GU GQ GP GR dB0 dB1 dB2 dU0 dU1 dU2
  have GA := Lib.hid (HA6.out.alloc (.cells #[.bool sn, .string sd, .int .i64 sk] 23))
  have GB := Lib.hid (HB6.out.alloc (.cells #[.bool sn, .string sd, .int .i64 sk] 23))
  have GU := Lib.hid (HU6.out.alloc (.cells #[.bool sn, .string sd, .int .i64 sk] 23))
  have GQ := Lib.hid (HQ6.out.alloc (.cells #[.bool sn, .string sd, .int .i64 sk] 23))
  have GP := Lib.hid (HP6.out.alloc (.cells #[.bool sn, .string sd, .int .i64 sk] 23))
  have GR := Lib.hid (HR6.out.alloc (.cells #[.bool sn, .string sd, .int .i64 sk] 23))
  have GS := Lib.hid (Has.new w6 (.bool sn) (.string sd) (.int .i64 sk) 23)
  have GW := Lib.hid (stepA HW6.out (.cells #[.bool sn, .string sd, .int .i64 sk] 23))
  have le_S : w.heap.size ≤ w6.heap.size := HW6.out.size
  have ne_S_A : w6.heap.size ≠ w.heap.size := by have := HA6.out.lt; omega
  have nf_S_A : w.heap.size ≠ w6.heap.size := by have := HA6.out.lt; omega
  have ne_S_B : w6.heap.size ≠ (w.heap.size + 1) := by have := HB6.out.lt; omega
  have nf_S_B : (w.heap.size + 1) ≠ w6.heap.size := by have := HB6.out.lt; omega
  have ne_S_U : w6.heap.size ≠ w2.heap.size := by have := HU6.out.lt; omega
  have nf_S_U : w2.heap.size ≠ w6.heap.size := by have := HU6.out.lt; omega
  have ne_S_Q : w6.heap.size ≠ w3.heap.size := by have := HQ6.out.lt; omega
  have nf_S_Q : w3.heap.size ≠ w6.heap.size := by have := HQ6.out.lt; omega
  have ne_S_P : w6.heap.size ≠ w4.heap.size := by have := HP6.out.lt; omega
  have nf_S_P : w4.heap.size ≠ w6.heap.size := by have := HP6.out.lt; omega
  have ne_S_R : w6.heap.size ≠ w5.heap.size := by have := HR6.out.lt; omega
  have nf_S_R : w5.heap.size ≠ w6.heap.size := by have := HR6.out.lt; omega
  clear HA6 HB6 HU6 HQ6 HP6 HR6 HW6
  go_wp2_with fail
  generalize hWW : w6.alloc (.cells #[.bool sn, .string sd, .int .i64 sk] 23) = WW at *
  clear hWW
  have m0 : w4.heap.size < WW.heap.size := GP.out.lt
  have m1 : w.heap.size < WW.heap.size := GA.out.lt
  have m2 : w5.heap.size < WW.heap.size := GR.out.lt
  have m3 : w6.heap.size < WW.heap.size := GS.out.lt
  have m4 : w3.heap.size < WW.heap.size := GQ.out.lt
  obtain ⟨dP0, dP1, dP2, _⟩ := GP.out
  obtain ⟨dA0, dA1, dA2, _⟩ := GA.out
  obtain ⟨dR0, dR1, dR2, _⟩ := GR.out
  obtain ⟨dS0, dS1, dS2, _⟩ := GS.out
  obtain ⟨dQ0, dQ1, dQ2, _⟩ := GQ.out
  have KS := Lib.hid (And.intro dP0 (And.intro dP1 (And.intro dP2 (And.intro dA0 (And.intro dA1 (And.intro dA2 (And.intro dR0 (And.intro dR1 (And.intro dR2 (And.intro dS0 (And.intro dS1 (And.intro dS2 (And.intro dQ0 (And.intro dQ1 (And.intro dQ2 (And.intro (ok.below HP.out GW.out) (Below.refl WW.heap.size WW)))))))))))))))))
  clear dP0 dP1 dP2 dA0 dA1 dA2 dR0 dR1 dR2 dS0 dS1 dS2 dQ0 dQ1 dQ2
  go_region_held3 (fun W => W.cell? ⟨w4.heap.size, 0, none⟩ = some (.bool pn) ∧ W.cell? ⟨w4.heap.size, 1, none⟩ = some (.string pd) ∧ W.cell? ⟨w4.heap.size, 2, none⟩ = some (.int .i64 pk) ∧ W.cell? ⟨w.heap.size, 0, none⟩ = some (.bool an) ∧ W.cell? ⟨w.heap.size, 1, none⟩ = some (.string ad) ∧ W.cell? ⟨w.heap.size, 2, none⟩ = some (.int .i64 ak) ∧ W.cell? ⟨w5.heap.size, 0, none⟩ = some (.bool rn) ∧ W.cell? ⟨w5.heap.size, 1, none⟩ = some (.string rd) ∧ W.cell? ⟨w5.heap.size, 2, none⟩ = some (.int .i64 rk) ∧ W.cell? ⟨w6.heap.size, 0, none⟩ = some (.bool sn) ∧ W.cell? ⟨w6.heap.size, 1, none⟩ = some (.string sd) ∧ W.cell? ⟨w6.heap.size, 2, none⟩ = some (.int .i64 sk) ∧ W.cell? ⟨w3.heap.size, 0, none⟩ = some (.bool qn) ∧ W.cell? ⟨w3.heap.size, 1, none⟩ = some (.string qd) ∧ W.cell? ⟨w3.heap.size, 2, none⟩ = some (.int .i64 qk) ∧ P W ∧ Below WW.heap.size WW W)
    (first | exact keep5 ok KS.out m0 m1 m2 m3 m4 (below_drew1 _) | exact keep5 ok (by assumption) m0 m1 m2 m3 m4 u2 | exact keep5 ok (by assumption) m0 m1 m2 m3 m4 u1)
    (first
      | (go_at_call 34; refine (l_plain _ _ _ _).mono ?_; rintro e v1 ⟨rfl, u1⟩)
      | (go_at_call 33; refine (l_below2 ok _ _ _ _ _ _ _ (by first | exact VP.out | exact VR.out) (by first | exact VA.out | exact VS.out) (by first | exact H1.out | exact H2.out) _ (keepP5 (by assumption))).mono ?_; rintro e w7 ⟨rfl, u2⟩))
  rename_i hh
  have hW : Below WW.heap.size WW w7 := keepB5 (P := P) hh
  clear hh KS
  have HA7 := Lib.hid (GA.out.call hW)
  have HB7 := Lib.hid (GB.out.call hW)
  have HU7 := Lib.hid (GU.out.call hW)
  have HQ7 := Lib.hid (GQ.out.call hW)
  have HP7 := Lib.hid (GP.out.call hW)
  have HR7 := Lib.hid (GR.out.call hW)
  have HS7 := Lib.hid (GS.out.call hW)
  have HW7 := Lib.hid (step GW.out hW)
  clear hW GW GA GB GU GQ GP GR GS m0 m1 m2 m3 m4
  have GA := HA7
  have GB := HB7
  have GU := HU7
  have GQ := HQ7
  have GP := HP7
  have GR := HR7
  have GS := HS7
  have GW := HW7
  clear HA7 HB7 HU7 HQ7 HP7 HR7 HS7 HW7
  obtain ⟨dA0, dA1, dA2, _⟩ := GA.out
  go_wp2_with fail
  refine (cO _ (ok.below HP.out GW.out)).mono ?_
  rintro e w8 ⟨rfl, b8⟩
  have HA8 := Lib.hid (GA.out.call b8)
  have HU8 := Lib.hid (GU.out.call b8)
  have HR8 := Lib.hid (GR.out.call b8)
  have HW8 := Lib.hid (step GW.out b8)
  clear b8 GW GA GB GU GQ GP GR GS dA0 dA1 dA2
  have GA := Lib.hid (HA8.out.alloc (.cells #[.bool on, .string od, .int .i64 ok2] 23))
  have GU := Lib.hid (HU8.out.alloc (.cells #[.bool on, .string od, .int .i64 ok2] 23))
  have GR := Lib.hid (HR8.out.alloc (.cells #[.bool on, .string od, .int .i64 ok2] 23))
  have GO := Lib.hid (Has.new w8 (.bool on) (.string od) (.int .i64 ok2) 23)
  have GW := Lib.hid (stepA HW8.out (.cells #[.bool on, .string od, .int .i64 ok2] 23))
  have le_O : w.heap.size ≤ w8.heap.size := HW8.out.size
  have ne_O_A : w8.heap.size ≠ w.heap.size := by have := HA8.out.lt; omega
  have nf_O_A : w.heap.size ≠ w8.heap.size := by have := HA8.out.lt; omega
  have ne_O_U : w8.heap.size ≠ w2.heap.size := by have := HU8.out.lt; omega
  have nf_O_U : w2.heap.size ≠ w8.heap.size := by have := HU8.out.lt; omega
  have ne_O_R : w8.heap.size ≠ w5.heap.size := by have := HR8.out.lt; omega
  have nf_O_R : w5.heap.size ≠ w8.heap.size := by have := HR8.out.lt; omega
  clear HA8 HU8 HR8 HW8
  obtain ⟨dA0, dA1, dA2, _⟩ := GA.out
  obtain ⟨dO0, dO1, dO2, _⟩ := GO.out
  go_wp2_with fail
  refine (cE _ (ok.below HP.out GW.out)).mono ?_
  rintro e w9 ⟨rfl, b9⟩
  have HU9 := Lib.hid (GU.out.call b9)
  have HR9 := Lib.hid (GR.out.call b9)
  have HO9 := Lib.hid (GO.out.call b9)
  have HW9 := Lib.hid (step GW.out b9)
  clear b9 GW GA GU GR GO dA0 dA1 dA2 dO0 dO1 dO2
  obtain ⟨cR0, cR1, cR2, zR0, zR1, zR2, _⟩ := HR9.out
  have GU := Lib.hid (HU9.out.far ne_R_U (.bool en) (.string ed) (.int .i64 ek))
  have GR := Lib.hid (HR9.out.set (.bool en) (.string ed) (.int .i64 ek))
  have GO := Lib.hid (HO9.out.far nf_O_R (.bool en) (.string ed) (.int .i64 ek))
  have GW := Lib.hid (stepS HW9.out le_R (.bool en) (.string ed) (.int .i64 ek))
  clear HU9 HR9 HO9 HW9
  obtain ⟨dR0, dR1, dR2, _⟩ := GR.out
  go_wp2_with fail
  refine (cT _ (ok.below HP.out GW.out)).mono ?_
  rintro e w10 ⟨rfl, b10⟩
  have HU10 := Lib.hid (GU.out.call b10)
  have HR10 := Lib.hid (GR.out.call b10)
  have HO10 := Lib.hid (GO.out.call b10)
  have HW10 := Lib.hid (step GW.out b10)
  clear b10 GW GU GR GO dR0 dR1 dR2 cR0 cR1 cR2 zR0 zR1 zR2
  have GU := Lib.hid (HU10.out.alloc (.cells #[.bool tn, .string td, .int .i64 tk] 23))
  have GR := Lib.hid (HR10.out.alloc (.cells #[.bool tn, .string td, .int .i64 tk] 23))
  have GO := Lib.hid (HO10.out.alloc (.cells #[.bool tn, .string td, .int .i64 tk] 23))
  have GT := Lib.hid (Has.new w10 (.bool tn) (.string td) (.int .i64 tk) 23)
  have GW := Lib.hid (stepA HW10.out (.cells #[.bool tn, .string td, .int .i64 tk] 23))
  have le_T : w.heap.size ≤ w10.heap.size := HW10.out.size
  have ne_T_U : w10.heap.size ≠ w2.heap.size := by have := HU10.out.lt; omega
  have nf_T_U : w2.heap.size ≠ w10.heap.size := by have := HU10.out.lt; omega
  have ne_T_R : w10.heap.size ≠ w5.heap.size := by have := HR10.out.lt; omega
  have nf_T_R : w5.heap.size ≠ w10.heap.size := by have := HR10.out.lt; omega
  have ne_T_O : w10.heap.size ≠ w8.heap.size := by have := HO10.out.lt; omega
  have nf_T_O : w8.heap.size ≠ w10.heap.size := by have := HO10.out.lt; omega
  clear HU10 HR10 HO10 HW10
  go_wp2_with fail
  generalize hWW : w10.alloc (.cells #[.bool tn, .string td, .int .i64 tk] 23) = WX at *
  clear hWW
  have m0 : w8.heap.size < WX.heap.size := GO.out.lt
  have m1 : w10.heap.size < WX.heap.size := GT.out.lt
  have m2 : w2.heap.size < WX.heap.size := GU.out.lt
  obtain ⟨dO0, dO1, dO2, _⟩ := GO.out
  obtain ⟨dT0, dT1, dT2, _⟩ := GT.out
  obtain ⟨dU0, dU1, dU2, _⟩ := GU.out
  have KS := Lib.hid (And.intro dO0 (And.intro dO1 (And.intro dO2 (And.intro dT0 (And.intro dT1 (And.intro dT2 (And.intro dU0 (And.intro dU1 (And.intro dU2 (And.intro (ok.below HP.out GW.out) (Below.refl WX.heap.size WX)))))))))))
  clear dO0 dO1 dO2 dT0 dT1 dT2 dU0 dU1 dU2
  go_region_held3 (fun W => W.cell? ⟨w8.heap.size, 0, none⟩ = some (.bool on) ∧ W.cell? ⟨w8.heap.size, 1, none⟩ = some (.string od) ∧ W.cell? ⟨w8.heap.size, 2, none⟩ = some (.int .i64 ok2) ∧ W.cell? ⟨w10.heap.size, 0, none⟩ = some (.bool tn) ∧ W.cell? ⟨w10.heap.size, 1, none⟩ = some (.string td) ∧ W.cell? ⟨w10.heap.size, 2, none⟩ = some (.int .i64 tk) ∧ W.cell? ⟨w2.heap.size, 0, none⟩ = some (.bool false) ∧ W.cell? ⟨w2.heap.size, 1, none⟩ = some (.string ⟨#[49]⟩) ∧ W.cell? ⟨w2.heap.size, 2, none⟩ = some (.int .i64 (k : Int)) ∧ P W ∧ Below WX.heap.size WX W)
    (first | exact keep3 ok KS.out m0 m1 m2 (below_drew1 _) | exact keep3 ok (by assumption) m0 m1 m2 u3 | exact keep3 ok (by assumption) m0 m1 m2 u2 | exact keep3 ok (by assumption) m0 m1 m2 u1)
    (first
      | (go_at_call 34; refine (l_plain _ _ _ _).mono ?_; rintro e v1 ⟨rfl, u1⟩)
      | (go_at_call 33; refine (l_below2 ok _ _ _ _ _ _ _ VT.out VU.out H3.out _ (keepP3 (by assumption))).mono ?_; rintro e v2 ⟨rfl, u2⟩)
      | (go_at_call 8; refine (shown_any ok _ (keepP3 (by assumption))).mono ?_; rintro e v3 ⟨rfl, u3⟩))
  all_goals go_wp2
  all_goals go_ret
  all_goals exact ⟨rfl, step GW.out (keepB3 (by assumption))⟩
end Go.Proofs.YtcpociafcjabkaaGreatDoor
