/- The law of P2.6: true at every input. -/
import Derived.Test.YtiefpdoefdldpaaDoorY6
namespace Go.Proofs.YtiefpdoefdldpaaDoor
open Go.RowKit

theorem text_back {s : ByteArray} {zs : List Int} (h : encAll zs = s.data.toList) : ByteArray.mk (encAll zs).toArray = s := bytes_ext (by simpa using h)

set_option maxRecDepth 100000 in
set_option maxHeartbeats 8000000 in
theorem back_bad_bad (s : ByteArray) (v : Value) (zs : List Int) (w : World) (h1 : s.size ≤ 5000) (h2 : zs.length ≤ 5000) (hv : ListAt w v zs) (hT : Tabs w) (hb : decBad s.data.toList = true) (hz : zs.all vldB = false) : Calls Tryd.prog 6 #[.string s, v] w fun e w' => e = .returned (.bool true) ∧ Below w.heap.size w w' := by
  have hsz := hT.size
  have h1' : ¬ ((5000 : Int) < (s.size : Int)) := by omega
  have h2' : ¬ ((5000 : Int) < (zs.length : Int)) := by omega
  have hlen : s.data.toList.length = s.size := by simp
  have hdl := decL_len s.data.toList
  have cD := (decode_any s w (by omega) hT).mono fun e w' h => dec_form h
  have cEsc := fun attr W hTW => (escape_any s attr W (by omega) hTW).mono fun e w' h => esc_form h
  have cSq := fun W hTW => squeezed_any s W h1 hTW
  have cE2 := fun W hTW hvW => (encode_any zs v W hTW (by omega) hvW).mono fun e w' h => enc_form h
  have eQ : decQ s.data.toList = 6 := by unfold decQ; rw [hb]; rfl
  have eS : sqQ s.data.toList = 6 := by unfold sqQ; rw [hb]; rfl
  rw [eQ] at cD
  rw [eS] at cEsc
  generalize decP s.data.toList = dp at cD
  have zQ : encQ zs = 2 := by unfold encQ; rw [hz]; rfl
  rw [zQ] at cE2
  generalize encZ zs = ez at cE2
  have HV := Lib.hid hv
  obtain ⟨a, c, rfl⟩ := hv.form
  clear hv hb hz hdl hlen eQ eS zQ
  go_enter Tryd.func6, Tryd.ntmps6
  go_wp2_with fail
  refine cD.mono ?_
  rintro e w1 ⟨v1, rfl, o1, b1⟩
  have hT1 := hT.below b1 hsz
  have hv1 := HV.out.below b1
  clear cD
  obtain ⟨w2, hw2⟩ : ∃ w2, w2 = w1 := ⟨_, rfl⟩
  have b12 : Below w.heap.size w w2 := hw2 ▸ b1
  have hT2 : Tabs w2 := hw2 ▸ hT1
  have hv2 : ListAt w2 (.slice a zs.length c) zs := hw2 ▸ hv1
  clear o1
  subst hw2
  go_wp2_with fail
  refine (cE2 w2 hT2 hv2).mono ?_
  rintro e w3 ⟨rfl, b3⟩
  have hT3 := hT2.below b3 hT2.size
  have hv3 := hv2.below b3
  have b13 := b12.trans (b3.mono b12.size)
  clear cE2
  have HB := Lib.hid b13
  clear b13 b12 b3 hv3 hv2 hv1 hT1 hT2 hT3
  go_wp2_with fail
  go_loopg [14] 3 (fun gk v14 wr => ∃ k : Nat, v14 = .int .i64 (k : Int) ∧ k ≤ 2 ∧ gk + k = 3 ∧ Below w.heap.size w wr)
  case atStart => exact ⟨0, rfl, by omega, rfl, HB.out⟩
  case round =>
    clear HB
    obtain ⟨k, rfl, hk, hgk, hB⟩ := hrel
    have hTr := hT.below hB hsz
    have hcase : k = 0 ∨ k = 1 ∨ k = 2 := by omega
    rcases hcase with rfl | rfl | rfl
    · have cX := cEsc false wr hTr
      go_wp2_with (go_at_call 23; refine cX.mono ?_; rintro e w5 ⟨rfl, b5⟩)
      go_roundg 2
      case measure => omega
      case rel => exact ⟨1, rfl, by omega, rfl, hB.trans (b5.mono hB.size)⟩
    · have cX := cEsc true wr hTr
      go_wp2_with (go_at_call 23; refine cX.mono ?_; rintro e w5 ⟨rfl, b5⟩)
      go_roundg 1
      case measure => omega
      case rel => exact ⟨2, rfl, by omega, rfl, hB.trans (b5.mono hB.size)⟩
    · have cX := cSq wr hTr
      go_wp2_with fail
      refine cX.mono ?_
      rintro e w5 ⟨rfl, b5⟩
      have hT5 := hTr.below b5 hTr.size
      go_wp2_with fail
      refine (shown_any w5 hT5).mono ?_
      rintro e w6 ⟨rfl, b6⟩
      go_wp2
      go_ret
      exact ⟨rfl, hB.trans ((b5.trans (b6.mono b5.size)).mono hB.size)⟩

set_option maxRecDepth 100000 in
set_option maxHeartbeats 8000000 in
theorem back_bad_good (s : ByteArray) (v : Value) (zs : List Int) (w : World) (h1 : s.size ≤ 5000) (h2 : zs.length ≤ 5000) (hv : ListAt w v zs) (hT : Tabs w) (hb : decBad s.data.toList = true) (hz : zs.all vldB = true) : Calls Tryd.prog 6 #[.string s, v] w fun e w' => e = .returned (.bool true) ∧ Below w.heap.size w w' := by
  have hsz := hT.size
  have h1' : ¬ ((5000 : Int) < (s.size : Int)) := by omega
  have h2' : ¬ ((5000 : Int) < (zs.length : Int)) := by omega
  have hlen : s.data.toList.length = s.size := by simp
  have hdl := decL_len s.data.toList
  have cD := (decode_any s w (by omega) hT).mono fun e w' h => dec_form h
  have cEsc := fun attr W hTW => (escape_any s attr W (by omega) hTW).mono fun e w' h => esc_form h
  have cSq := fun W hTW => squeezed_any s W h1 hTW
  have cE2 := fun W hTW hvW => (encode_any zs v W hTW (by omega) hvW).mono fun e w' h => enc_form h
  have eQ : decQ s.data.toList = 6 := by unfold decQ; rw [hb]; rfl
  have eS : sqQ s.data.toList = 6 := by unfold sqQ; rw [hb]; rfl
  rw [eQ] at cD
  rw [eS] at cEsc
  generalize decP s.data.toList = dp at cD
  have zQ : encQ zs = 0 := by unfold encQ; rw [hz]; rfl
  rw [zQ] at cE2
  obtain ⟨z1, z2⟩ := back_list hz
  have hT4 := encAll_len zs
  obtain ⟨T, hTT⟩ : ∃ T, ByteArray.mk (encAll zs).toArray = T := ⟨_, rfl⟩
  have eTl : T.data.toList = encAll zs := by rw [← hTT]
  have eTz : T.size ≤ 20000 := by
    have : T.size = T.data.toList.length := by simp
    rw [this, eTl]
    omega
  have eEZ : encZ zs = T := by unfold encZ; rw [hz, ← hTT]; rfl
  rw [eEZ] at cE2
  have cD2 := fun W hTW => (decode_any T W (by omega) hTW).mono fun e w' h => dec_form h
  have dQ : decQ T.data.toList = 0 := by rw [eTl]; unfold decQ; rw [z1]; rfl
  have dL : decL T.data.toList = zs := by rw [eTl]; exact z2
  rw [dQ, dL] at cD2
  generalize decP T.data.toList = tp at cD2
  have cSame := fun (W : World) (u u' : Value) h h' => same_list (w := W) (v := u) (v' := u') zs (by omega) h h'
  have CSame := Lib.hid cSame
  clear z1 z2 hT4 hTT eTl eTz eEZ dQ dL cSame
  have HV := Lib.hid hv
  obtain ⟨a, c, rfl⟩ := hv.form
  clear hv hb hz hdl hlen eQ eS zQ
  go_enter Tryd.func6, Tryd.ntmps6
  go_wp2_with fail
  refine cD.mono ?_
  rintro e w1 ⟨v1, rfl, o1, b1⟩
  have hT1 := hT.below b1 hsz
  have hv1 := HV.out.below b1
  clear cD
  obtain ⟨w2, hw2⟩ : ∃ w2, w2 = w1 := ⟨_, rfl⟩
  have b12 : Below w.heap.size w w2 := hw2 ▸ b1
  have hT2 : Tabs w2 := hw2 ▸ hT1
  have hv2 : ListAt w2 (.slice a zs.length c) zs := hw2 ▸ hv1
  clear o1
  subst hw2
  go_wp2_with fail
  refine (cE2 w2 hT2 hv2).mono ?_
  rintro e w3 ⟨rfl, b3⟩
  have hT3 := hT2.below b3 hT2.size
  have hv3 := hv2.below b3
  have b13 := b12.trans (b3.mono b12.size)
  clear cE2
  go_wp2_with fail
  refine (cD2 w3 hT3).mono ?_
  rintro e w4 ⟨v4, rfl, o4, b4⟩
  have hv4 := hv3.below b4
  have l4 := ListAt.own o4
  have b14 := b13.trans (b4.mono b13.size)
  obtain ⟨a4, c4, rfl⟩ := l4.form
  clear cD2 o4
  go_wp2_with fail
  refine (CSame.out w4 _ _ l4 hv4).mono ?_
  rintro e w5 ⟨rfl, b5⟩
  have HB := Lib.hid (b14.trans (b5.mono b14.size))
  clear l4 hv4 b4 b5 b14 b13 b12 b3 hv3 hv2 hv1 hT1 hT2 hT3
  go_wp2_with fail
  go_loopg [14] 3 (fun gk v14 wr => ∃ k : Nat, v14 = .int .i64 (k : Int) ∧ k ≤ 2 ∧ gk + k = 3 ∧ Below w.heap.size w wr)
  case atStart => exact ⟨0, rfl, by omega, rfl, HB.out⟩
  case round =>
    clear HB
    obtain ⟨k, rfl, hk, hgk, hB⟩ := hrel
    have hTr := hT.below hB hsz
    have hcase : k = 0 ∨ k = 1 ∨ k = 2 := by omega
    rcases hcase with rfl | rfl | rfl
    · have cX := cEsc false wr hTr
      go_wp2_with (go_at_call 23; refine cX.mono ?_; rintro e w5 ⟨rfl, b5⟩)
      go_roundg 2
      case measure => omega
      case rel => exact ⟨1, rfl, by omega, rfl, hB.trans (b5.mono hB.size)⟩
    · have cX := cEsc true wr hTr
      go_wp2_with (go_at_call 23; refine cX.mono ?_; rintro e w5 ⟨rfl, b5⟩)
      go_roundg 1
      case measure => omega
      case rel => exact ⟨2, rfl, by omega, rfl, hB.trans (b5.mono hB.size)⟩
    · have cX := cSq wr hTr
      go_wp2_with fail
      refine cX.mono ?_
      rintro e w5 ⟨rfl, b5⟩
      have hT5 := hTr.below b5 hTr.size
      go_wp2_with fail
      refine (shown_any w5 hT5).mono ?_
      rintro e w6 ⟨rfl, b6⟩
      go_wp2
      go_ret
      exact ⟨rfl, hB.trans ((b5.trans (b6.mono b5.size)).mono hB.size)⟩

set_option maxRecDepth 100000 in
set_option maxHeartbeats 8000000 in
theorem back_good_bad (s : ByteArray) (v : Value) (zs : List Int) (w : World) (h1 : s.size ≤ 5000) (h2 : zs.length ≤ 5000) (hv : ListAt w v zs) (hT : Tabs w) (hb : decBad s.data.toList = false) (hz : zs.all vldB = false) : Calls Tryd.prog 6 #[.string s, v] w fun e w' => e = .returned (.bool true) ∧ Below w.heap.size w w' := by
  have hsz := hT.size
  have h1' : ¬ ((5000 : Int) < (s.size : Int)) := by omega
  have h2' : ¬ ((5000 : Int) < (zs.length : Int)) := by omega
  have hlen : s.data.toList.length = s.size := by simp
  have hdl := decL_len s.data.toList
  have cD := (decode_any s w (by omega) hT).mono fun e w' h => dec_form h
  have cEsc := fun attr W hTW => (escape_any s attr W (by omega) hTW).mono fun e w' h => esc_form h
  have cSq := fun W hTW => squeezed_any s W h1 hTW
  have cE2 := fun W hTW hvW => (encode_any zs v W hTW (by omega) hvW).mono fun e w' h => enc_form h
  have eQ : decQ s.data.toList = 0 := by unfold decQ; rw [hb]; rfl
  have eS : sqQ s.data.toList = 0 := by unfold sqQ; rw [hb]; rfl
  rw [eQ] at cD
  rw [eS] at cEsc
  generalize decP s.data.toList = dp at cD
  have zQ : encQ zs = 2 := by unfold encQ; rw [hz]; rfl
  rw [zQ] at cE2
  obtain ⟨t1, t2⟩ := back_text hb
  have cE1 := fun v1 W hTW hvW => (encode_any (decL s.data.toList) v1 W hTW (by omega) hvW).mono fun e w' h => enc_form h
  have eZ : encZ (decL s.data.toList) = s := by unfold encZ; rw [t2]; exact text_back t1
  have eR : encQ (decL s.data.toList) = 0 := by unfold encQ; rw [t2]; rfl
  rw [eZ, eR] at cE1
  have cUn : ∀ (attr : Bool) (W : World), Tabs W → Calls Tryd.prog 25 #[.string (escS attr s.data.toList)] W fun e w' => e = .returned (.tuple #[.string s, .int .i64 0, .int .i64 0]) ∧ Below W.heap.size W w' := fun attr W hTW => by
    have h := unescape_back attr (decL s.data.toList) t2 (by omega) W hTW
    rw [text_back t1] at h
    unfold escS
    rw [hb]
    exact h
  generalize decL s.data.toList = dl at cD cE1
  generalize encZ zs = ez at cE2
  have HV := Lib.hid hv
  obtain ⟨a, c, rfl⟩ := hv.form
  clear hv hb hz hdl hlen eQ eS zQ t1 t2 eZ eR
  go_enter Tryd.func6, Tryd.ntmps6
  go_wp2_with fail
  refine cD.mono ?_
  rintro e w1 ⟨v1, rfl, o1, b1⟩
  have hT1 := hT.below b1 hsz
  have hv1 := HV.out.below b1
  clear cD
  have l1 := ListAt.own o1
  clear o1
  go_wp2_with fail
  refine (cE1 v1 w1 hT1 l1).mono ?_
  rintro e w2 ⟨rfl, b2⟩
  have hT2 := hT1.below b2 hT1.size
  have hv2 := hv1.below b2
  have b12 := b1.trans (b2.mono b1.size)
  clear cE1 l1 b1 b2
  go_wp2_with fail
  refine (cE2 w2 hT2 hv2).mono ?_
  rintro e w3 ⟨rfl, b3⟩
  have hT3 := hT2.below b3 hT2.size
  have hv3 := hv2.below b3
  have b13 := b12.trans (b3.mono b12.size)
  clear cE2
  have HB := Lib.hid b13
  clear b13 b12 b3 hv3 hv2 hv1 hT1 hT2 hT3
  go_wp2_with fail
  go_loopg [14] 3 (fun gk v14 wr => ∃ k : Nat, v14 = .int .i64 (k : Int) ∧ k ≤ 2 ∧ gk + k = 3 ∧ Below w.heap.size w wr)
  case atStart => exact ⟨0, rfl, by omega, rfl, HB.out⟩
  case round =>
    clear HB
    obtain ⟨k, rfl, hk, hgk, hB⟩ := hrel
    have hTr := hT.below hB hsz
    have hcase : k = 0 ∨ k = 1 ∨ k = 2 := by omega
    rcases hcase with rfl | rfl | rfl
    · have cX := cEsc false wr hTr
      have cU := cUn false
      generalize escS false s.data.toList = X at cX cU
      go_wp2_with fail
      refine cX.mono ?_
      rintro e w5 ⟨rfl, b5⟩
      have hT5 := hTr.below b5 hTr.size
      go_wp2_with fail
      refine (cU w5 hT5).mono ?_
      rintro e w6 ⟨rfl, b6⟩
      go_wp2
      go_roundg 2
      case measure => omega
      case rel => exact ⟨1, rfl, by omega, rfl, hB.trans ((b5.trans (b6.mono b5.size)).mono hB.size)⟩
    · have cX := cEsc true wr hTr
      have cU := cUn true
      generalize escS true s.data.toList = X at cX cU
      go_wp2_with fail
      refine cX.mono ?_
      rintro e w5 ⟨rfl, b5⟩
      have hT5 := hTr.below b5 hTr.size
      go_wp2_with fail
      refine (cU w5 hT5).mono ?_
      rintro e w6 ⟨rfl, b6⟩
      go_wp2
      go_roundg 1
      case measure => omega
      case rel => exact ⟨2, rfl, by omega, rfl, hB.trans ((b5.trans (b6.mono b5.size)).mono hB.size)⟩
    · have cX := cSq wr hTr
      go_wp2_with fail
      refine cX.mono ?_
      rintro e w5 ⟨rfl, b5⟩
      have hT5 := hTr.below b5 hTr.size
      go_wp2_with fail
      refine (shown_any w5 hT5).mono ?_
      rintro e w6 ⟨rfl, b6⟩
      go_wp2
      go_ret
      exact ⟨rfl, hB.trans ((b5.trans (b6.mono b5.size)).mono hB.size)⟩

set_option maxRecDepth 100000 in
set_option maxHeartbeats 8000000 in
theorem back_good_good (s : ByteArray) (v : Value) (zs : List Int) (w : World) (h1 : s.size ≤ 5000) (h2 : zs.length ≤ 5000) (hv : ListAt w v zs) (hT : Tabs w) (hb : decBad s.data.toList = false) (hz : zs.all vldB = true) : Calls Tryd.prog 6 #[.string s, v] w fun e w' => e = .returned (.bool true) ∧ Below w.heap.size w w' := by
  have hsz := hT.size
  have h1' : ¬ ((5000 : Int) < (s.size : Int)) := by omega
  have h2' : ¬ ((5000 : Int) < (zs.length : Int)) := by omega
  have hlen : s.data.toList.length = s.size := by simp
  have hdl := decL_len s.data.toList
  have cD := (decode_any s w (by omega) hT).mono fun e w' h => dec_form h
  have cEsc := fun attr W hTW => (escape_any s attr W (by omega) hTW).mono fun e w' h => esc_form h
  have cSq := fun W hTW => squeezed_any s W h1 hTW
  have cE2 := fun W hTW hvW => (encode_any zs v W hTW (by omega) hvW).mono fun e w' h => enc_form h
  have eQ : decQ s.data.toList = 0 := by unfold decQ; rw [hb]; rfl
  have eS : sqQ s.data.toList = 0 := by unfold sqQ; rw [hb]; rfl
  rw [eQ] at cD
  rw [eS] at cEsc
  generalize decP s.data.toList = dp at cD
  have zQ : encQ zs = 0 := by unfold encQ; rw [hz]; rfl
  rw [zQ] at cE2
  obtain ⟨t1, t2⟩ := back_text hb
  have cE1 := fun v1 W hTW hvW => (encode_any (decL s.data.toList) v1 W hTW (by omega) hvW).mono fun e w' h => enc_form h
  have eZ : encZ (decL s.data.toList) = s := by unfold encZ; rw [t2]; exact text_back t1
  have eR : encQ (decL s.data.toList) = 0 := by unfold encQ; rw [t2]; rfl
  rw [eZ, eR] at cE1
  have cUn : ∀ (attr : Bool) (W : World), Tabs W → Calls Tryd.prog 25 #[.string (escS attr s.data.toList)] W fun e w' => e = .returned (.tuple #[.string s, .int .i64 0, .int .i64 0]) ∧ Below W.heap.size W w' := fun attr W hTW => by
    have h := unescape_back attr (decL s.data.toList) t2 (by omega) W hTW
    rw [text_back t1] at h
    unfold escS
    rw [hb]
    exact h
  generalize decL s.data.toList = dl at cD cE1
  obtain ⟨z1, z2⟩ := back_list hz
  have hT4 := encAll_len zs
  obtain ⟨T, hTT⟩ : ∃ T, ByteArray.mk (encAll zs).toArray = T := ⟨_, rfl⟩
  have eTl : T.data.toList = encAll zs := by rw [← hTT]
  have eTz : T.size ≤ 20000 := by
    have : T.size = T.data.toList.length := by simp
    rw [this, eTl]
    omega
  have eEZ : encZ zs = T := by unfold encZ; rw [hz, ← hTT]; rfl
  rw [eEZ] at cE2
  have cD2 := fun W hTW => (decode_any T W (by omega) hTW).mono fun e w' h => dec_form h
  have dQ : decQ T.data.toList = 0 := by rw [eTl]; unfold decQ; rw [z1]; rfl
  have dL : decL T.data.toList = zs := by rw [eTl]; exact z2
  rw [dQ, dL] at cD2
  generalize decP T.data.toList = tp at cD2
  have cSame := fun (W : World) (u u' : Value) h h' => same_list (w := W) (v := u) (v' := u') zs (by omega) h h'
  have CSame := Lib.hid cSame
  clear z1 z2 hT4 hTT eTl eTz eEZ dQ dL cSame
  have HV := Lib.hid hv
  obtain ⟨a, c, rfl⟩ := hv.form
  clear hv hb hz hdl hlen eQ eS zQ t1 t2 eZ eR
  go_enter Tryd.func6, Tryd.ntmps6
  go_wp2_with fail
  refine cD.mono ?_
  rintro e w1 ⟨v1, rfl, o1, b1⟩
  have hT1 := hT.below b1 hsz
  have hv1 := HV.out.below b1
  clear cD
  have l1 := ListAt.own o1
  clear o1
  go_wp2_with fail
  refine (cE1 v1 w1 hT1 l1).mono ?_
  rintro e w2 ⟨rfl, b2⟩
  have hT2 := hT1.below b2 hT1.size
  have hv2 := hv1.below b2
  have b12 := b1.trans (b2.mono b1.size)
  clear cE1 l1 b1 b2
  go_wp2_with fail
  refine (cE2 w2 hT2 hv2).mono ?_
  rintro e w3 ⟨rfl, b3⟩
  have hT3 := hT2.below b3 hT2.size
  have hv3 := hv2.below b3
  have b13 := b12.trans (b3.mono b12.size)
  clear cE2
  go_wp2_with fail
  refine (cD2 w3 hT3).mono ?_
  rintro e w4 ⟨v4, rfl, o4, b4⟩
  have hv4 := hv3.below b4
  have l4 := ListAt.own o4
  have b14 := b13.trans (b4.mono b13.size)
  obtain ⟨a4, c4, rfl⟩ := l4.form
  clear cD2 o4
  go_wp2_with fail
  refine (CSame.out w4 _ _ l4 hv4).mono ?_
  rintro e w5 ⟨rfl, b5⟩
  have HB := Lib.hid (b14.trans (b5.mono b14.size))
  clear l4 hv4 b4 b5 b14 b13 b12 b3 hv3 hv2 hv1 hT1 hT2 hT3
  go_wp2_with fail
  go_loopg [14] 3 (fun gk v14 wr => ∃ k : Nat, v14 = .int .i64 (k : Int) ∧ k ≤ 2 ∧ gk + k = 3 ∧ Below w.heap.size w wr)
  case atStart => exact ⟨0, rfl, by omega, rfl, HB.out⟩
  case round =>
    clear HB
    obtain ⟨k, rfl, hk, hgk, hB⟩ := hrel
    have hTr := hT.below hB hsz
    have hcase : k = 0 ∨ k = 1 ∨ k = 2 := by omega
    rcases hcase with rfl | rfl | rfl
    · have cX := cEsc false wr hTr
      have cU := cUn false
      generalize escS false s.data.toList = X at cX cU
      go_wp2_with fail
      refine cX.mono ?_
      rintro e w5 ⟨rfl, b5⟩
      have hT5 := hTr.below b5 hTr.size
      go_wp2_with fail
      refine (cU w5 hT5).mono ?_
      rintro e w6 ⟨rfl, b6⟩
      go_wp2
      go_roundg 2
      case measure => omega
      case rel => exact ⟨1, rfl, by omega, rfl, hB.trans ((b5.trans (b6.mono b5.size)).mono hB.size)⟩
    · have cX := cEsc true wr hTr
      have cU := cUn true
      generalize escS true s.data.toList = X at cX cU
      go_wp2_with fail
      refine cX.mono ?_
      rintro e w5 ⟨rfl, b5⟩
      have hT5 := hTr.below b5 hTr.size
      go_wp2_with fail
      refine (cU w5 hT5).mono ?_
      rintro e w6 ⟨rfl, b6⟩
      go_wp2
      go_roundg 1
      case measure => omega
      case rel => exact ⟨2, rfl, by omega, rfl, hB.trans ((b5.trans (b6.mono b5.size)).mono hB.size)⟩
    · have cX := cSq wr hTr
      go_wp2_with fail
      refine cX.mono ?_
      rintro e w5 ⟨rfl, b5⟩
      have hT5 := hTr.below b5 hTr.size
      go_wp2_with fail
      refine (shown_any w5 hT5).mono ?_
      rintro e w6 ⟨rfl, b6⟩
      go_wp2
      go_ret
      exact ⟨rfl, hB.trans ((b5.trans (b6.mono b5.size)).mono hB.size)⟩

set_option maxRecDepth 100000 in
theorem back_any (s : ByteArray) (v : Value) (zs : List Int) (w : World) (hmax : s.size ≤ maxLen) (hmax2 : zs.length ≤ maxLen) (hv : ListAt w v zs) (hT : Tabs w) : Calls Tryd.prog 6 #[.string s, v] w fun e w' => e = .returned (.bool true) ∧ Below w.heap.size w w' := by
  unfold maxLen at hmax hmax2
  have cSh := shown_any w hT
  by_cases h1 : s.size ≤ 5000
  · by_cases h2 : zs.length ≤ 5000
    · cases hb : decBad s.data.toList <;> cases hz : zs.all vldB
      · exact back_good_bad s v zs w h1 h2 hv hT hb hz
      · exact back_good_good s v zs w h1 h2 hv hT hb hz
      · exact back_bad_bad s v zs w h1 h2 hv hT hb hz
      · exact back_bad_good s v zs w h1 h2 hv hT hb hz
    · have h1' : ¬ ((5000 : Int) < (s.size : Int)) := by omega
      have h2' : ((5000 : Int) < (zs.length : Int)) := by omega
      obtain ⟨a, c, rfl⟩ := hv.form
      clear hv
      go_enter Tryd.func6, Tryd.ntmps6
      go_wp2_with (go_at_call 7; refine cSh.mono ?_; rintro e w6 ⟨rfl, b6⟩)
      go_ret
      exact ⟨rfl, b6⟩
  · have h1' : ((5000 : Int) < (s.size : Int)) := by omega
    clear hv
    go_enter Tryd.func6, Tryd.ntmps6
    go_wp2_with (go_at_call 7; refine cSh.mono ?_; rintro e w6 ⟨rfl, b6⟩)
    go_ret
    exact ⟨rfl, b6⟩
end Go.Proofs.YtiefpdoefdldpaaDoor
