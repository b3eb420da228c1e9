/- PN PO PP -/
import Derived.Test.YtmdnijehoagamaaGreatDoorK07
import Derived.Test.YtmdnijehoagamaaGreatDoorK09
set_option linter.unusedVariables false
set_option linter.unusedSimpArgs false
namespace Go.Proofs.YtmdnijehoagamaaGreatDoor
set_option maxRecDepth 100000
set_option maxHeartbeats 4000000
open Go.RowKit
def chk1 (a : Bool) : Int := if a then 0 else 2
theorem check_one (d : Dec) (hz : d.ds.size ≤ maxLen) (b : Nat) (w : World) (hb : b < w.heap.size) (h0 : w.cell? ⟨b, 0, none⟩ = some (.bool d.neg)) (h1 : w.cell? ⟨b, 1, none⟩ = some (.string d.ds)) (h2 : w.cell? ⟨b, 2, none⟩ = some (.int .i64 d.sc)) :
  Calls Tryz.prog 100 #[.slice (some ⟨b, 0, none⟩) 1 1] w fun e w' => e = .returned (.int .i64 (chk1 (vB d))) ∧ Below w.heap.size w w' := by
 obtain ⟨neg, ds, sc⟩ := d
 simp only at h0 h1 h2 hz
 have cV := fun W => valid_any neg ds sc hz W
 generalize vB ⟨neg, ds, sc⟩ = v at cV ⊢
 have H := Lib.hid (And.intro h0 (And.intro h1 h2))
 clear h0 h1 h2 hz
 go_enter Tryz.func100, Tryz.ntmps100
 go_wp2
 go_loopg [7] 2 (fun gk v7 wr => ∃ k : Nat, v7 = .int .i64 (k : Int) ∧ gk + k = 2 ∧ k ≤ 1 ∧ (k = 1 → v = true) ∧ Below w.heap.size w wr)
 case atStart => exact ⟨0, rfl, rfl, by omega, by omega, Below.refl _ _⟩
 case round =>
  obtain ⟨k, rfl, hgk, hk, hv, hB⟩ := hrel
  rcases Nat.lt_or_ge k 1 with h | h
  ·obtain rfl : k = 0 := by omega
   have c0 : wr.cell? ⟨b, 0, none⟩ = some (.bool neg) := (hB.cell (p := ⟨b, 0, none⟩) hb).trans H.out.1
   have c1 : wr.cell? ⟨b, 1, none⟩ = some (.string ds) := (hB.cell (p := ⟨b, 1, none⟩) hb).trans H.out.2.1
   have c2 : wr.cell? ⟨b, 2, none⟩ = some (.int .i64 sc) := (hB.cell (p := ⟨b, 2, none⟩) hb).trans H.out.2.2
   clear hv
   cases v with
   | true =>
    go_wp2_with (go_at_call 129; refine (cV _).mono ?_; rintro e w1 ⟨rfl, b1⟩)
    go_roundg 1
    case measure => omega
    case rel => exact ⟨1, rfl, rfl, by omega, fun _ => trivial, hB.trans (((Below.refl _ _).alloc (Nat.le_refl _) _).trans (b1.mono (by simp)) |>.mono hB.size)⟩
   | false =>
    go_wp2_with (go_at_call 129; refine (cV _).mono ?_; rintro e w1 ⟨rfl, b1⟩)
    go_ret
    exact ⟨rfl, hB.trans (((Below.refl _ _).alloc (Nat.le_refl _) _).trans (b1.mono (by simp)) |>.mono hB.size)⟩
  ·obtain rfl : k = 1 := by omega
   obtain rfl := hv rfl
   go_wp2
   go_ret
   exact ⟨rfl, hB⟩
theorem check_two (d d2 : Dec) (hz : d.ds.size ≤ maxLen) (hz2 : d2.ds.size ≤ maxLen) (b : Nat) (w : World) (hb : b < w.heap.size) (h0 : w.cell? ⟨b, 0, none⟩ = some (.bool d.neg)) (h1 : w.cell? ⟨b, 1, none⟩ = some (.string d.ds)) (h2 : w.cell? ⟨b, 2, none⟩ = some (.int .i64 d.sc))
  (h3 : w.cell? ⟨b, 3, none⟩ = some (.bool d2.neg)) (h4 : w.cell? ⟨b, 4, none⟩ = some (.string d2.ds)) (h5 : w.cell? ⟨b, 5, none⟩ = some (.int .i64 d2.sc)) :
  Calls Tryz.prog 100 #[.slice (some ⟨b, 0, none⟩) 2 2] w fun e w' => e = .returned (.int .i64 (chk1 (vB d && vB d2))) ∧ Below w.heap.size w w' := by
 obtain ⟨neg, ds, sc⟩ := d
 obtain ⟨neg2, ds2, sc2⟩ := d2
 simp only at h0 h1 h2 hz h3 h4 h5 hz2
 have cV := fun W => valid_any neg ds sc hz W
 have cV2 := fun W => valid_any neg2 ds2 sc2 hz2 W
 generalize vB ⟨neg, ds, sc⟩ = v at cV ⊢
 generalize vB ⟨neg2, ds2, sc2⟩ = v2 at cV2 ⊢
 have H := Lib.hid (And.intro h0 (And.intro h1 h2))
 have H2 := Lib.hid (And.intro h3 (And.intro h4 h5))
 clear h0 h1 h2 hz h3 h4 h5 hz2
 go_enter Tryz.func100, Tryz.ntmps100
 go_wp2
 go_loopg [7] 3 (fun gk v7 wr => ∃ k : Nat, v7 = .int .i64 (k : Int) ∧ gk + k = 3 ∧ k ≤ 2 ∧ (1 ≤ k → v = true) ∧ (k = 2 → v2 = true) ∧ Below w.heap.size w wr)
 case atStart => exact ⟨0, rfl, rfl, by omega, by omega, by omega, Below.refl _ _⟩
 case round =>
  obtain ⟨k, rfl, hgk, hk, hv, hv2, hB⟩ := hrel
  rcases Nat.lt_or_ge k 1 with h | h
  ·obtain rfl : k = 0 := by omega
   have c0 : wr.cell? ⟨b, 0, none⟩ = some (.bool neg) := (hB.cell (p := ⟨b, 0, none⟩) hb).trans H.out.1
   have c1 : wr.cell? ⟨b, 1, none⟩ = some (.string ds) := (hB.cell (p := ⟨b, 1, none⟩) hb).trans H.out.2.1
   have c2 : wr.cell? ⟨b, 2, none⟩ = some (.int .i64 sc) := (hB.cell (p := ⟨b, 2, none⟩) hb).trans H.out.2.2
   clear hv hv2 cV2
   cases v with
   | true =>
    go_wp2_with (go_at_call 129; refine (cV _).mono ?_; rintro e w1 ⟨rfl, b1⟩)
    go_roundg 2
    case measure => omega
    case rel => exact ⟨1, rfl, rfl, by omega, fun _ => trivial, by omega, hB.trans (((Below.refl _ _).alloc (Nat.le_refl _) _).trans (b1.mono (by simp)) |>.mono hB.size)⟩
   | false =>
    go_wp2_with (go_at_call 129; refine (cV _).mono ?_; rintro e w1 ⟨rfl, b1⟩)
    go_ret
    exact ⟨rfl, hB.trans (((Below.refl _ _).alloc (Nat.le_refl _) _).trans (b1.mono (by simp)) |>.mono hB.size)⟩
  ·obtain rfl := hv h
   rcases Nat.lt_or_ge k 2 with h' | h'
   ·obtain rfl : k = 1 := by omega
    have c0 : wr.cell? ⟨b, 3, none⟩ = some (.bool neg2) := (hB.cell (p := ⟨b, 3, none⟩) hb).trans H2.out.1
    have c1 : wr.cell? ⟨b, 4, none⟩ = some (.string ds2) := (hB.cell (p := ⟨b, 4, none⟩) hb).trans H2.out.2.1
    have c2 : wr.cell? ⟨b, 5, none⟩ = some (.int .i64 sc2) := (hB.cell (p := ⟨b, 5, none⟩) hb).trans H2.out.2.2
    clear hv hv2 cV
    cases v2 with
    | true =>
     go_wp2_with (go_at_call 129; refine (cV2 _).mono ?_; rintro e w1 ⟨rfl, b1⟩)
     go_roundg 1
     case measure => omega
     case rel => exact ⟨2, rfl, rfl, by omega, fun _ => trivial, fun _ => trivial, hB.trans (((Below.refl _ _).alloc (Nat.le_refl _) _).trans (b1.mono (by simp)) |>.mono hB.size)⟩
    | false =>
     go_wp2_with (go_at_call 129; refine (cV2 _).mono ?_; rintro e w1 ⟨rfl, b1⟩)
     go_ret
     exact ⟨rfl, hB.trans (((Below.refl _ _).alloc (Nat.le_refl _) _).trans (b1.mono (by simp)) |>.mono hB.size)⟩
   ·obtain rfl : k = 2 := by omega
    obtain rfl := hv2 rfl
    go_wp2
    go_ret
    exact ⟨rfl, hB⟩
def cutD (s : ByteArray) (n : Nat) : ByteArray := zs ((n : Int) + 1 - (s.size : Int)).toNat ++ s
theorem cutD_size (s : ByteArray) (n : Nat) : (cutD s n).size = max (n + 1) s.size := by
 unfold cutD
 rw [app_size, zs_size]
 omega
theorem cut_call (s : ByteArray) (n : Nat) (hs : s.size ≤ 1000) (hn : n ≤ 1000) (w : World) :
  Calls Tryz.prog 113 #[.string s, .int .i64 (n : Int)] w fun e w' => e = .returned (.tuple #[.string ((cutD s n).extract 0 ((cutD s n).size - n)), .string ((cutD s n).extract ((cutD s n).size - n) (cutD s n).size)]) ∧ Below w.heap.size w w' := by
 have cZ := fun W => pzeros_call ((n : Int) + 1 - (s.size : Int)) (by omega) (by omega) W
 have hsz := cutD_size s n
 unfold cutD at hsz ⊢
 generalize zs ((n : Int) + 1 - (s.size : Int)).toNat = Z at cZ hsz ⊢
 have hcat : ¬ 9223372036854775807 < Z.size + s.size := by rw [← app_size]; omega
 have hT : ∃ T, Z ++ s = T := ⟨_, rfl⟩
 obtain ⟨T, hT⟩ := hT
 rw [hT] at hsz ⊢
 obtain ⟨k, hk⟩ : ∃ k, T.size - n = k := ⟨_, rfl⟩
 have hki : (T.size : Int) - (n : Int) = (k : Int) := by omega
 have hkl : (k : Int) ≤ (T.size : Int) := by omega
 have hk3 : k ≤ 3000 := by omega
 rw [hk]
 clear hsz hk
 go_enter Tryz.func113, Tryz.ntmps113
 go_wp2_with (go_at_call 138; refine (cZ _).mono ?_; rintro e w1 ⟨rfl, b1⟩)
 go_quiet (fail)
 go_wp2
 go_ret2
 exact ⟨rfl, below_drewN b1 _⟩
theorem popp_any (neg : Bool) (a : ByteArray) (s : Int) (w : World) :
  Calls Tryz.prog 134 #[.agg #[.bool neg, .string a, .int .i64 s]] w fun e w' => e = .returned (Dec.v ⟨!neg && !(!neg && (a.toList == [48]) && decide (s = 0)), a, s⟩) ∧ Below w.heap.size w w' := by
 have cZ := fun W => t_zero neg a s W
 unfold Dec.v
 generalize (!neg && (a.toList == [48]) && decide (s = 0)) = z at cZ ⊢
 cases neg with
 | true =>
  go_enter Tryz.func134, Tryz.ntmps134
  go_wp2
  exact bodyPost_ret (v := .agg #[.bool false, .string a, .int .i64 s]) (by simp [results, Tryz.results134, go_sem]) rfl ⟨rfl, ((Below.refl _ _).alloc (Nat.le_refl _) _).alloc (by simp) _⟩
 | false =>
  go_enter Tryz.func134, Tryz.ntmps134
  go_wp2_with fail
  refine (cZ _).mono ?_
  rintro e w1 ⟨rfl, b1⟩
  have k0 := ((Has.new w (.bool false) (.string a) (.int .i64 s) 23).alloc (.cells #[.bool false, .string ⟨#[]⟩, .int .i64 0] 23)).call b1
  have k1 := (Has.new (w.alloc (.cells #[.bool false, .string a, .int .i64 s] 23)) (.bool false) (.string ⟨#[]⟩) (.int .i64 0) 23).call b1
  rw [World.size_alloc] at k1
  have hB : Below w.heap.size w w1 := (((Below.refl _ w).alloc (Nat.le_refl _) _).alloc (by simp) _).trans (b1.mono (by simp; omega))
  obtain ⟨x0, x1, x2, f0, f1, f2, hx⟩ := k0
  obtain ⟨r0, r1, r2, g0, g1, g2, hr⟩ := k1
  have HB := Lib.hid hB
  clear b1 hB hx hr
  go_wp2
  exact bodyPost_ret (v := .agg #[.bool (!z), .string a, .int .i64 s]) (by simp [results, Tryz.results134, go_sem, r0, r1, r2]) rfl ⟨by simp, (((HB.out.setCell (p := ⟨w.heap.size, 0, none⟩) (Nat.le_refl _) _).setCell (by simp) _).setCell (by simp) _).setCell (by simp) _⟩
theorem trim_digs : ∀ (l : List UInt8), AllD l → Lib.trimLeftB l 48 = if val l = 0 then [] else digs (val l)
 | [], _ => rfl
 | c :: l, h => by
  have ih := trim_digs l h.tail
  unfold Lib.trimLeftB at ih ⊢
  by_cases hc : c = 48
  ·subst hc
   rw [List.dropWhile_cons_of_pos (by rfl), ih, val_cons, dg_48]
   simp
  ·rw [List.dropWhile_cons_of_neg (by simpa using hc)]
   have h2 := val_ge h hc
   have h3 : 0 < 10 ^ l.length := Nat.pow_pos (by omega)
   rw [if_neg (by omega)]
   exact canon_eq ⟨h, by simp, fun e => by simp at e; exact absurd e hc⟩
theorem suffix_digs (q : Nat) : Lib.hasSuffix (digs q) [48] = decide (q % 10 = 0) := by
 have key : ∀ (A : List UInt8) (d : Nat), d < 10 → Lib.hasSuffix (A ++ [UInt8.ofNat (48 + d)]) [48] = decide (d = 0) := fun A d hd => by
  unfold Lib.hasSuffix List.isSuffixOf
  rw [List.reverse_append]
  simp only [List.reverse_cons, List.reverse_nil, List.nil_append, List.cons_append, List.isPrefixOf, Bool.and_true]
  by_cases h : d = 0
  ·subst h; rfl
  ·rw [decide_eq_false h]
   refine beq_eq_false_iff_ne.2 fun e => h ?_
   have h2 := congrArg UInt8.toNat e
   rw [dig_nat hd] at h2
   have : (48 : UInt8).toNat = 48 := rfl
   omega
 by_cases h : q < 10
 ·rw [digs_small h]
  have := key [] q h
  rw [List.nil_append] at this
  rw [this, Nat.mod_eq_of_lt h]
 ·rw [digs_big h]
  exact key _ _ (Nat.mod_lt _ (by omega))
theorem clone_call (s : ByteArray) (hs : s.size ≤ 100000) (w : World) : Calls Tryz.prog 156 #[.string s] w fun e w' => e = .returned (.string s) ∧ Below w.heap.size w w' := by
 have c := fun W => Tryz.stringslite_Clone s W (by omega)
 go_enter Tryz.func156, Tryz.ntmps156
 go_wp2_with (go_at_call 187; refine (c _).mono ?_; rintro e w1 ⟨rfl, b1⟩)
 go_ret
 exact ⟨rfl, b1⟩
theorem decimalOf_call (neg : Bool) (s : ByteArray) (sc : Nat) (hall : AllD s.data.toList) (hz : s.size ≤ 50000) (hsc : sc ≤ 50000) (w : World) :
  Calls Tryz.prog 122 #[.bool neg, .string s, .int .i64 (sc : Int)] w fun e w' => e = .returned (decR (mkDec neg (val s.data.toList) sc)) ∧ Below w.heap.size w w' := by
 obtain ⟨n, hn⟩ : ∃ n, val s.data.toList = n := ⟨_, rfl⟩
 have cT := fun W => Tryz.strings_TrimLeft_one s 48 (by decide) W
 rw [trim_digs _ hall, hn] at cT
 rw [hn]
 by_cases hn0 : n = 0
 ·have HM : Hid (decR (mkDec neg n sc) = .tuple #[decZero.v, .int .i64 0]) := by show _ = _; unfold mkDec; rw [if_pos hn0]; rfl
  rw [if_pos hn0] at cT
  clear hn hn0 hall hz
  go_enter Tryz.func122, Tryz.ntmps122
  go_wp2_with (go_at_call 154; refine (cT _).mono ?_; rintro e w1 ⟨rfl, rfl⟩)
  all_goals exact bodyPost_ret (v := .tuple #[.agg #[.bool false, .string ⟨#[48]⟩, .int .i64 0], .int .i64 0]) (by simp [results, Tryz.results122, go_sem]) rfl ⟨by rw [HM.out]; try rfl, (Below.refl _ _).alloc (Nat.le_refl _) _⟩
 rw [if_neg hn0, show (ByteArray.mk (digs n).toArray) = numS n from rfl] at cT
 have hzz : (numS n).size ≤ 50000 := by
  have h1 := val_lt hall
  rw [hn, bytes_len] at h1
  refine Nat.le_trans (numS_len (k := s.size) h1 ?_) hz
  rcases Nat.eq_zero_or_pos s.size with h0 | h0
  ·rw [h0] at h1; simp at h1; omega
  ·exact h0
 have hne : (numS n).toList.isEmpty = false := by
  rw [numS_toList]
  cases hd : digs n with
  | nil => exact absurd hd (digs_ne n)
  | cons => rfl
 clear hn hall hz
 go_enter Tryz.func122, Tryz.ntmps122
 go_wp2_with (go_at_call 154; refine (cT _).mono ?_; rintro e w1 ⟨rfl, rfl⟩)
 clear cT
 go_loopg [1, 2] (sc + 1) (fun gk v1 v2 wr => ∃ (k : Nat) (t : ByteArray) (q : Nat), v2 = .int .i64 (k : Int) ∧ v1 = .string t ∧ gk = k + 1 ∧ k ≤ 50000 ∧ t.size ≤ 50000 ∧ Hid (t = numS q ∧ strip q k = strip n sc ∧ q ≠ 0) ∧ wr = w.alloc (.cells #[.bool false, .string ⟨#[]⟩, .int .i64 0] 23))
 case atStart => exact ⟨sc, _, n, rfl, rfl, rfl, hsc, hzz, ⟨rfl, rfl, hn0⟩, rfl⟩
 case round =>
  obtain ⟨k, t, q, rfl, rfl, hgk, hk, htz, HT, rfl⟩ := hrel
  have cH := fun W => Tryz.strings_HasSuffix t ⟨#[48]⟩ W (by omega)
  have hsx : Lib.hasSuffix t.data.toList (ByteArray.mk #[48]).data.toList = decide (q % 10 = 0) := by rw [HT.out.1, numS_list]; exact suffix_digs q
  rw [hsx] at cH
  have cV := fun W => valid_any neg t (k : Int) (by unfold maxLen; omega) W
  have cC := fun W => clone_call t (by omega) W
  clear hsx
  by_cases hk0 : k = 0
  ·have hki : ¬ (0 : Int) < (k : Int) := by omega
   have hstop : strip q k = (q, k) := by rw [hk0]; rfl
   clear cH
   by_cases hok : (digs q).length ≤ 60 ∧ k ≤ 60
   ·have hv : vB ⟨neg, t, (k : Int)⟩ = true := vB_ok ⟨q, k, HT.out.1, rfl, hok.1, hok.2, fun h => absurd h HT.out.2.2, fun h => absurd h (by omega)⟩
    have HM : Hid (decR (mkDec neg n sc) = .tuple #[.agg #[.bool neg, .string t, .int .i64 (k : Int)], .int .i64 0]) := by
     show _ = _
     unfold mkDec
     rw [if_neg hn0, if_neg (by rw [← HT.out.2.1, hstop]; simp only; omega), ← HT.out.2.1, hstop, HT.out.1]
     try rfl
    rw [hv] at cV
    clear hv hok hstop HT hn0 hk0
    go_wp2_with (first
     | (go_at_call 155; refine (cH _).mono ?_; rintro e w1 ⟨rfl, rfl⟩)
     | (go_at_call 129; refine (cV _).mono ?_; rintro e w1 ⟨rfl, b1⟩; have k0 := ((Has.new w (.bool false) (.string ⟨#[]⟩) (.int .i64 0) 23).alloc (.cells #[.bool neg, .string t, .int .i64 (k : Int)] 23)).call b1; have k1 := (Has.new (w.alloc (.cells #[.bool false, .string ⟨#[]⟩, .int .i64 0] 23)) (.bool neg) (.string t) (.int .i64 (k : Int)) 23).call b1; have hB : Below w.heap.size w w1 := (((Below.refl _ w).alloc (Nat.le_refl _) _).alloc (by simp) _).trans (b1.mono (by simp; omega)); have K := Lib.hid (And.intro k0 (And.intro k1 hB)); clear k0 k1 hB b1)
     | (go_at_call 156; refine (cC _).mono ?_; rintro e w2 ⟨rfl, b2⟩; obtain ⟨r0, r1, r2, g0, g1, g2, _⟩ := K.out.1.call b2; have k2 := K.out.2.1.call b2; rw [World.size_alloc] at k2; obtain ⟨x0, x1, x2, f0, f1, f2, _⟩ := k2; have HB := Lib.hid (K.out.2.2.trans (b2.mono K.out.2.2.size)); clear b2))
    exact bodyPost_ret (v := .tuple #[.agg #[.bool neg, .string t, .int .i64 (k : Int)], .int .i64 0]) (by simp [results, Tryz.results122, go_sem, r0, r1, r2]) rfl ⟨by rw [HM.out]; try rfl, ((((HB.out.setCell (by simp) _).setCell (by simp) _).setCell (by simp) _).setCell (by simp) _)⟩
   ·have hv : vB ⟨neg, t, (k : Int)⟩ = false := vB_bad (fun h => by
     obtain ⟨n2, s2, h⟩ := h
     have h1 := h.ds
     have h2 := h.sc
     simp only at h1 h2
     have h3 : q = n2 := by
       have e := digs_val n2
       rw [← numS_list, ← h1, HT.out.1, numS_list, digs_val] at e
       exact e
     have h4 := h.len
     have h5 := h.le
     rw [← h3] at h4
     exact hok ⟨h4, by omega⟩)
    have HM : Hid (decR (mkDec neg n sc) = .tuple #[decNil.v, .int .i64 7]) := by
     show _ = _
     unfold mkDec
     rw [if_neg hn0, if_pos (by rw [← HT.out.2.1, hstop]; simp only; omega)]
     try rfl
    rw [hv] at cV
    clear hv hok hstop HT hn0 hk0
    go_wp2_with (first
     | (go_at_call 155; refine (cH _).mono ?_; rintro e w1 ⟨rfl, rfl⟩)
     | (go_at_call 129; refine (cV _).mono ?_; rintro e w1 ⟨rfl, b1⟩; have k0 := ((Has.new w (.bool false) (.string ⟨#[]⟩) (.int .i64 0) 23).alloc (.cells #[.bool neg, .string t, .int .i64 (k : Int)] 23)).call b1; have hB : Below w.heap.size w w1 := (((Below.refl _ w).alloc (Nat.le_refl _) _).alloc (by simp) _).trans (b1.mono (by simp; omega)); obtain ⟨r0, r1, r2, g0, g1, g2, _⟩ := k0; have HB := Lib.hid hB; clear hB b1))
    exact bodyPost_ret (v := .tuple #[.agg #[.bool false, .string ⟨#[]⟩, .int .i64 0], .int .i64 7]) (by simp [results, Tryz.results122, go_sem, r0, r1, r2]) rfl ⟨by rw [HM.out]; try rfl, ((HB.out.setCell (by simp) _).setCell (by simp) _).setCell (by simp) _⟩
  ·have hki : (0 : Int) < (k : Int) := by omega
   by_cases hq10 : q % 10 = 0
   ·rw [decide_eq_true hq10] at cH
    have hbig := digs_big (n := q) (by have := HT.out.2.2; omega)
    obtain ⟨m, hm⟩ : ∃ m, (digs (q / 10)).length = m := ⟨_, rfl⟩
    have hlen : t.size = (digs q).length := by rw [HT.out.1, numS_size]
    have hts : t.size = m + 1 := by rw [hlen, hbig, List.length_append, hm]; rfl
    have hmt : m < t.size := by omega
    have hmi : (t.size : Int) - 1 = (m : Int) := by omega
    have hTl : t.data.toList = digs (q / 10) ++ [UInt8.ofNat (48 + q % 10)] := by rw [HT.out.1, numS_list, hbig]
    have hex : t.extract 0 m = numS (q / 10) := by
     refine (bytes_of (l := digs (q / 10)) ?_).trans rfl
     rw [Lib.extract_data, List.drop_zero, Nat.sub_zero, hTl, List.take_append_of_le_length (by omega), ← hm, List.take_length]
    obtain ⟨u, hu⟩ : ∃ u, t.extract 0 m = u := ⟨_, rfl⟩
    have hus : u.size ≤ 50000 := by rw [← hu, hex, numS_size]; omega
    have HU : Hid (u = numS (q / 10) ∧ strip (q / 10) (k - 1) = strip n sc ∧ q / 10 ≠ 0) := by
     refine ⟨by rw [← hu, hex], ?_, ?_⟩
     ·rw [← HT.out.2.1]
      obtain ⟨k', rfl⟩ : ∃ k', k = k' + 1 := ⟨k - 1, by omega⟩
      rw [strip_go ⟨by have := HT.out.2.2; omega, hq10⟩]
      rfl
     ·have := HT.out.2.2
      omega
    have hk1 : (k : Int) - 1 = ((k - 1 : Nat) : Int) := by omega
    clear hex hTl hbig hm hq10 HT hlen hk0 hts cV cC hn0
    go_wp2_with (go_at_call 155; refine (cH _).mono ?_; rintro e w1 ⟨rfl, rfl⟩)
    go_roundg k
    case measure => omega
    case rel => exact ⟨k - 1, u, q / 10, by go_num, rfl, by omega, by omega, hus, HU, rfl⟩
   ·rw [decide_eq_false hq10] at cH
    have hstop : strip q k = (q, k) := by
     obtain ⟨k', rfl⟩ : ∃ k', k = k' + 1 := ⟨k - 1, by omega⟩
     exact strip_stop (fun h => hq10 h.2)
    by_cases hok : (digs q).length ≤ 60 ∧ k ≤ 60
    ·have hv : vB ⟨neg, t, (k : Int)⟩ = true := vB_ok ⟨q, k, HT.out.1, rfl, hok.1, hok.2, fun h => absurd h HT.out.2.2, fun _ => hq10⟩
     have HM : Hid (decR (mkDec neg n sc) = .tuple #[.agg #[.bool neg, .string t, .int .i64 (k : Int)], .int .i64 0]) := by
      show _ = _
      unfold mkDec
      rw [if_neg hn0, if_neg (by rw [← HT.out.2.1, hstop]; simp only; omega), ← HT.out.2.1, hstop, HT.out.1]
      try rfl
     rw [hv] at cV
     clear hv hok hstop HT hn0 hk0 hq10
     go_wp2_with (first
      | (go_at_call 155; refine (cH _).mono ?_; rintro e w1 ⟨rfl, rfl⟩)
      | (go_at_call 129; refine (cV _).mono ?_; rintro e w1 ⟨rfl, b1⟩; have k0 := ((Has.new w (.bool false) (.string ⟨#[]⟩) (.int .i64 0) 23).alloc (.cells #[.bool neg, .string t, .int .i64 (k : Int)] 23)).call b1; have k1 := (Has.new (w.alloc (.cells #[.bool false, .string ⟨#[]⟩, .int .i64 0] 23)) (.bool neg) (.string t) (.int .i64 (k : Int)) 23).call b1; have hB : Below w.heap.size w w1 := (((Below.refl _ w).alloc (Nat.le_refl _) _).alloc (by simp) _).trans (b1.mono (by simp; omega)); have K := Lib.hid (And.intro k0 (And.intro k1 hB)); clear k0 k1 hB b1)
      | (go_at_call 156; refine (cC _).mono ?_; rintro e w2 ⟨rfl, b2⟩; obtain ⟨r0, r1, r2, g0, g1, g2, _⟩ := K.out.1.call b2; have k2 := K.out.2.1.call b2; rw [World.size_alloc] at k2; obtain ⟨x0, x1, x2, f0, f1, f2, _⟩ := k2; have HB := Lib.hid (K.out.2.2.trans (b2.mono K.out.2.2.size)); clear b2))
     exact bodyPost_ret (v := .tuple #[.agg #[.bool neg, .string t, .int .i64 (k : Int)], .int .i64 0]) (by simp [results, Tryz.results122, go_sem, r0, r1, r2]) rfl ⟨by rw [HM.out]; try rfl, ((((HB.out.setCell (by simp) _).setCell (by simp) _).setCell (by simp) _).setCell (by simp) _)⟩
    ·have hv : vB ⟨neg, t, (k : Int)⟩ = false := vB_bad (fun h => by
      obtain ⟨n2, s2, h⟩ := h
      have h1 := h.ds
      have h2 := h.sc
      simp only at h1 h2
      have h3 : q = n2 := by
       have e := digs_val n2
       rw [← numS_list, ← h1, HT.out.1, numS_list, digs_val] at e
       exact e
      have h4 := h.len
      have h5 := h.le
      rw [← h3] at h4
      exact hok ⟨h4, by omega⟩)
     have HM : Hid (decR (mkDec neg n sc) = .tuple #[decNil.v, .int .i64 7]) := by
      show _ = _
      unfold mkDec
      rw [if_neg hn0, if_pos (by rw [← HT.out.2.1, hstop]; simp only; omega)]
      try rfl
     rw [hv] at cV
     clear hv hok hstop HT hn0 hk0 hq10
     go_wp2_with (first
      | (go_at_call 155; refine (cH _).mono ?_; rintro e w1 ⟨rfl, rfl⟩)
      | (go_at_call 129; refine (cV _).mono ?_; rintro e w1 ⟨rfl, b1⟩; have k0 := ((Has.new w (.bool false) (.string ⟨#[]⟩) (.int .i64 0) 23).alloc (.cells #[.bool neg, .string t, .int .i64 (k : Int)] 23)).call b1; have hB : Below w.heap.size w w1 := (((Below.refl _ w).alloc (Nat.le_refl _) _).alloc (by simp) _).trans (b1.mono (by simp; omega)); obtain ⟨r0, r1, r2, g0, g1, g2, _⟩ := k0; have HB := Lib.hid hB; clear hB b1))
     exact bodyPost_ret (v := .tuple #[.agg #[.bool false, .string ⟨#[]⟩, .int .i64 0], .int .i64 7]) (by simp [results, Tryz.results122, go_sem, r0, r1, r2]) rfl ⟨by rw [HM.out]; try rfl, ((HB.out.setCell (by simp) _).setCell (by simp) _).setCell (by simp) _⟩
end Go.Proofs.YtmdnijehoagamaaGreatDoor
namespace Go.Proofs.YtmdnijehoagamaaGreatDoor
set_option maxRecDepth 100000
set_option maxHeartbeats 8000000
open Go.RowKit
structure AlAt (w W : World) (neg1 neg2 : Bool) (a b : ByteArray) (s t : Int) : Prop where
 x : Has W w.heap.size (.bool neg1) (.string a) (.int .i64 s)
 y : Has W (w.heap.size + 1) (.bool neg2) (.string b) (.int .i64 t)
 r : Blk W (w.heap.size + 1 + 1) (fun _ => 0)
 q : Blk W (w.heap.size + 1 + 1 + 1) (fun _ => 0)
 below : Below w.heap.size w W
theorem AlAt.call {w W W' : World} {neg1 neg2 : Bool} {a b : ByteArray} {s t : Int} (h : AlAt w W neg1 neg2 a b s t) (B : Below W.heap.size W W') : AlAt w W' neg1 neg2 a b s t :=
 ⟨h.x.call B, h.y.call B, h.r.call B, h.q.call B, h.below.trans (B.mono h.below.size)⟩
def AlS (w : World) (a b : ByteArray) (s t : Int) (W : World) : Prop :=
 W.cell? ⟨w.heap.size, 1, none⟩ = some (.string a) ∧ W.cell? ⟨w.heap.size, 2, none⟩ = some (.int .i64 s) ∧ W.cell? ⟨w.heap.size + 1, 1, none⟩ = some (.string b) ∧ W.cell? ⟨w.heap.size + 1, 2, none⟩ = some (.int .i64 t) ∧ W.there (w.heap.size + 1 + 1) 0 14 ∧ W.there (w.heap.size + 1 + 1 + 1) 0 14
theorem AlAt.s {w W : World} {neg1 neg2 : Bool} {a b : ByteArray} {s t : Int} (h : AlAt w W neg1 neg2 a b s t) : AlS w a b s t W := ⟨h.x.2.1, h.x.2.2.1, h.y.2.1, h.y.2.2.1, h.r.there, h.q.there⟩
theorem AlS.set {w W : World} {a b : ByteArray} {s t : Int} (h : AlS w a b s t W) {k : Nat} (hk : k = w.heap.size + 1 + 1 ∨ k = w.heap.size + 1 + 1 + 1) (vs : List Value) : AlS w a b s t (W.setCells k 0 vs) := by
 have e1 : (W.setCells k 0 vs).heap[w.heap.size]? = W.heap[w.heap.size]? := cells_other _ _ (by omega) _ _ _
 have e2 : (W.setCells k 0 vs).heap[w.heap.size + 1]? = W.heap[w.heap.size + 1]? := cells_other _ _ (by omega) _ _ _
 exact ⟨(World.cell?_of_block (w := W) e1).trans h.1, (World.cell?_of_block (w := W) e1).trans h.2.1, (World.cell?_of_block (w := W) e2).trans h.2.2.1, (World.cell?_of_block (w := W) e2).trans h.2.2.2.1, World.there_setCells h.2.2.2.2.1 _ _ _, World.there_setCells h.2.2.2.2.2 _ _ _⟩
theorem al_new (w : World) (neg1 neg2 : Bool) (a b : ByteArray) (s t : Nat) : AlAt w ((((w.alloc (.cells #[.bool neg1, .string a, .int .i64 (s : Int)] 23)).alloc (.cells #[.bool neg2, .string b, .int .i64 (t : Int)] 23)).alloc (.cells (natL fun _ => 0).toArray 125)).alloc (.cells (natL fun _ => 0).toArray 125)) neg1 neg2 a b (s : Int) (t : Int) := by
 have k0 := Has.new w (.bool neg1) (.string a) (.int .i64 (s : Int)) 23
 have k1 := Has.new (w.alloc (.cells #[.bool neg1, .string a, .int .i64 (s : Int)] 23)) (.bool neg2) (.string b) (.int .i64 (t : Int)) 23
 have k2 := Blk.new ((w.alloc (.cells #[.bool neg1, .string a, .int .i64 (s : Int)] 23)).alloc (.cells #[.bool neg2, .string b, .int .i64 (t : Int)] 23)) (fun _ => 0)
 have k3 := Blk.new (((w.alloc (.cells #[.bool neg1, .string a, .int .i64 (s : Int)] 23)).alloc (.cells #[.bool neg2, .string b, .int .i64 (t : Int)] 23)).alloc (.cells (natL fun _ => 0).toArray 125)) (fun _ => 0)
 rw [World.size_alloc] at k1
 rw [World.size_alloc, World.size_alloc] at k2
 rw [World.size_alloc, World.size_alloc, World.size_alloc] at k3
 exact ⟨((k0.alloc _).alloc _).alloc _, (k1.alloc _).alloc _, k2.alloc _, k3, ((((Below.refl w.heap.size w).alloc (Nat.le_refl _) _).alloc (by simp) _).alloc (by simp; omega) _).alloc (by simp; omega) _⟩
theorem aligned_call (neg1 neg2 : Bool) (a b : ByteArray) (s t n m M : Nat) (ha : IsNum a n) (hb : IsNum b m) (za : a.size ≤ 60) (zb : b.size ≤ 60) (hs : s ≤ 60) (ht : t ≤ 60) (hM : max s t = M) (w : World) :
  Calls Tryz.prog 121 #[.agg #[.bool neg1, .string a, .int .i64 (s : Int)], .agg #[.bool neg2, .string b, .int .i64 (t : Int)]] w fun e w' =>
   e = .returned (.tuple #[natV (n * 10 ^ (M - s)), natV (m * 10 ^ (M - t)), .int .i64 (M : Int)]) ∧ Below w.heap.size w w' := by
 have i1 := num_zeros ha (M - s)
 have i2 := num_zeros hb (M - t)
 have z1 : (a ++ zs (M - s)).size ≤ 126 := by rw [app_size, zs_size]; omega
 have z2 : (b ++ zs (M - t)).size ≤ 126 := by rw [app_size, zs_size]; omega
 have cN1 := fun W => of_call (a ++ zs (M - s)) i1.all z1 W
 have cN2 := fun W => of_call (b ++ zs (M - t)) i2.all z2 W
 rw [i1.val] at cN1
 rw [i2.val] at cN2
 have cZ1 := fun W => pzeros_call ((M : Int) - (s : Int)) (by omega) (by omega) W
 have cZ2 := fun W => pzeros_call ((M : Int) - (t : Int)) (by omega) (by omega) W
 rw [show ((M : Int) - (s : Int)).toNat = M - s by omega] at cZ1
 rw [show ((M : Int) - (t : Int)).toNat = M - t by omega] at cZ2
 generalize zs (M - s) = Z1 at *
 generalize zs (M - t) = Z2 at *
 have y1 : ¬ 9223372036854775807 < a.size + Z1.size := by rw [← app_size]; omega
 have y2 : ¬ 9223372036854775807 < b.size + Z2.size := by rw [← app_size]; omega
 obtain ⟨T1, hT1⟩ : ∃ T, a ++ Z1 = T := ⟨_, rfl⟩
 obtain ⟨T2, hT2⟩ : ∃ T, b ++ Z2 = T := ⟨_, rfl⟩
 rw [hT1] at cN1
 rw [hT2] at cN2
 unfold natV arrV at cN1 cN2 ⊢
 have HX := natL_len (ptsOf (n * 10 ^ (M - s)))
 have HY := natL_len (ptsOf (m * 10 ^ (M - t)))
 have X1 := natL_one (ptsOf (n * 10 ^ (M - s)))
 have Y1 := natL_one (ptsOf (m * 10 ^ (M - t)))
 have w1 : IntKind.i64.wrap ((M : Int) - s) = ((M : Int) - s) := IntWalk.i64_in _ (by omega)
 have w2 : IntKind.i64.wrap ((M : Int) - t) = ((M : Int) - t) := IntWalk.i64_in _ (by omega)
 have hmax : max (s : Int) (t : Int) = (M : Int) := by omega
 clear i1 i2 z1 z2 ha hb za zb hM hs ht
 obtain ⟨XL, hXL⟩ : ∃ XL, natL (ptsOf (n * 10 ^ (M - s))) = XL := ⟨_, rfl⟩
 obtain ⟨YL, hYL⟩ : ∃ YL, natL (ptsOf (m * 10 ^ (M - t))) = YL := ⟨_, rfl⟩
 rw [hXL] at cN1 HX X1 ⊢
 rw [hYL] at cN2 HY Y1 ⊢
 have HL := Lib.hid (And.intro hXL hYL)
 clear hXL hYL
 go_enter Tryz.func121, Tryz.ntmps121
 go_wp2
 have hA : AlAt w ((((w.alloc (.cells #[.bool neg1, .string a, .int .i64 (s : Int)] 23)).alloc (.cells #[.bool neg2, .string b, .int .i64 (t : Int)] 23)).alloc (.cells (natL fun _ => 0).toArray 125)).alloc (.cells (natL fun _ => 0).toArray 125)) neg1 neg2 a b (s : Int) (t : Int) := al_new w neg1 neg2 a b s t
 have HK := Lib.hid (hA.call (below_drew1 _))
 clear hA
 have hi14 : (Tryz.prog.info? 125).map (·.size) = some 14 := by kernel_rfl
 go_region_held3 (fun W => W.cell? ⟨w.heap.size, 1, none⟩ = some (.string a) ∧ W.cell? ⟨w.heap.size, 2, none⟩ = some (.int .i64 (s : Int)) ∧ W.cell? ⟨w.heap.size + 1, 1, none⟩ = some (.string b) ∧ W.cell? ⟨w.heap.size + 1, 2, none⟩ = some (.int .i64 (t : Int)) ∧ W.there (w.heap.size + 1 + 1) 0 14 ∧ W.there (w.heap.size + 1 + 1 + 1) 0 14)
  (first | assumption | exact HK.out.s | (refine AlS.set (w := w) (a := a) (b := b) (s := (s : Int)) (t := (t : Int)) ?_ (.inl rfl) _; assumption) | (refine AlS.set (w := w) (a := a) (b := b) (s := (s : Int)) (t := (t : Int)) ?_ (.inr rfl) _; assumption))
  (first
   | (go_at_call_of 138 (s : Int); refine (cZ1 _).mono ?_; rintro e w2 ⟨rfl, b2⟩; have HK := Lib.hid (HK.out.call b2); clear b2)
   | (go_at_call_of 138 (t : Int); refine (cZ2 _).mono ?_; rintro e w2 ⟨rfl, b2⟩; have HK := Lib.hid (HK.out.call b2); clear b2)
   | (go_at_call_of 139 T1; refine (cN1 _).mono ?_; rintro e w2 ⟨rfl, b2⟩; have HK := Lib.hid (HK.out.call b2); clear b2)
   | (go_at_call_of 139 T2; refine (cN2 _).mono ?_; rintro e w2 ⟨rfl, b2⟩; have HK := Lib.hid (HK.out.call b2); clear b2))
 obtain ⟨F, hF⟩ : ∃ F, (w2.setCells (w.heap.size + 1 + 1) 0 XL).setCells (w.heap.size + 1 + 1 + 1) 0 YL = F := ⟨_, rfl⟩
 have k2 : Blk F (w.heap.size + 1 + 1) (ptsOf (n * 10 ^ (M - s))) := by
  rw [← hF, ← HL.out.1]
  exact (cells_other _ _ (by omega) _ _ _).trans (HK.out.r.setCells _)
 have k3 : Blk F (w.heap.size + 1 + 1 + 1) (ptsOf (m * 10 ^ (M - t))) := by
  rw [← hF, ← HL.out.2]
  exact Blk.setCells (f := fun _ => 0) ((cells_other _ _ (by omega) _ _ _).trans HK.out.q) _
 have hB : Below w.heap.size w F := by
  rw [← hF]
  exact below_cells (by omega) _ _ _ (below_cells (by omega) _ _ _ HK.out.below)
 have l2 := run_loadVar_row (P := Tryz.prog) F _ 125 125 _ (0, 0) _ k2 Tryz.underlying125 rfl (nat_size _)
 have l3 := run_loadVar_row (P := Tryz.prog) F _ 125 125 _ (0, 0) _ k3 Tryz.underlying125 rfl (nat_size _)
 rw [hF]
 rw [HL.out.1] at l2
 rw [HL.out.2] at l3
 have HB := Lib.hid hB
 clear hF k2 k3 hB
 go_wp2
 exact bodyPost_ret (v := .tuple #[.agg XL.toArray, .agg YL.toArray, .int .i64 (M : Int)]) (by simp [results, Tryz.f121, asAddr, l2, l3]) rfl ⟨rfl, HB.out⟩
end Go.Proofs.YtmdnijehoagamaaGreatDoor
