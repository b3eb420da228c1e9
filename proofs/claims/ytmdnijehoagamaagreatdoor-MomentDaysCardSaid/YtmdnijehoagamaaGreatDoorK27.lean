/- OV -/
import Derived.Test.YtmdnijehoagamaaGreatDoorK26
set_option linter.unusedVariables false
set_option linter.unusedSimpArgs false
namespace Go.Proofs.YtmdnijehoagamaaGreatDoor
open Go.RowKit
set_option maxRecDepth 100000
set_option maxHeartbeats 60000000
def nilM : List Value := [.int .i64 0, .int .i64 0, .int .i64 0, .int .i64 0, .int .i64 0, .int .i64 0, .bool false, .string ⟨#[]⟩, .int .i64 0, .bool false, .int .i64 0]
def rdL (w : World) (s : ByteArray) (b : Bool) (k y mo d h mi : Int) (c : Dec) (zd : Bool) (z : Int) : List (Nat × List Value) :=
  [(w.heap.size, nilM), (w.heap.size + 1, [.string s, .bool b]), (w.heap.size + 1 + 1, [.int .i64 k, .int .i64 y, .int .i64 mo, .int .i64 d, .int .i64 h, .int .i64 mi, .bool c.neg, .string c.ds, .int .i64 c.sc, .bool zd, .int .i64 z])]
theorem KD.put1 {w W : World} {L : List (Nat × List Value)} (h : KD w L W) (i : Nat) {b : Nat} {vs : List Value} (hi : L[i]? = some (b, vs)) (j : Nat) (u : Value) (hj : j < vs.length) : KD w (L.set i (b, vs.set j u)) (W.setCell ⟨b, j, none⟩ u) := h.store1 i hi j u hj
def DayAt (k : Int) (l : List UInt8) (w wx : World) : Prop := ∃ (y mo d : Int) (t : List UInt8) (b : Bool), Stp (dayP k l) false (y, mo, d) t b ∧ t.length ≤ 390 ∧ KD w (rdL w ⟨t.toArray⟩ b k y mo d 0 0 decNil false 0) wx
def MidAt (k y mo d : Int) (l : List UInt8) (b0 : Bool) (w wx : World) : Prop := ∃ (t : List UInt8) (b : Bool), Stp (midP k l) b0 () t b ∧ t.length ≤ 390 ∧ KD w (rdL w ⟨t.toArray⟩ b k y mo d 0 0 decNil false 0) wx
def ClkAt (k y mo d : Int) (l : List UInt8) (b0 : Bool) (w : World) (v : Value) (wx : World) : Prop := ∃ (h mi : Int) (f t : List UInt8) (b : Bool), v = .string ⟨f.toArray⟩ ∧ f.length ≤ 400 ∧ Stp (clkP k l) b0 (h, mi, f) t b ∧ t.length ≤ 390 ∧ KD w (rdL w ⟨t.toArray⟩ b k y mo d h mi decNil false 0) wx
def FracAt (k y mo d h mi : Int) (p l : List UInt8) (b0 : Bool) (w : World) (v : Value) (wx : World) : Prop := ∃ (f t : List UInt8) (b : Bool), v = .string ⟨f.toArray⟩ ∧ f.length ≤ 400 ∧ Stp (fracP p l) b0 f t b ∧ t.length ≤ 390 ∧ KD w (rdL w ⟨t.toArray⟩ b k y mo d h mi decNil false 0) wx
def ZoneAt (k y mo d h mi : Int) (l : List UInt8) (b0 : Bool) (w wx : World) : Prop := ∃ (zd : Bool) (z : Int) (t : List UInt8) (b : Bool), Stp (zone2P l) b0 (zd, z) t b ∧ t.length ≤ 390 ∧ KD w (rdL w ⟨t.toArray⟩ b k y mo d h mi decNil zd z) wx
def SecAt (k y mo d h mi : Int) (zd : Bool) (z : Int) (l : List UInt8) (w wx : World) : Prop := ∃ (c : Dec), c.ds.size ≤ 400 ∧ readS6 k l = seenS ⟨k, y, mo, d, h, mi, c, zd, z⟩ ∧ KD w (rdL w ⟨#[]⟩ false k y mo d h mi c zd z) wx
theorem list_size (l : List UInt8) : (⟨l.toArray⟩ : ByteArray).size = l.length := by rw [← bytes_len, bytes_mk]
theorem read_fail {k : Int} {l : List UInt8} (hk : (datedB k || timedB k) = true) (h : partsP k l = none) : readS6 k l = ⟨momNil, 6⟩ := by unfold readS6; rw [hk, if_pos rfl, h]
theorem read_parts {k : Int} {l : List UInt8} {p : Parts} (hk : (datedB k || timedB k) = true) (h : partsP k l = some p) : readS6 k l = partsS k p := by unfold readS6; rw [hk, if_pos rfl, h]
theorem r_read_on (k : Int) (bd bt k3 : Bool) (l : List UInt8) (hbd : datedB k = bd) (hbt : timedB k = bt) (hk3 : (k == 3) = k3) (hok : (bd || bt) = true) (hs : l.length ≤ 390)
    (cH : ∀ W, Calls Tryz.prog 32 #[.int .i64 k] W fun e w' => e = .returned (.bool bd) ∧ W = w')
    (cE : ∀ W, Calls Tryz.prog 33 #[.int .i64 k] W fun e w' => e = .returned (.bool bt) ∧ W = w')
    (cS : ∀ (s : ByteArray), s.size ≤ 400 → ∀ W, Calls Tryz.prog 27 #[.string s] W fun e w' => e = .returned (readS s).v ∧ Below W.heap.size W w')
    (w : World) : Calls Tryz.prog 10 #[.int .i64 k, .string ⟨l.toArray⟩] w fun e w' => e = .returned (readS6 k l).v ∧ Below w.heap.size w w' := by
  have HBD := Lib.hid hbd
  have HBT := Lib.hid hbt
  have HK3 := Lib.hid hk3
  have HOK := Lib.hid hok
  have HL := Lib.hid hs
  clear hbd hbt hk3 hok hs
  go_enter Tryz.func10, Tryz.ntmps10
  go_upto_region 1 with fail
  go_cut [22] (fun s22 wx => s22 = .bool false ∧ w.alloc (.cells nilM.toArray 25) = wx)
  case first =>
    cases bd
    · have hbt : bt = true := by simpa using HOK.out
      subst hbt
      go_wp2_with (first | (go_at_call 32; refine (cH _).mono ?_; rintro e w_ ⟨rfl, rfl⟩) | (go_at_call 33; refine (cE _).mono ?_; rintro e w_ ⟨rfl, rfl⟩))
      go_meet
      exact ⟨rfl, rfl⟩
    · go_wp2_with (first | (go_at_call 32; refine (cH _).mono ?_; rintro e w_ ⟨rfl, rfl⟩) | (go_at_call 33; refine (cE _).mono ?_; rintro e w_ ⟨rfl, rfl⟩))
      go_meet
      exact ⟨rfl, rfl⟩
  case rest =>
    obtain ⟨rfl, rfl⟩ := hcut
    unfold nilM
    go_wp2_with fail
    refine (cH _).mono ?_
    rintro e w_ ⟨rfl, rfl⟩
    have HS : Hid (KD w (rdL w ⟨l.toArray⟩ false k 0 0 0 0 0 decNil false 0) _) := Lib.hid ((((KD.nil w).push nilM 25 (n := w.heap.size) rfl).push [.string ⟨l.toArray⟩, .bool false] 54 (n := w.heap.size + 1) (by simp)).push [.int .i64 k, .int .i64 0, .int .i64 0, .int .i64 0, .int .i64 0, .int .i64 0, .bool false, .string ⟨#[]⟩, .int .i64 0, .bool false, .int .i64 0] 25 (n := w.heap.size + 1 + 1) (by simp))
    go_upto_if 30 with fail
    go_cut [] (fun wx => DayAt k l w wx)
    case first =>
      as_aux_lemma =>
        cases bd
        · go_wp2_with fail
          go_meet
          exact ⟨0, 0, 0, l, false, stp_noday HBD.out, HL.out, HS.out⟩
        · go_wp2_with fail
          refine (is_l (w.heap.size + 1) l false 45 (by have := HL.out; omega) _ (HS.out.at 1 rfl)).mono ?_
          rintro e w1 ⟨q, l1, rfl, hq, hz, hh_, nb⟩
          replace HS : Hid (KD w (rdL w ⟨l1.toArray⟩ false k 0 0 0 0 0 decNil false 0) _) := Lib.hid (HS.out.near 1 rfl hh_ nb)
          have Qq := Lib.hid hq
          have HL1 : Hid (l1.length ≤ 390) := Lib.hid (Nat.le_trans hz HL.out)
          clear hq hz hh_ nb
          replace HL := HL1
          go_wp2_with fail
          refine (num_4 (w.heap.size + 1) l1 false (by have := HL.out; omega) _ (HS.out.at 1 rfl)).mono ?_
          rintro e w2 ⟨n2, l2, b2, rfl, hn2, hz, st, hh_, nb⟩
          replace HS : Hid (KD w (rdL w ⟨l2.toArray⟩ b2 k 0 0 0 0 0 decNil false 0) _) := Lib.hid (HS.out.near 1 rfl hh_ nb)
          have S2 := Lib.hid st
          have N2 := Lib.hid hn2
          have HL2 : Hid (l2.length ≤ 390) := Lib.hid (Nat.le_trans hz HL.out)
          replace HL := HL2
          clear st hz hh_ nb hn2
          have d_ := (HS.out.at 2 rfl).cell 1 rfl
          have z_ := (HS.out.at 2 rfl).frozen 1 rfl
          go_upto_if 36 with fail
          replace HS : Hid (KD w (rdL w ⟨l2.toArray⟩ b2 k (n2 : Int) 0 0 0 0 decNil false 0) _) := Lib.hid (HS.out.put1 2 rfl 1 (.int .i64 (n2 : Int)) (by show 1 < 11; omega))
          clear d_ z_
          go_cut [] (fun wx => KD w (rdL w ⟨l2.toArray⟩ b2 k (if q then -(n2 : Int) else (n2 : Int)) 0 0 0 0 decNil false 0) wx)
          case first =>
            cases q
            · go_wp2_with fail
              go_meet
              exact HS.out
            · have d_ := (HS.out.at 2 rfl).cell 1 rfl
              have z_ := (HS.out.at 2 rfl).frozen 1 rfl
              have hw_ : IntKind.i64.wrap (-(n2 : Int)) = -(n2 : Int) := IntWalk.i64_in _ (by have := N2.out; omega)
              go_wp2_with fail
              go_meet
              exact HS.out.put1 2 rfl 1 (.int .i64 (-(n2 : Int))) (by show 1 < 11; omega)
          case rest =>
            clear HS
            have HS := Lib.hid hcut
            clear hcut
            go_wp2_with fail
            refine (want_l (w.heap.size + 1) l2 b2 45 (by have := HL.out; omega) _ (HS.out.at 1 rfl)).mono ?_
            rintro e w3 ⟨l3, b3, rfl, hz, st, hh_, nb⟩
            replace HS : Hid (KD w (rdL w ⟨l3.toArray⟩ b3 k (if q then -(n2 : Int) else (n2 : Int)) 0 0 0 0 decNil false 0) _) := Lib.hid (HS.out.near 1 rfl hh_ nb)
            have S3 := Lib.hid st
            have HL3 : Hid (l3.length ≤ 390) := Lib.hid (Nat.le_trans hz HL.out)
            replace HL := HL3
            clear st hz hh_ nb
            go_wp2_with fail
            refine (num_2 (w.heap.size + 1) l3 b3 (by have := HL.out; omega) _ (HS.out.at 1 rfl)).mono ?_
            rintro e w4 ⟨n4, l4, b4, rfl, hn4, hz, st, hh_, nb⟩
            replace HS : Hid (KD w (rdL w ⟨l4.toArray⟩ b4 k (if q then -(n2 : Int) else (n2 : Int)) 0 0 0 0 decNil false 0) _) := Lib.hid (HS.out.near 1 rfl hh_ nb)
            have S4 := Lib.hid st
            have N4 := Lib.hid hn4
            have HL4 : Hid (l4.length ≤ 390) := Lib.hid (Nat.le_trans hz HL.out)
            replace HL := HL4
            clear st hz hh_ nb hn4
            have d_ := (HS.out.at 2 rfl).cell 2 rfl
            have z_ := (HS.out.at 2 rfl).frozen 2 rfl
            go_wp2_with fail
            replace HS : Hid (KD w (rdL w ⟨l4.toArray⟩ b4 k (if q then -(n2 : Int) else (n2 : Int)) (n4 : Int) 0 0 0 decNil false 0) _) := Lib.hid (HS.out.put1 2 rfl 2 (.int .i64 (n4 : Int)) (by show 2 < 11; omega))
            clear d_ z_
            refine (want_l (w.heap.size + 1) l4 b4 45 (by have := HL.out; omega) _ (HS.out.at 1 rfl)).mono ?_
            rintro e w5 ⟨l5, b5, rfl, hz, st, hh_, nb⟩
            replace HS : Hid (KD w (rdL w ⟨l5.toArray⟩ b5 k (if q then -(n2 : Int) else (n2 : Int)) (n4 : Int) 0 0 0 decNil false 0) _) := Lib.hid (HS.out.near 1 rfl hh_ nb)
            have S5 := Lib.hid st
            have HL5 : Hid (l5.length ≤ 390) := Lib.hid (Nat.le_trans hz HL.out)
            replace HL := HL5
            clear st hz hh_ nb
            go_wp2_with fail
            refine (num_2 (w.heap.size + 1) l5 b5 (by have := HL.out; omega) _ (HS.out.at 1 rfl)).mono ?_
            rintro e w6 ⟨n6, l6, b6, rfl, hn6, hz, st, hh_, nb⟩
            replace HS : Hid (KD w (rdL w ⟨l6.toArray⟩ b6 k (if q then -(n2 : Int) else (n2 : Int)) (n4 : Int) 0 0 0 decNil false 0) _) := Lib.hid (HS.out.near 1 rfl hh_ nb)
            have S6 := Lib.hid st
            have N6 := Lib.hid hn6
            have HL6 : Hid (l6.length ≤ 390) := Lib.hid (Nat.le_trans hz HL.out)
            replace HL := HL6
            clear st hz hh_ nb hn6
            have d_ := (HS.out.at 2 rfl).cell 3 rfl
            have z_ := (HS.out.at 2 rfl).frozen 3 rfl
            go_wp2_with fail
            replace HS : Hid (KD w (rdL w ⟨l6.toArray⟩ b6 k (if q then -(n2 : Int) else (n2 : Int)) (n4 : Int) (n6 : Int) 0 0 decNil false 0) _) := Lib.hid (HS.out.put1 2 rfl 3 (.int .i64 (n6 : Int)) (by show 3 < 11; omega))
            clear d_ z_
            go_meet
            exact ⟨_, _, _, l6, b6, stp_date HBD.out Qq.out S2.out S3.out S4.out S5.out S6.out, HL.out, HS.out⟩
    case rest =>
      clear HS
      have HL0 := HL
      obtain ⟨y, mo, d, la, ba, st, hl, hS⟩ := hcut
      have SA := Lib.hid st
      replace HL := Lib.hid hl
      have HS := Lib.hid hS
      clear st hl hS
      have hk3 := HK3.out
      go_upto_if 52 with fail
      clear hk3
      go_cut [] (fun wx => MidAt k y mo d la ba w wx)
      case first =>
        as_aux_lemma =>
          cases k3
          · go_wp2_with fail
            go_meet
            exact ⟨la, ba, stp_nomid HK3.out, HL.out, HS.out⟩
          · go_wp2_with fail
            refine (want_l (w.heap.size + 1) la ba 84 (by have := HL.out; omega) _ (HS.out.at 1 rfl)).mono ?_
            rintro e w1 ⟨l1, b1, rfl, hz, st, hh_, nb⟩
            replace HS : Hid (KD w (rdL w ⟨l1.toArray⟩ b1 k y mo d 0 0 decNil false 0) _) := Lib.hid (HS.out.near 1 rfl hh_ nb)
            have S1 := Lib.hid st
            have HL1 : Hid (l1.length ≤ 390) := Lib.hid (Nat.le_trans hz HL.out)
            replace HL := HL1
            clear st hz hh_ nb
            go_wp2_with fail
            go_meet
            exact ⟨l1, b1, stp_mid HK3.out S1.out, HL.out, HS.out⟩
      case rest =>
        clear HS HL
        obtain ⟨lb, bb, st, hl, hS⟩ := hcut
        have SB := Lib.hid st
        have HL := Lib.hid hl
        have HS := Lib.hid hS
        clear st hl hS
        go_wp2_with fail
        refine (cE _).mono ?_
        rintro e w_ ⟨rfl, rfl⟩
        go_upto_if 56 with fail
        go_cut [9] (fun s9 wx => ClkAt k y mo d lb bb w s9 wx)
        case first =>
          as_aux_lemma =>
            cases bt
            · go_wp2_with fail
              go_meet
              exact ⟨0, 0, [], lb, bb, rfl, by decide, stp_noclk HBT.out, HL.out, HS.out⟩
            · go_wp2_with fail
              refine (num_2 (w.heap.size + 1) lb bb (by have := HL.out; omega) _ (HS.out.at 1 rfl)).mono ?_
              rintro e w1 ⟨n1, l1, b1, rfl, hn1, hz, st, hh_, nb⟩
              replace HS : Hid (KD w (rdL w ⟨l1.toArray⟩ b1 k y mo d 0 0 decNil false 0) _) := Lib.hid (HS.out.near 1 rfl hh_ nb)
              have S1 := Lib.hid st
              have N1 := Lib.hid hn1
              have HL1 : Hid (l1.length ≤ 390) := Lib.hid (Nat.le_trans hz HL.out)
              replace HL := HL1
              clear st hz hh_ nb hn1
              have d_ := (HS.out.at 2 rfl).cell 4 rfl
              have z_ := (HS.out.at 2 rfl).frozen 4 rfl
              go_wp2_with fail
              replace HS : Hid (KD w (rdL w ⟨l1.toArray⟩ b1 k y mo d (n1 : Int) 0 decNil false 0) _) := Lib.hid (HS.out.put1 2 rfl 4 (.int .i64 (n1 : Int)) (by show 4 < 11; omega))
              clear d_ z_
              refine (want_l (w.heap.size + 1) l1 b1 58 (by have := HL.out; omega) _ (HS.out.at 1 rfl)).mono ?_
              rintro e w2 ⟨l2, b2, rfl, hz, st, hh_, nb⟩
              replace HS : Hid (KD w (rdL w ⟨l2.toArray⟩ b2 k y mo d (n1 : Int) 0 decNil false 0) _) := Lib.hid (HS.out.near 1 rfl hh_ nb)
              have S2 := Lib.hid st
              have HL2 : Hid (l2.length ≤ 390) := Lib.hid (Nat.le_trans hz HL.out)
              replace HL := HL2
              clear st hz hh_ nb
              go_wp2_with fail
              refine (num_2 (w.heap.size + 1) l2 b2 (by have := HL.out; omega) _ (HS.out.at 1 rfl)).mono ?_
              rintro e w3 ⟨n3, l3, b3, rfl, hn3, hz, st, hh_, nb⟩
              replace HS : Hid (KD w (rdL w ⟨l3.toArray⟩ b3 k y mo d (n1 : Int) 0 decNil false 0) _) := Lib.hid (HS.out.near 1 rfl hh_ nb)
              have S3 := Lib.hid st
              have N3 := Lib.hid hn3
              have HL3 : Hid (l3.length ≤ 390) := Lib.hid (Nat.le_trans hz HL.out)
              replace HL := HL3
              clear st hz hh_ nb hn3
              have d_ := (HS.out.at 2 rfl).cell 5 rfl
              have z_ := (HS.out.at 2 rfl).frozen 5 rfl
              go_wp2_with fail
              replace HS : Hid (KD w (rdL w ⟨l3.toArray⟩ b3 k y mo d (n1 : Int) (n3 : Int) decNil false 0) _) := Lib.hid (HS.out.put1 2 rfl 5 (.int .i64 (n3 : Int)) (by show 5 < 11; omega))
              clear d_ z_
              refine (want_l (w.heap.size + 1) l3 b3 58 (by have := HL.out; omega) _ (HS.out.at 1 rfl)).mono ?_
              rintro e w4 ⟨l4, b4, rfl, hz, st, hh_, nb⟩
              replace HS : Hid (KD w (rdL w ⟨l4.toArray⟩ b4 k y mo d (n1 : Int) (n3 : Int) decNil false 0) _) := Lib.hid (HS.out.near 1 rfl hh_ nb)
              have S4 := Lib.hid st
              have HL4 : Hid (l4.length ≤ 390) := Lib.hid (Nat.le_trans hz HL.out)
              replace HL := HL4
              clear st hz hh_ nb
              go_wp2_with fail
              refine (num_2 (w.heap.size + 1) l4 b4 (by have := HL.out; omega) _ (HS.out.at 1 rfl)).mono ?_
              rintro e w5 ⟨n5, l5, b5, rfl, hn5, hz, st, hh_, nb⟩
              replace HS : Hid (KD w (rdL w ⟨l5.toArray⟩ b5 k y mo d (n1 : Int) (n3 : Int) decNil false 0) _) := Lib.hid (HS.out.near 1 rfl hh_ nb)
              have S5 := Lib.hid st
              have N5 := Lib.hid hn5
              have HL5 : Hid (l5.length ≤ 390) := Lib.hid (Nat.le_trans hz HL.out)
              replace HL := HL5
              clear st hz hh_ nb hn5
              go_wp2_with fail
              refine (two_2 n5 (by have := N5.out; omega) _).mono ?_
              rintro e wt ⟨rfl, b1⟩
              replace HS := Lib.hid (HS.out.call b1)
              clear b1
              generalize hT : twoS n5 2 = T2
              have hT2 : T2.size = 2 := by rw [← hT, ← bytes_len, twoS_list, twoL_len]
              have HT2 := Lib.hid hT
              clear hT
              go_wp2_with fail
              refine (is_l (w.heap.size + 1) l5 b5 46 (by have := HL.out; omega) _ (HS.out.at 1 rfl)).mono ?_
              rintro e w6 ⟨q, l6, rfl, hq, hz, hh_, nb⟩
              replace HS : Hid (KD w (rdL w ⟨l6.toArray⟩ b5 k y mo d (n1 : Int) (n3 : Int) decNil false 0) _) := Lib.hid (HS.out.near 1 rfl hh_ nb)
              have Qq := Lib.hid hq
              have HL6 : Hid (l6.length ≤ 390) := Lib.hid (Nat.le_trans hz HL.out)
              clear hq hz hh_ nb
              replace HL := HL6
              go_upto_if 71 with fail
              go_cut [9] (fun s9 wx => FracAt k y mo d (n1 : Int) (n3 : Int) (twoL n5 2) l5 b5 w s9 wx)
              case first =>
                as_aux_lemma =>
                  cases q
                  · go_wp2_with fail
                    go_meet
                    exact ⟨twoL n5 2, l6, b5, by rw [← HT2.out]; rfl, by rw [twoL_len]; decide, frac_no Qq.out, HL.out, HS.out⟩
                  · go_wp2_with fail
                    refine (num_1 (w.heap.size + 1) l6 b5 (by have := HL.out; omega) _ (HS.out.at 1 rfl)).mono ?_
                    rintro e w7 ⟨n7, l7, b7, rfl, hn7, hz, st, hh_, nb⟩
                    replace HS : Hid (KD w (rdL w ⟨l7.toArray⟩ b7 k y mo d (n1 : Int) (n3 : Int) decNil false 0) _) := Lib.hid (HS.out.near 1 rfl hh_ nb)
                    have S7 := Lib.hid st
                    have N7 := Lib.hid hn7
                    have HL7 : Hid (l7.length ≤ 390) := Lib.hid (Nat.le_trans hz HL.out)
                    replace HL := HL7
                    clear st hz hh_ nb hn7
                    go_wp2_with fail
                    refine (two_1 n7 (by have := N7.out; omega) _).mono ?_
                    rintro e wu ⟨rfl, b1⟩
                    replace HS := Lib.hid (HS.out.call b1)
                    clear b1
                    generalize hT : twoS n7 1 = T1
                    have hT1 : T1.size = 1 := by rw [← hT, ← bytes_len, twoS_list, twoL_len]
                    have HT1 := Lib.hid hT
                    clear hT
                    obtain ⟨A, hA⟩ : ∃ A, (twoL n5 2 ++ 46 :: (twoL n7 1 ++ l7.takeWhile dgB)) = A := ⟨_, rfl⟩
                    obtain ⟨D, hD⟩ : ∃ D, (l7.dropWhile dgB) = D := ⟨_, rfl⟩
                    have HA0 : Hid ((T2 ++ ⟨#[46]⟩ ++ T1).data.toList ++ l7.takeWhile dgB = A ∧ l7.dropWhile dgB = D) := Lib.hid ⟨by rw [← hA, Joins.data_append, Joins.data_append, ← HT2.out, ← HT1.out, twoS_list, twoS_list]; simp, hD⟩
                    have HZ0 : Hid ((T2 ++ ⟨#[46]⟩ ++ T1).size + (⟨l7.toArray⟩ : ByteArray).size ≤ 394) := Lib.hid (by rw [app_size, app_size, hT2, hT1, list_size]; show 2 + 1 + 1 + l7.length ≤ 394; have := HL.out; omega)
                    have HST : Hid (Stp (fracP (twoL n5 2) l5) b5 A D b7 ∧ D.length ≤ 390) := Lib.hid ⟨by rw [← hA, ← hD]; exact frac_yes Qq.out (Stp.run S7.out), by rw [← hD]; exact Nat.le_trans (List.dropWhile_sublist _).length_le HL.out⟩
                    have hsz : (⟨l7.toArray⟩ : ByteArray).size = l7.length := list_size _
                    have HSZ := Lib.hid hsz
                    clear hA hD hsz
                    have q1 : ¬ 9223372036854775807 < 2 + 1 + 1 := by omega
                    go_wp2_with fail
                    go_loopg [9] (l7.length + 1) (fun gk v9 wr => ∃ (x r : ByteArray), v9 = .string x ∧ gk = r.size + 1 ∧ x.size + r.size ≤ 394 ∧ Hid (x.data.toList ++ r.data.toList.takeWhile dgB = A ∧ r.data.toList.dropWhile dgB = D) ∧ Hid (KD w (rdL w r b7 k y mo d (n1 : Int) (n3 : Int) decNil false 0) wr))
                    case atStart => exact ⟨_, _, rfl, by rw [list_size], HZ0.out, Lib.hid (by rw [bytes_mk]; exact HA0.out), HS⟩
                    case round =>
                      clear HS HA0 HZ0
                      obtain ⟨x, r, rfl, hgk, hz, HX, HS⟩ := hrel
                      have d_ := (HS.out.at 1 rfl).cell 0 rfl
                      have z_ := (HS.out.at 1 rfl).frozen 0 rfl
                      obtain ⟨t, ht⟩ : ∃ t, r.data.toList = t := ⟨_, rfl⟩
                      cases t with
                      | nil =>
                        have he : r.toList.isEmpty = true := by rw [Lib.toList_data, ht]; rfl
                        have HSTOP : Hid (∀ c t, r.data.toList = c :: t → dgB c = false) := Lib.hid (by rw [ht]; intro c t e; cases e)
                        clear ht
                        go_wp2_with fail
                        go_meet
                        obtain ⟨hx, hr⟩ := stop_at HX.out HSTOP.out
                        have er : r = ⟨D.toArray⟩ := bytes_of hr
                        exact ⟨A, D, b7, by rw [hx], by rw [← list_size, ← hx]; omega, HST.out.1, HST.out.2, by rw [← er]; exact HS.out⟩
                      | cons c t =>
                        have he : r.toList.isEmpty = false := by rw [Lib.toList_data, ht]; rfl
                        have hp : 0 < r.size := by rw [← bytes_len, ht]; simp
                        have hx := byte_at ht hp (by simp)
                        simp only [List.getElem_cons_zero] at hx
                        have HC := Lib.hid hx
                        have HTL := Lib.hid ht
                        clear ht hx
                        have hfail : ¬ (48 ≤ c.toNat ∧ c.toNat ≤ 57) → Hid (∀ c t, r.data.toList = c :: t → dgB c = false) := fun hbad => Lib.hid (by
                          rw [HTL.out]
                          intro c' t' e
                          obtain ⟨rfl, rfl⟩ := List.cons.inj e
                          cases hd : dgB c
                          · rfl
                          · exact absurd ((dgB_iff c).1 hd) hbad)
                        by_cases h1 : (r[0].toNat : Int) < 48
                        · have HSTOP := hfail (by rw [← HC.out]; omega)
                          clear hfail
                          go_wp2_with fail
                          go_meet
                          obtain ⟨hx, hr⟩ := stop_at HX.out HSTOP.out
                          have er : r = ⟨D.toArray⟩ := bytes_of hr
                          exact ⟨A, D, b7, by rw [hx], by rw [← list_size, ← hx]; omega, HST.out.1, HST.out.2, by rw [← er]; exact HS.out⟩
                        by_cases h2 : 57 < (r[0].toNat : Int)
                        · have HSTOP := hfail (by rw [← HC.out]; omega)
                          clear hfail
                          go_wp2_with fail
                          go_meet
                          obtain ⟨hx, hr⟩ := stop_at HX.out HSTOP.out
                          have er : r = ⟨D.toArray⟩ := bytes_of hr
                          exact ⟨A, D, b7, by rw [hx], by rw [← list_size, ← hx]; omega, HST.out.1, HST.out.2, by rw [← er]; exact HS.out⟩
                        have HG : Hid (dgB c = true) := Lib.hid ((dgB_iff c).2 (by rw [← HC.out]; omega))
                        have hy : (r.extract 0 1).size = 1 := by rw [← bytes_len, upto_list, HTL.out]; rfl
                        have HY : Hid ((r.extract 0 1).data.toList = [c]) := Lib.hid (by rw [upto_list, HTL.out]; rfl)
                        have HR1 : Hid ((r.extract 1 r.size).data.toList = t) := Lib.hid (by rw [from_list, HTL.out]; rfl)
                        have hr1 : (r.extract 1 r.size).size + 1 = r.size := by rw [← bytes_len, HR1.out, ← bytes_len, HTL.out]; rfl
                        have HRS := Lib.hid hr1
                        have q2 : ¬ 9223372036854775807 < x.size + 1 := by omega
                        clear hfail hr1
                        go_wp2
                        go_roundg (gk - 1)
                        case measure => omega
                        case rel => exact ⟨x ++ r.extract 0 1, r.extract 1 r.size, by go_num, by have := HRS.out; omega, by rw [app_size, hy]; have := HRS.out; omega, Lib.hid (by rw [HR1.out]; exact go_on HG.out (by rw [← HTL.out]; exact HX.out) HY.out), Lib.hid (HS.out.put1 1 rfl 0 (.string (r.extract 1 r.size)) (by show 0 < 2; omega))⟩
              case rest =>
                clear HS HL
                obtain ⟨f, lf, bf, rfl, hf, st, hl, hS⟩ := hcut
                have SF := Lib.hid st
                have HL := Lib.hid hl
                have HS := Lib.hid hS
                have HF := Lib.hid hf
                clear st hl hS hf
                go_wp2_with fail
                go_meet
                exact ⟨_, _, f, lf, bf, rfl, HF.out, stp_time HBT.out S1.out S2.out S3.out S4.out S5.out SF.out, HL.out, HS.out⟩
        case rest =>
          clear HS HL
          obtain ⟨hr, mi, f, lc, bc, rfl, hf, st, hl, hS⟩ := hcut
          have SC := Lib.hid st
          have HL := Lib.hid hl
          have HS := Lib.hid hS
          have HF := Lib.hid hf
          clear st hl hS hf
          go_wp2_with fail
          refine (is_l (w.heap.size + 1) lc bc 90 (by have := HL.out; omega) _ (HS.out.at 1 rfl)).mono ?_
          rintro e w1 ⟨q, l1, rfl, hq, hz, hh_, nb⟩
          replace HS : Hid (KD w (rdL w ⟨l1.toArray⟩ bc k y mo d hr mi decNil false 0) _) := Lib.hid (HS.out.near 1 rfl hh_ nb)
          have Qq := Lib.hid hq
          have HL1 : Hid (l1.length ≤ 390) := Lib.hid (Nat.le_trans hz HL.out)
          clear hq hz hh_ nb
          replace HL := HL1
          go_upto_if 115 with fail
          go_cut [] (fun wx => ZoneAt k y mo d hr mi lc bc w wx)
          case first =>
            as_aux_lemma =>
              cases q
              · have hlz := is_rest Qq.out
                subst hlz
                have d_ := (HS.out.at 1 rfl).cell 0 rfl
                cases l1 with
                | nil =>
                  have he : (⟨([] : List UInt8).toArray⟩ : ByteArray).toList.isEmpty = true := by rw [Lib.toList_data, bytes_mk]; rfl
                  go_wp2_with fail
                  go_meet
                  exact ⟨false, 0, [], bc, zone_nil _, by decide, HS.out⟩
                | cons c tl =>
                  have he : (⟨(c :: tl).toArray⟩ : ByteArray).toList.isEmpty = false := by rw [Lib.toList_data, bytes_mk]; rfl
                  have y_ := (HS.out.at 2 rfl).frozen 9 rfl
                  have x_ := (HS.out.at 2 rfl).cell 9 rfl
                  go_wp2_with fail
                  replace HS : Hid (KD w (rdL w ⟨(c :: tl).toArray⟩ bc k y mo d hr mi decNil true 0) _) := Lib.hid (HS.out.put1 2 rfl 9 (.bool true) (by show 9 < 11; omega))
                  clear d_ he x_ y_
                  refine (is_l (w.heap.size + 1) (c :: tl) bc 45 (by have := HL.out; omega) _ (HS.out.at 1 rfl)).mono ?_
                  rintro e w2 ⟨p, l2, rfl, hq, hz, hh_, nb⟩
                  replace HS : Hid (KD w (rdL w ⟨l2.toArray⟩ bc k y mo d hr mi decNil true 0) _) := Lib.hid (HS.out.near 1 rfl hh_ nb)
                  have Qp := Lib.hid hq
                  have HL2 : Hid (l2.length ≤ 390) := Lib.hid (Nat.le_trans hz HL.out)
                  replace HL := HL2
                  clear hq hz hh_ nb
                  cases p
                  · have hlp := is_rest Qp.out
                    subst hlp
                    go_wp2_with fail
                    refine (want_l (w.heap.size + 1) (c :: tl) bc 43 (by have := HL.out; omega) _ (HS.out.at 1 rfl)).mono ?_
                    rintro e w3 ⟨l3, b3, rfl, hz, st, hh_, nb⟩
                    replace HS : Hid (KD w (rdL w ⟨l3.toArray⟩ b3 k y mo d hr mi decNil true 0) _) := Lib.hid (HS.out.near 1 rfl hh_ nb)
                    have S3 := Lib.hid st
                    have HL3 : Hid (l3.length ≤ 390) := Lib.hid (Nat.le_trans hz HL.out)
                    replace HL := HL3
                    clear st hz hh_ nb
                    go_wp2_with fail
                    refine (num_2 (w.heap.size + 1) l3 b3 (by have := HL.out; omega) _ (HS.out.at 1 rfl)).mono ?_
                    rintro e w4 ⟨n4, l4, b4, rfl, hn4, hz, st, hh_, nb⟩
                    replace HS : Hid (KD w (rdL w ⟨l4.toArray⟩ b4 k y mo d hr mi decNil true 0) _) := Lib.hid (HS.out.near 1 rfl hh_ nb)
                    have S4 := Lib.hid st
                    have N4 := Lib.hid hn4
                    have HL4 : Hid (l4.length ≤ 390) := Lib.hid (Nat.le_trans hz HL.out)
                    replace HL := HL4
                    clear st hz hh_ nb hn4
                    go_wp2_with fail
                    refine (want_l (w.heap.size + 1) l4 b4 58 (by have := HL.out; omega) _ (HS.out.at 1 rfl)).mono ?_
                    rintro e w5 ⟨l5, b5, rfl, hz, st, hh_, nb⟩
                    replace HS : Hid (KD w (rdL w ⟨l5.toArray⟩ b5 k y mo d hr mi decNil true 0) _) := Lib.hid (HS.out.near 1 rfl hh_ nb)
                    have S5 := Lib.hid st
                    have HL5 : Hid (l5.length ≤ 390) := Lib.hid (Nat.le_trans hz HL.out)
                    replace HL := HL5
                    clear st hz hh_ nb
                    go_wp2_with fail
                    refine (num_2 (w.heap.size + 1) l5 b5 (by have := HL.out; omega) _ (HS.out.at 1 rfl)).mono ?_
                    rintro e w6 ⟨n6, l6, b6, rfl, hn6, hz, st, hh_, nb⟩
                    replace HS : Hid (KD w (rdL w ⟨l6.toArray⟩ b6 k y mo d hr mi decNil true 0) _) := Lib.hid (HS.out.near 1 rfl hh_ nb)
                    have S6 := Lib.hid st
                    have N6 := Lib.hid hn6
                    have HL6 : Hid (l6.length ≤ 390) := Lib.hid (Nat.le_trans hz HL.out)
                    replace HL := HL6
                    clear st hz hh_ nb hn6
                    have w1 : IntKind.i64.wrap ((n4 : Int) * 60) = (n4 : Int) * 60 := IntWalk.i64_in _ (by have := N4.out; omega)
                    have w2 : IntKind.i64.wrap ((n4 : Int) * 60 + (n6 : Int)) = (n4 : Int) * 60 + (n6 : Int) := IntWalk.i64_in _ (by have := N4.out; have := N6.out; omega)
                    have w3 : IntKind.i64.wrap (1 * ((n4 : Int) * 60 + (n6 : Int))) = (n4 : Int) * 60 + (n6 : Int) := (IntWalk.i64_in _ (by have := N4.out; have := N6.out; omega)).trans (by omega)
                    have x_ := (HS.out.at 2 rfl).cell 10 rfl
                    have y_ := (HS.out.at 2 rfl).frozen 10 rfl
                    have d_ := (HS.out.at 1 rfl).cell 1 rfl
                    have z_ := (HS.out.at 1 rfl).frozen 1 rfl
                    by_cases h59 : 59 < (n6 : Int)
                    · cases b6
                      · have HD := Lib.hid (decide_eq_true h59)
                        go_wp2_with fail
                        go_meet
                        have HS2 : Hid (KD w (rdL w ⟨l6.toArray⟩ (false || decide (59 < (n6 : Int))) k y mo d hr mi decNil true ((n4 : Int) * 60 + (n6 : Int))) _) := Lib.hid (by have h := (HS.out.put1 2 rfl 10 (.int .i64 ((n4 : Int) * 60 + (n6 : Int))) (by show 10 < 11; omega) : KD w (rdL w ⟨l6.toArray⟩ false k y mo d hr mi decNil true ((n4 : Int) * 60 + (n6 : Int))) _).put1 1 rfl 1 (.bool (true)) (by show 1 < 2; omega); rw [HD.out]; exact h)
                        refine ⟨true, (n4 : Int) * 60 + (n6 : Int), l6, (false || decide (59 < (n6 : Int))), ?_, HL.out, HS2.out⟩
                        have e_ : (n4 : Int) * 60 + (n6 : Int) = ((60 * n4 + n6 : Nat) : Int) := by omega
                        rw [e_]
                        exact zone_plus (by intro g; cases g) Qq.out Qp.out S3.out (stp_away S4.out S5.out S6.out)
                      · go_wp2_with fail
                        go_meet
                        have HS2 : Hid (KD w (rdL w ⟨l6.toArray⟩ (true || decide (59 < (n6 : Int))) k y mo d hr mi decNil true ((n4 : Int) * 60 + (n6 : Int))) _) := Lib.hid (by have h := (HS.out.put1 2 rfl 10 (.int .i64 ((n4 : Int) * 60 + (n6 : Int))) (by show 10 < 11; omega) : KD w (rdL w ⟨l6.toArray⟩ true k y mo d hr mi decNil true ((n4 : Int) * 60 + (n6 : Int))) _).put1 1 rfl 1 (.bool (true)) (by show 1 < 2; omega); exact h)
                        refine ⟨true, (n4 : Int) * 60 + (n6 : Int), l6, (true || decide (59 < (n6 : Int))), ?_, HL.out, HS2.out⟩
                        have e_ : (n4 : Int) * 60 + (n6 : Int) = ((60 * n4 + n6 : Nat) : Int) := by omega
                        rw [e_]
                        exact zone_plus (by intro g; cases g) Qq.out Qp.out S3.out (stp_away S4.out S5.out S6.out)
                    · cases b6
                      · go_wp2_with fail
                        go_meet
                        have HS2 : Hid (KD w (rdL w ⟨l6.toArray⟩ (false || decide (59 < (n6 : Int))) k y mo d hr mi decNil true ((n4 : Int) * 60 + (n6 : Int))) _) := Lib.hid (by have h := (HS.out.put1 2 rfl 10 (.int .i64 ((n4 : Int) * 60 + (n6 : Int))) (by show 10 < 11; omega) : KD w (rdL w ⟨l6.toArray⟩ false k y mo d hr mi decNil true ((n4 : Int) * 60 + (n6 : Int))) _).put1 1 rfl 1 (.bool (decide (59 < (n6 : Int)))) (by show 1 < 2; omega); exact h)
                        refine ⟨true, (n4 : Int) * 60 + (n6 : Int), l6, (false || decide (59 < (n6 : Int))), ?_, HL.out, HS2.out⟩
                        have e_ : (n4 : Int) * 60 + (n6 : Int) = ((60 * n4 + n6 : Nat) : Int) := by omega
                        rw [e_]
                        exact zone_plus (by intro g; cases g) Qq.out Qp.out S3.out (stp_away S4.out S5.out S6.out)
                      · go_wp2_with fail
                        go_meet
                        have HS2 : Hid (KD w (rdL w ⟨l6.toArray⟩ (true || decide (59 < (n6 : Int))) k y mo d hr mi decNil true ((n4 : Int) * 60 + (n6 : Int))) _) := Lib.hid (by have h := (HS.out.put1 2 rfl 10 (.int .i64 ((n4 : Int) * 60 + (n6 : Int))) (by show 10 < 11; omega) : KD w (rdL w ⟨l6.toArray⟩ true k y mo d hr mi decNil true ((n4 : Int) * 60 + (n6 : Int))) _).put1 1 rfl 1 (.bool (true)) (by show 1 < 2; omega); exact h)
                        refine ⟨true, (n4 : Int) * 60 + (n6 : Int), l6, (true || decide (59 < (n6 : Int))), ?_, HL.out, HS2.out⟩
                        have e_ : (n4 : Int) * 60 + (n6 : Int) = ((60 * n4 + n6 : Nat) : Int) := by omega
                        rw [e_]
                        exact zone_plus (by intro g; cases g) Qq.out Qp.out S3.out (stp_away S4.out S5.out S6.out)
                  · go_wp2_with fail
                    refine (num_2 (w.heap.size + 1) l2 bc (by have := HL.out; omega) _ (HS.out.at 1 rfl)).mono ?_
                    rintro e w3 ⟨n3, l3, b3, rfl, hn3, hz, st, hh_, nb⟩
                    replace HS : Hid (KD w (rdL w ⟨l3.toArray⟩ b3 k y mo d hr mi decNil true 0) _) := Lib.hid (HS.out.near 1 rfl hh_ nb)
                    have S3 := Lib.hid st
                    have N3 := Lib.hid hn3
                    have HL3 : Hid (l3.length ≤ 390) := Lib.hid (Nat.le_trans hz HL.out)
                    replace HL := HL3
                    clear st hz hh_ nb hn3
                    go_wp2_with fail
                    refine (want_l (w.heap.size + 1) l3 b3 58 (by have := HL.out; omega) _ (HS.out.at 1 rfl)).mono ?_
                    rintro e w4 ⟨l4, b4, rfl, hz, st, hh_, nb⟩
                    replace HS : Hid (KD w (rdL w ⟨l4.toArray⟩ b4 k y mo d hr mi decNil true 0) _) := Lib.hid (HS.out.near 1 rfl hh_ nb)
                    have S4 := Lib.hid st
                    have HL4 : Hid (l4.length ≤ 390) := Lib.hid (Nat.le_trans hz HL.out)
                    replace HL := HL4
                    clear st hz hh_ nb
                    go_wp2_with fail
                    refine (num_2 (w.heap.size + 1) l4 b4 (by have := HL.out; omega) _ (HS.out.at 1 rfl)).mono ?_
                    rintro e w5 ⟨n5, l5, b5, rfl, hn5, hz, st, hh_, nb⟩
                    replace HS : Hid (KD w (rdL w ⟨l5.toArray⟩ b5 k y mo d hr mi decNil true 0) _) := Lib.hid (HS.out.near 1 rfl hh_ nb)
                    have S5 := Lib.hid st
                    have N5 := Lib.hid hn5
                    have HL5 : Hid (l5.length ≤ 390) := Lib.hid (Nat.le_trans hz HL.out)
                    replace HL := HL5
                    clear st hz hh_ nb hn5
                    have w1 : IntKind.i64.wrap ((n3 : Int) * 60) = (n3 : Int) * 60 := IntWalk.i64_in _ (by have := N3.out; omega)
                    have w2 : IntKind.i64.wrap ((n3 : Int) * 60 + (n5 : Int)) = (n3 : Int) * 60 + (n5 : Int) := IntWalk.i64_in _ (by have := N3.out; have := N5.out; omega)
                    have w3 : IntKind.i64.wrap (-1 * ((n3 : Int) * 60 + (n5 : Int))) = -((n3 : Int) * 60 + (n5 : Int)) := (IntWalk.i64_in _ (by have := N3.out; have := N5.out; omega)).trans (by omega)
                    have w4 : IntKind.i64.wrap (-((n3 : Int) * 60 + (n5 : Int))) = -((n3 : Int) * 60 + (n5 : Int)) := IntWalk.i64_in _ (by have := N3.out; have := N5.out; omega)
                    have x_ := (HS.out.at 2 rfl).cell 10 rfl
                    have y_ := (HS.out.at 2 rfl).frozen 10 rfl
                    have d_ := (HS.out.at 1 rfl).cell 1 rfl
                    have z_ := (HS.out.at 1 rfl).frozen 1 rfl
                    by_cases h59 : 59 < (n5 : Int)
                    · cases b5
                      · have HD := Lib.hid (decide_eq_true h59)
                        go_wp2_with fail
                        go_meet
                        have HS2 : Hid (KD w (rdL w ⟨l5.toArray⟩ (false || decide (59 < (n5 : Int))) k y mo d hr mi decNil true (-((n3 : Int) * 60 + (n5 : Int)))) _) := Lib.hid (by have h := (HS.out.put1 2 rfl 10 (.int .i64 (-((n3 : Int) * 60 + (n5 : Int)))) (by show 10 < 11; omega) : KD w (rdL w ⟨l5.toArray⟩ false k y mo d hr mi decNil true (-((n3 : Int) * 60 + (n5 : Int)))) _).put1 1 rfl 1 (.bool (true)) (by show 1 < 2; omega); rw [HD.out]; exact h)
                        refine ⟨true, -((n3 : Int) * 60 + (n5 : Int)), l5, (false || decide (59 < (n5 : Int))), ?_, HL.out, HS2.out⟩
                        have e_ : -((n3 : Int) * 60 + (n5 : Int)) = -((60 * n3 + n5 : Nat) : Int) := by omega
                        rw [e_]
                        exact zone_minus Qp.out (stp_away S3.out S4.out S5.out)
                      · go_wp2_with fail
                        go_meet
                        have HS2 : Hid (KD w (rdL w ⟨l5.toArray⟩ (true || decide (59 < (n5 : Int))) k y mo d hr mi decNil true (-((n3 : Int) * 60 + (n5 : Int)))) _) := Lib.hid (by have h := (HS.out.put1 2 rfl 10 (.int .i64 (-((n3 : Int) * 60 + (n5 : Int)))) (by show 10 < 11; omega) : KD w (rdL w ⟨l5.toArray⟩ true k y mo d hr mi decNil true (-((n3 : Int) * 60 + (n5 : Int)))) _).put1 1 rfl 1 (.bool (true)) (by show 1 < 2; omega); exact h)
                        refine ⟨true, -((n3 : Int) * 60 + (n5 : Int)), l5, (true || decide (59 < (n5 : Int))), ?_, HL.out, HS2.out⟩
                        have e_ : -((n3 : Int) * 60 + (n5 : Int)) = -((60 * n3 + n5 : Nat) : Int) := by omega
                        rw [e_]
                        exact zone_minus Qp.out (stp_away S3.out S4.out S5.out)
                    · cases b5
                      · go_wp2_with fail
                        go_meet
                        have HS2 : Hid (KD w (rdL w ⟨l5.toArray⟩ (false || decide (59 < (n5 : Int))) k y mo d hr mi decNil true (-((n3 : Int) * 60 + (n5 : Int)))) _) := Lib.hid (by have h := (HS.out.put1 2 rfl 10 (.int .i64 (-((n3 : Int) * 60 + (n5 : Int)))) (by show 10 < 11; omega) : KD w (rdL w ⟨l5.toArray⟩ false k y mo d hr mi decNil true (-((n3 : Int) * 60 + (n5 : Int)))) _).put1 1 rfl 1 (.bool (decide (59 < (n5 : Int)))) (by show 1 < 2; omega); exact h)
                        refine ⟨true, -((n3 : Int) * 60 + (n5 : Int)), l5, (false || decide (59 < (n5 : Int))), ?_, HL.out, HS2.out⟩
                        have e_ : -((n3 : Int) * 60 + (n5 : Int)) = -((60 * n3 + n5 : Nat) : Int) := by omega
                        rw [e_]
                        exact zone_minus Qp.out (stp_away S3.out S4.out S5.out)
                      · go_wp2_with fail
                        go_meet
                        have HS2 : Hid (KD w (rdL w ⟨l5.toArray⟩ (true || decide (59 < (n5 : Int))) k y mo d hr mi decNil true (-((n3 : Int) * 60 + (n5 : Int)))) _) := Lib.hid (by have h := (HS.out.put1 2 rfl 10 (.int .i64 (-((n3 : Int) * 60 + (n5 : Int)))) (by show 10 < 11; omega) : KD w (rdL w ⟨l5.toArray⟩ true k y mo d hr mi decNil true (-((n3 : Int) * 60 + (n5 : Int)))) _).put1 1 rfl 1 (.bool (true)) (by show 1 < 2; omega); exact h)
                        refine ⟨true, -((n3 : Int) * 60 + (n5 : Int)), l5, (true || decide (59 < (n5 : Int))), ?_, HL.out, HS2.out⟩
                        have e_ : -((n3 : Int) * 60 + (n5 : Int)) = -((60 * n3 + n5 : Nat) : Int) := by omega
                        rw [e_]
                        exact zone_minus Qp.out (stp_away S3.out S4.out S5.out)
              · have d_ := (HS.out.at 2 rfl).cell 9 rfl
                have z_ := (HS.out.at 2 rfl).frozen 9 rfl
                go_wp2_with fail
                replace HS : Hid (KD w (rdL w ⟨l1.toArray⟩ bc k y mo d hr mi decNil true 0) _) := Lib.hid (HS.out.put1 2 rfl 9 (.bool true) (by show 9 < 11; omega))
                clear d_ z_
                go_meet
                exact ⟨true, 0, l1, bc, zone_Z Qq.out, HL.out, HS.out⟩
          case rest =>
            clear HS HL
            obtain ⟨zd, z, ld, bd2, st, hl, hS⟩ := hcut
            have SD := Lib.hid st
            have HS := Lib.hid hS
            clear st hl hS
            have HP := Lib.hid (parts_fin SA.out SB.out SC.out SD.out)
            go_upto_region 41 with fail
            go_cut [162] (fun s wx => s = .bool (bd2 || !ld.isEmpty) ∧ KD w (rdL w ⟨ld.toArray⟩ bd2 k y mo d hr mi decNil zd z) wx)
            case first =>
              have d_ := (HS.out.at 1 rfl).cell 1 rfl
              cases bd2
              · have c_ := (HS.out.at 1 rfl).cell 0 rfl
                cases ld with
                | nil =>
                  have he : (⟨([] : List UInt8).toArray⟩ : ByteArray).toList.isEmpty = true := by rw [Lib.toList_data, bytes_mk]; rfl
                  go_wp2_with fail
                  go_meet
                  exact ⟨rfl, HS.out⟩
                | cons c tl =>
                  have he : (⟨(c :: tl).toArray⟩ : ByteArray).toList.isEmpty = false := by rw [Lib.toList_data, bytes_mk]; rfl
                  go_wp2_with fail
                  go_meet
                  exact ⟨rfl, HS.out⟩
              · go_wp2_with fail
                go_meet
                exact ⟨rfl, HS.out⟩
            case rest =>
              clear HS
              obtain ⟨rfl, hS⟩ := hcut
              have HS := Lib.hid hS
              clear hS
              cases hb : (bd2 || !ld.isEmpty)
              rotate_left
              · have HZ := Lib.hid (read_fail (by rw [HBD.out, HBT.out]; exact HOK.out) (HP.out.trans (if_neg (by rintro ⟨g1, g2⟩; rw [g1, g2] at hb; cases hb))))
                clear hb
                have x0 := (HS.out.at 0 rfl).free11
                obtain ⟨x0, x1, x2, x3, x4, x5, x6, x7, x8, x9, x10⟩ := x0
                obtain ⟨y0, y1, y2, y3, y4, y5, y6, y7, y8, y9, y10⟩ := (HS.out.at 0 rfl).all11
                go_wp2
                replace HS := Lib.hid (HS.out.store 0 rfl nilM rfl)
                obtain ⟨r0, r1, r2, r3, r4, r5, r6, r7, r8, r9, r10⟩ := (HS.out.at 0 rfl).all11
                simp only [setL, nilM, Nat.reduceAdd] at r0 r1 r2 r3 r4 r5 r6 r7 r8 r9 r10
                refine bodyPost_ret (v := .tuple #[momNil.v, .int .i64 6]) ?_ rfl ⟨by rw [HZ.out]; rfl, HS.out.old⟩
                simp [results, Tryz.results10, go_sem, Mom.v, momNil, decNil, r0, r1, r2, r3, r4, r5, r6, r7, r8, r9, r10]
              have hb1 : bd2 = false := (Bool.or_eq_false_iff.1 hb).1
              have hb2 : ld = [] := by
                have h := (Bool.or_eq_false_iff.1 hb).2
                clear hb
                cases ld with
                | nil => rfl
                | cons c tl => cases h
              clear hb
              subst hb1 hb2
              have HPS := Lib.hid (read_parts (by rw [HBD.out, HBT.out]; exact HOK.out) (HP.out.trans (if_pos ⟨rfl, rfl⟩)))
              go_wp2_with fail
              refine (cE _).mono ?_
              rintro e w_ ⟨rfl, rfl⟩
              go_upto_if 165 with fail
              go_cut [] (fun wx => SecAt k y mo d hr mi zd z l w wx)
              case first =>
                cases bt
                · have HQ : Hid (readS6 k l = seenS ⟨k, y, mo, d, hr, mi, decNil, zd, z⟩) := Lib.hid (by rw [HPS.out]; unfold partsS; rw [HBT.out]; rfl)
                  go_wp2_with fail
                  go_meet
                  exact ⟨decNil, by decide, HQ.out, HS.out⟩
                · go_wp2_with fail
                  have cR := cS ⟨f.toArray⟩ (by rw [list_size]; exact HF.out)
                  have HV := Lib.hid (@read_valid ⟨f.toArray⟩)
                  have HPE : Hid (readS6 k l = if (readS ⟨f.toArray⟩).e = 0 then seenS ⟨k, y, mo, d, hr, mi, (readS ⟨f.toArray⟩).d, zd, z⟩ else ⟨momNil, (readS ⟨f.toArray⟩).e⟩) := Lib.hid (by rw [HPS.out]; unfold partsS; rw [HBT.out]; rfl)
                  unfold DRes.v Dec.v at cR
                  generalize (readS ⟨f.toArray⟩).d = c at *
                  generalize (readS ⟨f.toArray⟩).e = q at *
                  refine (cR _).mono ?_
                  rintro e wd ⟨rfl, b1⟩
                  replace HS := Lib.hid (HS.out.call b1)
                  clear b1 cR
                  by_cases hq : q = 0
                  · subst hq
                    have HQ : Hid (readS6 k l = seenS ⟨k, y, mo, d, hr, mi, c, zd, z⟩) := Lib.hid (HPE.out.trans (if_pos rfl))
                    have HCV : Hid (c.ds.size ≤ 400) := Lib.hid (Nat.le_trans (HV.out rfl).size (by decide))
                    obtain ⟨x0, x1, x2, x3, x4, x5, x6, x7, x8, x9, x10⟩ := (HS.out.at 2 rfl).free11
                    obtain ⟨y0, y1, y2, y3, y4, y5, y6, y7, y8, y9, y10⟩ := (HS.out.at 2 rfl).all11
                    have hlt := (HS.out.at 2 rfl).lt
                    have ne1 : w.heap.size + 1 + 1 ≠ wd.heap.size := by omega
                    have ne2 : wd.heap.size ≠ w.heap.size + 1 + 1 := by omega
                    go_wp2_with fail
                    go_meet
                    exact ⟨c, HCV.out, HQ.out, (((HS.out.put1 2 rfl 6 (.bool c.neg) (by show 6 < 11; omega)).put1 2 rfl 7 (.string c.ds) (by show 7 < 11; omega)).put1 2 rfl 8 (.int .i64 c.sc) (by show 8 < 11; omega)).alloc _⟩
                  · have hqb : (q != 0) = true := by simpa using hq
                    have HZ : Hid (readS6 k l = ⟨momNil, q⟩) := Lib.hid (HPE.out.trans (if_neg hq))
                    clear hq
                    have x0 := (HS.out.at 0 rfl).free11
                    obtain ⟨x0, x1, x2, x3, x4, x5, x6, x7, x8, x9, x10⟩ := x0
                    obtain ⟨y0, y1, y2, y3, y4, y5, y6, y7, y8, y9, y10⟩ := (HS.out.at 0 rfl).all11
                    have hlt := (HS.out.at 0 rfl).lt
                    have ne1 : w.heap.size ≠ wd.heap.size := by omega
                    have ne2 : wd.heap.size ≠ w.heap.size := by omega
                    go_wp2
                    replace HS := Lib.hid ((HS.out.store 0 rfl nilM rfl).alloc (.cells #[.bool c.neg, .string c.ds, .int .i64 c.sc] 23))
                    obtain ⟨r0, r1, r2, r3, r4, r5, r6, r7, r8, r9, r10⟩ := (HS.out.at 0 rfl).all11
                    simp only [setL, nilM, Nat.reduceAdd] at r0 r1 r2 r3 r4 r5 r6 r7 r8 r9 r10
                    refine bodyPost_ret (v := .tuple #[momNil.v, .int .i64 q]) ?_ rfl ⟨by rw [HZ.out]; rfl, HS.out.old⟩
                    simp [results, Tryz.results10, go_sem, Mom.v, momNil, decNil, r0, r1, r2, r3, r4, r5, r6, r7, r8, r9, r10]
              case rest =>
                clear HS
                obtain ⟨c, hc, hq, hS⟩ := hcut
                have HQ := Lib.hid hq
                have HS := Lib.hid hS
                have cV := fun W => r_check6 ⟨k, y, mo, d, hr, mi, c, zd, z⟩ hc W
                unfold Mom.v at cV
                dsimp only at cV
                clear hq hS hc
                unfold checkS at cV
                cases hok2 : okB ⟨k, y, mo, d, hr, mi, c, zd, z⟩
                · have HZ : Hid (readS6 k l = ⟨momNil, 6⟩) := Lib.hid (by rw [HQ.out]; unfold seenS; rw [hok2]; rfl)
                  rw [hok2] at cV
                  simp only [Bool.false_eq_true, if_false] at cV
                  clear hok2
                  obtain ⟨y0, y1, y2, y3, y4, y5, y6, y7, y8, y9, y10⟩ := (HS.out.at 2 rfl).all11
                  go_wp2_with fail
                  refine (cV _).mono ?_
                  rintro e wv ⟨rfl, b1⟩
                  replace HS := Lib.hid (HS.out.call b1)
                  clear b1 cV y0 y1 y2 y3 y4 y5 y6 y7 y8 y9 y10
                  have x0 := (HS.out.at 0 rfl).free11
                  obtain ⟨x0, x1, x2, x3, x4, x5, x6, x7, x8, x9, x10⟩ := x0
                  obtain ⟨y0, y1, y2, y3, y4, y5, y6, y7, y8, y9, y10⟩ := (HS.out.at 0 rfl).all11
                  go_wp2
                  replace HS := Lib.hid (HS.out.store 0 rfl nilM rfl)
                  obtain ⟨r0, r1, r2, r3, r4, r5, r6, r7, r8, r9, r10⟩ := (HS.out.at 0 rfl).all11
                  simp only [setL, nilM, Nat.reduceAdd] at r0 r1 r2 r3 r4 r5 r6 r7 r8 r9 r10
                  refine bodyPost_ret (v := .tuple #[momNil.v, .int .i64 6]) ?_ rfl ⟨by rw [HZ.out]; rfl, HS.out.old⟩
                  simp [results, Tryz.results10, go_sem, Mom.v, momNil, decNil, r0, r1, r2, r3, r4, r5, r6, r7, r8, r9, r10]
                · have HZ : Hid (readS6 k l = ⟨⟨k, y, mo, d, hr, mi, c, zd, z⟩, 0⟩) := Lib.hid (by rw [HQ.out]; unfold seenS; rw [hok2]; rfl)
                  rw [hok2] at cV
                  simp only [if_true] at cV
                  clear hok2
                  obtain ⟨y0, y1, y2, y3, y4, y5, y6, y7, y8, y9, y10⟩ := (HS.out.at 2 rfl).all11
                  go_wp2_with fail
                  refine (cV _).mono ?_
                  rintro e wv ⟨rfl, b1⟩
                  replace HS := Lib.hid (HS.out.call b1)
                  clear b1 cV y0 y1 y2 y3 y4 y5 y6 y7 y8 y9 y10
                  obtain ⟨y0, y1, y2, y3, y4, y5, y6, y7, y8, y9, y10⟩ := (HS.out.at 2 rfl).all11
                  obtain ⟨u0, u1, u2, u3, u4, u5, u6, u7, u8, u9, u10⟩ := (HS.out.at 0 rfl).all11
                  obtain ⟨x0, x1, x2, x3, x4, x5, x6, x7, x8, x9, x10⟩ := (HS.out.at 0 rfl).free11
                  have ne1 : w.heap.size ≠ w.heap.size + 1 + 1 := by omega
                  have ne2 : w.heap.size + 1 + 1 ≠ w.heap.size := by omega
                  go_wp2
                  replace HS := Lib.hid (HS.out.store 0 rfl [.int .i64 k, .int .i64 y, .int .i64 mo, .int .i64 d, .int .i64 hr, .int .i64 mi, .bool c.neg, .string c.ds, .int .i64 c.sc, .bool zd, .int .i64 z] rfl)
                  obtain ⟨r0, r1, r2, r3, r4, r5, r6, r7, r8, r9, r10⟩ := (HS.out.at 0 rfl).all11
                  simp only [setL, Nat.reduceAdd] at r0 r1 r2 r3 r4 r5 r6 r7 r8 r9 r10
                  refine bodyPost_ret (v := .tuple #[Mom.v ⟨k, y, mo, d, hr, mi, c, zd, z⟩, .int .i64 0]) ?_ rfl ⟨by rw [HZ.out]; rfl, HS.out.old⟩
                  simp [results, Tryz.results10, go_sem, Mom.v, r0, r1, r2, r3, r4, r5, r6, r7, r8, r9, r10]
theorem r_read_off (k : Int) (s : ByteArray) (hd : datedB k = false) (ht : timedB k = false) (w : World) : Calls Tryz.prog 10 #[.int .i64 k, .string s] w fun e w' => e = .returned (MRes.v ⟨momNil, 2⟩) ∧ Below w.heap.size w w' := by
  have cH := fun W => dated_any k W
  have cE := fun W => timed_any k W
  rw [hd] at cH
  rw [ht] at cE
  have HS := Lib.hid ((KD.nil w).push nilM 25 (n := w.heap.size) rfl)
  go_enter Tryz.func10, Tryz.ntmps10
  go_wp2_with (first | (go_at_call 32; refine (cH _).mono ?_; rintro e w_ ⟨rfl, rfl⟩) | (go_at_call 33; refine (cE _).mono ?_; rintro e w_ ⟨rfl, rfl⟩))
  refine bodyPost_ret (v := .tuple #[momNil.v, .int .i64 2]) ?_ rfl ⟨rfl, stepA (Below.refl _ _) _⟩
  simp [results, Tryz.results10, go_sem, Mom.v, momNil, decNil]
theorem r_read6 (k : Int) (s : ByteArray) (hs : s.size ≤ 390) (w : World) : Calls Tryz.prog 10 #[.int .i64 k, .string s] w fun e w' => e = .returned (readS6 k s.data.toList).v ∧ Below w.heap.size w w' := by
  cases hk : (datedB k || timedB k) with
  | false =>
    have h := Bool.or_eq_false_iff.1 hk
    have e : readS6 k s.data.toList = ⟨momNil, 2⟩ := by unfold readS6; rw [hk, if_neg (by simp)]
    rw [e]
    exact r_read_off k s h.1 h.2 w
  | true =>
    have es : s = ⟨s.data.toList.toArray⟩ := bytes_of rfl
    have hl : s.data.toList.length ≤ 390 := by rw [bytes_len]; exact hs
    generalize s.data.toList = l at *
    subst es
    exact r_read_on k _ _ _ l rfl rfl rfl hk hl (fun W => dated_any k W) (fun W => timed_any k W) (fun s hs W => r_read s hs W) w
end Go.Proofs.YtmdnijehoagamaaGreatDoor
