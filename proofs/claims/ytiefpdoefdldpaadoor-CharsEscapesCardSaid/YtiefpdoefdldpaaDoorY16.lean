/- Unescape, at every text. -/
import Derived.Test.YtiefpdoefdldpaaDoorY15
namespace Go.Proofs.YtiefpdoefdldpaaDoor
open Go.RowKit

theorem nam_lookb (wd : ByteArray) (b n : Nat) (w : World) (hwd : wd.size ≤ maxLen) (hown : w.ownsMap Tryd.prog 9 (plainElem (H := Unit) Tryd.prog 21) b n namM) :
    (Instr.lookup 62 (.map (some b)) (.string wd) true).run Tryd.prog w = .ok (.tuple #[.int .i32 ((namL wd.data.toList).getD 0), .bool (namL wd.data.toList).isSome]) w := by
  have hk : keyOf Tryd.prog 9 (.string wd) = some (.string wd.data.toList) := WideMaps.keyOf_string_mk (P := Tryd.prog) (k := 9) Tryd.underlying9 (s := wd) hwd
  obtain ⟨v, ps, hrun, hv⟩ := hown.look_ok key9 Tryd.underlying62 (Tryd.zeroValue21 w) (plainElem_int Tryd.underlying21 (by decide)) hk
  obtain ⟨a, rfl, hz, _⟩ := plainElem_int_inv Tryd.underlying21 hv
  rw [nam_has] at hrun
  have h1 := congrArg Prod.fst hz
  rw [nam_at] at h1
  simp only [DataW.lit.injEq, Lit.int.injEq, true_and] at h1
  rw [h1]
  exact hrun

set_option maxHeartbeats 1000000 in
theorem escaped_namedb (wd : ByteArray) (c : Int) (b n : Nat) (w : World) (hwd : wd.size ≤ maxLen) (hown : w.ownsMap Tryd.prog 9 (plainElem (H := Unit) Tryd.prog 21) b n namM) (hc : namL wd.data.toList = some c) :
    Calls Tryd.prog 43 #[.string wd, .map (some b)] w fun e w' => e = .returned (.int .i32 c) ∧ w' = w := by
  have hL := nam_lookb wd b n w hwd hown
  rw [hc] at hL
  simp only [Option.getD_some, Option.isSome_some] at hL
  clear hown hc hwd
  go_enter Tryd.func43, Tryd.ntmps43
  go_wp2
  go_ret
  exact ⟨rfl, rfl⟩

set_option maxHeartbeats 1000000 in
theorem escaped_noneb (wd : ByteArray) (b n : Nat) (w : World) (hwd : wd.size ≤ maxLen) (hown : w.ownsMap Tryd.prog 9 (plainElem (H := Unit) Tryd.prog 21) b n namM) (hc : namL wd.data.toList = none)
    (h2 : Lib.hasPrefix wd.data.toList [35, 120] = false) (h1 : Lib.hasPrefix wd.data.toList [35] = false) :
    Calls Tryd.prog 43 #[.string wd, .map (some b)] w fun e w' => e = .returned (.int .i32 (-1)) ∧ w' = w := by
  have hL := nam_lookb wd b n w hwd hown
  rw [hc] at hL
  simp only [Option.getD_none, Option.isSome_none] at hL
  have cC := fun p => Tryd.strings_CutPrefix wd p w
  clear hown hc hwd
  go_enter Tryd.func43, Tryd.ntmps43
  go_wp2_with (go_at_call 55; refine (cC _).mono ?_; rintro e w1 ⟨rfl, rfl⟩)
  go_ret
  exact ⟨rfl, rfl⟩

set_option maxHeartbeats 1000000 in
theorem escaped_16b (wd d : ByteArray) (v : Int) (b n : Nat) (w : World) (hwd : wd.size ≤ maxLen) (hown : w.ownsMap Tryd.prog 9 (plainElem (H := Unit) Tryd.prog 21) b n namM) (hc : namL wd.data.toList = none)
    (h2 : Lib.hasPrefix wd.data.toList [35, 120] = true) (hd : ByteArray.mk (Lib.trimPrefix wd.data.toList [35, 120]).toArray = d)
    (cN : Calls Tryd.prog 56 #[.string d, .int .i64 16] w fun e w' => e = .returned (.int .i32 v) ∧ Below w.heap.size w w') :
    Calls Tryd.prog 43 #[.string wd, .map (some b)] w fun e w' => e = .returned (.int .i32 v) ∧ Below w.heap.size w w' := by
  have hL := nam_lookb wd b n w hwd hown
  rw [hc] at hL
  simp only [Option.getD_none, Option.isSome_none] at hL
  have c2 := Tryd.strings_CutPrefix wd ⟨#[35, 120]⟩ w
  simp only [h2, hd] at c2
  clear hown hc hwd h2 hd
  go_enter Tryd.func43, Tryd.ntmps43
  go_wp2_with (first | (go_at_call 55; refine c2.mono ?_; rintro e w1 ⟨rfl, rfl⟩) | (go_at_call 56; refine cN.mono ?_; rintro e w1 ⟨rfl, hb⟩))
  go_ret
  exact ⟨rfl, hb⟩

set_option maxHeartbeats 1000000 in
theorem escaped_10b (wd d : ByteArray) (v : Int) (b n : Nat) (w : World) (hwd : wd.size ≤ maxLen) (hown : w.ownsMap Tryd.prog 9 (plainElem (H := Unit) Tryd.prog 21) b n namM) (hc : namL wd.data.toList = none)
    (h2 : Lib.hasPrefix wd.data.toList [35, 120] = false) (h1 : Lib.hasPrefix wd.data.toList [35] = true) (hd : ByteArray.mk (Lib.trimPrefix wd.data.toList [35]).toArray = d)
    (cN : Calls Tryd.prog 56 #[.string d, .int .i64 10] w fun e w' => e = .returned (.int .i32 v) ∧ Below w.heap.size w w') :
    Calls Tryd.prog 43 #[.string wd, .map (some b)] w fun e w' => e = .returned (.int .i32 v) ∧ Below w.heap.size w w' := by
  have hL := nam_lookb wd b n w hwd hown
  rw [hc] at hL
  simp only [Option.getD_none, Option.isSome_none] at hL
  have cC := fun p => Tryd.strings_CutPrefix wd p w
  clear hown hc hwd
  go_enter Tryd.func43, Tryd.ntmps43
  go_wp2_with (first | (go_at_call 55; refine (cC _).mono ?_; rintro e w1 ⟨rfl, rfl⟩) | (go_at_call 56; refine cN.mono ?_; rintro e w1 ⟨rfl, hb⟩))
  go_ret
  exact ⟨rfl, hb⟩

/-- The words of escapes, from a world on. -/
def Kn2 (E : List UInt8 → Int) (w0 : World) : Prop := ∀ (wd : ByteArray) (b n : Nat) (W : World), wd.size ≤ maxLen → Tabs W → Below w0.heap.size w0 W → W.ownsMap Tryd.prog 9 (plainElem (H := Unit) Tryd.prog 21) b n namM →
  Calls Tryd.prog 43 #[.string wd, .map (some b)] W fun e W' => e = .returned (.int .i32 (E wd.data.toList)) ∧ Below W.heap.size W W'

/-- The character of an escape, by its word; -1: none. -/
def fullE (l : List UInt8) : Int :=
  match namL l with
  | some c => c
  | none => if l.head? = some 35 then (if l.tail.head? = some 120 then numE 16 l.tail.tail else numE 10 l.tail) else -1

theorem numE_some (b : Nat) (d : List UInt8) : numE b d = -1 ∨ ∃ c : Nat, numE b d = (c : Int) ∧ V c ∧ c ≤ 1114111 := by
  unfold numE
  split
  · exact .inl rfl
  split
  · exact .inl rfl
  rename_i n _
  cases hv : vldB (n : Int) with
  | false => exact .inl rfl
  | true =>
    obtain ⟨m, hm, hV, hle⟩ := vld_nat hv
    obtain rfl : n = m := by omega
    exact .inr ⟨n, rfl, hV, hle⟩
theorem fullE_some (l : List UInt8) : fullE l = -1 ∨ ∃ c : Nat, fullE l = (c : Int) ∧ V c ∧ c ≤ 1114111 := by
  unfold fullE
  split
  · rename_i c hc
    have hv : vldB c = true := by
      unfold namL at hc
      repeat' split at hc
      all_goals first | (cases hc; decide) | cases hc
    obtain ⟨m, rfl, hV, hle⟩ := vld_nat hv
    exact .inr ⟨m, rfl, hV, hle⟩
  · split
    · split
      · exact numE_some _ _
      · exact numE_some _ _
    · exact .inl rfl

theorem trim_le (l p : List UInt8) : (Lib.trimPrefix l p).length ≤ l.length := by
  unfold Lib.trimPrefix
  split
  · simp
  · exact Nat.le_refl _

theorem full_any (w0 : World) (h0 : 9 ≤ w0.heap.size) (hE : Errs w0) : Kn2 fullE w0 := by
  intro wd b n W hwd hT hB hown
  have hEW := hE.below hB h0
  have hl : wd.data.toList.length = wd.size := by simp
  unfold fullE
  cases hc : namL wd.data.toList with
  | some c => exact (escaped_namedb wd c b n W hwd hown hc).mono fun e w' h => ⟨h.1, h.2 ▸ Below.refl _ _⟩
  | none =>
    simp only
    obtain ⟨L, hL⟩ : ∃ L, wd.data.toList = L := ⟨_, rfl⟩
    rw [hL] at hc hl ⊢
    cases L with
    | nil =>
      rw [if_neg (by simp)]
      exact (escaped_noneb wd b n W hwd hown (by rw [hL]; exact hc) (by rw [hL]; rfl) (by rw [hL]; rfl)).mono fun e w' h => ⟨h.1, h.2 ▸ Below.refl _ _⟩
    | cons a r =>
      by_cases ha : a = 35
      · subst ha
        rw [if_pos (show (List.head? ((35 : UInt8) :: r)) = some 35 from rfl)]
        cases r with
        | nil =>
          rw [if_neg (by simp)]
          have hd : ByteArray.mk (Lib.trimPrefix wd.data.toList [35]).toArray = ⟨#[]⟩ := by rw [hL]; rfl
          exact escaped_10b wd ⟨#[]⟩ _ b n W hwd hown (by rw [hL]; exact hc) (by rw [hL]; rfl) (by rw [hL]; rfl) hd (numbered_any 10 (.inl rfl) ⟨#[]⟩ (by decide) W hT hEW)
        | cons x d =>
          by_cases hx : x = 120
          · subst hx
            have hp : Lib.hasPrefix (35 :: 120 :: d) [35, 120] = true := by simp [Lib.hasPrefix, List.isPrefixOf]
            have ht : Lib.trimPrefix (35 :: 120 :: d) [35, 120] = d := by unfold Lib.trimPrefix; rw [if_pos hp]; rfl
            rw [if_pos (show (List.tail ((35 : UInt8) :: 120 :: d)).head? = some 120 from rfl)]
            have hd : ByteArray.mk (Lib.trimPrefix wd.data.toList [35, 120]).toArray = ⟨d.toArray⟩ := by rw [hL, ht]
            have cN := numbered_any 16 (.inr rfl) ⟨d.toArray⟩ (by
              have : (ByteArray.mk d.toArray).size = d.length := by simp [ByteArray.size]
              rw [this]
              simp only [List.length_cons] at hl
              omega) W hT hEW
            exact escaped_16b wd ⟨d.toArray⟩ _ b n W hwd hown (by rw [hL]; exact hc) (by rw [hL]; exact hp) hd cN
          · have hp : Lib.hasPrefix (35 :: x :: d) [35, 120] = false := by
              have : ((120 : UInt8) == x) = false := beq_eq_false_iff_ne.2 (fun e => hx e.symm)
              simp [Lib.hasPrefix, List.isPrefixOf, this]
            have hp1 : Lib.hasPrefix (35 :: x :: d) [35] = true := by simp [Lib.hasPrefix, List.isPrefixOf]
            have ht : Lib.trimPrefix (35 :: x :: d) [35] = x :: d := by unfold Lib.trimPrefix; rw [if_pos hp1]; rfl
            have hx2 : ¬ (List.tail ((35 : UInt8) :: x :: d)).head? = some 120 := by simpa using hx
            rw [if_neg hx2]
            have hd : ByteArray.mk (Lib.trimPrefix wd.data.toList [35]).toArray = ⟨(x :: d).toArray⟩ := by rw [hL, ht]
            have cN := numbered_any 10 (.inl rfl) ⟨(x :: d).toArray⟩ (by
              have : (ByteArray.mk (x :: d).toArray).size = (x :: d).length := by simp [ByteArray.size]
              rw [this]
              simp only [List.length_cons] at hl ⊢
              omega) W hT hEW
            exact escaped_10b wd ⟨(x :: d).toArray⟩ _ b n W hwd hown (by rw [hL]; exact hc) (by rw [hL]; exact hp) (by rw [hL]; exact hp1) hd cN
      · have hp : ∀ p, Lib.hasPrefix (a :: r) (35 :: p) = false := fun p => by
          have : ((35 : UInt8) == a) = false := beq_eq_false_iff_ne.2 (fun e => ha e.symm)
          simp [Lib.hasPrefix, List.isPrefixOf, this]
        rw [if_neg (by simpa using ha)]
        exact (escaped_noneb wd b n W hwd hown (by rw [hL]; exact hc) (by rw [hL]; exact hp _) (by rw [hL]; exact hp _)).mono fun e w' h => ⟨h.1, h.2 ▸ Below.refl _ _⟩

set_option maxRecDepth 100000 in
set_option maxHeartbeats 8000000 in
theorem unescape_at (E : List UInt8 → Int) (ok : List UInt8 → Bool) (hE : ∀ l, E l = -1 ∨ ∃ c : Nat, E l = (c : Int) ∧ V c ∧ c ≤ 1114111)  (s : ByteArray) (w : World) (hs : s.size ≤ 100000) (hT : Tabs w) (cE : Kn2 E w)
    (hok : unescOk E ok s.data.toList = true) : Calls Tryd.prog 25 #[.string s] w (UPost (unesc E s.data.toList) w) := by
  have hsz := hT.size
  have hmax : s.size ≤ maxLen := by unfold maxLen; omega
  have cF := firstWrong_any s w hmax hT
  cases hbad : badB s.data.toList with
  | true =>
    rw [hbad] at cF
    have HR : Hid (unesc E s.data.toList = ([], badI s.data.toList, 6)) := by show _ = _; unfold unesc; rw [hbad]; rfl
    rw [HR.out]
    generalize badI s.data.toList = bi at cF ⊢
    clear HR hok hbad cE hE
    go_enter Tryd.func25, Tryd.ntmps25
    go_wp2_with (go_at_call 40; refine cF.mono ?_; rintro e w1 ⟨rfl, hb⟩)
    go_ret3
    exact ⟨rfl, hb⟩
  | false =>
    rw [hbad] at cF
    have HR : Hid (unesc E s.data.toList = ug E s.data.toList.length (s.data.toList.length + 1) [] (Lib.cut s.data.toList [38]).1 (Lib.cut s.data.toList [38]).2.1 (Lib.cut s.data.toList [38]).2.2) := by show _ = _; unfold unesc; rw [hbad]; rfl
    have HOK := Lib.hid hok
    obtain ⟨R, hR⟩ : ∃ R, unesc E s.data.toList = R := ⟨_, rfl⟩
    rw [hR] at HR ⊢
    clear hok hbad hR
    generalize badI s.data.toList = bi at cF
    go_enter Tryd.func25, Tryd.ntmps25
    go_wp2_with (first | (go_at_call 40; refine cF.mono ?_; rintro e w1 ⟨rfl, hb1⟩) | (go_at_call 41; refine (namedEscapes_any _).mono ?_; rintro e w2 ⟨b, n, rfl, hbb, hown, hb2⟩) | fail)
    have hb12 := hb1.trans (hb2.mono hb1.size)
    have hW2 : w.heap.size ≤ w2.heap.size := hb12.size
    have hbl : b < w2.heap.size := hown.lt
    have hU0 : UW w.heap.size w2.heap.size b n [] w (w2.alloc (.cells #[.pointer none, .slice none 0 0] 49)) := ⟨bld_fresh w2 w.heap.size hW2, hown.alloc _, hb12.alloc hW2 _⟩
    have hz0 : (w2.alloc (.cells #[.pointer none, .slice none 0 0] 49)).heap.size = w2.heap.size + 1 := by simp
    obtain ⟨W0, hW0⟩ : ∃ W0, w2.alloc (.cells #[.pointer none, .slice none 0 0] 49) = W0 := ⟨_, rfl⟩
    rw [hW0] at hU0 hz0 ⊢
    clear hW0
    obtain ⟨d, hd⟩ : ∃ d, w2.heap.size = d := ⟨_, rfl⟩
    rw [hd] at hU0 hz0 hbl hW2 ⊢
    have hbd : b ≠ d := by omega
    have hT0 := hT.below hU0.bel hsz
    clear hd hown hb2 hb12 hb1 hbb
    obtain ⟨m0, hm0⟩ := hT0.maxl
    refine (Tryd.strings_Cut s ⟨#[38]⟩ m0 W0 (by omega) hm0).mono ?_
    rintro e W1 ⟨rfl, n1, rfl⟩
    have hU1 := hU0.stay (below_drewNx (Below.refl _ _) n1) (by omega) hbd
    have hz1 : d < (W0.drewN n1).heap.size := by show d < W0.heap.size; omega
    obtain ⟨W1, hW1⟩ : ∃ W1, W0.drewN n1 = W1 := ⟨_, rfl⟩
    rw [hW1] at hU1 hz1 ⊢
    clear hW1 hU0 hz0 hm0 hT0
    have hL : s.data.toList.length = s.size := by simp
    obtain ⟨Be, hBe⟩ : ∃ Be, ByteArray.mk (Lib.cut s.data.toList [38]).1.toArray = Be := ⟨_, rfl⟩
    obtain ⟨Re, hRe⟩ : ∃ Re, ByteArray.mk (Lib.cut s.data.toList [38]).2.1.toArray = Re := ⟨_, rfl⟩
    obtain ⟨fd, hfd⟩ : ∃ fd, (Lib.cut s.data.toList [38]).2.2 = fd := ⟨_, rfl⟩
    have eBe : Be.data.toList = (Lib.cut s.data.toList [38]).1 := by rw [← hBe]
    have eRe : Re.data.toList = (Lib.cut s.data.toList [38]).2.1 := by rw [← hRe]
    have hcl := (cut_len s.data.toList [38]).1
    have HI : Hid (R = ug E s.size (s.size + 1) [] Be.data.toList Re.data.toList fd ∧ uok E ok (s.size + 1) Re.data.toList fd = true ∧ Re.data.toList.length < s.size + 1 ∧ ([] : List UInt8).length + 4 * (Be.data.toList.length + Re.data.toList.length) ≤ 4 * s.size) := by
      refine ⟨?_, ?_, ?_, ?_⟩
      · rw [HR.out, eBe, eRe, hfd, hL]
      · have h := HOK.out
        unfold unescOk at h
        rw [eRe, ← hfd, ← hL]
        exact h
      · rw [eRe]; omega
      · rw [eBe, eRe, List.length_nil]; omega
    have HC1 : (Lib.cut s.data.toList ((ByteArray.mk #[38]).data.toList)) = (Lib.cut s.data.toList [38]) := rfl
    rw [HC1, hBe, hRe, hfd]
    clear HC1 hBe hRe hfd eBe eRe hcl HR HOK
    go_wp2
    go_loopg [9, 10, 11] (s.size + 1) (fun gk v9 v10 v11 wr => ∃ (acc : List UInt8) (Be Re : ByteArray) (fd : Bool), v9 = .string Be ∧ v10 = .string Re ∧ v11 = .bool fd ∧ Hid (R = ug E s.size gk acc Be.data.toList Re.data.toList fd ∧ uok E ok gk Re.data.toList fd = true ∧ Re.data.toList.length < gk ∧ acc.length + 4 * (Be.data.toList.length + Re.data.toList.length) ≤ 4 * s.size) ∧ UW w.heap.size d b n acc w wr ∧ d < wr.heap.size)
    case atStart => exact ⟨[], Be, Re, fd, rfl, rfl, rfl, HI, hU1, hz1⟩
    case round =>
      clear hU1 hz1 HI
      obtain ⟨acc, Be, Re, fd, rfl, rfl, rfl, hh, hU, hz⟩ := hrel
      have hlt := hh.out.2.2.1
      obtain ⟨g, rfl⟩ : ∃ g, gk = g + 1 := ⟨gk - 1, by omega⟩
      have hlen := hh.out.2.2.2
      have hBs : Be.data.toList.length = Be.size := by simp
      have hRs : Re.data.toList.length = Re.size := by simp
      rw [hBs, hRs] at hlen
      have hTr := hT.below hU.bel hsz
      have cW := Tryd.WriteString w.heap.size d (Lib.byteCells acc) Be wr hU.bld (by rw [Lib.byteCells_length]; omega) hU.bel.size
      cases fd with
      | false =>
        have HR : Hid (R = (acc ++ Be.data.toList, 0, 0)) := Lib.hid (by rw [hh.out.1]; rfl)
        clear hh hlt hlen hBs hRs
        go_wp2_with (go_at_call 37; refine cW.mono ?_; rintro e w3 ⟨rfl, hb3, hbel3, hO3⟩)
        have hU3 : UW w.heap.size d b n (acc ++ Be.data.toList) w w3 := hU.write rfl (by rw [Lib.byteCells_append, ← Lib.strCells_eq]; exact hb3) hbel3 hO3 hbd
        refine (Tryd.Builder_String_any_k w.heap.size d (acc ++ Be.data.toList) w3 hU3.bld hU3.bel.size).mono ?_
        rintro e w4 ⟨rfl, _, hbel4, _⟩
        have HR1 : Hid (ByteArray.mk (acc ++ Be.data.toList).toArray = ⟨R.1.toArray⟩ ∧ R.2.1 = 0 ∧ R.2.2 = 0) := by rw [HR.out]; exact ⟨rfl, rfl, rfl⟩
        have HB := Lib.hid (hU3.bel.trans hbel4)
        generalize ByteArray.mk (acc ++ Be.data.toList).toArray = Z at HR1 ⊢
        clear hU3 hbel3 hbel4 hb3 hO3 HR cW
        go_wp2
        go_ret3
        refine ⟨?_, HB.out⟩
        rw [← HR1.out.1, HR1.out.2.1, HR1.out.2.2]
        rfl
      | true =>
        obtain ⟨wd, hwd⟩ : ∃ wd, ByteArray.mk (Lib.cut Re.data.toList [59]).1.toArray = wd := ⟨_, rfl⟩
        obtain ⟨re2, hre2⟩ : ∃ re2, ByteArray.mk (Lib.cut Re.data.toList [59]).2.1.toArray = re2 := ⟨_, rfl⟩
        obtain ⟨f2, hf2⟩ : ∃ f2, (Lib.cut Re.data.toList [59]).2.2 = f2 := ⟨_, rfl⟩
        have ewd : wd.data.toList = (Lib.cut Re.data.toList [59]).1 := by rw [← hwd]
        have ere2 : re2.data.toList = (Lib.cut Re.data.toList [59]).2.1 := by rw [← hre2]
        have hcl := cut_len Re.data.toList [59]
        have hR0 := hh.out.1
        have hk0 := hh.out.2.1
        unfold ug at hR0
        unfold uok at hk0
        rw [← ewd, ← ere2, hf2] at hR0 hk0
        rw [← ewd, ← ere2, hf2] at hcl
        rw [Bool.and_eq_true] at hk0
        obtain ⟨hok1, hk1⟩ := hk0
        have cC := fun W m h => Tryd.strings_Cut Re ⟨#[59]⟩ m W (by omega) h
        have HC1 : (Lib.cut Re.data.toList ((ByteArray.mk #[59]).data.toList)) = (Lib.cut Re.data.toList [59]) := rfl
        rw [HC1, hwd, hre2, hf2] at cC
        have hE1 := hE wd.data.toList
        have hwl0 : wd.size ≤ maxLen := by
          have h1 : wd.data.toList.length = wd.size := by simp
          have h2 := hcl.1
          unfold maxLen
          omega
        have cEw := fun W hTW hbW hmW => cE wd b n W hwl0 hTW hbW hmW
        generalize E wd.data.toList = c at hR0 hk1 hE1 cEw
        clear HC1 hwd hre2 hok1 hh
        have HX := Lib.hid (And.intro hR0 (And.intro hk1 (And.intro ewd (And.intro ere2 hcl))))
        clear hR0 hk1 ewd ere2 hcl hf2
        have HL := Lib.hid (And.intro hBs hRs)
        clear hBs hRs
        have cCut := fun W (h : Tabs W) => h.maxl
        go_wp2_with (first | (go_at_call 37; refine cW.mono ?_; rintro e w3 ⟨rfl, hb3, hbel3, hO3⟩) | fail)
        have hU3 : UW w.heap.size d b n (acc ++ Be.data.toList) w w3 := hU.write rfl (by rw [Lib.byteCells_append, ← Lib.strCells_eq]; exact hb3) hbel3 hO3 hbd
        have hT3 := hT.below hU3.bel hsz
        obtain ⟨m3, hm3⟩ := hT3.maxl
        refine (cC w3 m3 hm3).mono ?_
        rintro e w4 ⟨rfl, n4, rfl⟩
        have hz3 : d < (w3.drewN n4).heap.size := Nat.lt_of_lt_of_le hz hbel3.size
        have hU4 := hU3.stay (below_drewNx (Below.refl _ _) n4) hU3.bel.size hbd
        obtain ⟨w4, hw4⟩ : ∃ w4, w3.drewN n4 = w4 := ⟨_, rfl⟩
        rw [hw4] at hz3 hU4 ⊢
        clear hw4 hU3 hT3 hm3 hb3 hbel3 hO3 cW hU hTr
        have hT4 := hT.below hU4.bel hsz
        have cE4 := cEw w4 hT4 hU4.bel hU4.map
        have hE1H := Lib.hid hE1
        clear hE1 cEw
        have hBW4 : w.heap.size ≤ w4.heap.size := hU4.bel.size
        cases f2 with
        | false =>
          have HR : Hid (R = ([], (s.size : Int) - Re.size - 1, 6)) := by
            show _ = _
            rw [HX.out.1, HL.out.2]
            rfl
          clear HX hE1H
          go_wp2_with (first | (go_at_call 43; refine cE4.mono ?_; rintro e w5 ⟨rfl, hb5⟩) | fail)
          go_ret3
          exact ⟨by rw [HR.out]; rfl, hU4.bel.trans (hb5.mono hBW4)⟩
        | true =>
          by_cases hc : c = -1
          · have HR : Hid (R = ([], (s.size : Int) - Re.size - 1, 6)) := by
              show _ = _
              rw [HX.out.1, HL.out.2, if_pos (.inr hc)]
            clear HX hE1H
            subst hc
            go_wp2_with (first | (go_at_call 43; refine cE4.mono ?_; rintro e w5 ⟨rfl, hb5⟩) | fail)
            go_ret3
            exact ⟨by rw [HR.out]; rfl, hU4.bel.trans (hb5.mono hBW4)⟩
          · have hx' : (c == -1) = false := by simp [hc]
            obtain ⟨cc, hcc, hcV, hcb⟩ := hE1H.out.resolve_left hc
            have HC := Lib.hid (And.intro hc (And.intro hcc hcV))
            have q1 : -2147483648 ≤ c := by omega
            have q2 : c ≤ 2147483647 := by omega
            clear hc hcV hcc hcb
            go_wp2_with (first | (go_at_call 43; refine cE4.mono ?_; rintro e w5 ⟨rfl, hb5⟩) | fail)
            have hU5 := hU4.stay hb5 hBW4 hbd
            have hz5 : d < w5.heap.size := Nat.lt_of_lt_of_le hz3 hb5.size
            have hl5 : (Lib.byteCells (acc ++ Be.data.toList)).length + 4 ≤ 140737488355328 := by
              rw [Lib.byteCells_length, List.length_append, HL.out.1]
              omega
            refine (Tryd.WriteRune w.heap.size d (Lib.byteCells (acc ++ Be.data.toList)) c q1 q2 w5 hU5.bld hl5 hU5.bel.size).mono ?_
            rintro e w6 ⟨rfl, hb6, hbel6, hO6⟩
            have hU6 : UW w.heap.size d b n (acc ++ Be.data.toList ++ bytesL cc) w w6 := hU5.write rfl (by rw [Lib.byteCells_append, ← runeCells_eq cc HC.out.2.2, ← HC.out.2.1]; exact hb6) hbel6 hO6 hbd
            have hz6 : d < w6.heap.size := Nat.lt_of_lt_of_le hz5 hbel6.size
            generalize (Lib.runeCells c).length = lc
            have hT6 := hT.below hU6.bel hsz
            obtain ⟨m6, hm6⟩ := hT6.maxl
            clear hU5 hU4 cE4 hb5 hz3 hl5 hb6 hbel6 hO6 hT4
            go_wp2_with fail
            have hcl2 := cut_len re2.data.toList [38]
            have hr2 : re2.data.toList.length = re2.size := by simp
            have hcl1 := HX.out.2.2.2.2.2 (by trivial)
            have hwl : wd.data.toList.length + 1 + re2.data.toList.length ≤ Re.size := by rw [← HL.out.2]; exact hcl1
            refine (Tryd.strings_Cut re2 ⟨#[38]⟩ m6 w6 (by omega) hm6).mono ?_
            rintro e w7 ⟨rfl, n7, rfl⟩
            have hU7 := hU6.stay (below_drewNx (Below.refl _ _) n7) hU6.bel.size hbd
            have hz7 : d < (w6.drewN n7).heap.size := hz6
            obtain ⟨w7, hw7⟩ : ∃ w7, w6.drewN n7 = w7 := ⟨_, rfl⟩
            rw [hw7] at hU7 hz7 ⊢
            have HC1 : (Lib.cut re2.data.toList ((ByteArray.mk #[38]).data.toList)) = (Lib.cut re2.data.toList [38]) := rfl
            rw [HC1]
            obtain ⟨Be', hBe⟩ : ∃ Be', ByteArray.mk (Lib.cut re2.data.toList [38]).1.toArray = Be' := ⟨_, rfl⟩
            obtain ⟨Re', hRe⟩ : ∃ Re', ByteArray.mk (Lib.cut re2.data.toList [38]).2.1.toArray = Re' := ⟨_, rfl⟩
            obtain ⟨fd', hfd⟩ : ∃ fd', (Lib.cut re2.data.toList [38]).2.2 = fd' := ⟨_, rfl⟩
            have eBe : Be'.data.toList = (Lib.cut re2.data.toList [38]).1 := by rw [← hBe]
            have eRe : Re'.data.toList = (Lib.cut re2.data.toList [38]).2.1 := by rw [← hRe]
            have hnot : ¬ ((true = false) ∨ c = -1) := fun h => h.elim (fun e => by cases e) HC.out.1
            have HI : Hid (R = ug E s.size g (acc ++ Be.data.toList ++ bytesL cc) Be'.data.toList Re'.data.toList fd' ∧ uok E ok g Re'.data.toList fd' = true ∧ Re'.data.toList.length < g ∧ (acc ++ Be.data.toList ++ bytesL cc).length + 4 * (Be'.data.toList.length + Re'.data.toList.length) ≤ 4 * s.size) := by
              have hb4 := bytesL_len4 cc
              refine ⟨?_, ?_, ?_, ?_⟩
              · have h := HX.out.1
                rw [if_neg hnot, HC.out.2.1] at h
                rw [h, eBe, eRe, hfd]
                rfl
              · have h := HX.out.2.1
                rw [decide_eq_false hnot, Bool.false_or] at h
                rw [eRe, ← hfd]
                exact h
              · rw [eRe]
                rw [HL.out.2] at hlt
                omega
              · rw [List.length_append, List.length_append, eBe, eRe, HL.out.1]
                omega
            rw [hBe, hRe, hfd]
            clear HC1 hBe hRe hfd eBe eRe hnot HX HC hcl2 hr2 hcl1 hwl hw7 hU6 hz6 hT6 hm6 hlt
            go_wp2_with fail
            go_roundg g
            case measure => omega
            case rel => exact ⟨_, Be', Re', fd', rfl, rfl, rfl, HI, hU7, hz7⟩

theorem uok_true (E : List UInt8 → Int) : ∀ (f : Nat) (re : List UInt8) (fd : Bool), uok E (fun _ => true) f re fd = true
  | 0, _, _ => rfl
  | _ + 1, _, false => rfl
  | f + 1, re, true => by simp only [uok, uok_true E f, Bool.or_true, Bool.and_true]
theorem unescape_any (s : ByteArray) (w : World) (hs : s.size ≤ 100000) (hT : Tabs w) (hE : Errs w) : Calls Tryd.prog 25 #[.string s] w (UPost (unesc fullE s.data.toList) w) :=
  unescape_at fullE (fun _ => true) fullE_some s w hs hT (full_any w hT.size hE) (uok_true _ _ _ _)
end Go.Proofs.YtiefpdoefdldpaaDoor
