/- Unescape: at whatever the words between the signs are told to be. -/
import Derived.Deep.LoopGhost
import Derived.Test.YtiefpdoefdldpaaDoorP
namespace Go.Proofs.YtiefpdoefdldpaaDoor
open Go.RowKit

theorem cut_len (l sep : List UInt8) : (Lib.cut l sep).1.length + (Lib.cut l sep).2.1.length ≤ l.length ∧ ((Lib.cut l sep).2.2 = true → (Lib.cut l sep).1.length + sep.length + (Lib.cut l sep).2.1.length ≤ l.length) := by
  unfold Lib.cut
  by_cases h : 0 ≤ Lib.index l sep
  · have hr := Lib.index_room l sep h
    rw [if_pos h]
    simp only [List.length_take, List.length_drop]
    omega
  · rw [if_neg h]
    simp

/-- What stands behind the rounds that are left. -/
def ug (E : List UInt8 → Int) (S : Nat) : Nat → List UInt8 → List UInt8 → List UInt8 → Bool → List UInt8 × Int × Int
  | 0, _, _, _, _ => ([], 0, 0)
  | _ + 1, acc, be, _, false => (acc ++ be, 0, 0)
  | f + 1, acc, be, re, true =>
    if (Lib.cut re [59]).2.2 = false ∨ E (Lib.cut re [59]).1 = -1 then ([], (S : Int) - re.length - 1, 6)
    else ug E S f (acc ++ be ++ bytesL (E (Lib.cut re [59]).1).toNat) (Lib.cut (Lib.cut re [59]).2.1 [38]).1 (Lib.cut (Lib.cut re [59]).2.1 [38]).2.1 (Lib.cut (Lib.cut re [59]).2.1 [38]).2.2
/-- All words that the rounds come to are known. -/
def uok (E : List UInt8 → Int) (ok : List UInt8 → Bool) : Nat → List UInt8 → Bool → Bool
  | 0, _, _ => true
  | _ + 1, _, false => true
  | f + 1, re, true => ok (Lib.cut re [59]).1 && (decide ((Lib.cut re [59]).2.2 = false ∨ E (Lib.cut re [59]).1 = -1) || uok E ok f (Lib.cut (Lib.cut re [59]).2.1 [38]).2.1 (Lib.cut (Lib.cut re [59]).2.1 [38]).2.2)
def unesc (E : List UInt8 → Int) (l : List UInt8) : List UInt8 × Int × Int :=
  if badB l then ([], badI l, 6) else ug E l.length (l.length + 1) [] (Lib.cut l [38]).1 (Lib.cut l [38]).2.1 (Lib.cut l [38]).2.2
def unescOk (E : List UInt8 → Int) (ok : List UInt8 → Bool) (l : List UInt8) : Bool := uok E ok (l.length + 1) (Lib.cut l [38]).2.1 (Lib.cut l [38]).2.2

structure UW (B d b n : Nat) (acc : List UInt8) (w0 W : World) : Prop where
  bld : Lib.IsBuilderF 49 5 B d (Lib.byteCells acc) W
  map : W.ownsMap Tryd.prog 9 (plainElem (H := Unit) Tryd.prog 21) b n namM
  bel : Below B w0 W

theorem UW.stay {B d b n : Nat} {acc : List UInt8} {w0 W W' : World} (h : UW B d b n acc w0 W) (hb : Below W.heap.size W W') (hB : B ≤ W.heap.size) (hd : b ≠ d) : UW B d b n acc w0 W' :=
  ⟨bld_kept (row := none) h.bld ⟨hb.os, hb.tape, hb.output, hb.size, fun k hk _ => hb.block k hk⟩ (fun r e => by cases e),
   map_others (d := d) h.map (fun k o hk _ _ => (hb.block k (Array.getElem?_eq_some_iff.1 hk).1).trans hk) hd,
   h.bel.trans (hb.mono hB)⟩
theorem UW.write {B d b n : Nat} {acc acc' : List UInt8} {w0 W W' : World} {p : Value} (h : UW B d b n acc w0 W) (hp : p = .pointer (some ⟨d, 0, none⟩)) (hn : Lib.BuilderAtF 49 5 B d p (Lib.byteCells acc') W') (hb : Below B W W') (hO : Lib.OthersKept 5 (some d) W W') (hd : b ≠ d) : UW B d b n acc' w0 W' :=
  ⟨.inr (by rw [← hp]; exact hn), map_others h.map hO hd, h.bel.trans hb⟩

theorem bytesL_len4 (c : Nat) : (bytesL c).length ≤ 4 := by
  unfold bytesL
  repeat' split
  all_goals simp

def Kn (E : List UInt8 → Int) (ok : List UInt8 → Bool) : Prop := ∀ (wd : ByteArray) (b n : Nat) (W : World), Tabs W → W.ownsMap Tryd.prog 9 (plainElem (H := Unit) Tryd.prog 21) b n namM → ok wd.data.toList = true →
  Calls Tryd.prog 43 #[.string wd, .map (some b)] W fun e W' => e = .returned (.int .i32 (E wd.data.toList)) ∧ Below W.heap.size W W'

def UPost (r : List UInt8 × Int × Int) (w : World) (e : Ending) (w' : World) : Prop := e = .returned (.tuple #[.string ⟨r.1.toArray⟩, .int .i64 r.2.1, .int .i64 r.2.2]) ∧ Below w.heap.size w w'

set_option maxRecDepth 100000 in
set_option maxHeartbeats 8000000 in
theorem unescape_of (E : List UInt8 → Int) (ok : List UInt8 → Bool) (hE : ∀ l, E l = -1 ∨ ∃ c : Nat, E l = (c : Int) ∧ V c ∧ c ≤ 1114111) (cE : Kn E ok) (s : ByteArray) (w : World) (hs : s.size ≤ 100000) (hT : Tabs w)
    (hok : unescOk E ok s.data.toList = true) : Calls Tryd.prog 25 #[.string s] w (UPost (unesc E s.data.toList) w) := by
  have hsz := hT.size
  have hmax : s.size ≤ maxLen := by unfold maxLen; omega
  have cF := firstWrong_any s w hmax hT
  cases hbad : badB s.data.toList with
  | true =>
    rw [hbad] at cF
    have HR : Hid (unesc E s.data.toList = ([], badI s.data.toList, 6)) := by show _ = _; unfold unesc; rw [hbad]; rfl
    rw [HR.out]
    generalize badI s.data.toList = bi at cF ⊢
    clear HR hok hbad cE hE
    go_enter Tryd.func25, Tryd.ntmps25
    go_wp2_with (go_at_call 40; refine cF.mono ?_; rintro e w1 ⟨rfl, hb⟩)
    go_ret3
    exact ⟨rfl, hb⟩
  | false =>
    rw [hbad] at cF
    have HR : Hid (unesc E s.data.toList = ug E s.data.toList.length (s.data.toList.length + 1) [] (Lib.cut s.data.toList [38]).1 (Lib.cut s.data.toList [38]).2.1 (Lib.cut s.data.toList [38]).2.2) := by show _ = _; unfold unesc; rw [hbad]; rfl
    have HOK := Lib.hid hok
    obtain ⟨R, hR⟩ : ∃ R, unesc E s.data.toList = R := ⟨_, rfl⟩
    rw [hR] at HR ⊢
    clear hok hbad hR
    generalize badI s.data.toList = bi at cF
    go_enter Tryd.func25, Tryd.ntmps25
    go_wp2_with (first | (go_at_call 40; refine cF.mono ?_; rintro e w1 ⟨rfl, hb1⟩) | (go_at_call 41; refine (namedEscapes_any _).mono ?_; rintro e w2 ⟨b, n, rfl, hbb, hown, hb2⟩) | fail)
    have hb12 := hb1.trans (hb2.mono hb1.size)
    have hW2 : w.heap.size ≤ w2.heap.size := hb12.size
    have hbl : b < w2.heap.size := hown.lt
    have hU0 : UW w.heap.size w2.heap.size b n [] w (w2.alloc (.cells #[.pointer none, .slice none 0 0] 49)) := ⟨bld_fresh w2 w.heap.size hW2, hown.alloc _, hb12.alloc hW2 _⟩
    have hz0 : (w2.alloc (.cells #[.pointer none, .slice none 0 0] 49)).heap.size = w2.heap.size + 1 := by simp
    obtain ⟨W0, hW0⟩ : ∃ W0, w2.alloc (.cells #[.pointer none, .slice none 0 0] 49) = W0 := ⟨_, rfl⟩
    rw [hW0] at hU0 hz0 ⊢
    clear hW0
    obtain ⟨d, hd⟩ : ∃ d, w2.heap.size = d := ⟨_, rfl⟩
    rw [hd] at hU0 hz0 hbl hW2 ⊢
    have hbd : b ≠ d := by omega
    have hT0 := hT.below hU0.bel hsz
    clear hd hown hb2 hb12 hb1 hbb
    obtain ⟨m0, hm0⟩ := hT0.maxl
    refine (Tryd.strings_Cut s ⟨#[38]⟩ m0 W0 (by omega) hm0).mono ?_
    rintro e W1 ⟨rfl, n1, rfl⟩
    have hU1 := hU0.stay (below_drewNx (Below.refl _ _) n1) (by omega) hbd
    have hz1 : d < (W0.drewN n1).heap.size := by show d < W0.heap.size; omega
    obtain ⟨W1, hW1⟩ : ∃ W1, W0.drewN n1 = W1 := ⟨_, rfl⟩
    rw [hW1] at hU1 hz1 ⊢
    clear hW1 hU0 hz0 hm0 hT0
    have hL : s.data.toList.length = s.size := by simp
    obtain ⟨Be, hBe⟩ : ∃ Be, ByteArray.mk (Lib.cut s.data.toList [38]).1.toArray = Be := ⟨_, rfl⟩
    obtain ⟨Re, hRe⟩ : ∃ Re, ByteArray.mk (Lib.cut s.data.toList [38]).2.1.toArray = Re := ⟨_, rfl⟩
    obtain ⟨fd, hfd⟩ : ∃ fd, (Lib.cut s.data.toList [38]).2.2 = fd := ⟨_, rfl⟩
    have eBe : Be.data.toList = (Lib.cut s.data.toList [38]).1 := by rw [← hBe]
    have eRe : Re.data.toList = (Lib.cut s.data.toList [38]).2.1 := by rw [← hRe]
    have hcl := (cut_len s.data.toList [38]).1
    have HI : Hid (R = ug E s.size (s.size + 1) [] Be.data.toList Re.data.toList fd ∧ uok E ok (s.size + 1) Re.data.toList fd = true ∧ Re.data.toList.length < s.size + 1 ∧ ([] : List UInt8).length + 4 * (Be.data.toList.length + Re.data.toList.length) ≤ 4 * s.size) := by
      refine ⟨?_, ?_, ?_, ?_⟩
      · rw [HR.out, eBe, eRe, hfd, hL]
      · have h := HOK.out
        unfold unescOk at h
        rw [eRe, ← hfd, ← hL]
        exact h
      · rw [eRe]; omega
      · rw [eBe, eRe, List.length_nil]; omega
    have HC1 : (Lib.cut s.data.toList ((ByteArray.mk #[38]).data.toList)) = (Lib.cut s.data.toList [38]) := rfl
    rw [HC1, hBe, hRe, hfd]
    clear HC1 hBe hRe hfd eBe eRe hcl HR HOK
    go_wp2
    go_loopg [9, 10, 11] (s.size + 1) (fun gk v9 v10 v11 wr => ∃ (acc : List UInt8) (Be Re : ByteArray) (fd : Bool), v9 = .string Be ∧ v10 = .string Re ∧ v11 = .bool fd ∧ Hid (R = ug E s.size gk acc Be.data.toList Re.data.toList fd ∧ uok E ok gk Re.data.toList fd = true ∧ Re.data.toList.length < gk ∧ acc.length + 4 * (Be.data.toList.length + Re.data.toList.length) ≤ 4 * s.size) ∧ UW w.heap.size d b n acc w wr ∧ d < wr.heap.size)
    case atStart => exact ⟨[], Be, Re, fd, rfl, rfl, rfl, HI, hU1, hz1⟩
    case round =>
      clear hU1 hz1 HI
      obtain ⟨acc, Be, Re, fd, rfl, rfl, rfl, hh, hU, hz⟩ := hrel
      have hlt := hh.out.2.2.1
      obtain ⟨g, rfl⟩ : ∃ g, gk = g + 1 := ⟨gk - 1, by omega⟩
      have hlen := hh.out.2.2.2
      have hBs : Be.data.toList.length = Be.size := by simp
      have hRs : Re.data.toList.length = Re.size := by simp
      rw [hBs, hRs] at hlen
      have hTr := hT.below hU.bel hsz
      have cW := Tryd.WriteString w.heap.size d (Lib.byteCells acc) Be wr hU.bld (by rw [Lib.byteCells_length]; omega) hU.bel.size
      cases fd with
      | false =>
        have HR : Hid (R = (acc ++ Be.data.toList, 0, 0)) := Lib.hid (by rw [hh.out.1]; rfl)
        clear hh hlt hlen hBs hRs
        go_wp2_with (go_at_call 37; refine cW.mono ?_; rintro e w3 ⟨rfl, hb3, hbel3, hO3⟩)
        have hU3 : UW w.heap.size d b n (acc ++ Be.data.toList) w w3 := hU.write rfl (by rw [Lib.byteCells_append, ← Lib.strCells_eq]; exact hb3) hbel3 hO3 hbd
        refine (Tryd.Builder_String_any_k w.heap.size d (acc ++ Be.data.toList) w3 hU3.bld hU3.bel.size).mono ?_
        rintro e w4 ⟨rfl, _, hbel4, _⟩
        have HR1 : Hid (ByteArray.mk (acc ++ Be.data.toList).toArray = ⟨R.1.toArray⟩ ∧ R.2.1 = 0 ∧ R.2.2 = 0) := by rw [HR.out]; exact ⟨rfl, rfl, rfl⟩
        have HB := Lib.hid (hU3.bel.trans hbel4)
        generalize ByteArray.mk (acc ++ Be.data.toList).toArray = Z at HR1 ⊢
        clear hU3 hbel3 hbel4 hb3 hO3 HR cW
        go_wp2
        go_ret3
        refine ⟨?_, HB.out⟩
        rw [← HR1.out.1, HR1.out.2.1, HR1.out.2.2]
        rfl
      | true =>
        obtain ⟨wd, hwd⟩ : ∃ wd, ByteArray.mk (Lib.cut Re.data.toList [59]).1.toArray = wd := ⟨_, rfl⟩
        obtain ⟨re2, hre2⟩ : ∃ re2, ByteArray.mk (Lib.cut Re.data.toList [59]).2.1.toArray = re2 := ⟨_, rfl⟩
        obtain ⟨f2, hf2⟩ : ∃ f2, (Lib.cut Re.data.toList [59]).2.2 = f2 := ⟨_, rfl⟩
        have ewd : wd.data.toList = (Lib.cut Re.data.toList [59]).1 := by rw [← hwd]
        have ere2 : re2.data.toList = (Lib.cut Re.data.toList [59]).2.1 := by rw [← hre2]
        have hcl := cut_len Re.data.toList [59]
        have hR0 := hh.out.1
        have hk0 := hh.out.2.1
        unfold ug at hR0
        unfold uok at hk0
        rw [← ewd, ← ere2, hf2] at hR0 hk0
        rw [← ewd, ← ere2, hf2] at hcl
        rw [Bool.and_eq_true] at hk0
        obtain ⟨hok1, hk1⟩ := hk0
        have cC := fun W m h => Tryd.strings_Cut Re ⟨#[59]⟩ m W (by omega) h
        have HC1 : (Lib.cut Re.data.toList ((ByteArray.mk #[59]).data.toList)) = (Lib.cut Re.data.toList [59]) := rfl
        rw [HC1, hwd, hre2, hf2] at cC
        have hE1 := hE wd.data.toList
        have cEw := fun W hTW hmW => cE wd b n W hTW hmW hok1
        generalize E wd.data.toList = c at hR0 hk1 hE1 cEw
        clear HC1 hwd hre2 hok1 hh
        have HX := Lib.hid (And.intro hR0 (And.intro hk1 (And.intro ewd (And.intro ere2 hcl))))
        clear hR0 hk1 ewd ere2 hcl hf2
        have HL := Lib.hid (And.intro hBs hRs)
        clear hBs hRs
        have cCut := fun W (h : Tabs W) => h.maxl
        go_wp2_with (first | (go_at_call 37; refine cW.mono ?_; rintro e w3 ⟨rfl, hb3, hbel3, hO3⟩) | fail)
        have hU3 : UW w.heap.size d b n (acc ++ Be.data.toList) w w3 := hU.write rfl (by rw [Lib.byteCells_append, ← Lib.strCells_eq]; exact hb3) hbel3 hO3 hbd
        have hT3 := hT.below hU3.bel hsz
        obtain ⟨m3, hm3⟩ := hT3.maxl
        refine (cC w3 m3 hm3).mono ?_
        rintro e w4 ⟨rfl, n4, rfl⟩
        have hz3 : d < (w3.drewN n4).heap.size := Nat.lt_of_lt_of_le hz hbel3.size
        have hU4 := hU3.stay (below_drewNx (Below.refl _ _) n4) hU3.bel.size hbd
        obtain ⟨w4, hw4⟩ : ∃ w4, w3.drewN n4 = w4 := ⟨_, rfl⟩
        rw [hw4] at hz3 hU4 ⊢
        clear hw4 hU3 hT3 hm3 hb3 hbel3 hO3 cW hU hTr
        have hT4 := hT.below hU4.bel hsz
        have cE4 := cEw w4 hT4 hU4.map
        have hE1H := Lib.hid hE1
        clear hE1 cEw
        have hBW4 : w.heap.size ≤ w4.heap.size := hU4.bel.size
        cases f2 with
        | false =>
          have HR : Hid (R = ([], (s.size : Int) - Re.size - 1, 6)) := by
            show _ = _
            rw [HX.out.1, HL.out.2]
            rfl
          clear HX hE1H
          go_wp2_with (first | (go_at_call 43; refine cE4.mono ?_; rintro e w5 ⟨rfl, hb5⟩) | fail)
          go_ret3
          exact ⟨by rw [HR.out]; rfl, hU4.bel.trans (hb5.mono hBW4)⟩
        | true =>
          by_cases hc : c = -1
          · have HR : Hid (R = ([], (s.size : Int) - Re.size - 1, 6)) := by
              show _ = _
              rw [HX.out.1, HL.out.2, if_pos (.inr hc)]
            clear HX hE1H
            subst hc
            go_wp2_with (first | (go_at_call 43; refine cE4.mono ?_; rintro e w5 ⟨rfl, hb5⟩) | fail)
            go_ret3
            exact ⟨by rw [HR.out]; rfl, hU4.bel.trans (hb5.mono hBW4)⟩
          · have hx' : (c == -1) = false := by simp [hc]
            obtain ⟨cc, hcc, hcV, hcb⟩ := hE1H.out.resolve_left hc
            have HC := Lib.hid (And.intro hc (And.intro hcc hcV))
            have q1 : -2147483648 ≤ c := by omega
            have q2 : c ≤ 2147483647 := by omega
            clear hc hcV hcc hcb
            go_wp2_with (first | (go_at_call 43; refine cE4.mono ?_; rintro e w5 ⟨rfl, hb5⟩) | fail)
            have hU5 := hU4.stay hb5 hBW4 hbd
            have hz5 : d < w5.heap.size := Nat.lt_of_lt_of_le hz3 hb5.size
            have hl5 : (Lib.byteCells (acc ++ Be.data.toList)).length + 4 ≤ 140737488355328 := by
              rw [Lib.byteCells_length, List.length_append, HL.out.1]
              omega
            refine (Tryd.WriteRune w.heap.size d (Lib.byteCells (acc ++ Be.data.toList)) c q1 q2 w5 hU5.bld hl5 hU5.bel.size).mono ?_
            rintro e w6 ⟨rfl, hb6, hbel6, hO6⟩
            have hU6 : UW w.heap.size d b n (acc ++ Be.data.toList ++ bytesL cc) w w6 := hU5.write rfl (by rw [Lib.byteCells_append, ← runeCells_eq cc HC.out.2.2, ← HC.out.2.1]; exact hb6) hbel6 hO6 hbd
            have hz6 : d < w6.heap.size := Nat.lt_of_lt_of_le hz5 hbel6.size
            generalize (Lib.runeCells c).length = lc
            have hT6 := hT.below hU6.bel hsz
            obtain ⟨m6, hm6⟩ := hT6.maxl
            clear hU5 hU4 cE4 hb5 hz3 hl5 hb6 hbel6 hO6 hT4
            go_wp2_with fail
            have hcl2 := cut_len re2.data.toList [38]
            have hr2 : re2.data.toList.length = re2.size := by simp
            have hcl1 := HX.out.2.2.2.2.2 (by trivial)
            have hwl : wd.data.toList.length + 1 + re2.data.toList.length ≤ Re.size := by rw [← HL.out.2]; exact hcl1
            refine (Tryd.strings_Cut re2 ⟨#[38]⟩ m6 w6 (by omega) hm6).mono ?_
            rintro e w7 ⟨rfl, n7, rfl⟩
            have hU7 := hU6.stay (below_drewNx (Below.refl _ _) n7) hU6.bel.size hbd
            have hz7 : d < (w6.drewN n7).heap.size := hz6
            obtain ⟨w7, hw7⟩ : ∃ w7, w6.drewN n7 = w7 := ⟨_, rfl⟩
            rw [hw7] at hU7 hz7 ⊢
            have HC1 : (Lib.cut re2.data.toList ((ByteArray.mk #[38]).data.toList)) = (Lib.cut re2.data.toList [38]) := rfl
            rw [HC1]
            obtain ⟨Be', hBe⟩ : ∃ Be', ByteArray.mk (Lib.cut re2.data.toList [38]).1.toArray = Be' := ⟨_, rfl⟩
            obtain ⟨Re', hRe⟩ : ∃ Re', ByteArray.mk (Lib.cut re2.data.toList [38]).2.1.toArray = Re' := ⟨_, rfl⟩
            obtain ⟨fd', hfd⟩ : ∃ fd', (Lib.cut re2.data.toList [38]).2.2 = fd' := ⟨_, rfl⟩
            have eBe : Be'.data.toList = (Lib.cut re2.data.toList [38]).1 := by rw [← hBe]
            have eRe : Re'.data.toList = (Lib.cut re2.data.toList [38]).2.1 := by rw [← hRe]
            have hnot : ¬ ((true = false) ∨ c = -1) := fun h => h.elim (fun e => by cases e) HC.out.1
            have HI : Hid (R = ug E s.size g (acc ++ Be.data.toList ++ bytesL cc) Be'.data.toList Re'.data.toList fd' ∧ uok E ok g Re'.data.toList fd' = true ∧ Re'.data.toList.length < g ∧ (acc ++ Be.data.toList ++ bytesL cc).length + 4 * (Be'.data.toList.length + Re'.data.toList.length) ≤ 4 * s.size) := by
              have hb4 := bytesL_len4 cc
              refine ⟨?_, ?_, ?_, ?_⟩
              · have h := HX.out.1
                rw [if_neg hnot, HC.out.2.1] at h
                rw [h, eBe, eRe, hfd]
                rfl
              · have h := HX.out.2.1
                rw [decide_eq_false hnot, Bool.false_or] at h
                rw [eRe, ← hfd]
                exact h
              · rw [eRe]
                rw [HL.out.2] at hlt
                omega
              · rw [List.length_append, List.length_append, eBe, eRe, HL.out.1]
                omega
            rw [hBe, hRe, hfd]
            clear HC1 hBe hRe hfd eBe eRe hnot HX HC hcl2 hr2 hcl1 hwl hw7 hU6 hz6 hT6 hm6 hlt
            go_wp2_with fail
            go_roundg g
            case measure => omega
            case rel => exact ⟨_, Be', Re', fd', rfl, rfl, rfl, HI, hU7, hz7⟩
end Go.Proofs.YtiefpdoefdldpaaDoor
