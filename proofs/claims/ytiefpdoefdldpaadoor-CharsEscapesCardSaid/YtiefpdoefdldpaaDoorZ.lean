/- The law of P2.2: true at every input. -/
import Derived.Test.YtiefpdoefdldpaaDoorU
import Derived.Test.YtiefpdoefdldpaaDoorY
namespace Go.Proofs.YtiefpdoefdldpaaDoor
open Go.RowKit

def decBad (l : List UInt8) : Bool := (charsOf l).any isBad
def decP (l : List UInt8) : Int := if decBad l then ((((charsOf l).getLast?.map (·.1)).getD 0 : Nat) : Int) else 0
def decQ (l : List UInt8) : Int := if decBad l then 6 else 0
def decL (l : List UInt8) : List Int := if decBad l then [] else (charsOf l).map (·.2)

theorem dec_form {l : List UInt8} {w : World} {e : Ending} {w' : World} (h : DecPost l w e w') :
    ∃ v, e = .returned (.tuple #[v, .int .i64 (decP l), .int .i64 (decQ l)]) ∧ w'.ownsRow w.heap.size 21 1 v (decL l).length ((decL l).map fun x => .int .i32 x) ∧ Below w.heap.size w w' := by
  obtain ⟨h, hb⟩ := h
  rcases h with ⟨pre, i, hl, _, _, rfl⟩ | ⟨hg, v, rfl, hown⟩
  · have hbad : decBad l = true := by unfold decBad; rw [hl, List.any_append]; simp [isBad]
    have hp : decP l = (i : Int) := by unfold decP; rw [hbad, if_pos rfl, hl]; simp
    have hq : decQ l = 6 := by unfold decQ; rw [hbad, if_pos rfl]
    have hL : decL l = [] := by unfold decL; rw [hbad, if_pos rfl]
    exact ⟨.slice none 0 0, by rw [hp, hq], by rw [hL]; exact World.ownsRow_nil _ _ _ _, hb⟩
  · have hbad : decBad l = false := by
      rw [Bool.eq_false_iff]
      intro h
      unfold decBad at h
      obtain ⟨x, hx, h2⟩ := List.any_eq_true.1 h
      exact hg x hx (by simpa [isBad] using h2)
    have hp : decP l = 0 := by unfold decP; rw [hbad]; rfl
    have hq : decQ l = 0 := by unfold decQ; rw [hbad]; rfl
    have hL : decL l = (charsOf l).map (·.2) := by unfold decL; rw [hbad]; rfl
    refine ⟨v, by rw [hp, hq], ?_, hb⟩
    rw [hL, List.length_map, List.map_map]
    exact hown
theorem decL_len (l : List UInt8) : (decL l).length ≤ l.length := by
  unfold decL
  split
  · simp
  · rw [List.length_map]
    exact charsGo_le _ _ _

def encZ (zs : List Int) : ByteArray := if zs.all vldB then ⟨(encAll zs).toArray⟩ else ⟨#[]⟩
def encQ (zs : List Int) : Int := if zs.all vldB then 0 else 2
theorem enc_form {zs : List Int} {w : World} {e : Ending} {w' : World} (h : EncPost zs w e w') : e = .returned (.tuple #[.string (encZ zs), .int .i64 (encQ zs)]) ∧ Below w.heap.size w w' := by
  refine ⟨h.1.trans ?_, h.2⟩
  unfold encZ encQ
  split <;> rfl

theorem ListAt.form {w : World} {v : Value} {zs : List Int} (h : ListAt w v zs) : ∃ a c, v = .slice a zs.length c := by
  rcases h with ⟨rfl, rfl⟩ | ⟨a, cap, rfl, _⟩
  · exact ⟨none, 0, rfl⟩
  · exact ⟨some a, cap, rfl⟩

set_option maxRecDepth 100000 in
set_option maxHeartbeats 4000000 in
theorem texts_any (s : ByteArray) (v : Value) (zs : List Int) (w : World) (hmax : s.size ≤ maxLen) (hmax2 : zs.length ≤ maxLen) (hv : ListAt w v zs) (hT : Tabs w) : Calls Tryd.prog 4 #[.string s, v] w fun e w' => e = .returned (.bool true) ∧ Below w.heap.size w w' := by
  have hsz := hT.size
  unfold maxLen at hmax hmax2
  have cSh := shown_any w hT
  by_cases h1 : s.size ≤ 5000
  · have h1' : ¬ ((5000 : Int) < (s.size : Int)) := by omega
    by_cases h2 : zs.length ≤ 5000
    · have h2' : ¬ ((5000 : Int) < (zs.length : Int)) := by omega
      have hlen : s.data.toList.length = s.size := by simp
      have hdl := decL_len s.data.toList
      have c1 := (decode_any s w (by omega) hT).mono fun e w' h => dec_form h
      have c2 := fun W => (rdecode_any s (by omega) W).mono fun e w' h => dec_form h
      have c3 := fun W hTW hvW => (encode_any zs v W hTW (by omega) hvW).mono fun e w' h => enc_form h
      have c4 := fun W hvW => (rencode_any zs v W (by omega) hvW).mono fun e w' h => enc_form h
      have c5 := fun (B B' : Nat) (W : World) (u u' : Value) h h' => same_rows (B := B) (B' := B') (w := W) (v := u) (v' := u') (decL s.data.toList) (by omega) h h'
      generalize decL s.data.toList = dl at c1 c2 c5 hdl
      generalize decP s.data.toList = dp at c1 c2
      generalize decQ s.data.toList = dq at c1 c2
      generalize encZ zs = ez at c3 c4
      generalize encQ zs = eq at c3 c4
      have HV := Lib.hid hv
      obtain ⟨a, c, rfl⟩ := hv.form
      clear hv cSh
      have C5 := Lib.hid c5
      clear c5 hdl hlen
      go_enter Tryd.func4, Tryd.ntmps4
      go_wp2_with fail
      refine c1.mono ?_
      rintro e w1 ⟨v1, rfl, o1, b1⟩
      have hT1 := hT.below b1 hsz
      have hv1 := HV.out.below b1
      clear c1
      go_wp2_with fail
      refine (c2 w1).mono ?_
      rintro e w2 ⟨v2, rfl, o2, b2⟩
      have hT2 := hT1.below b2 hT1.size
      have hv2 := hv1.below b2
      clear c2
      go_wp2_with fail
      refine (c3 w2 hT2 hv2).mono ?_
      rintro e w3 ⟨rfl, b3⟩
      have hT3 := hT2.below b3 hT2.size
      have hv3 := hv2.below b3
      clear c3
      go_wp2_with fail
      refine (c4 w3 hv3).mono ?_
      rintro e w4 ⟨rfl, b4⟩
      have hT4 := hT3.below b4 hT3.size
      clear c4
      go_wp2_with fail
      refine (C5.out _ _ w4 v1 v2 (own_below (own_below (own_below o1 b2) b3) b4) (own_below (own_below o2 b3) b4)).mono ?_
      rintro e w5 ⟨rfl, b5⟩
      have hT5 := hT4.below b5 hT4.size
      have cS5 := shown_any w5 hT5
      have s1 := b1.size
      have s2 := b2.size
      have s3 := b3.size
      have s4 := b4.size
      have HB := Lib.hid (b1.trans ((b2.mono s1).trans ((b3.mono (by omega)).trans ((b4.mono (by omega)).trans (b5.mono (show w.heap.size ≤ w4.heap.size by omega))))))
      clear o1 o2 b1 b2 b3 b4 b5 s1 s2 s3 s4 hv1 hv2 hv3
      go_wp2_with (go_at_call 7; refine cS5.mono ?_; rintro e w6 ⟨rfl, b6⟩)
      go_ret
      exact ⟨rfl, HB.out.trans (b6.mono HB.out.size)⟩
    · have h2' : ((5000 : Int) < (zs.length : Int)) := by omega
      obtain ⟨a, c, rfl⟩ := hv.form
      clear hv
      go_enter Tryd.func4, Tryd.ntmps4
      go_wp2_with (go_at_call 7; refine cSh.mono ?_; rintro e w6 ⟨rfl, b6⟩)
      go_ret
      exact ⟨rfl, b6⟩
  · have h1' : ((5000 : Int) < (s.size : Int)) := by omega
    clear hv
    go_enter Tryd.func4, Tryd.ntmps4
    go_wp2_with (go_at_call 7; refine cSh.mono ?_; rintro e w6 ⟨rfl, b6⟩)
    go_ret
    exact ⟨rfl, b6⟩
end Go.Proofs.YtiefpdoefdldpaaDoor
