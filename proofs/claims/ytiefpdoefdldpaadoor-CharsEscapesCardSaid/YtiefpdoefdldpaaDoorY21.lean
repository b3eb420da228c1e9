/- The law of P2.3 to P2.5: true at every input. -/
import Derived.Test.YtiefpdoefdldpaaDoorY20
namespace Go.Proofs.YtiefpdoefdldpaaDoor
open Go.RowKit

set_option maxRecDepth 100000 in
set_option maxHeartbeats 4000000 in
theorem escapes_any (s : ByteArray) (m : Int) (w : World) (hmax : s.size ≤ maxLen) (hT : Tabs w) (hE : Errs w) :
    Calls Tryd.prog 5 #[.string s, .int .i64 m] w fun e w' => e = .returned (.bool true) ∧ Below w.heap.size w w' := by
  have hsz := hT.size
  unfold maxLen at hmax
  by_cases h5 : s.size ≤ 5000
  · have h5' : ¬ ((5000 : Int) < (s.size : Int)) := by omega
    have c1 := fun attr W hTW => (escape_any s attr W (by omega) hTW).mono fun e w' h => esc_form h
    have c2 := fun attr W => rescape_any s attr W (by omega)
    have c3 := fun W hTW hEW => unescape_any s W (by omega) hTW hEW
    have c4 := fun W => runescape_any s W (by omega)
    have c5 := fun W hTW => squeeze_any s m W (by omega) hTW
    have c6 := fun W => rsqueeze_any s m W (by omega)
    unfold UPost at c3 c4
    generalize unesc fullE s.data.toList = U at c3 c4
    generalize sqT m s.data.toList = q1 at c5 c6
    generalize sqE m s.data.toList = q2 at c5 c6
    obtain ⟨U1, U2, U3⟩ := U
    simp only at c3 c4
    generalize (ByteArray.mk U1.toArray) = V1 at c3 c4
    generalize (ByteArray.mk q1.toArray) = Q1 at c5 c6
    go_enter Tryd.func5, Tryd.ntmps5
    go_wp2_with fail
    refine (c1 _ _ hT).mono ?_
    rintro e w1 ⟨rfl, b1⟩
    have hT1 := hT.below b1 hsz
    have hE1 := hE.below b1 hsz
    go_wp2_with fail
    refine (c2 _ _).mono ?_
    rintro e w2 ⟨rfl, b2⟩
    have b12 := b1.trans (b2.mono b1.size)
    have hT2 := hT.below b12 hsz
    have hE2 := hE.below b12 hsz
    generalize sqQ s.data.toList = z
    generalize escS _ s.data.toList = X
    clear c1 c2 b1 b2 hT1 hE1
    go_wp2_with fail
    refine (c3 _ hT2 hE2).mono ?_
    rintro e w3 ⟨rfl, b3⟩
    have b13 := b12.trans (b3.mono b12.size)
    go_wp2_with fail
    refine (c4 _).mono ?_
    rintro e w4 ⟨rfl, b4⟩
    have b14 := b13.trans (b4.mono b13.size)
    have hT4 := hT.below b14 hsz
    clear c3 c4 b12 b3 b13 b4 hT2 hE2
    go_wp2_with fail
    refine (c5 _ hT4).mono ?_
    rintro e w5 ⟨rfl, b5⟩
    have b15 := b14.trans (b5.mono b14.size)
    go_wp2_with fail
    refine (c6 _).mono ?_
    rintro e w6 ⟨rfl, b6⟩
    have b16 := b15.trans (b6.mono b15.size)
    have hT6 := hT.below b16 hsz
    clear c5 c6 b14 b5 b15 b6 hT4
    go_wp2_with fail
    refine (shown_any _ hT6).mono ?_
    rintro e w7 ⟨rfl, b7⟩
    go_wp2
    go_ret
    exact ⟨rfl, b16.trans (b7.mono b16.size)⟩
  · have h5' : ((5000 : Int) < (s.size : Int)) := by omega
    have cSh := shown_any w hT
    go_enter Tryd.func5, Tryd.ntmps5
    go_wp2_with (go_at_call 7; refine cSh.mono ?_; rintro e w6 ⟨rfl, b6⟩)
    go_ret
    exact ⟨rfl, b6⟩
end Go.Proofs.YtiefpdoefdldpaaDoor
