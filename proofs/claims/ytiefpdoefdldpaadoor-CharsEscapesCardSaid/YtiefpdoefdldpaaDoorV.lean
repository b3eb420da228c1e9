/- The law of P2.1: true at every input. -/
import Derived.Test.YtiefpdoefdldpaaDoorU
import Derived.Test.YtiefpdoefdldpaaDoorJ
namespace Go.Proofs.YtiefpdoefdldpaaDoor
open Go.RowKit

set_option maxRecDepth 100000 in
set_option maxHeartbeats 4000000 in
theorem kinds_any (c : Int) (s : ByteArray) (w : World) (hmax : s.size ≤ maxLen) (hT : Tabs w) : Calls Tryd.prog 3 #[.int .i32 c, .string s] w fun e w' => e = .returned (.bool true) ∧ Below w.heap.size w w' := by
  have hsz := hT.size
  unfold maxLen at hmax
  by_cases h2 : s.size ≤ 2000
  · have h2' : ¬ ((2000 : Int) < (s.size : Int)) := by omega
    have k1 := fun W (h : Tabs W) => valid_any c W h.ran
    have k2 := fun W => rvalid_any c W
    have k3 := fun W (h : Tabs W) => blank_any c W h.ran
    have k4 := fun W => rblank_any c W
    have k5 := fun W (h : Tabs W) => first_any c W h.ran
    have k6 := fun W => rfirst_any c W
    have k7 := fun W (h : Tabs W) => inner_any c W h.ran
    have k8 := fun W => rinner_any c W
    have k9 := fun W (h : Tabs W) => local_any s W (by unfold maxLen; omega) h
    have k10 := fun W => rlocal_any s (by omega) W
    simp only [vld_eq, blk_eq, fst_eq, inn_eq] at k1 k3 k5 k7
    generalize rvldB c = p1 at k1 k2
    generalize rblkB c = p2 at k3 k4
    generalize rfstB c = p3 at k5 k6
    generalize rinnB c = p4 at k7 k8
    generalize localB s.data.toList = p5 at k9 k10
    go_enter Tryd.func3, Tryd.ntmps3
    go_wp2_with fail
    refine (k1 w hT).mono ?_
    rintro e w1 ⟨rfl, b1⟩
    have hT1 := hT.below b1 hsz
    go_wp2_with (first | (go_at_call 9; refine (k2 _).mono ?_; rintro e w2 ⟨rfl, rfl⟩) | fail)
    refine (k3 _ hT1).mono ?_
    rintro e w3 ⟨rfl, b3⟩
    have hT3 := hT1.below b3 hT1.size
    go_wp2_with (first | (go_at_call 11; refine (k4 _).mono ?_; rintro e w2 ⟨rfl, rfl⟩) | fail)
    refine (k5 _ hT3).mono ?_
    rintro e w5 ⟨rfl, b5⟩
    have hT5 := hT3.below b5 hT3.size
    go_wp2_with (first | (go_at_call 13; refine (k6 _).mono ?_; rintro e w2 ⟨rfl, rfl⟩) | fail)
    refine (k7 _ hT5).mono ?_
    rintro e w7 ⟨rfl, b7⟩
    have hT7 := hT5.below b7 hT5.size
    go_wp2_with (first | (go_at_call 15; refine (k8 _).mono ?_; rintro e w2 ⟨rfl, rfl⟩) | fail)
    refine (k9 _ hT7).mono ?_
    rintro e w9 ⟨rfl, b9⟩
    have hT9 := hT7.below b9 hT7.size
    go_wp2_with fail
    refine (k10 _).mono ?_
    rintro e w10 ⟨rfl, b10⟩
    have hT10 := hT9.below b10 hT9.size
    go_wp2_with fail
    refine (shown_any _ hT10).mono ?_
    rintro e w11 ⟨rfl, b11⟩
    go_wp2
    go_ret
    refine ⟨rfl, ?_⟩
    have s1 := b1.size
    have s3 := b3.size
    have s5 := b5.size
    have s7 := b7.size
    have s9 := b9.size
    have s10 := b10.size
    exact b1.trans ((b3.mono s1).trans ((b5.mono (by omega)).trans ((b7.mono (by omega)).trans ((b9.mono (by omega)).trans ((b10.mono (by omega)).trans (b11.mono (by omega)))))))
  · have h2' : ((2000 : Int) < (s.size : Int)) := by omega
    go_enter Tryd.func3, Tryd.ntmps3
    go_wp2_with fail
    refine (shown_any w hT).mono ?_
    rintro e w1 ⟨rfl, b1⟩
    go_wp2
    go_ret
    exact ⟨rfl, b1⟩
end Go.Proofs.YtiefpdoefdldpaaDoor
