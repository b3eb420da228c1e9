/- SC -/
import Derived.Test.YtmdnijehoagamaaGreatDoorK47
import Derived.Test.YtmdnijehoagamaaGreatDoorK48
set_option linter.unusedVariables false
set_option linter.unusedSimpArgs false
namespace Go.Proofs.YtmdnijehoagamaaGreatDoor
open Go.RowKit
set_option maxRecDepth 100000
set_option maxHeartbeats 40000000
def lessR (r : Int × Bool × Int) : Bool := r.2.2 == 0 && r.2.1 && decide (r.1 < 0)
theorem l_before (a b : Mom) (ha : a.sec.ds.size ≤ 400) (hb : b.sec.ds.size ≤ 400) (w : World) (hT : Tabs w) : Calls Tryz.prog 25 #[a.v, b.v] w fun e w' => e = .returned (.bool (lessR (cmpS6 a b))) ∧ Below w.heap.size w w' := by
 have c := fun W hW => p_cmp6 a b ha hb W hW
 unfold Mom.v at c ⊢
 unfold lessR
 generalize (cmpS6 a b).1 = n at c ⊢
 generalize (cmpS6 a b).2.1 = t at c ⊢
 generalize (cmpS6 a b).2.2 = q at c ⊢
 have HS := Lib.hid (((KD.nil w).push [.int .i64 a.k, .int .i64 a.y, .int .i64 a.mo, .int .i64 a.d, .int .i64 a.h, .int .i64 a.mi, .bool a.sec.neg, .string a.sec.ds, .int .i64 a.sec.sc, .bool a.zd, .int .i64 a.z] 25 (n := w.heap.size) rfl).push [.int .i64 b.k, .int .i64 b.y, .int .i64 b.mo, .int .i64 b.d, .int .i64 b.h, .int .i64 b.mi, .bool b.sec.neg, .string b.sec.ds, .int .i64 b.sec.sc, .bool b.zd, .int .i64 b.z] 25 (n := w.heap.size + 1) (by simp))
 have HT := Lib.hid hT
 clear hT
 go_enter Tryz.func25, Tryz.ntmps25
 obtain ⟨y0, y1, y2, y3, y4, y5, y6, y7, y8, y9, y10⟩ := (HS.out.at 0 rfl).all11
 obtain ⟨x0, x1, x2, x3, x4, x5, x6, x7, x8, x9, x10⟩ := (HS.out.at 1 rfl).all11
 go_wp2_with fail
 refine (c _ (HS.out.tabs HT.out)).mono ?_
 rintro e w1 ⟨rfl, b1⟩
 replace HS := Lib.hid (HS.out.call b1)
 clear b1 c y0 y1 y2 y3 y4 y5 y6 y7 y8 y9 y10 x0 x1 x2 x3 x4 x5 x6 x7 x8 x9 x10
 cases hq : (q == 0)
 ·go_wp2
  go_ret
  exact ⟨by rw [hq]; rfl, HS.out.old⟩
 ·cases t
  ·go_wp2
   go_ret
   exact ⟨by rw [hq]; rfl, HS.out.old⟩
  ·go_wp2
   go_ret
   exact ⟨by rw [hq]; rfl, HS.out.old⟩
end Go.Proofs.YtmdnijehoagamaaGreatDoor
