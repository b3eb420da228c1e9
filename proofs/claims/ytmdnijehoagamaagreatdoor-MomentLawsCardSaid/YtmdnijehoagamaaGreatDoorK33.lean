/- OR -/
import Derived.Defers
import Derived.Recover
import Derived.Test.YtmdnijehoagamaaGreatDoorK32
set_option linter.unusedVariables false
set_option linter.unusedSimpArgs false
namespace Go.Proofs.YtmdnijehoagamaaGreatDoor
set_option maxRecDepth 100000
set_option maxHeartbeats 8000000
open Go.RowKit
def nilL : List Value := [.int .i64 0, .int .i64 0, .int .i64 0, .int .i64 0, .int .i64 0, .int .i64 0, .bool false, .string ⟨#[]⟩, .int .i64 0, .bool false, .int .i64 0]
theorem catch_p (r ed : Nat) (hne : r ≠ ed) (q : Int) (older : List PanicEntry) (w : World) (hR : HasL w r nilL) (hE : HasL w ed [.int .i64 0]) :
  CallsD Tryz.prog 30 #[.pointer (some ⟨r, 0, none⟩), .pointer (some ⟨ed, 0, none⟩)] (.panicking ({ v := .iface 27 (.int .i64 q), recovered := false } :: older)) w fun e u' w' =>
   e = .returned (.tuple #[]) ∧ u' = .panicking ({ v := .iface 27 (.int .i64 q), recovered := true } :: older) ∧ w' = setL (setL w r 0 nilL) ed 0 [.int .i64 q] := by
 obtain ⟨d0, d1, d2, d3, d4, d5, d6, d7, d8, d9, d10⟩ := hR.all11
 obtain ⟨z0, z1, z2, z3, z4, z5, z6, z7, z8, z9, z10⟩ := hR.free11
 have e0 := hE.cell 0 rfl
 have y0 := hE.frozen 0 rfl
 have hne2 := hne.symm
 clear hR hE
 have hta : (Instr.typeAssert (.iface 27 (.int .i64 q)) 20 27 true).run Tryz.prog w = .ok (.tuple #[.int .i64 q, .bool true]) w := by rfl
 refine callsD_of_wpS Tryz.func30 rfl fun c₀ cs hu => ?_
 apply wpS_seq
 apply wpS_region
 simp [wpOpsS, go_sem, recoverD, hu, hta, Tryz.ntmps30, Exit.thenS]
 apply wpS_seq
 apply wpS_region
 simp [wpOpsS, go_sem, Exit.thenS, Array.replicate]
 refine wpS_cond (t := true) (by simp [Act.eval, Array.replicate]) ?_
 simp only [if_true]
 apply wpS_region
 simp [wpOpsS, go_sem, d0, d1, d2, d3, d4, d5, d6, d7, d8, d9, d10, z0, z1, z2, z3, z4, z5, z6, z7, z8, z9, z10, e0, y0, hne, hne2, Array.replicate, bodyPostS, results, Tryz.results30, setL, nilL]
theorem catch_i (r ed : Nat) (w : World) :
  CallsD Tryz.prog 30 #[.pointer (some ⟨r, 0, none⟩), .pointer (some ⟨ed, 0, none⟩)] .returning w fun e u' w' => e = .returned (.tuple #[]) ∧ u' = .returning ∧ w' = w := by
 have hta : (Instr.typeAssert .nilIface 20 27 true).run Tryz.prog w = .ok (.tuple #[.int .i64 0, .bool false]) w := by rfl
 refine callsD_of_wpS Tryz.func30 rfl fun c₀ cs hu => ?_
 apply wpS_seq
 apply wpS_region
 simp [wpOpsS, go_sem, recoverD, hu, hta, Tryz.ntmps30, Exit.thenS]
 apply wpS_seq
 apply wpS_region
 simp [wpOpsS, go_sem, Exit.thenS, Array.replicate]
 refine wpS_cond (t := false) (by simp [Act.eval, Array.replicate]) ?_
 simp only [Bool.false_eq_true, if_false]
 refine wpS_of_wp (wp_skip ?_)
 cases c₀
 simp_all [bodyPostS, results, Tryz.results30]
theorem p_readP (k : Int) (l : List UInt8) 
  (cK : ∀ W, Calls Tryz.prog 29 #[.int .i64 k] W fun e w' => e = .returned (.bool true) ∧ W = w') (q : Int)
  (cR : ∀ W, Tabs W → Calls Tryz.prog 31 #[.int .i64 k, .string ⟨l.toArray⟩] W fun e w' => e = outOf q ∧ Below W.heap.size W w') (w : World) (hT : Tabs w) :
  Calls Tryz.prog 9 #[.int .i64 k, .string ⟨l.toArray⟩] w fun e w' => e = .returned (MRes.v ⟨momNil, q⟩) ∧ Below w.heap.size w w' := by
 have hmf : ∀ (fn : Fn) (first cap : Array Value) (w : World), (Instr.makeFunc fn first cap).run Tryz.prog w = .ok (.func fn first cap) w := fun _ _ _ _ => rfl
 have HS := Lib.hid (((KD.nil w).push nilL 25 (n := w.heap.size) rfl).push [.int .i64 0] 27 (n := w.heap.size + 1) (by simp))
 have HT := Lib.hid hT
 clear hT
 unfold outOf at cR
 go_enter_defers Tryz.func9, Tryz.ntmps9
 go_wp2_with fail
 refine (cK _).mono ?_
 rintro e w_ ⟨rfl, rfl⟩
 go_wp2_with fail
 refine (cR _ (HS.out.tabs HT.out)).mono ?_
 rintro e w1 ⟨rfl, b1⟩
 replace HS := Lib.hid (HS.out.call b1)
 clear b1
 go_wp2
 refine leaves_cons (f := 30) (args := #[.pointer (some ⟨w.heap.size, 0, none⟩), .pointer (some ⟨w.heap.size + 1, 0, none⟩)]) (by simp) (by simp [go_sem]) ?_
 refine (catch_p w.heap.size (w.heap.size + 1) (by omega) q [] _ (HS.out.at 0 rfl) (HS.out.at 1 rfl)).mono ?_
 rintro e u' w'' ⟨rfl, rfl, rfl⟩
 replace HS := Lib.hid ((HS.out.store 0 rfl nilL rfl).store 1 rfl [.int .i64 q] rfl)
 obtain ⟨r0, r1, r2, r3, r4, r5, r6, r7, r8, r9, r10⟩ := (HS.out.at 0 rfl).all11
 have s0 := (HS.out.at 1 rfl).cell 0 rfl
 have HB := HS.out.old
 simp [Leaves, settle, results, Tryz.results9, go_sem, r0, r1, r2, r3, r4, r5, r6, r7, r8, r9, r10, s0, MRes.v, Mom.v, momNil, decNil, HB]
theorem p_readR (k : Int) (l : List UInt8) (m : Mom)
  (cK : ∀ W, Calls Tryz.prog 29 #[.int .i64 k] W fun e w' => e = .returned (.bool true) ∧ W = w')
  (cR : ∀ W, Tabs W → Calls Tryz.prog 31 #[.int .i64 k, .string ⟨l.toArray⟩] W fun e w' => e = .returned m.v ∧ Below W.heap.size W w') (w : World) (hT : Tabs w) :
  Calls Tryz.prog 9 #[.int .i64 k, .string ⟨l.toArray⟩] w fun e w' => e = .returned (MRes.v ⟨m, 0⟩) ∧ Below w.heap.size w w' := by
 have hmf : ∀ (fn : Fn) (first cap : Array Value) (w : World), (Instr.makeFunc fn first cap).run Tryz.prog w = .ok (.func fn first cap) w := fun _ _ _ _ => rfl
 have HS := Lib.hid (((KD.nil w).push nilL 25 (n := w.heap.size) rfl).push [.int .i64 0] 27 (n := w.heap.size + 1) (by simp))
 have HT := Lib.hid hT
 clear hT
 unfold Mom.v at cR
 go_enter_defers Tryz.func9, Tryz.ntmps9
 go_wp2_with fail
 refine (cK _).mono ?_
 rintro e w_ ⟨rfl, rfl⟩
 go_wp2_with fail
 refine (cR _ (HS.out.tabs HT.out)).mono ?_
 rintro e w1 ⟨rfl, b1⟩
 replace HS := Lib.hid (HS.out.call b1)
 clear b1
 have hRR : HasL w1 w.heap.size [.int .i64 0, .int .i64 0, .int .i64 0, .int .i64 0, .int .i64 0, .int .i64 0, .bool false, .string ⟨#[]⟩, .int .i64 0, .bool false, .int .i64 0] := HS.out.at 0 rfl
 obtain ⟨d0, d1, d2, d3, d4, d5, d6, d7, d8, d9, d10⟩ := hRR.all11
 obtain ⟨z0, z1, z2, z3, z4, z5, z6, z7, z8, z9, z10⟩ := hRR.free11
 have e0 := (HS.out.at 1 rfl).cell 0 rfl
 have y0 := (HS.out.at 1 rfl).frozen 0 rfl
 have ne1 : w.heap.size ≠ w.heap.size + 1 := by omega
 have ne2 : w.heap.size + 1 ≠ w.heap.size := by omega
 clear hRR
 go_wp2
 refine leaves_cons (f := 30) (args := #[.pointer (some ⟨w.heap.size, 0, none⟩), .pointer (some ⟨w.heap.size + 1, 0, none⟩)]) (by simp) (by simp [go_sem]) ?_
 refine (catch_i _ _ _).mono ?_
 rintro e u' w'' ⟨rfl, rfl, rfl⟩
 replace HS := Lib.hid ((HS.out.store 0 rfl [.int .i64 m.k, .int .i64 m.y, .int .i64 m.mo, .int .i64 m.d, .int .i64 m.h, .int .i64 m.mi, .bool m.sec.neg, .string m.sec.ds, .int .i64 m.sec.sc, .bool m.zd, .int .i64 m.z] rfl).store 1 rfl [.int .i64 0] rfl)
 obtain ⟨r0, r1, r2, r3, r4, r5, r6, r7, r8, r9, r10⟩ := (HS.out.at 0 rfl).all11
 have s0 := (HS.out.at 1 rfl).cell 0 rfl
 have HB := HS.out.old
 simp only [setL, Nat.reduceAdd] at r0 r1 r2 r3 r4 r5 r6 r7 r8 r9 r10 s0 HB
 simp [Leaves, settle, results, Tryz.results9, go_sem, r0, r1, r2, r3, r4, r5, r6, r7, r8, r9, r10, s0, MRes.v, Mom.v, HB]
end Go.Proofs.YtmdnijehoagamaaGreatDoor
