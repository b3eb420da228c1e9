/- NU -/
import Derived.Test.YtmdnijehoagamaaGreatDoorK26
import Derived.Test.YtmdnijehoagamaaGreatDoorK31
import Derived.Test.YtmdnijehoagamaaGreatDoorK40
set_option linter.unusedVariables false
set_option linter.unusedSimpArgs false
namespace Go.Proofs.YtmdnijehoagamaaGreatDoor
set_option maxRecDepth 100000
set_option maxHeartbeats 8000000
open Go.RowKit
theorem p_norm (m : Mom) (zs : m.sec.ds.size ≤ 400) (w : World) (hT : Tabs w) : Calls Tryz.prog 17 #[m.v] w fun e w' => e = .returned ((normS m).v) ∧ Below w.heap.size w w' := by
 have cV := fun W hW => p_valid m zs W hW
 have cH := fun W => p_hasTime m.k W
 have hOK := @okF m
 unfold normS
 cases ho : okB m with
 | false =>
  rw [ho] at cV
  simp only [Bool.false_and, Bool.false_eq_true, if_false]
  clear ho zs hOK
  unfold Mom.v at cV ⊢
  change Calls _ _ _ _ fun e w' => e = .returned (.tuple #[.agg #[.int .i64 0, .int .i64 0, .int .i64 0, .int .i64 0, .int .i64 0, .int .i64 0, .bool false, .string ⟨#[]⟩, .int .i64 0, .bool false, .int .i64 0], .int .i64 2]) ∧ _
  go_enter Tryz.func17, Tryz.ntmps17
  have HS := Lib.hid (((KD.nil w).push [.int .i64 m.k, .int .i64 m.y, .int .i64 m.mo, .int .i64 m.d, .int .i64 m.h, .int .i64 m.mi, .bool m.sec.neg, .string m.sec.ds, .int .i64 m.sec.sc, .bool m.zd, .int .i64 m.z] 25 (n := w.heap.size) (by simp)).push [.int .i64 0, .int .i64 0, .int .i64 0, .int .i64 0, .int .i64 0, .int .i64 0, .bool false, .string ⟨#[]⟩, .int .i64 0, .bool false, .int .i64 0] 25 (n := w.heap.size + 1) (by simp))
  have HT := Lib.hid hT
  clear hT
  obtain ⟨d0_0, d0_1, d0_2, d0_3, d0_4, d0_5, d0_6, d0_7, d0_8, d0_9, d0_10⟩ := (HS.out.at 0 rfl).all11
  go_wp2_with fail
  refine (cV _ (HS.out.tabs HT.out)).mono ?_
  rintro e w1 ⟨rfl, b1⟩
  replace HS := Lib.hid (HS.out.call b1)
  clear d0_0 d0_1 d0_2 d0_3 d0_4 d0_5 d0_6 d0_7 d0_8 d0_9 d0_10 b1
  have d0_0 := (HS.out.at 0 rfl).cell 0 rfl
  have d0_9 := (HS.out.at 0 rfl).cell 9 rfl
  obtain ⟨d1_0, d1_1, d1_2, d1_3, d1_4, d1_5, d1_6, d1_7, d1_8, d1_9, d1_10⟩ := (HS.out.at 1 rfl).all11
  obtain ⟨z1_0, z1_1, z1_2, z1_3, z1_4, z1_5, z1_6, z1_7, z1_8, z1_9, z1_10⟩ := (HS.out.at 1 rfl).free11
  go_wp2
  replace HS := Lib.hid (HS.out.store 1 rfl [.int .i64 0, .int .i64 0, .int .i64 0, .int .i64 0, .int .i64 0, .int .i64 0, .bool false, .string ⟨#[]⟩, .int .i64 0, .bool false, .int .i64 0] rfl)
  obtain ⟨r0, r1, r2, r3, r4, r5, r6, r7, r8, r9, r10⟩ := (HS.out.at 1 rfl).all11
  simp only [setL, Nat.reduceAdd] at r0 r1 r2 r3 r4 r5 r6 r7 r8 r9 r10
  refine bodyPost_ret (v := _) ?_ rfl ⟨rfl, HS.out.old⟩
  simp [results, Tryz.results17, go_sem, r0, r1, r2, r3, r4, r5, r6, r7, r8, r9, r10]
 | true =>
  rw [ho] at cV
  cases hz : m.zd with
  | false =>
   simp only [Bool.true_and, Bool.false_and, Bool.false_eq_true, if_false]
   clear ho zs hOK
   unfold Mom.v at cV ⊢
   rw [hz] at cV ⊢
   clear hz
   change Calls _ _ _ _ fun e w' => e = .returned (.tuple #[.agg #[.int .i64 0, .int .i64 0, .int .i64 0, .int .i64 0, .int .i64 0, .int .i64 0, .bool false, .string ⟨#[]⟩, .int .i64 0, .bool false, .int .i64 0], .int .i64 2]) ∧ _
   go_enter Tryz.func17, Tryz.ntmps17
   have HS := Lib.hid (((KD.nil w).push [.int .i64 m.k, .int .i64 m.y, .int .i64 m.mo, .int .i64 m.d, .int .i64 m.h, .int .i64 m.mi, .bool m.sec.neg, .string m.sec.ds, .int .i64 m.sec.sc, .bool false, .int .i64 m.z] 25 (n := w.heap.size) (by simp)).push [.int .i64 0, .int .i64 0, .int .i64 0, .int .i64 0, .int .i64 0, .int .i64 0, .bool false, .string ⟨#[]⟩, .int .i64 0, .bool false, .int .i64 0] 25 (n := w.heap.size + 1) (by simp))
   have HT := Lib.hid hT
   clear hT
   obtain ⟨d0_0, d0_1, d0_2, d0_3, d0_4, d0_5, d0_6, d0_7, d0_8, d0_9, d0_10⟩ := (HS.out.at 0 rfl).all11
   go_wp2_with fail
   refine (cV _ (HS.out.tabs HT.out)).mono ?_
   rintro e w1 ⟨rfl, b1⟩
   replace HS := Lib.hid (HS.out.call b1)
   clear d0_0 d0_1 d0_2 d0_3 d0_4 d0_5 d0_6 d0_7 d0_8 d0_9 d0_10 b1
   have d0_0 := (HS.out.at 0 rfl).cell 0 rfl
   have d0_9 := (HS.out.at 0 rfl).cell 9 rfl
   obtain ⟨d1_0, d1_1, d1_2, d1_3, d1_4, d1_5, d1_6, d1_7, d1_8, d1_9, d1_10⟩ := (HS.out.at 1 rfl).all11
   obtain ⟨z1_0, z1_1, z1_2, z1_3, z1_4, z1_5, z1_6, z1_7, z1_8, z1_9, z1_10⟩ := (HS.out.at 1 rfl).free11
   go_wp2
   replace HS := Lib.hid (HS.out.store 1 rfl [.int .i64 0, .int .i64 0, .int .i64 0, .int .i64 0, .int .i64 0, .int .i64 0, .bool false, .string ⟨#[]⟩, .int .i64 0, .bool false, .int .i64 0] rfl)
   obtain ⟨r0, r1, r2, r3, r4, r5, r6, r7, r8, r9, r10⟩ := (HS.out.at 1 rfl).all11
   simp only [setL, Nat.reduceAdd] at r0 r1 r2 r3 r4 r5 r6 r7 r8 r9 r10
   refine bodyPost_ret (v := _) ?_ rfl ⟨rfl, HS.out.old⟩
   simp [results, Tryz.results17, go_sem, r0, r1, r2, r3, r4, r5, r6, r7, r8, r9, r10]
  | true =>
   cases ht : timedB m.k with
   | false =>
    rw [ht] at cH
    simp only [Bool.true_and, Bool.false_eq_true, if_false]
    clear ho ht zs hOK
    unfold Mom.v at cV ⊢
    rw [hz] at cV ⊢
    clear hz
    change Calls _ _ _ _ fun e w' => e = .returned (.tuple #[.agg #[.int .i64 0, .int .i64 0, .int .i64 0, .int .i64 0, .int .i64 0, .int .i64 0, .bool false, .string ⟨#[]⟩, .int .i64 0, .bool false, .int .i64 0], .int .i64 2]) ∧ _
    go_enter Tryz.func17, Tryz.ntmps17
    have HS := Lib.hid (((KD.nil w).push [.int .i64 m.k, .int .i64 m.y, .int .i64 m.mo, .int .i64 m.d, .int .i64 m.h, .int .i64 m.mi, .bool m.sec.neg, .string m.sec.ds, .int .i64 m.sec.sc, .bool true, .int .i64 m.z] 25 (n := w.heap.size) (by simp)).push [.int .i64 0, .int .i64 0, .int .i64 0, .int .i64 0, .int .i64 0, .int .i64 0, .bool false, .string ⟨#[]⟩, .int .i64 0, .bool false, .int .i64 0] 25 (n := w.heap.size + 1) (by simp))
    have HT := Lib.hid hT
    clear hT
    obtain ⟨d0_0, d0_1, d0_2, d0_3, d0_4, d0_5, d0_6, d0_7, d0_8, d0_9, d0_10⟩ := (HS.out.at 0 rfl).all11
    go_wp2_with fail
    refine (cV _ (HS.out.tabs HT.out)).mono ?_
    rintro e w1 ⟨rfl, b1⟩
    replace HS := Lib.hid (HS.out.call b1)
    clear d0_0 d0_1 d0_2 d0_3 d0_4 d0_5 d0_6 d0_7 d0_8 d0_9 d0_10 b1
    have d0_0 := (HS.out.at 0 rfl).cell 0 rfl
    have d0_9 := (HS.out.at 0 rfl).cell 9 rfl
    go_wp2_with fail
    refine (cH _).mono ?_
    rintro e w_ ⟨rfl, rfl⟩
    clear d0_0 d0_9
    have d0_0 := (HS.out.at 0 rfl).cell 0 rfl
    have d0_9 := (HS.out.at 0 rfl).cell 9 rfl
    obtain ⟨d1_0, d1_1, d1_2, d1_3, d1_4, d1_5, d1_6, d1_7, d1_8, d1_9, d1_10⟩ := (HS.out.at 1 rfl).all11
    obtain ⟨z1_0, z1_1, z1_2, z1_3, z1_4, z1_5, z1_6, z1_7, z1_8, z1_9, z1_10⟩ := (HS.out.at 1 rfl).free11
    go_wp2
    replace HS := Lib.hid (HS.out.store 1 rfl [.int .i64 0, .int .i64 0, .int .i64 0, .int .i64 0, .int .i64 0, .int .i64 0, .bool false, .string ⟨#[]⟩, .int .i64 0, .bool false, .int .i64 0] rfl)
    obtain ⟨r0, r1, r2, r3, r4, r5, r6, r7, r8, r9, r10⟩ := (HS.out.at 1 rfl).all11
    simp only [setL, Nat.reduceAdd] at r0 r1 r2 r3 r4 r5 r6 r7 r8 r9 r10
    refine bodyPost_ret (v := _) ?_ rfl ⟨rfl, HS.out.old⟩
    simp [results, Tryz.results17, go_sem, r0, r1, r2, r3, r4, r5, r6, r7, r8, r9, r10]
   | true =>
    rw [ht] at cH
    have h := hOK ho
    have hb := at_bd h
    have hv := (at_part h).val
    simp only [Bool.true_and, Bool.and_self, if_true]
    have cP := fun W hW => p_point m h W hW
    have cM := fun W hW => p_momentAt m.k (atS m) hv (by omega) (by omega) W hW
    generalize ofS m.k (atS m) = R at *
    generalize atS m = P at *
    clear ho ht zs h hb hv hOK
    unfold Mom.v at cV cP ⊢
    unfold MRes.v Mom.v at cM
    unfold Pt.v at cP cM
    rw [hz] at cV cP ⊢
    clear hz
    change Calls _ _ _ _ fun e w' => e = .returned (.tuple #[.agg #[.int .i64 R.m.k, .int .i64 R.m.y, .int .i64 R.m.mo, .int .i64 R.m.d, .int .i64 R.m.h, .int .i64 R.m.mi, .bool R.m.sec.neg, .string R.m.sec.ds, .int .i64 R.m.sec.sc, .bool (R.e == 0), .int .i64 R.m.z], .int .i64 R.e]) ∧ _
    go_enter Tryz.func17, Tryz.ntmps17
    have HS := Lib.hid (((KD.nil w).push [.int .i64 m.k, .int .i64 m.y, .int .i64 m.mo, .int .i64 m.d, .int .i64 m.h, .int .i64 m.mi, .bool m.sec.neg, .string m.sec.ds, .int .i64 m.sec.sc, .bool true, .int .i64 m.z] 25 (n := w.heap.size) (by simp)).push [.int .i64 0, .int .i64 0, .int .i64 0, .int .i64 0, .int .i64 0, .int .i64 0, .bool false, .string ⟨#[]⟩, .int .i64 0, .bool false, .int .i64 0] 25 (n := w.heap.size + 1) (by simp))
    have HT := Lib.hid hT
    clear hT
    obtain ⟨d0_0, d0_1, d0_2, d0_3, d0_4, d0_5, d0_6, d0_7, d0_8, d0_9, d0_10⟩ := (HS.out.at 0 rfl).all11
    go_wp2_with fail
    refine (cV _ (HS.out.tabs HT.out)).mono ?_
    rintro e w1 ⟨rfl, b1⟩
    replace HS := Lib.hid (HS.out.call b1)
    clear d0_0 d0_1 d0_2 d0_3 d0_4 d0_5 d0_6 d0_7 d0_8 d0_9 d0_10 b1
    have d0_0 := (HS.out.at 0 rfl).cell 0 rfl
    have d0_9 := (HS.out.at 0 rfl).cell 9 rfl
    go_wp2_with fail
    refine (cH _).mono ?_
    rintro e w_ ⟨rfl, rfl⟩
    clear d0_0 d0_9
    go_upto_region 3 with fail
    go_cut [4, 5] (fun s4 s5 wx => ∃ g, s4 = .pointer (some ⟨g, 0, none⟩) ∧ s5 = .int .i64 R.e ∧ KD w ([(w.heap.size, [.int .i64 m.k, .int .i64 m.y, .int .i64 m.mo, .int .i64 m.d, .int .i64 m.h, .int .i64 m.mi, .bool m.sec.neg, .string m.sec.ds, .int .i64 m.sec.sc, .bool true, .int .i64 m.z]), (w.heap.size + 1, [.int .i64 0, .int .i64 0, .int .i64 0, .int .i64 0, .int .i64 0, .int .i64 0, .bool false, .string ⟨#[]⟩, .int .i64 0, .bool false, .int .i64 0])] ++ [(g, [.int .i64 R.m.k, .int .i64 R.m.y, .int .i64 R.m.mo, .int .i64 R.m.d, .int .i64 R.m.h, .int .i64 R.m.mi, .bool R.m.sec.neg, .string R.m.sec.ds, .int .i64 R.m.sec.sc, .bool R.m.zd, .int .i64 R.m.z])]) wx)
    case first =>
     refine wp_region_held_drew (S := KD w _) (by kernel_rfl) HS.out.drew1 (fun hHeld => ?_)
     clear HS
     generalize World.drew w1 = x at *
     refine tk (v := ?_) 0 hHeld ?_ ?_
     rotate_left
     focus (intro w hSw; clear hSw; go_simp; (try with_reducible rfl))
     (try simp only [fl])
     refine tk (v := ?_) 1 hHeld ?_ ?_
     rotate_left
     focus (intro w hSw; have c0 := (hSw.at 0 rfl).cell 0 rfl; clear hSw; go_simp; (try with_reducible rfl))
     (try simp only [fl])
     refine tk (v := ?_) 2 hHeld ?_ ?_
     rotate_left
     focus (intro w hSw; obtain ⟨c0, c1, c2, c3, c4, c5, c6, c7, c8, c9, c10⟩ := (hSw.at 0 rfl).all11; clear hSw; go_simp; (try with_reducible rfl))
     (try simp only [fl])
     refine wpAnyH_ready (rs := [3, 8]) (by kernel_rfl) (by simp) ?_
     refine AllReadyH.cons rfl (fun K hK => ?_) ?_
     ·go_simp
      refine (cP _ (hHeld.tabs HT.out)).mono ?_
      rintro e y ⟨rfl, un⟩
      replace hHeld := hHeld.call un
      (try replace HG := Lib.hid (HG.out.call un))
      clear un
      refine hK.out _ _ hHeld (fun hX => ?_)
      clear hK K hX
      (try simp only [fl])
      clear x
      rename World => x
      refine wpAnyH_ready (rs := [4, 8]) (by kernel_rfl) (by simp) ?_
      refine AllReadyH.cons rfl (fun K hK => ?_) ?_
      ·go_simp
       refine (cM _ (hHeld.tabs HT.out)).mono ?_
       rintro e y ⟨rfl, un⟩
       replace hHeld := hHeld.call un
       (try replace HG := Lib.hid (HG.out.call un))
       clear un
       refine hK.out _ _ hHeld (fun hX => ?_)
       clear hK K hX
       (try simp only [fl])
       clear x
       rename World => x
       refine tk (v := ?_) 5 hHeld ?_ ?_
       rotate_left
       focus (intro w hSw; clear hSw; go_simp; (try with_reducible rfl))
       (try simp only [fl])
       refine tk (v := ?_) 6 hHeld ?_ ?_
       rotate_left
       focus (intro w hSw; clear hSw; go_simp; (try with_reducible rfl))
       (try simp only [fl])
       refine tk (v := ?_) 7 hHeld ?_ ?_
       rotate_left
       focus (intro w hSw; clear hSw; go_simp; (try with_reducible rfl))
       (try simp only [fl])
       refine wpAnyH_ready (rs := [8]) (by kernel_rfl) (by simp) ?_
       refine AllReadyH.cons rfl (fun K hK => ?_) AllReadyH.nil
       go_simp
       refine hK.out _ (x.alloc (.cells #[.int .i64 0, .int .i64 0, .int .i64 0, .int .i64 0, .int .i64 0, .int .i64 0, .bool false, .string ⟨#[]⟩, .int .i64 0, .bool false, .int .i64 0] 25)) (hHeld.alloc _) (fun hX => ?_)
       clear hK K hX
       (try simp only [fl])
       have gm_G := Lib.hid hHeld.fresh
       replace hHeld := hHeld.alloc (.cells #[.int .i64 0, .int .i64 0, .int .i64 0, .int .i64 0, .int .i64 0, .int .i64 0, .bool false, .string ⟨#[]⟩, .int .i64 0, .bool false, .int .i64 0] 25)
       have HG := Lib.hid (HasL.new x [.int .i64 0, .int .i64 0, .int .i64 0, .int .i64 0, .int .i64 0, .int .i64 0, .bool false, .string ⟨#[]⟩, .int .i64 0, .bool false, .int .i64 0] 25)
       generalize hyy : x.alloc (.cells #[.int .i64 0, .int .i64 0, .int .i64 0, .int .i64 0, .int .i64 0, .int .i64 0, .bool false, .string ⟨#[]⟩, .int .i64 0, .bool false, .int .i64 0] 25) = y at *
       clear hyy
       generalize hgg : x.heap.size = gG at *
       clear hgg
       clear x
       rename World => x
       refine wpAnyH_ready (rs := [9]) (by kernel_rfl) (by simp) ?_
       refine AllReadyH.cons rfl (fun K hK => ?_) AllReadyH.nil
       obtain ⟨y0, y1, y2, y3, y4, y5, y6, y7, y8, y9, y10⟩ := HG.out.all11
       obtain ⟨z0, z1, z2, z3, z4, z5, z6, z7, z8, z9, z10⟩ := HG.out.free11
       go_simp
       refine hK.out _ (setL x gG 0 [.int .i64 R.m.k, .int .i64 R.m.y, .int .i64 R.m.mo, .int .i64 R.m.d, .int .i64 R.m.h, .int .i64 R.m.mi, .bool R.m.sec.neg, .string R.m.sec.ds, .int .i64 R.m.sec.sc, .bool R.m.zd, .int .i64 R.m.z]) (hHeld.far gm_G.out _ _) (fun hX => ?_)
       clear hK K hX
       (try simp only [fl])
       clear y0 z0 y1 z1 y2 z2 y3 z3 y4 z4 y5 z5 y6 z6 y7 z7 y8 z8 y9 z9 y10 z10
       replace HG := Lib.hid (HG.out.setL [.int .i64 R.m.k, .int .i64 R.m.y, .int .i64 R.m.mo, .int .i64 R.m.d, .int .i64 R.m.h, .int .i64 R.m.mi, .bool R.m.sec.neg, .string R.m.sec.ds, .int .i64 R.m.sec.sc, .bool R.m.zd, .int .i64 R.m.z] rfl)
       replace hHeld := hHeld.far gm_G.out 0 [.int .i64 R.m.k, .int .i64 R.m.y, .int .i64 R.m.mo, .int .i64 R.m.d, .int .i64 R.m.h, .int .i64 R.m.mi, .bool R.m.sec.neg, .string R.m.sec.ds, .int .i64 R.m.sec.sc, .bool R.m.zd, .int .i64 R.m.z]
       generalize hyy : setL x gG 0 [.int .i64 R.m.k, .int .i64 R.m.y, .int .i64 R.m.mo, .int .i64 R.m.d, .int .i64 R.m.h, .int .i64 R.m.mi, .bool R.m.sec.neg, .string R.m.sec.ds, .int .i64 R.m.sec.sc, .bool R.m.zd, .int .i64 R.m.z] = y at *
       clear hyy
       clear x
       rename World => x
       refine tk (v := ?_) 10 hHeld ?_ ?_
       rotate_left
       focus (intro w hSw; clear hSw; go_simp; (try with_reducible rfl))
       (try simp only [fl])
       refine wpAnyH_done (by kernel_rfl) ?_ _
       have HS := Lib.hid hHeld
       clear hHeld
       go_wp2_with fail
       go_meet
       exact ⟨gG, rfl, rfl, HS.out.end1 HG.out gm_G.out⟩
      refine AllReadyH.cons rfl (fun K hK => ?_) AllReadyH.nil
      go_simp
      refine hK.out _ (x.alloc (.cells #[.int .i64 0, .int .i64 0, .int .i64 0, .int .i64 0, .int .i64 0, .int .i64 0, .bool false, .string ⟨#[]⟩, .int .i64 0, .bool false, .int .i64 0] 25)) (hHeld.alloc _) (fun hX => ?_)
      clear hK K hX
      (try simp only [fl])
      have gm_G := Lib.hid hHeld.fresh
      replace hHeld := hHeld.alloc (.cells #[.int .i64 0, .int .i64 0, .int .i64 0, .int .i64 0, .int .i64 0, .int .i64 0, .bool false, .string ⟨#[]⟩, .int .i64 0, .bool false, .int .i64 0] 25)
      have HG := Lib.hid (HasL.new x [.int .i64 0, .int .i64 0, .int .i64 0, .int .i64 0, .int .i64 0, .int .i64 0, .bool false, .string ⟨#[]⟩, .int .i64 0, .bool false, .int .i64 0] 25)
      generalize hyy : x.alloc (.cells #[.int .i64 0, .int .i64 0, .int .i64 0, .int .i64 0, .int .i64 0, .int .i64 0, .bool false, .string ⟨#[]⟩, .int .i64 0, .bool false, .int .i64 0] 25) = y at *
      clear hyy
      generalize hgg : x.heap.size = gG at *
      clear hgg
      clear x
      rename World => x
      refine wpAnyH_ready (rs := [4]) (by kernel_rfl) (by simp) ?_
      refine AllReadyH.cons rfl (fun K hK => ?_) AllReadyH.nil
      go_simp
      refine (cM _ (hHeld.tabs HT.out)).mono ?_
      rintro e y ⟨rfl, un⟩
      replace hHeld := hHeld.call un
      (try replace HG := Lib.hid (HG.out.call un))
      clear un
      refine hK.out _ _ hHeld (fun hX => ?_)
      clear hK K hX
      (try simp only [fl])
      clear x
      rename World => x
      refine tk (v := ?_) 5 hHeld ?_ ?_
      rotate_left
      focus (intro w hSw; clear hSw; go_simp; (try with_reducible rfl))
      (try simp only [fl])
      refine tk (v := ?_) 6 hHeld ?_ ?_
      rotate_left
      focus (intro w hSw; clear hSw; go_simp; (try with_reducible rfl))
      (try simp only [fl])
      refine tk (v := ?_) 7 hHeld ?_ ?_
      rotate_left
      focus (intro w hSw; clear hSw; go_simp; (try with_reducible rfl))
      (try simp only [fl])
      refine wpAnyH_ready (rs := [9]) (by kernel_rfl) (by simp) ?_
      refine AllReadyH.cons rfl (fun K hK => ?_) AllReadyH.nil
      obtain ⟨y0, y1, y2, y3, y4, y5, y6, y7, y8, y9, y10⟩ := HG.out.all11
      obtain ⟨z0, z1, z2, z3, z4, z5, z6, z7, z8, z9, z10⟩ := HG.out.free11
      go_simp
      refine hK.out _ (setL x gG 0 [.int .i64 R.m.k, .int .i64 R.m.y, .int .i64 R.m.mo, .int .i64 R.m.d, .int .i64 R.m.h, .int .i64 R.m.mi, .bool R.m.sec.neg, .string R.m.sec.ds, .int .i64 R.m.sec.sc, .bool R.m.zd, .int .i64 R.m.z]) (hHeld.far gm_G.out _ _) (fun hX => ?_)
      clear hK K hX
      (try simp only [fl])
      clear y0 z0 y1 z1 y2 z2 y3 z3 y4 z4 y5 z5 y6 z6 y7 z7 y8 z8 y9 z9 y10 z10
      replace HG := Lib.hid (HG.out.setL [.int .i64 R.m.k, .int .i64 R.m.y, .int .i64 R.m.mo, .int .i64 R.m.d, .int .i64 R.m.h, .int .i64 R.m.mi, .bool R.m.sec.neg, .string R.m.sec.ds, .int .i64 R.m.sec.sc, .bool R.m.zd, .int .i64 R.m.z] rfl)
      replace hHeld := hHeld.far gm_G.out 0 [.int .i64 R.m.k, .int .i64 R.m.y, .int .i64 R.m.mo, .int .i64 R.m.d, .int .i64 R.m.h, .int .i64 R.m.mi, .bool R.m.sec.neg, .string R.m.sec.ds, .int .i64 R.m.sec.sc, .bool R.m.zd, .int .i64 R.m.z]
      generalize hyy : setL x gG 0 [.int .i64 R.m.k, .int .i64 R.m.y, .int .i64 R.m.mo, .int .i64 R.m.d, .int .i64 R.m.h, .int .i64 R.m.mi, .bool R.m.sec.neg, .string R.m.sec.ds, .int .i64 R.m.sec.sc, .bool R.m.zd, .int .i64 R.m.z] = y at *
      clear hyy
      clear x
      rename World => x
      refine tk (v := ?_) 10 hHeld ?_ ?_
      rotate_left
      focus (intro w hSw; clear hSw; go_simp; (try with_reducible rfl))
      (try simp only [fl])
      refine wpAnyH_done (by kernel_rfl) ?_ _
      have HS := Lib.hid hHeld
      clear hHeld
      go_wp2_with fail
      go_meet
      exact ⟨gG, rfl, rfl, HS.out.end1 HG.out gm_G.out⟩
     refine AllReadyH.cons rfl (fun K hK => ?_) AllReadyH.nil
     go_simp
     refine hK.out _ (x.alloc (.cells #[.int .i64 0, .int .i64 0, .int .i64 0, .int .i64 0, .int .i64 0, .int .i64 0, .bool false, .string ⟨#[]⟩, .int .i64 0, .bool false, .int .i64 0] 25)) (hHeld.alloc _) (fun hX => ?_)
     clear hK K hX
     (try simp only [fl])
     have gm_G := Lib.hid hHeld.fresh
     replace hHeld := hHeld.alloc (.cells #[.int .i64 0, .int .i64 0, .int .i64 0, .int .i64 0, .int .i64 0, .int .i64 0, .bool false, .string ⟨#[]⟩, .int .i64 0, .bool false, .int .i64 0] 25)
     have HG := Lib.hid (HasL.new x [.int .i64 0, .int .i64 0, .int .i64 0, .int .i64 0, .int .i64 0, .int .i64 0, .bool false, .string ⟨#[]⟩, .int .i64 0, .bool false, .int .i64 0] 25)
     generalize hyy : x.alloc (.cells #[.int .i64 0, .int .i64 0, .int .i64 0, .int .i64 0, .int .i64 0, .int .i64 0, .bool false, .string ⟨#[]⟩, .int .i64 0, .bool false, .int .i64 0] 25) = y at *
     clear hyy
     generalize hgg : x.heap.size = gG at *
     clear hgg
     clear x
     rename World => x
     refine wpAnyH_ready (rs := [3]) (by kernel_rfl) (by simp) ?_
     refine AllReadyH.cons rfl (fun K hK => ?_) AllReadyH.nil
     go_simp
     refine (cP _ (hHeld.tabs HT.out)).mono ?_
     rintro e y ⟨rfl, un⟩
     replace hHeld := hHeld.call un
     (try replace HG := Lib.hid (HG.out.call un))
     clear un
     refine hK.out _ _ hHeld (fun hX => ?_)
     clear hK K hX
     (try simp only [fl])
     clear x
     rename World => x
     refine wpAnyH_ready (rs := [4]) (by kernel_rfl) (by simp) ?_
     refine AllReadyH.cons rfl (fun K hK => ?_) AllReadyH.nil
     go_simp
     refine (cM _ (hHeld.tabs HT.out)).mono ?_
     rintro e y ⟨rfl, un⟩
     replace hHeld := hHeld.call un
     (try replace HG := Lib.hid (HG.out.call un))
     clear un
     refine hK.out _ _ hHeld (fun hX => ?_)
     clear hK K hX
     (try simp only [fl])
     clear x
     rename World => x
     refine tk (v := ?_) 5 hHeld ?_ ?_
     rotate_left
     focus (intro w hSw; clear hSw; go_simp; (try with_reducible rfl))
     (try simp only [fl])
     refine tk (v := ?_) 6 hHeld ?_ ?_
     rotate_left
     focus (intro w hSw; clear hSw; go_simp; (try with_reducible rfl))
     (try simp only [fl])
     refine tk (v := ?_) 7 hHeld ?_ ?_
     rotate_left
     focus (intro w hSw; clear hSw; go_simp; (try with_reducible rfl))
     (try simp only [fl])
     refine wpAnyH_ready (rs := [9]) (by kernel_rfl) (by simp) ?_
     refine AllReadyH.cons rfl (fun K hK => ?_) AllReadyH.nil
     obtain ⟨y0, y1, y2, y3, y4, y5, y6, y7, y8, y9, y10⟩ := HG.out.all11
     obtain ⟨z0, z1, z2, z3, z4, z5, z6, z7, z8, z9, z10⟩ := HG.out.free11
     go_simp
     refine hK.out _ (setL x gG 0 [.int .i64 R.m.k, .int .i64 R.m.y, .int .i64 R.m.mo, .int .i64 R.m.d, .int .i64 R.m.h, .int .i64 R.m.mi, .bool R.m.sec.neg, .string R.m.sec.ds, .int .i64 R.m.sec.sc, .bool R.m.zd, .int .i64 R.m.z]) (hHeld.far gm_G.out _ _) (fun hX => ?_)
     clear hK K hX
     (try simp only [fl])
     clear y0 z0 y1 z1 y2 z2 y3 z3 y4 z4 y5 z5 y6 z6 y7 z7 y8 z8 y9 z9 y10 z10
     replace HG := Lib.hid (HG.out.setL [.int .i64 R.m.k, .int .i64 R.m.y, .int .i64 R.m.mo, .int .i64 R.m.d, .int .i64 R.m.h, .int .i64 R.m.mi, .bool R.m.sec.neg, .string R.m.sec.ds, .int .i64 R.m.sec.sc, .bool R.m.zd, .int .i64 R.m.z] rfl)
     replace hHeld := hHeld.far gm_G.out 0 [.int .i64 R.m.k, .int .i64 R.m.y, .int .i64 R.m.mo, .int .i64 R.m.d, .int .i64 R.m.h, .int .i64 R.m.mi, .bool R.m.sec.neg, .string R.m.sec.ds, .int .i64 R.m.sec.sc, .bool R.m.zd, .int .i64 R.m.z]
     generalize hyy : setL x gG 0 [.int .i64 R.m.k, .int .i64 R.m.y, .int .i64 R.m.mo, .int .i64 R.m.d, .int .i64 R.m.h, .int .i64 R.m.mi, .bool R.m.sec.neg, .string R.m.sec.ds, .int .i64 R.m.sec.sc, .bool R.m.zd, .int .i64 R.m.z] = y at *
     clear hyy
     clear x
     rename World => x
     refine tk (v := ?_) 10 hHeld ?_ ?_
     rotate_left
     focus (intro w hSw; clear hSw; go_simp; (try with_reducible rfl))
     (try simp only [fl])
     refine wpAnyH_done (by kernel_rfl) ?_ _
     have HS := Lib.hid hHeld
     clear hHeld
     go_wp2_with fail
     go_meet
     exact ⟨gG, rfl, rfl, HS.out.end1 HG.out gm_G.out⟩
    case rest =>
     clear HS
     obtain ⟨g, rfl, rfl, hS⟩ := hcut
     have HS := Lib.hid hS
     clear hS
     obtain ⟨d2_0, d2_1, d2_2, d2_3, d2_4, d2_5, d2_6, d2_7, d2_8, d2_9, d2_10⟩ := (HS.out.at 2 rfl).all11
     obtain ⟨z2_0, z2_1, z2_2, z2_3, z2_4, z2_5, z2_6, z2_7, z2_8, z2_9, z2_10⟩ := (HS.out.at 2 rfl).free11
     obtain ⟨d1_0, d1_1, d1_2, d1_3, d1_4, d1_5, d1_6, d1_7, d1_8, d1_9, d1_10⟩ := (HS.out.at 1 rfl).all11
     obtain ⟨z1_0, z1_1, z1_2, z1_3, z1_4, z1_5, z1_6, z1_7, z1_8, z1_9, z1_10⟩ := (HS.out.at 1 rfl).free11
     have ne1_2 := HS.out.ne 1 2 rfl rfl (by decide)
     have nf1_2 := HS.out.ne' 1 2 rfl rfl (by decide)
     go_wp2
     replace HS := Lib.hid (HS.out.store1 2 rfl 9 (.bool (R.e == 0)) (by simp))
     replace HS := Lib.hid (HS.out.store 1 rfl [.int .i64 R.m.k, .int .i64 R.m.y, .int .i64 R.m.mo, .int .i64 R.m.d, .int .i64 R.m.h, .int .i64 R.m.mi, .bool R.m.sec.neg, .string R.m.sec.ds, .int .i64 R.m.sec.sc, .bool (R.e == 0), .int .i64 R.m.z] rfl)
     obtain ⟨r0, r1, r2, r3, r4, r5, r6, r7, r8, r9, r10⟩ := (HS.out.at 1 rfl).all11
     simp only [setL, Nat.reduceAdd] at r0 r1 r2 r3 r4 r5 r6 r7 r8 r9 r10
     refine bodyPost_ret (v := _) ?_ rfl ⟨rfl, HS.out.old⟩
     simp [results, Tryz.results17, go_sem, r0, r1, r2, r3, r4, r5, r6, r7, r8, r9, r10]
end Go.Proofs.YtmdnijehoagamaaGreatDoor
