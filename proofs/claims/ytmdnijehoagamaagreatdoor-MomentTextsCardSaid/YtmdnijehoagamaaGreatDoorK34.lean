/- OH -/
import Derived.Test.YtmdnijehoagamaaGreatDoorK23
import Derived.Test.YtmdnijehoagamaaGreatDoorK24
set_option linter.unusedVariables false
set_option linter.unusedSimpArgs false
namespace Go.Proofs.YtmdnijehoagamaaGreatDoor
set_option maxRecDepth 100000
set_option maxHeartbeats 8000000
open Go.RowKit
theorem zs_pad {n k : Nat} (h : n < 10 ^ k) (hk : 1 ≤ k) : zs (k - (digs n).length) ++ (⟨(digs n).toArray⟩ : ByteArray) = twoS n k := by
 apply bytes_ext
 rw [Joins.data_append, zs_list, bytes_mk, twoS_list, pad_two h hk]
theorem twoS_size (n k : Nat) : (twoS n k).size = k := by rw [← bytes_len, twoS_list, twoL_len]
theorem p_padded (s : ByteArray) (k : Nat) (hk : k ≤ 100) (hs : s.size ≤ 1000) (w : World) :
  Calls Tryz.prog 84 #[.string s, .int .i64 (k : Int)] w fun e w' => e = .returned (.string (zs (k - s.size) ++ s)) ∧ Below w.heap.size w w' := by
 have c := fun W => Tryz.strings_Repeat ⟨#[48]⟩ (k - s.size) W (by omega) (by show 1 * (k - s.size) ≤ _; omega)
 rw [show (ByteArray.mk #[48]).data.toList = [48] from rfl, repeat_zeros, show (ByteArray.mk (List.replicate (k - s.size) 48).toArray) = zs (k - s.size) from rfl] at c
 have hz : max ((k : Int) - (s.size : Int)) 0 = ((k - s.size : Nat) : Int) := by omega
 have hzz := zs_size (k - s.size)
 have hsum : (zs (k - s.size)).size + s.size ≤ 9223372036854775807 := by omega
 generalize zs (k - s.size) = Z at *
 generalize hq : k - s.size = q at *
 clear hzz
 go_enter Tryz.func84, Tryz.ntmps84
 go_wp2_with fail
 refine (c _).mono ?_
 rintro e w1 ⟨rfl, b1⟩
 go_wp2
 go_ret
 exact ⟨rfl, b1⟩
theorem p_number6 (n k : Nat) (hn : n < 10 ^ k) (hk : 1 ≤ k) (hk2 : k ≤ 9) (w : World) (hT : Tabs w) :
  Calls Tryz.prog 81 #[.int .i64 (n : Int), .int .i64 (k : Int)] w fun e w' => e = .returned (.string (twoS n k)) ∧ Below w.heap.size w w' := by
 have hb : n < 1000000000 := Nat.lt_of_lt_of_le hn (Nat.pow_le_pow_right (by omega) hk2)
 have c1 : Calls Tryz.prog 112 #[.int .i64 (n : Int)] w fun e w' => e = .returned (.string ⟨(digs n).toArray⟩) ∧ Below w.heap.size w w' :=
  (Tryz.strconv_Itoa (n : Int) (by omega) (by omega) w hT.pow).mono fun e w' ⟨he, k, os, hw⟩ => ⟨by rw [he, itoa_digs], hw ▸ Lib.below_grow _ w (Nat.le_refl _) k os⟩
 have hz : (⟨(digs n).toArray⟩ : ByteArray).size = (digs n).length := by rw [← bytes_len, bytes_mk]
 have hl := digs_len_le hn hk
 have c2 := fun W => p_padded ⟨(digs n).toArray⟩ k (by omega) (by omega) W
 rw [hz, zs_pad hn hk] at c2
 clear hz hl hb hn hk hk2 hT
 generalize twoS n k = R at *
 generalize (⟨(digs n).toArray⟩ : ByteArray) = D at *
 go_enter Tryz.func81, Tryz.ntmps81
 go_wp2_with fail
 refine c1.mono ?_
 rintro e w1 ⟨rfl, b1⟩
 go_wp2_with fail
 refine (c2 _).mono ?_
 rintro e w2 ⟨rfl, b2⟩
 go_wp2
 go_ret
 exact ⟨rfl, step b1 b2⟩
theorem pdate_pos (m : Mom) (ay : Int) (z1 z2 z3 : ByteArray) (hs1 : z1.size = 4) (hs2 : z2.size = 2) (hs3 : z3.size = 2) (hy : m.y ≥ 0) (hy0 : -10000 ≤ m.y) (hy1 : m.y ≤ 10000) (hmax : max m.y (-m.y) = ay) (c1 : ∀ W, Tabs W → Calls Tryz.prog 81 #[.int .i64 ay, .int .i64 4] W fun e w' => e = .returned (.string z1) ∧ Below W.heap.size W w') (c2 : ∀ W, Tabs W → Calls Tryz.prog 81 #[.int .i64 m.mo, .int .i64 2] W fun e w' => e = .returned (.string z2) ∧ Below W.heap.size W w') (c3 : ∀ W, Tabs W → Calls Tryz.prog 81 #[.int .i64 m.d, .int .i64 2] W fun e w' => e = .returned (.string z3) ∧ Below W.heap.size W w') (w : World) (hT : Tabs w) : Calls Tryz.prog 40 #[.agg #[.int .i64 m.k, .int .i64 m.y, .int .i64 m.mo, .int .i64 m.d, .int .i64 m.h, .int .i64 m.mi, .bool m.sec.neg, .string m.sec.ds, .int .i64 m.sec.sc, .bool m.zd, .int .i64 m.z]] w fun e w' => e = .returned (.string ((⟨#[]⟩ : ByteArray) ++ z1 ++ ⟨#[45]⟩ ++ z2 ++ ⟨#[45]⟩ ++ z3)) ∧ Below w.heap.size w w' := by
 have hyy : ¬ m.y < 0 := by omega
 have hw : IntKind.i64.wrap (-m.y) = -m.y := IntWalk.i64_in _ (by omega)
 go_enter Tryz.func40, Tryz.ntmps40
 have HS := Lib.hid ((KD.nil w).push [.int .i64 m.k, .int .i64 m.y, .int .i64 m.mo, .int .i64 m.d, .int .i64 m.h, .int .i64 m.mi, .bool m.sec.neg, .string m.sec.ds, .int .i64 m.sec.sc, .bool m.zd, .int .i64 m.z] 25 (n := w.heap.size) (by simp))
 have HT := Lib.hid hT
 clear hT
 have d0_1 := (HS.out.at 0 rfl).cell 1 rfl
 go_upto_region 4 with fail
 clear d0_1
 refine wp_region_held_drew (S := KD w _) (by kernel_rfl) HS.out.drew1 (fun hHeld => ?_)
 clear HS
 generalize World.drew _ = x at *
 refine tk (v := ?_) 0 hHeld ?_ ?_
 rotate_left
 focus (intro w hSw; clear hSw; go_simp; (try with_reducible rfl))
 (try simp only [fl])
 refine tk (v := ?_) 1 hHeld ?_ ?_
 rotate_left
 focus (intro w hSw; clear hSw; go_simp; (try with_reducible rfl))
 (try simp only [fl])
 refine tk (v := ?_) 2 hHeld ?_ ?_
 rotate_left
 focus (intro w hSw; have c1 := (hSw.at 0 rfl).cell 1 rfl; clear hSw; go_simp; (try with_reducible rfl))
 (try simp only [fl])
 refine tk (v := ?_) 3 hHeld ?_ ?_
 rotate_left
 focus (intro w hSw; clear hSw; go_simp; (try with_reducible rfl))
 (try simp only [fl])
 refine tk (v := ?_) 4 hHeld ?_ ?_
 rotate_left
 focus (intro w hSw; have c1 := (hSw.at 0 rfl).cell 1 rfl; clear hSw; go_simp; (try with_reducible rfl))
 (try simp only [fl])
 refine tk (v := ?_) 5 hHeld ?_ ?_
 rotate_left
 focus (intro w hSw; clear hSw; go_simp; (try with_reducible rfl))
 (try simp only [fl])
 refine tk (v := ?_) 10 hHeld ?_ ?_
 rotate_left
 focus (intro w hSw; clear hSw; go_simp; (try with_reducible rfl))
 (try simp only [fl])
 refine tk (v := ?_) 11 hHeld ?_ ?_
 rotate_left
 focus (intro w hSw; have c2 := (hSw.at 0 rfl).cell 2 rfl; clear hSw; go_simp; (try with_reducible rfl))
 (try simp only [fl])
 refine tk (v := ?_) 15 hHeld ?_ ?_
 rotate_left
 focus (intro w hSw; clear hSw; go_simp; (try with_reducible rfl))
 (try simp only [fl])
 refine tk (v := ?_) 16 hHeld ?_ ?_
 rotate_left
 focus (intro w hSw; have c3 := (hSw.at 0 rfl).cell 3 rfl; clear hSw; go_simp; (try with_reducible rfl))
 (try simp only [fl])
 refine wpAnyH_ready (rs := [6]) (by kernel_rfl) (by simp) ?_
 refine AllReadyH.cons rfl (fun K hK => ?_) AllReadyH.nil
 go_simp
 refine hK.out _ _ hHeld (fun hX => ?_)
 clear hK K hX
 (try simp only [fl])
 refine wpAnyH_ready (rs := [7]) (by kernel_rfl) (by simp) ?_
 refine AllReadyH.cons rfl (fun K hK => ?_) AllReadyH.nil
 go_simp
 refine (c1 _ (hHeld.tabs HT.out)).mono ?_
 rintro e y ⟨rfl, un⟩
 replace hHeld := hHeld.call un
 clear un
 refine hK.out _ _ hHeld (fun hX => ?_)
 clear hK K hX
 (try simp only [fl])
 (try clear x)
 rename World => x
 refine tk (v := ?_) 8 hHeld ?_ ?_
 rotate_left
 focus (intro w hSw; clear hSw; go_simp; (try with_reducible rfl))
 (try simp only [fl])
 refine tk (v := ?_) 9 hHeld ?_ ?_
 rotate_left
 focus (intro w hSw; clear hSw; go_simp; (try with_reducible rfl))
 (try simp only [fl])
 refine wpAnyH_ready (rs := [12]) (by kernel_rfl) (by simp) ?_
 refine AllReadyH.cons rfl (fun K hK => ?_) AllReadyH.nil
 go_simp
 refine (c2 _ (hHeld.tabs HT.out)).mono ?_
 rintro e y ⟨rfl, un⟩
 replace hHeld := hHeld.call un
 clear un
 refine hK.out _ _ hHeld (fun hX => ?_)
 clear hK K hX
 (try simp only [fl])
 (try clear x)
 rename World => x
 refine tk (v := ?_) 13 hHeld ?_ ?_
 rotate_left
 focus (intro w hSw; clear hSw; go_simp; (try with_reducible rfl))
 (try simp only [fl])
 refine tk (v := ?_) 14 hHeld ?_ ?_
 rotate_left
 focus (intro w hSw; clear hSw; go_simp; (try with_reducible rfl))
 (try simp only [fl])
 refine wpAnyH_ready (rs := [17]) (by kernel_rfl) (by simp) ?_
 refine AllReadyH.cons rfl (fun K hK => ?_) AllReadyH.nil
 go_simp
 refine (c3 _ (hHeld.tabs HT.out)).mono ?_
 rintro e y ⟨rfl, un⟩
 replace hHeld := hHeld.call un
 clear un
 refine hK.out _ _ hHeld (fun hX => ?_)
 clear hK K hX
 (try simp only [fl])
 (try clear x)
 rename World => x
 refine tk (v := ?_) 18 hHeld ?_ ?_
 rotate_left
 focus (intro w hSw; clear hSw; go_simp; (try with_reducible rfl))
 (try simp only [fl])
 refine tk (v := ?_) 19 hHeld ?_ ?_
 rotate_left
 focus (intro w hSw; clear hSw; go_simp; (try with_reducible rfl))
 (try simp only [fl])
 refine wpAnyH_done (by kernel_rfl) ?_ _
 have HS := Lib.hid hHeld
 clear hHeld
 go_wp2
 go_ret
 exact ⟨rfl, HS.out.old⟩
theorem pdate_neg (m : Mom) (ay : Int) (z1 z2 z3 : ByteArray) (hs1 : z1.size = 4) (hs2 : z2.size = 2) (hs3 : z3.size = 2) (hy : m.y < 0) (hy0 : -10000 ≤ m.y) (hy1 : m.y ≤ 10000) (hmax : max m.y (-m.y) = ay) (c1 : ∀ W, Tabs W → Calls Tryz.prog 81 #[.int .i64 ay, .int .i64 4] W fun e w' => e = .returned (.string z1) ∧ Below W.heap.size W w') (c2 : ∀ W, Tabs W → Calls Tryz.prog 81 #[.int .i64 m.mo, .int .i64 2] W fun e w' => e = .returned (.string z2) ∧ Below W.heap.size W w') (c3 : ∀ W, Tabs W → Calls Tryz.prog 81 #[.int .i64 m.d, .int .i64 2] W fun e w' => e = .returned (.string z3) ∧ Below W.heap.size W w') (w : World) (hT : Tabs w) : Calls Tryz.prog 40 #[.agg #[.int .i64 m.k, .int .i64 m.y, .int .i64 m.mo, .int .i64 m.d, .int .i64 m.h, .int .i64 m.mi, .bool m.sec.neg, .string m.sec.ds, .int .i64 m.sec.sc, .bool m.zd, .int .i64 m.z]] w fun e w' => e = .returned (.string ((⟨#[45]⟩ : ByteArray) ++ z1 ++ ⟨#[45]⟩ ++ z2 ++ ⟨#[45]⟩ ++ z3)) ∧ Below w.heap.size w w' := by
 have hw : IntKind.i64.wrap (-m.y) = -m.y := IntWalk.i64_in _ (by omega)
 go_enter Tryz.func40, Tryz.ntmps40
 have HS := Lib.hid ((KD.nil w).push [.int .i64 m.k, .int .i64 m.y, .int .i64 m.mo, .int .i64 m.d, .int .i64 m.h, .int .i64 m.mi, .bool m.sec.neg, .string m.sec.ds, .int .i64 m.sec.sc, .bool m.zd, .int .i64 m.z] 25 (n := w.heap.size) (by simp))
 have HT := Lib.hid hT
 clear hT
 have d0_1 := (HS.out.at 0 rfl).cell 1 rfl
 go_upto_region 4 with fail
 clear d0_1
 refine wp_region_held_drew (S := KD w _) (by kernel_rfl) HS.out.drew1 (fun hHeld => ?_)
 clear HS
 generalize World.drew _ = x at *
 refine tk (v := ?_) 0 hHeld ?_ ?_
 rotate_left
 focus (intro w hSw; clear hSw; go_simp; (try with_reducible rfl))
 (try simp only [fl])
 refine tk (v := ?_) 1 hHeld ?_ ?_
 rotate_left
 focus (intro w hSw; clear hSw; go_simp; (try with_reducible rfl))
 (try simp only [fl])
 refine tk (v := ?_) 2 hHeld ?_ ?_
 rotate_left
 focus (intro w hSw; have c1 := (hSw.at 0 rfl).cell 1 rfl; clear hSw; go_simp; (try with_reducible rfl))
 (try simp only [fl])
 refine tk (v := ?_) 3 hHeld ?_ ?_
 rotate_left
 focus (intro w hSw; clear hSw; go_simp; (try with_reducible rfl))
 (try simp only [fl])
 refine tk (v := ?_) 4 hHeld ?_ ?_
 rotate_left
 focus (intro w hSw; have c1 := (hSw.at 0 rfl).cell 1 rfl; clear hSw; go_simp; (try with_reducible rfl))
 (try simp only [fl])
 refine tk (v := ?_) 5 hHeld ?_ ?_
 rotate_left
 focus (intro w hSw; clear hSw; go_simp; (try with_reducible rfl))
 (try simp only [fl])
 refine tk (v := ?_) 10 hHeld ?_ ?_
 rotate_left
 focus (intro w hSw; clear hSw; go_simp; (try with_reducible rfl))
 (try simp only [fl])
 refine tk (v := ?_) 11 hHeld ?_ ?_
 rotate_left
 focus (intro w hSw; have c2 := (hSw.at 0 rfl).cell 2 rfl; clear hSw; go_simp; (try with_reducible rfl))
 (try simp only [fl])
 refine tk (v := ?_) 15 hHeld ?_ ?_
 rotate_left
 focus (intro w hSw; clear hSw; go_simp; (try with_reducible rfl))
 (try simp only [fl])
 refine tk (v := ?_) 16 hHeld ?_ ?_
 rotate_left
 focus (intro w hSw; have c3 := (hSw.at 0 rfl).cell 3 rfl; clear hSw; go_simp; (try with_reducible rfl))
 (try simp only [fl])
 refine wpAnyH_ready (rs := [6]) (by kernel_rfl) (by simp) ?_
 refine AllReadyH.cons rfl (fun K hK => ?_) AllReadyH.nil
 go_simp
 refine hK.out _ _ hHeld (fun hX => ?_)
 clear hK K hX
 (try simp only [fl])
 refine wpAnyH_ready (rs := [7]) (by kernel_rfl) (by simp) ?_
 refine AllReadyH.cons rfl (fun K hK => ?_) AllReadyH.nil
 go_simp
 refine (c1 _ (hHeld.tabs HT.out)).mono ?_
 rintro e y ⟨rfl, un⟩
 replace hHeld := hHeld.call un
 clear un
 refine hK.out _ _ hHeld (fun hX => ?_)
 clear hK K hX
 (try simp only [fl])
 (try clear x)
 rename World => x
 refine tk (v := ?_) 8 hHeld ?_ ?_
 rotate_left
 focus (intro w hSw; clear hSw; go_simp; (try with_reducible rfl))
 (try simp only [fl])
 refine tk (v := ?_) 9 hHeld ?_ ?_
 rotate_left
 focus (intro w hSw; clear hSw; go_simp; (try with_reducible rfl))
 (try simp only [fl])
 refine wpAnyH_ready (rs := [12]) (by kernel_rfl) (by simp) ?_
 refine AllReadyH.cons rfl (fun K hK => ?_) AllReadyH.nil
 go_simp
 refine (c2 _ (hHeld.tabs HT.out)).mono ?_
 rintro e y ⟨rfl, un⟩
 replace hHeld := hHeld.call un
 clear un
 refine hK.out _ _ hHeld (fun hX => ?_)
 clear hK K hX
 (try simp only [fl])
 (try clear x)
 rename World => x
 refine tk (v := ?_) 13 hHeld ?_ ?_
 rotate_left
 focus (intro w hSw; clear hSw; go_simp; (try with_reducible rfl))
 (try simp only [fl])
 refine tk (v := ?_) 14 hHeld ?_ ?_
 rotate_left
 focus (intro w hSw; clear hSw; go_simp; (try with_reducible rfl))
 (try simp only [fl])
 refine wpAnyH_ready (rs := [17]) (by kernel_rfl) (by simp) ?_
 refine AllReadyH.cons rfl (fun K hK => ?_) AllReadyH.nil
 go_simp
 refine (c3 _ (hHeld.tabs HT.out)).mono ?_
 rintro e y ⟨rfl, un⟩
 replace hHeld := hHeld.call un
 clear un
 refine hK.out _ _ hHeld (fun hX => ?_)
 clear hK K hX
 (try simp only [fl])
 (try clear x)
 rename World => x
 refine tk (v := ?_) 18 hHeld ?_ ?_
 rotate_left
 focus (intro w hSw; clear hSw; go_simp; (try with_reducible rfl))
 (try simp only [fl])
 refine tk (v := ?_) 19 hHeld ?_ ?_
 rotate_left
 focus (intro w hSw; clear hSw; go_simp; (try with_reducible rfl))
 (try simp only [fl])
 refine wpAnyH_done (by kernel_rfl) ?_ _
 have HS := Lib.hid hHeld
 clear hHeld
 go_wp2
 go_ret
 exact ⟨rfl, HS.out.old⟩
theorem pzone_no (m : Mom) (hz : m.zd = false) (w : World) (hT : Tabs w) : Calls Tryz.prog 43 #[.agg #[.int .i64 m.k, .int .i64 m.y, .int .i64 m.mo, .int .i64 m.d, .int .i64 m.h, .int .i64 m.mi, .bool m.sec.neg, .string m.sec.ds, .int .i64 m.sec.sc, .bool m.zd, .int .i64 m.z]] w fun e w' => e = .returned (.string ⟨#[]⟩) ∧ Below w.heap.size w w' := by
 rw [hz]
 clear hz
 go_enter Tryz.func43, Tryz.ntmps43
 have HS := Lib.hid ((KD.nil w).push [.int .i64 m.k, .int .i64 m.y, .int .i64 m.mo, .int .i64 m.d, .int .i64 m.h, .int .i64 m.mi, .bool m.sec.neg, .string m.sec.ds, .int .i64 m.sec.sc, .bool false, .int .i64 m.z] 25 (n := w.heap.size) (by simp))
 have HT := Lib.hid hT
 clear hT
 have d0_9 := (HS.out.at 0 rfl).cell 9 rfl
 have d0_10 := (HS.out.at 0 rfl).cell 10 rfl
 go_wp2
 go_ret
 exact ⟨rfl, HS.out.old⟩
theorem pzone_Z (m : Mom) (hz : m.zd = true) (h0 : m.z = 0) (w : World) (hT : Tabs w) : Calls Tryz.prog 43 #[.agg #[.int .i64 m.k, .int .i64 m.y, .int .i64 m.mo, .int .i64 m.d, .int .i64 m.h, .int .i64 m.mi, .bool m.sec.neg, .string m.sec.ds, .int .i64 m.sec.sc, .bool m.zd, .int .i64 m.z]] w fun e w' => e = .returned (.string ⟨#[90]⟩) ∧ Below w.heap.size w w' := by
 rw [hz, h0]
 clear hz h0
 go_enter Tryz.func43, Tryz.ntmps43
 have HS := Lib.hid ((KD.nil w).push [.int .i64 m.k, .int .i64 m.y, .int .i64 m.mo, .int .i64 m.d, .int .i64 m.h, .int .i64 m.mi, .bool m.sec.neg, .string m.sec.ds, .int .i64 m.sec.sc, .bool true, .int .i64 0] 25 (n := w.heap.size) (by simp))
 have HT := Lib.hid hT
 clear hT
 have d0_9 := (HS.out.at 0 rfl).cell 9 rfl
 have d0_10 := (HS.out.at 0 rfl).cell 10 rfl
 go_wp2
 go_ret
 exact ⟨rfl, HS.out.old⟩
theorem pzone_neg (m : Mom) (a1 a2 : Int) (z1 z2 : ByteArray) (hs1 : z1.size = 2) (hs2 : z2.size = 2) (hz : m.zd = true) (h0 : m.z < 0) (hb0 : -840 ≤ m.z) (hb1 : m.z ≤ 840) (ha1 : IntKind.i64.wrap (-m.z.tdiv 60) = a1) (ha2 : -m.z.tmod 60 = a2) (c1 : ∀ W, Tabs W → Calls Tryz.prog 81 #[.int .i64 a1, .int .i64 2] W fun e w' => e = .returned (.string z1) ∧ Below W.heap.size W w') (c2 : ∀ W, Tabs W → Calls Tryz.prog 81 #[.int .i64 a2, .int .i64 2] W fun e w' => e = .returned (.string z2) ∧ Below W.heap.size W w') (w : World) (hT : Tabs w) : Calls Tryz.prog 43 #[.agg #[.int .i64 m.k, .int .i64 m.y, .int .i64 m.mo, .int .i64 m.d, .int .i64 m.h, .int .i64 m.mi, .bool m.sec.neg, .string m.sec.ds, .int .i64 m.sec.sc, .bool m.zd, .int .i64 m.z]] w fun e w' => e = .returned (.string ((⟨#[45]⟩ : ByteArray) ++ z1 ++ ⟨#[58]⟩ ++ z2)) ∧ Below w.heap.size w w' := by
 rw [hz]
 clear hz
 have hne : (m.z == 0) = false := by simp; omega
 have hw : IntKind.i64.wrap (-m.z) = -m.z := IntWalk.i64_in _ (by omega)
 go_enter Tryz.func43, Tryz.ntmps43
 have HS := Lib.hid ((KD.nil w).push [.int .i64 m.k, .int .i64 m.y, .int .i64 m.mo, .int .i64 m.d, .int .i64 m.h, .int .i64 m.mi, .bool m.sec.neg, .string m.sec.ds, .int .i64 m.sec.sc, .bool true, .int .i64 m.z] 25 (n := w.heap.size) (by simp))
 have HT := Lib.hid hT
 clear hT
 have d0_9 := (HS.out.at 0 rfl).cell 9 rfl
 have d0_10 := (HS.out.at 0 rfl).cell 10 rfl
 go_upto_region 6 with fail
 clear d0_9 d0_10
 refine wp_region_held_drew (S := KD w _) (by kernel_rfl) HS.out.drew1 (fun hHeld => ?_)
 clear HS
 generalize World.drew _ = x at *
 refine tk (v := ?_) 0 hHeld ?_ ?_
 rotate_left
 focus (intro w hSw; clear hSw; go_simp; (try with_reducible rfl))
 (try simp only [fl])
 refine tk (v := ?_) 1 hHeld ?_ ?_
 rotate_left
 focus (intro w hSw; have c10 := (hSw.at 0 rfl).cell 10 rfl; clear hSw; go_simp; (try with_reducible rfl))
 (try simp only [fl])
 refine tk (v := ?_) 2 hHeld ?_ ?_
 rotate_left
 focus (intro w hSw; clear hSw; go_simp; (try with_reducible rfl))
 (try simp only [fl])
 refine tk (v := ?_) 3 hHeld ?_ ?_
 rotate_left
 focus (intro w hSw; clear hSw; go_simp; (try with_reducible rfl))
 (try simp only [fl])
 refine tk (v := ?_) 7 hHeld ?_ ?_
 rotate_left
 focus (intro w hSw; clear hSw; go_simp; (try with_reducible rfl))
 (try simp only [fl])
 refine tk (v := ?_) 8 hHeld ?_ ?_
 rotate_left
 focus (intro w hSw; have c10 := (hSw.at 0 rfl).cell 10 rfl; clear hSw; go_simp; (try with_reducible rfl))
 (try simp only [fl])
 refine tk (v := ?_) 9 hHeld ?_ ?_
 rotate_left
 focus (intro w hSw; clear hSw; go_simp; (try with_reducible rfl))
 (try simp only [fl])
 refine tk (v := ?_) 10 hHeld ?_ ?_
 rotate_left
 focus (intro w hSw; clear hSw; go_simp; (try with_reducible rfl))
 (try simp only [fl])
 refine wpAnyH_ready (rs := [4]) (by kernel_rfl) (by simp) ?_
 refine AllReadyH.cons rfl (fun K hK => ?_) AllReadyH.nil
 go_simp
 refine (c1 _ (hHeld.tabs HT.out)).mono ?_
 rintro e y ⟨rfl, un⟩
 replace hHeld := hHeld.call un
 clear un
 refine hK.out _ _ hHeld (fun hX => ?_)
 clear hK K hX
 (try simp only [fl])
 (try clear x)
 rename World => x
 refine tk (v := ?_) 5 hHeld ?_ ?_
 rotate_left
 focus (intro w hSw; clear hSw; go_simp; (try with_reducible rfl))
 (try simp only [fl])
 refine tk (v := ?_) 6 hHeld ?_ ?_
 rotate_left
 focus (intro w hSw; clear hSw; go_simp; (try with_reducible rfl))
 (try simp only [fl])
 refine wpAnyH_ready (rs := [11]) (by kernel_rfl) (by simp) ?_
 refine AllReadyH.cons rfl (fun K hK => ?_) AllReadyH.nil
 go_simp
 refine (c2 _ (hHeld.tabs HT.out)).mono ?_
 rintro e y ⟨rfl, un⟩
 replace hHeld := hHeld.call un
 clear un
 refine hK.out _ _ hHeld (fun hX => ?_)
 clear hK K hX
 (try simp only [fl])
 (try clear x)
 rename World => x
 refine tk (v := ?_) 12 hHeld ?_ ?_
 rotate_left
 focus (intro w hSw; clear hSw; go_simp; (try with_reducible rfl))
 (try simp only [fl])
 refine tk (v := ?_) 13 hHeld ?_ ?_
 rotate_left
 focus (intro w hSw; clear hSw; go_simp; (try with_reducible rfl))
 (try simp only [fl])
 refine wpAnyH_done (by kernel_rfl) ?_ _
 have HS := Lib.hid hHeld
 clear hHeld
 go_wp2
 go_ret
 exact ⟨rfl, HS.out.old⟩
theorem pzone_pos (m : Mom) (a1 a2 : Int) (z1 z2 : ByteArray) (hs1 : z1.size = 2) (hs2 : z2.size = 2) (hz : m.zd = true) (h0 : 0 < m.z) (hb0 : -840 ≤ m.z) (hb1 : m.z ≤ 840) (ha1 : IntKind.i64.wrap (m.z.tdiv 60) = a1) (ha2 : m.z.tmod 60 = a2) (c1 : ∀ W, Tabs W → Calls Tryz.prog 81 #[.int .i64 a1, .int .i64 2] W fun e w' => e = .returned (.string z1) ∧ Below W.heap.size W w') (c2 : ∀ W, Tabs W → Calls Tryz.prog 81 #[.int .i64 a2, .int .i64 2] W fun e w' => e = .returned (.string z2) ∧ Below W.heap.size W w') (w : World) (hT : Tabs w) : Calls Tryz.prog 43 #[.agg #[.int .i64 m.k, .int .i64 m.y, .int .i64 m.mo, .int .i64 m.d, .int .i64 m.h, .int .i64 m.mi, .bool m.sec.neg, .string m.sec.ds, .int .i64 m.sec.sc, .bool m.zd, .int .i64 m.z]] w fun e w' => e = .returned (.string ((⟨#[43]⟩ : ByteArray) ++ z1 ++ ⟨#[58]⟩ ++ z2)) ∧ Below w.heap.size w w' := by
 rw [hz]
 clear hz
 have hne : (m.z == 0) = false := by simp; omega
 have hlt : ¬ m.z < 0 := by omega
 go_enter Tryz.func43, Tryz.ntmps43
 have HS := Lib.hid ((KD.nil w).push [.int .i64 m.k, .int .i64 m.y, .int .i64 m.mo, .int .i64 m.d, .int .i64 m.h, .int .i64 m.mi, .bool m.sec.neg, .string m.sec.ds, .int .i64 m.sec.sc, .bool true, .int .i64 m.z] 25 (n := w.heap.size) (by simp))
 have HT := Lib.hid hT
 clear hT
 have d0_9 := (HS.out.at 0 rfl).cell 9 rfl
 have d0_10 := (HS.out.at 0 rfl).cell 10 rfl
 go_upto_region 7 with fail
 clear d0_9 d0_10
 refine wp_region_held_drew (S := KD w _) (by kernel_rfl) HS.out.drew1 (fun hHeld => ?_)
 clear HS
 generalize World.drew _ = x at *
 refine tk (v := ?_) 0 hHeld ?_ ?_
 rotate_left
 focus (intro w hSw; clear hSw; go_simp; (try with_reducible rfl))
 (try simp only [fl])
 refine tk (v := ?_) 1 hHeld ?_ ?_
 rotate_left
 focus (intro w hSw; have c10 := (hSw.at 0 rfl).cell 10 rfl; clear hSw; go_simp; (try with_reducible rfl))
 (try simp only [fl])
 refine tk (v := ?_) 2 hHeld ?_ ?_
 rotate_left
 focus (intro w hSw; clear hSw; go_simp; (try with_reducible rfl))
 (try simp only [fl])
 refine tk (v := ?_) 6 hHeld ?_ ?_
 rotate_left
 focus (intro w hSw; clear hSw; go_simp; (try with_reducible rfl))
 (try simp only [fl])
 refine tk (v := ?_) 7 hHeld ?_ ?_
 rotate_left
 focus (intro w hSw; have c10 := (hSw.at 0 rfl).cell 10 rfl; clear hSw; go_simp; (try with_reducible rfl))
 (try simp only [fl])
 refine tk (v := ?_) 8 hHeld ?_ ?_
 rotate_left
 focus (intro w hSw; clear hSw; go_simp; (try with_reducible rfl))
 (try simp only [fl])
 refine wpAnyH_ready (rs := [3]) (by kernel_rfl) (by simp) ?_
 refine AllReadyH.cons rfl (fun K hK => ?_) AllReadyH.nil
 go_simp
 refine (c1 _ (hHeld.tabs HT.out)).mono ?_
 rintro e y ⟨rfl, un⟩
 replace hHeld := hHeld.call un
 clear un
 refine hK.out _ _ hHeld (fun hX => ?_)
 clear hK K hX
 (try simp only [fl])
 (try clear x)
 rename World => x
 refine tk (v := ?_) 4 hHeld ?_ ?_
 rotate_left
 focus (intro w hSw; clear hSw; go_simp; (try with_reducible rfl))
 (try simp only [fl])
 refine tk (v := ?_) 5 hHeld ?_ ?_
 rotate_left
 focus (intro w hSw; clear hSw; go_simp; (try with_reducible rfl))
 (try simp only [fl])
 refine wpAnyH_ready (rs := [9]) (by kernel_rfl) (by simp) ?_
 refine AllReadyH.cons rfl (fun K hK => ?_) AllReadyH.nil
 go_simp
 refine (c2 _ (hHeld.tabs HT.out)).mono ?_
 rintro e y ⟨rfl, un⟩
 replace hHeld := hHeld.call un
 clear un
 refine hK.out _ _ hHeld (fun hX => ?_)
 clear hK K hX
 (try simp only [fl])
 (try clear x)
 rename World => x
 refine tk (v := ?_) 10 hHeld ?_ ?_
 rotate_left
 focus (intro w hSw; clear hSw; go_simp; (try with_reducible rfl))
 (try simp only [fl])
 refine tk (v := ?_) 11 hHeld ?_ ?_
 rotate_left
 focus (intro w hSw; clear hSw; go_simp; (try with_reducible rfl))
 (try simp only [fl])
 refine wpAnyH_done (by kernel_rfl) ?_ _
 have HS := Lib.hid hHeld
 clear hHeld
 go_wp2
 go_ret
 exact ⟨rfl, HS.out.old⟩
theorem ptime_any (m : Mom) (t wd bd z1 z2 pw : ByteArray) (q : Int) (br : Bool) (hs1 : z1.size = 2) (hs2 : z2.size = 2) (hs3 : pw.size = 2) (hs4 : bd.size ≤ 1000)
  (cT : ∀ W, Tabs W → Calls Tryz.prog 82 #[.agg #[.bool m.sec.neg, .string m.sec.ds, .int .i64 m.sec.sc]] W fun e w' => e = .returned (.tuple #[.string t, .int .i64 q]) ∧ Below W.heap.size W w')
  (cC : ∀ W, Tabs W → Calls Tryz.prog 83 #[.string t, .string ⟨#[46]⟩] W fun e w' => e = .returned (.tuple #[.string wd, .string bd, .bool br]) ∧ Below W.heap.size W w')
  (c1 : ∀ W, Tabs W → Calls Tryz.prog 81 #[.int .i64 m.h, .int .i64 2] W fun e w' => e = .returned (.string z1) ∧ Below W.heap.size W w') (c2 : ∀ W, Tabs W → Calls Tryz.prog 81 #[.int .i64 m.mi, .int .i64 2] W fun e w' => e = .returned (.string z2) ∧ Below W.heap.size W w') (c3 : ∀ W, Calls Tryz.prog 84 #[.string wd, .int .i64 2] W fun e w' => e = .returned (.string pw) ∧ Below W.heap.size W w') (w : World) (hT : Tabs w) : Calls Tryz.prog 42 #[.agg #[.int .i64 m.k, .int .i64 m.y, .int .i64 m.mo, .int .i64 m.d, .int .i64 m.h, .int .i64 m.mi, .bool m.sec.neg, .string m.sec.ds, .int .i64 m.sec.sc, .bool m.zd, .int .i64 m.z]] w fun e w' => e = .returned (.string (if br then z1 ++ ⟨#[58]⟩ ++ z2 ++ ⟨#[58]⟩ ++ pw ++ ((⟨#[46]⟩ : ByteArray) ++ bd) else z1 ++ ⟨#[58]⟩ ++ z2 ++ ⟨#[58]⟩ ++ pw)) ∧ Below w.heap.size w w' := by
 have hq1 : ¬ 9223372036854775807 < 1 + bd.size := by omega
 have hq2 : ¬ 9223372036854775807 < 8 + (1 + bd.size) := by omega
 go_enter Tryz.func42, Tryz.ntmps42
 have HS := Lib.hid ((KD.nil w).push [.int .i64 m.k, .int .i64 m.y, .int .i64 m.mo, .int .i64 m.d, .int .i64 m.h, .int .i64 m.mi, .bool m.sec.neg, .string m.sec.ds, .int .i64 m.sec.sc, .bool m.zd, .int .i64 m.z] 25 (n := w.heap.size) (by simp))
 have HT := Lib.hid hT
 clear hT
 have d0_6 := (HS.out.at 0 rfl).cell 6 rfl
 have d0_7 := (HS.out.at 0 rfl).cell 7 rfl
 have d0_8 := (HS.out.at 0 rfl).cell 8 rfl
 go_wp2_with fail
 refine (cT _ (HS.out.tabs HT.out)).mono ?_
 rintro e w1 ⟨rfl, b1⟩
 replace HS := Lib.hid (HS.out.call b1)
 clear d0_6 d0_7 d0_8 b1
 go_wp2_with fail
 refine (cC _ (HS.out.tabs HT.out)).mono ?_
 rintro e w2 ⟨rfl, b1⟩
 replace HS := Lib.hid (HS.out.call b1)
 clear b1
 go_upto_region 3 with fail
 refine wp_region_held_drew (S := KD w _) (by kernel_rfl) HS.out.drew1 (fun hHeld => ?_)
 clear HS
 generalize World.drew w2 = x at *
 refine tk (v := ?_) 0 hHeld ?_ ?_
 rotate_left
 focus (intro w hSw; clear hSw; go_simp; (try with_reducible rfl))
 (try simp only [fl])
 refine tk (v := ?_) 1 hHeld ?_ ?_
 rotate_left
 focus (intro w hSw; have c4 := (hSw.at 0 rfl).cell 4 rfl; clear hSw; go_simp; (try with_reducible rfl))
 (try simp only [fl])
 refine tk (v := ?_) 4 hHeld ?_ ?_
 rotate_left
 focus (intro w hSw; clear hSw; go_simp; (try with_reducible rfl))
 (try simp only [fl])
 refine tk (v := ?_) 5 hHeld ?_ ?_
 rotate_left
 focus (intro w hSw; have c5 := (hSw.at 0 rfl).cell 5 rfl; clear hSw; go_simp; (try with_reducible rfl))
 (try simp only [fl])
 refine tk (v := ?_) 9 hHeld ?_ ?_
 rotate_left
 focus (intro w hSw; clear hSw; go_simp; (try with_reducible rfl))
 (try simp only [fl])
 refine wpAnyH_ready (rs := [2]) (by kernel_rfl) (by simp) ?_
 refine AllReadyH.cons rfl (fun K hK => ?_) AllReadyH.nil
 go_simp
 refine (c1 _ (hHeld.tabs HT.out)).mono ?_
 rintro e y ⟨rfl, un⟩
 replace hHeld := hHeld.call un
 clear un
 refine hK.out _ _ hHeld (fun hX => ?_)
 clear hK K hX
 (try simp only [fl])
 (try clear x)
 rename World => x
 refine tk (v := ?_) 3 hHeld ?_ ?_
 rotate_left
 focus (intro w hSw; clear hSw; go_simp; (try with_reducible rfl))
 (try simp only [fl])
 refine wpAnyH_ready (rs := [6]) (by kernel_rfl) (by simp) ?_
 refine AllReadyH.cons rfl (fun K hK => ?_) AllReadyH.nil
 go_simp
 refine (c2 _ (hHeld.tabs HT.out)).mono ?_
 rintro e y ⟨rfl, un⟩
 replace hHeld := hHeld.call un
 clear un
 refine hK.out _ _ hHeld (fun hX => ?_)
 clear hK K hX
 (try simp only [fl])
 (try clear x)
 rename World => x
 refine tk (v := ?_) 7 hHeld ?_ ?_
 rotate_left
 focus (intro w hSw; clear hSw; go_simp; (try with_reducible rfl))
 (try simp only [fl])
 refine tk (v := ?_) 8 hHeld ?_ ?_
 rotate_left
 focus (intro w hSw; clear hSw; go_simp; (try with_reducible rfl))
 (try simp only [fl])
 refine wpAnyH_ready (rs := [10]) (by kernel_rfl) (by simp) ?_
 refine AllReadyH.cons rfl (fun K hK => ?_) AllReadyH.nil
 go_simp
 refine (c3 _).mono ?_
 rintro e y ⟨rfl, un⟩
 replace hHeld := hHeld.call un
 clear un
 refine hK.out _ _ hHeld (fun hX => ?_)
 clear hK K hX
 (try simp only [fl])
 (try clear x)
 rename World => x
 refine tk (v := ?_) 11 hHeld ?_ ?_
 rotate_left
 focus (intro w hSw; clear hSw; go_simp; (try with_reducible rfl))
 (try simp only [fl])
 refine tk (v := ?_) 12 hHeld ?_ ?_
 rotate_left
 focus (intro w hSw; clear hSw; go_simp; (try with_reducible rfl))
 (try simp only [fl])
 refine wpAnyH_done (by kernel_rfl) ?_ _
 have HS := Lib.hid hHeld
 clear hHeld
 cases br
 ·go_wp2
  go_ret
  exact ⟨rfl, HS.out.old⟩
 ·go_wp2
  go_ret
  exact ⟨rfl, HS.out.old⟩
end Go.Proofs.YtmdnijehoagamaaGreatDoor
