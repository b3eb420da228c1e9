/- Squeeze at its modes 1 and 2, at every string; and that it changes nothing more. -/
import Derived.Test.YtiefpdoefdldpaaDoorY4
namespace Go.Proofs.YtiefpdoefdldpaaDoor
open Go.RowKit

theorem badB_eq (l : List UInt8) : badB l = decBad l := by
  unfold badB badAt decBad
  rw [Option.isSome_map, List.isSome_find?]
  rfl

def spb (c : Int) : Int := if blkB c then 32 else c
theorem blk_vals {c : Int} (h : blkB c = true) : c = 9 ∨ c = 10 ∨ c = 13 ∨ c = 32 := by
  rw [blk_eq] at h
  unfold rblkB at h
  simp only [Bool.or_eq_true, beq_iff_eq] at h
  omega
def pb (n : Nat) : Bool := blkB n
theorem pb_int (c : Int) : pb c.toNat = blkB c := by
  by_cases h : 0 ≤ c
  · unfold pb
    rw [Int.toNat_of_nonneg h]
  · have h1 : c.toNat = 0 := by omega
    rw [h1]
    cases hb : blkB c with
    | false => decide
    | true => have := blk_vals hb; omega
theorem spb_vld (c : Int) (h : vldB c = true) : vldB (spb c) = true := by
  unfold spb
  split
  · decide
  · exact h
theorem spb_blk (c : Int) : blkB (spb c) = blkB c := by
  unfold spb
  cases h : blkB c with
  | true => rw [if_pos rfl]; decide
  | false => rw [if_neg (by decide)]; exact h
theorem spb_spb (c : Int) : spb (spb c) = spb c := by
  have h32 : blkB 32 = true := by decide
  unfold spb
  cases hb : blkB c <;> simp [hb, h32]
theorem spb_len (c : Int) : (bytesL (spb c).toNat).length = (bytesL c.toNat).length := by
  unfold spb
  cases hb : blkB c with
  | false => rw [if_neg (by decide)]
  | true =>
    rw [if_pos rfl]
    rcases blk_vals hb with rfl | rfl | rfl | rfl <;> rfl
theorem enc_spb_len : ∀ zs : List Int, (encAll (zs.map spb)).length = (encAll zs).length
  | [] => rfl
  | c :: zs => by
    rw [List.map_cons, encAll_cons, encAll_cons, List.length_append, List.length_append, enc_spb_len zs, spb_len]
theorem fz_sum (p : Nat → Bool) : ∀ (zs : List Int) (st : Option (List Int)), ((fz p zs st).map fun z => z.length + 1).sum ≤ 2 * zs.length + (match st with | some cur => cur.length + 1 | none => 0)
  | [], none => by simp [fz]
  | [], some cur => by simp [fz]
  | c :: zs, st => by
    unfold fz
    by_cases hb : p c.toNat = true
    · rw [if_pos hb]
      have h := fz_sum p zs none
      cases st with
      | none => simp only [List.length_cons] at h ⊢; omega
      | some cur => simp only [List.map_cons, List.sum_cons, List.length_cons] at h ⊢; omega
    · rw [if_neg hb]
      cases st with
      | none =>
        have h := fz_sum p zs (some [c])
        simp only [List.length_cons, List.length_nil] at h ⊢
        omega
      | some cur =>
        have h := fz_sum p zs (some (cur ++ [c]))
        simp only [List.length_append, List.length_cons, List.length_nil] at h ⊢
        omega
theorem joinZ_len (fs : List (List Int)) : (joinZ fs).length ≤ (fs.map fun z => z.length + 1).sum := by
  cases fs with
  | nil => simp [joinZ]
  | cons x r =>
    have h : ∀ r : List (List Int), (r.flatMap fun y => 32 :: y).length = (r.map fun z => z.length + 1).sum := by
      intro r
      induction r with
      | nil => rfl
      | cons y r ih => rw [List.flatMap_cons, List.length_append, ih, List.map_cons, List.sum_cons, List.length_cons]
    rw [joinZ, List.length_append, h r, List.map_cons, List.sum_cons]
    omega
theorem count_sum : ∀ fs : List (List Int), fs.length ≤ (fs.map fun z => z.length + 1).sum
  | [] => by simp
  | x :: r => by
    have h := count_sum r
    rw [List.map_cons, List.sum_cons, List.length_cons]
    omega

def sq1 (l : List UInt8) : List UInt8 := if decBad l then [] else encAll ((decL l).map spb)
def sq2 (l : List UInt8) : List UInt8 := if decBad l then [] else encAll (joinZ (fz pb (decL l) none))
def sqQ (l : List UInt8) : Int := if decBad l then 6 else 0

set_option maxHeartbeats 400000 in
theorem space_any (c : Int) (w : World) (hT : Tabs w) : Calls Tryd.prog 46 #[.int .i32 c] w fun e w' => e = .returned (.int .i32 (spb c)) ∧ Below w.heap.size w w' := by
  have cB := blank_any c w hT.ran
  unfold spb
  cases hb : blkB c with
  | true =>
    rw [hb] at cB
    rw [if_pos rfl]
    clear hb
    go_enter Tryd.func46, Tryd.ntmps46
    go_wp2_with (go_at_call 10; refine cB.mono ?_; rintro e w1 ⟨rfl, h1⟩)
    go_ret
    exact ⟨rfl, h1⟩
  | false =>
    rw [hb] at cB
    rw [if_neg (by decide)]
    clear hb
    go_enter Tryd.func46, Tryd.ntmps46
    go_wp2_with (go_at_call 10; refine cB.mono ?_; rintro e w1 ⟨rfl, h1⟩)
    go_ret
    exact ⟨rfl, h1⟩

set_option maxRecDepth 100000 in
set_option maxHeartbeats 2000000 in
theorem squeeze_bad (s : ByteArray) (m : Int) (hm : m = 1 ∨ m = 2) (w : World) (hs : s.size ≤ 100000) (hT : Tabs w) (hbad : badB s.data.toList = true) :
    Calls Tryd.prog 27 #[.string s, .int .i64 m] w fun e w' => e = .returned (.tuple #[.string ⟨#[]⟩, .int .i64 6]) ∧ Below w.heap.size w w' := by
  have cF := firstWrong_any s w (by unfold maxLen; omega) hT
  rw [hbad] at cF
  generalize badI s.data.toList = bi at cF
  clear hbad
  rcases hm with rfl | rfl
  · go_enter Tryd.func27, Tryd.ntmps27
    go_wp2_with (go_at_call 40; refine cF.mono ?_; rintro e w1 ⟨rfl, hb1⟩)
    go_ret2
    exact ⟨rfl, hb1⟩
  · go_enter Tryd.func27, Tryd.ntmps27
    go_wp2_with (go_at_call 40; refine cF.mono ?_; rintro e w1 ⟨rfl, hb1⟩)
    go_ret2
    exact ⟨rfl, hb1⟩

set_option maxRecDepth 100000 in
set_option maxHeartbeats 2000000 in
theorem squeeze_one (s : ByteArray) (w : World) (hs : s.size ≤ 100000) (hT : Tabs w) (hbad : badB s.data.toList = false) :
    Calls Tryd.prog 27 #[.string s, .int .i64 1] w fun e w' => e = .returned (.tuple #[.string ⟨(Lib.mapD spb s.data.toList).toArray⟩, .int .i64 0]) ∧ Below w.heap.size w w' := by
  have hsz := hT.size
  have cF := firstWrong_any s w (by unfold maxLen; omega) hT
  rw [hbad] at cF
  generalize badI s.data.toList = bi at cF
  have cM := fun W (h : Below w.heap.size w W) => Tryd.strings_Map_grows 46 #[] (enters_of Tryd.func46 (by kernel_rfl) rfl) spb s W (by omega)
    (fun X x _ hX => space_any x X (hT.below (h.trans (hX.mono h.size)) hsz)) (fun x hx => by unfold spb; split <;> omega) (hT.below h hsz).utf
  generalize ByteArray.mk (Lib.mapD spb s.data.toList).toArray = R at cM ⊢
  clear hbad
  go_enter Tryd.func27, Tryd.ntmps27
  go_wp2_with (first | (go_at_call 40; refine cF.mono ?_; rintro e w1 ⟨rfl, hb1⟩; have cM1 := cM w1 hb1) | (go_at_call 45; refine cM1.mono ?_; rintro e w2 ⟨rfl, hb2⟩))
  go_ret2
  exact ⟨rfl, hb1.trans (hb2.mono hb1.size)⟩

theorem squeeze1_any (s : ByteArray) (w : World) (hs : s.size ≤ 100000) (hT : Tabs w) :
    Calls Tryd.prog 27 #[.string s, .int .i64 1] w fun e w' => e = .returned (.tuple #[.string ⟨(sq1 s.data.toList).toArray⟩, .int .i64 (sqQ s.data.toList)]) ∧ Below w.heap.size w w' := by
  unfold sq1 sqQ
  cases hb : decBad s.data.toList with
  | true => exact squeeze_bad s 1 (.inl rfl) w hs hT (by rw [badB_eq]; exact hb)
  | false =>
    have h := squeeze_one s w hs hT (by rw [badB_eq]; exact hb)
    obtain ⟨h1, h2⟩ := back_text hb
    have e : Lib.mapD spb s.data.toList = encAll ((decL s.data.toList).map spb) := by
      have h3 := mapGo_enc spb spb_vld (decL s.data.toList) h2 s.data.toList.length (by rw [h1]; exact Nat.le_refl _)
      rw [h1] at h3
      exact h3
    rw [e] at h
    exact h
theorem squeeze2_any (s : ByteArray) (w : World) (hs : s.size ≤ 50000) (hT : Tabs w) :
    Calls Tryd.prog 27 #[.string s, .int .i64 2] w fun e w' => e = .returned (.tuple #[.string ⟨(sq2 s.data.toList).toArray⟩, .int .i64 (sqQ s.data.toList)]) ∧ Below w.heap.size w w' := by
  unfold sq2 sqQ
  cases hb : decBad s.data.toList with
  | true => exact squeeze_bad s 2 (.inr rfl) w (by omega) hT (by rw [badB_eq]; exact hb)
  | false =>
    obtain ⟨h1, h2⟩ := back_text hb
    have hf : Lib.goFieldsP (fun x => blkB x) s = (fz pb (decL s.data.toList) none).map fun z => ⟨(encAll z).toArray⟩ := by
      have h3 := fields_enc pb (decL s.data.toList) h2
      rw [h1] at h3
      exact h3
    have hj : Lib.join ((Lib.goFieldsP (fun x => blkB x) s).map (·.data.toList)) [32] = encAll (joinZ (fz pb (decL s.data.toList) none)) := by
      rw [hf, List.map_map, ← join_enc]
      rfl
    have hsum := fz_sum pb (decL s.data.toList) none
    have hdl := decL_len s.data.toList
    have hlen : s.data.toList.length = s.size := by simp
    have h4 := encAll_len (joinZ (fz pb (decL s.data.toList) none))
    have h5 := joinZ_len (fz pb (decL s.data.toList) none)
    have h6 := count_sum (fz pb (decL s.data.toList) none)
    simp only at hsum
    have h := squeeze_two s w (by omega) hT (by rw [badB_eq]; exact hb) (by rw [hj]; omega) (by rw [hf, List.length_map]; omega)
    rw [hj] at h
    exact h

/-! ### nothing more is changed -/
theorem list_of_text (zs : List Int) (h : zs.all vldB = true) : decBad (encAll zs) = false ∧ decL (encAll zs) = zs := back_list h
theorem all_spb (zs : List Int) (h : zs.all vldB = true) : (zs.map spb).all vldB = true := by
  rw [List.all_map, List.all_eq_true]
  intro c hc
  exact spb_vld c (List.all_eq_true.1 h c hc)
theorem sq_more {l : List UInt8} (hb : decBad l = false) :
    sq1 (sq1 l) = sq1 l ∧ sq2 (sq2 l) = sq2 l ∧ sq2 (sq1 l) = sq2 l ∧ (sq1 l).length = l.length ∧ sqQ (sq1 l) = 0 ∧ sqQ (sq2 l) = 0 ∧ sqQ l = 0 := by
  obtain ⟨h1, h2⟩ := back_text hb
  have e1 : sq1 l = encAll ((decL l).map spb) := by unfold sq1; rw [hb]; rfl
  have e2 : sq2 l = encAll (joinZ (fz pb (decL l) none)) := by unfold sq2; rw [hb]; rfl
  obtain ⟨a1, a2⟩ := back_list (all_spb _ h2)
  obtain ⟨b1, b2⟩ := back_list (joinZ_vld pb (decL l) h2)
  have hfl := fz_fld pb (decL l) none (fun _ h => by cases h)
  have h32 : pb 32 = true := by decide
  have hg : ∀ c, pb (spb c).toNat = pb c.toNat := fun c => by rw [pb_int, pb_int, spb_blk]
  have hn : ∀ c, pb c.toNat = false → spb c = c := fun c h => by
    rw [pb_int] at h
    unfold spb
    rw [h]
    rfl
  refine ⟨?_, ?_, ?_, ?_, ?_, ?_, ?_⟩
  · rw [e1]
    unfold sq1
    rw [a1, a2]
    have hss : ((decL l).map spb).map spb = (decL l).map spb := by
      rw [List.map_map]
      exact List.map_congr_left (fun c _ => spb_spb c)
    rw [hss]
    rfl
  · rw [e2]
    unfold sq2
    rw [b1, b2, fz_join pb h32 _ hfl]
    rfl
  · rw [e1, e2]
    unfold sq2
    rw [a1, a2, fz_map pb spb hg hn]
    rfl
  · rw [e1, enc_spb_len, h1]
  · rw [e1]; unfold sqQ; rw [a1]; rfl
  · rw [e2]; unfold sqQ; rw [b1]; rfl
  · unfold sqQ; rw [hb]; rfl
theorem sq2_len (l : List UInt8) : (sq2 l).length ≤ 8 * l.length := by
  unfold sq2
  split
  · simp
  · have hsum := fz_sum pb (decL l) none
    have hdl := decL_len l
    have h4 := encAll_len (joinZ (fz pb (decL l) none))
    have h5 := joinZ_len (fz pb (decL l) none)
    simp only at hsum
    omega

set_option maxRecDepth 100000 in
set_option maxHeartbeats 4000000 in
theorem squeezed_any (s : ByteArray) (w : World) (hs : s.size ≤ 5000) (hT : Tabs w) : Calls Tryd.prog 29 #[.string s] w fun e w' => e = .returned (.bool true) ∧ Below w.heap.size w w' := by
  have hsz := hT.size
  have hlen : s.data.toList.length = s.size := by simp
  have c1 := squeeze1_any s w (by omega) hT
  have c2 := fun W hTW => squeeze2_any s W (by omega) hTW
  cases hb : decBad s.data.toList with
  | true =>
    have e1 : sq1 s.data.toList = [] := by unfold sq1; rw [hb]; rfl
    have e2 : sq2 s.data.toList = [] := by unfold sq2; rw [hb]; rfl
    have e3 : sqQ s.data.toList = 6 := by unfold sqQ; rw [hb]; rfl
    rw [e1, e3] at c1
    rw [e2, e3] at c2
    clear hb e1 e2 e3 hlen
    go_enter Tryd.func29, Tryd.ntmps29
    go_wp2_with fail
    refine c1.mono ?_
    rintro e w1 ⟨rfl, b1⟩
    have hT1 := hT.below b1 hsz
    go_wp2_with fail
    refine (c2 w1 hT1).mono ?_
    rintro e w2 ⟨rfl, b2⟩
    go_wp2
    go_ret
    exact ⟨rfl, b1.trans (b2.mono b1.size)⟩
  | false =>
    obtain ⟨m1, m2, m3, m4, m5, m6, m7⟩ := sq_more hb
    have hl2 := sq2_len s.data.toList
    rw [m7] at c1 c2
    obtain ⟨O, hO⟩ : ∃ O, ByteArray.mk (sq1 s.data.toList).toArray = O := ⟨_, rfl⟩
    obtain ⟨T, hTw⟩ : ∃ T, ByteArray.mk (sq2 s.data.toList).toArray = T := ⟨_, rfl⟩
    have eO : O.data.toList = sq1 s.data.toList := by rw [← hO]
    have eT : T.data.toList = sq2 s.data.toList := by rw [← hTw]
    have zO : O.size = s.size := by rw [← hlen, ← m4, ← eO]; simp
    have zT : T.size ≤ 40000 := by
      have : T.size = T.data.toList.length := by simp
      rw [this, eT]
      omega
    have c3 := fun W hTW => squeeze1_any O W (by omega) hTW
    have c4 := fun W hTW => squeeze2_any T W (by omega) hTW
    have c5 := fun W hTW => squeeze2_any O W (by omega) hTW
    rw [hO] at c1
    rw [hTw] at c2
    rw [eO, m1, m5, hO] at c3
    rw [eT, m2, m6, hTw] at c4
    rw [eO, m3, m5, hTw] at c5
    have hzz : (O.size : Int) = s.size := by rw [zO]
    clear hb m1 m2 m3 m4 m5 m6 m7 hl2 hO hTw eO eT zT zO hlen
    go_enter Tryd.func29, Tryd.ntmps29
    go_wp2_with fail
    refine c1.mono ?_
    rintro e w1 ⟨rfl, b1⟩
    have hT1 := hT.below b1 hsz
    clear c1
    go_wp2_with fail
    refine (c2 w1 hT1).mono ?_
    rintro e w2 ⟨rfl, b2⟩
    have hT2 := hT1.below b2 hT1.size
    clear c2
    go_wp2_with fail
    refine (c3 w2 hT2).mono ?_
    rintro e w3 ⟨rfl, b3⟩
    have hT3 := hT2.below b3 hT2.size
    clear c3
    go_wp2_with fail
    refine (c4 w3 hT3).mono ?_
    rintro e w4 ⟨rfl, b4⟩
    have hT4 := hT3.below b4 hT3.size
    clear c4
    go_wp2_with fail
    refine (c5 w4 hT4).mono ?_
    rintro e w5 ⟨rfl, b5⟩
    have s1 := b1.size
    have s2 := b2.size
    have s3 := b3.size
    have s4 := b4.size
    have HB := Lib.hid (b1.trans ((b2.mono s1).trans ((b3.mono (by omega)).trans ((b4.mono (by omega)).trans (b5.mono (show w.heap.size ≤ w4.heap.size by omega))))))
    clear c5 b1 b2 b3 b4 b5 s1 s2 s3 s4
    go_wp2
    go_ret
    exact ⟨rfl, HB.out⟩
end Go.Proofs.YtiefpdoefdldpaaDoor
