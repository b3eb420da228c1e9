/- The reference's Squeeze, on lists: it squeezes as the fields say; and package chars' Squeeze at its other modes. -/
import Derived.Test.YtiefpdoefdldpaaDoorY8
namespace Go.Proofs.YtiefpdoefdldpaaDoor
open Go.RowKit

/-- A byte, or the blank for a blank one. -/
def spB (b : UInt8) : UInt8 := if rblkB (b.toNat : Int) then 32 else b
/-- One byte more, where several blanks become one. -/
def sqStep (out : List UInt8) (b : UInt8) : List UInt8 := if spB b = 32 ∧ (out = [] ∨ out.getLast? = some 32) then out else out ++ [spB b]
def sqEnd (out : List UInt8) : List UInt8 := if out.getLast? = some 32 then out.dropLast else out

theorem spB_of (n : Nat) (h : n < 256) : spB (UInt8.ofNat n) = if rblkB (n : Int) then 32 else UInt8.ofNat n := by
  unfold spB
  rw [ofNat_toNat h]
theorem rblk_high (n : Nat) (h : 33 ≤ n) : rblkB (n : Int) = false := by
  rw [Bool.eq_false_iff]
  intro e
  unfold rblkB at e
  simp only [Bool.or_eq_true, beq_iff_eq] at e
  omega
/-- The bytes of a character that is no blank stay, and none of them is the blank. -/
theorem spB_char {n : Nat} (hm : n ≤ 1114111) (h : blkB (n : Int) = false) : ∀ b ∈ bytesL n, spB b = b ∧ b ≠ 32 := by
  have key : ∀ k : Nat, k < 256 → rblkB (k : Int) = false → spB (UInt8.ofNat k) = UInt8.ofNat k ∧ UInt8.ofNat k ≠ 32 := fun k hk hb => by
    refine ⟨by rw [spB_of k hk, hb]; rfl, fun e => ?_⟩
    have := congrArg UInt8.toNat e
    rw [ofNat_toNat hk] at this
    have h32 : k = 32 := this
    subst h32
    exact absurd hb (by decide)
  rw [blk_eq] at h
  unfold bytesL
  split
  · intro b hb
    rw [List.mem_singleton.1 hb]
    exact key n (by omega) h
  split
  · intro b hb
    rcases List.mem_cons.1 hb with rfl | hb
    · exact key _ (by omega) (rblk_high _ (by omega))
    rw [List.mem_singleton.1 hb]
    exact key _ (by omega) (rblk_high _ (by omega))
  split
  · intro b hb
    rcases List.mem_cons.1 hb with rfl | hb
    · exact key _ (by omega) (rblk_high _ (by omega))
    rcases List.mem_cons.1 hb with rfl | hb
    · exact key _ (by omega) (rblk_high _ (by omega))
    rw [List.mem_singleton.1 hb]
    exact key _ (by omega) (rblk_high _ (by omega))
  · intro b hb
    rcases List.mem_cons.1 hb with rfl | hb
    · exact key _ (by omega) (rblk_high _ (by omega))
    rcases List.mem_cons.1 hb with rfl | hb
    · exact key _ (by omega) (rblk_high _ (by omega))
    rcases List.mem_cons.1 hb with rfl | hb
    · exact key _ (by omega) (rblk_high _ (by omega))
    rw [List.mem_singleton.1 hb]
    exact key _ (by omega) (rblk_high _ (by omega))
theorem blank_byte {n : Nat} (h : blkB (n : Int) = true) : bytesL n = [UInt8.ofNat n] ∧ spB (UInt8.ofNat n) = 32 := by
  have hv := blk_vals h
  have hn : n < 128 := by omega
  rw [blk_eq] at h
  exact ⟨by unfold bytesL; rw [if_pos hn], by rw [spB_of n (by omega), h]; rfl⟩

theorem map_spB : ∀ zs : List Int, zs.all vldB = true → (encAll zs).map spB = encAll (zs.map spb)
  | [], _ => rfl
  | c :: zs, hv => by
    rw [List.all_cons, Bool.and_eq_true] at hv
    obtain ⟨n, rfl, hV, hm⟩ := vld_nat hv.1
    rw [List.map_cons, encAll_cons, encAll_cons, List.map_append, map_spB zs hv.2, Int.toNat_natCast]
    congr 1
    unfold spb
    cases h : blkB (n : Int) with
    | true =>
      obtain ⟨h1, h2⟩ := blank_byte h
      rw [h1, if_pos rfl, List.map_cons, List.map_nil, h2]
      rfl
    | false =>
      rw [if_neg (by decide), Int.toNat_natCast]
      have hk := spB_char hm h
      have : (bytesL n).map spB = (bytesL n).map id := List.map_congr_left (fun b hb => (hk b hb).1)
      rw [this, List.map_id]

/-- Bytes that are no blanks are appended as they are. -/
theorem step_run : ∀ (x out : List UInt8), (∀ b ∈ x, spB b = b ∧ b ≠ 32) → x.foldl sqStep out = out ++ x
  | [], out, _ => by simp
  | b :: x, out, h => by
    obtain ⟨h1, h2⟩ := h b List.mem_cons_self
    rw [List.foldl_cons]
    have : sqStep out b = out ++ [b] := by
      unfold sqStep
      rw [h1, if_neg (fun e => h2 e.1)]
    rw [this, step_run x _ (fun c hc => h c (List.mem_cons_of_mem _ hc)), List.append_assoc]
    rfl

/-- What has been written when these fields are done, and this one is under way. -/
def outOf (fs : List (List Int)) : Option (List Int) → List UInt8
  | none => if fs = [] then [] else encAll (joinZ fs) ++ [32]
  | some cur => encAll (joinZ (fs ++ [cur]))

theorem joinZ_snoc (fs : List (List Int)) (z : List Int) (h : fs ≠ []) : joinZ (fs ++ [z]) = joinZ fs ++ 32 :: z := by
  cases fs with
  | nil => exact absurd rfl h
  | cons x r =>
    show x ++ (r ++ [z]).flatMap (fun y => 32 :: y) = (x ++ r.flatMap fun y => 32 :: y) ++ 32 :: z
    rw [List.flatMap_append, List.append_assoc]
    simp
theorem joinZ_grow (fs : List (List Int)) (cur : List Int) (c : Int) : joinZ (fs ++ [cur ++ [c]]) = joinZ (fs ++ [cur]) ++ [c] := by
  by_cases h : fs = []
  · subst h
    simp [joinZ]
  · rw [joinZ_snoc fs _ h, joinZ_snoc fs _ h]
    simp
theorem last_char {n : Nat} (hm : n ≤ 1114111) (h : blkB (n : Int) = false) (out : List UInt8) : (out ++ bytesL n).getLast? ≠ some 32 := by
  have hp := bytesL_pos n
  have hne : bytesL n ≠ [] := fun e => by rw [e] at hp; simp at hp
  intro e
  rw [List.getLast?_append] at e
  cases hx : (bytesL n).getLast? with
  | none => exact hne (List.getLast?_eq_none_iff.1 hx)
  | some b =>
    rw [hx] at e
    have hb : b = 32 := Option.some.inj e
    exact (spB_char hm h b (List.mem_of_getLast? hx)).2 hb

/-- A field that is under way: it ends in a character that is no blank. -/
def Und : Option (List Int) → Prop
  | none => True
  | some cur => ∃ pre n, cur = pre ++ [((n : Nat) : Int)] ∧ V n ∧ n ≤ 1114111 ∧ blkB ((n : Nat) : Int) = false
theorem out_last {fs : List (List Int)} {cur : List Int} (h : Und (some cur)) : (outOf fs (some cur)).getLast? ≠ some 32 := by
  obtain ⟨pre, n, rfl, hV, hm, hb⟩ := h
  show (encAll (joinZ (fs ++ [pre ++ [(n : Int)]]))).getLast? ≠ some 32
  rw [joinZ_grow, encAll_append]
  have : encAll [(n : Int)] = bytesL n := by simp [encAll]
  rw [this]
  exact last_char hm hb _

theorem sq_fold : ∀ (zs : List Int) (fs : List (List Int)) (st : Option (List Int)), zs.all vldB = true → Und st →
    sqEnd ((encAll zs).foldl sqStep (outOf fs st)) = encAll (joinZ (fs ++ fz pb zs st))
  | [], fs, none, _, _ => by
    show sqEnd (outOf fs none) = encAll (joinZ (fs ++ []))
    rw [List.append_nil]
    unfold outOf sqEnd
    by_cases h : fs = []
    · subst h; rfl
    · simp only [h, if_false]
      rw [if_pos (by simp), List.dropLast_concat]
  | [], fs, some cur, _, hu => by
    show sqEnd (outOf fs (some cur)) = encAll (joinZ (fs ++ [cur]))
    unfold sqEnd
    rw [if_neg (out_last hu)]
    rfl
  | c :: zs, fs, st, hv, hu => by
    rw [List.all_cons, Bool.and_eq_true] at hv
    obtain ⟨n, rfl, hV, hm⟩ := vld_nat hv.1
    rw [encAll_cons, Int.toNat_natCast, List.foldl_append]
    unfold fz
    rw [pb_int]
    cases hb : blkB (n : Int) with
    | true =>
      obtain ⟨h1, h2⟩ := blank_byte hb
      rw [h1, List.foldl_cons, List.foldl_nil, if_pos rfl]
      cases st with
      | none =>
        have hd : outOf fs none = [] ∨ (outOf fs none).getLast? = some 32 := by
          show (if fs = [] then [] else encAll (joinZ fs) ++ [32]) = [] ∨ (if fs = [] then [] else encAll (joinZ fs) ++ [32]).getLast? = some 32
          by_cases h : fs = []
          · exact .inl (by rw [if_pos h])
          · exact .inr (by rw [if_neg h]; simp)
        have hs : sqStep (outOf fs none) (UInt8.ofNat n) = outOf fs none := by
          unfold sqStep
          rw [if_pos ⟨h2, hd⟩]
        rw [hs]
        exact sq_fold zs fs none hv.2 trivial
      | some cur =>
        have hne : outOf fs (some cur) ≠ [] := by
          obtain ⟨pre, m, rfl, _, _, _⟩ := hu
          show encAll (joinZ (fs ++ [pre ++ [(m : Int)]])) ≠ []
          rw [joinZ_grow, encAll_append]
          have hp := bytesL_pos m
          intro e
          have := congrArg List.length e
          simp [encAll] at this
          rw [this.2] at hp
          simp at hp
        have hs : sqStep (outOf fs (some cur)) (UInt8.ofNat n) = outOf (fs ++ [cur]) none := by
          unfold sqStep
          rw [h2, if_neg (fun e => e.2.elim hne (out_last hu))]
          show outOf fs (some cur) ++ [32] = (if fs ++ [cur] = [] then [] else encAll (joinZ (fs ++ [cur])) ++ [32])
          rw [if_neg (by simp)]
          rfl
        rw [hs, sq_fold zs (fs ++ [cur]) none hv.2 trivial, List.append_assoc]
        rfl
    | false =>
      have hk := spB_char hm hb
      rw [step_run _ _ hk, if_neg (by decide)]
      have h1 : encAll [(n : Int)] = bytesL n := by simp [encAll]
      cases st with
      | none =>
        have hs : outOf fs none ++ bytesL n = outOf fs (some [(n : Int)]) := by
          show (if fs = [] then [] else encAll (joinZ fs) ++ [32]) ++ bytesL n = encAll (joinZ (fs ++ [[(n : Int)]]))
          by_cases h : fs = []
          · subst h
            rw [if_pos rfl]
            show bytesL n = encAll ([(n : Int)] ++ [])
            rw [List.append_nil, h1]
          · rw [if_neg h, joinZ_snoc fs _ h, encAll_append, encAll_cons, h1, List.append_assoc]
            rfl
        rw [hs]
        exact sq_fold zs fs (some [(n : Int)]) hv.2 ⟨[], n, rfl, hV, hm, hb⟩
      | some cur =>
        have hs : outOf fs (some cur) ++ bytesL n = outOf fs (some (cur ++ [(n : Int)])) := by
          show encAll (joinZ (fs ++ [cur])) ++ bytesL n = encAll (joinZ (fs ++ [cur ++ [(n : Int)]]))
          rw [joinZ_grow, encAll_append, h1]
        rw [hs]
        exact sq_fold zs fs (some (cur ++ [(n : Int)])) hv.2 ⟨cur, n, rfl, hV, hm, hb⟩

theorem rsq1_eq {l : List UInt8} (hb : decBad l = false) : l.map spB = sq1 l := by
  obtain ⟨t1, t2⟩ := back_text hb
  have h := map_spB (decL l) t2
  rw [t1] at h
  unfold sq1
  rw [hb, h]
  rfl
theorem rsq2_eq {l : List UInt8} (hb : decBad l = false) : sqEnd (l.foldl sqStep []) = sq2 l := by
  obtain ⟨t1, t2⟩ := back_text hb
  have h := sq_fold (decL l) [] none t2 trivial
  rw [t1] at h
  unfold sq2
  rw [hb]
  exact h
end Go.Proofs.YtiefpdoefdldpaaDoor
