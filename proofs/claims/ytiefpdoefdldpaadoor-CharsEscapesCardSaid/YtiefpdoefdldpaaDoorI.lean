/- The reference's Decode, at every string. -/
import Derived.OwnWalk
import Derived.Maps.AppendAt
import Derived.IntWalk
import Derived.Test.YtiefpdoefdldpaaDoorH
import Derived.Test.YtiefpdoefdldpaaDoorD
namespace Go.Proofs.YtiefpdoefdldpaaDoor
open Go.RowKit

theorem info21 : (Tryd.prog.info? 21).map (fun i => (i.zero, i.size, i.bytes)) = some (some (.int .i32 0), 1, 4) := by kernel_rfl

theorem stepR_len {l : List UInt8} {c m : Nat} (h : stepR l = some (c, m)) : m = (bytesL c).length ∧ c ≤ 1114111 := by
  have h0 : l ≠ [] := by
    rintro rfl
    have hf : foundR [] = some 0 := by unfold foundR; simp
    rw [stepR_bad hf (by decide)] at h
    cases h
  refine ⟨?_, ?_⟩
  · unfold stepR at h
    split at h
    · cases h
    · split at h
      · simp only [Option.some.injEq, Prod.mk.injEq] at h
        rw [← h.2, ← h.1]
      · cases h
  · rw [stepR_eq l h0] at h
    exact (stepD_le h).2.2.2.1

/-- What Decode hands back: the characters, in new memory; or none, and the place where none stands. -/
def DecPost (l : List UInt8) (w : World) (e : Ending) (w' : World) : Prop :=
  ((∃ (pre : List (Nat × Int)) (i : Nat), charsOf l = pre ++ [(i, -1)] ∧ (∀ x ∈ pre, x.2 ≠ -1) ∧ i ≤ l.length ∧ e = .returned (.tuple #[.slice none 0 0, .int .i64 (i : Int), .int .i64 6])) ∨
   ((∀ x ∈ charsOf l, x.2 ≠ -1) ∧ ∃ v, e = .returned (.tuple #[v, .int .i64 0, .int .i64 0]) ∧ w'.ownsRow w.heap.size 21 1 v (charsOf l).length ((charsOf l).map fun x => .int .i32 x.2))) ∧ Below w.heap.size w w'

set_option maxRecDepth 100000 in
set_option maxHeartbeats 1000000 in
theorem rdecode_any (s : ByteArray) (hs : s.size ≤ 100000) (w : World) : Calls Tryd.prog 19 #[.string s] w (DecPost s.data.toList w) := by
  obtain ⟨L, hL⟩ : ∃ L, s.data.toList = L := ⟨_, rfl⟩
  have hLs : s.size = L.length := by rw [← hL]; simp
  rw [hL]
  obtain ⟨i0, hi, hz0, hz1, hz2⟩ := info_parts info21
  have HL := Lib.hid hL
  have HLs := Lib.hid hLs
  have Hi := Lib.hid hi
  have Hz0 := Lib.hid hz0
  have Hz1 := Lib.hid hz1
  have Hz2 := Lib.hid hz2
  clear hL hLs hi hz0 hz1 hz2
  go_enter Tryd.func19, Tryd.ntmps19
  go_wp2
  go_loopw [5, 6] (fun v iv wr => ∃ (k f : Nat) (pre : List (Nat × Int)), k ≤ s.size ∧ iv = .int .i64 (k : Int) ∧ Hid (charsOf L = pre ++ charsGo f k (L.drop k)) ∧ (L.drop k).length ≤ f ∧ Hid (∀ x ∈ pre, x.2 ≠ -1) ∧ pre.length ≤ k ∧
      wr.ownsRow w.heap.size 21 1 v pre.length (pre.map fun x => .int .i32 x.2) ∧ Below w.heap.size w wr)
    (fun _ iv _ => s.size - (intOf iv).toNat)
  case atStart => exact ⟨0, L.length, [], Nat.zero_le _, rfl, rfl, by simp, fun x hx => by simp at hx, by simp, World.ownsRow_nil _ _ _ _, Below.refl _ _⟩
  case round =>
    obtain ⟨k, f, pre, hk, rfl, HC, hf, HG, hpk, hown, hb⟩ := hrel
    by_cases hlt : k < s.size
    · have hne : L.drop k ≠ [] := by
        intro e
        have h1 := congrArg List.length e
        have h2 := HLs.out
        simp at h1
        omega
      have hes : (s.extract k s.size).data.toList = L.drop k := by rw [Lib.extract_to_end, HL.out]
      have hez : (s.extract k s.size).size = s.size - k := by simp
      have cN : ∀ X : World, Calls Tryd.prog 32 #[.string (s.extract k s.size)] X (NextPost (L.drop k) X) := fun X => by
        have h := next_any (s.extract k s.size) (by unfold maxLen; omega) (by omega) X
        rw [hes] at h
        exact h
      clear hes hez
      cases f with
      | zero => exact absurd (List.eq_nil_of_length_eq_zero (Nat.le_zero.1 hf)) hne
      | succ f =>
      cases hst : stepR (L.drop k) with
      | none =>
        have hCC : charsOf L = pre ++ [(k, -1)] := by rw [HC.out]; simp [charsGo, hne, (stepR_eq _ hne).symm.trans hst]
        have cN2 : ∀ X : World, Calls Tryd.prog 32 #[.string (s.extract k s.size)] X fun e w' => ∃ v : Int, e = .returned (.tuple #[.int .i32 v, .bool false]) ∧ Below X.heap.size X w' := fun X => (cN X).mono fun e w' h => by
          unfold NextPost at h
          rw [hst] at h
          exact ⟨h.1.choose, h.1.choose_spec, h.2⟩
        have HCC := Lib.hid hCC
        clear hCC HC cN hst
        go_wp2_with (go_at_call 32; refine (cN2 _).mono ?_; rintro e w1 ⟨v1, rfl, hb1⟩)
        go_ret3
        exact ⟨.inl ⟨pre, k, HCC.out, HG.out, by rw [← HLs.out]; exact hk, rfl⟩, hb.trans (hb1.mono hb.size)⟩
      | some cm =>
        obtain ⟨c, m⟩ := cm
        have hst' := (stepR_eq _ hne).symm.trans hst
        have hmb := stepD_le hst'
        have hml := stepR_len hst
        have hCC : charsOf L = (pre ++ [(k, (c : Int))]) ++ charsGo f (k + m) (L.drop (k + m)) := by rw [HC.out]; simp [charsGo, hne, hst', List.drop_drop]
        have cN2 : ∀ X : World, Calls Tryd.prog 32 #[.string (s.extract k s.size)] X fun e w' => e = .returned (.tuple #[.int .i32 (c : Int), .bool true]) ∧ Below X.heap.size X w' := fun X => (cN X).mono fun e w' h => by
          unfold NextPost at h
          rw [hst] at h
          exact h
        obtain ⟨B, hB⟩ : ∃ B, ByteArray.mk (bytesL c).toArray = B := ⟨_, rfl⟩
        have hBm : B.size = m := by rw [← hB, hml.1]; simp [ByteArray.size]
        have cB : ∀ X : World, Calls Tryd.prog 33 #[.int .i32 (c : Int)] X fun e w' => e = .returned (.string B) ∧ Below X.heap.size X w' := fun X => by
          rw [← hB]
          exact bytes_any c hml.2 X
        have hgood : ∀ x ∈ pre ++ [(k, (c : Int))], x.2 ≠ -1 := fun x hx => by
          rcases List.mem_append.1 hx with h | h
          · exact HG.out x h
          · simp at h
            subst h
            show (c : Int) ≠ -1
            omega
        have hmk : k + m ≤ s.size := by
          have h1 := hmb.2.2.1
          have h2 := HLs.out
          simp at h1
          omega
        have hm1 := hmb.1
        have hm4 := hmb.2.1
        have hfm : (L.drop (k + m)).length ≤ f := by
          simp at hf ⊢
          omega
        have HCC := Lib.hid hCC
        have HGG := Lib.hid hgood
        have HBm := Lib.hid hBm
        have hBle : B.size ≤ 4 := by omega
        have hB1 : 1 ≤ B.size := by omega
        have h63 : pre.length + 1 ≤ maxLen := by unfold maxLen; omega
        have h47 : (pre.length + 1) * 4 ≤ 140737488355328 := by omega
        clear hCC HC HG cN hst hst' hgood hml hmb hB hBm
        go_wp2_with (first
          | (go_at_call 32; refine (cN2 _).mono ?_; rintro e w1 ⟨rfl, hb1⟩)
          | (go_at_call 33; refine (cB _).mono ?_; rintro e w2 ⟨rfl, hb2⟩)
          | (at_builtin; refine wpList_append_own _ rfl _ _ 26 rfl w.heap.size 21 i0 (.int .i32 0) 1 4 Tryd.underlying26 Hi.out Hz0.out Hz1.out Hz2.out rfl (by decide) _ pre.length (pre.map fun x => .int .i32 x.2) rfl ((own_below hown hb1).alloc _) ⟨w1.heap.size, 0, none⟩ 1 1 [.int .i32 (c : Int)] rfl rfl (cell_one_new _ _ _) (by simp [Value.oneCell']) h63 h47 (by have h1 := hb.size; have h2 := hb1.size; simp; omega) ?_; intro v' w3 hown3 hg3 _))
        have hbz : Below w.heap.size w w1 := hb.trans (hb1.mono hb.size)
        have hb3 : Below w.heap.size w w3 := (hbz.alloc hbz.size _).grown hg3 (Nat.le_trans hbz.size (by simp)) (fun j e => (hown.lt j e).1)
        have hown4 : w2.ownsRow w.heap.size 21 1 v' (pre ++ [(k, (c : Int))]).length ((pre ++ [(k, (c : Int))]).map fun x => .int .i32 x.2) := by
          have h := own_below hown3 hb2
          rw [List.length_append, List.map_append]
          exact h
        have hgn : Value.int .i64 ((k : Int) + (B.size : Int)) = Value.int .i64 ((k + m : Nat) : Int) := by rw [HBm.out, Int.natCast_add]
        refine ⟨⟨k + m, f, pre ++ [(k, (c : Int))], hmk, hgn, HCC.out, hfm, HGG.out, by simp; omega, hown4, hb3.trans (hb2.mono hb3.size)⟩, ?_⟩
        rw [hgn]
        simp only [intOf, Int.toNat_natCast]
        omega
    · have hke : k = s.size := by omega
      have hnil : L.drop k = [] := by
        have h2 := HLs.out
        exact List.drop_eq_nil_of_le (by omega)
      have hCC : charsOf L = pre := by
        rw [HC.out, hnil]
        cases f <;> simp [charsGo]
      subst hke
      have HCC := Lib.hid hCC
      clear hCC hnil HC
      go_wp2
      go_ret3
      refine ⟨.inr ⟨?_, _, rfl, ?_⟩, hb⟩
      · rw [HCC.out]
        exact HG.out
      · rw [HCC.out]
        exact hown
end Go.Proofs.YtiefpdoefdldpaaDoor
