/- Squeeze where it shortens; and the examples that a statement shows. -/
import Derived.Test.YtiefpdoefdldpaaDoorR
namespace Go.Proofs.YtiefpdoefdldpaaDoor
open Go.RowKit

theorem blank_pred (w : World) (hT : Tabs w) : PredGrows Tryd.prog 10 #[] (fun x => blkB x) w := by
  intro W x hx hb
  have h := blank_any x W (hT.below hb hT.size).ran
  exact h

set_option maxRecDepth 100000 in
set_option maxHeartbeats 2000000 in
theorem squeeze_two (s : ByteArray) (w : World) (hs : s.size ≤ 100000) (hT : Tabs w) (hbad : badB s.data.toList = false)
    (hlen : (Lib.join ((Lib.goFieldsP (fun x => blkB x) s).map (·.data.toList)) [32]).length ≤ 140737488355328) (hn : (Lib.goFieldsP (fun x => blkB x) s).length ≤ 100000) :
    Calls Tryd.prog 27 #[.string s, .int .i64 2] w fun e w' => e = .returned (.tuple #[.string ⟨(Lib.join ((Lib.goFieldsP (fun x => blkB x) s).map (·.data.toList)) [32]).toArray⟩, .int .i64 0]) ∧ Below w.heap.size w w' := by
  have hsz := hT.size
  have hmax : s.size ≤ maxLen := by unfold maxLen; omega
  have cF := firstWrong_any s w hmax hT
  rw [hbad] at cF
  generalize badI s.data.toList = bi at cF
  have cP := fun W (h : Below w.heap.size w W) => Tryd.strings_FieldsFunc_grows 10 #[] (enters_of Tryd.func10 (by kernel_rfl) rfl) (fun x => blkB x) s W (by omega) (blank_pred W (hT.below h hsz))
  generalize Lib.goFieldsP (fun x => blkB x) s = xs at cP hlen hn ⊢
  have cJ := fun (A : Nat) (W : World) (hc : ∀ (j : Nat) x, xs[j]? = some x → W.cell? ⟨A, 0 + j, none⟩ = some (.string x)) (hA : A < W.heap.size) => Tryd.strings_Join A 0 xs.length xs ⟨#[32]⟩ W hc hA (by omega) (Nat.le_refl _) hlen
  have HJ : Hid (∀ q, ByteArray.mk (Lib.join (xs.map (·.data.toList)) ((ByteArray.mk #[32]).data.toList)).toArray = q → ByteArray.mk (Lib.join (xs.map (·.data.toList)) [32]).toArray = q) := fun q h => h
  obtain ⟨R, hR⟩ : ∃ R, ByteArray.mk (Lib.join (xs.map (·.data.toList)) ((ByteArray.mk #[32]).data.toList)).toArray = R := ⟨_, rfl⟩
  rw [HJ.out R hR]
  rw [hR] at cJ
  clear HJ hR hlen hbad
  have hxl : xs.length < 1000000 := by omega
  clear hn
  go_enter Tryd.func27, Tryd.ntmps27
  go_wp2_with (first | (go_at_call 40; refine cF.mono ?_; rintro e w1 ⟨rfl, hb1⟩; have cP1 := cP w1 hb1) | (go_at_call 48; refine cP1.mono ?_; rintro e w2 ⟨A, rfl, hA, hown, hb2⟩) | fail)
  have hcells : ∀ (j : Nat) x, xs[j]? = some x → w2.cell? ⟨A, 0 + j, none⟩ = some (.string x) := fun j x hj => by
    have h := hown.cells rfl j (.string x) (by simp [hj])
    have ha : (⟨A, 0, none⟩ : Addr).add j = ⟨A, 0 + j, none⟩ := by unfold Addr.add; split <;> simp_all
    rw [ha] at h
    exact h
  have hAl : A < w2.heap.size := by
    rcases hown.2 with ⟨h, _⟩ | ⟨g, cap, cur, h, _, hg, _⟩
    · cases h
    · have hgA : A = g := by
        simp only [Value.slice.injEq, Option.some.injEq, Addr.mk.injEq] at h
        exact h.1.1
      rw [hgA]
      exact (Array.getElem?_eq_some_iff.1 hg).1
  refine (cJ A w2 hcells hAl).mono ?_
  rintro e w3 ⟨rfl, hb3⟩
  have HB := Lib.hid (hb1.trans ((hb2.mono hb1.size).trans (hb3.mono (Nat.le_trans hb1.size hb2.size))))
  clear hcells hown cP cP1 cJ hb1 hb2 hb3
  go_wp2
  go_ret2
  exact ⟨rfl, HB.out⟩

theorem squeeze_ex (w : World) (hT : Tabs w) : Calls Tryd.prog 27 #[.string ⟨#[32, 32, 97, 9, 98]⟩, .int .i64 2] w fun e w' => e = .returned (.tuple #[.string ⟨#[97, 32, 98]⟩, .int .i64 0]) ∧ Below w.heap.size w w' :=
  squeeze_two ⟨#[32, 32, 97, 9, 98]⟩ w (by decide) hT (by kernel_rfl) (of_decide_eq_true (by kernel_rfl)) (of_decide_eq_true (by kernel_rfl))

theorem cells_i32 {w : World} {B A n c : Nat} {xs : List Int} (hown : w.ownsRow B 21 1 (.slice (some ⟨A, 0, none⟩) n c) n (xs.map fun x => .int .i32 x)) : ∀ (j : Nat) (x : Int), xs[j]? = some x → w.cell? ⟨A, j, none⟩ = some (.int .i32 x) := fun j x hj => by
  have h := hown.cells rfl j (.int .i32 x) (by simp [hj])
  have ha : (⟨A, 0, none⟩ : Addr).add j = ⟨A, j, none⟩ := by unfold Addr.add; split <;> simp_all
  rw [ha] at h
  exact h

set_option maxHeartbeats 2000000 in
theorem same_any (xs : List Int) (A c A' c' : Nat) (w : World) (hn : xs.length ≤ 1000000) (hx : ∀ (j : Nat) (x : Int), xs[j]? = some x → w.cell? ⟨A, j, none⟩ = some (.int .i32 x)) (hy : ∀ (j : Nat) (x : Int), xs[j]? = some x → w.cell? ⟨A', j, none⟩ = some (.int .i32 x)) :
    Calls Tryd.prog 22 #[.slice (some ⟨A, 0, none⟩) xs.length c, .slice (some ⟨A', 0, none⟩) xs.length c'] w fun e w' => e = .returned (.bool true) ∧ Below w.heap.size w w' := by
  have HX := Lib.hid hx
  have HY := Lib.hid hy
  clear hx hy
  go_enter Tryd.func22, Tryd.ntmps22
  go_wp2
  go_loopw [5] (fun iv wr => ∃ (k q : Nat), iv = .int .i64 (k : Int) ∧ k ≤ xs.length ∧ wr = w.drewN q) (fun iv _ => xs.length - (intOf iv).toNat)
  case atStart => exact ⟨0, 0, rfl, by omega, rfl⟩
  case round =>
    obtain ⟨k, q, rfl, hk, rfl⟩ := hrel
    by_cases hlt : k < xs.length
    · have e1 := HX.out k (xs[k]'hlt) (List.getElem?_eq_getElem hlt)
      have e2 := HY.out k (xs[k]'hlt) (List.getElem?_eq_getElem hlt)
      generalize xs[k]'hlt = x at e1 e2
      go_wp2_with (go_quiet (fail))
      exact ⟨⟨k + 1, _, by go_num, by omega, rfl⟩, by simp [intOf]; omega⟩
    · obtain rfl : k = xs.length := by omega
      go_wp2
      go_ret
      exact ⟨rfl, below_drewNx (Below.refl _ _) q⟩

/-! ### what a statement shows -/
theorem chars_ex1 : charsOf [97, 195, 164] = [(0, 97), (1, 228)] := by kernel_rfl
theorem chars_ex2 : charsOf [97, 192, 128] = [(0, 97), (1, -1)] := by kernel_rfl
theorem chars_ex3 : charsOf [97, 60, 98, 34, 99] = [(0, 97), (1, 60), (2, 98), (3, 34), (4, 99)] := by kernel_rfl

theorem decode_ex1 (w : World) (hT : Tabs w) : Calls Tryd.prog 18 #[.string ⟨#[97, 195, 164]⟩] w fun e w' => ∃ A c, e = .returned (.tuple #[.slice (some ⟨A, 0, none⟩) 2 c, .int .i64 0, .int .i64 0]) ∧ A < w'.heap.size ∧ w'.cell? ⟨A, 0, none⟩ = some (.int .i32 97) ∧ w'.cell? ⟨A, 1, none⟩ = some (.int .i32 228) ∧ Below w.heap.size w w' := by
  refine (decode_any ⟨#[97, 195, 164]⟩ w (by decide) hT).mono ?_
  rintro e w' ⟨h, hb⟩
  rw [show (ByteArray.mk #[97, 195, 164]).data.toList = [97, 195, 164] from rfl, chars_ex1] at h
  rcases h with ⟨pre, i, h, _⟩ | ⟨_, v, rfl, hown⟩
  · exfalso
    have h1 := congrArg List.getLast? h
    simp at h1
  · have hform := hown
    obtain ⟨_, hv | hv⟩ := hform
    · exact absurd hv.2 (by simp)
    obtain ⟨g, cap, cur, rfl, _, hg, hcap, _, _, _⟩ := hv
    have hown2 : w'.ownsRow w.heap.size 21 1 (.slice (some ⟨g, 0, none⟩) 2 cap) 2 (([97, 228] : List Int).map fun x => .int .i32 x) := hown
    have hc := cells_i32 hown2
    exact ⟨g, cap, rfl, (Array.getElem?_eq_some_iff.1 hg).1, hc 0 97 rfl, hc 1 228 rfl, hb⟩
theorem decode_ex2 (w : World) (hT : Tabs w) : Calls Tryd.prog 18 #[.string ⟨#[97, 192, 128]⟩] w fun e w' => e = .returned (.tuple #[.slice none 0 0, .int .i64 1, .int .i64 6]) ∧ Below w.heap.size w w' := by
  refine (decode_any ⟨#[97, 192, 128]⟩ w (by decide) hT).mono ?_
  rintro e w' ⟨h, hb⟩
  rw [show (ByteArray.mk #[97, 192, 128]).data.toList = [97, 192, 128] from rfl, chars_ex2] at h
  rcases h with ⟨pre, i, h, _, _, rfl⟩ | ⟨h, _⟩
  · have h1 := congrArg List.getLast? h
    simp at h1
    exact ⟨by rw [← h1]; rfl, hb⟩
  · exact absurd rfl (h (1, -1) (by simp))
theorem escape_ex (w : World) (hT : Tabs w) : Calls Tryd.prog 23 #[.string ⟨#[97, 60, 98, 34, 99]⟩, .bool true] w fun e w' => e = .returned (.tuple #[.string ⟨#[97, 38, 108, 116, 59, 98, 38, 113, 117, 111, 116, 59, 99]⟩, .int .i64 0]) ∧ Below w.heap.size w w' := by
  refine (escape_any ⟨#[97, 60, 98, 34, 99]⟩ true w (by decide) hT).mono ?_
  rintro e w' ⟨h, hb⟩
  rw [show (ByteArray.mk #[97, 60, 98, 34, 99]).data.toList = [97, 60, 98, 34, 99] from rfl, chars_ex3] at h
  rcases h with ⟨⟨x, hx, h⟩, _⟩ | ⟨_, rfl⟩
  · exfalso
    simp at hx
    rcases hx with rfl | rfl | rfl | rfl | rfl <;> simp at h
  · exact ⟨by kernel_rfl, hb⟩
theorem local_ex1 (w : World) (hT : Tabs w) : Calls Tryd.prog 16 #[.string ⟨#[97, 45, 49]⟩] w fun e w' => e = .returned (.bool true) ∧ Below w.heap.size w w' := local_any ⟨#[97, 45, 49]⟩ w (by decide) hT
theorem local_ex2 (w : World) (hT : Tabs w) : Calls Tryd.prog 16 #[.string ⟨#[45, 97]⟩] w fun e w' => e = .returned (.bool false) ∧ Below w.heap.size w w' := local_any ⟨#[45, 97]⟩ w (by decide) hT
end Go.Proofs.YtiefpdoefdldpaaDoor
