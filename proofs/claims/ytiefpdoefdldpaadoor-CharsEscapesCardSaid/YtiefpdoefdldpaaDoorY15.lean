/- The character of an escape, at every word. -/
import Derived.Test.YtiefpdoefdldpaaDoorY14
import Derived.Test.YtiefpdoefdldpaaDoorY3
import Derived.Test.YtiefpdoefdldpaaDoorQ
namespace Go.Proofs.YtiefpdoefdldpaaDoor
open Go.RowKit

/-- The library's two errors are there. -/
structure Errs (w : World) : Prop where
  e4 : ∃ ev, w.cell? ⟨4, 0, none⟩ = some ev ∧ (ev = .nilIface ∨ ∃ te pe, ev = .iface te pe)
  e5 : ∃ ev, w.cell? ⟨5, 0, none⟩ = some ev ∧ (ev = .nilIface ∨ ∃ te pe, ev = .iface te pe)
theorem Errs.below {w w' : World} {B : Nat} (h : Errs w) (hb : Below B w w') (hB : 9 ≤ B) : Errs w' := by
  obtain ⟨⟨ev, h1, h2⟩, ⟨ev', h3, h4⟩⟩ := h
  exact ⟨⟨ev, (hb.cell (show 4 < B by omega)).trans h1, h2⟩, ⟨ev', (hb.cell (show 5 < B by omega)).trans h3, h4⟩⟩

def UiPost (r : Option Nat) (w : World) (e : Ending) (w' : World) : Prop :=
  (match r with
    | some n => e = .returned (.tuple #[.int .u64 (n : Int), .nilIface])
    | none => ∃ (x : Int) (N : Nat), e = .returned (.tuple #[.int .u64 x, .iface 112 (.pointer (some ⟨N, 0, none⟩))])) ∧ Below w.heap.size w w'

set_option maxRecDepth 100000 in
/-- The empty text is an error. -/
theorem pu_empty (b : Int) (w : World) : Calls Tryd.prog 74 #[.string ⟨#[]⟩, .int .i64 b, .int .i64 31] w (PuPost none w) := by
  go_enter Tryd.func74, Tryd.ntmps74
  go_wp2
  go_ret2
  exact PuPost.err rfl (.inr rfl) (Below.refl _ _)

set_option maxRecDepth 100000 in
set_option maxHeartbeats 2000000 in
theorem uint_of (t : ByteArray) (b : Int) (r : Option Nat) (hmax : t.size ≤ 1000) (w : World) (hE : Errs w) (hsz : 9 ≤ w.heap.size) (cP : Calls Tryd.prog 74 #[.string t, .int .i64 b, .int .i64 31] w (PuPost r w)) :
    Calls Tryd.prog 67 #[.string t, .int .i64 b, .int .i64 31] w (UiPost r w) := by
  have hlim : t.size ≤ 281474976710656 := by omega
  cases r with
  | some n =>
    clear hmax hlim hE
    go_enter Tryd.func67, Tryd.ntmps67
    go_wp2_with (go_at_call 74; refine cP.mono ?_; rintro e w' ⟨rfl, hb⟩)
    go_ret2
    exact ⟨rfl, hb⟩
  | none =>
    clear hmax
    go_enter Tryd.func67, Tryd.ntmps67
    go_wp2_with fail
    refine cP.mono ?_
    rintro e w1 ⟨⟨x, y, hy, rfl⟩, hb⟩
    have hE1 := hE.below hb hsz
    clear hE cP
    obtain ⟨⟨ev, h1, h2⟩, ⟨ev', h3, h4⟩⟩ := hE1
    rcases hy with rfl | rfl
    · have cT := fun fn => Tryd.strconv_toError_range fn t b 31 ev' w1 hlim h3 h4
      clear h1 h2 h3 h4
      go_wp2_with fail
      refine (cT _).mono ?_
      rintro e w2 ⟨N, rfl, _, _, hb2⟩
      go_wp2
      go_ret2
      exact ⟨⟨x, N, rfl⟩, hb.trans (hb2.mono hb.size)⟩
    · have cT := fun fn => Tryd.strconv_toError_syntax fn t b 31 ev w1 hlim h1 h2
      clear h1 h2 h3 h4
      go_wp2_with fail
      refine (cT _).mono ?_
      rintro e w2 ⟨N, rfl, _, _, hb2⟩
      go_wp2
      go_ret2
      exact ⟨⟨x, N, rfl⟩, hb.trans (hb2.mono hb.size)⟩

/-- The number of an escape: the character, or -1. -/
def numE (b : Nat) (d : List UInt8) : Int :=
  if d = [] ∨ 20 < d.length then -1 else match pu b 0 d with
    | none => -1
    | some n => if vldB (n : Int) then (n : Int) else -1
theorem pu_le (b : Nat) : ∀ (l : List UInt8) (acc n : Nat), acc ≤ 2147483647 → pu b acc l = some n → n ≤ 2147483647
  | [], acc, n, ha, h => by
    simp only [pu, Option.some.injEq] at h
    omega
  | c :: l, acc, n, ha, h => by
    simp only [pu] at h
    split at h
    · cases h
    · rename_i d _
      split at h
      · cases h
      · rename_i hno
        exact pu_le b l _ n (by omega) h

set_option maxRecDepth 100000 in
set_option maxHeartbeats 2000000 in
theorem numbered_any (bn : Nat) (hbn : bn = 10 ∨ bn = 16) (t : ByteArray) (hmax : t.size ≤ maxLen) (w : World) (hT : Tabs w) (hE : Errs w) :
    Calls Tryd.prog 56 #[.string t, .int .i64 (bn : Int)] w fun e w' => e = .returned (.int .i32 (numE bn t.data.toList)) ∧ Below w.heap.size w w' := by
  have hl : t.data.toList.length = t.size := by simp
  unfold maxLen at hmax
  by_cases h20 : 20 < t.size
  · have hr : numE bn t.data.toList = -1 := by unfold numE; rw [if_pos (.inr (by omega))]
    rw [hr]
    have hlen : (20 : Int) < (t.size : Int) := by omega
    clear hr h20 hl hbn hE hT
    go_enter Tryd.func56, Tryd.ntmps56
    go_wp2
    go_ret
    exact ⟨rfl, Below.refl _ _⟩
  have hlen : ¬ ((20 : Int) < (t.size : Int)) := by omega
  have hsz := hT.size
  by_cases hemp : t.size = 0
  · have ht : t = ⟨#[]⟩ := by
      apply bytes_ext
      exact List.eq_nil_of_length_eq_zero (by rw [hl, hemp])
    subst ht
    have hr : numE bn ((ByteArray.mk #[]).data.toList) = -1 := by unfold numE; rw [if_pos (.inl rfl)]
    rw [hr]
    have cU := uint_of ⟨#[]⟩ (bn : Int) none (by decide) w hE hsz (pu_empty (bn : Int) w)
    generalize (bn : Int) = b at cU ⊢
    clear hr hemp hl hbn hE hT h20 hlen
    go_enter Tryd.func56, Tryd.ntmps56
    go_wp2_with (go_at_call 67; refine cU.mono ?_; rintro e w1 ⟨⟨x, N, rfl⟩, hb⟩)
    go_ret
    exact ⟨rfl, hb⟩
  have cP : Calls Tryd.prog 74 #[.string t, .int .i64 (bn : Int), .int .i64 31] w (PuPost (pu bn 0 t.data.toList) w) := by
    rcases hbn with rfl | rfl
    · exact pu_10 t hemp (by omega) w
    · exact pu_16 t hemp (by omega) w
  have hne : ¬ (t.data.toList = [] ∨ 20 < t.data.toList.length) := by
    rintro (h | h)
    · rw [h] at hl
      exact hemp hl.symm
    · omega
  have cU := uint_of t (bn : Int) _ (by omega) w hE hsz cP
  unfold numE
  rw [if_neg hne]
  have hle := pu_le bn t.data.toList 0
  cases hpu : pu bn 0 t.data.toList with
  | none =>
    rw [hpu] at cU
    clear hpu hle cP hne hemp hl hbn hE hT h20
    generalize (bn : Int) = b at cU ⊢
    go_enter Tryd.func56, Tryd.ntmps56
    go_wp2_with (go_at_call 67; refine cU.mono ?_; rintro e w1 ⟨⟨x, N, rfl⟩, hb⟩)
    go_ret
    exact ⟨rfl, hb⟩
  | some n =>
    rw [hpu] at cU
    exact numbered_of (bn : Int) t n (by omega) (hle n (by omega) hpu) w hT cU
end Go.Proofs.YtiefpdoefdldpaaDoor
