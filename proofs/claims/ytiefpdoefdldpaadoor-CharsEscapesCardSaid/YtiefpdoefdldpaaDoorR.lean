/- The examples of Unescape, Escape, Decode and Local that a statement shows. -/
import Derived.Test.YtiefpdoefdldpaaDoorQ
import Derived.Test.YtiefpdoefdldpaaDoorL
import Derived.Test.YtiefpdoefdldpaaDoorE
namespace Go.Proofs.YtiefpdoefdldpaaDoor
open Go.RowKit

def exE (l : List UInt8) : Int := if l = [108, 116] then 60 else if l = [35, 54, 53] then 65 else if l = [35, 120, 52, 50] then 66 else -1
def exOk (l : List UInt8) : Bool := decide (l = [108, 116]) || (decide (l = [35, 54, 53]) || (decide (l = [35, 120, 52, 50]) || decide (l = [98])))
theorem exE_val (l : List UInt8) : exE l = -1 ∨ ∃ c : Nat, exE l = (c : Int) ∧ V c ∧ c ≤ 1114111 := by
  unfold exE
  split
  · exact .inr ⟨60, rfl, by decide, by decide⟩
  split
  · exact .inr ⟨65, rfl, by decide, by decide⟩
  split
  · exact .inr ⟨66, rfl, by decide, by decide⟩
  · exact .inl rfl
theorem bytes_ext {a b : ByteArray} (h : a.data.toList = b.data.toList) : a = b := by
  cases a; cases b
  simp at h
  rw [h]
theorem exKn : Kn exE exOk := by
  intro wd b n W hT hown hok
  unfold exOk at hok
  rw [Bool.or_eq_true, Bool.or_eq_true, Bool.or_eq_true, decide_eq_true_eq, decide_eq_true_eq, decide_eq_true_eq, decide_eq_true_eq] at hok
  have same : ∀ {c : Int}, (Calls Tryd.prog 43 #[.string wd, .map (some b)] W fun e W' => e = .returned (.int .i32 c) ∧ W' = W) → (Calls Tryd.prog 43 #[.string wd, .map (some b)] W fun e W' => e = .returned (.int .i32 c) ∧ Below W.heap.size W W') :=
    fun h => h.mono (by rintro e w' ⟨rfl, rfl⟩; exact ⟨rfl, Below.refl _ _⟩)
  rcases hok with h | h | h | h
  · rw [show exE wd.data.toList = 60 by rw [h]; rfl]
    obtain rfl : wd = ⟨#[108, 116]⟩ := bytes_ext h
    exact same (esc_lt b n W hown)
  · rw [show exE wd.data.toList = 65 by rw [h]; rfl]
    obtain rfl : wd = ⟨#[35, 54, 53]⟩ := bytes_ext h
    exact esc_65 b n W hT hown
  · rw [show exE wd.data.toList = 66 by rw [h]; rfl]
    obtain rfl : wd = ⟨#[35, 120, 52, 50]⟩ := bytes_ext h
    exact esc_42 b n W hT hown
  · rw [show exE wd.data.toList = -1 by rw [h]; rfl]
    obtain rfl : wd = ⟨#[98]⟩ := bytes_ext h
    exact same (esc_b b n W hown)

/-- "&lt;&#65;&#x42;" -/
theorem unescape_1 (w : World) (hT : Tabs w) : Calls Tryd.prog 25 #[.string ⟨#[38, 108, 116, 59, 38, 35, 54, 53, 59, 38, 35, 120, 52, 50, 59]⟩] w fun e w' => e = .returned (.tuple #[.string ⟨#[60, 65, 66]⟩, .int .i64 0, .int .i64 0]) ∧ Below w.heap.size w w' :=
  unescape_of exE exOk exE_val exKn ⟨#[38, 108, 116, 59, 38, 35, 54, 53, 59, 38, 35, 120, 52, 50, 59]⟩ w (by decide) hT (by kernel_rfl)
/-- "a&b;" -/
theorem unescape_2 (w : World) (hT : Tabs w) : Calls Tryd.prog 25 #[.string ⟨#[97, 38, 98, 59]⟩] w fun e w' => e = .returned (.tuple #[.string ⟨#[]⟩, .int .i64 1, .int .i64 6]) ∧ Below w.heap.size w w' :=
  unescape_of exE exOk exE_val exKn ⟨#[97, 38, 98, 59]⟩ w (by decide) hT (by kernel_rfl)
end Go.Proofs.YtiefpdoefdldpaaDoor
