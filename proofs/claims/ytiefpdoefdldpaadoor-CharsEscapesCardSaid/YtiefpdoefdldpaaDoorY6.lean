/- The parts of the law of P2.6: what Escape writes, Unescape reads; equal lists wherever they lie. -/
import Derived.Test.YtiefpdoefdldpaaDoorY5
namespace Go.Proofs.YtiefpdoefdldpaaDoor
open Go.RowKit

theorem esc_ascii (attr : Bool) (c : Int) (lit : List UInt8) (h : escL attr c = some lit) : encAll (lit.map fun b => (b.toNat : Int)) = lit ∧ (lit.map fun b => (b.toNat : Int)).all vldB = true := by
  unfold escL at h
  split at h
  · cases h; exact ⟨by decide, by decide⟩
  split at h
  · cases h; exact ⟨by decide, by decide⟩
  split at h
  · cases h; exact ⟨by decide, by decide⟩
  split at h
  · cases h; exact ⟨by decide, by decide⟩
  split at h
  · cases h; exact ⟨by decide, by decide⟩
  split at h
  · cases h; exact ⟨by decide, by decide⟩
  split at h
  · cases h; exact ⟨by decide, by decide⟩
  · cases h
theorem esc_text (attr : Bool) : ∀ zs : List Int, zs.all vldB = true → ∃ ys : List Int, escAll attr zs = encAll ys ∧ ys.all vldB = true
  | [], _ => ⟨[], rfl, rfl⟩
  | c :: zs, hv => by
    rw [List.all_cons, Bool.and_eq_true] at hv
    obtain ⟨ys, h1, h2⟩ := esc_text attr zs hv.2
    rw [escAll_cons, h1]
    cases hl : escL attr c with
    | none =>
      have he : encB attr c = bytesL c.toNat := by unfold encB; rw [hl]; rfl
      exact ⟨c :: ys, by rw [he, encAll_cons], by rw [List.all_cons, hv.1, h2]; rfl⟩
    | some lit =>
      have he : encB attr c = lit := by unfold encB; rw [hl]; rfl
      obtain ⟨h3, h4⟩ := esc_ascii attr c lit hl
      exact ⟨(lit.map fun b => (b.toNat : Int)) ++ ys, by rw [he, encAll_append, h3], by rw [List.all_append, h4, h2]; rfl⟩
theorem escAll_len (attr : Bool) : ∀ zs : List Int, (escAll attr zs).length ≤ 6 * zs.length
  | [] => by simp [escAll]
  | c :: zs => by
    have h := escAll_len attr zs
    have h1 := encB_len attr c
    rw [escAll_cons, List.length_append, List.length_cons]
    omega

def escS (attr : Bool) (l : List UInt8) : ByteArray := if decBad l then ⟨#[]⟩ else ⟨(escAll attr (decL l)).toArray⟩
theorem esc_form {attr : Bool} {l : List UInt8} {w : World} {e : Ending} {w' : World} (h : EscPost attr l w e w') :
    e = .returned (.tuple #[.string (escS attr l), .int .i64 (sqQ l)]) ∧ Below w.heap.size w w' := by
  obtain ⟨h, hb⟩ := h
  refine ⟨?_, hb⟩
  rcases h with ⟨⟨x, hx, h2⟩, rfl⟩ | ⟨hg, rfl⟩
  · have hbad : decBad l = true := List.any_eq_true.2 ⟨x, hx, by simp [isBad, h2]⟩
    unfold escS sqQ
    rw [hbad]
    rfl
  · have hbad : decBad l = false := by
      rw [Bool.eq_false_iff]
      intro h
      obtain ⟨x, hx, h2⟩ := List.any_eq_true.1 h
      exact hg x hx (by simpa [isBad] using h2)
    have hL : decL l = (charsOf l).map (·.2) := by unfold decL; rw [hbad]; rfl
    unfold escS sqQ
    rw [hbad, hL]
    have he : escAll attr ((charsOf l).map (·.2)) = escOf attr (charsOf l) := by unfold escAll escOf; rw [List.flatMap_map]
    rw [he]
    rfl

theorem bkE_val (l : List UInt8) : bkE l = -1 ∨ ∃ c : Nat, bkE l = (c : Int) ∧ V c ∧ c ≤ 1114111 := by
  unfold bkE
  split
  · exact .inr ⟨60, rfl, by decide, by decide⟩
  split
  · exact .inr ⟨62, rfl, by decide, by decide⟩
  split
  · exact .inr ⟨38, rfl, by decide, by decide⟩
  split
  · exact .inr ⟨34, rfl, by decide, by decide⟩
  split
  · exact .inr ⟨13, rfl, by decide, by decide⟩
  split
  · exact .inr ⟨9, rfl, by decide, by decide⟩
  split
  · exact .inr ⟨10, rfl, by decide, by decide⟩
  · exact .inl rfl
theorem bkKn : Kn bkE bkOk := by
  intro wd b n W hT hown hok
  have same : ∀ {c : Int}, (Calls Tryd.prog 43 #[.string wd, .map (some b)] W fun e W' => e = .returned (.int .i32 c) ∧ W' = W) → (Calls Tryd.prog 43 #[.string wd, .map (some b)] W fun e W' => e = .returned (.int .i32 c) ∧ Below W.heap.size W W') :=
    fun h => h.mono (by rintro e w' ⟨rfl, rfl⟩; exact ⟨rfl, Below.refl _ _⟩)
  by_cases h : wd.data.toList = [108, 116]
  · rw [show bkE wd.data.toList = 60 by rw [h]; rfl]
    obtain rfl : wd = ⟨#[108, 116]⟩ := bytes_ext h
    exact same (escaped_named _ 60 b n W (by decide) hown (by decide))
  by_cases h : wd.data.toList = [103, 116]
  · rw [show bkE wd.data.toList = 62 by rw [h]; rfl]
    obtain rfl : wd = ⟨#[103, 116]⟩ := bytes_ext h
    exact same (escaped_named _ 62 b n W (by decide) hown (by decide))
  by_cases h : wd.data.toList = [97, 109, 112]
  · rw [show bkE wd.data.toList = 38 by rw [h]; rfl]
    obtain rfl : wd = ⟨#[97, 109, 112]⟩ := bytes_ext h
    exact same (escaped_named _ 38 b n W (by decide) hown (by decide))
  by_cases h : wd.data.toList = [113, 117, 111, 116]
  · rw [show bkE wd.data.toList = 34 by rw [h]; rfl]
    obtain rfl : wd = ⟨#[113, 117, 111, 116]⟩ := bytes_ext h
    exact same (escaped_named _ 34 b n W (by decide) hown (by decide))
  by_cases h : wd.data.toList = [35, 49, 51]
  · rw [show bkE wd.data.toList = 13 by rw [h]; rfl]
    obtain rfl : wd = ⟨#[35, 49, 51]⟩ := bytes_ext h
    exact escaped_10 ⟨#[35, 49, 51]⟩ ⟨#[49, 51]⟩ 13 b n W (by decide) hown (by decide) (by decide) (by decide) (by decide)
      (numbered_of 10 ⟨#[49, 51]⟩ 13 (by decide) (by decide) W hT (uint_10 ⟨#[49, 51]⟩ (by decide) (by decide) (by decide) (by decide) W))
  by_cases h : wd.data.toList = [35, 57]
  · rw [show bkE wd.data.toList = 9 by rw [h]; rfl]
    obtain rfl : wd = ⟨#[35, 57]⟩ := bytes_ext h
    exact escaped_10 ⟨#[35, 57]⟩ ⟨#[57]⟩ 9 b n W (by decide) hown (by decide) (by decide) (by decide) (by decide)
      (numbered_of 10 ⟨#[57]⟩ 9 (by decide) (by decide) W hT (uint_10 ⟨#[57]⟩ (by decide) (by decide) (by decide) (by decide) W))
  by_cases h : wd.data.toList = [35, 49, 48]
  · rw [show bkE wd.data.toList = 10 by rw [h]; rfl]
    obtain rfl : wd = ⟨#[35, 49, 48]⟩ := bytes_ext h
    exact escaped_10 ⟨#[35, 49, 48]⟩ ⟨#[49, 48]⟩ 10 b n W (by decide) hown (by decide) (by decide) (by decide) (by decide)
      (numbered_of 10 ⟨#[49, 48]⟩ 10 (by decide) (by decide) W hT (uint_10 ⟨#[49, 48]⟩ (by decide) (by decide) (by decide) (by decide) W))
  · exfalso
    unfold bkOk bkE at hok
    simp_all

theorem unescape_back (attr : Bool) (zs : List Int) (hv : zs.all vldB = true) (hn : zs.length ≤ 10000) (w : World) (hT : Tabs w) :
    Calls Tryd.prog 25 #[.string ⟨(escAll attr zs).toArray⟩] w fun e w' => e = .returned (.tuple #[.string ⟨(encAll zs).toArray⟩, .int .i64 0, .int .i64 0]) ∧ Below w.heap.size w w' := by
  have hlen := escAll_len attr zs
  have hu := unesc_esc attr (escAll attr zs).length zs hv ((escAll attr zs).length + 1) [] (by omega)
  obtain ⟨ys, h1, h2⟩ := esc_text attr zs hv
  have hb : badB (escAll attr zs) = false := by rw [badB_eq, h1]; exact (back_list h2).1
  have h := unescape_of bkE bkOk bkE_val bkKn ⟨(escAll attr zs).toArray⟩ w (by simp [ByteArray.size]; omega) hT hu.2
  have e : unesc bkE (escAll attr zs) = (encAll zs, 0, 0) := by
    unfold unesc
    rw [hb]
    exact hu.1
  have h' : Calls Tryd.prog 25 #[.string ⟨(escAll attr zs).toArray⟩] w (UPost (unesc bkE (escAll attr zs)) w) := h
  rw [e] at h'
  exact h'

set_option maxHeartbeats 2000000 in
theorem same_at (xs : List Int) (a a' : Addr) (c c' : Nat) (w : World) (hn : xs.length ≤ 1000000) (hx : ∀ i, i < xs.length → w.cell? (a.add i) = some (.int .i32 (xs.getD i 0)) ∧ (a.add i).block < w.heap.size) (hy : ∀ i, i < xs.length → w.cell? (a'.add i) = some (.int .i32 (xs.getD i 0)) ∧ (a'.add i).block < w.heap.size) :
    Calls Tryd.prog 22 #[.slice (some a) xs.length c, .slice (some a') xs.length c'] w fun e w' => e = .returned (.bool true) ∧ Below w.heap.size w w' := by
  have HX := Lib.hid hx
  have HY := Lib.hid hy
  clear hx hy
  go_enter Tryd.func22, Tryd.ntmps22
  go_wp2
  go_loopw [5] (fun iv wr => ∃ (k q : Nat), iv = .int .i64 (k : Int) ∧ k ≤ xs.length ∧ wr = w.drewN q) (fun iv _ => xs.length - (intOf iv).toNat)
  case atStart => exact ⟨0, 0, rfl, by omega, rfl⟩
  case round =>
    obtain ⟨k, q, rfl, hk, rfl⟩ := hrel
    by_cases hlt : k < xs.length
    · have e1 := (HX.out k hlt).1
      have e2 := (HY.out k hlt).1
      generalize xs.getD k 0 = x at e1 e2
      go_wp2_with (go_quiet (fail))
      exact ⟨⟨k + 1, _, by go_num, by omega, rfl⟩, by simp [intOf]; omega⟩
    · obtain rfl : k = xs.length := by omega
      go_wp2
      go_ret
      exact ⟨rfl, below_drewNx (Below.refl _ _) q⟩
theorem same_list {w : World} {v v' : Value} (zs : List Int) (hn : zs.length ≤ 1000000) (h : ListAt w v zs) (h' : ListAt w v' zs) :
    Calls Tryd.prog 22 #[v, v'] w fun e w' => e = .returned (.bool true) ∧ Below w.heap.size w w' := by
  by_cases h0 : zs.length = 0
  · obtain ⟨a, c, rfl⟩ := h.form
    obtain ⟨a', c', rfl⟩ := h'.form
    rw [h0]
    exact same_nil a a' c c' w
  · rcases h with ⟨_, e⟩ | ⟨a, cap, rfl, hx⟩
    · rw [e] at h0; exact absurd rfl h0
    rcases h' with ⟨_, e⟩ | ⟨a', cap', rfl, hy⟩
    · rw [e] at h0; exact absurd rfl h0
    exact same_at zs a a' cap cap' w hn hx hy
theorem ListAt.own {w : World} {B : Nat} {v : Value} {zs : List Int} (h : w.ownsRow B 21 1 v zs.length (zs.map fun x => .int .i32 x)) : ListAt w v zs := by
  have h2 := h.2
  rcases h2 with ⟨e, h0⟩ | ⟨g, cap, cur, rfl, _, hg, _⟩
  · exact .inl ⟨e, List.eq_nil_of_length_eq_zero h0⟩
  · refine .inr ⟨⟨g, 0, none⟩, cap, rfl, fun i hi => ?_⟩
    have hc := h.cells rfl i (.int .i32 (zs.getD i 0)) (by simp [List.getD, hi])
    have hgl := (Array.getElem?_eq_some_iff.1 hg).1
    refine ⟨hc, ?_⟩
    unfold Addr.add
    split <;> exact hgl
end Go.Proofs.YtiefpdoefdldpaaDoor
