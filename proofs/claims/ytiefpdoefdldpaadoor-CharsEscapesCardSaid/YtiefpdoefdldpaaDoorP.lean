/- The character of an escape, by the word between its signs. -/
import Derived.Test.YtiefpdoefdldpaaDoorO
namespace Go.Proofs.YtiefpdoefdldpaaDoor
open Go.RowKit

theorem uint_10 (t : ByteArray) (hne : t.size ≠ 0) (hmax : t.size ≤ 1000) (hdg : ∀ c ∈ t.data.toList, 48 ≤ c.toNat ∧ c.toNat ≤ 57) (hval : numB 10 0 t.data.toList ≤ 2147483647) (w : World) :
    Calls Tryd.prog 67 #[.string t, .int .i64 10, .int .i64 31] w fun e w' => e = .returned (.tuple #[.int .u64 (numB 10 0 t.data.toList), .nilIface]) ∧ Below w.heap.size w w' := by
  have cP := parse_10 t hne hmax hdg hval w
  clear hne hmax hdg hval
  generalize numB 10 0 t.data.toList = n at cP ⊢
  go_enter Tryd.func67, Tryd.ntmps67
  go_wp2_with (go_at_call 74; refine cP.mono ?_; rintro e w' ⟨rfl, hb⟩)
  go_ret2
  exact ⟨rfl, hb⟩
theorem uint_16 (t : ByteArray) (hne : t.size ≠ 0) (hmax : t.size ≤ 1000) (hdg : ∀ c ∈ t.data.toList, 48 ≤ c.toNat ∧ c.toNat ≤ 57) (hval : numB 16 0 t.data.toList ≤ 2147483647) (w : World) :
    Calls Tryd.prog 67 #[.string t, .int .i64 16, .int .i64 31] w fun e w' => e = .returned (.tuple #[.int .u64 (numB 16 0 t.data.toList), .nilIface]) ∧ Below w.heap.size w w' := by
  have cP := parse_16 t hne hmax hdg hval w
  clear hne hmax hdg hval
  generalize numB 16 0 t.data.toList = n at cP ⊢
  go_enter Tryd.func67, Tryd.ntmps67
  go_wp2_with (go_at_call 74; refine cP.mono ?_; rintro e w' ⟨rfl, hb⟩)
  go_ret2
  exact ⟨rfl, hb⟩

theorem wrap_i32 (n : Nat) (h : n ≤ 2147483647) : IntKind.i32.wrap (n : Int) = n := by
  rw [IntKind.wrap_i32]
  omega

set_option maxHeartbeats 1000000 in
theorem numbered_of (b : Int) (t : ByteArray) (n : Nat) (hmax : t.size ≤ 20) (hn : n ≤ 2147483647) (w : World) (hT : Tabs w)
    (cU : Calls Tryd.prog 67 #[.string t, .int .i64 b, .int .i64 31] w fun e w' => e = .returned (.tuple #[.int .u64 n, .nilIface]) ∧ Below w.heap.size w w') :
    Calls Tryd.prog 56 #[.string t, .int .i64 b] w fun e w' => e = .returned (.int .i32 (if vldB n then (n : Int) else -1)) ∧ Below w.heap.size w w' := by
  have hsz := hT.size
  have cV := fun W (h : Below w.heap.size w W) => valid_any n W (hT.below h hsz).ran
  have hwr := wrap_i32 n hn
  obtain ⟨v, hv⟩ : ∃ v, vldB n = v := ⟨_, rfl⟩
  rw [hv] at cV ⊢
  clear hv
  have hlen : ¬ ((20 : Int) < (t.size : Int)) := by omega
  generalize (n : Int) = m at *
  clear hmax hn
  cases v
  · go_enter Tryd.func56, Tryd.ntmps56
    go_wp2_with (first | (go_at_call 67; refine cU.mono ?_; rintro e w1 ⟨rfl, hb⟩; have cV1 := cV w1 hb) | (go_at_call 8; refine cV1.mono ?_; rintro e w2 ⟨rfl, hb2⟩))
    go_ret
    exact ⟨rfl, hb.trans (hb2.mono hb.size)⟩
  · go_enter Tryd.func56, Tryd.ntmps56
    go_wp2_with (first | (go_at_call 67; refine cU.mono ?_; rintro e w1 ⟨rfl, hb⟩; have cV1 := cV w1 hb) | (go_at_call 8; refine cV1.mono ?_; rintro e w2 ⟨rfl, hb2⟩))
    go_ret
    exact ⟨rfl, hb.trans (hb2.mono hb.size)⟩

theorem nam_look (wd : ByteArray) (b n : Nat) (w : World) (hwd : wd.size ≤ 200) (hown : w.ownsMap Tryd.prog 9 (plainElem (H := Unit) Tryd.prog 21) b n namM) :
    (Instr.lookup 62 (.map (some b)) (.string wd) true).run Tryd.prog w = .ok (.tuple #[.int .i32 ((namL wd.data.toList).getD 0), .bool (namL wd.data.toList).isSome]) w := by
  have hl : wd.data.toList.length ≤ 200 := by simpa using hwd
  have hk := ko9 wd.data.toList hl
  obtain ⟨v, ps, hrun, hv⟩ := hown.look_ok key9 Tryd.underlying62 (Tryd.zeroValue21 w) (plainElem_int Tryd.underlying21 (by decide)) hk
  obtain ⟨a, rfl, hz, _⟩ := plainElem_int_inv Tryd.underlying21 hv
  rw [nam_has] at hrun
  have h1 := congrArg Prod.fst hz
  rw [nam_at] at h1
  simp only [DataW.lit.injEq, Lit.int.injEq, true_and] at h1
  rw [h1]
  exact hrun

set_option maxHeartbeats 1000000 in
theorem escaped_named (wd : ByteArray) (c : Int) (b n : Nat) (w : World) (hwd : wd.size ≤ 200) (hown : w.ownsMap Tryd.prog 9 (plainElem (H := Unit) Tryd.prog 21) b n namM) (hc : namL wd.data.toList = some c) :
    Calls Tryd.prog 43 #[.string wd, .map (some b)] w fun e w' => e = .returned (.int .i32 c) ∧ w' = w := by
  have hL := nam_look wd b n w hwd hown
  rw [hc] at hL
  simp only [Option.getD_some, Option.isSome_some] at hL
  clear hown hc hwd
  go_enter Tryd.func43, Tryd.ntmps43
  go_wp2
  go_ret
  exact ⟨rfl, rfl⟩

set_option maxHeartbeats 1000000 in
theorem escaped_none (wd : ByteArray) (b n : Nat) (w : World) (hwd : wd.size ≤ 200) (hown : w.ownsMap Tryd.prog 9 (plainElem (H := Unit) Tryd.prog 21) b n namM) (hc : namL wd.data.toList = none)
    (h2 : Lib.hasPrefix wd.data.toList [35, 120] = false) (h1 : Lib.hasPrefix wd.data.toList [35] = false) :
    Calls Tryd.prog 43 #[.string wd, .map (some b)] w fun e w' => e = .returned (.int .i32 (-1)) ∧ w' = w := by
  have hL := nam_look wd b n w hwd hown
  rw [hc] at hL
  simp only [Option.getD_none, Option.isSome_none] at hL
  have cC := fun p => Tryd.strings_CutPrefix wd p w
  clear hown hc hwd
  go_enter Tryd.func43, Tryd.ntmps43
  go_wp2_with (go_at_call 55; refine (cC _).mono ?_; rintro e w1 ⟨rfl, rfl⟩)
  go_ret
  exact ⟨rfl, rfl⟩

set_option maxHeartbeats 1000000 in
theorem escaped_16 (wd d : ByteArray) (v : Int) (b n : Nat) (w : World) (hwd : wd.size ≤ 200) (hown : w.ownsMap Tryd.prog 9 (plainElem (H := Unit) Tryd.prog 21) b n namM) (hc : namL wd.data.toList = none)
    (h2 : Lib.hasPrefix wd.data.toList [35, 120] = true) (hd : ByteArray.mk (Lib.trimPrefix wd.data.toList [35, 120]).toArray = d)
    (cN : Calls Tryd.prog 56 #[.string d, .int .i64 16] w fun e w' => e = .returned (.int .i32 v) ∧ Below w.heap.size w w') :
    Calls Tryd.prog 43 #[.string wd, .map (some b)] w fun e w' => e = .returned (.int .i32 v) ∧ Below w.heap.size w w' := by
  have hL := nam_look wd b n w hwd hown
  rw [hc] at hL
  simp only [Option.getD_none, Option.isSome_none] at hL
  have c2 := Tryd.strings_CutPrefix wd ⟨#[35, 120]⟩ w
  simp only [h2, hd] at c2
  clear hown hc hwd h2 hd
  go_enter Tryd.func43, Tryd.ntmps43
  go_wp2_with (first | (go_at_call 55; refine c2.mono ?_; rintro e w1 ⟨rfl, rfl⟩) | (go_at_call 56; refine cN.mono ?_; rintro e w1 ⟨rfl, hb⟩))
  go_ret
  exact ⟨rfl, hb⟩

set_option maxHeartbeats 1000000 in
theorem escaped_10 (wd d : ByteArray) (v : Int) (b n : Nat) (w : World) (hwd : wd.size ≤ 200) (hown : w.ownsMap Tryd.prog 9 (plainElem (H := Unit) Tryd.prog 21) b n namM) (hc : namL wd.data.toList = none)
    (h2 : Lib.hasPrefix wd.data.toList [35, 120] = false) (h1 : Lib.hasPrefix wd.data.toList [35] = true) (hd : ByteArray.mk (Lib.trimPrefix wd.data.toList [35]).toArray = d)
    (cN : Calls Tryd.prog 56 #[.string d, .int .i64 10] w fun e w' => e = .returned (.int .i32 v) ∧ Below w.heap.size w w') :
    Calls Tryd.prog 43 #[.string wd, .map (some b)] w fun e w' => e = .returned (.int .i32 v) ∧ Below w.heap.size w w' := by
  have hL := nam_look wd b n w hwd hown
  rw [hc] at hL
  simp only [Option.getD_none, Option.isSome_none] at hL
  have cC := fun p => Tryd.strings_CutPrefix wd p w
  clear hown hc hwd
  go_enter Tryd.func43, Tryd.ntmps43
  go_wp2_with (first | (go_at_call 55; refine (cC _).mono ?_; rintro e w1 ⟨rfl, rfl⟩) | (go_at_call 56; refine cN.mono ?_; rintro e w1 ⟨rfl, hb⟩))
  go_ret
  exact ⟨rfl, hb⟩

/-- The four words of the examples: lt, #65, #x42, b. -/
theorem esc_65 (b n : Nat) (w : World) (hT : Tabs w) (hown : w.ownsMap Tryd.prog 9 (plainElem (H := Unit) Tryd.prog 21) b n namM) :
    Calls Tryd.prog 43 #[.string ⟨#[35, 54, 53]⟩, .map (some b)] w fun e w' => e = .returned (.int .i32 65) ∧ Below w.heap.size w w' :=
  escaped_10 ⟨#[35, 54, 53]⟩ ⟨#[54, 53]⟩ 65 b n w (by decide) hown (by decide) (by decide) (by decide) (by decide)
    (numbered_of 10 ⟨#[54, 53]⟩ 65 (by decide) (by decide) w hT (uint_10 ⟨#[54, 53]⟩ (by decide) (by decide) (by decide) (by decide) w))
theorem esc_42 (b n : Nat) (w : World) (hT : Tabs w) (hown : w.ownsMap Tryd.prog 9 (plainElem (H := Unit) Tryd.prog 21) b n namM) :
    Calls Tryd.prog 43 #[.string ⟨#[35, 120, 52, 50]⟩, .map (some b)] w fun e w' => e = .returned (.int .i32 66) ∧ Below w.heap.size w w' :=
  escaped_16 ⟨#[35, 120, 52, 50]⟩ ⟨#[52, 50]⟩ 66 b n w (by decide) hown (by decide) (by decide) (by decide)
    (numbered_of 16 ⟨#[52, 50]⟩ 66 (by decide) (by decide) w hT (uint_16 ⟨#[52, 50]⟩ (by decide) (by decide) (by decide) (by decide) w))
theorem esc_lt (b n : Nat) (w : World) (hown : w.ownsMap Tryd.prog 9 (plainElem (H := Unit) Tryd.prog 21) b n namM) :
    Calls Tryd.prog 43 #[.string ⟨#[108, 116]⟩, .map (some b)] w fun e w' => e = .returned (.int .i32 60) ∧ w' = w :=
  escaped_named ⟨#[108, 116]⟩ 60 b n w (by decide) hown (by decide)
theorem esc_b (b n : Nat) (w : World) (hown : w.ownsMap Tryd.prog 9 (plainElem (H := Unit) Tryd.prog 21) b n namM) :
    Calls Tryd.prog 43 #[.string ⟨#[98]⟩, .map (some b)] w fun e w' => e = .returned (.int .i32 (-1)) ∧ w' = w :=
  escaped_none ⟨#[98]⟩ b n w (by decide) hown (by decide) (by decide) (by decide)
end Go.Proofs.YtiefpdoefdldpaaDoor
