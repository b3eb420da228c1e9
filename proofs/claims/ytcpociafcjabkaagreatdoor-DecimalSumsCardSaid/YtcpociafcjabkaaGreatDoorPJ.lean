/- What is asked of the world; zeros; the digits of all parts of a number. -/
import Derived.Lib.ItoaMem
import Derived.Lib.AppendIntMem
import Derived.Test.YtcpociafcjabkaaGreatDoorPS
import Derived.Test.YtcpociafcjabkaaGreatDoorPH
set_option linter.unusedSimpArgs false
set_option linter.unusedVariables false
namespace Go.Proofs.YtcpociafcjabkaaGreatDoor
open Go.RowKit Go.Shelf

/-- What the program's tables hold. -/
structure Tabs (w : World) : Prop where
  pow : Lib.TabIs Tryz.prog w "internal/strconv.uint64pow10" .u64 Lib.pow10Tab
  maxl : ∃ m, w.cell? ⟨0, 0, none⟩ = some (.int .i64 m)
  size : 6 ≤ w.heap.size
theorem var_block {w w' : World} {g : Nat} (h : w'.heap[g]? = w.heap[g]?) {name : String} (hg : Tryz.prog.globalNamed name = some g) : w'.var? Tryz.prog name = w.var? Tryz.prog name := by
  unfold World.var?
  rw [hg]
  simp only [Option.bind_some, h]
theorem Tabs.below {w w' : World} {B : Nat} (h : Tabs w) (hb : Below B w w') (hB : 6 ≤ B) : Tabs w' := by
  obtain ⟨hp, ⟨m, hm⟩, hs⟩ := h
  refine ⟨?_, ⟨m, (hb.cell (p := ⟨0, 0, none⟩) (show 0 < B by omega)).trans hm⟩, Nat.le_trans hs hb.size⟩
  unfold Lib.TabIs at hp ⊢
  rw [var_block (hb.block 1 (by omega)) (show Tryz.prog.globalNamed "internal/strconv.uint64pow10" = some 1 by kernel_rfl)]
  exact hp
theorem Tabs.next {w w' : World} (h : Tabs w) (hb : Below w.heap.size w w') : Tabs w' := h.below hb h.size

theorem decDigits_digs (u : Nat) : Lib.decDigits u = digs u := by
  induction u using Nat.strongRecOn with
  | ind u ih =>
    by_cases h : u < 10
    · rw [digs_small h, Lib.decDigits, dif_pos h]
    · rw [digs_big h, Lib.decDigits, dif_neg h, ih (u / 10) (by omega)]
theorem itoa_digs (u : Nat) : Lib.itoa (u : Int) = digs u := by rw [Lib.itoa_nonneg, decDigits_digs]
theorem format_call (n : Int) (h0 : -9223372036854775808 ≤ n) (h1 : n ≤ 9223372036854775807) (w : World) (hT : Tabs w) :
    Calls Tryz.prog 47 #[.int .i64 n, .int .i64 10] w fun e w' => e = .returned (.string ⟨(Lib.itoa n).toArray⟩) ∧ Below w.heap.size w w' :=
  (Tryz.strconv_FormatInt_10 n h0 h1 w hT.pow).mono fun e w' ⟨he, k, os, hw⟩ => ⟨he, hw ▸ Lib.below_grow _ w (Nat.le_refl _) k os⟩

theorem repeat_zeros (c : Nat) : Lib.repeatL [48] c = List.replicate c 48 := by
  induction c with
  | zero => rfl
  | succ c ih => rw [Lib.repeatL, ih]; rfl
theorem pzeros_call (n : Int) (h1 : n ≤ 100000) (h0 : -100000 ≤ n) (w : World) :
    Calls Tryz.prog 64 #[.int .i64 n] w fun e w' => e = .returned (.string (zs n.toNat)) ∧ Below w.heap.size w w' := by
  have c := fun W => Tryz.strings_Repeat ⟨#[48]⟩ n.toNat W (by omega) (by show 1 * n.toNat ≤ _; omega)
  rw [show (ByteArray.mk #[48]).data.toList = [48] from rfl, repeat_zeros, show (ByteArray.mk (List.replicate n.toNat 48).toArray) = zs n.toNat from rfl] at c
  rcases Int.lt_or_le n 0 with h | h
  · have hn : n.toNat = 0 := by omega
    have hz : max n 0 = 0 := by omega
    rw [hn] at c ⊢
    go_enter Tryz.func64, Tryz.ntmps64
    go_wp2_with (go_at_call 84; refine (c _).mono ?_; rintro e w1 ⟨rfl, b1⟩)
    go_ret
    exact ⟨rfl, b1⟩
  · obtain ⟨k, rfl⟩ : ∃ k : Nat, n = (k : Int) := ⟨n.toNat, by omega⟩
    rw [Int.toNat_natCast] at c ⊢
    have hz : max (k : Int) 0 = (k : Int) := by omega
    generalize zs k = Z at c ⊢
    go_enter Tryz.func64, Tryz.ntmps64
    go_wp2_with (go_at_call 84; refine (c _).mono ?_; rintro e w1 ⟨rfl, b1⟩)
    go_ret
    exact ⟨rfl, b1⟩

/-- A part with zeros in front; the digits of all parts that have come. -/
def pad9 (q : Nat) : List UInt8 := List.replicate (9 - (digs q).length) 48 ++ digs q
def padOf (n : Nat) (l : List (Fin 14)) : List UInt8 := l.flatMap fun x => pad9 (part n x.1)
theorem pad9_all (q : Nat) : AllD (pad9 q) := (AllD.zeros _).append (digs_all q)
theorem digs_nine {q : Nat} (h : q < 1000000000) : (digs q).length ≤ 9 := digs_len_le (show q < 10 ^ 9 from h) (by omega)
theorem pad9_len {q : Nat} (h : q < 1000000000) : (pad9 q).length = 9 := by
  have := digs_nine h
  unfold pad9
  rw [List.length_append, List.length_replicate]
  omega
theorem pad9_val (q : Nat) : val (pad9 q) = q := by
  unfold pad9
  rw [val_append, val_zeros, digs_val]
  simp
theorem padOf_snoc (n : Nat) (l : List (Fin 14)) (x : Fin 14) : padOf n (l ++ [x]) = padOf n l ++ pad9 (part n x.1) := by
  unfold padOf
  rw [List.flatMap_append, List.flatMap_singleton]
theorem padOf_len (n : Nat) (l : List (Fin 14)) : (padOf n l).length = 9 * l.length := by
  induction l with
  | nil => rfl
  | cons x l ih =>
    show (pad9 _ ++ padOf n l).length = _
    rw [List.length_append, ih, pad9_len (part_lt n x.1), List.length_cons]
    omega
theorem padOf_all (n : Nat) (l : List (Fin 14)) : AllD (padOf n l) := fun c hc => by
  obtain ⟨x, _, hx⟩ := List.mem_flatMap.1 hc
  exact pad9_all _ c hx
theorem padOf_val (n : Nat) (hn : n < 10 ^ 126) : ∀ k, k ≤ 14 → val (padOf n (backF.take k)) = n / 10 ^ (9 * (14 - k))
  | 0, _ => by
    rw [Nat.div_eq_of_lt hn]
    rfl
  | k + 1, hk => by
    have ih := padOf_val n hn k (by omega)
    have e := backF_take (13 - k) (by omega)
    rw [show 14 - (13 - k + 1) = k by omega, show 14 - (13 - k) = k + 1 by omega] at e
    rw [← e, padOf_snoc, val_append, ih, pad9_len (part_lt _ _), pad9_val]
    show _ * 10 ^ 9 + part n (13 - k) = _
    have h := part_top n (13 - k)
    rw [show 13 - k + 1 = 14 - k by omega] at h
    rw [show 14 - (k + 1) = 13 - k by omega, h]
/-- All the digits of a number. -/
def padS (n : Nat) : ByteArray := ⟨(padOf n backF).toArray⟩
theorem padS_list (n : Nat) : (padS n).data.toList = padOf n backF := bytes_mk _
theorem padS_all (n : Nat) : AllD (padS n).data.toList := by rw [padS_list]; exact padOf_all n _
theorem padS_val {n : Nat} (hn : n < 10 ^ 126) : val (padS n).data.toList = n := by
  have h := padOf_val n hn 14 (Nat.le_refl _)
  rw [padS_list]
  simpa [backF] using h
theorem padS_size (n : Nat) : (padS n).size = 126 := by rw [← bytes_len, padS_list, padOf_len]; rfl
end Go.Proofs.YtcpociafcjabkaaGreatDoor
