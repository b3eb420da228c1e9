/- Encode of package chars and the reference's, at every list of numbers: they answer alike. -/
import Derived.Lib.AppendStr
import Derived.Laws.IdiomStrings
import Derived.Test.YtiefpdoefdldpaaDoorT
namespace Go.Proofs.YtiefpdoefdldpaaDoor
open Go.RowKit

def encAll (zs : List Int) : List UInt8 := zs.flatMap fun c => bytesL c.toNat
theorem encAll_snoc (zs : List Int) (c : Int) : encAll (zs ++ [c]) = encAll zs ++ bytesL c.toNat := by simp [encAll]
theorem encAll_len : ∀ zs : List Int, (encAll zs).length ≤ 4 * zs.length
  | [] => by simp [encAll]
  | c :: zs => by
    have h := encAll_len zs
    have h4 := bytesL_len4 c.toNat
    simp only [encAll, List.flatMap_cons, List.length_append, List.length_cons] at h ⊢
    omega
theorem vld_nat {c : Int} (h : vldB c = true) : ∃ n : Nat, c = (n : Int) ∧ V n ∧ n ≤ 1114111 := by
  have hb := h
  rw [vld_eq] at hb
  unfold rvldB at hb
  simp only [Bool.or_eq_true, beq_iff_eq, decide_eq_true_eq] at hb
  have h0 : 0 ≤ c := by omega
  obtain ⟨n, rfl⟩ : ∃ n : Nat, c = (n : Int) := ⟨c.toNat, by omega⟩
  refine ⟨n, rfl, ?_, by omega⟩
  rw [vld_V] at h
  exact of_decide_eq_true h

def EncPost (zs : List Int) (w : World) (e : Ending) (w' : World) : Prop :=
  e = .returned (.tuple (if zs.all vldB then #[.string ⟨(encAll zs).toArray⟩, .int .i64 0] else #[.string ⟨#[]⟩, .int .i64 2])) ∧ Below w.heap.size w w'

/-- Where a list of numbers lies: nowhere, or in the cells from an address on. -/
def ListAt (w : World) (v : Value) (zs : List Int) : Prop :=
  (v = .slice none 0 0 ∧ zs = []) ∨ ∃ (a : Addr) (cap : Nat), v = .slice (some a) zs.length cap ∧ ∀ i, i < zs.length → w.cell? (a.add i) = some (.int .i32 (zs.getD i 0)) ∧ (a.add i).block < w.heap.size
theorem ListAt.below {w w' : World} {v : Value} {zs : List Int} (h : ListAt w v zs) (hb : Below w.heap.size w w') : ListAt w' v zs := by
  rcases h with h | ⟨a, cap, hv, h⟩
  · exact .inl h
  · exact .inr ⟨a, cap, hv, fun i hi => ⟨(hb.cell (h i hi).2).trans (h i hi).1, Nat.lt_of_lt_of_le (h i hi).2 hb.size⟩⟩

theorem getD_eq {zs : List Int} {k : Nat} (h : k < zs.length) : zs.getD k 0 = zs[k]'h := by simp [List.getD, List.getElem?_eq_getElem h]
theorem take_snoc {zs : List Int} {k : Nat} (h : k < zs.length) : zs.take (k + 1) = zs.take k ++ [zs[k]'h] := by rw [List.take_add_one, List.getElem?_eq_getElem h]; rfl

set_option maxRecDepth 100000 in
set_option maxHeartbeats 2000000 in
theorem encode_at (zs : List Int) (a : Addr) (cap : Nat) (w : World) (hT : Tabs w) (hn : zs.length ≤ 1000000) (hx : ∀ i, i < zs.length → w.cell? (a.add i) = some (.int .i32 (zs.getD i 0)) ∧ (a.add i).block < w.heap.size) :
    Calls Tryd.prog 20 #[.slice (some a) zs.length cap] w (EncPost zs w) := by
  have hsz := hT.size
  have HX := Lib.hid hx
  clear hx
  unfold EncPost
  obtain ⟨R, hR⟩ : ∃ R, (if zs.all vldB then #[Value.string ⟨(encAll zs).toArray⟩, .int .i64 0] else #[Value.string ⟨#[]⟩, .int .i64 2]) = R := ⟨_, rfl⟩
  rw [hR]
  have HR := Lib.hid hR
  clear hR
  have hL0 := bld_fresh w w.heap.size (Nat.le_refl _)
  have hB0 := (Below.refl w.heap.size w).alloc (Nat.le_refl _) (.cells #[.pointer none, .slice none 0 0] 49)
  go_enter Tryd.func20, Tryd.ntmps20
  go_wp2
  go_loopg [9] (zs.length + 1) (fun gk v9 wr => ∃ k : Nat, v9 = .int .i64 (k : Int) ∧ k ≤ zs.length ∧ gk + k = zs.length + 1 ∧ Hid ((zs.take k).all vldB = true ∧ Lib.IsBuilderF 49 5 w.heap.size w.heap.size (Lib.byteCells (encAll (zs.take k))) wr) ∧ Below w.heap.size w wr)
  case atStart => exact ⟨0, rfl, Nat.zero_le _, rfl, ⟨rfl, hL0⟩, hB0⟩
  case round =>
    obtain ⟨k, rfl, hk, hgk, HH, hB⟩ := hrel
    by_cases hlt : k < zs.length
    · obtain ⟨hc0, hab⟩ := HX.out k hlt
      have hc := (hB.cell hab).trans hc0
      rw [getD_eq hlt] at hc
      have hTr := hT.below hB hsz
      have hall : (zs.take (k + 1)).all vldB = vldB (zs[k]'hlt) := by rw [take_snoc hlt, List.all_append, HH.out.1]; simp
      have henc : encAll (zs.take (k + 1)) = encAll (zs.take k) ++ bytesL (zs[k]'hlt).toNat := by rw [take_snoc hlt, encAll_snoc]
      have hlen := encAll_len (zs.take k)
      have hlk : (zs.take k).length = k := by simp; omega
      have cV := valid_any (zs[k]'hlt) wr hTr.ran
      have hin : zs[k]'hlt ∈ zs := List.getElem_mem hlt
      generalize zs[k]'hlt = x at hc hall henc cV hin
      cases hv : vldB x with
      | false =>
        rw [hv] at cV
        have hbad : zs.all vldB = false := by
          rw [Bool.eq_false_iff]
          intro h
          have := List.all_eq_true.1 h x hin
          rw [hv] at this
          cases this
        have HR2 : Hid (R = #[.string ⟨#[]⟩, .int .i64 2]) := by
          show _ = _
          rw [← HR.out, hbad]
          rfl
        clear hbad hv hall henc hlen hlk hgk hc0 hab HH hin
        go_wp2_with (go_at_call 8; refine cV.mono ?_; rintro e w1 ⟨rfl, hb1⟩)
        go_ret2
        exact ⟨by rw [HR2.out]; rfl, hB.trans (hb1.mono hB.size)⟩
      | true =>
        rw [hv] at cV hall
        obtain ⟨n, hxn, hV, hn2⟩ := vld_nat hv
        have q1 : -2147483648 ≤ x := by omega
        have q2 : x ≤ 2147483647 := by omega
        have HN := Lib.hid (And.intro hxn (And.intro hV (And.intro hall henc)))
        have HL := Lib.hid (And.intro hlen hlk)
        clear hv hall henc hlen hlk hc0 hab hxn hV hn2 hin
        go_wp2_with (first | (go_at_call 8; refine cV.mono ?_; rintro e w1 ⟨rfl, hb1⟩) | fail)
        have hbl1 : Lib.IsBuilderF 49 5 w.heap.size w.heap.size (Lib.byteCells (encAll (zs.take k))) w1 := bld_kept (row := none) HH.out.2 ⟨hb1.os, hb1.tape, hb1.output, hb1.size, fun j hj _ => hb1.block j hj⟩ (fun r e => by cases e)
        have hB1 := hB.trans (hb1.mono hB.size)
        have hl5 : (Lib.byteCells (encAll (zs.take k))).length + 4 ≤ 140737488355328 := by
          rw [Lib.byteCells_length]
          have h1 := HL.out.1
          have h2 := HL.out.2
          omega
        refine (Tryd.WriteRune w.heap.size w.heap.size (Lib.byteCells (encAll (zs.take k))) x q1 q2 w1 hbl1 hl5 hB1.size).mono ?_
        rintro e w2 ⟨rfl, hb2, hbel2, _⟩
        generalize (Lib.runeCells x).length = lc
        have hB2 := hB1.trans hbel2
        have HI : Hid ((zs.take (k + 1)).all vldB = true ∧ Lib.IsBuilderF 49 5 w.heap.size w.heap.size (Lib.byteCells (encAll (zs.take (k + 1)))) w2) := by
          refine ⟨HN.out.2.2.1, .inr ?_⟩
          rw [HN.out.2.2.2, Lib.byteCells_append, HN.out.1, Int.toNat_natCast, ← runeCells_eq n HN.out.2.1, ← HN.out.1]
          exact hb2
        clear hb2 hbl1 hl5 HN HL hB1 hbel2 cV hTr HH
        go_wp2
        go_roundg (gk - 1)
        case measure => omega
        case rel => exact ⟨k + 1, by go_num, by omega, by omega, HI, hB2⟩
    · obtain rfl : k = zs.length := by omega
      have hbl := HH.out.2
      have hgood := HH.out.1
      rw [List.take_length] at hbl hgood
      have HR2 : Hid (R = #[.string ⟨(encAll zs).toArray⟩, .int .i64 0]) := by
        show _ = _
        rw [← HR.out, hgood]
        rfl
      have cS := Tryd.Builder_String_any_k w.heap.size w.heap.size (encAll zs) wr hbl hB.size
      obtain ⟨Z, hZ⟩ : ∃ Z, ByteArray.mk (encAll zs).toArray = Z := ⟨_, rfl⟩
      rw [hZ] at cS HR2
      clear hZ hbl hgood HH hlt
      go_wp2_with (go_at_call 35; refine cS.mono ?_; rintro e w1 ⟨rfl, _, hb1, _⟩)
      go_ret2
      exact ⟨by rw [HR2.out]; rfl, hB.trans hb1⟩

set_option maxRecDepth 100000 in
theorem encode_nil (w : World) : Calls Tryd.prog 20 #[.slice none 0 0] w (EncPost [] w) := by
  have hL0 := bld_fresh w w.heap.size (Nat.le_refl _)
  have hB0 := (Below.refl w.heap.size w).alloc (Nat.le_refl _) (.cells #[.pointer none, .slice none 0 0] 49)
  have cS := Tryd.Builder_String_any_k w.heap.size w.heap.size [] (w.alloc (.cells #[.pointer none, .slice none 0 0] 49)) hL0 hB0.size
  unfold EncPost
  go_enter Tryd.func20, Tryd.ntmps20
  go_wp2
  go_loopg [9] 1 (fun _ v9 wr => v9 = .int .i64 0 ∧ wr = w.alloc (.cells #[.pointer none, .slice none 0 0] 49))
  case atStart => exact ⟨rfl, rfl⟩
  case round =>
    obtain ⟨rfl, rfl⟩ := hrel
    go_wp2_with (go_at_call 35; refine cS.mono ?_; rintro e w1 ⟨rfl, _, hb1, _⟩)
    go_ret2
    exact ⟨rfl, hB0.trans hb1⟩
theorem encode_any (zs : List Int) (v : Value) (w : World) (hT : Tabs w) (hn : zs.length ≤ 1000000) (hv : ListAt w v zs) : Calls Tryd.prog 20 #[v] w (EncPost zs w) := by
  rcases hv with ⟨rfl, rfl⟩ | ⟨a, cap, rfl, h⟩
  · exact encode_nil w
  · exact encode_at zs a cap w hT hn h

theorem info5 : (Tryd.prog.info? 5).map (fun i => (i.zero, i.size, i.bytes)) = some (some (.int .u8 0), 1, 1) := by kernel_rfl

theorem conv_own {w : World} {B n : Nat} {v : Value} {l : List UInt8} (h : w.ownsRow B 5 1 v n (Lib.byteCells l)) : (convert 47 9 v).run Tryd.prog w = .ok (.string ⟨l.toArray⟩) w := by
  have hlen : l.length = n := by
    have := h.1
    rw [Lib.byteCells_length] at this
    omega
  have h2 := h.2
  rcases h2 with ⟨rfl, h0⟩ | ⟨g, cap, cur, rfl, _⟩
  · have hl : l = [] := List.eq_nil_of_length_eq_zero (hlen.trans h0)
    rw [hl, run_convert_bytes_string w 47 9 5 none 0 0 Tryd.underlying47 Tryd.underlying5 Tryd.underlying9]
    rfl
  · rw [← hlen]
    exact run_convert_bytes_back w 47 9 5 ⟨g, 0, none⟩ cap l Tryd.underlying47 Tryd.underlying5 Tryd.underlying9 (fun j hj => h.cells rfl j _ (by simp [Lib.byteCells, hj]))

set_option maxRecDepth 100000 in
set_option maxHeartbeats 2000000 in
theorem rencode_at (zs : List Int) (a : Addr) (cap : Nat) (w : World) (hn : zs.length ≤ 1000000) (hx : ∀ i, i < zs.length → w.cell? (a.add i) = some (.int .i32 (zs.getD i 0)) ∧ (a.add i).block < w.heap.size) :
    Calls Tryd.prog 21 #[.slice (some a) zs.length cap] w (EncPost zs w) := by
  have HX := Lib.hid hx
  clear hx
  unfold EncPost
  obtain ⟨R, hR⟩ : ∃ R, (if zs.all vldB then #[Value.string ⟨(encAll zs).toArray⟩, .int .i64 0] else #[Value.string ⟨#[]⟩, .int .i64 2]) = R := ⟨_, rfl⟩
  rw [hR]
  have HR := Lib.hid hR
  clear hR
  obtain ⟨i5, hi, hz0, hz1, hz2⟩ := info_parts info5
  have Hi := Lib.hid hi
  have Hz0 := Lib.hid hz0
  have Hz1 := Lib.hid hz1
  have Hz2 := Lib.hid hz2
  clear hi hz0 hz1 hz2
  go_enter Tryd.func21, Tryd.ntmps21
  go_wp2
  go_loopg [4, 5] (zs.length + 1) (fun gk v4 v5 wr => ∃ k : Nat, v5 = .int .i64 (k : Int) ∧ k ≤ zs.length ∧ gk + k = zs.length + 1 ∧ Hid ((zs.take k).all vldB = true ∧ wr.ownsRow w.heap.size 5 1 v4 (encAll (zs.take k)).length (Lib.byteCells (encAll (zs.take k)))) ∧ Below w.heap.size w wr)
  case atStart => exact ⟨0, rfl, Nat.zero_le _, rfl, ⟨rfl, World.ownsRow_nil _ _ _ _⟩, Below.refl _ _⟩
  case round =>
    rename_i v4 _
    obtain ⟨k, rfl, hk, hgk, HH, hB⟩ := hrel
    by_cases hlt : k < zs.length
    · obtain ⟨hc0, hab⟩ := HX.out k hlt
      have hc := (hB.cell hab).trans hc0
      rw [getD_eq hlt] at hc
      have hall : (zs.take (k + 1)).all vldB = vldB (zs[k]'hlt) := by rw [take_snoc hlt, List.all_append, HH.out.1]; simp
      have henc : encAll (zs.take (k + 1)) = encAll (zs.take k) ++ bytesL (zs[k]'hlt).toNat := by rw [take_snoc hlt, encAll_snoc]
      have hlen := encAll_len (zs.take k)
      have hlk : (zs.take k).length = k := by simp; omega
      have cV := rvalid_any (zs[k]'hlt) wr
      rw [← vld_eq] at cV
      have hin : zs[k]'hlt ∈ zs := List.getElem_mem hlt
      generalize zs[k]'hlt = x at hc hall henc cV hin
      cases hv : vldB x with
      | false =>
        rw [hv] at cV
        have hbad : zs.all vldB = false := by
          rw [Bool.eq_false_iff]
          intro h
          have := List.all_eq_true.1 h x hin
          rw [hv] at this
          cases this
        have HR2 : Hid (R = #[.string ⟨#[]⟩, .int .i64 2]) := by
          show _ = _
          rw [← HR.out, hbad]
          rfl
        clear hbad hv hall henc hlen hlk hgk hc0 hab HH hin
        go_wp2_with (go_at_call 9; refine cV.mono ?_; rintro e w1 ⟨rfl, rfl⟩)
        go_ret2
        exact ⟨by rw [HR2.out]; rfl, hB⟩
      | true =>
        rw [hv] at cV hall
        obtain ⟨n, hxn, hV, hn2⟩ := vld_nat hv
        have cB : ∀ X : World, Calls Tryd.prog 33 #[.int .i32 x] X fun e w' => e = .returned (.string ⟨(bytesL n).toArray⟩) ∧ Below X.heap.size X w' := fun X => by
          rw [hxn]
          exact bytes_any n hn2 X
        obtain ⟨B, hBn⟩ : ∃ B, ByteArray.mk (bytesL n).toArray = B := ⟨_, rfl⟩
        have hB4 := bytesL_len4 n
        have hBs : B.size = (bytesL n).length := by rw [← hBn]; simp [ByteArray.size]
        have hBc : Lib.strCells B = Lib.byteCells (bytesL n) := by rw [Lib.strCells_eq, ← hBn]
        rw [hBn] at cB
        have HN := Lib.hid (And.intro hxn (And.intro hV (And.intro hall (And.intro henc (And.intro hBs hBc)))))
        obtain ⟨m, hm⟩ : ∃ m, (encAll (zs.take k)).length = m := ⟨_, rfl⟩
        have hown := HH.out.2
        rw [hm] at hown hlen
        have h63 : m + B.size ≤ maxLen := by unfold maxLen; omega
        have h47 : m + B.size ≤ 140737488355328 := by omega
        have Hown := Lib.hid hown
        have HM := Lib.hid hm
        clear hv hall henc hlen hlk hc0 hab hxn hV hn2 hin hBn hB4 hBs hBc hown hm
        go_wp2_with (first
          | (go_at_call 9; refine cV.mono ?_; rintro e w1 ⟨rfl, rfl⟩)
          | (go_at_call 33; refine (cB _).mono ?_; rintro e w2 ⟨rfl, hb2⟩)
          | (at_builtin; refine Lib.wpList_append_own_string _ rfl _ _ 47 9 rfl w.heap.size 5 i5 Tryd.underlying47 Tryd.underlying9 Hi.out Hz0.out Hz1.out Hz2.out _ m (Lib.byteCells (encAll (zs.take k))) rfl (own_below Hown.out hb2) B rfl h63 h47 (Nat.le_trans hB.size hb2.size) ?_; intro v' w3 hown3 hg3 _))
        have hbz : Below w.heap.size w w2 := hB.trans (hb2.mono hB.size)
        have hb3 : Below w.heap.size w w3 := hbz.grown hg3 hbz.size (fun j e => (Hown.out.lt j e).1)
        have hlen2 : (encAll (zs.take (k + 1))).length = m + B.size := by rw [HN.out.2.2.2.1, List.length_append, HM.out, HN.out.1, Int.toNat_natCast, HN.out.2.2.2.2.1]
        have HI : Hid ((zs.take (k + 1)).all vldB = true ∧ w3.ownsRow w.heap.size 5 1 v' (encAll (zs.take (k + 1))).length (Lib.byteCells (encAll (zs.take (k + 1))))) := by
          refine ⟨HN.out.2.2.1, ?_⟩
          rw [hlen2, HN.out.2.2.2.1, Lib.byteCells_append, HN.out.1, Int.toNat_natCast, ← HN.out.2.2.2.2.2]
          exact hown3
        go_roundg (gk - 1)
        case measure => omega
        case rel => exact ⟨k + 1, by go_num, by omega, by omega, HI, hb3⟩
    · obtain rfl : k = zs.length := by omega
      have hown := HH.out.2
      have hgood := HH.out.1
      rw [List.take_length] at hown hgood
      have HR2 : Hid (R = #[.string ⟨(encAll zs).toArray⟩, .int .i64 0]) := by
        show _ = _
        rw [← HR.out, hgood]
        rfl
      have hconv := conv_own hown
      obtain ⟨Z, hZ⟩ : ∃ Z, ByteArray.mk (encAll zs).toArray = Z := ⟨_, rfl⟩
      rw [hZ] at hconv HR2
      clear hZ hown hgood HH hlt
      go_wp2
      go_ret2
      exact ⟨by rw [HR2.out]; rfl, hB⟩

set_option maxRecDepth 100000 in
theorem rencode_nil (w : World) : Calls Tryd.prog 21 #[.slice none 0 0] w (EncPost [] w) := by
  have hconv := conv_own (l := []) (World.ownsRow_nil w w.heap.size 5 1)
  unfold EncPost
  go_enter Tryd.func21, Tryd.ntmps21
  go_wp2
  go_loopg [4, 5] 1 (fun _ v4 v5 wr => v4 = .slice none 0 0 ∧ v5 = .int .i64 0 ∧ wr = w)
  case atStart => exact ⟨rfl, rfl, rfl⟩
  case round =>
    obtain ⟨rfl, rfl, rfl⟩ := hrel
    go_wp2
    go_ret2
    exact ⟨rfl, Below.refl _ _⟩
theorem rencode_any (zs : List Int) (v : Value) (w : World) (hn : zs.length ≤ 1000000) (hv : ListAt w v zs) : Calls Tryd.prog 21 #[v] w (EncPost zs w) := by
  rcases hv with ⟨rfl, rfl⟩ | ⟨a, cap, rfl, h⟩
  · exact rencode_nil w
  · exact rencode_at zs a cap w hn h

theorem same_nil (a a' : Option Addr) (c c' : Nat) (w : World) : Calls Tryd.prog 22 #[.slice a 0 c, .slice a' 0 c'] w fun e w' => e = .returned (.bool true) ∧ Below w.heap.size w w' := by
  go_enter Tryd.func22, Tryd.ntmps22
  go_wp2
  go_loopw [5] (fun iv wr => iv = .int .i64 0 ∧ wr = w) (fun _ _ => 0)
  case atStart => exact ⟨rfl, rfl⟩
  case round =>
    obtain ⟨rfl, rfl⟩ := hrel
    go_wp2
    go_ret
    exact ⟨rfl, Below.refl _ _⟩

/-- Two rows of the call's own that hold the same numbers are the same. -/
theorem same_rows {B B' : Nat} {w : World} {v v' : Value} (zs : List Int) (hn : zs.length ≤ 1000000) (h : w.ownsRow B 21 1 v zs.length (zs.map fun x => .int .i32 x)) (h' : w.ownsRow B' 21 1 v' zs.length (zs.map fun x => .int .i32 x)) :
    Calls Tryd.prog 22 #[v, v'] w fun e w' => e = .returned (.bool true) ∧ Below w.heap.size w w' := by
  have form : ∀ {B0 : Nat} {u : Value}, w.ownsRow B0 21 1 u zs.length (zs.map fun x => .int .i32 x) → (∃ a c, u = .slice a zs.length c) := fun {B0 u} hu => by
    rcases hu.2 with ⟨e1, e2⟩ | ⟨g, cap, cur, e1, _⟩
    · exact ⟨none, 0, by rw [e1, e2]⟩
    · exact ⟨some ⟨g, 0, none⟩, cap, e1⟩
  by_cases h0 : zs.length = 0
  · obtain ⟨a, c, rfl⟩ := form h
    obtain ⟨a', c', rfl⟩ := form h'
    rw [h0]
    exact same_nil a a' c c' w
  · have a1 := h.2
    have a2 := h'.2
    rcases a1 with ⟨_, e⟩ | ⟨g, cap, cur, rfl, _⟩
    · exact absurd e h0
    rcases a2 with ⟨_, e⟩ | ⟨g', cap', cur', rfl, _⟩
    · exact absurd e h0
    exact same_any zs g cap g' cap' w hn (cells_i32 h) (cells_i32 h')
end Go.Proofs.YtiefpdoefdldpaaDoor
