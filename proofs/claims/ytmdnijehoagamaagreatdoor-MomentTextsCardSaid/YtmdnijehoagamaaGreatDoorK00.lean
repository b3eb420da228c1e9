/- FL A B C D -/
import Derived.Below
import Derived.BigQuiet
import Derived.Deep.LoopGhost
import Derived.Deep.QuietTactic
import Derived.IntWalk
import Derived.KernelRfl
import Derived.Laws.BytesArg
import Derived.Lib.ConvBytes
import Derived.Lib.Hide
import Derived.Lib.IndexBytes
import Derived.Lib.SmallJoins
import Derived.Lib.Strings
import Derived.OrdersHeld
import Derived.OwnWalk
import Derived.Test.YtmdnijehoagamaaGreatDoorProg
import Derived.WalkKit
set_option linter.unusedVariables false
set_option linter.unusedSimpArgs false
namespace Go.Proofs.YtmdnijehoagamaaGreatDoor
theorem fl : (∀ {α : Type} {xs : List α} {i : Nat} (h : i < xs.toArray.size), xs.toArray[i] = xs[i]'(by simpa using h)) ∧
    (∀ {α : Type} {a : α} {l : List α} (h : 0 < (a :: l).length), (a :: l)[0] = a) ∧
    (∀ {α : Type} {a : α} {l : List α} {i : Nat} (h : i + 1 < (a :: l).length), (a :: l)[i + 1] = l[i]'(Nat.lt_of_succ_lt_succ h)) ∧
    (∀ (a : Act) (v : Value), a.put none v = a) ∧
    (∀ (a : Act) (d : Tmp) (v : Value), a.put (some d) v = { a with tmps := a.tmps.setIfInBounds d v }) ∧
    (∀ {α : Type} (l : List α) (i : Nat) (a : α), l.toArray.setIfInBounds i a = (l.set i a).toArray) ∧
    (∀ {α : Type} {x : α} {xs : List α} {a : α}, (x :: xs).set 0 a = a :: xs) ∧
    ∀ {α : Type} {x : α} {xs : List α} {i : Nat} {a : α}, (x :: xs).set (i + 1) a = x :: xs.set i a :=
  ⟨fun _ => by simp, fun _ => rfl, fun _ => rfl, fun _ _ => rfl, fun _ _ _ => rfl, fun _ _ _ => by simp, rfl, rfl⟩
theorem tk {P : Program} {ops : Array Oper} {Q : Exit → Act → World → Prop} {md : Region.Mode} {S : World → Prop} {oi : Oper} {v : Value} {fuel : Nat} {listed : Array Bool} {a : Act} {w : World} (i : Nat) (hS : S w)
    (hy : ∀ w, S w → (execOp a.eval oi).run P w = .ok (.value v) w) (h : wpAnyH P md ops Q S fuel (listed.setIfInBounds i true) (a.put oi.dst v) w) (hi : ops[i]? = some oi := by rfl)
    (hb : (Region.noSelect ops && Region.free md ops listed i && (Region.ready md ops listed).contains i) = true := by kernel_rfl) (hw : Region.wanted oi (yielded ops a.tmps) = true := by rfl)
    (hQ : ∀ c a w, Q (.panic c) (a.put oi.dst v) w → Q (.panic c) a w := by exact fun _ _ _ h => h) : wpAnyH P md ops Q S (fuel + 1) listed a w := by
  simp only [Bool.and_eq_true] at hb
  exact wpAnyH_take hi hb.1.1 hb.1.2 hb.2 hQ (Or.inl ⟨hw, hy⟩) hS h
def dg (c : UInt8) : Nat := (c - 48).toNat
theorem dg_eq (c : UInt8) (h : 48 ≤ c.toNat) : dg c = c.toNat - 48 := by
 unfold dg
 rw [UInt8.toNat_sub_of_le]
 ·rfl
 ·rw [UInt8.le_iff_toNat_le]
  exact h
def dStep (n : Nat) (c : UInt8) : Nat := n * 10 + dg c
def dval (acc : Nat) (l : List UInt8) : Nat := l.foldl dStep acc
def val (l : List UInt8) : Nat := dval 0 l
def AllD (l : List UInt8) : Prop := ∀ c ∈ l, 48 ≤ c.toNat ∧ c.toNat ≤ 57
def isD (c : UInt8) : Bool := decide (48 ≤ c.toNat ∧ c.toNat ≤ 57)
def allDB (l : List UInt8) : Bool := l.all isD
theorem allDB_iff (l : List UInt8) : allDB l = true ↔ AllD l := by
 unfold allDB AllD isD
 rw [List.all_eq_true]
 simp only [decide_eq_true_eq]
theorem AllD.nil : AllD [] := fun c h => by cases h
theorem AllD.cons {c : UInt8} {l : List UInt8} (h : 48 ≤ c.toNat ∧ c.toNat ≤ 57) (hl : AllD l) : AllD (c :: l) := fun x hx => by
 rcases List.mem_cons.1 hx with rfl | hx
 ·exact h
 ·exact hl x hx
theorem AllD.head {c : UInt8} {l : List UInt8} (h : AllD (c :: l)) : 48 ≤ c.toNat ∧ c.toNat ≤ 57 := h c List.mem_cons_self
theorem AllD.tail {c : UInt8} {l : List UInt8} (h : AllD (c :: l)) : AllD l := fun x hx => h x (List.mem_cons_of_mem _ hx)
theorem AllD.append {a b : List UInt8} (ha : AllD a) (hb : AllD b) : AllD (a ++ b) := fun x hx => (List.mem_append.1 hx).elim (ha x) (hb x)
theorem AllD.left {a b : List UInt8} (h : AllD (a ++ b)) : AllD a := fun x hx => h x (List.mem_append_left _ hx)
theorem AllD.right {a b : List UInt8} (h : AllD (a ++ b)) : AllD b := fun x hx => h x (List.mem_append_right _ hx)
theorem AllD.take {a : List UInt8} (h : AllD a) (n : Nat) : AllD (a.take n) := fun x hx => h x (List.mem_of_mem_take hx)
theorem AllD.drop {a : List UInt8} (h : AllD a) (n : Nat) : AllD (a.drop n) := fun x hx => h x (List.mem_of_mem_drop hx)
theorem AllD.zeros (n : Nat) : AllD (List.replicate n 48) := fun x hx => by
 rw [List.eq_of_mem_replicate hx]
 decide
theorem dval_acc (acc d p v : Nat) : (acc * 10 + d) * p + v = acc * (p * 10) + (d * p + v) := by
 rw [Nat.add_mul, Nat.mul_right_comm, ← Nat.mul_assoc, Nat.add_assoc]
theorem dval_nil (acc : Nat) : dval acc [] = acc := rfl
theorem dval_cons (acc : Nat) (c : UInt8) (l : List UInt8) : dval acc (c :: l) = dval (acc * 10 + dg c) l := rfl
theorem dval_eq (l : List UInt8) : ∀ acc, dval acc l = acc * 10 ^ l.length + dval 0 l := by
 induction l with
 | nil => intro acc; rw [dval_nil, dval_nil, List.length_nil, Nat.pow_zero, Nat.mul_one, Nat.add_zero]
 | cons c l ih =>
  intro acc
  rw [dval_cons, dval_cons, ih (acc * 10 + dg c), ih (0 * 10 + dg c), List.length_cons, Nat.pow_succ, Nat.zero_mul, Nat.zero_add, dval_acc]
theorem val_nil : val [] = 0 := rfl
theorem val_cons (c : UInt8) (l : List UInt8) : val (c :: l) = dg c * 10 ^ l.length + val l := by
 unfold val
 rw [dval_cons, dval_eq, Nat.zero_mul, Nat.zero_add]
theorem val_append (a b : List UInt8) : val (a ++ b) = val a * 10 ^ b.length + val b := by
 induction a with
 | nil => simp [val_nil]
 | cons c l ih =>
  rw [List.cons_append, val_cons, val_cons, ih, List.length_append, Nat.pow_add, Nat.add_mul, Nat.mul_assoc]
  omega
theorem val_snoc (a : List UInt8) (c : UInt8) : val (a ++ [c]) = val a * 10 + dg c := by
 rw [val_append, val_cons, val_nil]
 simp
theorem val_zeros (n : Nat) : val (List.replicate n 48) = 0 := by
 induction n with
 | zero => rfl
 | succ n ih =>
  rw [List.replicate_succ, val_cons, ih, show dg 48 = 0 from rfl]
  simp
theorem val_lt {l : List UInt8} (h : AllD l) : val l < 10 ^ l.length := by
 induction l with
 | nil => simp [val_nil]
 | cons c l ih =>
  have h1 := ih h.tail
  have h2 := h.head
  have h3 := dg_eq c h2.1
  rw [val_cons, List.length_cons, Nat.pow_succ]
  have : dg c * 10 ^ l.length ≤ 9 * 10 ^ l.length := Nat.mul_le_mul_right _ (by omega)
  omega
theorem val_ge {c : UInt8} {l : List UInt8} (h : AllD (c :: l)) (hc : c ≠ 48) : 10 ^ l.length ≤ val (c :: l) := by
 have h2 := h.head
 have h3 := dg_eq c h2.1
 have hne : c.toNat ≠ 48 := fun e => hc (UInt8.toNat_inj.1 (by rw [e]; rfl))
 rw [val_cons]
 have : 1 * 10 ^ l.length ≤ dg c * 10 ^ l.length := Nat.mul_le_mul_right _ (by omega)
 omega
def digsF : Nat → Nat → List UInt8
 | 0, n => [UInt8.ofNat (48 + n)]
 | k + 1, n => if n < 10 then [UInt8.ofNat (48 + n)] else digsF k (n / 10) ++ [UInt8.ofNat (48 + n % 10)]
def digs (n : Nat) : List UInt8 := digsF n n
theorem digsF_small {k n : Nat} (h : n < 10) : digsF k n = [UInt8.ofNat (48 + n)] := by
 cases k with
 | zero => rfl
 | succ k => rw [digsF, if_pos h]
theorem digsF_fuel (n : Nat) : ∀ k, n ≤ k → digsF k n = digsF n n := by
 induction n using Nat.strongRecOn with
 | ind n ih =>
  intro k hk
  by_cases h : n < 10
  ·rw [digsF_small h, digsF_small h]
  ·obtain ⟨k', rfl⟩ : ∃ k', k = k' + 1 := ⟨k - 1, by omega⟩
   obtain ⟨n', hn'⟩ : ∃ n', n = n' + 1 := ⟨n - 1, by omega⟩
   have e1 : digsF (k' + 1) n = digsF k' (n / 10) ++ [UInt8.ofNat (48 + n % 10)] := by rw [digsF, if_neg h]
   have e2 : digsF n n = digsF n' (n / 10) ++ [UInt8.ofNat (48 + n % 10)] := by
    rw [show digsF n n = digsF (n' + 1) n by rw [← hn'], digsF, if_neg h]
   rw [e1, e2, ih (n / 10) (by omega) k' (by omega), ih (n / 10) (by omega) n' (by omega)]
theorem digs_small {n : Nat} (h : n < 10) : digs n = [UInt8.ofNat (48 + n)] := digsF_small h
theorem digs_big {n : Nat} (h : ¬ n < 10) : digs n = digs (n / 10) ++ [UInt8.ofNat (48 + n % 10)] := by
 obtain ⟨n', hn'⟩ : ∃ n', n = n' + 1 := ⟨n - 1, by omega⟩
 show digsF n n = digsF (n / 10) (n / 10) ++ _
 rw [show digsF n n = digsF (n' + 1) n by rw [← hn'], digsF, if_neg h, digsF_fuel (n / 10) n' (by omega)]
theorem dig_nat {d : Nat} (h : d < 10) : (UInt8.ofNat (48 + d)).toNat = 48 + d := by
 rw [UInt8.toNat_ofNat']
 omega
theorem dg_nat {d : Nat} (h : d < 10) : dg (UInt8.ofNat (48 + d)) = d := by
 rw [dg_eq _ (by rw [dig_nat h]; omega), dig_nat h]
 omega
theorem dg_48 : dg 48 = 0 := rfl
theorem digs_all (n : Nat) : AllD (digs n) := by
 induction n using Nat.strongRecOn with
 | ind n ih =>
  by_cases h : n < 10
  ·rw [digs_small h]
   exact AllD.cons (by rw [dig_nat h]; omega) AllD.nil
  ·rw [digs_big h]
   refine (ih (n / 10) (by omega)).append (AllD.cons ?_ AllD.nil)
   rw [dig_nat (by omega)]
   omega
theorem digs_val (n : Nat) : val (digs n) = n := by
 induction n using Nat.strongRecOn with
 | ind n ih =>
  by_cases h : n < 10
  ·rw [digs_small h, val_cons, val_nil, dg_nat h]
   simp
  ·rw [digs_big h, val_snoc, ih (n / 10) (by omega), dg_nat (by omega)]
   omega
theorem digs_ne (n : Nat) : digs n ≠ [] := by
 by_cases h : n < 10
 ·rw [digs_small h]; simp
 ·rw [digs_big h]; simp
theorem digs_zero : digs 0 = [48] := by rw [digs_small (by omega)]; rfl
def Canon (l : List UInt8) : Prop := AllD l ∧ l ≠ [] ∧ (l.head? = some 48 → l.length = 1)
theorem canon_eq_len : ∀ (n : Nat) (l : List UInt8), l.length = n → Canon l → l = digs (val l) := by
 intro n
 induction n with
 | zero =>
  intro l hl h
  exact absurd (List.eq_nil_of_length_eq_zero hl) h.2.1
 | succ n ih =>
  intro l hl h
  rcases List.eq_nil_or_concat l with rfl | ⟨a, c, rfl⟩
  ·exact absurd rfl h.2.1
  ·rw [List.concat_eq_append] at *
   have hc := h.1.right.head
   have h9 := dg_eq c hc.1
   have hal : a.length = n := by simpa using hl
   have hcc : UInt8.ofNat (48 + dg c) = c := UInt8.toNat_inj.1 (by rw [dig_nat (by omega)]; omega)
   cases a with
   | nil =>
    rw [List.nil_append, val_cons, val_nil]
    simp only [List.length_nil, Nat.pow_zero, Nat.mul_one, Nat.add_zero]
    rw [digs_small (by omega), hcc]
   | cons d r =>
    have hd : d ≠ 48 := by
     rintro rfl
     have := h.2.2 rfl
     simp at this
    have hca : Canon (d :: r) := ⟨h.1.left, by simp, fun e => by simp at e; exact absurd e hd⟩
    have h1 := ih (d :: r) hal hca
    have h2 := val_ge h.1.left hd
    have h3 : 0 < 10 ^ r.length := Nat.pow_pos (by omega)
    rw [val_snoc, digs_big (by omega)]
    have e1 : (val (d :: r) * 10 + dg c) / 10 = val (d :: r) := by omega
    have e2 : (val (d :: r) * 10 + dg c) % 10 = dg c := by omega
    rw [e1, e2, ← h1, hcc]
theorem canon_eq {l : List UInt8} (h : Canon l) : l = digs (val l) := canon_eq_len _ l rfl h
theorem digs_canon (n : Nat) : Canon (digs n) := by
 refine ⟨digs_all n, digs_ne n, ?_⟩
 induction n using Nat.strongRecOn with
 | ind n ih =>
  by_cases h : n < 10
  ·rw [digs_small h]; intro _; rfl
  ·rw [digs_big h]
   intro e
   exfalso
   cases hd : digs (n / 10) with
   | nil => exact digs_ne _ hd
   | cons c r =>
    rw [hd] at e
    simp only [List.cons_append, List.head?_cons, Option.some.injEq] at e
    have h1 := ih (n / 10) (by omega)
    rw [hd] at h1
    have h2 := h1 (by rw [e]; rfl)
    have h3 : r = [] := List.eq_nil_of_length_eq_zero (by simpa using h2)
    subst h3
    subst e
    have h4 := digs_val (n / 10)
    rw [hd] at h4
    have h5 : val [48] = 0 := by rw [val_cons, val_nil, dg_48]; simp
    omega
def bareL : List UInt8 → List UInt8
 | [] => []
 | [c] => [c]
 | c :: d :: l => if c = 48 then bareL (d :: l) else c :: d :: l
theorem bareL_skip (d : UInt8) (l : List UInt8) : bareL (48 :: d :: l) = bareL (d :: l) := by
 rw [bareL, if_pos rfl]
theorem bareL_stop {c : UInt8} {l : List UInt8} (h : c ≠ 48 ∨ l = []) : bareL (c :: l) = c :: l := by
 cases l with
 | nil => rfl
 | cons d l =>
  rw [bareL, if_neg (h.resolve_right (by simp))]
theorem bareL_canon : ∀ (l : List UInt8), AllD l → l ≠ [] → Canon (bareL l) ∧ val (bareL l) = val l
 | [], _, h => absurd rfl h
 | [c], h, _ => ⟨⟨h, by simp [bareL], fun _ => rfl⟩, rfl⟩
 | c :: d :: l, h, _ => by
  by_cases hc : c = 48
  ·subst hc
   rw [bareL_skip]
   have ih := bareL_canon (d :: l) h.tail (by simp)
   refine ⟨ih.1, ih.2.trans ?_⟩
   rw [val_cons 48, dg_48]
   simp
  ·rw [bareL_stop (.inl hc)]
   exact ⟨⟨h, by simp, fun e => by simp at e; exact absurd e hc⟩, rfl⟩
theorem bareL_digs {l : List UInt8} (h : AllD l) (hne : l ≠ []) : bareL l = digs (val l) := by
 obtain ⟨h1, h2⟩ := bareL_canon l h hne
 rw [← h2]
 exact canon_eq h1
theorem digs_len_lt (n : Nat) : n < 10 ^ (digs n).length := by
 have := val_lt (digs_all n)
 rwa [digs_val] at this
theorem digs_len_le {n k : Nat} (h : n < 10 ^ k) (hk : 1 ≤ k) : (digs n).length ≤ k := by
 induction k generalizing n with
 | zero => omega
 | succ k ih =>
  by_cases h1 : n < 10
  ·rw [digs_small h1]; simp
  ·rw [digs_big h1, List.length_append]
   have h2 : n / 10 < 10 ^ k := by
    rw [Nat.pow_succ] at h
    omega
   have h3 : 1 ≤ k := by
    rcases Nat.eq_zero_or_pos k with rfl | h4
    ·simp at h; omega
    ·exact h4
   have := ih h2 h3
   simp
   omega
theorem digs_len_ge {n : Nat} (h : n ≠ 0) : 10 ^ ((digs n).length - 1) ≤ n := by
 induction n using Nat.strongRecOn with
 | ind n ih =>
  by_cases h1 : n < 10
  ·rw [digs_small h1]; simp; omega
  ·rw [digs_big h1, List.length_append]
   have h2 := ih (n / 10) (by omega) (by omega)
   have h3 : (digs (n / 10)).length ≠ 0 := fun e => digs_ne _ (List.eq_nil_of_length_eq_zero e)
   obtain ⟨k, hk⟩ : ∃ k, (digs (n / 10)).length = k + 1 := ⟨_, (Nat.succ_pred_eq_of_ne_zero h3).symm⟩
   rw [hk] at h2 ⊢
   simp only [Nat.add_sub_cancel, List.length_cons, List.length_nil] at h2 ⊢
   rw [Nat.pow_succ]
   omega
end Go.Proofs.YtmdnijehoagamaaGreatDoor
namespace Go.Proofs.YtmdnijehoagamaaGreatDoor
set_option maxRecDepth 100000
set_option maxHeartbeats 2000000
open Go.RowKit
theorem bytes_ext {a b : ByteArray} (h : a.data.toList = b.data.toList) : a = b := by
 obtain ⟨⟨a⟩⟩ := a
 obtain ⟨⟨b⟩⟩ := b
 simp only at h
 rw [h]
theorem ret_string {a b : ByteArray} (h : a = b) : Ending.returned (.string a) = .returned (.string b) := by rw [h]
theorem bytes_len (s : ByteArray) : s.data.toList.length = s.size := (Lib.size_eq s).symm
theorem bytes_mk (l : List UInt8) : (ByteArray.mk l.toArray).data.toList = l := by simp
theorem bytes_mk_size (l : List UInt8) : (ByteArray.mk l.toArray).size = l.length := by simp [ByteArray.size]
theorem bytes_of {s : ByteArray} {l : List UInt8} (h : s.data.toList = l) : s = ⟨l.toArray⟩ := bytes_ext (by rw [h])
theorem byte_at {s : ByteArray} {l : List UInt8} (h : s.data.toList = l) {k : Nat} (hk : k < s.size) (hl : k < l.length) : s[k] = l[k] := by
 subst h
 rfl
def digB (l : List UInt8) : Bool := allDB l && !l.isEmpty
theorem digB_iff (l : List UInt8) : digB l = true ↔ AllD l ∧ l ≠ [] := by
 unfold digB
 rw [Bool.and_eq_true, allDB_iff]
 cases l <;> simp
theorem rdigits_any (s : ByteArray) (hs : s.size ≤ maxLen) (w : World) :
  Calls Tryz.prog 70 #[.string s] w fun e w' => e = .returned (.bool (digB s.data.toList)) ∧ w = w' := by
 obtain ⟨L, hL⟩ : ∃ L, s.data.toList = L := ⟨_, rfl⟩
 have hLs : L.length = s.size := by rw [← hL]; exact bytes_len s
 have HL := Lib.hid (And.intro hL hLs)
 unfold maxLen at hs
 have hemp : s.toList.isEmpty = L.isEmpty := by rw [Lib.toList_data, hL]
 rw [hL]
 clear hL hLs
 obtain ⟨q, hq⟩ : ∃ q, L.isEmpty = q := ⟨_, rfl⟩
 rw [hq] at hemp
 have HQ := Lib.hid hq
 clear hq
 go_enter Tryz.func70, Tryz.ntmps70
 go_wp2
 go_loopg [3] (s.size + 1) (fun gk v3 wr => ∃ k : Nat, v3 = .int .i64 (k : Int) ∧ k ≤ s.size ∧ gk + k = s.size + 1 ∧ Hid (allDB (L.take k) = true) ∧ wr = w)
 case atStart => exact ⟨0, rfl, Nat.zero_le _, rfl, Lib.hid rfl, rfl⟩
 case round =>
  obtain ⟨k, rfl, hk, hgk, HT, rfl⟩ := hrel
  by_cases hlt : k < s.size
  ·have hkL : k < L.length := by rw [HL.out.2]; exact hlt
   have hget := byte_at HL.out.1 hlt hkL
   have hsplit : L = L.take k ++ L[k] :: L.drop (k + 1) := by rw [← List.drop_eq_getElem_cons hkL, List.take_append_drop]
   rw [← hget] at hsplit
   by_cases h1 : (s[k].toNat : Int) < 48
   ·have hb : Hid (digB L = false) := by
     show _ = _
     unfold digB allDB
     rw [hsplit, List.all_append, List.all_cons]
     have : isD s[k] = false := by unfold isD; exact decide_eq_false (by omega)
     rw [this]
     simp
    clear hget hsplit hkL HT
    go_wp2
    go_ret
    exact ⟨by rw [hb.out]; rfl, rfl⟩
   by_cases h2 : 57 < (s[k].toNat : Int)
   ·have hb : Hid (digB L = false) := by
     show _ = _
     unfold digB allDB
     rw [hsplit, List.all_append, List.all_cons]
     have : isD s[k] = false := by unfold isD; exact decide_eq_false (by omega)
     rw [this]
     simp
    clear hget hsplit hkL HT
    go_wp2
    go_ret
    exact ⟨by rw [hb.out]; rfl, rfl⟩
   have hT2 : Hid (allDB (L.take (k + 1)) = true) := by
    show _ = _
    have hd : isD s[k] = true := by unfold isD; exact decide_eq_true (by omega)
    rw [List.take_add_one, List.getElem?_eq_getElem hkL, ← hget]
    unfold allDB
    rw [List.all_append]
    have := HT.out
    unfold allDB at this
    rw [this]
    simp [hd]
   clear hget hsplit hkL HT
   go_wp2
   go_roundg (gk - 1)
   case measure => omega
   case rel => exact ⟨k + 1, by go_num, by omega, by omega, hT2, rfl⟩
  ·obtain rfl : k = s.size := by omega
   have hb : Hid (digB L = !q) := by
    show _ = _
    have h1 := HT.out
    rw [← HL.out.2, List.take_length] at h1
    unfold digB
    rw [h1, HQ.out, Bool.true_and]
   clear HT
   go_wp2
   go_ret
   exact ⟨by rw [hb.out]; rfl, rfl⟩
theorem bare_any (s : ByteArray) (hs : s.size ≤ maxLen) (w : World) :
  Calls Tryz.prog 109 #[.string s] w fun e w' => e = .returned (.string ⟨(bareL s.data.toList).toArray⟩) ∧ w = w' := by
 obtain ⟨R, hR⟩ : ∃ R, bareL s.data.toList = R := ⟨_, rfl⟩
 have HR := Lib.hid hR
 rw [hR]
 clear hR
 unfold maxLen at hs
 have hs0 : s.size ≤ s.size := Nat.le_refl _
 go_enter Tryz.func109, Tryz.ntmps109
 go_wp2
 go_loopg [0] (s.size + 1) (fun gk v0 wr => ∃ t : ByteArray, v0 = .string t ∧ t.size < gk ∧ t.size ≤ 9223372036854775807 ∧ Hid (bareL t.data.toList = R) ∧ wr = w)
 case atStart => exact ⟨s, rfl, by omega, hs, HR, rfl⟩
 case round =>
  obtain ⟨t, rfl, hgk, htm, HT, rfl⟩ := hrel
  clear HR hs
  by_cases h1 : 1 < t.size
  ·have hp : 0 < t.size := by omega
   have hp1 : 1 ≤ t.size := by omega
   have hlen := bytes_len t
   have hex : (t.extract 1 t.size).size = t.size - 1 := by rw [ByteArray.size_extract]; omega
   have hexl : (t.extract 1 t.size).data.toList = t.data.toList.drop 1 := Lib.extract_to_end t 1
   cases hT : t.data.toList with
   | nil => rw [hT] at hlen; simp at hlen; omega
   | cons c r =>
    have hc : t[0] = c := byte_at hT hp (by simp)
    have HTo := HT.out
    rw [hT] at HTo hexl
    cases r with
    | nil => rw [hT] at hlen; simp at hlen; omega
    | cons d l =>
     simp only [List.drop_succ_cons, List.drop_zero] at hexl
     by_cases h48 : (t[0].toNat : Int) = 48
     ·have hc48 : c = 48 := by rw [← hc]; exact UInt8.toNat_inj.1 (by have : (48 : UInt8).toNat = 48 := rfl; omega)
      rw [hc48, bareL_skip] at HTo
      obtain ⟨u, hu⟩ : ∃ u, t.extract 1 t.size = u := ⟨_, rfl⟩
      rw [hu] at hex hexl
      have HU : Hid (bareL u.data.toList = R) := by show _ = _; rw [hexl]; exact HTo
      clear HTo hexl hc hc48 hlen hT HT
      have hus : u.size < gk - 1 := by omega
      have hum : u.size ≤ 9223372036854775807 := by omega
      clear hex
      go_wp2
      go_roundg (gk - 1)
      case measure => omega
      case rel => exact ⟨u, rfl, hus, hum, HU, rfl⟩
     ·have hne : c ≠ 48 := by rw [← hc]; intro e; rw [e] at h48; exact h48 rfl
      rw [bareL_stop (.inl hne), ← hT] at HTo
      have HO := Lib.hid HTo
      clear HTo hexl hc hne hlen hex hT HT
      go_wp2
      go_ret
      exact ⟨by rw [← HO.out]; exact ret_string (bytes_of rfl), rfl⟩
  ·have HO : Hid (t.data.toList = R) := by
    show _ = _
    have hlen := bytes_len t
    rw [← HT.out]
    cases hT : t.data.toList with
    | nil => rfl
    | cons c r =>
     cases r with
     | nil => rfl
     | cons d l => rw [hT] at hlen; simp at hlen; omega
   clear HT
   go_wp2
   go_ret
   exact ⟨by rw [← HO.out]; exact ret_string (bytes_of rfl), rfl⟩
def zs (n : Nat) : ByteArray := ⟨(List.replicate n (48 : UInt8)).toArray⟩
theorem zs_list (n : Nat) : (zs n).data.toList = List.replicate n 48 := bytes_mk _
theorem zs_size (n : Nat) : (zs n).size = n := by rw [← bytes_len, zs_list, List.length_replicate]
theorem zeros_any (n : Int) (h0 : n ≤ 100000) (w : World) :
  Calls Tryz.prog 85 #[.int .i64 n] w fun e w' => e = .returned (.string (zs n.toNat)) ∧ w = w' := by
 obtain ⟨R, hR⟩ : ∃ R, zs n.toNat = R := ⟨_, rfl⟩
 have HR := Lib.hid hR
 rw [hR]
 clear hR
 go_enter Tryz.func85, Tryz.ntmps85
 go_wp2
 go_loopg [3, 4] (n.toNat + 1) (fun gk v3 v4 wr => ∃ (k : Nat) (t : ByteArray), v4 = .int .i64 (k : Int) ∧ v3 = .string t ∧ k ≤ n.toNat ∧ gk + k = n.toNat + 1 ∧ Hid (t.data.toList = List.replicate k 48) ∧ wr = w)
 case atStart => exact ⟨0, ⟨#[]⟩, rfl, rfl, Nat.zero_le _, rfl, Lib.hid rfl, rfl⟩
 case round =>
  obtain ⟨k, t, rfl, rfl, hk, hgk, HT, rfl⟩ := hrel
  have hlen : t.size = k := by rw [← bytes_len, HT.out, List.length_replicate]
  by_cases hlt : (k : Int) < n
  ·have HT2 : Hid ((t ++ ⟨#[48]⟩ : ByteArray).data.toList = List.replicate (k + 1) 48) := by
    show _ = _
    rw [Joins.data_append, HT.out, List.replicate_succ']
   have hts : t.size + 1 ≤ 9223372036854775807 := by omega
   clear HT hlen
   go_wp2
   go_roundg (gk - 1)
   case measure => omega
   case rel => exact ⟨k + 1, _, by go_num, rfl, by omega, by omega, HT2, rfl⟩
  ·have hkn : k = n.toNat := by omega
   have HO : Hid (t = R) := by show _ = _; rw [← HR.out, ← hkn]; exact bytes_of HT.out
   clear HT hkn hlen
   go_wp2
   go_ret
   exact ⟨by rw [← HO.out]; rfl, rfl⟩
end Go.Proofs.YtmdnijehoagamaaGreatDoor
namespace Go.Proofs.YtmdnijehoagamaaGreatDoor
set_option maxRecDepth 100000
set_option maxHeartbeats 1000000
open Go.RowKit
theorem bytesLess_val : ∀ (a b : List UInt8), a.length = b.length → AllD a → AllD b → Op.bytesLess a b = decide (val a < val b)
 | [], [], _, _, _ => rfl
 | [], _ :: _, h, _, _ => by simp at h
 | _ :: _, [], h, _, _ => by simp at h
 | c :: a, d :: b, h, ha, hb => by
  have hl : a.length = b.length := by simpa using h
  have ih := bytesLess_val a b hl ha.tail hb.tail
  have h1 := val_lt ha.tail
  have h2 := val_lt hb.tail
  have hc := ha.head
  have hd := hb.head
  have e1 := dg_eq c hc.1
  have e2 := dg_eq d hd.1
  rw [val_cons, val_cons, e1, e2, hl]
  rw [hl] at h1
  unfold Op.bytesLess
  rw [ih]
  generalize 10 ^ b.length = p at h1 h2 ⊢
  by_cases hlt : c < d
  ·rw [UInt8.lt_iff_toNat_lt] at hlt
   have hm : (c.toNat - 48 + 1) * p ≤ (d.toNat - 48) * p := Nat.mul_le_mul_right _ (by omega)
   rw [Nat.add_mul, Nat.one_mul] at hm
   simp only [UInt8.lt_iff_toNat_lt, hlt, decide_true, Bool.true_or]
   exact (decide_eq_true (by omega)).symm
  ·by_cases heq : c = d
   ·subst heq
    simp
   ·have hgt : d.toNat < c.toNat := by
     rw [UInt8.lt_iff_toNat_lt] at hlt
     have : c.toNat ≠ d.toNat := fun e => heq (UInt8.toNat_inj.1 e)
     omega
    have hm : (d.toNat - 48 + 1) * p ≤ (c.toNat - 48) * p := Nat.mul_le_mul_right _ (by omega)
    rw [Nat.add_mul, Nat.one_mul] at hm
    have hn : ¬ ((c.toNat - 48) * p + val a < (d.toNat - 48) * p + val b) := by omega
    simp [hlt, heq, hn]
theorem digs_lt_len {m n : Nat} (h : (digs m).length < (digs n).length) : m < n := by
 have h1 := digs_len_lt m
 have hn : n ≠ 0 := by
  rintro rfl
  rw [digs_zero] at h
  have : (digs m).length ≠ 0 := fun e => digs_ne _ (List.eq_nil_of_length_eq_zero e)
  simp only [List.length_cons, List.length_nil] at h
  omega
 have h2 := digs_len_ge hn
 have h3 : 10 ^ (digs m).length ≤ 10 ^ ((digs n).length - 1) := Nat.pow_le_pow_right (by omega) (by omega)
 exact Nat.lt_of_lt_of_le h1 (Nat.le_trans h3 h2)
def numS (n : Nat) : ByteArray := ⟨(digs n).toArray⟩
theorem numS_list (n : Nat) : (numS n).data.toList = digs n := bytes_mk _
theorem numS_size (n : Nat) : (numS n).size = (digs n).length := by rw [← bytes_len, numS_list]
theorem numS_toList (n : Nat) : (numS n).toList = digs n := by rw [Lib.toList_data, numS_list]
structure IsNum (s : ByteArray) (n : Nat) : Prop where
 all : AllD s.data.toList
 ne : s.data.toList ≠ []
 val : val s.data.toList = n
theorem IsNum.num (n : Nat) : IsNum (numS n) n := ⟨by rw [numS_list]; exact digs_all n, by rw [numS_list]; exact digs_ne n, by rw [numS_list]; exact digs_val n⟩
theorem IsNum.pos {s : ByteArray} {n : Nat} (h : IsNum s n) : 0 < s.size := by
 rw [← bytes_len]
 exact List.length_pos_iff.2 h.ne
theorem IsNum.size_le {s : ByteArray} {n : Nat} (h : IsNum s n) : (digs n).length ≤ s.size := by
 refine digs_len_le ?_ h.pos
 have := val_lt h.all
 rw [h.val, bytes_len] at this
 exact this
theorem IsNum.bare {s : ByteArray} {n : Nat} (h : IsNum s n) : bareL s.data.toList = digs n := by
 rw [bareL_digs h.all h.ne, h.val]
theorem bare_num {s : ByteArray} {n : Nat} (h : IsNum s n) (hs : s.size ≤ maxLen) (w : World) :
  Calls Tryz.prog 109 #[.string s] w fun e w' => e = .returned (.string (numS n)) ∧ w = w' := by
 have hb := bare_any s hs w
 rw [h.bare] at hb
 exact hb
theorem less_num {a b : ByteArray} {m n : Nat} (ha : IsNum a m) (hb : IsNum b n) (hsa : a.size ≤ maxLen) (hsb : b.size ≤ maxLen) (w : World) :
  Calls Tryz.prog 117 #[.string a, .string b] w fun e w' => e = .returned (.bool (decide (m < n))) ∧ w = w' := by
 have c1 := fun W => bare_num ha hsa W
 have c2 := fun W => bare_num hb hsb W
 have hz1 := numS_size m
 have hz2 := numS_size n
 by_cases hlt : (digs m).length < (digs n).length
 ·rw [decide_eq_true (digs_lt_len hlt)]
  have h1 : ((numS m).size : Int) < ((numS n).size : Int) := by omega
  have h1' : (numS m).size < (numS n).size := by omega
  generalize numS m = x at *
  generalize numS n = y at *
  clear hlt hz1 hz2 ha hb hsa hsb
  go_enter Tryz.func117, Tryz.ntmps117
  go_wp2_with fail
  refine (c1 _).mono ?_
  rintro e w1 ⟨rfl, rfl⟩
  go_wp2_with fail
  refine (c2 _).mono ?_
  rintro e w2 ⟨rfl, rfl⟩
  go_wp2_with fail
  go_ret
  exact ⟨rfl, rfl⟩
 by_cases heq : (digs m).length = (digs n).length
 ·have hv := bytesLess_val (digs m) (digs n) heq (digs_all m) (digs_all n)
  rw [digs_val, digs_val, ← numS_toList m, ← numS_toList n] at hv
  have h1 : ¬ (numS m).size < (numS n).size := by omega
  have h2 : (numS m).size = (numS n).size := by omega
  obtain ⟨q, hq⟩ : ∃ q, decide (m < n) = q := ⟨_, rfl⟩
  rw [hq] at hv ⊢
  generalize numS m = x at *
  generalize numS n = y at *
  clear hlt heq hz1 hz2 ha hb hsa hsb hq
  go_enter Tryz.func117, Tryz.ntmps117
  go_wp2_with fail
  refine (c1 _).mono ?_
  rintro e w1 ⟨rfl, rfl⟩
  go_wp2_with fail
  refine (c2 _).mono ?_
  rintro e w2 ⟨rfl, rfl⟩
  go_wp2_with fail
  go_ret
  exact ⟨rfl, rfl⟩
 ·have hgt : n < m := digs_lt_len (by omega)
  rw [decide_eq_false (by omega)]
  have h1 : ¬ (numS m).size < (numS n).size := by omega
  have h2 : ¬ (numS m).size = (numS n).size := by omega
  generalize numS m = x at *
  generalize numS n = y at *
  clear hlt heq hz1 hz2 ha hb hsa hsb hgt
  go_enter Tryz.func117, Tryz.ntmps117
  go_wp2_with fail
  refine (c1 _).mono ?_
  rintro e w1 ⟨rfl, rfl⟩
  go_wp2_with fail
  refine (c2 _).mono ?_
  rintro e w2 ⟨rfl, rfl⟩
  go_wp2_with fail
  go_ret
  exact ⟨rfl, rfl⟩
end Go.Proofs.YtmdnijehoagamaaGreatDoor
namespace Go.Proofs.YtmdnijehoagamaaGreatDoor
set_option maxRecDepth 100000
set_option maxHeartbeats 400000
open Go.RowKit
structure Buf (b : Nat) (O : List UInt8) (W : World) : Prop where
 cell : ∀ j c, O[j]? = some c → W.cell? ⟨b, j, none⟩ = some (.int .u8 (c.toNat : Int))
 free : ∀ j, j < O.length → W.frozen? ⟨b, j, none⟩ = false
theorem Buf.set {b : Nat} {O : List UInt8} {W : World} (h : Buf b O W) {i : Nat} (hi : i < O.length) (c : UInt8) : Buf b (O.set i c) (W.setCell ⟨b, i, none⟩ (.int .u8 (c.toNat : Int))) := by
 have hold := h.cell i O[i] (List.getElem?_eq_getElem hi)
 refine ⟨fun j x hj => ?_, fun j hj => ?_⟩
 ·by_cases hij : i = j
  ·subst hij
   rw [List.getElem?_set_self hi] at hj
   cases hj
   exact World.cell?_setCell_same _ _ _ hold
  ·rw [List.getElem?_set_ne hij] at hj
   rw [World.cell?_setCell_other _ _ _ _ (fun e => hij (by cases e; rfl))]
   exact h.cell j x hj
 ·rw [World.frozen?_setCell]
  exact h.free j (by simpa using hj)
theorem Buf.str {b : Nat} {O : List UInt8} {W : World} (h : Buf b O W) (cap : Nat) : (convert 93 9 (.slice (some ⟨b, 0, none⟩) O.length cap)).run Tryz.prog W = .ok (.string ⟨O.toArray⟩) W := by
 have hc := run_convert_bytes_arg (P := Tryz.prog) W 93 5 Tryz.underlying93 Tryz.underlying5 b 0 O.length cap (O.map fun c => (c.toNat : Int)) (by simp) (fun i hi => by
  rw [Nat.zero_add, h.cell i O[i] (List.getElem?_eq_getElem hi)]
  simp [List.getD, hi]) 9 Tryz.underlying9
 rw [hc]
 refine congrArg (fun z => Result.ok (Value.string z) W) ?_
 apply bytes_ext
 rw [strOfNums_data, List.map_map]
 show O.map _ = O
 conv => rhs; rw [← List.map_id O]
 exact List.map_congr_left fun c _ => UInt8.toNat_inj.1 (by
  have := c.toNat_lt
  show (UInt8.ofNat ((c.toNat : Int)).toNat).toNat = c.toNat
  rw [Int.toNat_natCast, UInt8.toNat_ofNat']
  omega)
theorem Buf.made (w : World) (s : ByteArray) : Buf w.heap.size s.data.toList (Lib.bytesWorld w 5 s) := by
 refine ⟨fun j c hj => ?_, fun j hj => ?_⟩
 ·have hjs : j < s.size := by rw [← bytes_len]; exact (List.getElem?_eq_some_iff.1 hj).1
  rw [Lib.bytesWorld_cell w 5 s j hjs]
  simp [List.getD, hj]
 ·have h1 := Lib.bytesWorld_at_new w 5 s
  have h2 : j < (Lib.bytesCells w 5 s).size := by
   have h3 := Lib.bytesWorld_cell w 5 s j (by rw [← bytes_len]; exact hj)
   unfold World.cell? at h3
   simp only [h1] at h3
   exact (Array.getElem?_eq_some_iff.1 h3).1
  unfold World.frozen?
  simp only [h1]
  simp
  omega
theorem Buf.drew {b : Nat} {O : List UInt8} {W : World} (h : Buf b O W) (n : Nat) : Buf b O (W.drewN n) := ⟨h.cell, h.free⟩
theorem below_drewN {B : Nat} {a w : World} (h : Below B a w) (n : Nat) : Below B a (w.drewN n) := h.trans ⟨rfl, rfl, rfl, Nat.le_refl _, fun _ _ => rfl⟩
theorem plus_step (p x y c r q vT vA vB : Nat) (h : vT + c * p = vA + vB) (hD : x + y + c = 10 * q + r) : (r * p + vT) + q * (p * 10) = (x * p + vA) + (y * p + vB) := by
 have h1 : (x + y + c) * p = (10 * q + r) * p := by rw [hD]
 rw [Nat.add_mul, Nat.add_mul, Nat.add_mul] at h1
 have e : q * (p * 10) = 10 * q * p := by rw [Nat.mul_comm p 10, ← Nat.mul_assoc, Nat.mul_comm q 10]
 omega
structure PlusAt (A B : List UInt8) (N k c : Nat) (O : List UInt8) : Prop where
 form : ∃ T : List UInt8, O = A.take (N - k) ++ T ∧ T.length = k ∧ AllD T ∧ val T + c * 10 ^ k = val (A.drop (N - k)) + val (B.drop (N - k))
theorem PlusAt.next {A B O : List UInt8} {N k c j : Nat} (h : PlusAt A B N k c O) (hA : A.length = N) (hB : B.length = N) (hAD : AllD A) (hBD : AllD B) (hj : j + k + 1 = N) (ha : j < A.length) (hb : j < B.length)
  (d : UInt8) (hd : d.toNat = 48 + (A[j].toNat - 48 + (B[j].toNat - 48) + c) % 10) : PlusAt A B N (k + 1) ((A[j].toNat - 48 + (B[j].toNat - 48) + c) / 10) (O.set j d) := by
 obtain ⟨T, hO, hT, hTD, hv⟩ := h.form
 have e1 : N - k = j + 1 := by omega
 have e2 : N - (k + 1) = j := by omega
 have hx := hAD A[j] (List.getElem_mem ha)
 have hy := hBD B[j] (List.getElem_mem hb)
 refine ⟨d :: T, ?_, by simp [hT], AllD.cons (by omega) hTD, ?_⟩
 ·rw [hO, e1, e2, List.take_add_one, List.getElem?_eq_getElem ha]
  have hl : (A.take j).length = j := by rw [List.length_take]; omega
  simp only [Option.toList_some, List.append_assoc, List.singleton_append]
  rw [List.set_append_right _ _ (by omega), hl, Nat.sub_self]
  rfl
 ·rw [e2, List.drop_eq_getElem_cons ha, List.drop_eq_getElem_cons hb, val_cons, val_cons, val_cons]
  rw [e1] at hv
  have l1 : (A.drop (j + 1)).length = k := by rw [List.length_drop]; omega
  have l2 : (B.drop (j + 1)).length = k := by rw [List.length_drop]; omega
  rw [l1, l2, hT, dg_eq d (by omega), dg_eq _ hx.1, dg_eq _ hy.1, Nat.pow_succ]
  refine plus_step _ _ _ c _ _ _ _ _ hv ?_
  rw [hd]
  omega
theorem PlusAt.last {A B O : List UInt8} {N c m n : Nat} (h : PlusAt A B N N c O) (hm : val A = m) (hn : val B = n) (h1 : m + n < 10 ^ N) : AllD O ∧ O.length = N ∧ val O = m + n := by
 obtain ⟨T, hO, hT, hTD, hv⟩ := h.form
 rw [Nat.sub_self, List.take_zero, List.nil_append] at hO
 rw [Nat.sub_self, List.drop_zero, List.drop_zero, hm, hn] at hv
 subst hO
 refine ⟨hTD, hT, ?_⟩
 have hc : c = 0 := by
  rcases Nat.eq_zero_or_pos c with h0 | h0
  ·exact h0
  ·have : 1 * 10 ^ N ≤ c * 10 ^ N := Nat.mul_le_mul_right _ h0
   omega
 rw [hc] at hv
 omega
theorem IsNum.lt {s : ByteArray} {n : Nat} (h : IsNum s n) : n < 10 ^ s.size := by
 have h1 := val_lt h.all
 rw [h.val, bytes_len] at h1
 exact h1
end Go.Proofs.YtmdnijehoagamaaGreatDoor
