/- NS OC OT -/
import Derived.Test.YtmdnijehoagamaaGreatDoorK20
set_option linter.unusedVariables false
set_option linter.unusedSimpArgs false
namespace Go.Proofs.YtmdnijehoagamaaGreatDoor
open Go.RowKit
def setL (W : World) (b : Nat) : Nat → List Value → World
 | _, [] => W
 | j, v :: t => setL (W.setCell ⟨b, j, none⟩ v) b (j + 1) t
theorem HasL.setAt {b : Nat} : ∀ (us old pre : List Value) {W : World} (_ : HasL W b (pre ++ old)) (_ : old.length = us.length), HasL (Go.Proofs.YtmdnijehoagamaaGreatDoor.setL W b pre.length us) b (pre ++ us)
 | [], old, pre, _, h, e => by
  have : old = [] := List.eq_nil_of_length_eq_zero e
  rw [this] at h
  exact h
 | u :: us, [], _, _, _, e => by simp at e
 | u :: us, o :: old, pre, W, h, e => by
  have h1 := h.set pre.length u (by simp)
  rw [show (pre ++ o :: old).set pre.length u = (pre ++ [u]) ++ old by simp] at h1
  have h2 := HasL.setAt us old (pre ++ [u]) h1 (by simpa using e)
  rw [List.length_append, List.append_assoc] at h2
  exact h2
theorem HasL.setL {W : World} {b : Nat} {vs : List Value} (h : HasL W b vs) (us : List Value) (e : vs.length = us.length) : HasL (Go.Proofs.YtmdnijehoagamaaGreatDoor.setL W b 0 us) b us := HasL.setAt us vs [] h e
theorem HasL.setOne {W : World} {b : Nat} {vs : List Value} (h : HasL W b vs) (j : Nat) (u : Value) (hj : j < vs.length) : HasL (Go.Proofs.YtmdnijehoagamaaGreatDoor.setL W b j [u]) b (vs.set j u) := h.set j u hj
theorem HasL.farL {W : World} {b c : Nat} {vs : List Value} (h : HasL W b vs) (hne : c ≠ b) (j : Nat) (us : List Value) : HasL (Go.Proofs.YtmdnijehoagamaaGreatDoor.setL W c j us) b vs := by
 induction us generalizing W j with
 | nil => exact h
 | cons u us ih => exact ih (h.far hne j u) (j + 1)
theorem setStepL {w W : World} (B : Below w.heap.size w W) {b : Nat} (hb : w.heap.size ≤ b) (j : Nat) (us : List Value) : Below w.heap.size w (setL W b j us) := by
 induction us generalizing W j with
 | nil => exact B
 | cons u us ih => exact ih (setStep B hb j u) (j + 1)
structure KD (w : World) (L : List (Nat × List Value)) (W : World) : Prop where
 has : ∀ p ∈ L, HasL W p.1 p.2
 old : Below w.heap.size w W
 new : ∀ p ∈ L, w.heap.size ≤ p.1
 apart : L.Pairwise (fun p q => p.1 ≠ q.1)
theorem KD.nil (w : World) : KD w [] w := ⟨by simp, Below.refl _ _, by simp, List.Pairwise.nil⟩
theorem KD.call {w W W' : World} {L : List (Nat × List Value)} (h : KD w L W) (B : Below W.heap.size W W') : KD w L W' := ⟨fun p hp => (h.has p hp).call B, step h.old B, h.new, h.apart⟩
theorem KD.alloc {w W : World} {L : List (Nat × List Value)} (h : KD w L W) (o : Obj) : KD w L (W.alloc o) := h.call ((Below.refl _ _).alloc (Nat.le_refl _) o)
theorem KD.drew1 {w W : World} {L : List (Nat × List Value)} (h : KD w L W) : KD w L W.drew := h.call (below_drew1 _)
theorem KD.drewN {w W : World} {L : List (Nat × List Value)} (h : KD w L W) (n : Nat) : KD w L (W.drewN n) := h.call (below_drewN (Below.refl _ _) n)
theorem KD.add {w W : World} {L : List (Nat × List Value)} (h : KD w L W) {g : Nat} {vs : List Value} (hg : HasL W g vs) (hn : w.heap.size ≤ g) (ha : ∀ p ∈ L, p.1 ≠ g) : KD w (L ++ [(g, vs)]) W :=
 ⟨fun p hp => by
  rcases List.mem_append.1 hp with h1 | h1
  ·exact h.has p h1
  ·rw [List.mem_singleton] at h1; subst h1; exact hg, h.old, fun p hp => by
  rcases List.mem_append.1 hp with h1 | h1
  ·exact h.new p h1
  ·rw [List.mem_singleton] at h1; subst h1; exact hn, by
  rw [List.pairwise_append]
  exact ⟨h.apart, List.pairwise_singleton _ _, fun p hp q hq => by rw [List.mem_singleton] at hq; subst hq; exact ha p hp⟩⟩
theorem KD.push {w W : World} {L : List (Nat × List Value)} (h : KD w L W) (vs : List Value) (T : TypeId) {n : Nat} (hn : W.heap.size = n) : KD w (L ++ [(n, vs)]) (W.alloc (.cells vs.toArray T)) := by
 subst hn
 exact (h.alloc _).add (HasL.new W vs T) h.old.size fun p hp => Nat.ne_of_lt (h.has p hp).lt
theorem KD.at {w W : World} {L : List (Nat × List Value)} (h : KD w L W) (i : Nat) {b : Nat} {vs : List Value} (hi : L[i]? = some (b, vs)) : HasL W b vs := h.has (b, vs) (List.mem_of_getElem? hi)
theorem KD.ge {w W : World} {L : List (Nat × List Value)} (h : KD w L W) (i : Nat) {b : Nat} {vs : List Value} (hi : L[i]? = some (b, vs)) : w.heap.size ≤ b := h.new (b, vs) (List.mem_of_getElem? hi)
theorem KD.ne {w W : World} {L : List (Nat × List Value)} (h : KD w L W) (i j : Nat) {b c : Nat} {vs us : List Value} (hi : L[i]? = some (b, vs)) (hj : L[j]? = some (c, us)) (hij : i < j) : b ≠ c := by
 have h1 := List.pairwise_iff_getElem.1 h.apart i j
 obtain ⟨l1, e1⟩ := List.getElem?_eq_some_iff.1 hi
 obtain ⟨l2, e2⟩ := List.getElem?_eq_some_iff.1 hj
 have := h1 l1 l2 hij
 rw [e1, e2] at this
 exact this
theorem KD.ne' {w W : World} {L : List (Nat × List Value)} (h : KD w L W) (i j : Nat) {b c : Nat} {vs us : List Value} (hi : L[i]? = some (b, vs)) (hj : L[j]? = some (c, us)) (hij : i < j) : c ≠ b := fun e => h.ne i j hi hj hij e.symm
theorem KD.put {w W : World} {L : List (Nat × List Value)} (h : KD w L W) (i : Nat) {b : Nat} {vs : List Value} (hi : L[i]? = some (b, vs)) (j : Nat) (xs us : List Value) (hh : HasL (setL W b j xs) b us) : KD w (L.set i (b, us)) (setL W b j xs) := by
 obtain ⟨li, ei⟩ := List.getElem?_eq_some_iff.1 hi
 have hap := List.pairwise_iff_getElem.1 h.apart
 refine ⟨fun p hp => ?_, setStepL h.old (h.ge i hi) j xs, fun p hp => ?_, ?_⟩
 ·obtain ⟨k, hk, e⟩ := List.getElem_of_mem hp
  rw [List.getElem_set] at e
  split at e
  ·subst e; exact hh
  ·next hne =>
   have hk2 : k < L.length := by simpa using hk
   subst e
   refine (h.has _ (List.getElem_mem hk2)).farL ?_ j xs
   rcases Nat.lt_or_ge i k with h1 | h1
   ·have := hap i k li hk2 h1
    rw [ei] at this
    exact this
   ·have := hap k i hk2 li (by omega)
    rw [ei] at this
    exact fun q => this q.symm
 ·obtain ⟨k, hk, e⟩ := List.getElem_of_mem hp
  rw [List.getElem_set] at e
  split at e
  ·subst e; exact h.ge i hi
  ·subst e; exact h.new _ (List.getElem_mem _)
 ·rw [List.pairwise_iff_getElem]
  intro k l hk hl hkl
  have hk2 : k < L.length := by simpa using hk
  have hl2 : l < L.length := by simpa using hl
  have := hap k l hk2 hl2 hkl
  rw [List.getElem_set, List.getElem_set]
  split
  ·next e =>
   subst e
   rw [if_neg (by omega)]
   rw [ei] at this
   exact this
  ·split
   ·next e => subst e; rw [ei] at this; exact this
   ·exact this
theorem KD.store {w W : World} {L : List (Nat × List Value)} (h : KD w L W) (i : Nat) {b : Nat} {vs : List Value} (hi : L[i]? = some (b, vs)) (us : List Value) (he : vs.length = us.length) : KD w (L.set i (b, us)) (setL W b 0 us) := h.put i hi 0 us us ((h.at i hi).setL us he)
theorem KD.store1 {w W : World} {L : List (Nat × List Value)} (h : KD w L W) (i : Nat) {b : Nat} {vs : List Value} (hi : L[i]? = some (b, vs)) (j : Nat) (u : Value) (hj : j < vs.length) : KD w (L.set i (b, vs.set j u)) (setL W b j [u]) := h.put i hi j [u] _ ((h.at i hi).setOne j u hj)
theorem KD.tabs {w W : World} {L : List (Nat × List Value)} (h : KD w L W) (hT : Tabs w) : Tabs W := hT.next h.old
def Own (w : World) (L : List (Nat × List Value)) (g : Nat) : Prop := w.heap.size ≤ g ∧ ∀ p ∈ L, p.1 ≠ g
theorem KD.fresh {w W : World} {L : List (Nat × List Value)} (h : KD w L W) : Own w L W.heap.size := ⟨h.old.size, fun p hp => Nat.ne_of_lt (h.has p hp).lt⟩
theorem KD.far {w W : World} {L : List (Nat × List Value)} (h : KD w L W) {g : Nat} (hg : Own w L g) (j : Nat) (us : List Value) : KD w L (setL W g j us) :=
 ⟨fun p hp => (h.has p hp).farL (fun e => hg.2 p hp e.symm) j us, setStepL h.old hg.1 j us, h.new, h.apart⟩
theorem KD.end1 {w W : World} {L : List (Nat × List Value)} (h : KD w L W) {g : Nat} {vs : List Value} (hg : HasL W g vs) (ho : Own w L g) : KD w (L ++ [(g, vs)]) W := h.add hg ho.1 ho.2
theorem KD.end2 {w W : World} {L : List (Nat × List Value)} (h : KD w L W) {g g' : Nat} {vs vs' : List Value} (hg : HasL W g vs) (ho : Own w L g) (hg' : HasL W g' vs') (ho' : Own w L g') (hne : g ≠ g') : KD w (L ++ [(g, vs)] ++ [(g', vs')]) W :=
 (h.end1 hg ho).add hg' ho'.1 fun p hp => by
  rcases List.mem_append.1 hp with h1 | h1
  ·exact ho'.2 p h1
  ·rw [List.mem_singleton] at h1; subst h1; exact hne
theorem tail0 {C : Prop} (H : World → Prop) (G : World → Prop) (main : (∀ x, H x → G x) → C) (proof : ∀ x, H x → G x) : C := main proof
theorem tail1 {C : Prop} (H : World → Nat → Prop) (G : World → Nat → Prop) (main : (∀ x g, H x g → G x g) → C) (proof : ∀ x g, H x g → G x g) : C := main proof
theorem tail2 {C : Prop} (H : World → Nat → Nat → Prop) (G : World → Nat → Nat → Prop) (main : (∀ x g h, H x g h → G x g h) → C) (proof : ∀ x g h, H x g h → G x g h) : C := main proof
end Go.Proofs.YtmdnijehoagamaaGreatDoor
namespace Go.Proofs.YtmdnijehoagamaaGreatDoor
set_option maxRecDepth 100000
set_option maxHeartbeats 4000000
open Go.RowKit
theorem near_set {w : World} (b j : Nat) (v : Value) : Near [b] w (w.setCell ⟨b, j, none⟩ v) := (Near.refl [b] w).set (by simp) j v
theorem drop_one {s : ByteArray} {x : UInt8} {t : List UInt8} (h : s.data.toList = x :: t) : s.extract 1 s.size = ⟨t.toArray⟩ := bytes_ext (by rw [from_list, h, bytes_mk]; rfl)
theorem self_list {s : ByteArray} {l : List UInt8} (h : s.data.toList = l) : s = ⟨l.toArray⟩ := bytes_of h
theorem r_is (b : Nat) (s : ByteArray) (bad : Bool) (c : UInt8) (hs : s.size ≤ 100000) (w : World) (h : HasL w b [.string s, .bool bad]) :
  Calls Tryz.prog 34 #[.pointer (some ⟨b, 0, none⟩), .string ⟨#[c]⟩] w fun e w' => e = .returned (.bool (isP c s.data.toList).1) ∧ HasL w' b [.string ⟨(isP c s.data.toList).2.toArray⟩, .bool bad] ∧ Near [b] w w' := by
 have d0 := h.cell 0 rfl
 have z0 := h.frozen 0 rfl
 have H := Lib.hid h
 clear h
 obtain ⟨l, hl⟩ : ∃ l, s.data.toList = l := ⟨_, rfl⟩
 rw [hl]
 have HL := Lib.hid hl
 cases l with
 | nil =>
  have hc : (s.size : Int) < 1 := by rw [← bytes_len, hl]; simp
  have HP : Hid (isP c [] = (false, []) ∧ s = ⟨#[]⟩) := Lib.hid ⟨rfl, self_list hl⟩
  clear hl
  go_enter Tryz.func34, Tryz.ntmps34
  go_wp2
  go_ret
  exact ⟨by rw [HP.out.1]; rfl, by rw [HP.out.1, show (⟨((false, ([] : List UInt8)).2).toArray⟩ : ByteArray) = s from HP.out.2.symm]; exact H.out, Near.refl _ _⟩
 | cons x t =>
  have hz : ¬ (s.size : Int) < 1 := by have := bytes_len s; rw [hl] at this; simp at this; omega
  have he : (s.extract 0 1).toList = [x] := by rw [Lib.toList_data, upto_list, hl]; rfl
  obtain ⟨q, hq⟩ : ∃ q, ((s.extract 0 1).toList == [c]) = q := ⟨_, rfl⟩
  have hx : q = decide (x = c) := by rw [← hq, he]; by_cases hx : x = c <;> simp [hx]
  have HX := Lib.hid hx
  clear he hx hl
  cases q
  ·have HP : Hid (isP c (x :: t) = (false, x :: t)) := Lib.hid (by show (if x = c then (true, t) else (false, x :: t)) = _; rw [if_neg (of_decide_eq_false HX.out.symm)])
   go_enter Tryz.func34, Tryz.ntmps34
   go_wp2
   go_ret
   exact ⟨by rw [HP.out]; rfl, by rw [HP.out, ← self_list HL.out]; exact H.out, Near.refl _ _⟩
  ·have HP : Hid (isP c (x :: t) = (true, t)) := Lib.hid (by show (if x = c then (true, t) else (false, x :: t)) = _; rw [if_pos (of_decide_eq_true HX.out.symm)])
   have HD : Hid (s.extract 1 s.size = ⟨t.toArray⟩) := Lib.hid (drop_one HL.out)
   go_enter Tryz.func34, Tryz.ntmps34
   go_wp2
   go_ret
   exact ⟨by rw [HP.out]; rfl, by rw [HP.out, HD.out]; exact H.out.set 0 (.string ⟨t.toArray⟩) (by simp), near_set _ _ _⟩
theorem r_want (b : Nat) (s : ByteArray) (bad : Bool) (c : UInt8) (hs : s.size ≤ 100000) (w : World) (h : HasL w b [.string s, .bool bad]) :
  Calls Tryz.prog 36 #[.pointer (some ⟨b, 0, none⟩), .string ⟨#[c]⟩] w fun e w' => e = .returned (.tuple #[]) ∧ HasL w' b [.string ⟨(isP c s.data.toList).2.toArray⟩, .bool (bad || !(isP c s.data.toList).1)] ∧ Near [b] w w' := by
 have c1 := fun W hW => r_is b s bad c hs W hW
 have H := Lib.hid h
 clear h hs
 generalize (⟨(isP c s.data.toList).2.toArray⟩ : ByteArray) = r at *
 generalize (isP c s.data.toList).1 = q at *
 go_enter Tryz.func36, Tryz.ntmps36
 go_wp2_with fail
 refine (c1 _ H.out).mono ?_
 rintro e w1 ⟨rfl, h1, n1⟩
 have H1 := Lib.hid h1
 have d1 := h1.cell 1 rfl
 have z1 := h1.frozen 1 rfl
 clear h1 H c1
 cases q
 ·go_wp2
  refine bodyPost_end (results_none rfl _ _ _) rfl ?_
  exact ⟨rfl, by simpa using H1.out.set 1 (.bool true) (by simp), n1.trans (near_set _ _ _)⟩
 ·go_wp2
  refine bodyPost_end (results_none rfl _ _ _) rfl ?_
  exact ⟨rfl, by simpa using H1.out, n1⟩
def NumPost (b : Nat) (l : List UInt8) (z : Nat) (bad : Bool) (k : Nat) (w : World) (e : Ending) (w' : World) : Prop :=
 ∃ (n : Nat) (r : ByteArray) (bad' : Bool), e = .returned (.int .i64 (n : Int)) ∧ n < 10 ^ k ∧ r.size ≤ z ∧ Stp (numP k l) bad n r.data.toList bad' ∧ HasL w' b [.string r, .bool bad'] ∧ Near [b] w w'
def NumAt (k i : Nat) (l : List UInt8) (n : Nat) (r : ByteArray) : Prop := i ≤ l.length ∧ AllD (l.take i) ∧ n = val (l.take i) ∧ r.data.toList = l.drop i
theorem r_number (b : Nat) (s : ByteArray) (bad : Bool) (k : Nat) (hk : k ≤ 4) (hs : s.size ≤ 100000) (w : World) (h : HasL w b [.string s, .bool bad]) :
  Calls Tryz.prog 35 #[.pointer (some ⟨b, 0, none⟩), .int .i64 (k : Int)] w (NumPost b s.data.toList s.size bad k w) := by
 obtain ⟨l, hl⟩ : ∃ l, s.data.toList = l := ⟨_, rfl⟩
 have hll : l.length = s.size := by rw [← hl, bytes_len]
 rw [hl]
 have HK := Lib.hid hk
 have HLL := Lib.hid hll
 have H0 : Hid (NumAt k 0 l 0 s ∧ HasL w b [.string s, .bool bad] ∧ Near [b] w w) := Lib.hid ⟨⟨Nat.zero_le _, by simp [AllD.nil], rfl, hl⟩, h, Near.refl _ _⟩
 clear h hl hll
 go_enter Tryz.func35, Tryz.ntmps35
 go_wp2
 go_loopg [5, 6] (k + 1) (fun gk v5 v6 wr => ∃ (i n : Nat) (r : ByteArray), v6 = .int .i64 (i : Int) ∧ v5 = .int .i64 (n : Int) ∧ i ≤ k ∧ gk + i = k + 1 ∧ n < 10000 ∧ Hid (NumAt k i l n r ∧ HasL wr b [.string r, .bool bad] ∧ Near [b] w wr))
 case atStart => exact ⟨0, 0, s, rfl, rfl, Nat.zero_le _, rfl, by omega, H0⟩
 case round =>
  obtain ⟨i, n, r, rfl, rfl, hi, hgk, hn, HN⟩ := hrel
  clear H0
  have d0 := HN.out.2.1.cell 0 rfl
  have z0 := HN.out.2.1.frozen 0 rfl
  have z1 := HN.out.2.1.frozen 1 rfl
  have d1 := HN.out.2.1.cell 1 rfl
  by_cases hlt : i < k
  ·have hlti : (i : Int) < (k : Int) := by omega
   cases hd : l.drop i with
   | nil =>
    have he : r.toList.isEmpty = true := by rw [Lib.toList_data, HN.out.1.2.2.2, hd]; rfl
    have HNO : Hid (numP k l = none) := Lib.hid (by
     have h1 : l.length ≤ i := List.drop_eq_nil_iff.1 hd
     unfold numP
     rw [if_neg]
     intro g
     have := ((hasDg_iff k l).1 g).1
     omega)
    have HR : Hid (r.size ≤ s.size) := Lib.hid (by rw [← bytes_len, HN.out.1.2.2.2, hd]; simp)
    clear hd hlt
    go_wp2
    go_ret
    refine ⟨0, r, true, rfl, Nat.pow_pos (by omega), HR.out, ?_, HN.out.2.1.set 1 (.bool true) (by simp), HN.out.2.2.trans (near_set _ _ _)⟩
    rw [HNO.out]
    unfold Stp
    split <;> rfl
   | cons x t =>
    have hrl : r.data.toList = x :: t := by rw [HN.out.1.2.2.2, hd]
    have he : r.toList.isEmpty = false := by rw [Lib.toList_data, hrl]; rfl
    have hp : 0 < r.size := by rw [← bytes_len, hrl]; simp
    have hx := byte_at hrl hp (by simp)
    simp only [List.getElem_cons_zero] at hx
    have HX := Lib.hid hx
    have HRL := Lib.hid hrl
    have hil : i < l.length := by
     have := congrArg List.length hd
     rw [List.length_drop] at this
     simp at this
     omega
    have htk : l.take (i + 1) = l.take i ++ [x] := by
     rw [List.take_succ_eq_append_getElem hil]
     have : l.drop i = l[i] :: l.drop (i + 1) := List.drop_eq_getElem_cons hil
     rw [hd] at this
     rw [(List.cons.inj this).1]
    have htd : l.drop (i + 1) = t := by
     have : l.drop i = l[i] :: l.drop (i + 1) := List.drop_eq_getElem_cons hil
     rw [hd] at this
     exact (List.cons.inj this).2.symm
    have HTK := Lib.hid htk
    have HTD := Lib.hid htd
    have HIL := Lib.hid hil
    have HR : Hid (r.size ≤ s.size) := Lib.hid (by
     rw [← bytes_len r, HN.out.1.2.2.2, List.length_drop, HLL.out]
     omega)
    have hrs : r.size ≤ 100000 := Nat.le_trans HR.out hs
    clear hd hrl hx htk htd hil
    have hfail : ¬ (48 ≤ x.toNat ∧ x.toNat ≤ 57) → Hid (numP k l = none) := fun hbad => Lib.hid (by
     unfold numP
     rw [if_neg]
     intro g
     have h1 := ((hasDg_iff k l).1 g).2
     have h2 : l.take (i + 1) = (l.take k).take (i + 1) := by rw [List.take_take, Nat.min_eq_left (by omega)]
     have h3 : x ∈ l.take k := by
      have : x ∈ l.take (i + 1) := by rw [HTK.out]; simp
      rw [h2] at this
      exact List.mem_of_mem_take this
     exact hbad (h1 x h3))
    by_cases h1 : (r[0].toNat : Int) < 48
    ·have HNO := hfail (by rw [← HX.out]; omega)
     clear hfail hlt
     go_wp2
     go_ret
     refine ⟨0, r, true, rfl, Nat.pow_pos (by omega), HR.out, ?_, HN.out.2.1.set 1 (.bool true) (by simp), HN.out.2.2.trans (near_set _ _ _)⟩
     rw [HNO.out]
     unfold Stp
     split <;> rfl
    by_cases h2 : 57 < (r[0].toNat : Int)
    ·have HNO := hfail (by rw [← HX.out]; omega)
     clear hfail hlt
     go_wp2
     go_ret
     refine ⟨0, r, true, rfl, Nat.pow_pos (by omega), HR.out, ?_, HN.out.2.1.set 1 (.bool true) (by simp), HN.out.2.2.trans (near_set _ _ _)⟩
     rw [HNO.out]
     unfold Stp
     split <;> rfl
    have HG : Hid (48 ≤ x.toNat ∧ x.toNat ≤ 57) := Lib.hid (by rw [← HX.out]; omega)
    have HNX : Hid (NumAt k (i + 1) l (n * 10 + (r[0].toNat - 48)) (r.extract 1 r.size)) := Lib.hid (by
     obtain ⟨a1, a2, a3, a4⟩ := HN.out.1
     refine ⟨HIL.out, ?_, ?_, ?_⟩
     ·rw [HTK.out]; exact a2.append (AllD.cons HG.out AllD.nil)
     ·rw [HTK.out, val_snoc, a3, HX.out, dg_eq x HG.out.1]
     ·rw [from_list, HRL.out, HTD.out]; rfl)
    have HBD : Hid (n * 10 + (r[0].toNat - 48) < 10000) := Lib.hid (by
     obtain ⟨a1, a2, a3, a4⟩ := HNX.out
     have := val_lt a2
     rw [← a3, List.length_take] at this
     have hmin : min (i + 1) l.length ≤ 4 := by have := HK.out; omega
     exact Nat.lt_of_lt_of_le this (Nat.pow_le_pow_right (by omega) hmin))
    have w8 : IntKind.u8.wrap ((r[0].toNat : Int) - 48) = (r[0].toNat : Int) - 48 := by rw [IntKind.wrap_u8]; omega
    have wm : IntKind.i64.wrap ((n : Int) * 10) = (n : Int) * 10 := IntWalk.i64_in _ (by omega)
    have wa : IntKind.i64.wrap ((n : Int) * 10 + ((r[0].toNat : Int) - 48)) = (n : Int) * 10 + ((r[0].toNat : Int) - 48) := IntWalk.i64_in _ (by omega)
    clear hfail hlt hrs
    go_wp2
    go_roundg (gk - 1)
    case measure => omega
    case rel => exact ⟨i + 1, n * 10 + (r[0].toNat - 48), r.extract 1 r.size, by go_num, by congr 1; omega, by omega, by omega, HBD.out, Lib.hid ⟨HNX.out, HN.out.2.1.set 0 _ (by simp), HN.out.2.2.trans (near_set _ _ _)⟩⟩
  ·obtain rfl : i = k := by omega
   have HOK : Hid (numP i l = some (n, r.data.toList)) := Lib.hid (by
    obtain ⟨a1, a2, a3, a4⟩ := HN.out.1
    unfold numP
    rw [if_pos ((hasDg_iff i l).2 ⟨a1, a2⟩), a3, a4])
   clear hlt
   go_wp2
   go_ret
   refine ⟨n, r, bad, rfl, (numP_bd HOK.out).1, ?_, ?_, HN.out.2.1, HN.out.2.2⟩
   ·rw [← bytes_len r, ← bytes_len s, bytes_len s, ← HLL.out]
    exact (numP_bd HOK.out).2
   ·rw [HOK.out]
    unfold Stp
    split <;> simp_all
end Go.Proofs.YtmdnijehoagamaaGreatDoor
namespace Go.Proofs.YtmdnijehoagamaaGreatDoor
open Go.RowKit
theorem KD.near {w W W' : World} {L : List (Nat × List Value)} (h : KD w L W) (i : Nat) {b : Nat} {vs : List Value} (hi : L[i]? = some (b, vs)) {us : List Value} (hh : HasL W' b us) (n : Near [b] W W') : KD w (L.set i (b, us)) W' := by
 obtain ⟨li, ei⟩ := List.getElem?_eq_some_iff.1 hi
 have hap := List.pairwise_iff_getElem.1 h.apart
 refine ⟨fun p hp => ?_, Near.under h.old n (by intro x hx; rw [List.mem_singleton] at hx; subst hx; exact h.ge i hi), fun p hp => ?_, ?_⟩
 ·obtain ⟨k, hk, e⟩ := List.getElem_of_mem hp
  rw [List.getElem_set] at e
  split at e
  ·subst e; exact hh
  ·next hne =>
   have hk2 : k < L.length := by simpa using hk
   subst e
   refine (h.has _ (List.getElem_mem hk2)).near n ?_
   rw [List.mem_singleton]
   rcases Nat.lt_or_ge i k with h1 | h1
   ·have := hap i k li hk2 h1
    rw [ei] at this
    exact fun q => this q.symm
   ·have := hap k i hk2 li (by omega)
    rw [ei] at this
    exact this
 ·obtain ⟨k, hk, e⟩ := List.getElem_of_mem hp
  rw [List.getElem_set] at e
  split at e
  ·subst e; exact h.ge i hi
  ·subst e; exact h.new _ (List.getElem_mem _)
 ·rw [List.pairwise_iff_getElem]
  intro k l hk hl hkl
  have hk2 : k < L.length := by simpa using hk
  have hl2 : l < L.length := by simpa using hl
  have := hap k l hk2 hl2 hkl
  rw [List.getElem_set, List.getElem_set]
  split
  ·next e =>
   subst e
   rw [if_neg (by omega)]
   rw [ei] at this
   exact this
  ·split
   ·next e => subst e; rw [ei] at this; exact this
   ·exact this
theorem want_stp (c : UInt8) (l : List UInt8) (bad : Bool) : Stp (chP c l) bad () (isP c l).2 (bad || !(isP c l).1) := by
 unfold Stp chP
 cases bad
 ·cases h : (isP c l).1 <;> simp
 ·simp
end Go.Proofs.YtmdnijehoagamaaGreatDoor
