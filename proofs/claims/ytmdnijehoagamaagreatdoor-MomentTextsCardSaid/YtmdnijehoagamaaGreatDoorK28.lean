/- OL OM -/
import Derived.WalkLawsBesides
import Derived.Test.YtmdnijehoagamaaGreatDoorK23
import Derived.Test.YtmdnijehoagamaaGreatDoorK24
set_option linter.unusedVariables false
set_option linter.unusedSimpArgs false
namespace Go.Proofs.YtmdnijehoagamaaGreatDoor
set_option maxRecDepth 100000
set_option maxHeartbeats 4000000
open Go.RowKit
def inS (signs : ByteArray) (c : UInt8) : Bool := decide (0 ≤ Lib.indexByte signs.data.toList c)
def runN (signs : ByteArray) (most : Nat) (l : List UInt8) : Nat := ((l.take most).takeWhile (inS signs)).length
def outOf (e : Int) : Ending := .panicked [{ v := .iface 27 (.int .i64 e), recovered := false }]
def TakePost (b : Nat) (signs : ByteArray) (least most : Nat) (s : ByteArray) (w : World) (e : Ending) (w' : World) : Prop :=
 if runN signs most s.data.toList < least then e = outOf 6 ∧ w' = w
 else e = .returned (.string (s.extract 0 (runN signs most s.data.toList))) ∧ HasL w' b [.string (s.extract (runN signs most s.data.toList) s.size)] ∧ Near [b] w w'
def RunAt (signs : ByteArray) (most i : Nat) (l : List UInt8) : Prop := i ≤ l.length ∧ i ≤ most ∧ ∀ c ∈ l.take i, inS signs c = true
theorem run_end {signs : ByteArray} {most i : Nat} {l : List UInt8} (h : RunAt signs most i l) (hs : i = most ∨ i = l.length ∨ ∃ c r, l.drop i = c :: r ∧ inS signs c = false) : runN signs most l = i := by
 obtain ⟨h1, h2, h3⟩ := h
 unfold runN
 have e : l.take most = l.take i ++ (l.drop i).take (most - i) := by
  rw [← List.take_add, show i + (most - i) = most by omega]
 rw [e, List.takeWhile_append_of_pos h3, List.length_append, List.length_take, Nat.min_eq_left h1]
 have e2 : ((l.drop i).take (most - i)).takeWhile (inS signs) = [] := by
  rcases hs with g | g | ⟨c, r, g1, g2⟩
  ·rw [show most - i = 0 by omega]; rfl
  ·rw [List.drop_eq_nil_of_le (by omega)]; simp
  ·rw [g1]
   cases hk : most - i with
   | zero => rfl
   | succ k => rw [List.take_succ_cons, List.takeWhile_cons, g2]; rfl
 rw [e2]
 rfl
theorem p_take (b : Nat) (signs : ByteArray) (least most : Nat) (hl : least ≤ 9223372036854775807) (hm : most ≤ 9223372036854775807) (s : ByteArray) (hs : s.size ≤ 100000) (w : World) (h : HasL w b [.string s]) :
  Calls Tryz.prog 72 #[.string signs, .int .i64 (least : Int), .int .i64 (most : Int), .pointer (some ⟨b, 0, none⟩)] w (TakePost b signs least most s w) := by
 have cI := fun c W => Tryz.strings_IndexByte signs c W
 have d0 := h.cell 0 rfl
 have z0 := h.frozen 0 rfl
 have H := Lib.hid h
 clear h
 go_enter Tryz.func72, Tryz.ntmps72
 go_wp2
 go_loopg [8] (s.size + 1) (fun gk v8 wr => ∃ i : Nat, v8 = .int .i64 (i : Int) ∧ i ≤ s.size ∧ gk + i = s.size + 1 ∧ Hid (RunAt signs most i s.data.toList) ∧ wr = w)
 case atStart => exact ⟨0, rfl, Nat.zero_le _, rfl, Lib.hid ⟨Nat.zero_le _, Nat.zero_le _, by simp⟩, rfl⟩
 case round =>
  obtain ⟨i, rfl, hi, hgk, HR, rfl⟩ := hrel
  by_cases hlt : i < min most s.size
  ·have hlti : (i : Int) < min (most : Int) (s.size : Int) := by omega
   have his : i < s.size := by omega
   have hil : i < s.data.toList.length := by rw [bytes_len]; exact his
   have hget := byte_at rfl his hil
   have hdr : s.data.toList.drop i = s[i] :: s.data.toList.drop (i + 1) := by rw [List.drop_eq_getElem_cons hil, ← hget]
   have htk : s.data.toList.take (i + 1) = s.data.toList.take i ++ [s[i]] := by rw [List.take_succ_eq_append_getElem hil, ← hget]
   have HDR := Lib.hid hdr
   have HTK := Lib.hid htk
   have hc : ((s[i].toNat : Int)).toNat.toUInt8 = s[i] := by simp
   have cI2 := cI (s[i].toNat : Int)
   rw [hc] at cI2
   clear hdr htk hget hc cI
   obtain ⟨x, hx⟩ : ∃ x, Lib.indexByte signs.data.toList s[i] = x := ⟨_, rfl⟩
   rw [hx] at cI2
   have HX := Lib.hid hx
   clear hx
   by_cases hin : 0 ≤ x
   ·have HN : Hid (RunAt signs most (i + 1) s.data.toList) := Lib.hid (by
     obtain ⟨a1, a2, a3⟩ := HR.out
     refine ⟨by omega, by omega, fun c hc => ?_⟩
     rw [HTK.out] at hc
     rcases List.mem_append.1 hc with g | g
     ·exact a3 c g
     ·rw [List.mem_singleton] at g
      subst g
      unfold inS
      rw [HX.out]
      exact decide_eq_true hin)
    go_wp2_with fail
    refine (cI2 _).mono ?_
    rintro e w_ ⟨rfl, rfl⟩
    go_wp2
    go_roundg (gk - 1)
    case measure => omega
    case rel => exact ⟨i + 1, by go_num, by omega, by omega, HN, rfl⟩
   ·have HE : Hid (runN signs most s.data.toList = i) := Lib.hid (run_end HR.out (Or.inr (Or.inr ⟨_, _, HDR.out, by unfold inS; rw [HX.out]; exact decide_eq_false hin⟩)))
    have hxx : ¬ x ≥ 0 := hin
    by_cases hle : i < least
    ·have hlei : (i : Int) < (least : Int) := by omega
     go_wp2_with fail
     refine (cI2 _).mono ?_
     rintro e w_ ⟨rfl, rfl⟩
     go_wp2
     refine ⟨rfl, ?_⟩
     unfold TakePost
     rw [HE.out, if_pos hle]
     exact ⟨rfl, rfl⟩
    ·have hlei : ¬ (i : Int) < (least : Int) := by omega
     go_wp2_with fail
     refine (cI2 _).mono ?_
     rintro e w_ ⟨rfl, rfl⟩
     go_wp2
     go_ret
     unfold TakePost
     rw [HE.out, if_neg hle]
     exact ⟨rfl, H.out.set 0 _ (by simp), near_set _ _ _⟩
  ·have hlti : ¬ (i : Int) < min (most : Int) (s.size : Int) := by omega
   have HE : Hid (runN signs most s.data.toList = i) := Lib.hid (run_end HR.out (by have h2 := HR.out.2.1; have h3 := bytes_len s; omega))
   by_cases hle : i < least
   ·have hlei : (i : Int) < (least : Int) := by omega
    go_wp2
    refine ⟨rfl, ?_⟩
    unfold TakePost
    rw [HE.out, if_pos hle]
    exact ⟨rfl, rfl⟩
   ·have hlei : ¬ (i : Int) < (least : Int) := by omega
    go_wp2
    go_ret
    unfold TakePost
    rw [HE.out, if_neg hle]
    exact ⟨rfl, H.out.set 0 _ (by simp), near_set _ _ _⟩
def Stepped {A : Type} (p : Option (A × List UInt8)) (v : A → Value) (b : Nat) (w : World) (e : Ending) (w' : World) : Prop :=
 match p with
 | none => e = outOf 6 ∧ Near [b] w w'
 | some x => e = .returned (v x.1) ∧ HasL w' b [.string ⟨x.2.toArray⟩] ∧ Near [b] w w'
def digS6 : ByteArray := ⟨#[48, 49, 50, 51, 52, 53, 54, 55, 56, 57]⟩
theorem inS_dig (c : UInt8) : inS digS6 c = dgB c := by
 have h : ∀ n : Fin 256, inS digS6 (UInt8.ofNat n.1) = dgB (UInt8.ofNat n.1) := by decide +kernel
 have := h ⟨c.toNat, c.toNat_lt⟩
 simpa using this
theorem inS_one (c x : UInt8) : inS ⟨#[c]⟩ x = (x == c) := by
 unfold inS
 show decide (0 ≤ Lib.indexByte [c] x) = _
 unfold Lib.indexByte Lib.indexByte
 by_cases h : c = x
 ·subst h; simp
 ·have h2 : ¬ x = c := fun g => h g.symm
  simp [h, h2]
theorem runN_one (c : UInt8) (l : List UInt8) : runN ⟨#[c]⟩ 1 l = if (isP c l).1 then 1 else 0 := by
 unfold runN
 cases l with
 | nil => rfl
 | cons x t =>
  have e : isP c (x :: t) = if x = c then (true, t) else (false, x :: t) := rfl
  rw [e]
  by_cases h : x = c
  ·rw [if_pos h]; simp [inS_one, h]
  ·rw [if_neg h]; simp [inS_one, h]
theorem takeWhile_all {p : UInt8 → Bool} {l : List UInt8} (h : l.all p = true) : l.takeWhile p = l := by
 induction l with
 | nil => rfl
 | cons x t ih =>
  rw [List.all_cons, Bool.and_eq_true] at h
  rw [List.takeWhile_cons, h.1, if_pos rfl, ih h.2]
theorem takeWhile_lt {p : UInt8 → Bool} {l : List UInt8} (h : ¬ l.all p = true) : (l.takeWhile p).length < l.length := by
 induction l with
 | nil => exact absurd rfl h
 | cons x t ih =>
  rw [List.takeWhile_cons]
  cases hx : p x
  ·simp
  ·rw [if_pos rfl, List.length_cons, List.length_cons]
   have := ih fun g => h (by rw [List.all_cons, hx, g]; rfl)
   omega
theorem runN_dig (k : Nat) (l : List UInt8) : (hasDg k l = true → runN digS6 k l = k) ∧ (hasDg k l = false → runN digS6 k l < k) := by
 have e : inS digS6 = dgB := funext inS_dig
 unfold runN
 rw [e]
 constructor
 ·intro h
  unfold hasDg at h
  rw [Bool.and_eq_true, decide_eq_true_iff] at h
  rw [takeWhile_all h.2, List.length_take]
  omega
 ·intro h
  unfold hasDg at h
  have hl := List.length_take (i := k) (l := l)
  by_cases hk : k ≤ l.length
  ·rw [decide_eq_true hk, Bool.true_and] at h
   have := takeWhile_lt (p := dgB) (l := l.take k) (by rw [h]; simp)
   omega
  ·have : (List.takeWhile dgB (List.take k l)).length ≤ (List.take k l).length := (List.takeWhile_sublist _).length_le
   omega
theorem ext_list (s : ByteArray) (l : List UInt8) (h : s.data.toList = l) (n : Nat) : s.extract 0 n = ⟨(l.take n).toArray⟩ ∧ s.extract n s.size = ⟨(l.drop n).toArray⟩ := by
 constructor
 ·apply bytes_ext; rw [upto_list, h, bytes_mk]
 ·apply bytes_ext; rw [from_list, h, bytes_mk]
def takeA (b : Nat) (signs : ByteArray) (least most : Int) : Array Value := #[.string signs, .int .i64 least, .int .i64 most, .pointer (some ⟨b, 0, none⟩)]
theorem t_ch (b : Nat) (c : UInt8) (l : List UInt8) (hs : l.length ≤ 100000) (w : World) (h : HasL w b [.string ⟨l.toArray⟩]) :
  Calls Tryz.prog 72 (takeA b ⟨#[c]⟩ 1 1) w (Stepped (chP c l) (fun _ => .string ⟨#[c]⟩) b w) := by
 refine (p_take b ⟨#[c]⟩ 1 1 (by omega) (by omega) ⟨l.toArray⟩ (by rw [← bytes_len, bytes_mk]; exact hs) w h).mono fun e w' q => ?_
 unfold TakePost at q
 rw [bytes_mk, runN_one] at q
 unfold Stepped chP
 cases hi : (isP c l).1 with
 | false =>
  rw [hi] at q
  simp only [Bool.false_eq_true, if_false] at q ⊢
  rw [if_pos (by omega)] at q
  exact ⟨q.1, q.2 ▸ Near.refl _ _⟩
 | true =>
  rw [hi] at q
  simp only [if_true] at q ⊢
  rw [if_neg (by omega), (ext_list _ l (bytes_mk _) 1).1, (ext_list _ l (bytes_mk _) 1).2] at q
  cases l with
  | nil => cases hi
  | cons x t =>
   have e : isP c (x :: t) = if x = c then (true, t) else (false, x :: t) := rfl
   rw [e] at hi ⊢
   by_cases hx : x = c
   ·subst hx
    rw [if_pos rfl]
    exact q
   ·rw [if_neg hx] at hi; cases hi
def optV (c : UInt8) (q : Bool) : ByteArray := if q then ⟨#[c]⟩ else ⟨#[]⟩
theorem t_opt (b : Nat) (c : UInt8) (l : List UInt8) (hs : l.length ≤ 100000) (w : World) (h : HasL w b [.string ⟨l.toArray⟩]) :
  Calls Tryz.prog 72 (takeA b ⟨#[c]⟩ 0 1) w fun e w' => e = .returned (.string (optV c (isP c l).1)) ∧ HasL w' b [.string ⟨(isP c l).2.toArray⟩] ∧ Near [b] w w' := by
 refine (p_take b ⟨#[c]⟩ 0 1 (by omega) (by omega) ⟨l.toArray⟩ (by rw [← bytes_len, bytes_mk]; exact hs) w h).mono fun e w' q => ?_
 unfold TakePost at q
 rw [bytes_mk, runN_one, if_neg (by omega)] at q
 unfold optV
 cases l with
 | nil =>
  have e0 : isP c [] = (false, []) := rfl
  rw [e0] at q ⊢
  exact q
 | cons x t =>
  have e0 : isP c (x :: t) = if x = c then (true, t) else (false, x :: t) := rfl
  rw [e0] at q ⊢
  by_cases hx : x = c
  ·subst hx
   rw [if_pos rfl] at q ⊢
   simp only [if_true] at q ⊢
   rw [(ext_list _ _ (bytes_mk _) 1).1, (ext_list _ _ (bytes_mk _) 1).2] at q
   exact q
  ·rw [if_neg hx] at q ⊢
   simp only [Bool.false_eq_true, if_false] at q ⊢
   rw [(ext_list _ _ (bytes_mk _) 0).1, (ext_list _ _ (bytes_mk _) 0).2] at q
   exact q
theorem t_dig (b k : Nat) (l : List UInt8) (hk : k ≤ 1000) (hs : l.length ≤ 100000) (w : World) (h : HasL w b [.string ⟨l.toArray⟩]) :
  Calls Tryz.prog 72 (takeA b digS6 (k : Int) (k : Int)) w (Stepped (txtP k l) (fun x => .string ⟨x.toArray⟩) b w) := by
 refine (p_take b digS6 k k (by omega) (by omega) ⟨l.toArray⟩ (by rw [← bytes_len, bytes_mk]; exact hs) w h).mono fun e w' q => ?_
 unfold TakePost at q
 rw [bytes_mk] at q
 obtain ⟨r1, r2⟩ := runN_dig k l
 unfold Stepped txtP
 cases hd : hasDg k l with
 | false =>
  rw [if_pos (r2 hd)] at q
  simp only [Bool.false_eq_true, if_false]
  exact ⟨q.1, q.2 ▸ Near.refl _ _⟩
 | true =>
  rw [r1 hd, if_neg (by omega), (ext_list _ l (bytes_mk _) k).1, (ext_list _ l (bytes_mk _) k).2] at q
  simp only [if_true]
  exact q
theorem t_run (b : Nat) (l : List UInt8) (hs : l.length ≤ 100000) (w : World) (h : HasL w b [.string ⟨l.toArray⟩]) :
  Calls Tryz.prog 72 (takeA b digS6 1 9223372036854775807) w (Stepped (runP l) (fun x => .string ⟨x.toArray⟩) b w) := by
 refine (p_take b digS6 1 9223372036854775807 (by omega) (by omega) ⟨l.toArray⟩ (by rw [← bytes_len, bytes_mk]; exact hs) w h).mono fun e w' q => ?_
 unfold TakePost at q
 rw [bytes_mk] at q
 have er : runN digS6 9223372036854775807 l = (l.takeWhile dgB).length := by
  unfold runN
  rw [show inS digS6 = dgB from funext inS_dig, List.take_of_length_le (by omega)]
 rw [er] at q
 have et : l.take (l.takeWhile dgB).length = l.takeWhile dgB ∧ l.drop (l.takeWhile dgB).length = l.dropWhile dgB := by
  have := List.takeWhile_append_dropWhile (p := dgB) (l := l)
  constructor
  ·conv => lhs; rw [← this]
   rw [List.take_left' (by rw [this])]
  ·conv => lhs; rw [← this]
   rw [List.drop_left' (by rw [this])]
 unfold Stepped runP
 have hh : hasDg 1 l = decide (1 ≤ (l.takeWhile dgB).length) := by
  cases l with
  | nil => rfl
  | cons x t =>
   unfold hasDg
   rw [List.takeWhile_cons]
   cases hx : dgB x <;> simp [hx]
 rw [hh]
 by_cases h1 : 1 ≤ (l.takeWhile dgB).length
 ·rw [if_neg (by omega), (ext_list _ l (bytes_mk _) _).1, (ext_list _ l (bytes_mk _) _).2, et.1, et.2] at q
  rw [decide_eq_true h1, if_pos rfl]
  exact q
 ·rw [if_pos (by omega)] at q
  rw [decide_eq_false h1, if_neg (by simp)]
  exact ⟨q.1, q.2 ▸ Near.refl _ _⟩
def takeV (b : Nat) : Value := .func (.func 72) #[] #[.pointer (some ⟨b, 0, none⟩)]
theorem t_num (b k : Nat) (l : List UInt8) (hk1 : 1 ≤ k) (hk : k ≤ 9) (hs : l.length ≤ 100000) (w : World) (h : HasL w b [.string ⟨l.toArray⟩]) :
  Calls Tryz.prog 111 #[takeV b, .int .i64 (k : Int)] w (Stepped (numP k l) (fun n => .int .i64 (n : Int)) b w) := by
 have c := fun W hW => t_dig b k l (by omega) hs W hW
 have H := Lib.hid h
 unfold takeV
 unfold takeA digS6 at c
 unfold Stepped numP
 unfold Stepped txtP at c
 cases hd : hasDg k l with
 | false =>
  rw [hd] at c
  simp only [Bool.false_eq_true, if_false] at c ⊢
  clear h hd hs hk hk1
  unfold outOf at *
  go_enter Tryz.func111, Tryz.ntmps111
  go_wp2_with fail
  refine (c _ H.out).mono ?_
  rintro e w1 ⟨rfl, n1⟩
  have N1 := Lib.hid n1
  clear n1
  go_wp2
  exact ⟨rfl, rfl, N1.out⟩
 | true =>
  rw [hd] at c
  simp only [if_true] at c ⊢
  obtain ⟨h1, h2⟩ := (hasDg_iff k l).1 hd
  have hlen : (l.take k).length = k := by rw [List.length_take]; omega
  have hv : val (l.take k) < 1000000000000000000 := by
   have := val_lt h2
   rw [hlen] at this
   exact Nat.lt_of_lt_of_le this (Nat.le_trans (Nat.pow_le_pow_right (by omega) hk) (by decide))
  have ca := fun W => atoi_call ⟨(l.take k).toArray⟩ (by rw [← bytes_len, bytes_mk, hlen]; omega) (val (l.take k) : Int) (by rw [bytes_mk]; exact atoi_digits h2 (by intro g; rw [g] at hlen; simp at hlen; omega) hv) W
  clear h hd hs hk hk1 h1 h2 hlen hv
  generalize val (l.take k) = n at *
  generalize (⟨(l.take k).toArray⟩ : ByteArray) = z at *
  generalize (⟨(l.drop k).toArray⟩ : ByteArray) = r at *
  go_enter Tryz.func111, Tryz.ntmps111
  go_wp2_with fail
  refine (c _ H.out).mono ?_
  rintro e w1 ⟨rfl, h1, n1⟩
  have H1 := Lib.hid h1
  have N1 := Lib.hid n1
  clear h1 n1
  go_wp2_with fail
  refine (ca _).mono ?_
  rintro e w2 ⟨rfl, b2⟩
  have B2 := Lib.hid b2
  clear b2
  go_wp2
  go_ret
  exact ⟨rfl, H1.out.call B2.out, N1.out.stepB B2.out⟩
end Go.Proofs.YtmdnijehoagamaaGreatDoor
