/- NN OU -/
import Derived.Test.YtmdnijehoagamaaGreatDoorK23
import Derived.Test.YtmdnijehoagamaaGreatDoorK24
import Derived.Test.YtmdnijehoagamaaGreatDoorK25
set_option linter.unusedVariables false
set_option linter.unusedSimpArgs false
namespace Go.Proofs.YtmdnijehoagamaaGreatDoor
open Go.RowKit
theorem below_split (s : Dec) : belowB s sixtyD = (chkR s == 0 && decide ((cmpS s sixtyD).1 < 0)) := by
 unfold belowB
 by_cases h : Valid s
 ·rw [cmpS_ok h sixty_is.valid, chkR_ok h]
 ·rw [chkR_bad h]
  have : (cmpS s sixtyD).2 = 2 := by unfold cmpS; rw [if_neg (fun g => h g.1)]
  rw [this]
theorem r_check6 (m : Mom) (zs : m.sec.ds.size ≤ 400) (w : World) : Calls Tryz.prog 14 #[m.v] w fun e w' => e = .returned (.int .i64 (checkS m)) ∧ Below w.heap.size w w' := by
 obtain ⟨k, y, mo, d, hr, mi, ⟨sn, sd, sk⟩, zd, z⟩ := m
 simp only at zs
 have cS := fun W => small_any 60 (by omega) (by omega) W
 rw [sixty_eq] at cS
 have e : checkS ⟨k, y, mo, d, hr, mi, ⟨sn, sd, sk⟩, zd, z⟩ = if ((datedB k || timedB k) && dateB k y mo d && timeB k hr mi ⟨sn, sd, sk⟩ && zoneB zd z) = true then 0 else 2 := rfl
 refine rcheck_any k y mo d hr mi sn sd sk zd z (datedB k) (timedB k) (dateB k y mo d) (timeB k hr mi ⟨sn, sd, sk⟩) (zoneB zd z) _ (fun W => dated_any k W) (fun W => timed_any k W) ?_ ?_ ?_ ?_ ?_ rfl rfl (chkR ⟨sn, sd, sk⟩) (decide ((cmpS ⟨sn, sd, sk⟩ sixtyD).1 < 0)) (chkR ⟨sn, sd, sk⟩ == 0) rfl ?_
  (fun W => r_check ⟨sn, sd, sk⟩ (by unfold maxLen; simp only; omega) W) cS (fun W => less6_any ⟨sn, sd, sk⟩ sixtyD zs (by decide) W) w
 ·intro h; rw [e, h]; rfl
 ·intro h; rw [e, h]; simp
 ·intro h; rw [e, h]; simp
 ·intro h; rw [e, h]; simp
 ·intro h1 h2 h3 h4; rw [e, h1, h2, h3, h4]; rfl
 ·unfold timeB timeIB
  rw [below_split]
  generalize withinB hr 0 23 = a
  generalize withinB mi 0 59 = b
  generalize (chkR ⟨sn, sd, sk⟩ == 0) = c
  generalize decide ((cmpS ⟨sn, sd, sk⟩ sixtyD).1 < 0) = l
  cases timedB k <;> cases a <;> cases b <;> cases c <;> cases sn <;> cases l <;> rfl
def IsL (b : Nat) (c : UInt8) (l : List UInt8) (bad : Bool) (w : World) (e : Ending) (w' : World) : Prop :=
  ∃ (q : Bool) (t : List UInt8), e = .returned (.bool q) ∧ isP c l = (q, t) ∧ t.length ≤ l.length ∧ HasL w' b [.string ⟨t.toArray⟩, .bool bad] ∧ Near [b] w w'
theorem is_l (b : Nat) (l : List UInt8) (bad : Bool) (c : UInt8) (hl : l.length ≤ 1000) (w : World) (h : HasL w b [.string ⟨l.toArray⟩, .bool bad]) :
    Calls Tryz.prog 34 #[.pointer (some ⟨b, 0, none⟩), .string ⟨#[c]⟩] w (IsL b c l bad w) := by
  have := r_is b ⟨l.toArray⟩ bad c (by rw [← bytes_len, bytes_mk]; omega) w h
  rw [bytes_mk] at this
  refine this.mono ?_
  rintro e w' ⟨he, h1, n1⟩
  exact ⟨_, _, he, rfl, isP_len c l, h1, n1⟩
def WantL (b : Nat) (c : UInt8) (l : List UInt8) (bad : Bool) (w : World) (e : Ending) (w' : World) : Prop :=
  ∃ (t : List UInt8) (bad' : Bool), e = .returned (.tuple #[]) ∧ t.length ≤ l.length ∧ Stp (chP c l) bad () t bad' ∧ HasL w' b [.string ⟨t.toArray⟩, .bool bad'] ∧ Near [b] w w'
theorem want_l (b : Nat) (l : List UInt8) (bad : Bool) (c : UInt8) (hl : l.length ≤ 1000) (w : World) (h : HasL w b [.string ⟨l.toArray⟩, .bool bad]) :
    Calls Tryz.prog 36 #[.pointer (some ⟨b, 0, none⟩), .string ⟨#[c]⟩] w (WantL b c l bad w) := by
  have := r_want b ⟨l.toArray⟩ bad c (by rw [← bytes_len, bytes_mk]; omega) w h
  rw [bytes_mk] at this
  refine this.mono ?_
  rintro e w' ⟨he, h1, n1⟩
  exact ⟨_, _, he, isP_len c l, want_stp c l bad, h1, n1⟩
def NumL (b : Nat) (l : List UInt8) (bad : Bool) (k : Nat) (w : World) (e : Ending) (w' : World) : Prop :=
  ∃ (n : Nat) (t : List UInt8) (bad' : Bool), e = .returned (.int .i64 (n : Int)) ∧ n < 10 ^ k ∧ t.length ≤ l.length ∧ Stp (numP k l) bad n t bad' ∧ HasL w' b [.string ⟨t.toArray⟩, .bool bad'] ∧ Near [b] w w'
theorem num_l (b : Nat) (l : List UInt8) (bad : Bool) (k : Nat) (hk : k ≤ 4) (hl : l.length ≤ 1000) (w : World) (h : HasL w b [.string ⟨l.toArray⟩, .bool bad]) :
    Calls Tryz.prog 35 #[.pointer (some ⟨b, 0, none⟩), .int .i64 (k : Int)] w (NumL b l bad k w) := by
  have hz : (⟨l.toArray⟩ : ByteArray).size = l.length := by rw [← bytes_len, bytes_mk]
  have := r_number b ⟨l.toArray⟩ bad k hk (by omega) w h
  rw [bytes_mk, hz] at this
  refine this.mono ?_
  rintro e w' ⟨n, r, bad', he, hn, hr, st, h1, n1⟩
  have er : r = ⟨r.data.toList.toArray⟩ := bytes_of rfl
  exact ⟨n, r.data.toList, bad', he, hn, by rw [bytes_len]; exact hr, st, by rw [← er]; exact h1, n1⟩
theorem num_4 (b : Nat) (l : List UInt8) (bad : Bool) (hl : l.length ≤ 1000) (w : World) (h : HasL w b [.string ⟨l.toArray⟩, .bool bad]) :
    Calls Tryz.prog 35 #[.pointer (some ⟨b, 0, none⟩), .int .i64 4] w (NumL b l bad 4 w) := num_l b l bad 4 (by omega) hl w h
theorem num_2 (b : Nat) (l : List UInt8) (bad : Bool) (hl : l.length ≤ 1000) (w : World) (h : HasL w b [.string ⟨l.toArray⟩, .bool bad]) :
    Calls Tryz.prog 35 #[.pointer (some ⟨b, 0, none⟩), .int .i64 2] w (NumL b l bad 2 w) := num_l b l bad 2 (by omega) hl w h
theorem num_1 (b : Nat) (l : List UInt8) (bad : Bool) (hl : l.length ≤ 1000) (w : World) (h : HasL w b [.string ⟨l.toArray⟩, .bool bad]) :
    Calls Tryz.prog 35 #[.pointer (some ⟨b, 0, none⟩), .int .i64 1] w (NumL b l bad 1 w) := num_l b l bad 1 (by omega) hl w h
theorem two_2 (n : Nat) (hn : n ≤ 1000000000) (w : World) : Calls Tryz.prog 37 #[.int .i64 (n : Int), .int .i64 2] w fun e w' => e = .returned (.string (twoS n 2)) ∧ Below w.heap.size w w' := two_any n 2 hn (by omega) w
theorem two_1 (n : Nat) (hn : n ≤ 1000000000) (w : World) : Calls Tryz.prog 37 #[.int .i64 (n : Int), .int .i64 1] w fun e w' => e = .returned (.string (twoS n 1)) ∧ Below w.heap.size w w' := two_any n 1 hn (by omega) w
theorem is_yes {c : UInt8} {l : List UInt8} (h : (isP c l).1 = true) : l = c :: (isP c l).2 := by
  cases l with
  | nil => cases h
  | cons x t =>
    by_cases hx : x = c
    · subst hx; rw [is_one]
    · have e : isP c (x :: t) = (false, x :: t) := by show (if x = c then (true, t) else (false, x :: t)) = _; rw [if_neg hx]
      rw [e] at h; cases h
theorem is_no {c : UInt8} {l : List UInt8} (h : (isP c l).1 = false) : (isP c l).2 = l ∧ ∀ x t, l = x :: t → x ≠ c := by
  cases l with
  | nil => exact ⟨rfl, fun x t e => by cases e⟩
  | cons x t =>
    by_cases hx : x = c
    · subst hx; rw [is_one] at h; cases h
    · have e : isP c (x :: t) = (false, x :: t) := by show (if x = c then (true, t) else (false, x :: t)) = _; rw [if_neg hx]
      refine ⟨by rw [e], fun y u e => ?_⟩
      obtain ⟨rfl, rfl⟩ := List.cons.inj e
      exact hx
theorem has_two_val {k : Nat} {l : List UInt8} (h : hasDg k l = true) : twoL (val (l.take k)) k = l.take k := by
  obtain ⟨h1, h2⟩ := (hasDg_iff k l).1 h
  have hv := val_lt h2
  have e : (l.take k).length = k := by rw [List.length_take, Nat.min_eq_left h1]
  rw [e] at hv
  exact val_inj6 _ _ (by rw [twoL_len, e]) (twoL_all _ _) h2 (twoL_val _ _ hv)
theorem Stp.txt {k : Nat} {l t : List UInt8} {b b1 : Bool} {n : Nat} (h : Stp (numP k l) b n t b1) : Stp (txtP k l) b (twoL n k) t b1 := by
  unfold Stp at *
  cases b with
  | true => exact h
  | false =>
    simp only [Bool.false_eq_true, if_false] at h ⊢
    unfold numP at h
    unfold txtP
    cases hd : hasDg k l with
    | false => rw [hd] at h; simpa using h
    | true =>
      rw [hd] at h
      simp only [if_true] at h ⊢
      obtain ⟨h1, h2, h3⟩ := h
      exact ⟨h1, by rw [h2, has_two_val hd], h3⟩
theorem Stp.run {l t : List UInt8} {b b1 : Bool} {n : Nat} (h : Stp (numP 1 l) b n t b1) : Stp (runP l) b (twoL n 1 ++ t.takeWhile dgB) (t.dropWhile dgB) b1 := by
  unfold Stp at *
  cases b with
  | true => exact h
  | false =>
    simp only [Bool.false_eq_true, if_false] at h ⊢
    unfold numP at h
    unfold runP
    cases hd : hasDg 1 l with
    | false => rw [hd] at h; simpa using h
    | true =>
      rw [hd] at h
      simp only [if_true] at h ⊢
      obtain ⟨h1, h2, h3⟩ := h
      have e := has_two_val hd
      obtain ⟨g1, g2⟩ := (hasDg_iff 1 l).1 hd
      cases l with
      | nil => simp at g1
      | cons x u =>
        have hx : dgB x = true := (dgB_iff x).2 (g2 x (by simp))
        have ht : t = u := h3
        subst ht
        rw [h2, e]
        refine ⟨h1, ?_, ?_⟩
        · rw [List.takeWhile_cons_of_pos hx]; rfl
        · rw [List.dropWhile_cons_of_pos hx]
theorem frac_yes {p l t : List UInt8} {b b1 : Bool} {f r : List UInt8} (hq : isP 46 l = (true, t)) (h : Stp (runP t) b f r b1) : Stp (fracP p l) b (p ++ 46 :: f) r b1 := by
  unfold fracP
  rw [hq, if_pos rfl]
  exact Stp.map (fun f => p ++ 46 :: f) h
theorem frac_no {p l t : List UInt8} {b : Bool} (hq : isP 46 l = (false, t)) : Stp (fracP p l) b p t b := by
  unfold fracP
  rw [hq, if_neg (by simp)]
  exact Stp.pure _ _ _
theorem stp_date {k : Int} {l t l1 l2 l3 l4 l5 : List UInt8} {q : Bool} {n1 n3 n5 : Nat} {b1 b2 b3 b4 b5 : Bool} (hk : datedB k = true) (hq : isP 45 l = (q, t))
    (s1 : Stp (numP 4 t) false n1 l1 b1) (s2 : Stp (chP 45 l1) b1 () l2 b2) (s3 : Stp (numP 2 l2) b2 n3 l3 b3) (s4 : Stp (chP 45 l3) b3 () l4 b4) (s5 : Stp (numP 2 l4) b4 n5 l5 b5) :
    Stp (dayP k l) false ((if q then -(n1 : Int) else (n1 : Int)), (n3 : Int), (n5 : Int)) l5 b5 := by
  unfold dayP dateP
  rw [if_pos hk, hq]
  exact s1.bind (s2.bind (s3.bind (s4.bind (s5.bind (Stp.pure _ _ _)))))
theorem stp_noday {k : Int} {l : List UInt8} (hk : datedB k = false) : Stp (dayP k l) false (0, 0, 0) l false := by
  unfold dayP
  rw [hk]
  exact Stp.pure _ _ _
theorem stp_mid {k : Int} {l t : List UInt8} {b b1 : Bool} (hk : (k == 3) = true) (s : Stp (chP 84 l) b () t b1) : Stp (midP k l) b () t b1 := by
  unfold midP
  rw [if_pos (by simpa using hk)]
  exact s
theorem stp_nomid {k : Int} {l : List UInt8} {b : Bool} (hk : (k == 3) = false) : Stp (midP k l) b () l b := by
  unfold midP
  rw [if_neg (by simpa using hk)]
  exact Stp.pure _ _ _
theorem stp_noclk {k : Int} {l : List UInt8} {b : Bool} (hk : timedB k = false) : Stp (clkP k l) b (0, 0, []) l b := by
  unfold clkP
  rw [hk]
  exact Stp.pure _ _ _
theorem stp_time {k : Int} (hk : timedB k = true) {l l1 l2 l3 l4 l5 l6 : List UInt8} {n1 n3 n5 : Nat} {b b1 b2 b3 b4 b5 b6 : Bool} {f : List UInt8}
    (s1 : Stp (numP 2 l) b n1 l1 b1) (s2 : Stp (chP 58 l1) b1 () l2 b2) (s3 : Stp (numP 2 l2) b2 n3 l3 b3) (s4 : Stp (chP 58 l3) b3 () l4 b4) (s5 : Stp (numP 2 l4) b4 n5 l5 b5) (s6 : Stp (fracP (twoL n5 2) l5) b5 f l6 b6) :
    Stp (clkP k l) b ((n1 : Int), (n3 : Int), f) l6 b6 := by
  unfold clkP timeP
  rw [if_pos hk]
  exact s1.bind (s2.bind (s3.bind (s4.bind (s5.txt.bind (s6.bind (Stp.pure _ _ _))))))
def zone2P : List UInt8 → Option ((Bool × Int) × List UInt8)
  | [] => some ((false, 0), [])
  | c :: t => if c = 90 then some ((true, 0), t) else if c = 43 ∨ c = 45 then (awayP t).bind fun a => some ((true, if c = 45 then -(a.1 : Int) else (a.1 : Int)), a.2) else none
theorem zone2_cons (c : UInt8) (t : List UInt8) : zone2P (c :: t) = if c = 90 then some ((true, 0), t) else if c = 43 ∨ c = 45 then (awayP t).bind fun a => some ((true, if c = 45 then -(a.1 : Int) else (a.1 : Int)), a.2) else none := rfl
theorem zone_cons (c : UInt8) (t : List UInt8) : zoneP (c :: t) = if c = 90 then (if t = [] then some (true, 0) else none) else if c = 43 ∨ c = 45 then (awayP t).bind fun a => (if a.2 = [] then some (true, if c = 45 then -(a.1 : Int) else (a.1 : Int)) else none) else none := rfl
theorem zone_end2 (l : List UInt8) : zoneP l = (zone2P l).bind fun x => if x.2 = [] then some x.1 else none := by
  cases l with
  | nil => rfl
  | cons c t =>
    rw [zone_cons, zone2_cons]
    by_cases h1 : c = 90
    · rw [if_pos h1, if_pos h1]; rfl
    · rw [if_neg h1, if_neg h1]
      by_cases h2 : c = 43 ∨ c = 45
      · rw [if_pos h2, if_pos h2, Option.bind_assoc]; rfl
      · rw [if_neg h2, if_neg h2]; rfl
theorem zone_Z {l t : List UInt8} {b : Bool} (hq : isP 90 l = (true, t)) : Stp (zone2P l) b (true, 0) t b := by
  have e := is_yes (c := 90) (l := l) (by rw [hq])
  rw [hq] at e
  dsimp only at e
  subst e
  exact Stp.pure _ _ _
theorem zone_nil (b : Bool) : Stp (zone2P []) b (false, 0) [] b := Stp.pure _ _ _
theorem stp_away {l l1 l2 l3 : List UInt8} {b b1 b2 b3 : Bool} {n m : Nat} (s1 : Stp (numP 2 l) b n l1 b1) (s2 : Stp (chP 58 l1) b1 () l2 b2) (s3 : Stp (numP 2 l2) b2 m l3 b3) :
    Stp (awayP l) b (60 * n + m) l3 (b3 || decide (59 < (m : Int))) := by
  refine s1.bind (s2.bind (s3.bind ?_))
  dsimp only
  unfold Stp
  by_cases h : m ≤ 59
  · rw [if_pos h, decide_eq_false (by omega)]
    cases b3 <;> simp
  · rw [if_neg h, decide_eq_true (by omega)]
    cases b3 <;> simp
theorem zone_minus {l t r : List UInt8} {b b1 : Bool} {a : Nat} (hq : isP 45 l = (true, t)) (h : Stp (awayP t) b a r b1) : Stp (zone2P l) b (true, -(a : Int)) r b1 := by
  have e := is_yes (c := 45) (l := l) (by rw [hq])
  rw [hq] at e
  dsimp only at e
  subst e
  exact Stp.map (fun a : Nat => (true, -(a : Int))) h
theorem zone_plus {l t r : List UInt8} {b b1 b2 : Bool} {a : Nat} (hn : l ≠ []) {u1 u2 : List UInt8} (hz' : isP 90 l = (false, u1)) (hq' : isP 45 l = (false, u2)) (s1 : Stp (chP 43 l) b () t b1) (h : Stp (awayP t) b1 a r b2) : Stp (zone2P l) b (true, (a : Int)) r b2 := by
  have hz : (isP 90 l).1 = false := by rw [hz']
  have hq : (isP 45 l).1 = false := by rw [hq']
  cases l with
  | nil => exact absurd rfl hn
  | cons c u =>
    have h1 := (is_no hz).2 c u rfl
    have h2 := (is_no hq).2 c u rfl
    have e : zone2P (c :: u) = (chP 43 (c :: u)).bind fun x => (awayP x.2).bind fun a => some ((true, (a.1 : Int)), a.2) := by
      rw [zone2_cons, if_neg h1]
      by_cases h3 : c = 43
      · subst h3
        rw [if_pos (Or.inl rfl), ch_one]
        rfl
      · rw [if_neg (by rintro (g | g); exact h3 g; exact h2 g)]
        have e2 : chP 43 (c :: u) = none := by
          unfold chP
          rw [show isP 43 (c :: u) = (false, c :: u) by show (if c = 43 then (true, u) else (false, c :: u)) = _; rw [if_neg h3]]
          rfl
        rw [e2]
        rfl
    rw [e]
    exact s1.bind (Stp.map (fun a : Nat => (true, (a : Int))) h)
theorem Stp.fin {A B : Type} {p : Option (A × List UInt8)} {a : A} {r r2 : List UInt8} {b b2 : Bool} {z : Bool × Int} (h1 : Stp p false a r b) (h2 : Stp (zone2P r) b z r2 b2) (g : A → Bool × Int → B) :
    (p.bind fun x => (zoneP x.2).bind fun e => some (g x.1 e)) = if b2 = false ∧ r2 = [] then some (g a z) else none := by
  unfold Stp at h1 h2
  simp only [Bool.false_eq_true, if_false] at h1
  cases p with
  | none =>
    simp only at h1
    subst h1
    simp only [if_true] at h2
    subst h2
    simp
  | some x =>
    obtain ⟨x1, x2⟩ := x
    obtain ⟨rfl, rfl, rfl⟩ := h1
    simp only [Bool.false_eq_true, if_false] at h2
    simp only [Option.bind_some, zone_end2]
    cases hz : zone2P r with
    | none =>
      rw [hz] at h2
      simp only at h2
      subst h2
      simp
    | some e =>
      obtain ⟨e1, e2⟩ := e
      rw [hz] at h2
      obtain ⟨rfl, rfl, rfl⟩ := h2
      by_cases h : r2 = []
      · rw [if_pos ⟨rfl, h⟩]; simp [h]
      · rw [if_neg (fun q => h q.2)]; simp [h]
theorem is_rest {c : UInt8} {l t : List UInt8} (hq : isP c l = (false, t)) : t = l := by
  have := (is_no (c := c) (l := l) (by rw [hq])).1
  rw [hq] at this
  exact this
theorem parts_fin {k : Int} {l r1 r2 r3 r4 : List UInt8} {b1 b2 b3 b4 : Bool} {y mo d h mi : Int} {s : List UInt8} {zd : Bool} {z : Int} (h1 : Stp (dayP k l) false (y, mo, d) r1 b1) (hc : Stp (midP k r1) b1 () r2 b2) (ht : Stp (clkP k r2) b2 (h, mi, s) r3 b3) (h2 : Stp (zone2P r3) b3 (zd, z) r4 b4) :
    partsP k l = if b4 = false ∧ r4 = [] then some ⟨y, mo, d, h, mi, s, zd, z⟩ else none := by
  unfold partsP
  have e : ((dayP k l).bind fun a => (midP k a.2).bind fun b => (clkP k b.2).bind fun c => (zoneP c.2).bind fun e => some (⟨a.1.1, a.1.2.1, a.1.2.2, c.1.1, c.1.2.1, c.1.2.2, e.1, e.2⟩ : Parts)) =
      (((dayP k l).bind fun a => (midP k a.2).bind fun b => (clkP k b.2).bind fun c => some ((a.1, c.1), c.2)).bind fun x => (zoneP x.2).bind fun e => some (⟨x.1.1.1, x.1.1.2.1, x.1.1.2.2, x.1.2.1, x.1.2.2.1, x.1.2.2.2, e.1, e.2⟩ : Parts)) := by
    simp only [Option.bind_assoc, Option.bind_some]
  rw [e]
  have hh : Stp ((dayP k l).bind fun a => (midP k a.2).bind fun b => (clkP k b.2).bind fun c => some ((a.1, c.1), c.2)) false ((y, mo, d), (h, mi, s)) r3 b3 := h1.bind (hc.bind (ht.bind (Stp.pure _ _ _)))
  exact Stp.fin hh h2 (fun (a : (Int × Int × Int) × Int × Int × List UInt8) (e : Bool × Int) => (⟨a.1.1, a.1.2.1, a.1.2.2, a.2.1, a.2.2.1, a.2.2.2, e.1, e.2⟩ : Parts))
theorem stop_at {x : ByteArray} {l A D : List UInt8} (h : x.data.toList ++ l.takeWhile dgB = A ∧ l.dropWhile dgB = D) (hs : ∀ c t, l = c :: t → dgB c = false) : x = ⟨A.toArray⟩ ∧ l = D := by
  obtain ⟨h1, h2⟩ := h
  cases l with
  | nil => exact ⟨bytes_of (by rw [← h1]; simp), h2⟩
  | cons c t =>
    have hc := hs c t rfl
    rw [List.takeWhile_cons_of_neg (by rw [hc]; decide)] at h1
    rw [List.dropWhile_cons_of_neg (by rw [hc]; decide)] at h2
    exact ⟨bytes_of (by rw [← h1]; simp), h2⟩
theorem go_on {x y : ByteArray} {c : UInt8} {t A D : List UInt8} (hc : dgB c = true) (h : x.data.toList ++ (c :: t).takeWhile dgB = A ∧ (c :: t).dropWhile dgB = D) (hy : y.data.toList = [c]) : (x ++ y).data.toList ++ t.takeWhile dgB = A ∧ t.dropWhile dgB = D := by
  obtain ⟨h1, h2⟩ := h
  rw [List.takeWhile_cons_of_pos hc] at h1
  rw [List.dropWhile_cons_of_pos hc] at h2
  refine ⟨?_, h2⟩
  rw [← h1, Joins.data_append, hy]
  simp
end Go.Proofs.YtmdnijehoagamaaGreatDoor
