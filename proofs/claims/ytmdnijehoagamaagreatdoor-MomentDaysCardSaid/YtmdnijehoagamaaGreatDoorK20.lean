/- MV OA MW -/
import Derived.Lib.ParseIntBTie
import Derived.Test.YtmdnijehoagamaaGreatDoorK19
set_option linter.unusedVariables false
set_option linter.unusedSimpArgs false
namespace Go.Proofs.YtmdnijehoagamaaGreatDoor
set_option maxRecDepth 100000
set_option maxHeartbeats 4000000
open Go.RowKit
def HasL (W : World) (b : Nat) (vs : List Value) : Prop := b < W.heap.size ∧ ∀ i v, vs[i]? = some v → W.cell? ⟨b, i, none⟩ = some v ∧ W.frozen? ⟨b, i, none⟩ = false
theorem HasL.lt {W : World} {b : Nat} {vs : List Value} (h : HasL W b vs) : b < W.heap.size := h.1
theorem HasL.cell {W : World} {b : Nat} {vs : List Value} (h : HasL W b vs) (i : Nat) {v : Value} (hv : vs[i]? = some v) : W.cell? ⟨b, i, none⟩ = some v := (h.2 i v hv).1
theorem HasL.frozen {W : World} {b : Nat} {vs : List Value} (h : HasL W b vs) (i : Nat) {v : Value} (hv : vs[i]? = some v) : W.frozen? ⟨b, i, none⟩ = false := (h.2 i v hv).2
theorem HasL.call {W W' : World} {b : Nat} {vs : List Value} (h : HasL W b vs) (B : Below W.heap.size W W') : HasL W' b vs := by
 refine ⟨Nat.lt_of_lt_of_le h.1 B.size, fun i v hv => ?_⟩
 obtain ⟨h1, h2⟩ := h.2 i v hv
 exact ⟨(B.cell (p := ⟨b, i, none⟩) h.1).trans h1, (B.frozen (p := ⟨b, i, none⟩) h.1).trans h2⟩
theorem HasL.alloc {W : World} {b : Nat} {vs : List Value} (h : HasL W b vs) (o : Obj) : HasL (W.alloc o) b vs := h.call ((Below.refl _ _).alloc (Nat.le_refl _) o)
theorem HasL.drew {W : World} {b : Nat} {vs : List Value} (h : HasL W b vs) (n : Nat) : HasL (W.drewN n) b vs := h.call (below_drewN (Below.refl _ _) n)
theorem HasL.drew1 {W : World} {b : Nat} {vs : List Value} (h : HasL W b vs) : HasL W.drew b vs := h.call (below_drew1 _)
theorem HasL.new (W : World) (vs : List Value) (T : TypeId) : HasL (W.alloc (.cells vs.toArray T)) W.heap.size vs := by
 refine ⟨by simp, fun i v hv => ⟨?_, ?_⟩⟩
 ·rw [World.cell?_alloc_at _ _ _ _ rfl]
  simpa using hv
 ·rw [World.frozen?_alloc_at _ _ _ _ rfl]
theorem HasL.far {W : World} {b c : Nat} {vs : List Value} (h : HasL W b vs) (hne : c ≠ b) (j : Nat) (u : Value) : HasL (W.setCell ⟨c, j, none⟩ u) b vs := by
 refine ⟨by simpa [World.setCell] using h.1, fun i v hv => ?_⟩
 rw [World.cell?_setCell_far _ _ _ _ hne, World.frozen?_setCell]
 exact h.2 i v hv
theorem HasL.set {W : World} {b : Nat} {vs : List Value} (h : HasL W b vs) (j : Nat) (u : Value) (hj : j < vs.length) : HasL (W.setCell ⟨b, j, none⟩ u) b (vs.set j u) := by
 refine ⟨by simpa [World.setCell] using h.1, fun i v hv => ?_⟩
 rw [World.frozen?_setCell]
 by_cases hij : j = i
 ·subst hij
  rw [List.getElem?_set_self hj] at hv
  obtain rfl := Option.some.inj hv
  have h0 := h.2 j _ (List.getElem?_eq_getElem hj)
  exact ⟨World.cell?_setCell_same _ _ _ h0.1, h0.2⟩
 ·rw [List.getElem?_set_ne hij] at hv
  rw [other_cell _ _ hij]
  exact h.2 i v hv
theorem setStep {w W : World} (B : Below w.heap.size w W) {b : Nat} (hb : w.heap.size ≤ b) (j : Nat) (u : Value) : Below w.heap.size w (W.setCell ⟨b, j, none⟩ u) := B.setCell (p := ⟨b, j, none⟩) hb u
def KB (w : World) (L : List (Nat × List Value)) (W : World) : Prop := (∀ p ∈ L, HasL W p.1 p.2) ∧ Below w.heap.size w W
theorem KB.call {w W W' : World} {L : List (Nat × List Value)} (h : KB w L W) (B : Below W.heap.size W W') : KB w L W' := ⟨fun p hp => (h.1 p hp).call B, step h.2 B⟩
theorem KB.alloc {w W : World} {L : List (Nat × List Value)} (h : KB w L W) (o : Obj) : KB w L (W.alloc o) := ⟨fun p hp => (h.1 p hp).alloc o, stepA h.2 o⟩
theorem KB.drew1 {w W : World} {L : List (Nat × List Value)} (h : KB w L W) : KB w L W.drew := h.call (below_drew1 _)
theorem KB.set {w W : World} {L : List (Nat × List Value)} (h : KB w L W) {g : Nat} (hg : w.heap.size + L.length ≤ g) (hL : ∀ p ∈ L, p.1 < w.heap.size + L.length) (j : Nat) (u : Value) : KB w L (W.setCell ⟨g, j, none⟩ u) :=
 ⟨fun p hp => (h.1 p hp).far (by have := hL p hp; omega) j u, setStep h.2 (by omega) j u⟩
theorem KB.one {w W : World} {L : List (Nat × List Value)} (h : KB w L W) (i : Nat) {p : Nat × List Value} (hp : L[i]? = some p) : HasL W p.1 p.2 := h.1 p (List.mem_of_getElem? hp)
def Pt.l (p : Pt) : List Value := [.int .i64 p.w, .bool p.f.neg, .string p.f.ds, .int .i64 p.f.sc]
def Dec.l (d : Dec) : List Value := [.bool d.neg, .string d.ds, .int .i64 d.sc]
def Mom.l (m : Mom) : List Value := [.int .i64 m.k, .int .i64 m.y, .int .i64 m.mo, .int .i64 m.d, .int .i64 m.h, .int .i64 m.mi, .bool m.sec.neg, .string m.sec.ds, .int .i64 m.sec.sc, .bool m.zd, .int .i64 m.z]
theorem p_laterP (a n : Int) (fn : Bool) (fd : ByteArray) (fk : Int) (h0 : -1000000000000000 ≤ a) (h1 : a ≤ 1000000000000000) (n0 : -1000000000000000 ≤ n) (n1 : n ≤ 1000000000000000) (w : World) : Calls Tryz.prog 57 #[.agg #[.int .i64 a, .bool fn, .string fd, .int .i64 fk], .int .i64 n] w fun e w' => e = .returned (.agg #[.int .i64 (a + n), .bool fn, .string fd, .int .i64 fk]) ∧ Below w.heap.size w w' := by
 go_enter Tryz.func57, Tryz.ntmps57
 go_wp2
 exact bodyPost_ret (v := .agg #[.int .i64 (a + n), .bool fn, .string fd, .int .i64 fk]) (by simp [results, Tryz.results57, go_sem]) rfl ⟨rfl, stepA (stepA (Below.refl _ _) _) _⟩
theorem HasL.all3 {W : World} {b : Nat} {a0 a1 a2 : Value} (h : HasL W b [a0, a1, a2]) : W.cell? ⟨b, 0, none⟩ = some a0 ∧ W.cell? ⟨b, 1, none⟩ = some a1 ∧ W.cell? ⟨b, 2, none⟩ = some a2 := ⟨h.cell 0 rfl, h.cell 1 rfl, h.cell 2 rfl⟩
theorem HasL.all4 {W : World} {b : Nat} {a0 a1 a2 a3 : Value} (h : HasL W b [a0, a1, a2, a3]) : W.cell? ⟨b, 0, none⟩ = some a0 ∧ W.cell? ⟨b, 1, none⟩ = some a1 ∧ W.cell? ⟨b, 2, none⟩ = some a2 ∧ W.cell? ⟨b, 3, none⟩ = some a3 := ⟨h.cell 0 rfl, h.cell 1 rfl, h.cell 2 rfl, h.cell 3 rfl⟩
theorem HasL.all11 {W : World} {b : Nat} {a0 a1 a2 a3 a4 a5 a6 a7 a8 a9 a10 : Value} (h : HasL W b [a0, a1, a2, a3, a4, a5, a6, a7, a8, a9, a10]) : W.cell? ⟨b, 0, none⟩ = some a0 ∧ W.cell? ⟨b, 1, none⟩ = some a1 ∧ W.cell? ⟨b, 2, none⟩ = some a2 ∧ W.cell? ⟨b, 3, none⟩ = some a3 ∧ W.cell? ⟨b, 4, none⟩ = some a4 ∧ W.cell? ⟨b, 5, none⟩ = some a5 ∧ W.cell? ⟨b, 6, none⟩ = some a6 ∧ W.cell? ⟨b, 7, none⟩ = some a7 ∧ W.cell? ⟨b, 8, none⟩ = some a8 ∧ W.cell? ⟨b, 9, none⟩ = some a9 ∧ W.cell? ⟨b, 10, none⟩ = some a10 :=
 ⟨h.cell 0 rfl, h.cell 1 rfl, h.cell 2 rfl, h.cell 3 rfl, h.cell 4 rfl, h.cell 5 rfl, h.cell 6 rfl, h.cell 7 rfl, h.cell 8 rfl, h.cell 9 rfl, h.cell 10 rfl⟩
theorem HasL.free3 {W : World} {b : Nat} {a0 a1 a2 : Value} (h : HasL W b [a0, a1, a2]) : W.frozen? ⟨b, 0, none⟩ = false ∧ W.frozen? ⟨b, 1, none⟩ = false ∧ W.frozen? ⟨b, 2, none⟩ = false := ⟨h.frozen 0 rfl, h.frozen 1 rfl, h.frozen 2 rfl⟩
theorem HasL.free4 {W : World} {b : Nat} {a0 a1 a2 a3 : Value} (h : HasL W b [a0, a1, a2, a3]) : W.frozen? ⟨b, 0, none⟩ = false ∧ W.frozen? ⟨b, 1, none⟩ = false ∧ W.frozen? ⟨b, 2, none⟩ = false ∧ W.frozen? ⟨b, 3, none⟩ = false := ⟨h.frozen 0 rfl, h.frozen 1 rfl, h.frozen 2 rfl, h.frozen 3 rfl⟩
theorem HasL.free11 {W : World} {b : Nat} {a0 a1 a2 a3 a4 a5 a6 a7 a8 a9 a10 : Value} (h : HasL W b [a0, a1, a2, a3, a4, a5, a6, a7, a8, a9, a10]) : W.frozen? ⟨b, 0, none⟩ = false ∧ W.frozen? ⟨b, 1, none⟩ = false ∧ W.frozen? ⟨b, 2, none⟩ = false ∧ W.frozen? ⟨b, 3, none⟩ = false ∧ W.frozen? ⟨b, 4, none⟩ = false ∧ W.frozen? ⟨b, 5, none⟩ = false ∧ W.frozen? ⟨b, 6, none⟩ = false ∧ W.frozen? ⟨b, 7, none⟩ = false ∧ W.frozen? ⟨b, 8, none⟩ = false ∧ W.frozen? ⟨b, 9, none⟩ = false ∧ W.frozen? ⟨b, 10, none⟩ = false :=
 ⟨h.frozen 0 rfl, h.frozen 1 rfl, h.frozen 2 rfl, h.frozen 3 rfl, h.frozen 4 rfl, h.frozen 5 rfl, h.frozen 6 rfl, h.frozen 7 rfl, h.frozen 8 rfl, h.frozen 9 rfl, h.frozen 10 rfl⟩
end Go.Proofs.YtmdnijehoagamaaGreatDoor
namespace Go.Proofs.YtmdnijehoagamaaGreatDoor
open Go.RowKit
def dgB (c : UInt8) : Bool := decide (48 ≤ c.toNat) && decide (c.toNat ≤ 57)
def hasDg (k : Nat) (s : List UInt8) : Bool := decide (k ≤ s.length) && (s.take k).all dgB
def txtP (k : Nat) (s : List UInt8) : Option (List UInt8 × List UInt8) := if hasDg k s then some (s.take k, s.drop k) else none
def numP (k : Nat) (s : List UInt8) : Option (Nat × List UInt8) := if hasDg k s then some (val (s.take k), s.drop k) else none
def isP (c : UInt8) : List UInt8 → Bool × List UInt8
 | [] => (false, [])
 | x :: t => if x = c then (true, t) else (false, x :: t)
def chP (c : UInt8) (s : List UInt8) : Option (Unit × List UInt8) := if (isP c s).1 then some ((), (isP c s).2) else none
def runP (s : List UInt8) : Option (List UInt8 × List UInt8) := if hasDg 1 s then some (s.takeWhile dgB, s.dropWhile dgB) else none
def dateP (s : List UInt8) : Option ((Int × Int × Int) × List UInt8) :=
 (numP 4 (isP 45 s).2).bind fun a => (chP 45 a.2).bind fun b => (numP 2 b.2).bind fun c => (chP 45 c.2).bind fun d => (numP 2 d.2).bind fun e =>
  some (((if (isP 45 s).1 then -(a.1 : Int) else (a.1 : Int)), (c.1 : Int), (e.1 : Int)), e.2)
def fracP (t : List UInt8) (s : List UInt8) : Option (List UInt8 × List UInt8) :=
 if (isP 46 s).1 then (runP (isP 46 s).2).bind fun f => some (t ++ 46 :: f.1, f.2) else some (t, (isP 46 s).2)
def timeP (s : List UInt8) : Option ((Int × Int × List UInt8) × List UInt8) :=
 (numP 2 s).bind fun a => (chP 58 a.2).bind fun b => (numP 2 b.2).bind fun c => (chP 58 c.2).bind fun d => (txtP 2 d.2).bind fun e => (fracP e.1 e.2).bind fun f =>
  some (((a.1 : Int), (c.1 : Int), f.1), f.2)
def awayP (s : List UInt8) : Option (Nat × List UInt8) :=
 (numP 2 s).bind fun a => (chP 58 a.2).bind fun b => (numP 2 b.2).bind fun c => if c.1 ≤ 59 then some (60 * a.1 + c.1, c.2) else none
def zoneP : List UInt8 → Option (Bool × Int)
 | [] => some (false, 0)
 | c :: t => if c = 90 then (if t = [] then some (true, 0) else none)
  else if c = 43 ∨ c = 45 then (awayP t).bind fun a => (if a.2 = [] then some (true, if c = 45 then -(a.1 : Int) else (a.1 : Int)) else none)
  else none
structure Parts where
 y : Int
 mo : Int
 d : Int
 h : Int
 mi : Int
 sec : List UInt8
 zd : Bool
 z : Int
def dayP (k : Int) (s : List UInt8) : Option ((Int × Int × Int) × List UInt8) := if datedB k then dateP s else some ((0, 0, 0), s)
def midP (k : Int) (s : List UInt8) : Option (Unit × List UInt8) := if k = 3 then chP 84 s else some ((), s)
def clkP (k : Int) (s : List UInt8) : Option ((Int × Int × List UInt8) × List UInt8) := if timedB k then timeP s else some ((0, 0, []), s)
def partsP (k : Int) (s : List UInt8) : Option Parts :=
 (dayP k s).bind fun a => (midP k a.2).bind fun b => (clkP k b.2).bind fun c => (zoneP c.2).bind fun e => some ⟨a.1.1, a.1.2.1, a.1.2.2, c.1.1, c.1.2.1, c.1.2.2, e.1, e.2⟩
def Parts.mom (p : Parts) (k : Int) (d : Dec) : Mom := ⟨k, p.y, p.mo, p.d, p.h, p.mi, d, p.zd, p.z⟩
noncomputable def seenS (m : Mom) : MRes := if okB m then ⟨m, 0⟩ else ⟨momNil, 6⟩
noncomputable def partsS (k : Int) (p : Parts) : MRes :=
 if timedB k then (if (readS ⟨p.sec.toArray⟩).e = 0 then seenS (p.mom k (readS ⟨p.sec.toArray⟩).d) else ⟨momNil, (readS ⟨p.sec.toArray⟩).e⟩)
 else seenS (p.mom k decNil)
noncomputable def readS6 (k : Int) (s : List UInt8) : MRes :=
 if datedB k || timedB k then (match partsP k s with | none => ⟨momNil, 6⟩ | some p => partsS k p) else ⟨momNil, 2⟩
def Stp {A : Type} (p : Option (A × List UInt8)) (bad : Bool) (out : A) (rest : List UInt8) (bad' : Bool) : Prop :=
 if bad then bad' = true else match p with | none => bad' = true | some x => bad' = false ∧ out = x.1 ∧ rest = x.2
theorem Stp.bind {A B : Type} {p : Option (A × List UInt8)} {f : A × List UInt8 → Option (B × List UInt8)} {b : Bool} {a : A} {r : List UInt8} {b1 : Bool} {c : B} {r2 : List UInt8} {b2 : Bool}
  (h1 : Stp p b a r b1) (h2 : Stp (f (a, r)) b1 c r2 b2) : Stp (p.bind f) b c r2 b2 := by
 unfold Stp at *
 cases b with
 | true => simp only [if_true] at h1 ⊢; rw [h1] at h2; simpa using h2
 | false =>
  simp only [Bool.false_eq_true, if_false] at h1 ⊢
  cases p with
  | none => simp only at h1; rw [h1] at h2; simpa using h2
  | some x =>
   obtain ⟨x1, x2⟩ := x
   simp only at h1
   obtain ⟨rfl, rfl, rfl⟩ := h1
   simpa using h2
theorem Stp.pure {A : Type} (a : A) (s : List UInt8) (b : Bool) : Stp (some (a, s)) b a s b := by
 unfold Stp
 cases b <;> simp
theorem Stp.map {A B : Type} {p : Option (A × List UInt8)} {b : Bool} {a : A} {r : List UInt8} {b1 : Bool} (g : A → B) (h1 : Stp p b a r b1) : Stp (p.bind fun x => some (g x.1, x.2)) b (g a) r b1 :=
 h1.bind (Stp.pure (g a) r b1)
theorem Stp.ok {A : Type} {p : Option (A × List UInt8)} {a : A} {r : List UInt8} {b1 : Bool} (h : Stp p false a r b1) (x : A) (t : List UInt8) (hp : p = some (x, t)) : b1 = false ∧ a = x ∧ r = t := by
 unfold Stp at h
 rw [hp] at h
 simpa using h
theorem Stp.no {A : Type} {p : Option (A × List UInt8)} {a : A} {r : List UInt8} {b1 : Bool} (h : Stp p false a r b1) (hp : p = none) : b1 = true := by
 unfold Stp at h
 rw [hp] at h
 simpa using h
theorem dgB_iff (c : UInt8) : dgB c = true ↔ 48 ≤ c.toNat ∧ c.toNat ≤ 57 := by unfold dgB; simp
theorem all_dg (l : List UInt8) : l.all dgB = true ↔ AllD l := by
 unfold AllD
 simp only [List.all_eq_true, dgB_iff]
theorem hasDg_iff (k : Nat) (s : List UInt8) : hasDg k s = true ↔ k ≤ s.length ∧ AllD (s.take k) := by
 unfold hasDg
 rw [Bool.and_eq_true, all_dg, decide_eq_true_iff]
theorem numP_bd {k : Nat} {s : List UInt8} {x : Nat × List UInt8} (h : numP k s = some x) : x.1 < 10 ^ k ∧ x.2.length ≤ s.length := by
 unfold numP at h
 split at h
 ·next hd =>
  obtain ⟨h1, h2⟩ := (hasDg_iff k s).1 hd
  obtain rfl := Option.some.inj h
  have := val_lt h2
  rw [List.length_take, Nat.min_eq_left h1] at this
  exact ⟨this, by simp⟩
 ·cases h
theorem isP_len (c : UInt8) (s : List UInt8) : (isP c s).2.length ≤ s.length := by
 cases s with
 | nil => exact Nat.le_refl _
 | cons x t =>
  show (if x = c then (true, t) else (false, x :: t)).2.length ≤ _
  split <;> simp
structure Near (L : List Nat) (w w' : World) : Prop where
 os : w'.os = w.os
 tape : w'.tape = w.tape
 output : w'.output = w.output
 size : w.heap.size ≤ w'.heap.size
 block : ∀ k, k < w.heap.size → k ∉ L → w'.heap[k]? = w.heap[k]?
theorem Near.refl (L : List Nat) (w : World) : Near L w w := ⟨rfl, rfl, rfl, Nat.le_refl _, fun _ _ _ => rfl⟩
theorem Near.of {L : List Nat} {w w' : World} (h : Below w.heap.size w w') : Near L w w' := ⟨h.os, h.tape, h.output, h.size, fun k hk _ => h.block k hk⟩
theorem Near.trans {L : List Nat} {a b c : World} (h : Near L a b) (k : Near L b c) : Near L a c :=
 ⟨k.os.trans h.os, k.tape.trans h.tape, k.output.trans h.output, Nat.le_trans h.size k.size, fun i hi hL => (k.block i (Nat.lt_of_lt_of_le hi h.size) hL).trans (h.block i hi hL)⟩
theorem Near.more {L L' : List Nat} {w w' : World} (h : Near L w w') (hL : ∀ k ∈ L, k ∈ L') : Near L' w w' := ⟨h.os, h.tape, h.output, h.size, fun k hk hn => h.block k hk fun g => hn (hL k g)⟩
theorem Near.set {L : List Nat} {w W : World} (h : Near L w W) {b : Nat} (hb : b ∈ L) (j : Nat) (u : Value) : Near L w (W.setCell ⟨b, j, none⟩ u) :=
 h.trans ⟨rfl, rfl, rfl, by simp [World.setCell], fun k hk hn => Below.heap_setCell _ _ _ _ fun e => hn (by rw [e]; exact hb)⟩
theorem Near.stepB {L : List Nat} {w W W' : World} (h : Near L w W) (B : Below W.heap.size W W') : Near L w W' := h.trans (Near.of B)
theorem Near.below {L : List Nat} {w w' : World} (h : Near L w w') {B : Nat} (hB : B ≤ w.heap.size) (hL : ∀ k ∈ L, B ≤ k) : Below B w w' :=
 ⟨h.os, h.tape, h.output, h.size, fun k hk => h.block k (Nat.lt_of_lt_of_le hk hB) fun g => by have := hL k g; omega⟩
theorem Near.under {L : List Nat} {w W W' : World} (h : Below w.heap.size w W) (k : Near L W W') (hL : ∀ b ∈ L, w.heap.size ≤ b) : Below w.heap.size w W' :=
 h.trans (k.below h.size hL)
theorem HasL.near {W W' : World} {b : Nat} {vs : List Value} {L : List Nat} (h : HasL W b vs) (B : Near L W W') (hb : b ∉ L) : HasL W' b vs := by
 have e := B.block b h.1 hb
 refine ⟨Nat.lt_of_lt_of_le h.1 B.size, fun i v hv => ?_⟩
 obtain ⟨h1, h2⟩ := h.2 i v hv
 exact ⟨(World.cell?_of_block (w := W) (a := ⟨b, i, none⟩) e).trans h1, (World.frozen?_of_block (w := W) (a := ⟨b, i, none⟩) e).trans h2⟩
theorem Tabs.near {W W' : World} {L : List Nat} (h : Tabs W) (B : Near L W W') (hL : ∀ k ∈ L, 9 ≤ k) : Tabs W' := h.below (B.below h.size hL) (Nat.le_refl _)
theorem uint_digits : ∀ (l : List UInt8) (acc : Nat), AllD l → dval acc l < 1000000000000000000 → Lib.parseUint10 acc l = .ok (dval acc l)
 | [], acc, _, _ => rfl
 | c :: l, acc, hl, h => by
  have hc := hl.head
  have e : dg c = c.toNat - 48 := dg_eq c hc.1
  rw [dval_cons, e] at h ⊢
  have hle : acc * 10 + (c.toNat - 48) ≤ dval (acc * 10 + (c.toNat - 48)) l := by
   rw [dval_eq]
   exact Nat.le_trans (Nat.le_mul_of_pos_right _ (Nat.pow_pos (by omega))) (Nat.le_add_right _ _)
  rw [Lib.parseUint10, if_pos hc, if_neg (by omega), if_neg (by omega)]
  exact uint_digits l _ hl.tail h
theorem mag_digits {l : List UInt8} (hl : AllD l) (hne : l ≠ []) (h : val l < 1000000000000000000) : Lib.parseMag l = .ok (val l) := by
 unfold Lib.parseMag
 rw [if_neg hne]
 exact uint_digits l 0 hl h
theorem atoi_digits {l : List UInt8} (hl : AllD l) (hne : l ≠ []) (h : val l < 1000000000000000000) : Lib.atoiAll l = .ok (val l : Int) := by
 obtain ⟨c, r, rfl⟩ : ∃ c r, l = c :: r := by
  cases l with
  | nil => exact absurd rfl hne
  | cons c r => exact ⟨c, r, rfl⟩
 have hc := hl.head
 rw [Lib.atoiAll_plain c r (by omega) (by omega), mag_digits hl hne h]
 exact if_neg (by omega)
theorem atoi_minus {l : List UInt8} (hl : AllD l) (hne : l ≠ []) (h : val l < 1000000000000000000) : Lib.atoiAll (45 :: l) = .ok (-(val l : Int)) := by
 rw [Lib.atoiAll_minus, mag_digits hl hne h]
 exact if_neg (by omega)
theorem int_text {d : Dec} (hd : Valid d) (h0 : scl d = 0) (h : num d < 1000000000000000000) : Lib.parseIntB 64 (textOf d).data.toList = .ok (sv d) := by
 have hn := hd.is.num
 have e : textOf d = txtC d.neg d.ds := by
  unfold textOf txtB txtA
  rw [show d.sc.toNat = scl d from rfl, h0, if_neg (by omega), if_neg (by have := hn.pos; omega)]
 have hall := hn.all
 have hv : val d.ds.data.toList = num d := rfl
 have hne : d.ds.data.toList ≠ [] := fun h => by
  have := hn.pos
  have h2 := bytes_len d.ds
  rw [h] at h2
  simp at h2
  omega
 rw [Lib.parseIntB_64, e]
 unfold txtC sv
 cases d.neg with
 | true =>
  rw [if_pos rfl, if_pos rfl, Joins.data_append]
  show Lib.atoiAll (45 :: d.ds.data.toList) = _
  rw [atoi_minus hall hne (by rw [hv]; exact h), hv]
 | false =>
  rw [if_neg (by simp), if_neg (by simp), atoi_digits hall hne (by rw [hv]; exact h), hv]
theorem parse_call (s : ByteArray) (hs : s.size ≤ 1000) (v : Int) (h : Lib.parseIntB 64 s.data.toList = .ok v) (w : World) : Calls Tryz.prog 106 #[.string s, .int .i64 10, .int .i64 64] w fun e w' => e = .returned (.tuple #[.int .i64 v, .nilIface]) ∧ Below w.heap.size w w' := by
 refine (Tryz.strconv_ParseInt_10_at64_ok s (by omega) v h w).mono ?_
 rintro e w' ⟨he, h | ⟨t, h⟩⟩
 ·exact ⟨he, h ▸ Below.refl _ _⟩
 ·exact ⟨he, h ▸ Joins.below_bytesWorld w.heap.size w 5 t (Nat.le_refl _)⟩
theorem atoi_call (s : ByteArray) (hs : s.size ≤ 1000) (v : Int) (h : Lib.atoiAll s.data.toList = .ok v) (w : World) : Calls Tryz.prog 145 #[.string s] w fun e w' => e = .returned (.tuple #[.int .i64 v, .nilIface]) ∧ Below w.heap.size w w' := by
 refine (Tryz.strconv_Atoi_ok s (by omega) v h w).mono ?_
 rintro e w' ⟨he, h | ⟨t, h⟩⟩
 ·exact ⟨he, h ▸ Below.refl _ _⟩
 ·exact ⟨he, h ▸ Joins.below_bytesWorld w.heap.size w 5 t (Nat.le_refl _)⟩
end Go.Proofs.YtmdnijehoagamaaGreatDoor
