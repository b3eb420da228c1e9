/- Escape of package chars, at every string. -/
import Derived.Lib.RuneBytes
import Derived.Lib.OthersKept
import Derived.Test.YtiefpdoefdldpaaDoorL
import Derived.Test.YtiefpdoefdldpaaDoorM
namespace Go.Proofs.YtiefpdoefdldpaaDoor
open Go.RowKit Go.Shelf
attribute [local go_sem] Oper.semAt_some

/-- The library writes the bytes of a character. -/
theorem runeCells_eq (c : Nat) (hv : V c) : Lib.runeCells (c : Int) = Lib.byteCells (bytesL c) := by
  unfold Lib.runeCells Lib.byteCells bytesL
  unfold V at hv
  by_cases h1 : c < 128
  · rw [Lib.encodeRuneZ_one (by omega) (by omega), if_pos h1]
    simp
    omega
  by_cases h2 : c < 2048
  · rw [Lib.encodeRuneZ_two (by omega) (by omega), if_neg h1, if_pos h2]
    simp
    omega
  by_cases h3 : c < 65536
  · rw [Lib.encodeRuneZ_three (by omega), if_neg h1, if_neg h2, if_pos h3]
    simp
    omega
  · rw [Lib.encodeRuneZ_four (by omega) (by omega), if_neg h1, if_neg h2, if_neg h3]
    simp
    omega

/-- The bytes that stand for a character. -/
def encB (attr : Bool) (c : Int) : List UInt8 := (escL attr c).getD (bytesL c.toNat)
def escOf (attr : Bool) (pre : List (Nat × Int)) : List UInt8 := pre.flatMap fun x => encB attr x.2
theorem escOf_snoc (attr : Bool) (pre : List (Nat × Int)) (x : Nat × Int) : escOf attr (pre ++ [x]) = escOf attr pre ++ encB attr x.2 := by simp [escOf]
theorem encB_len (attr : Bool) (c : Int) : (encB attr c).length ≤ 6 := by
  unfold encB escL bytesL
  repeat' split
  all_goals simp
theorem escOf_len (attr : Bool) : ∀ pre : List (Nat × Int), (escOf attr pre).length ≤ 6 * pre.length
  | [] => by simp [escOf]
  | x :: t => by
    have h1 := encB_len attr x.2
    have h2 := escOf_len attr t
    have h3 : escOf attr (x :: t) = encB attr x.2 ++ escOf attr t := rfl
    rw [h3, List.length_append, List.length_cons]
    omega

def EscPost (attr : Bool) (l : List UInt8) (w : World) (e : Ending) (w' : World) : Prop :=
  (((∃ x ∈ charsOf l, x.2 = -1) ∧ e = .returned (.tuple #[.string ⟨#[]⟩, .int .i64 6])) ∨ (good (charsOf l) ∧ e = .returned (.tuple #[.string ⟨(escOf attr (charsOf l)).toArray⟩, .int .i64 0]))) ∧ Below w.heap.size w w'

theorem charsGo_val : ∀ (f k : Nat) (l : List UInt8), ∀ x ∈ charsGo f k l, x.2 = -1 ∨ ∃ c : Nat, x.2 = (c : Int) ∧ V c ∧ c ≤ 1114111
  | 0, _, _, x, hx => by simp [charsGo] at hx
  | f + 1, k, l, x, hx => by
    unfold charsGo at hx
    split at hx
    · simp at hx
    · split at hx
      · simp at hx
        exact .inl (by simp [hx])
      · rename_i c n hst
        have hn := stepD_le hst
        rcases List.mem_cons.1 hx with h | h
        · exact .inr ⟨c, by rw [h], hn.2.2.2.2, hn.2.2.2.1⟩
        · exact charsGo_val f (k + n) (l.drop n) x h

/-- The boxes, and the map, of an Escape under way: B: what is handed back; M: the map's variable, the builder, the string. -/
structure EBox (B M b n : Nat) (attr : Bool) (s : ByteArray) (W : World) : Prop where
  r0 : Boxed W B 9 (.string ⟨#[]⟩)
  r1 : Boxed W (B + 1) 27 (.int .i64 0)
  m : Boxed W M 55 (.map (some b))
  s : Boxed W (M + 2) 9 (.string s)
  own : W.ownsMap Tryd.prog 21 (plainElem (H := Unit) Tryd.prog 9) b n (escM attr)
theorem boxed_others {W W' : World} {k t d : Nat} {v : Value} (h : Boxed W k t v) (hO : Lib.OthersKept 5 (some d) W W') (hk : k ≠ d) (ht : t ≠ 5) : Boxed W' k t v :=
  hO k _ h (by simpa using hk) (fun c fz e => ht (by cases e; rfl))
theorem map_others {W W' : World} {b n d : Nat} {D : DataW Unit} {kt et : TypeId} (h : W.ownsMap Tryd.prog kt (plainElem (H := Unit) Tryd.prog et) b n D) (hO : Lib.OthersKept 5 (some d) W W') (hk : b ≠ d) : W'.ownsMap Tryd.prog kt (plainElem (H := Unit) Tryd.prog et) b n D := by
  obtain ⟨es, clock, hb, rest⟩ := h
  exact ⟨es, clock, hO b _ hb (by simpa using hk) (fun c fz e => by cases e), rest⟩
theorem EBox.others {B M b n : Nat} {attr : Bool} {s : ByteArray} {W W' : World} (h : EBox B M b n attr s W) (hO : Lib.OthersKept 5 (some (M + 1)) W W') (hB : B + 1 < M) (hb : b ≠ M + 1) : EBox B M b n attr s W' :=
  ⟨boxed_others h.r0 hO (by omega) (by decide), boxed_others h.r1 hO (by omega) (by decide), boxed_others h.m hO (by omega) (by decide), boxed_others h.s hO (by omega) (by decide), map_others h.own hO hb⟩
theorem EBox.own' {β : Type} {B M b n B0 : Nat} {attr : Bool} {s : ByteArray} (hb : b < B0) : OwnFrom B0 (fun (_ : β) W => EBox B M b n attr s W) := fun p X Y row hs hg hr =>
  have hr' : ∀ r, row = some r → ∃ o : Obj, X.heap[r]? = some o ∧ o.isCells = false := fun r e => (hr r e).2
  ⟨boxed_own (β := β) B 9 (fun _ => .string ⟨#[]⟩) p X Y row hs.r0 hg hr', boxed_own (β := β) (B + 1) 27 (fun _ => .int .i64 0) p X Y row hs.r1 hg hr', boxed_own (β := β) M 55 (fun _ => .map (some b)) p X Y row hs.m hg hr', boxed_own (β := β) (M + 2) 9 (fun _ => .string s) p X Y row hs.s hg hr',
    hs.own.kept hg (fun e => by have := (hr _ e.symm).1; omega)⟩
/-- A builder under a turn of a block that is no cells. -/
theorem bld_kept {W W' : World} {row : Option Nat} {B d : Nat} {bs : List Value} (h : Lib.IsBuilderF 49 5 B d bs W) (hg : W.grownBy W' row) (hr : ∀ r, row = some r → ∃ o : Obj, W.heap[r]? = some o ∧ o.isCells = false) : Lib.IsBuilderF 49 5 B d bs W' := by
  have one : ∀ p, Lib.BuilderAtF 49 5 B d p bs W → Lib.BuilderAtF 49 5 B d p bs W' := fun p ⟨hBd, v, hb, ho, hn⟩ => by
    have hrow : some d ≠ row := fun e => by
      obtain ⟨o, h1, h2⟩ := hr d e.symm
      rw [hb] at h1
      cases h1
      cases h2
    refine ⟨hBd, v, (hg.block d (Array.getElem?_eq_some_iff.1 hb).1 hrow).trans hb, ho.kept hg ?_, hn⟩
    cases hv : v.ownBlock with
    | none => exact .inl rfl
    | some g =>
      refine .inr fun e => ?_
      obtain ⟨c, fz, hgc⟩ := Lib.ownsRowF_kind ho g hv
      obtain ⟨o, h1, h2⟩ := hr g e.symm
      rw [hgc] at h1
      cases h1
      cases h2
  rcases h with h | h
  · exact .inl (one _ h)
  · exact .inr (one _ h)
theorem bld_fresh (w : World) (B : Nat) (hB : B ≤ w.heap.size) : Lib.IsBuilderF 49 5 B w.heap.size (Lib.byteCells []) (w.alloc (.cells #[.pointer none, .slice none 0 0] 49)) :=
  .inl ⟨hB, .slice none 0 0, World.alloc_heap_new w _, ⟨rfl, .inl ⟨rfl, rfl⟩⟩, by simp [Value.ownBlock]⟩
theorem bld_alloc {w : World} {B d : Nat} {bs : List Value} (h : Lib.IsBuilderF 49 5 B d bs w) (o : Obj) : Lib.IsBuilderF 49 5 B d bs (w.alloc o) := bld_kept h (World.grownBy_alloc w o none) (fun r e => by cases e)
/-- What a write to the builder leaves, for the loop's law. -/
theorem keeps_others {W W' : World} {B0 d : Nat} {B : Nat} {bs : List Value} (hb : Lib.IsBuilderF 49 5 B d bs W) (hO : Lib.OthersKept 5 (some d) W W') (hs : W.heap.size ≤ W'.heap.size) : KeepsFrom B0 W W' :=
  ⟨hs, fun k o _ hk ho => hO k o hk (fun e => by
    obtain rfl : k = d := by simpa using e
    rcases hb with ⟨_, v, h, _⟩ | ⟨_, v, h, _⟩ <;> (rw [h] at hk; cases hk; cases ho)) (fun c fz e => by rw [e] at ho; cases ho)⟩

abbrev Ch (s : ByteArray) := { x : Nat × Int // x ∈ charsOf s.data.toList }
def vals {s : ByteArray} (pre : List (Ch s)) : List (Nat × Int) := pre.map (·.1)
theorem vals_snoc {s : ByteArray} (pre : List (Ch s)) (x : Ch s) : vals (pre ++ [x]) = vals pre ++ [x.1] := by simp [vals]

set_option maxRecDepth 100000 in
set_option maxHeartbeats 2000000 in
theorem escape_any (s : ByteArray) (attr : Bool) (w : World) (hs : s.size ≤ 100000) (hT : Tabs w) : Calls Tryd.prog 23 #[.string s, .bool attr] w (EscPost attr s.data.toList w) := by
  refine (callsIn_wide (n := 4)).1 ?_
  have h1 : 1 ≤ 4 := by omega
  have hsz := hT.size
  have hmax : s.size ≤ maxLen := by unfold maxLen; omega
  have hlen : s.data.toList.length = s.size := by simp
  have hle := charsGo_le s.data.toList.length 0 s.data.toList
  have hN : (charsOf s.data.toList).length ≤ 100000 := by unfold charsOf; omega
  clear hlen hle
  refine callsIn_of_wp_marks Tryd.func23 rfl trivial ?_ rfl
  simp only [Tryd.ntmps23, List.size_toArray, List.length_cons, List.length_nil, Nat.reduceAdd, Nat.reduceSub, Array.replicate_succ, Array.replicate_zero, List.push_toArray, List.append_toArray, List.nil_append, List.cons_append]
  gi_wp2_with (first | (refine ⟨trivial, ?_⟩; gi_at_call 36; refine (callsIn_wide.2 (escapesOf_any _ _)).mono ?_; rintro e w1 ⟨b, n, rfl, hbb, hown, hb1⟩) | (refine ⟨trivial, ?_⟩; gi_at_call 31; refine (callsIn_wide.2 (characters_calls _ _)).mono ?_; rintro e w' ⟨rfl, rfl⟩))
  have hbb' : w.heap.size + 2 ≤ b := by simpa using hbb
  have hb1' : Below w.heap.size w w1 := (((Below.refl _ w).alloc (Nat.le_refl _) _).alloc (by simp) _).trans (hb1.mono (by simp; omega))
  have hbl : b < w1.heap.size := hown.lt
  have b0 : Boxed w1 w.heap.size 9 (.string ⟨#[]⟩) := (hb1.block w.heap.size (by simp; omega)).trans ((Boxed.new w 9 (.string ⟨#[]⟩)).alloc _)
  have b1 : Boxed w1 (w.heap.size + 1) 27 (.int .i64 0) := (hb1.block (w.heap.size + 1) (by simp)).trans (by have := Boxed.new (w.alloc (.cells #[.string ⟨#[]⟩] 9)) 27 (.int .i64 0); rwa [World.size_alloc] at this)
  have bM := Boxed.new w1 55 (.map (some b))
  have bS := Boxed.new ((w1.alloc (.cells #[.map (some b)] 55)).alloc (.cells #[.pointer none, .slice none 0 0] 49)) 9 (.string s)
  simp only [World.size_alloc] at bS
  have hE0 : EBox w.heap.size w1.heap.size b n attr s (((w1.alloc (.cells #[.map (some b)] 55)).alloc (.cells #[.pointer none, .slice none 0 0] 49)).alloc (.cells #[.string s] 9)) :=
    ⟨((b0.alloc _).alloc _).alloc _, ((b1.alloc _).alloc _).alloc _, (bM.alloc _).alloc _, bS, ((hown.alloc _).alloc _).alloc _⟩
  have hL0 := bld_alloc (bld_fresh (w1.alloc (.cells #[.map (some b)] 55)) w.heap.size (by simp; omega)) (.cells #[.string s] 9)
  rw [World.size_alloc] at hL0
  have hB0 : Below w.heap.size w (((w1.alloc (.cells #[.map (some b)] 55)).alloc (.cells #[.pointer none, .slice none 0 0] 49)).alloc (.cells #[.string s] 9)) := ((hb1'.alloc (by omega) _).alloc (by simp; omega) _).alloc (by simp; omega) _
  have hz0 : (((w1.alloc (.cells #[.map (some b)] 55)).alloc (.cells #[.pointer none, .slice none 0 0] 49)).alloc (.cells #[.string s] 9)).heap.size = w1.heap.size + 3 := by simp
  obtain ⟨W0, hW0⟩ : ∃ W0, ((w1.alloc (.cells #[.map (some b)] 55)).alloc (.cells #[.pointer none, .slice none 0 0] 49)).alloc (.cells #[.string s] 9) = W0 := ⟨_, rfl⟩
  have hadd : w1.heap.size + 1 + 1 = w1.heap.size + 2 := rfl
  rw [hW0] at hE0 hL0 hz0 hB0
  rw [hadd, hW0]
  obtain ⟨M, hM⟩ : ∃ M, w1.heap.size = M := ⟨_, rfl⟩
  rw [hM] at hE0 hL0 hz0 hbl ⊢
  have hMw : w.heap.size + 1 < M := by omega
  clear hW0 b0 b1 bM bS hown hb1 hb1' hbb hadd hM
  have hT0 := hT.below hB0 hsz
  refine wpIn_rangeFunc_ownG rfl h1 (gf := 49) (lb := #[.pointer (some ⟨M + 2, 0, none⟩)]) rfl trivial (enters_of Tryd.func49 (by kernel_rfl) rfl)
    (iter_stopsS 3 (by omega) (M + 2) s hmax _ hT0 hE0.s.cell) (fun h k => h.trans k) (KpC.put (by omega) (by omega)) (Below.refl _ _) (fun _ => rfl)
    (fun pre W => ((good (vals pre) ∧ Lib.IsBuilderF 49 5 w.heap.size (M + 1) (Lib.byteCells (escOf attr (vals pre))) W) ∧ EBox w.heap.size M b n attr s W) ∧ Below w.heap.size W0 W)
    (fun c pre W => (c = .ret ∧ (∃ x ∈ vals pre, x.2 = -1) ∧ Boxed W w.heap.size 9 (.string ⟨#[]⟩) ∧ Boxed W (w.heap.size + 1) 27 (.int .i64 6)) ∧ Below w.heap.size W0 W)
    (OwnFrom.and (OwnFrom.and (fun p A B row hs hg hr => ⟨hs.1, bld_kept hs.2 hg (fun r e => (hr r e).2)⟩) (EBox.own' (by omega))) (ownFrom_below (by omega) (by omega)))
    (fun c => OwnFrom.and (Own.from (fun p A B row hs hg hr => ⟨hs.1, hs.2.1, boxed_own w.heap.size 9 (fun _ => .string ⟨#[]⟩) p A B row hs.2.2.1 hg hr, boxed_own (w.heap.size + 1) 27 (fun _ => .int .i64 6) p A B row hs.2.2.2 hg hr⟩) _) (ownFrom_below (by omega) (by omega)))
    ⟨⟨⟨fun x hx => by simp [vals] at hx, hL0⟩, hE0⟩, Below.refl _ _⟩
    (fun x => { tmps := #[.string s, .bool attr, undef, undef, .pointer (some ⟨w.heap.size, 0, none⟩), .pointer (some ⟨w.heap.size + 1, 0, none⟩), .pointer (some ⟨M, 0, none⟩), .pointer (some ⟨M + 1, 0, none⟩), undef, .int .i32 x.1.2, undef, undef, .bool attr, .map (some b), .string s, .func (.func 49) #[] #[.pointer (some ⟨M + 2, 0, none⟩)], .int .i64 (x.1.1 : Int), .int .i32 x.1.2, undef, undef, undef, undef, undef, undef, undef, undef, undef, undef, undef, undef, undef, undef], defers := [] }) ?assign ?body ?done ?stop
  case assign =>
    intro l x W K hK
    gi_wp2
    exact hK
  case body =>
    rintro l pre x W ⟨⟨⟨hp, hBl⟩, hE⟩, hB⟩ hlt
    have hszW := hB.size
    by_cases hx : x.1.2 = -1
    · have hx' : (x.1.2 == -1) = true := by simp [hx]
      have HX := Lib.hid hx
      have c0 := hE.r0.cell
      have f0 := hE.r0.frozen
      have c1 := hE.r1.cell
      have f1 := hE.r1.frozen
      clear hx
      gi_wp2
      have hB2 := (hB.setCell (p := ⟨w.heap.size, 0, none⟩) (Nat.le_refl _) (.string ⟨#[]⟩)).setCell (p := ⟨w.heap.size + 1, 0, none⟩) (show w.heap.size ≤ w.heap.size + 1 by omega) (.int .i64 6)
      exact ⟨((KeepsOthers.setCell _ _ _).trans (KeepsOthers.setCell _ _ _)).from _, ⟨rfl, ⟨x.1, by rw [vals_snoc]; simp, HX.out⟩, (hE.r0.set (.string ⟨#[]⟩)).other (by omega) _, (hE.r1.other (by omega) _).set (.int .i64 6)⟩, hB2⟩
    · have hx' : (x.1.2 == -1) = false := by simp [hx]
      have hval := (charsGo_val _ _ _ x.1 x.2).resolve_left hx
      obtain ⟨cc, hcc, hcV, hcb⟩ := hval
      have hwf : (Lit.int .i32 x.1.2).wf = true := by
        rw [hcc]
        show (decide (IntKind.i32.min ≤ (cc : Int)) && decide ((cc : Int) ≤ IntKind.i32.max)) = true
        rw [Bool.and_eq_true, decide_eq_true_eq, decide_eq_true_eq]
        exact ⟨by show (-2147483648 : Int) ≤ _; omega, by show _ ≤ (2147483647 : Int); omega⟩
      obtain ⟨v, ps, hrun, hv⟩ := hE.own.look_ok key21 Tryd.underlying55 (Tryd.zeroValue9 W) (plainElem_string Tryd.underlying9 (s := ⟨#[]⟩) (by decide)) (Maps.keyOf_int_mk Tryd.underlying21 hwf)
      obtain ⟨sv, rfl, hsv, _⟩ := plainElem_string_inv Tryd.underlying9 hv
      rw [esc_has] at hrun
      have hat : sv.data.toList = (escL attr x.1.2).getD [] := by
        have h1 := congrArg Prod.fst hsv
        rw [show (ByteArray.mk #[]).data.toList = [] from rfl, esc_at] at h1
        simp only [DataW.lit.injEq, Lit.string.injEq] at h1
        exact h1.symm
      have hgood : good (vals (pre ++ [x])) := by
        rw [vals_snoc]
        intro y hy
        rcases List.mem_append.1 hy with h | h
        · exact hp y h
        · simp only [List.mem_singleton] at h
          rw [h]
          exact hx
      have hlen6 : (Lib.byteCells (escOf attr (vals pre))).length + 6 ≤ 140737488355328 := by
        rw [Lib.byteCells_length]
        have h1 := escOf_len attr (vals pre)
        have h2 : (vals pre).length = pre.length := by simp [vals]
        omega
      have hsz6 : sv.size ≤ 6 := by
        have h1 : sv.size = sv.data.toList.length := by simp
        rw [h1, hat]
        have h2 := encB_len attr x.1.2
        unfold encB at h2
        cases hq : escL attr x.1.2 with
        | none => simp
        | some lit => rw [hq] at h2; simpa using h2
      have hcM := hE.m.cell
      have hBW : w.heap.size ≤ W.heap.size := by omega
      have henc : encB attr x.1.2 = (escL attr x.1.2).getD (bytesL cc) := by unfold encB; rw [hcc]; rfl
      cases hel : escL attr x.1.2 with
      | some lit =>
        rw [hel] at hrun hat henc
        simp only [Option.isSome_some, Option.getD_some] at hrun hat henc
        have cW := Tryd.WriteString w.heap.size (M + 1) (Lib.byteCells (escOf attr (vals pre))) sv W hBl (by omega) hBW
        have HAT : Hid (Lib.strCells sv = Lib.byteCells (encB attr x.1.2)) := by
          show _ = _
          rw [Lib.strCells_eq, hat, henc]
        clear hel hat henc hsv hv hcc hx
        gi_wp2_with (refine ⟨trivial, ?_⟩; gi_at_call 37; refine (CallsIn.inRound l (callsIn_wide.2 cW)).mono ?_; rintro e w2 ⟨rfl, hb2, hbl2, hO2⟩)
        have hKp : KpC (M + 2) W w2 := ⟨hbl2.mono (by omega), (show _ = _ from (hE.others hO2 hMw (by omega)).s).trans (show _ = _ from hE.s).symm⟩
        refine ⟨keeps_others hBl hO2 hbl2.size, hKp, ⟨⟨hgood, ?_⟩, hE.others hO2 hMw (by omega)⟩, hB.trans hbl2⟩
        refine .inr ?_
        rw [vals_snoc, escOf_snoc, Lib.byteCells_append]
        rw [HAT.out] at hb2
        exact hb2
      | none =>
        rw [hel] at hrun henc
        simp only [Option.isSome_none, Option.getD_none] at hrun henc
        have cW := Tryd.WriteRune w.heap.size (M + 1) (Lib.byteCells (escOf attr (vals pre))) x.1.2 (by omega) (by omega) W hBl (by omega) hBW
        have HAT : Hid (Lib.runeCells x.1.2 = Lib.byteCells (encB attr x.1.2)) := by
          show _ = _
          rw [henc, hcc, runeCells_eq cc hcV]
        clear hel hat henc hsv hv hcc hx
        gi_wp2_with (refine ⟨trivial, ?_⟩; gi_at_call 34; refine (CallsIn.inRound l (callsIn_wide.2 cW)).mono ?_; rintro e w2 ⟨rfl, hb2, hbl2, hO2⟩)
        have hKp : KpC (M + 2) W w2 := ⟨hbl2.mono (by omega), (show _ = _ from (hE.others hO2 hMw (by omega)).s).trans (show _ = _ from hE.s).symm⟩
        refine ⟨keeps_others hBl hO2 hbl2.size, hKp, ⟨⟨hgood, ?_⟩, hE.others hO2 hMw (by omega)⟩, hB.trans hbl2⟩
        refine .inr ?_
        rw [vals_snoc, escOf_snoc, Lib.byteCells_append]
        rw [HAT.out] at hb2
        exact hb2
  case done =>
    rintro D ys W hD hys ⟨⟨⟨hne, hBl⟩, hE⟩, hB⟩ hK
    have hys' : vals ys = charsOf s.data.toList := hys
    rw [hys'] at hne hBl
    have c0 := hE.r0.cell
    have f0 := hE.r0.frozen
    have c1 := hE.r1.cell
    have f1 := hE.r1.frozen
    have hszW := hB.size
    have cS := Tryd.Builder_String_any_k w.heap.size (M + 1) (escOf attr (charsOf s.data.toList)) W hBl (by omega)
    obtain ⟨R, hR⟩ : ∃ R, ByteArray.mk (escOf attr (charsOf s.data.toList)).toArray = R := ⟨_, rfl⟩
    rw [hR] at cS
    have HR := Lib.hid hR
    clear hR
    gi_wp2_with (refine ⟨trivial, ?_⟩; gi_at_call 35; refine (callsIn_wide.2 cS).mono ?_; rintro e w2 ⟨rfl, hbs2, hbl2, hO2⟩; have c0' := (hE.others hO2 hMw (by omega)).r0.cell; have f0' := (hE.others hO2 hMw (by omega)).r0.frozen; have c1' := (hE.others hO2 hMw (by omega)).r1.cell; have f1' := (hE.others hO2 hMw (by omega)).r1.frozen)
    have hB2 : Below w.heap.size W ((w2.setCell ⟨w.heap.size, 0, none⟩ (.string R)).setCell ⟨w.heap.size + 1, 0, none⟩ (.int .i64 0)) := (hbl2.setCell (p := ⟨w.heap.size, 0, none⟩) (Nat.le_refl _) (.string R)).setCell (p := ⟨w.heap.size + 1, 0, none⟩) (show w.heap.size ≤ w.heap.size + 1 by omega) (.int .i64 0)
    have hE2 := hE.others hO2 hMw (by omega)
    have h0 := ((hE2.r0.set (.string R)).other (show w.heap.size ≠ w.heap.size + 1 by omega) (.int .i64 0)).cell
    have h2 := ((hE2.r1.other (show w.heap.size + 1 ≠ w.heap.size by omega) (.string R)).set (.int .i64 0)).cell
    have hK1 := (keeps_others (B0 := W0.heap.size) hBl hO2 hbl2.size).same D _ hD hK rfl
    have hK' := ((KeepsOthers.setCell _ ⟨w.heap.size, 0, none⟩ (.string R)).trans (KeepsOthers.setCell _ ⟨w.heap.size + 1, 0, none⟩ (.int .i64 0))).same D _ hK1 rfl
    obtain ⟨W2, hW2⟩ : ∃ W2, (w2.setCell ⟨w.heap.size, 0, none⟩ (.string R)).setCell ⟨w.heap.size + 1, 0, none⟩ (.int .i64 0) = W2 := ⟨_, rfl⟩
    rw [hW2] at h0 h2 hK' hB2 ⊢
    refine ⟨by simp, .inl ⟨_, _, rfl, run_takeDeferred hK', ?_⟩⟩
    have hc5 := cell_kept h0 (grownBy_putObj' _ D (.deferred none)) (fun r e => by cases e; exact ⟨_, hK', rfl⟩)
    have hc6 := cell_kept h2 (grownBy_putObj' _ D (.deferred none)) (fun r e => by cases e; exact ⟨_, hK', rfl⟩)
    refine ⟨.tuple #[.string R, .int .i64 0], ?_, .inr ⟨hne, by rw [HR.out]⟩, hB0.trans (hB.trans (hB2.trans (belowK_b (w := w) (Nat.le_refl _) _ D _ _ (by omega) hK' rfl rfl)))⟩
    simp [results, Tryd.f23, go_sem, hc5, hc6]
  case stop =>
    rintro D c pre W hD hpre ⟨⟨rfl, ⟨x, hxm, hx⟩, e4, e5⟩, hB⟩ hK
    have hin : x ∈ charsOf s.data.toList := (show vals pre <+: charsOf s.data.toList from hpre).subset hxm
    have HX := Lib.hid hx
    clear hx
    gi_wp2
    refine ⟨by simp, .inl ⟨_, _, rfl, run_takeDeferred hK, ?_⟩⟩
    have hc5 := cell_kept e4.cell (grownBy_putObj' _ D (.deferred none)) (fun r e => by cases e; exact ⟨_, hK, rfl⟩)
    have hc6 := cell_kept e5.cell (grownBy_putObj' _ D (.deferred none)) (fun r e => by cases e; exact ⟨_, hK, rfl⟩)
    refine ⟨.tuple #[.string ⟨#[]⟩, .int .i64 6], ?_, .inl ⟨⟨x, hin, HX.out⟩, rfl⟩, hB0.trans (hB.trans (belowK_b (w := w) (Nat.le_refl _) W D _ _ (by omega) hK rfl rfl))⟩
    simp [results, Tryd.f23, go_sem, hc5, hc6]
end Go.Proofs.YtiefpdoefdldpaaDoor
