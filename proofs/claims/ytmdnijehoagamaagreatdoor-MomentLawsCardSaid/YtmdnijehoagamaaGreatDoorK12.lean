/- PK -/
import Derived.Test.YtmdnijehoagamaaGreatDoorK09
set_option linter.unusedVariables false
set_option linter.unusedSimpArgs false
namespace Go.Proofs.YtmdnijehoagamaaGreatDoor
set_option maxRecDepth 100000
set_option maxHeartbeats 2000000
open Go.RowKit Go.Shelf
attribute [local go_sem] Oper.semAt_some
theorem bld_kept {W W' : World} {row : Option Nat} {B d : Nat} {bs : List Value} (h : Lib.IsBuilderF 150 5 B d bs W) (hg : W.grownBy W' row) (hr : ∀ r, row = some r → ∃ o : Obj, W.heap[r]? = some o ∧ o.isCells = false) : Lib.IsBuilderF 150 5 B d bs W' := by
 have one : ∀ p, Lib.BuilderAtF 150 5 B d p bs W → Lib.BuilderAtF 150 5 B d p bs W' := fun p ⟨hBd, v, hb, ho, hn⟩ => by
  have hrow : some d ≠ row := fun e => by
   obtain ⟨o, h1, h2⟩ := hr d e.symm
   rw [hb] at h1
   cases h1
   cases h2
  refine ⟨hBd, v, (hg.block d (Array.getElem?_eq_some_iff.1 hb).1 hrow).trans hb, ho.kept hg ?_, hn⟩
  cases hv : v.ownBlock with
  | none => exact .inl rfl
  | some g =>
   refine .inr fun e => ?_
   obtain ⟨c, fz, hgc⟩ := Lib.ownsRowF_kind ho g hv
   obtain ⟨o, h1, h2⟩ := hr g e.symm
   rw [hgc] at h1
   cases h1
   cases h2
 rcases h with h | h
 ·exact .inl (one _ h)
 ·exact .inr (one _ h)
theorem bld_fresh (w : World) (B : Nat) (hB : B ≤ w.heap.size) : Lib.IsBuilderF 150 5 B w.heap.size (Lib.byteCells []) (w.alloc (.cells #[.pointer none, .slice none 0 0] 150)) :=
 .inl ⟨hB, .slice none 0 0, World.alloc_heap_new w _, ⟨rfl, .inl ⟨rfl, rfl⟩⟩, by simp [Value.ownBlock]⟩
theorem bld_call {W W' : World} {B d : Nat} {bs : List Value} (h : Lib.IsBuilderF 150 5 B d bs W) (hb : Below W.heap.size W W') : Lib.IsBuilderF 150 5 B d bs W' :=
 bld_kept h (row := none) ⟨hb.os, hb.tape, hb.output, hb.size, fun k hk _ => hb.block k hk⟩ (fun r e => by cases e)
theorem keeps_others {W W' : World} {B0 d : Nat} {B : Nat} {bs : List Value} (hb : Lib.IsBuilderF 150 5 B d bs W) (hO : Lib.OthersKept 5 (some d) W W') (hs : W.heap.size ≤ W'.heap.size) : KeepsFrom B0 W W' :=
 ⟨hs, fun k o _ hk ho => hO k o hk (fun e => by
  obtain rfl : k = d := by simpa using e
  rcases hb with ⟨_, v, h, _⟩ | ⟨_, v, h, _⟩ <;> (rw [h] at hk; cases hk; cases ho)) (fun c fz e => by rw [e] at ho; cases ho)⟩
theorem keeps_below {W W' : World} {B0 : Nat} (h : Below W.heap.size W W') : KeepsFrom B0 W W' :=
 ⟨h.size, fun k o _ hk _ => (h.block k (Array.getElem?_eq_some_iff.1 hk).1).trans hk⟩
theorem Blk.others {W W' : World} {b d : Nat} {f : Nat → Int} (h : Blk W b f) (hO : Lib.OthersKept 5 (some d) W W') (hne : b ≠ d) : Blk W' b f :=
 hO b _ h (fun e => hne (by simpa using e)) (fun c fz e => by cases e)
theorem digits_call (n : Nat) (w : World) (hT : Tabs w) :
  Calls Tryz.prog 124 #[natV n] w fun e w' => e = .returned (.string (padS n)) ∧ Below w.heap.size w w' := by
 refine (callsIn_wide (n := 4)).1 ?_
 have h1 : 1 ≤ 4 := by omega
 have hsz := hT.size
 show CallsIn _ _ Tryz.prog 124 #[.agg (natL (ptsOf n)).toArray] w _
 obtain ⟨X, hX⟩ : ∃ X, (natL (ptsOf n)).toArray = X := ⟨_, rfl⟩
 rw [hX]
 have HXY := Lib.hid hX
 clear hX
 refine callsIn_of_wp_marks Tryz.func124 rfl trivial ?_ rfl
 simp only [Tryz.ntmps124, List.size_toArray, List.length_cons, List.length_nil, Nat.reduceAdd, Nat.reduceSub, Array.replicate_succ, Array.replicate_zero, List.push_toArray, List.append_toArray, List.nil_append, List.cons_append]
 gi_wp2_with (refine ⟨trivial, ?_⟩; gi_at_call 158; refine (callsIn_wide.2 (back_call _ _)).mono ?_; rintro e w' ⟨rfl, rfl⟩)
 have hz0 : (((w.alloc (.cells X 125)).alloc (.cells #[.pointer none, .slice none 0 0] 150)).alloc (.cells #[.slice (some ⟨w.heap.size, 0, none⟩) 14 14] 157)).heap.size = w.heap.size + 3 := by simp
 have hW : Blk (((w.alloc (.cells X 125)).alloc (.cells #[.pointer none, .slice none 0 0] 150)).alloc (.cells #[.slice (some ⟨w.heap.size, 0, none⟩) 14 14] 157)) w.heap.size (ptsOf n) ∧ Lib.IsBuilderF 150 5 w.heap.size (w.heap.size + 1) (Lib.byteCells []) (((w.alloc (.cells X 125)).alloc (.cells #[.pointer none, .slice none 0 0] 150)).alloc (.cells #[.slice (some ⟨w.heap.size, 0, none⟩) 14 14] 157)) ∧ Below w.heap.size w (((w.alloc (.cells X 125)).alloc (.cells #[.pointer none, .slice none 0 0] 150)).alloc (.cells #[.slice (some ⟨w.heap.size, 0, none⟩) 14 14] 157)) ∧ (((w.alloc (.cells X 125)).alloc (.cells #[.pointer none, .slice none 0 0] 150)).alloc (.cells #[.slice (some ⟨w.heap.size, 0, none⟩) 14 14] 157)).heap[w.heap.size + 1 + 1]? = some (.cells #[.slice (some ⟨w.heap.size, 0, none⟩) 14 14] 157 (0, 0)) := by
  obtain rfl := HXY.out
  have b0 := Blk.new w (ptsOf n)
  have bb := bld_fresh (w.alloc (.cells (natL (ptsOf n)).toArray 125)) w.heap.size (by simp)
  rw [World.size_alloc] at bb
  refine ⟨(b0.alloc _).alloc _, bld_call bb ((Below.refl _ _).alloc (Nat.le_refl _) _), (((Below.refl w.heap.size w).alloc (Nat.le_refl _) _).alloc (by simp) _).alloc (by simp; omega) _, ?_⟩
  have h3 := heap_alloc_last ((w.alloc (.cells (natL (ptsOf n)).toArray 125)).alloc (.cells #[.pointer none, .slice none 0 0] 150)) (.cells #[.slice (some ⟨w.heap.size, 0, none⟩) 14 14] 157)
  rw [World.size_alloc, World.size_alloc] at h3
  exact h3
 obtain ⟨W0, hW0⟩ : ∃ W0, (((w.alloc (.cells X 125)).alloc (.cells #[.pointer none, .slice none 0 0] 150)).alloc (.cells #[.slice (some ⟨w.heap.size, 0, none⟩) 14 14] 157)) = W0 := ⟨_, rfl⟩
 rw [hW0] at hW hz0 ⊢
 clear hW0
 obtain ⟨hbX, hL0, hB0, hS0⟩ := hW
 have hcS : W0.cell? ⟨w.heap.size + 1 + 1, 0, none⟩ = some (.slice (some ⟨w.heap.size, 0, none⟩) 14 14) := by rw [cell_of_row W0 _ 0 _ _ _ hS0]; rfl
 have hT0 := hT.below hB0 hsz
 refine wpIn_rangeFunc_ownG rfl h1 (gf := 189) (lb := #[.pointer (some ⟨w.heap.size + 1 + 1, 0, none⟩)]) rfl trivial (enters_of Tryz.func189 (by kernel_rfl) rfl)
  (back_stops 3 (by omega) w.heap.size (w.heap.size + 1 + 1) (ptsOf n) W0 hbX hcS) KpN.trans (KpN.put (by omega) (by omega)) (Below.refl _ _) (fun _ => rfl)
  (fun pre W => ((Lib.IsBuilderF 150 5 w.heap.size (w.heap.size + 1) (Lib.byteCells (padOf n pre)) W) ∧ Blk W w.heap.size (ptsOf n) ∧ W.heap[w.heap.size + 1 + 1]? = some (.cells #[.slice (some ⟨w.heap.size, 0, none⟩) 14 14] 157 (0, 0))) ∧ Below w.heap.size W0 W)
  (fun _ _ _ => False)
  (OwnFrom.and (fun s A B row hs hg hr => ⟨bld_kept hs.1 hg (fun r e => (hr r e).2), hs.2.1.kept hg (fun r e => (hr r e).2), (grownBy_keeps_cells hg (fun r e => (hr r e).2) hs.2.2 rfl).trans hs.2.2⟩) (ownFrom_below (by omega) (by omega)))
  (fun c => fun _ _ _ _ hs _ _ => hs)
  ⟨⟨hL0, hbX, hS0⟩, Below.refl _ _⟩
  (fun x => { tmps := #[.agg X, .pointer (some ⟨w.heap.size, 0, none⟩), .string ⟨#[]⟩, .pointer (some ⟨w.heap.size + 1, 0, none⟩), undef, .int .i64 (ptsOf n x.1), undef, .slice (some ⟨w.heap.size, 0, none⟩) 14 14, .func (.func 189) #[] #[.pointer (some ⟨w.heap.size + 1 + 1, 0, none⟩)], .int .i64 (x.1 : Int), .int .i64 (ptsOf n x.1), undef, undef, undef, undef, undef, undef, undef, undef, undef, undef], defers := [] }) ?assign ?body ?done ?stop
 case assign =>
  intro l x W K hK
  gi_wp2
  exact hK
 case body =>
  rintro l pre x W ⟨⟨hBl, hbM, hS⟩, hB⟩ hlt
  have hszW := hB.size
  have hTW := hT0.below hB hsz
  have hBW : w.heap.size ≤ W.heap.size := by omega
  obtain ⟨q, hq⟩ : ∃ q, part n x.1 = q := ⟨_, rfl⟩
  have hq9 : q < 1000000000 := hq ▸ part_lt n x.1
  have hqi : ptsOf n x.1 = (q : Int) := by show ((part n x.1 : Nat) : Int) = _; rw [hq]
  have cF := format_call (q : Int) (by omega) (by omega) W hTW
  rw [itoa_digs] at cF
  have hln := digs_nine hq9
  obtain ⟨D, hD⟩ : ∃ D, ByteArray.mk (digs q).toArray = D := ⟨_, rfl⟩
  have hDz : D.size = (digs q).length := by rw [← hD]; exact bytes_mk_size _
  have hDl : D.data.toList = digs q := by rw [← hD]
  rw [hD] at cF
  have cZ := fun W' => pzeros_call (9 - (D.size : Int)) (by omega) (by omega) W'
  obtain ⟨Z, hZ⟩ : ∃ Z, zs (9 - (D.size : Int)).toNat = Z := ⟨_, rfl⟩
  have hZz : Z.size = 9 - D.size := by have h := zs_size (9 - (D.size : Int)).toNat; rw [hZ] at h; omega
  have hZl : Z.data.toList ++ D.data.toList = pad9 q := by
   rw [← hZ, zs_list, hDl]
   unfold pad9
   rw [show (9 - (D.size : Int)).toNat = 9 - (digs q).length by omega]
  rw [hZ] at cZ
  have HZ := Lib.hid (And.intro hZl hq)
  have hD9 : D.size ≤ 9 := by omega
  have hcat : Z.size + D.size ≤ 9223372036854775807 := by omega
  have h9 : Z.size + D.size = 9 := by omega
  have hlenP : (Lib.byteCells (padOf n pre)).length + 9 ≤ 140737488355328 := by rw [Lib.byteCells_length, padOf_len]; omega
  rw [hqi]
  clear hD hDl hZ hZl hq hqi hln hDz hZz
  have HH := Lib.hid (And.intro h9 (And.intro hlenP (And.intro hBl (And.intro hbM hS))))
  clear h9 hlenP hBl hbM hS
  gi_wp2_with (refine ⟨trivial, ?_⟩; gi_at_call 102; refine (CallsIn.inRound l (callsIn_wide.2 cF)).mono ?_; rintro e w2 ⟨rfl, hb2⟩)
  refine ⟨trivial, ?_⟩
  refine (CallsIn.inRound l (callsIn_wide.2 (cZ _))).mono ?_
  rintro e w3 ⟨rfl, hb3⟩
  have hb23 := hb2.trans (hb3.mono hb2.size)
  have hBl3 := bld_call HH.out.2.2.1 hb23
  have hbM3 := HH.out.2.2.2.1.call hb23
  have hS3 := (hb23.block (w.heap.size + 1 + 1) (by omega)).trans HH.out.2.2.2.2
  have cW := Tryz.WriteString w.heap.size (w.heap.size + 1) (Lib.byteCells (padOf n pre)) (Z ++ D) w3 hBl3 (by rw [app_size]; have := HH.out.1; have := HH.out.2.1; omega) (Nat.le_trans hBW hb23.size)
  have H3 := Lib.hid (And.intro hBl3 (And.intro hbM3 (And.intro hS3 hb23)))
  clear hBl3 hbM3 hS3 hb23 hb2 hb3
  gi_wp2_with (refine ⟨trivial, ?_⟩; gi_at_call 151; refine (CallsIn.inRound l (callsIn_wide.2 cW)).mono ?_; rintro e w4 ⟨rfl, hb4, hbl4, hO4⟩)
  obtain ⟨hBl3, hbM3, hS3, hb23⟩ := H3.out
  have hbM4 := hbM3.others hO4 (by omega)
  have hS4 : w4.heap[w.heap.size + 1 + 1]? = _ := hO4 _ _ hS3 (fun e => by simp at e) (fun c fz e => by cases e)
  refine ⟨(keeps_below hb23).trans (keeps_others hBl3 hO4 hbl4.size), ⟨Eq.trans hbM4 (Eq.symm HH.out.2.2.2.1), hS4.trans HH.out.2.2.2.2.symm⟩, ⟨?_, hbM4, hS4⟩, hB.trans ((hb23.mono (by omega)).trans hbl4)⟩
  refine .inr ?_
  rw [padOf_snoc, HZ.out.2, Lib.byteCells_append, ← HZ.out.1]
  rw [Lib.strCells_eq, show (Z ++ D).data.toList = Z.data.toList ++ D.data.toList by simp] at hb4
  exact hb4
 case done =>
  rintro D ys W hD rfl ⟨⟨hBl, hbM, hS⟩, hB⟩ hK
  have hszW := hB.size
  have cS := Tryz.Builder_String_any_k w.heap.size (w.heap.size + 1) (padOf n backF) W hBl (by omega)
  rw [show ByteArray.mk (padOf n backF).toArray = padS n from rfl] at cS
  obtain ⟨R, hR⟩ : ∃ R, padS n = R := ⟨_, rfl⟩
  rw [hR] at cS
  have HR := Lib.hid hR
  clear hR
  gi_wp2_with (refine ⟨trivial, ?_⟩; gi_at_call 153; refine (callsIn_wide.2 cS).mono ?_; rintro e w2 ⟨rfl, hbs2, hbl2, hO2⟩)
  have hK' := (keeps_others (B0 := W0.heap.size) hBl hO2 hbl2.size).same D _ hD hK rfl
  refine ⟨by simp, .inl ⟨_, _, rfl, run_takeDeferred hK', ?_⟩⟩
  refine ⟨.string R, ?_, by rw [HR.out], hB0.trans (hB.trans (hbl2.trans (belowK_b (w := w) (Nat.le_refl _) _ D _ _ (by omega) hK' rfl rfl)))⟩
  simp [results, Tryz.f124, go_sem]
 case stop =>
  rintro D c pre W _ _ h _
  exact h.elim
end Go.Proofs.YtmdnijehoagamaaGreatDoor
