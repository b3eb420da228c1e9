/- PL PG -/
import Derived.Test.YtmdnijehoagamaaGreatDoorK06
set_option linter.unusedVariables false
set_option linter.unusedSimpArgs false
namespace Go.Proofs.YtmdnijehoagamaaGreatDoor
set_option maxRecDepth 100000
set_option maxHeartbeats 4000000
open Go.RowKit
theorem Buf.block {b : Nat} {O : List UInt8} {W W' : World} (h : Buf b O W) (e : W'.heap[b]? = W.heap[b]?) : Buf b O W' :=
 ⟨fun j c hj => (World.cell?_of_block (w := W) e).trans (h.cell j c hj), fun j hj => (World.frozen?_of_block (w := W) e).trans (h.free j hj)⟩
theorem setCells_blk (b : Nat) (t : TypeId) : ∀ (vs : List Value) (o : Nat) (w : World) (c : Array Value), w.heap[b]? = some (.cells c t (0, 0)) → ∃ c', (w.setCells b o vs).heap[b]? = some (.cells c' t (0, 0)) ∧ c'.size = c.size
 | [], _, _, c, h => ⟨c, h, rfl⟩
 | v :: r, o, w, c, h => by
  have h2 := heap_setCell_same w b o c t v h
  obtain ⟨c', h3, h4⟩ := setCells_blk b t r (o + 1) _ _ h2
  exact ⟨c', h3, by rw [h4]; simp⟩
theorem Blk.setCells {W : World} {b : Nat} {f : Nat → Int} (h : Blk W b f) (g : Nat → Int) : Blk (W.setCells b 0 (natL g)) b g := by
 obtain ⟨c', h1, h2⟩ := setCells_blk b _ (natL g) 0 W _ h
 have h3 := World.rangeAt_setCells_same W b 0 (natL g) (by rw [natL_len]; exact h.there)
 unfold Blk
 rw [h1]
 have e : c' = (natL g).toArray := by
  apply Array.ext_getElem?
  intro j
  by_cases hj : j < 14
  ·have h4 := h3 j _ (natL_at g j hj)
   rw [Nat.zero_add, cell_of_row _ b j _ _ _ h1] at h4
   rw [h4]
   simpa using (natL_at g j hj).symm
  ·have e1 : c'.size = 14 := by rw [h2, List.size_toArray, natL_len]
   rw [Array.getElem?_eq_none (by omega), Array.getElem?_eq_none (by rw [List.size_toArray, natL_len]; omega)]
 rw [e]
theorem below_cells {B b : Nat} {a : World} (hb : B ≤ b) : ∀ (vs : List Value) (o : Nat) (w : World), Below B a w → Below B a (w.setCells b o vs)
 | [], _, _, h => h
 | v :: r, o, w, h => below_cells hb r (o + 1) _ (h.setCell (p := ⟨b, o, none⟩) hb v)
theorem cells_size (b : Nat) : ∀ (vs : List Value) (o : Nat) (w : World), (w.setCells b o vs).heap.size = w.heap.size
 | [], _, _ => rfl
 | v :: r, o, w => by rw [World.setCells, cells_size b r (o + 1), World.size_setCell]
theorem cells_other (b k : Nat) (hk : k ≠ b) : ∀ (vs : List Value) (o : Nat) (w : World), (w.setCells b o vs).heap[k]? = w.heap[k]?
 | [], _, _ => rfl
 | v :: r, o, w => by rw [World.setCells, cells_other b k hk r (o + 1)]; exact Below.heap_setCell w ⟨b, o, none⟩ v k hk
structure QuAt (w W : World) (n r : Nat) (O : List UInt8) : Prop where
 y : Blk W w.heap.size (ptsOf n)
 buf : Buf (w.heap.size + 1) O W
 rest : Blk W (w.heap.size + 1 + 1) (ptsOf r)
 below : Below w.heap.size w W
 size : w.heap.size + 3 ≤ W.heap.size
theorem QuAt.call {w W W' : World} {n r : Nat} {O : List UInt8} (h : QuAt w W n r O) (B : Below W.heap.size W W') : QuAt w W' n r O := by
 have hz := h.size
 exact ⟨h.y.call B, h.buf.block (B.block _ (by omega)), h.rest.call B, h.below.trans (B.mono (by omega)), Nat.le_trans hz B.size⟩
theorem QuAt.cells {w W : World} {n r : Nat} {O : List UInt8} (h : QuAt w W n r O) (s : Nat) : QuAt w (W.setCells (w.heap.size + 1 + 1) 0 (natL (ptsOf s))) n s O := by
 have hz := h.size
 exact ⟨(cells_other _ _ (by omega) _ 0 W).trans h.y, h.buf.block (cells_other _ _ (by omega) _ 0 W), h.rest.setCells _, below_cells (by omega) _ _ _ h.below, by rw [cells_size]; exact hz⟩
theorem QuAt.row {w W : World} {n r : Nat} {O : List UInt8} (h : QuAt w W n r O) (s : Nat) : QuAt w (W.setRow (w.heap.size + 1 + 1) (natL (ptsOf s)).toArray) n s O := by
 have hz := h.size
 exact ⟨(setRow_other _ _ _ _ (by omega)).trans h.y, h.buf.block (setRow_other _ _ _ _ (by omega)), setRow_heap _ _ _ _ _ _ h.rest, below_row h.below (by omega) _, by rw [size_setRow]; exact hz⟩
theorem QuAt.byte {w W : World} {n r : Nat} {O : List UInt8} (h : QuAt w W n r O) {i : Nat} (hi : i < O.length) (c : UInt8) : QuAt w (W.setCell ⟨w.heap.size + 1, i, none⟩ (.int .u8 (c.toNat : Int))) n r (O.set i c) :=
 ⟨h.y.far _ _ (by omega), h.buf.set hi c, h.rest.far _ _ (by omega), h.below.setCell (p := ⟨w.heap.size + 1, i, none⟩) (by show w.heap.size ≤ w.heap.size + 1; omega) _, by rw [World.size_setCell]; exact h.size⟩
structure QuOk (a : List UInt8) (n i : Nat) (O : List UInt8) : Prop where
 len : O.length = a.length
 all : AllD (O.take i)
 val : val (O.take i) = val (a.take i) / n
theorem quok_next {a O : List UInt8} {n i y k : Nat} (h : QuOk a n i O) (hi : i < a.length) (hn : 0 < n) (hy : y = val (a.take i) % n * 10 + dg a[i]) (h1 : k * n ≤ y) (h2 : y - k * n < n) (hk : k ≤ 9) :
  QuOk a n (i + 1) (O.set i (UInt8.ofNat (48 + k))) ∧ val (a.take (i + 1)) % n = y - k * n := by
 obtain ⟨d1, d2⟩ := div_next (x := val (a.take i)) (d := dg a[i]) hn
 rw [← val_take_succ hi, ← hy] at d1 d2
 obtain ⟨q1, q2⟩ := div_end h1 h2
 have hol : i < O.length := by rw [h.len]; exact hi
 have e : (O.set i (UInt8.ofNat (48 + k))).take (i + 1) = O.take i ++ [UInt8.ofNat (48 + k)] := by
  rw [List.take_add_one, List.getElem?_set_self hol, List.take_set_of_le (Nat.le_refl i)]
  rfl
 refine ⟨⟨by rw [List.length_set]; exact h.len, ?_, ?_⟩, by rw [d2, q2]⟩
 ·rw [e]
  exact h.all.append (AllD.cons (by rw [dig_nat (by omega)]; omega) AllD.nil)
 ·rw [e, val_snoc, h.val, dg_nat (by omega), d1, q1]
theorem mk_bytes (n : Nat) (hn : n ≤ 100000) : ∃ M : Array Value, (∀ W : World, (Instr.makeSlice 93 (.int .i64 (n : Int)) (.int .i64 (n : Int))).run Tryz.prog W = .ok (.slice (some ⟨W.heap.size, 0, none⟩) n n) (W.alloc (.cells M 5))) ∧ ∀ W : World, Buf W.heap.size (List.replicate n 0) (W.alloc (.cells M 5)) := by
 obtain ⟨i0, hi, hz0, hz1, hz2⟩ := info_parts (show (Tryz.prog.info? 5).map (fun i => (i.zero, i.size, i.bytes)) = some (some (.int .u8 0), 1, 1) by kernel_rfl)
 refine ⟨madeCells (Value.int .u8 0).cells (((n : Nat) : Int).toNat * i0.size), fun W => ?_, fun W => ⟨fun j c hj => ?_, fun j hj => ?_⟩⟩
 ·have h := run_make (P := Tryz.prog) W 93 5 i0 (.int .u8 0) Tryz.underlying93 hi hz0 .i64 .i64 (n : Int) (n : Int) (by omega) (by omega) (by rw [hz2]; omega) (by omega)
  simpa using h
 ·have hj2 : j < n := by
   have := (List.getElem?_eq_some_iff.1 hj).1
   simpa using this
  have hc : c = 0 := List.eq_of_mem_replicate (List.mem_of_getElem? hj)
  subst hc
  rw [World.cell?_alloc_at _ _ _ _ rfl, hz1]
  simp [madeCells, hj2, Value.cells, Nat.mod_one]
 ·rw [World.frozen?_alloc_at _ _ _ _ rfl]
theorem quo_call (a : ByteArray) (n : Nat) (hall : AllD a.data.toList) (hz : a.size ≤ 200) (hn : 0 < n) (hn2 : n < 10 ^ 121) (w : World) :
  Calls Tryz.prog 137 #[.string a, natV n] w fun e w' => ∃ s : ByteArray, e = .returned (.string s) ∧ AllD s.data.toList ∧ val s.data.toList = val a.data.toList / n ∧ s.size = a.size ∧ Below w.heap.size w w' := by
 have hp10 : 10 * n + 9 < 10 ^ 126 := by
  have e : (10 : Nat) ^ 126 = 10 ^ 121 * 100000 := by rw [show (126 : Nat) = 121 + 5 from rfl, Nat.pow_add]
  rw [e]
  generalize (10 : Nat) ^ 121 = p at hn2
  omega
 obtain ⟨L, hL⟩ : ∃ L, a.data.toList = L := ⟨_, rfl⟩
 have hLz : L.length = a.size := by rw [← hL]; exact bytes_len a
 obtain ⟨M, hmk, hbuf⟩ := mk_bytes a.size (by omega)
 have HL := Lib.hid (And.intro hL (And.intro hall (And.intro hn (And.intro hp10 hbuf))))
 clear hL hall hbuf
 show Calls Tryz.prog 137 #[.string a, .agg (natL (ptsOf n)).toArray] w _
 obtain ⟨X, hX⟩ : ∃ X, (natL (ptsOf n)).toArray = X := ⟨_, rfl⟩
 rw [hX]
 have HX := Lib.hid (And.intro hX hLz)
 clear hX hLz hn hn2 hp10
 go_enter Tryz.func137, Tryz.ntmps137
 go_wp2
 have hA : QuAt w (((w.alloc (.cells X 125)).alloc (.cells M 5)).alloc (.cells (natL fun _ => 0).toArray 125)) n 0 (List.replicate a.size 0) := by
  obtain ⟨rfl, _⟩ := HX.out
  have b0 := Blk.new w (ptsOf n)
  have b1 := HL.out.2.2.2.2 (w.alloc (.cells (natL (ptsOf n)).toArray 125))
  have b2 := Blk.new ((w.alloc (.cells (natL (ptsOf n)).toArray 125)).alloc (.cells M 5)) (fun _ => 0)
  rw [World.size_alloc] at b1
  rw [World.size_alloc, World.size_alloc] at b2
  have e0 : ptsOf 0 = fun _ => 0 := by
   funext p
   unfold ptsOf part
   simp
  refine ⟨(b0.alloc _).alloc _, b1.block (((Below.refl _ _).alloc (Nat.le_refl _) _).block _ (by simp)), ?_, (((Below.refl w.heap.size w).alloc (Nat.le_refl _) _).alloc (by simp) _).alloc (by simp; omega) _, by simp⟩
  rw [e0]
  exact b2
 go_loopg [13] (a.size + 1) (fun gk v13 wr => ∃ (i r : Nat) (O : List UInt8), v13 = .int .i64 (i : Int) ∧ i ≤ a.size ∧ gk + i = a.size + 1 ∧ Hid (QuAt w wr n r O ∧ QuOk L n i O ∧ val (L.take i) % n = r))
 case atStart =>
  refine ⟨0, 0, _, rfl, Nat.zero_le _, rfl, hA, ⟨by rw [List.length_replicate]; exact HX.out.2.symm, AllD.nil, ?_⟩, ?_⟩
  ·simp [val_nil]
  ·simp [val_nil]
 case round =>
  obtain ⟨i, r, O, rfl, hi, hgk, HS⟩ := hrel
  by_cases hlt : i < a.size
  ·have hil : i < L.length := by rw [HX.out.2]; exact hlt
   have ea : a[i] = L[i] := byte_at HL.out.1 hlt hil
   have hd := HL.out.2.1 L[i] (by rw [HL.out.1]; exact List.getElem_mem hil)
   have hO : O.length = a.size := by rw [HS.out.2.1.len, HX.out.2]
   obtain ⟨y, hy⟩ : ∃ y, 10 * r + dg L[i] = y := ⟨_, rfl⟩
   have hdg := dg_le hd
   have hrn : r < n := by rw [← HS.out.2.2]; exact Nat.mod_lt _ HL.out.2.2.1
   have hy10 : y < 10 * n := by omega
   have cT := fun W => Ten_call r (dg L[i]) (by have := HL.out.2.2.2.1; omega) a[i] (by rw [ea]; exact hd.1) (by rw [ea]; exact hd.2) (by rw [ea]) W
   rw [hy] at cT
   have HY := Lib.hid (And.intro hy (And.intro hy10 (And.intro hO hil)))
   obtain ⟨YL, hYL⟩ : ∃ YL, natL (ptsOf y) = YL := ⟨_, rfl⟩
   obtain ⟨RL, hRL⟩ : ∃ RL, natL (ptsOf r) = RL := ⟨_, rfl⟩
   change ∀ W, Calls Tryz.prog 167 #[.agg (natL (ptsOf r)).toArray, .int .u8 (a[i].toNat : Int)] W fun e w' => e = .returned (.agg (natL (ptsOf y)).toArray) ∧ Below W.heap.size W w' at cT
   rw [hYL, hRL] at cT
   have hY1 : ∀ v ∈ YL, v.oneCell' = true := by rw [← hYL]; exact natL_one _
   have hYl : YL.length = 14 := by rw [← hYL]; exact natL_len _
   have hRl : RL.length = 14 := by rw [← hRL]; exact natL_len _
   have hRg : wr.drew.rangeAt (w.heap.size + 1 + 1) 0 RL := by rw [← hRL]; exact HS.out.1.rest.range
   have hTh : wr.drew.there (w.heap.size + 1 + 1) 0 14 := HS.out.1.rest.there
   have HYL := Lib.hid hYL
   clear hd hdg hrn hy hy10 hO hYL hRL ea
   go_wp2_with fail
   have hu : Tryz.prog.underlying 125 = some (.array 14 2) := Tryz.underlying125
   have hi14 : (Tryz.prog.info? 125).map (·.size) = some 14 := by kernel_rfl
   refine wp_region_any (by kernel_rfl) ?_
   change wpAny _ _ _ _ _ _ _ (World.drew _)
   refine wpAny_take (i := 1) (v := ?_) rfl (by kernel_rfl) (by kernel_rfl) (by kernel_rfl) (fun _ _ _ h => h) (Or.inl ⟨by rfl, ?_⟩) ?_
   rotate_left
   ·intro w; go_simp; with_reducible rfl
   refine wpAny_take (i := 2) (v := ?_) rfl (by kernel_rfl) (by kernel_rfl) (by kernel_rfl) (fun _ _ _ h => h) (Or.inl ⟨by rfl, ?_⟩) ?_
   rotate_left
   ·intro w; go_simp; with_reducible rfl
   refine wpAny_take (i := 3) (v := ?_) rfl (by kernel_rfl) (by kernel_rfl) (by kernel_rfl) (fun _ _ _ h => h) (Or.inl ⟨by rfl, ?_⟩) ?_
   rotate_left
   ·intro w; go_simp; with_reducible rfl
   refine wpAny_ready (rs := [0]) (by kernel_rfl) (by simp) ?_
   refine AllReady.cons rfl (fun K hK => ?_) AllReady.nil
   rw [if_pos (by rfl)]
   refine wp_load_mid 125 _ rfl _ _ rfl RL _ hRg hu rfl (by rw [hRl]; exact hi14) ?_
   refine hK _ _ ?_
   clear hK K
   refine wpAny_ready (rs := [4]) (by kernel_rfl) (by simp) ?_
   refine AllReady.cons rfl (fun K hK => ?_) AllReady.nil
   go_simp
   refine (cT _).mono ?_
   rintro e w2 ⟨rfl, b2⟩
   have h2 := HS.out.1.call ((below_drew1 _).trans b2)
   have hTh2 := h2.rest.there
   have H2 := Lib.hid h2
   clear h2
   refine hK _ _ ?_
   clear hK K
   refine wpAny_ready (rs := [5]) (by kernel_rfl) (by simp) ?_
   refine AllReady.cons rfl (fun K hK => ?_) AllReady.nil
   rw [if_pos (by rfl)]
   refine wp_store_mid 125 _ _ rfl _ _ YL.toArray rfl rfl (by show w2.there _ 0 YL.length; rw [hYl]; exact hTh2) (by show _ = some YL.length; rw [hYl]; exact hi14) (all_oneCell_toArray hY1) ?_
   refine hK _ _ ?_
   clear hK K
   refine wpAny_done (by kernel_rfl) ?_ _
   have h3 := H2.out.cells y
   rw [HYL.out] at h3
   have h4 := h3.byte (i := i) (by rw [HY.out.2.2.1]; exact hlt) 48
   have hcb := h3.buf.cell i _ (List.getElem?_eq_getElem (by rw [HY.out.2.2.1]; exact hlt))
   have hfb := h3.buf.free i (by rw [HY.out.2.2.1]; exact hlt)
   obtain ⟨W3, hW3⟩ : ∃ W3, w2.setCells (w.heap.size + 1 + 1) 0 YL = W3 := ⟨_, rfl⟩
   simp only [hW3] at h4 hcb hfb ⊢
   have H4 := Lib.hid h4
   clear h3 h4 hW3 hTh2 hTh hRg cT hu hi14 hY1 hYl hRl
   go_wp2_with fail
   go_loopg [24] 11 (fun g2 v24 wr2 => ∃ k : Nat, g2 + k = 11 ∧ k ≤ 9 ∧ k * n ≤ y ∧ Hid (QuAt w wr2 n (y - k * n) (O.set i (UInt8.ofNat (48 + k)))))
   case atStart => exact ⟨0, rfl, by omega, by omega, by
    show QuAt _ _ _ _ _
    rw [Nat.zero_mul, Nat.sub_zero]
    exact H4.out⟩
   case round =>
    obtain ⟨k, hg2, hk9, hkn, HQ⟩ := hrel
    clear H4 hcb hfb
    have hrX := HQ.out.rest
    have hyX := HQ.out.y
    have hn126 : n < 10 ^ 126 := by have := HL.out.2.2.2.1; omega
    have hr126 : y - k * n < 10 ^ 126 := by have := HL.out.2.2.2.1; have := HY.out.2.1; omega
    have cC := fun W => cmp_call (y - k * n) n hr126 hn126 W
    change ∀ W, Calls Tryz.prog 125 #[.agg (natL (ptsOf (y - k * n))).toArray, .agg (natL (ptsOf n)).toArray] W _ at cC
    by_cases hless : y - k * n < n
    ·have hcm : cmpN (y - k * n) n = -1 := by unfold cmpN; rw [if_pos hless]
     rw [hcm] at cC
     clear hn126 hr126 hcm
     go_wp2_with (first
      | (refine wpList_load_row rfl 125 _ rfl (w.heap.size + 1 + 1) rfl 125 _ (0, 0) _ hrX Tryz.underlying125 rfl (nat_size _) ?_)
      | (refine wpList_load_row rfl 125 _ rfl w.heap.size rfl 125 _ (0, 0) _ hyX Tryz.underlying125 rfl (nat_size _) ?_)
      | (go_at_call 125; refine (cC _).mono ?_; rintro e w5 ⟨rfl, b5⟩))
     obtain ⟨q1, q2⟩ := quok_next HS.out.2.1 HY.out.2.2.2 HL.out.2.2.1 (y := y) (k := k) (by rw [HS.out.2.2]; have := HY.out.1; omega) hkn hless hk9
     have HF := Lib.hid (And.intro (HQ.out.call b5) (And.intro q1 q2))
     clear q1 q2 hrX hyX
     go_roundg (a.size - i)
     case measure => omega
     case rel => exact ⟨i + 1, y - k * n, _, by go_num, by omega, by omega, HF.out⟩
    ·have hge : n ≤ y - k * n := by omega
     have hk8 : k + 1 ≤ 9 := by
      have h1 : (k + 1) * n < 10 * n := by
       rw [Nat.add_mul, Nat.one_mul]
       have := HY.out.2.1
       omega
      have := Nat.lt_of_mul_lt_mul_right h1
      omega
     have hkn2 : (k + 1) * n ≤ y := by rw [Nat.add_mul, Nat.one_mul]; omega
     have hsub : y - k * n - n = y - (k + 1) * n := by rw [Nat.add_mul, Nat.one_mul]; omega
     obtain ⟨R, hR⟩ : ∃ R, cmpN (y - k * n) n = R := ⟨_, rfl⟩
     have hR0 : 0 ≤ R := by
      rw [← hR]
      unfold cmpN
      rw [if_neg (by omega)]
      split <;> omega
     rw [hR] at cC
     have cD := fun W => Dif_call (y - k * n) n hr126 hge W
     rw [hsub] at cD
     change ∀ W, Calls Tryz.prog 126 #[.agg (natL (ptsOf (y - k * n))).toArray, .agg (natL (ptsOf n)).toArray] W fun e w' => e = .returned (.agg (natL (ptsOf (y - (k + 1) * n))).toArray) ∧ Below W.heap.size W w' at cD
     have hkl : i < (O.set i (UInt8.ofNat (48 + k))).length := by rw [List.length_set, HY.out.2.2.1]; exact hlt
     clear hn126 hr126 hR hless hge hsub
     go_wp2_with (first
      | (refine wpList_load_row rfl 125 _ rfl (w.heap.size + 1 + 1) rfl 125 _ (0, 0) _ hrX Tryz.underlying125 rfl (nat_size _) ?_)
      | (refine wpList_load_row rfl 125 _ rfl w.heap.size rfl 125 _ (0, 0) _ hyX Tryz.underlying125 rfl (nat_size _) ?_)
      | (go_at_call 125; refine (cC _).mono ?_; rintro e w5 ⟨rfl, b5⟩; have h5 := HQ.out.call b5; have hrX5 := h5.rest; have hyX5 := h5.y; have H5 := Lib.hid h5; clear h5)
      | (refine wpList_load_row rfl 125 _ rfl (w.heap.size + 1 + 1) rfl 125 _ (0, 0) _ hrX5 Tryz.underlying125 rfl (nat_size _) ?_)
      | (refine wpList_load_row rfl 125 _ rfl w.heap.size rfl 125 _ (0, 0) _ hyX5 Tryz.underlying125 rfl (nat_size _) ?_)
      | (go_at_call 126; refine (cD _).mono ?_; rintro e w6 ⟨rfl, b6⟩; have h6 := H5.out.call b6; have hrX6 := h6.rest; have H6 := Lib.hid h6; clear h6)
      | (refine wpList_store_row rfl 125 _ _ rfl (w.heap.size + 1 + 1) _ rfl rfl 125 _ hrX6 (nat_size _) (by simp [natL_len]) (nat_one _) ?_; have h7 := H6.out.row (y - (k + 1) * n); have hcb := h7.buf.cell i _ (List.getElem?_eq_getElem hkl); rw [List.getElem_set_self, dig_nat (by omega), Int.natCast_add] at hcb; have hfb := h7.buf.free i hkl; have H7 := Lib.hid h7; clear h7))
     have h8 := H7.out.byte hkl (UInt8.ofNat (48 + (k + 1)))
     rw [List.set_set, dig_nat (by omega), show ((48 + (k + 1) : Nat) : Int) = 48 + (k : Int) + 1 by omega] at h8
     have H8 := Lib.hid h8
     clear h8 hcb hfb hrX hyX hrX5 hyX5 hrX6
     go_roundg (10 - k)
     case measure => omega
     case rel => exact ⟨k + 1, by omega, hk8, hkn2, H8⟩
  ·obtain rfl : i = a.size := by omega
   clear hlt
   have hOl : O.length = a.size := by rw [HS.out.2.1.len, HX.out.2]
   have hcv := HS.out.1.buf.str a.size
   rw [hOl] at hcv
   have hall := HS.out.2.1.all
   have hval := HS.out.2.1.val
   have e1 : O.take a.size = O := by rw [← hOl]; exact List.take_length
   have e2 : L.take a.size = L := by rw [← HX.out.2]; exact List.take_length
   rw [e1] at hall hval
   rw [e2] at hval
   have HE := Lib.hid (And.intro hall (And.intro hval hOl))
   clear hOl hall hval e1 e2
   go_wp2
   go_ret
   exact ⟨_, rfl, by rw [bytes_mk]; exact HE.out.1, by rw [bytes_mk, HL.out.1]; exact HE.out.2.1, by rw [bytes_mk_size]; exact HE.out.2.2, HS.out.1.below⟩
structure NofAt (w W : World) (V m : Nat) : Prop where
 r : Blk W w.heap.size (fun _ => 0)
 x : Blk W (w.heap.size + 1) (fun p => (pread V p m : Int))
 below : Below w.heap.size w W
 size : w.heap.size + 2 ≤ W.heap.size
theorem NofAt.drew1 {w W : World} {V m : Nat} (h : NofAt w W V m) : NofAt w W.drew V m := ⟨h.r, h.x, below_drewN h.below 1, h.size⟩
theorem NofAt.next {w W : World} {V m : Nat} (h : NofAt w W V (m + 1)) (d : Nat) (hd : V / 10 ^ m % 10 = d) (q : Nat) (hq : m / 9 = q) : NofAt w (W.setCell ⟨w.heap.size + 1, q, none⟩ (.int .i64 ((pread V q (m + 1) : Int) * 10 + (d : Int)))) V m := by
 subst hq hd
 refine ⟨h.r.far _ _ (by omega), ?_, h.below.setCell (p := ⟨w.heap.size + 1, m / 9, none⟩) (by show w.heap.size ≤ w.heap.size + 1; omega) _, by rw [World.size_setCell]; exact h.size⟩
 have h2 := h.x.set (m / 9) ((pread V (m / 9) (m + 1) : Int) * 10 + ((V / 10 ^ m % 10 : Nat) : Int))
 unfold Blk at h2 ⊢
 rw [h2]
 refine congrArg (fun l => some (Obj.cells (List.toArray l) 125 (0, 0))) (natL_congr fun p hp => ?_)
 unfold upd
 by_cases hpi : p = m / 9
 ·subst hpi
  rw [if_pos rfl, pread_this V m]
  omega
 ·rw [if_neg hpi]
  show (pread V p (m + 1) : Int) = _
  rw [pread_other V p m hpi]
theorem of_call (s : ByteArray) (hall : AllD s.data.toList) (hz : s.size ≤ 126) (w : World) :
  Calls Tryz.prog 139 #[.string s] w fun e w' => e = .returned (natV (val s.data.toList)) ∧ Below w.heap.size w w' := by
 obtain ⟨V, hV⟩ : ∃ V, val s.data.toList = V := ⟨_, rfl⟩
 rw [hV]
 have hVl : V < 10 ^ (9 * 14) := by
  have := val_lt hall
  rw [hV, bytes_len] at this
  exact Nat.lt_of_lt_of_le this (Nat.pow_le_pow_right (by omega) (by omega))
 obtain ⟨Q, hQ⟩ : ∃ Q, natV V = Q := ⟨_, rfl⟩
 rw [hQ]
 have HV := Lib.hid (And.intro hV (And.intro hQ hall))
 have hdig : ∀ m i (h : i < s.size), m + i + 1 = s.size → 48 ≤ s[i].toNat ∧ s[i].toNat ≤ 57 ∧ V / 10 ^ m % 10 = dg s[i] := fun m i h hm => by
  have hil : i < s.data.toList.length := by rw [bytes_len]; exact h
  have ea : s[i] = s.data.toList[i] := byte_at rfl h hil
  have hd := hall s.data.toList[i] (List.getElem_mem hil)
  rw [ea]
  refine ⟨hd.1, hd.2, ?_⟩
  have hsp : s.data.toList = s.data.toList.take i ++ s.data.toList[i] :: s.data.toList.drop (i + 1) := by
   rw [← List.drop_eq_getElem_cons hil, List.take_append_drop]
  have h1 := val_dig (A := s.data.toList.take i) (T := s.data.toList.drop (i + 1)) (hall.drop _) hd
  rw [← hsp, hV, List.length_drop, bytes_len, show s.size - (i + 1) = m by omega] at h1
  exact h1
 have hbig : ∀ p, pread V p s.size = 0 := fun p => by
  unfold pread part
  rw [Nat.div_eq_of_lt]
  have h0 := val_lt hall
  rw [hV, bytes_len] at h0
  by_cases hp : 9 * p ≤ s.size
  ·refine Nat.lt_of_le_of_lt (Nat.mod_le _ _) (Nat.div_lt_of_lt_mul ?_)
   rw [← Nat.pow_add, show 9 * p + (s.size - 9 * p) = s.size by omega]
   exact h0
  ·rw [Nat.div_eq_of_lt (Nat.lt_of_lt_of_le h0 (Nat.pow_le_pow_right (by omega) (by omega))), Nat.zero_mod]
   exact Nat.pow_pos (by omega)
 have HD := Lib.hid (And.intro hdig hbig)
 clear hV hQ hall hVl hdig hbig
 go_enter Tryz.func139, Tryz.ntmps139
 go_wp2
 have hA : NofAt w ((w.alloc (.cells (natL fun _ => 0).toArray 125)).alloc (.cells (natL fun _ => 0).toArray 125)) V s.size := by
  have b0 := Blk.new w (fun _ => 0)
  have b1 := Blk.new (w.alloc (.cells (natL fun _ => 0).toArray 125)) (fun _ => 0)
  rw [World.size_alloc] at b1
  refine ⟨b0.alloc _, ?_, ((Below.refl w.heap.size w).alloc (Nat.le_refl _) _).alloc (by simp) _, by simp⟩
  unfold Blk at b1 ⊢
  rw [b1]
  exact congrArg (fun l => some (Obj.cells (List.toArray l) 125 (0, 0))) (natL_congr fun p hp => by rw [HD.out.2 p]; rfl)
 go_loopg [8] (s.size + 1) (fun gk v8 wr => ∃ i m : Nat, v8 = .int .i64 (i : Int) ∧ i + m = s.size ∧ gk + i = s.size + 1 ∧ Hid (NofAt w wr V m))
 case atStart => exact ⟨0, s.size, rfl, by omega, rfl, hA⟩
 case round =>
  obtain ⟨i, m, rfl, hi, hgk, HA⟩ := hrel
  by_cases hlt : i < s.size
  ·obtain ⟨m, rfl⟩ : ∃ m', m = m' + 1 := ⟨m - 1, by omega⟩
   obtain ⟨d0, d9, hd⟩ := HD.out.1 m i hlt (by omega)
   obtain ⟨q, hq⟩ : ∃ q, m / 9 = q := ⟨_, rfl⟩
   have hq14 : q < 14 := by omega
   have hx := HA.out.x.cell hq14
   have hf := HA.out.x.free q
   have ha9 : pread V q (m + 1) < 1000000000 := Nat.lt_of_le_of_lt (Nat.div_le_self _ _) (part_lt V q)
   obtain ⟨d, hdd⟩ : ∃ d, dg s[i] = d := ⟨_, rfl⟩
   have hdc : (s[i].toNat : Int) - 48 = (d : Int) := by have := dg_eq s[i] d0; omega
   have hd9 : d ≤ 9 := by have := dg_eq s[i] d0; omega
   rw [hdd] at hd
   have hm : (s.size : Int) - 1 - (i : Int) = (m : Int) := by omega
   have hqi : Int.tdiv (m : Int) 9 = (q : Int) := by rw [Int.tdiv_eq_ediv_of_nonneg (by omega)]; omega
   have HN : Hid (NofAt w (wr.setCell ⟨w.heap.size + 1, q, none⟩ (.int .i64 ((pread V q (m + 1) : Int) * 10 + (d : Int)))) V m) := HA.out.next d hd q hq
   generalize pread V q (m + 1) = a at hx ha9 HN
   clear hd hq hdd
   go_wp2_with fail
   go_region
   all_goals go_wp2
   all_goals (
    go_roundg (s.size - i)
    case measure => omega
    case rel => exact ⟨i + 1, m, by go_num, by omega, by omega, NofAt.drew1 HN.out⟩)
  ·obtain rfl : m = 0 := by omega
   clear hlt
   have hxB : Blk wr (w.heap.size + 1) (ptsOf V) := by
    have h := HA.out.x
    unfold Blk at h ⊢
    rw [h]
    exact congrArg (fun l => some (Obj.cells (List.toArray l) 125 (0, 0))) (natL_congr fun p hp => by rw [pread_done]; rfl)
   have hrB := HA.out.r
   go_wp2_with (first
    | (refine wpList_load_row rfl 125 _ rfl (w.heap.size + 1) rfl 125 _ (0, 0) _ hxB Tryz.underlying125 rfl (nat_size _) ?_)
    | (refine wpList_store_row rfl 125 _ _ rfl w.heap.size _ rfl rfl 125 _ hrB (nat_size _) (by simp [natL_len]) (nat_one _) ?_))
   exact bodyPost_ret (results_cell_row (fn := Tryz.f139) rfl _ _ w.heap.size 125 _ (0, 0) _ rfl (setRow_heap _ _ _ _ _ _ hrB) Tryz.underlying125 rfl (nat_size _)) rfl ⟨HV.out.2.1 ▸ rfl, below_row HA.out.below (Nat.le_refl _) _⟩
end Go.Proofs.YtmdnijehoagamaaGreatDoor
