/- Squeeze on lists of characters: what is squeezed is not squeezed further. -/
import Derived.Lib.TrimUEq
import Derived.Lib.MapU
import Derived.Lib.FieldsP
import Derived.Lib.Join
import Derived.Test.YtiefpdoefdldpaaDoorY3
namespace Go.Proofs.YtiefpdoefdldpaaDoor
open Go.RowKit

theorem encAll_append (a b : List Int) : encAll (a ++ b) = encAll a ++ encAll b := by simp [encAll]

theorem encodeRune_eq (c : Nat) (hv : V c) : Lib.encodeRune (c : Int) = bytesL c := by
  have e : ∀ n : Nat, ((n : Int)).toNat.toUInt8 = UInt8.ofNat n := fun n => rfl
  unfold Lib.encodeRune bytesL
  unfold V at hv
  by_cases h1 : c < 128
  · rw [Lib.encodeRuneZ_one (by omega) (by omega), if_pos h1]
    rfl
  by_cases h2 : c < 2048
  · rw [Lib.encodeRuneZ_two (by omega) (by omega), if_neg h1, if_pos h2]
    simp only [List.map_cons, List.map_nil]
    rw [show (192 + (c : Int) / 64) = ((192 + c / 64 : Nat) : Int) by omega, show (128 + (c : Int) % 64) = ((128 + c % 64 : Nat) : Int) by omega]
    rfl
  by_cases h3 : c < 65536
  · rw [Lib.encodeRuneZ_three (by omega), if_neg h1, if_neg h2, if_pos h3]
    simp only [List.map_cons, List.map_nil]
    rw [show (224 + (c : Int) / 4096) = ((224 + c / 4096 : Nat) : Int) by omega, show (128 + (c : Int) / 64 % 64) = ((128 + c / 64 % 64 : Nat) : Int) by omega, show (128 + (c : Int) % 64) = ((128 + c % 64 : Nat) : Int) by omega]
    rfl
  · rw [Lib.encodeRuneZ_four (by omega) (by omega), if_neg h1, if_neg h2, if_neg h3]
    simp only [List.map_cons, List.map_nil]
    rw [show (240 + (c : Int) / 262144) = ((240 + c / 262144 : Nat) : Int) by omega, show (128 + (c : Int) / 4096 % 64) = ((128 + c / 4096 % 64 : Nat) : Int) by omega, show (128 + (c : Int) / 64 % 64) = ((128 + c / 64 % 64 : Nat) : Int) by omega, show (128 + (c : Int) % 64) = ((128 + c % 64 : Nat) : Int) by omega]
    rfl

theorem mapGo_enc (f : Int → Int) (hf : ∀ c, vldB c = true → vldB (f c) = true) : ∀ (zs : List Int), zs.all vldB = true → ∀ k, (encAll zs).length ≤ k → Lib.mapGoD f k (encAll zs) = encAll (zs.map f)
  | [], _, k, _ => by cases k <;> rfl
  | c :: zs, hv, k, hk => by
    rw [List.all_cons, Bool.and_eq_true] at hv
    have hfc := hf c hv.1
    obtain ⟨n, rfl, hV, _⟩ := vld_nat hv.1
    obtain ⟨m, hm, hVm, _⟩ := vld_nat hfc
    have hp := bytesL_pos n
    rw [List.map_cons, encAll_cons, encAll_cons, Int.toNat_natCast] at *
    rw [List.length_append] at hk
    obtain ⟨k, rfl⟩ : ∃ j, k = j + 1 := ⟨k - 1, by omega⟩
    have hne : bytesL n ++ encAll zs ≠ [] := by
      intro e
      have := congrArg List.length e
      rw [List.length_append, List.length_nil] at this
      omega
    have hd := (stepD_some (stepD_enc hV (encAll zs))).2.2.2
    unfold Lib.mapGoD
    rw [if_neg hne, hd]
    simp only
    rw [List.drop_left, mapGo_enc f hf zs hv.2 k (by omega), hm, if_pos (by omega), encodeRune_eq m hVm, Int.toNat_natCast]

/-! ### fields -/
def fz (p : Nat → Bool) : List Int → Option (List Int) → List (List Int)
  | [], none => []
  | [], some cur => [cur]
  | c :: zs, st => if p c.toNat then (match st with | some cur => cur :: fz p zs none | none => fz p zs none)
      else (match st with | some cur => fz p zs (some (cur ++ [c])) | none => fz p zs (some [c]))

theorem ext_mid {s : ByteArray} {A B C : List UInt8} (h : s.data.toList = A ++ B ++ C) : s.extract A.length (A.length + B.length) = ⟨B.toArray⟩ := by
  apply bytes_ext
  have : (s.extract A.length (A.length + B.length)).data.toList = (s.data.toList.drop A.length).take B.length := by simp [ByteArray.data_extract]
  rw [this, h]
  simp

theorem spans_enc (p : Nat → Bool) (s : ByteArray) : ∀ (zs pre : List Int) (f : Nat) (st : Option (List Int)) (acc : List (Nat × Nat)), zs.all vldB = true → s.data.toList = encAll pre ++ encAll zs → (encAll zs).length ≤ f →
    (∀ cur, st = some cur → ∃ pre0, pre = pre0 ++ cur) →
    ((Lib.closeSpans s (Lib.spansFromP p s f (encAll pre).length (st.map fun cur => (encAll pre).length - (encAll cur).length) acc)).map fun x => s.extract x.1 x.2) = (acc.map fun x => s.extract x.1 x.2) ++ (fz p zs st).map (fun z => ⟨(encAll z).toArray⟩)
  | [], pre, f, st, acc, _, hs, _, hst => by
    have hsz : s.size = (encAll pre).length := by
      have h1 : s.data.toList.length = s.size := by simp
      rw [← h1, hs]
      simp [encAll]
    rw [Lib.spansFromP_end p s f _ _ _ (by omega)]
    cases st with
    | none => simp [Lib.closeSpans, fz]
    | some cur =>
      obtain ⟨pre0, rfl⟩ := hst cur rfl
      have e1 : (encAll (pre0 ++ cur)).length - (encAll cur).length = (encAll pre0).length := by rw [encAll_append, List.length_append]; omega
      have e2 : s.size = (encAll pre0).length + (encAll cur).length := by rw [hsz, encAll_append, List.length_append]
      have h3 := ext_mid (s := s) (A := encAll pre0) (B := encAll cur) (C := []) (by rw [hs, encAll_append]; simp [encAll])
      simp only [Lib.closeSpans, Option.map_some, e1, List.map_append, List.map_cons, List.map_nil, fz, e2, h3]
  | c :: zs, pre, f, st, acc, hv, hs, hf, hst => by
    rw [List.all_cons, Bool.and_eq_true] at hv
    obtain ⟨n, rfl, hV, _⟩ := vld_nat hv.1
    have hp := bytesL_pos n
    rw [encAll_cons, Int.toNat_natCast] at hs hf
    rw [List.length_append] at hf
    obtain ⟨f, rfl⟩ : ∃ g, f = g + 1 := ⟨f - 1, by omega⟩
    have hd : Utf8.decode s (encAll pre).length = (n, (bytesL n).length) := by
      rw [← Lib.decodeL_drop, hs, List.drop_left]
      exact (stepD_some (stepD_enc hV (encAll zs))).2.2.2
    have hlt : (encAll pre).length < s.size := by
      have h1 : s.data.toList.length = s.size := by simp
      rw [← h1, hs, List.length_append, List.length_append]
      omega
    have hpre : encAll (pre ++ [(n : Int)]) = encAll pre ++ bytesL n := by rw [encAll_snoc, Int.toNat_natCast]
    have hpl : (encAll pre).length + (bytesL n).length = (encAll (pre ++ [(n : Int)])).length := by rw [hpre, List.length_append]
    have hs2 : s.data.toList = encAll (pre ++ [(n : Int)]) ++ encAll zs := by rw [hpre, hs, List.append_assoc]
    have ih := fun st' acc' h => spans_enc p s zs (pre ++ [(n : Int)]) f st' acc' hv.2 hs2 (by omega) h
    unfold Lib.spansFromP
    rw [if_pos hlt, hd]
    simp only [hpl]
    unfold fz
    rw [Int.toNat_natCast]
    by_cases hb : p n = true
    · rw [if_pos hb, if_pos hb]
      cases st with
      | none => exact ih none acc (fun _ h => by cases h)
      | some cur =>
        obtain ⟨pre0, rfl⟩ := hst cur rfl
        have e1 : (encAll (pre0 ++ cur)).length - (encAll cur).length = (encAll pre0).length := by rw [encAll_append, List.length_append]; omega
        have e2 : (encAll (pre0 ++ cur)).length = (encAll pre0).length + (encAll cur).length := by rw [encAll_append, List.length_append]
        have h3 := ext_mid (s := s) (A := encAll pre0) (B := encAll cur) (C := bytesL n ++ encAll zs) (by rw [hs, encAll_append])
        have h4 := ih none (acc ++ [((encAll pre0).length, (encAll (pre0 ++ cur)).length)]) (fun _ h => by cases h)
        simp only [Option.map_some, e1]
        rw [Option.map_none] at h4
        rw [h4, List.map_append, List.map_cons, List.map_nil, e2, h3]
        simp
    · rw [if_neg hb, if_neg hb]
      cases st with
      | none =>
        have h4 := ih (some [(n : Int)]) acc (fun cur h => by cases h; exact ⟨pre, rfl⟩)
        have e1 : (encAll (pre ++ [(n : Int)])).length - (encAll [(n : Int)]).length = (encAll pre).length := by rw [encAll_append, List.length_append]; omega
        rw [Option.map_some, e1] at h4
        exact h4
      | some cur =>
        obtain ⟨pre0, rfl⟩ := hst cur rfl
        have h4 := ih (some (cur ++ [(n : Int)])) acc (fun cur' h => by cases h; exact ⟨pre0, by rw [List.append_assoc]⟩)
        have e1 : (encAll (pre0 ++ cur ++ [(n : Int)])).length - (encAll (cur ++ [(n : Int)])).length = (encAll (pre0 ++ cur)).length - (encAll cur).length := by
          simp only [encAll_append, List.length_append]
          omega
        rw [Option.map_some, e1] at h4
        exact h4

theorem fields_enc (p : Nat → Bool) (zs : List Int) (hv : zs.all vldB = true) : Lib.goFieldsP p ⟨(encAll zs).toArray⟩ = (fz p zs none).map fun z => ⟨(encAll z).toArray⟩ := by
  have h := spans_enc p ⟨(encAll zs).toArray⟩ zs [] (ByteArray.mk (encAll zs).toArray).size none [] hv (by simp [encAll]) (by simp [ByteArray.size]) (fun _ h => by cases h)
  unfold Lib.goFieldsP Lib.spansOfP
  simpa [encAll] using h

def joinZ : List (List Int) → List Int
  | [] => []
  | x :: r => x ++ r.flatMap fun y => 32 :: y
theorem join_enc (fs : List (List Int)) : Lib.join (fs.map encAll) [32] = encAll (joinZ fs) := by
  cases fs with
  | nil => rfl
  | cons x r =>
    rw [List.map_cons, Lib.join_cons, joinZ, encAll_append]
    congr 1
    unfold Lib.joinTail
    induction r with
    | nil => rfl
    | cons y r ih =>
      rw [List.map_cons, List.map_cons, List.flatten_cons, ih, List.flatMap_cons, encAll_append, encAll_cons]
      rfl

/-- A field: not empty, and no blank in it. -/
def Fld (p : Nat → Bool) (z : List Int) : Prop := z ≠ [] ∧ ∀ c ∈ z, p c.toNat = false
theorem fz_fld (p : Nat → Bool) : ∀ (zs : List Int) (st : Option (List Int)), (∀ cur, st = some cur → Fld p cur) → ∀ z ∈ fz p zs st, Fld p z
  | [], none, _, z, hz => by cases hz
  | [], some cur, h, z, hz => by
    simp only [fz, List.mem_singleton] at hz
    rw [hz]
    exact h cur rfl
  | c :: zs, st, h, z, hz => by
    unfold fz at hz
    by_cases hb : p c.toNat = true
    · rw [if_pos hb] at hz
      cases st with
      | none => exact fz_fld p zs none (fun _ h => by cases h) z hz
      | some cur =>
        rcases List.mem_cons.1 hz with rfl | hz
        · exact h _ rfl
        · exact fz_fld p zs none (fun _ h => by cases h) z hz
    · rw [if_neg hb] at hz
      have hb' : p c.toNat = false := Bool.eq_false_iff.2 hb
      cases st with
      | none =>
        refine fz_fld p zs (some [c]) (fun cur h => ?_) z hz
        cases h
        exact ⟨by simp, fun d hd => by rw [List.mem_singleton.1 hd]; exact hb'⟩
      | some cur =>
        refine fz_fld p zs (some (cur ++ [c])) (fun cur' h' => ?_) z hz
        cases h'
        refine ⟨by simp, fun d hd => ?_⟩
        rcases List.mem_append.1 hd with hd | hd
        · exact (h cur rfl).2 d hd
        · rw [List.mem_singleton.1 hd]; exact hb'
theorem fz_run (p : Nat → Bool) : ∀ (x t cur : List Int), (∀ c ∈ x, p c.toNat = false) → fz p (x ++ t) (some cur) = fz p t (some (cur ++ x))
  | [], t, cur, _ => by simp
  | c :: x, t, cur, h => by
    have hb := h c List.mem_cons_self
    rw [List.cons_append]
    show (if p c.toNat then _ else fz p (x ++ t) (some (cur ++ [c]))) = _
    rw [hb, if_neg (by decide), fz_run p x t (cur ++ [c]) (fun d hd => h d (List.mem_cons_of_mem _ hd)), List.append_assoc]
    rfl
theorem fz_start (p : Nat → Bool) (x t : List Int) (h : Fld p x) : fz p (x ++ t) none = fz p t (some x) := by
  cases x with
  | nil => exact absurd rfl h.1
  | cons c x =>
    have hb := h.2 c List.mem_cons_self
    rw [List.cons_append]
    show (if p c.toNat then _ else fz p (x ++ t) (some [c])) = _
    rw [hb, if_neg (by decide), fz_run p x t [c] (fun d hd => h.2 d (List.mem_cons_of_mem _ hd))]
    rfl
theorem fz_tail (p : Nat → Bool) (h32 : p 32 = true) : ∀ (r : List (List Int)) (x : List Int), (∀ y ∈ r, Fld p y) → fz p (r.flatMap fun y => 32 :: y) (some x) = x :: r
  | [], x, _ => rfl
  | y :: r, x, h => by
    rw [List.flatMap_cons, List.cons_append]
    show (if p (32 : Int).toNat then x :: fz p (y ++ r.flatMap fun y => 32 :: y) none else _) = _
    rw [show (32 : Int).toNat = 32 from rfl, if_pos h32, fz_start p y _ (h y List.mem_cons_self), fz_tail p h32 r y (fun z hz => h z (List.mem_cons_of_mem _ hz))]
theorem fz_join (p : Nat → Bool) (h32 : p 32 = true) (fs : List (List Int)) (h : ∀ y ∈ fs, Fld p y) : fz p (joinZ fs) none = fs := by
  cases fs with
  | nil => rfl
  | cons x r =>
    rw [joinZ, fz_start p x _ (h x List.mem_cons_self), fz_tail p h32 r x (fun z hz => h z (List.mem_cons_of_mem _ hz))]
theorem fz_map (p : Nat → Bool) (g : Int → Int) (hg : ∀ c, p (g c).toNat = p c.toNat) (hn : ∀ c, p c.toNat = false → g c = c) : ∀ (zs : List Int) (st : Option (List Int)), fz p (zs.map g) st = fz p zs st
  | [], st => rfl
  | c :: zs, st => by
    rw [List.map_cons]
    unfold fz
    rw [hg]
    by_cases hb : p c.toNat = true
    · rw [if_pos hb, if_pos hb]
      cases st <;> simp only [fz_map p g hg hn zs]
    · rw [if_neg hb, if_neg hb, hn c (Bool.eq_false_iff.2 hb)]
      cases st <;> simp only [fz_map p g hg hn zs]
theorem joinZ_vld (p : Nat → Bool) (zs : List Int) (hv : zs.all vldB = true) : (joinZ (fz p zs none)).all vldB = true := by
  have hmem : ∀ (zs : List Int) (st : Option (List Int)), (∀ cur, st = some cur → cur.all vldB = true) → zs.all vldB = true → ∀ z ∈ fz p zs st, z.all vldB = true := by
    intro zs
    induction zs with
    | nil =>
      intro st h _ z hz
      cases st with
      | none => cases hz
      | some cur =>
        simp only [fz, List.mem_singleton] at hz
        rw [hz]
        exact h cur rfl
    | cons c zs ih =>
      intro st h hv z hz
      rw [List.all_cons, Bool.and_eq_true] at hv
      unfold fz at hz
      by_cases hb : p c.toNat = true
      · rw [if_pos hb] at hz
        cases st with
        | none => exact ih none (fun _ h => by cases h) hv.2 z hz
        | some cur =>
          rcases List.mem_cons.1 hz with rfl | hz
          · exact h _ rfl
          · exact ih none (fun _ h => by cases h) hv.2 z hz
      · rw [if_neg hb] at hz
        cases st with
        | none => exact ih (some [c]) (fun cur h => by cases h; simp [hv.1]) hv.2 z hz
        | some cur => exact ih (some (cur ++ [c])) (fun cur' h' => by cases h'; rw [List.all_append, h cur rfl]; simp [hv.1]) hv.2 z hz
  have hall := hmem zs none (fun _ h => by cases h) hv
  cases hf : fz p zs none with
  | nil => rfl
  | cons x r =>
    rw [hf] at hall
    rw [joinZ, List.all_append, hall x List.mem_cons_self, Bool.true_and, List.all_eq_true]
    intro c hc
    obtain ⟨y, hy, hc⟩ := List.mem_flatMap.1 hc
    rcases List.mem_cons.1 hc with rfl | hc
    · decide
    · exact List.all_eq_true.1 (hall y (List.mem_cons_of_mem _ hy)) c hc
end Go.Proofs.YtiefpdoefdldpaaDoor
