/- OQ -/
import Derived.Test.YtmdnijehoagamaaGreatDoorK30
import Derived.Test.YtmdnijehoagamaaGreatDoorK31
set_option linter.unusedVariables false
set_option linter.unusedSimpArgs false
namespace Go.Proofs.YtmdnijehoagamaaGreatDoor
set_option maxRecDepth 100000
set_option maxHeartbeats 8000000
open Go.RowKit
theorem fin_no {r : MRes} {q : Int} {e : Ending} (h : r = ⟨momNil, q⟩) (hq : q ≠ 0) (he : e = outOf q) : if r.e = 0 then e = .returned r.m.v else e = outOf r.e := by
 subst h
 rw [if_neg hq]
 exact he
theorem fin_ok {r : MRes} {m : Mom} {e : Ending} (h : r = ⟨m, 0⟩) (he : e = .returned m.v) : if r.e = 0 then e = .returned r.m.v else e = outOf r.e := by
 subst h
 rw [if_pos rfl]
 exact he
theorem parts1 (l : List UInt8) : partsP 1 l = (dateP l).bind fun a => (zoneP a.2).bind fun e => some ⟨a.1.1, a.1.2.1, a.1.2.2, 0, 0, [], e.1, e.2⟩ := rfl
theorem parts2 (l : List UInt8) : partsP 2 l = (timeP l).bind fun c => (zoneP c.2).bind fun e => some ⟨0, 0, 0, c.1.1, c.1.2.1, c.1.2.2, e.1, e.2⟩ := rfl
theorem parts3 (l : List UInt8) : partsP 3 l = (dateP l).bind fun a => (chP 84 a.2).bind fun b => (timeP b.2).bind fun c => (zoneP c.2).bind fun e => some ⟨a.1.1, a.1.2.1, a.1.2.2, c.1.1, c.1.2.1, c.1.2.2, e.1, e.2⟩ := rfl
theorem dateP_len {l : List UInt8} {x : (Int × Int × Int) × List UInt8} (h : dateP l = some x) : x.2.length ≤ l.length := by
 unfold dateP at h
 obtain ⟨a, ha, h⟩ := Option.bind_eq_some_iff.1 h
 obtain ⟨b, hb, h⟩ := Option.bind_eq_some_iff.1 h
 obtain ⟨c, hc, h⟩ := Option.bind_eq_some_iff.1 h
 obtain ⟨d, hd, h⟩ := Option.bind_eq_some_iff.1 h
 obtain ⟨e, he, h⟩ := Option.bind_eq_some_iff.1 h
 obtain rfl := Option.some.inj h
 have h0 := isP_len 45 l
 have h1 := (numP_bd ha).2
 have h2 := chP_len hb
 have h3 := (numP_bd hc).2
 have h4 := chP_len hd
 have h5 := (numP_bd he).2
 dsimp only
 omega
theorem timeP_len {l : List UInt8} {x : (Int × Int × List UInt8) × List UInt8} (h : timeP l = some x) : x.2.length ≤ l.length ∧ x.1.2.2.length ≤ l.length + 3 := by
 unfold timeP at h
 obtain ⟨a, ha, h⟩ := Option.bind_eq_some_iff.1 h
 obtain ⟨b, hb, h⟩ := Option.bind_eq_some_iff.1 h
 obtain ⟨c, hc, h⟩ := Option.bind_eq_some_iff.1 h
 obtain ⟨d, hd, h⟩ := Option.bind_eq_some_iff.1 h
 obtain ⟨e, he, h⟩ := Option.bind_eq_some_iff.1 h
 obtain ⟨f, hf, h⟩ := Option.bind_eq_some_iff.1 h
 obtain rfl := Option.some.inj h
 have h1 := (numP_bd ha).2
 have h2 := chP_len hb
 have h3 := (numP_bd hc).2
 have h4 := chP_len hd
 have h5 := txtP_len he
 have h6 := isP_len 46 e.2
 unfold fracP at hf
 split at hf
 ·obtain ⟨g, hg, hf⟩ := Option.bind_eq_some_iff.1 hf
  obtain rfl := Option.some.inj hf
  have h7 := runP_len hg
  dsimp only
  rw [List.length_append, List.length_cons]
  omega
 ·obtain rfl := Option.some.inj hf
  dsimp only
  omega
theorem zone1P_len {l : List UInt8} {x : (Bool × Int) × List UInt8} (h : zone1P l = some x) : x.2.length ≤ l.length := by
 cases l with
 | nil => obtain rfl := Option.some.inj h; exact Nat.le_refl _
 | cons c t =>
  have h' : (if c = 90 then some ((true, (0 : Int)), t) else if c = 43 ∨ c = 45 then (awayP t).bind fun a => some ((true, if c = 45 then -(a.1 : Int) else (a.1 : Int)), a.2) else some ((false, 0), c :: t)) = some x := h
  split at h'
  ·obtain rfl := Option.some.inj h'; simp
  ·split at h'
   ·obtain ⟨a, ha, h2⟩ := Option.bind_eq_some_iff.1 h'
    obtain rfl := Option.some.inj h2
    unfold awayP at ha
    obtain ⟨a1, h1, ha⟩ := Option.bind_eq_some_iff.1 ha
    obtain ⟨a2, h3, ha⟩ := Option.bind_eq_some_iff.1 ha
    obtain ⟨a3, h4, ha⟩ := Option.bind_eq_some_iff.1 ha
    split at ha
    ·obtain rfl := Option.some.inj ha
     have g1 := (numP_bd h1).2
     have g2 := chP_len h3
     have g3 := (numP_bd h4).2
     simp only [List.length_cons]
     omega
    ·cases ha
   ·obtain rfl := Option.some.inj h'; exact Nat.le_refl _
def ReadPost (k : Int) (l : List UInt8) (w : World) (e : Ending) (w' : World) : Prop := (if (readS6 k l).e = 0 then e = .returned (readS6 k l).m.v else e = outOf (readS6 k l).e) ∧ Below w.heap.size w w'
theorem p_read1 (l : List UInt8) (hs : l.length ≤ 390) (w : World) (hT : Tabs w) :
  Calls Tryz.prog 31 #[.int .i64 1, .string ⟨l.toArray⟩] w (ReadPost 1 l w) := by
 have HL := Lib.hid hs
 have HL0 := Lib.hid hs
 have HT := Lib.hid hT
 clear hs hT
 have hmf : ∀ (fn : Fn) (first cap : Array Value) (w : World), (Instr.makeFunc fn first cap).run Tryz.prog w = .ok (.func fn first cap) w := fun _ _ _ _ => rfl
 go_enter Tryz.func31, Tryz.ntmps31
 go_wp2_with fail
 refine (p_hasDate _ _).mono ?_
 rintro e w_ ⟨rfl, rfl⟩
 have HS := Lib.hid ((((KD.nil w).push [.string ⟨l.toArray⟩] 9 (n := w.heap.size) rfl).push [.int .i64 0, .int .i64 0, .int .i64 0, .int .i64 0, .int .i64 0, .int .i64 0, .bool false, .string ⟨#[]⟩, .int .i64 0, .bool false, .int .i64 0] 25 (n := w.heap.size + 1) (by simp)).push [.int .i64 1, .int .i64 0, .int .i64 0, .int .i64 0, .int .i64 0, .int .i64 0, .bool false, .string ⟨#[]⟩, .int .i64 0, .bool false, .int .i64 0] 25 (n := w.heap.size + 1 + 1) (by simp))
 have HB := Lib.hid (HS.out.at 0 rfl)
 have HR := Lib.hid (HS.out.at 1 rfl)
 have HM : Hid (HasL _ (w.heap.size + 1 + 1) (momC 1 0 0 0 0 0 decNil false 0)) := Lib.hid (HS.out.at 2 rfl)
 have HW := Lib.hid HS.out.old
 clear HS
 go_wp2_with fail
 refine (p_date7 w.heap.size (w.heap.size + 1 + 1) (by omega) 1 0 0 0 0 0 decNil false 0 l (by have := HL.out; omega) _ HB.out HM.out).mono ?_
 intro e w1 hq
 unfold DatePost at hq
 cases hE : dateP l with
 | none =>
  rw [hE] at hq
  have E1 := Lib.hid hE
  clear hE
  obtain ⟨rfl, n1⟩ := hq
  unfold outOf
  have HZ : Hid (readS6 1 l = ⟨momNil, 6⟩) := Lib.hid (by show (match partsP 1 l with | none => _ | some p => _) = _; rw [show partsP 1 l = none by rw [parts1]; simp only [E1.out, Option.bind_some, Option.bind_none, reduceCtorEq, if_false]])
  replace HW := Lib.hid (Near.under HW.out n1 (by intro p hp; simp only [List.mem_cons, List.mem_nil_iff, or_false] at hp; first | (rcases hp with rfl | rfl <;> omega) | omega))
  clear n1
  go_wp2
  exact ⟨rfl, fin_no HZ.out (by decide) rfl, HW.out⟩
 | some x =>
  rw [hE] at hq
  obtain ⟨⟨y, mo, d⟩, l1⟩ := x
  have E1 := Lib.hid hE
  clear hE
  have HL1 : Hid (l1.length ≤ 390) := Lib.hid (by have h1 := HL.out; have h2 := dateP_len E1.out; dsimp only at h2; omega)
  replace HL := HL1
  obtain ⟨rfl, h1, h2, n1⟩ := hq
  replace HB := Lib.hid h1
  replace HM := Lib.hid h2
  replace HR := Lib.hid (HR.out.near n1 (by simp <;> omega))
  replace HW := Lib.hid (Near.under HW.out n1 (by intro p hp; simp only [List.mem_cons, List.mem_nil_iff, or_false] at hp; first | (rcases hp with rfl | rfl <;> omega) | omega))
  clear h1 h2 n1
  go_wp2_with fail
  refine (p_hasTime _ _).mono ?_
  rintro e w_ ⟨rfl, rfl⟩
  go_wp2_with fail
  refine (p_zone7 w.heap.size (w.heap.size + 1 + 1) (by omega) 1 y mo d 0 0 decNil l1 (by have := HL.out; omega) _ HB.out HM.out).mono ?_
  intro e w2 hq
  unfold ZonePost at hq
  cases hE : zone1P l1 with
  | none =>
   rw [hE] at hq
   have E2 := Lib.hid hE
   clear hE
   obtain ⟨rfl, n1⟩ := hq
   unfold outOf
   have HZ : Hid (readS6 1 l = ⟨momNil, 6⟩) := Lib.hid (by show (match partsP 1 l with | none => _ | some p => _) = _; rw [show partsP 1 l = none by rw [parts1]; simp only [E1.out, zone_end, E2.out, Option.bind_some, Option.bind_none, reduceCtorEq, if_false]])
   replace HW := Lib.hid (Near.under HW.out n1 (by intro p hp; simp only [List.mem_cons, List.mem_nil_iff, or_false] at hp; first | (rcases hp with rfl | rfl <;> omega) | omega))
   clear n1
   go_wp2
   exact ⟨rfl, fin_no HZ.out (by decide) rfl, HW.out⟩
  | some x =>
   rw [hE] at hq
   obtain ⟨⟨zd, z⟩, l2⟩ := x
   have E2 := Lib.hid hE
   clear hE
   have HL2 : Hid (l2.length ≤ 390) := Lib.hid (by have h1 := HL.out; have h2 := zone1P_len E2.out; dsimp only at h2; omega)
   replace HL := HL2
   obtain ⟨rfl, h1, h2, n1⟩ := hq
   replace HB := Lib.hid h1
   replace HM := Lib.hid h2
   replace HR := Lib.hid (HR.out.near n1 (by simp <;> omega))
   replace HW := Lib.hid (Near.under HW.out n1 (by intro p hp; simp only [List.mem_cons, List.mem_nil_iff, or_false] at hp; first | (rcases hp with rfl | rfl <;> omega) | omega))
   clear h1 h2 n1
   have d0 := HB.out.cell 0 rfl
   cases l2 with
   | cons c tl =>
    have he : (⟨(c :: tl).toArray⟩ : ByteArray).toList.isEmpty = false := by rw [Lib.toList_data, bytes_mk]; rfl
    have HZ : Hid (readS6 1 l = ⟨momNil, 6⟩) := Lib.hid (by show (match partsP 1 l with | none => _ | some p => _) = _; rw [show partsP 1 l = none by rw [parts1]; simp only [E1.out, zone_end, E2.out, Option.bind_some, Option.bind_none, reduceCtorEq, if_false]])
    go_wp2
    exact ⟨rfl, fin_no HZ.out (by decide) rfl, HW.out⟩
   | nil =>
    have he : (⟨([] : List UInt8).toArray⟩ : ByteArray).toList.isEmpty = true := by rw [Lib.toList_data, bytes_mk]; rfl
    go_wp2_with fail
    refine (p_hasTime _ _).mono ?_
    rintro e w_ ⟨rfl, rfl⟩
    have HP : Hid (partsP 1 l = some ⟨y, mo, d, 0, 0, [], zd, z⟩) := Lib.hid (by rw [parts1]; simp only [E1.out, zone_end, E2.out, Option.bind_some, if_true])
    clear d0 he
    obtain ⟨d0, d1, d2, d3, d4, d5, d6, d7, d8, d9, d10⟩ := HM.out.all11
    have cV := fun W hW => p_valid (⟨1, y, mo, d, 0, 0, decNil, zd, z⟩ : Mom) (by show decNil.ds.size ≤ 400; decide) W hW
    unfold Mom.v at cV
    dsimp only at cV
    go_wp2_with fail
    clear d0 d1 d2 d3 d4 d5 d6 d7 d8 d9 d10
    refine (cV _ (HT.out.next HW.out)).mono ?_
    rintro e wv ⟨rfl, b1⟩
    replace HM := Lib.hid (HM.out.call b1)
    replace HR := Lib.hid (HR.out.call b1)
    replace HW := Lib.hid (step HW.out b1)
    clear b1 cV HB
    cases hok : okB (⟨1, y, mo, d, 0, 0, decNil, zd, z⟩ : Mom)
    ·have HOK := Lib.hid hok
     have HZ : Hid (readS6 1 l = ⟨momNil, 6⟩) := Lib.hid (by show (match partsP 1 l with | none => _ | some p => _) = _; rw [HP.out]; show partsS 1 _ = _; unfold partsS; rw [if_neg (by decide)]; unfold seenS; rw [if_neg (by intro g; have h := HOK.out; unfold Parts.mom at g; rw [h] at g; cases g)])
     clear hok
     go_wp2
     exact ⟨rfl, fin_no HZ.out (by decide) rfl, HW.out⟩
    ·have HOK := Lib.hid hok
     have HZ : Hid (readS6 1 l = ⟨(⟨1, y, mo, d, 0, 0, decNil, zd, z⟩ : Mom), 0⟩) := Lib.hid (by show (match partsP 1 l with | none => _ | some p => _) = _; rw [HP.out]; show partsS 1 _ = _; unfold partsS; rw [if_neg (by decide)]; unfold seenS; unfold Parts.mom; rw [if_pos HOK.out])
     clear hok
     have HM2 : Hid (HasL wv (w.heap.size + 1 + 1) [.int .i64 1, .int .i64 y, .int .i64 mo, .int .i64 d, .int .i64 0, .int .i64 0, .bool false, .string ⟨#[]⟩, .int .i64 0, .bool zd, .int .i64 z]) := HM
     obtain ⟨d0, d1, d2, d3, d4, d5, d6, d7, d8, d9, d10⟩ := HM2.out.all11
     obtain ⟨f0, f1, f2, f3, f4, f5, f6, f7, f8, f9, f10⟩ := HR.out.all11
     obtain ⟨z0, z1, z2, z3, z4, z5, z6, z7, z8, z9, z10⟩ := HR.out.free11
     have ne1 : w.heap.size + 1 ≠ w.heap.size + 1 + 1 := by omega
     have ne2 : w.heap.size + 1 + 1 ≠ w.heap.size + 1 := by omega
     go_wp2
     replace HR := Lib.hid (HR.out.setL [.int .i64 1, .int .i64 y, .int .i64 mo, .int .i64 d, .int .i64 0, .int .i64 0, .bool false, .string ⟨#[]⟩, .int .i64 0, .bool zd, .int .i64 z] rfl)
     replace HW := Lib.hid (setStepL HW.out (b := w.heap.size + 1) (by omega) 0 [.int .i64 1, .int .i64 y, .int .i64 mo, .int .i64 d, .int .i64 0, .int .i64 0, .bool false, .string ⟨#[]⟩, .int .i64 0, .bool zd, .int .i64 z])
     obtain ⟨r0, r1, r2, r3, r4, r5, r6, r7, r8, r9, r10⟩ := HR.out.all11
     simp only [setL, Nat.reduceAdd] at r0 r1 r2 r3 r4 r5 r6 r7 r8 r9 r10
     refine bodyPost_ret (v := .agg #[.int .i64 1, .int .i64 y, .int .i64 mo, .int .i64 d, .int .i64 0, .int .i64 0, .bool false, .string ⟨#[]⟩, .int .i64 0, .bool zd, .int .i64 z]) ?_ rfl ⟨fin_ok HZ.out rfl, HW.out⟩
     simp [results, Tryz.results31, go_sem, r0, r1, r2, r3, r4, r5, r6, r7, r8, r9, r10]
theorem p_read2 (l : List UInt8) (hs : l.length ≤ 390) (w : World) (hT : Tabs w) :
  Calls Tryz.prog 31 #[.int .i64 2, .string ⟨l.toArray⟩] w (ReadPost 2 l w) := by
 have HL := Lib.hid hs
 have HL0 := Lib.hid hs
 have HT := Lib.hid hT
 clear hs hT
 have hmf : ∀ (fn : Fn) (first cap : Array Value) (w : World), (Instr.makeFunc fn first cap).run Tryz.prog w = .ok (.func fn first cap) w := fun _ _ _ _ => rfl
 go_enter Tryz.func31, Tryz.ntmps31
 go_wp2_with fail
 refine (p_hasDate _ _).mono ?_
 rintro e w_ ⟨rfl, rfl⟩
 have HS := Lib.hid ((((KD.nil w).push [.string ⟨l.toArray⟩] 9 (n := w.heap.size) rfl).push [.int .i64 0, .int .i64 0, .int .i64 0, .int .i64 0, .int .i64 0, .int .i64 0, .bool false, .string ⟨#[]⟩, .int .i64 0, .bool false, .int .i64 0] 25 (n := w.heap.size + 1) (by simp)).push [.int .i64 2, .int .i64 0, .int .i64 0, .int .i64 0, .int .i64 0, .int .i64 0, .bool false, .string ⟨#[]⟩, .int .i64 0, .bool false, .int .i64 0] 25 (n := w.heap.size + 1 + 1) (by simp))
 have HB := Lib.hid (HS.out.at 0 rfl)
 have HR := Lib.hid (HS.out.at 1 rfl)
 have HM : Hid (HasL _ (w.heap.size + 1 + 1) (momC 2 0 0 0 0 0 decNil false 0)) := Lib.hid (HS.out.at 2 rfl)
 have HW := Lib.hid HS.out.old
 clear HS
 go_wp2_with fail
 refine (p_hasTime _ _).mono ?_
 rintro e w_ ⟨rfl, rfl⟩
 go_wp2_with fail
 refine (p_time7 w.heap.size (w.heap.size + 1 + 1) (by omega) 2 0 0 0 0 0 decNil false 0 l (by have := HL.out; omega) _ HB.out HM.out).mono ?_
 intro e w1 hq
 unfold TimePost at hq
 cases hE : timeP l with
 | none =>
  rw [hE] at hq
  have E1 := Lib.hid hE
  clear hE
  obtain ⟨rfl, n1⟩ := hq
  unfold outOf
  have HZ : Hid (readS6 2 l = ⟨momNil, 6⟩) := Lib.hid (by show (match partsP 2 l with | none => _ | some p => _) = _; rw [show partsP 2 l = none by rw [parts2]; simp only [E1.out, Option.bind_some, Option.bind_none, reduceCtorEq, if_false]])
  replace HW := Lib.hid (Near.under HW.out n1 (by intro p hp; simp only [List.mem_cons, List.mem_nil_iff, or_false] at hp; first | (rcases hp with rfl | rfl <;> omega) | omega))
  clear n1
  go_wp2
  exact ⟨rfl, fin_no HZ.out (by decide) rfl, HW.out⟩
 | some x =>
  rw [hE] at hq
  obtain ⟨⟨hr, mi, sx⟩, l1⟩ := x
  have E1 := Lib.hid hE
  clear hE
  have HL1 : Hid (l1.length ≤ 390) := Lib.hid (by have h1 := HL.out; have h2 := (timeP_len E1.out).1; dsimp only at h2; omega)
  replace HL := HL1
  obtain ⟨rfl, h1, h2, n1⟩ := hq
  replace HB := Lib.hid h1
  replace HM := Lib.hid h2
  replace HR := Lib.hid (HR.out.near n1 (by simp <;> omega))
  replace HW := Lib.hid (Near.under HW.out n1 (by intro p hp; simp only [List.mem_cons, List.mem_nil_iff, or_false] at hp; first | (rcases hp with rfl | rfl <;> omega) | omega))
  clear h1 h2 n1
  go_wp2_with fail
  refine (p_zone7 w.heap.size (w.heap.size + 1 + 1) (by omega) 2 0 0 0 hr mi decNil l1 (by have := HL.out; omega) _ HB.out HM.out).mono ?_
  intro e w2 hq
  unfold ZonePost at hq
  cases hE : zone1P l1 with
  | none =>
   rw [hE] at hq
   have E2 := Lib.hid hE
   clear hE
   obtain ⟨rfl, n1⟩ := hq
   unfold outOf
   have HZ : Hid (readS6 2 l = ⟨momNil, 6⟩) := Lib.hid (by show (match partsP 2 l with | none => _ | some p => _) = _; rw [show partsP 2 l = none by rw [parts2]; simp only [E1.out, zone_end, E2.out, Option.bind_some, Option.bind_none, reduceCtorEq, if_false]])
   replace HW := Lib.hid (Near.under HW.out n1 (by intro p hp; simp only [List.mem_cons, List.mem_nil_iff, or_false] at hp; first | (rcases hp with rfl | rfl <;> omega) | omega))
   clear n1
   go_wp2
   exact ⟨rfl, fin_no HZ.out (by decide) rfl, HW.out⟩
  | some x =>
   rw [hE] at hq
   obtain ⟨⟨zd, z⟩, l2⟩ := x
   have E2 := Lib.hid hE
   clear hE
   have HL2 : Hid (l2.length ≤ 390) := Lib.hid (by have h1 := HL.out; have h2 := zone1P_len E2.out; dsimp only at h2; omega)
   replace HL := HL2
   obtain ⟨rfl, h1, h2, n1⟩ := hq
   replace HB := Lib.hid h1
   replace HM := Lib.hid h2
   replace HR := Lib.hid (HR.out.near n1 (by simp <;> omega))
   replace HW := Lib.hid (Near.under HW.out n1 (by intro p hp; simp only [List.mem_cons, List.mem_nil_iff, or_false] at hp; first | (rcases hp with rfl | rfl <;> omega) | omega))
   clear h1 h2 n1
   have d0 := HB.out.cell 0 rfl
   cases l2 with
   | cons c tl =>
    have he : (⟨(c :: tl).toArray⟩ : ByteArray).toList.isEmpty = false := by rw [Lib.toList_data, bytes_mk]; rfl
    have HZ : Hid (readS6 2 l = ⟨momNil, 6⟩) := Lib.hid (by show (match partsP 2 l with | none => _ | some p => _) = _; rw [show partsP 2 l = none by rw [parts2]; simp only [E1.out, zone_end, E2.out, Option.bind_some, Option.bind_none, reduceCtorEq, if_false]])
    go_wp2
    exact ⟨rfl, fin_no HZ.out (by decide) rfl, HW.out⟩
   | nil =>
    have he : (⟨([] : List UInt8).toArray⟩ : ByteArray).toList.isEmpty = true := by rw [Lib.toList_data, bytes_mk]; rfl
    go_wp2_with fail
    refine (p_hasTime _ _).mono ?_
    rintro e w_ ⟨rfl, rfl⟩
    have HP : Hid (partsP 2 l = some ⟨0, 0, 0, hr, mi, sx, zd, z⟩) := Lib.hid (by rw [parts2]; simp only [E1.out, zone_end, E2.out, Option.bind_some, if_true])
    clear d0 he
    have hzl : sx.length ≤ 393 := by have h1 := (timeP_len E1.out).2; have h2 := HL0.out; dsimp only at h1; omega
    go_wp2_with fail
    refine (p_second ⟨sx.toArray⟩ (by rw [← bytes_len, bytes_mk]; omega) _ (HT.out.next HW.out)).mono ?_
    rintro e ws ⟨hq, b1⟩
    replace HB := Lib.hid (HB.out.call b1)
    replace HM := Lib.hid (HM.out.call b1)
    replace HR := Lib.hid (HR.out.call b1)
    replace HW := Lib.hid (step HW.out b1)
    clear b1
    by_cases hre : (readS ⟨sx.toArray⟩).e = 0
    rotate_left
    ·rw [if_neg hre] at hq
     subst hq
     have HRE := Lib.hid hre
     have HZ : Hid (readS6 2 l = ⟨momNil, (readS ⟨sx.toArray⟩).e⟩) := Lib.hid (by show (match partsP 2 l with | none => _ | some p => _) = _; rw [HP.out]; show partsS 2 _ = _; unfold partsS; dsimp only; rw [if_pos (show timedB 2 = true from rfl), if_neg HRE.out])
     clear hre
     unfold outOf
     go_wp2
     exact ⟨rfl, fin_no HZ.out HRE.out rfl, HW.out⟩
    rw [if_pos hre] at hq
    subst hq
    have hdv := (read_valid hre).size
    have HRE := Lib.hid hre
    clear hre
    obtain ⟨dd, hdd⟩ : ∃ d, (readS ⟨sx.toArray⟩).d = d := ⟨_, rfl⟩
    rw [hdd] at hdv ⊢
    have HDD := Lib.hid hdd
    clear hdd
    have d0 := HM.out.cell 0 rfl
    have z0 := HM.out.frozen 0 rfl
    have d1 := HM.out.cell 1 rfl
    have z1 := HM.out.frozen 1 rfl
    have d2 := HM.out.cell 2 rfl
    have z2 := HM.out.frozen 2 rfl
    have d3 := HM.out.cell 3 rfl
    have z3 := HM.out.frozen 3 rfl
    have d4 := HM.out.cell 4 rfl
    have z4 := HM.out.frozen 4 rfl
    have d5 := HM.out.cell 5 rfl
    have z5 := HM.out.frozen 5 rfl
    have d6 := HM.out.cell 6 rfl
    have z6 := HM.out.frozen 6 rfl
    have d7 := HM.out.cell 7 rfl
    have z7 := HM.out.frozen 7 rfl
    have d8 := HM.out.cell 8 rfl
    have z8 := HM.out.frozen 8 rfl
    have d9 := HM.out.cell 9 rfl
    have z9 := HM.out.frozen 9 rfl
    have d10 := HM.out.cell 10 rfl
    have z10 := HM.out.frozen 10 rfl
    unfold Dec.v
    have cV := fun W hW => p_valid (⟨2, 0, 0, 0, hr, mi, dd, zd, z⟩ : Mom) (by show dd.ds.size ≤ 400; omega) W hW
    unfold Mom.v at cV
    dsimp only at cV
    go_wp2_with fail
    replace HB := Lib.hid (HB.out.farL (c := w.heap.size + 1 + 1) (by omega) 6 [.bool dd.neg, .string dd.ds, .int .i64 dd.sc])
    replace HR := Lib.hid (HR.out.farL (c := w.heap.size + 1 + 1) (by omega) 6 [.bool dd.neg, .string dd.ds, .int .i64 dd.sc])
    replace HM := Lib.hid (((HM.out.set 6 (.bool dd.neg) (by simp [momC])).set 7 (.string dd.ds) (by simp [momC])).set 8 (.int .i64 dd.sc) (by simp [momC]))
    replace HW := Lib.hid (setStepL HW.out (b := w.heap.size + 1 + 1) (by omega) 6 [.bool dd.neg, .string dd.ds, .int .i64 dd.sc])
    clear d0 d1 d2 d3 d4 d5 d6 d7 d8 d9 d10 z0 z1 z2 z3 z4 z5 z6 z7 z8 z9 z10
    refine (cV _ (HT.out.next HW.out)).mono ?_
    rintro e wv ⟨rfl, b1⟩
    replace HM := Lib.hid (HM.out.call b1)
    replace HR := Lib.hid (HR.out.call b1)
    replace HW := Lib.hid (step HW.out b1)
    clear b1 cV HB
    cases hok : okB (⟨2, 0, 0, 0, hr, mi, dd, zd, z⟩ : Mom)
    ·have HOK := Lib.hid hok
     have HZ : Hid (readS6 2 l = ⟨momNil, 6⟩) := Lib.hid (by show (match partsP 2 l with | none => _ | some p => _) = _; rw [HP.out]; show partsS 2 _ = _; unfold partsS; dsimp only; rw [if_pos (show timedB 2 = true from rfl), if_pos HRE.out, HDD.out]; unfold seenS; rw [if_neg (by intro g; have h := HOK.out; unfold Parts.mom at g; rw [h] at g; cases g)])
     clear hok
     go_wp2
     exact ⟨rfl, fin_no HZ.out (by decide) rfl, HW.out⟩
    ·have HOK := Lib.hid hok
     have HZ : Hid (readS6 2 l = ⟨(⟨2, 0, 0, 0, hr, mi, dd, zd, z⟩ : Mom), 0⟩) := Lib.hid (by show (match partsP 2 l with | none => _ | some p => _) = _; rw [HP.out]; show partsS 2 _ = _; unfold partsS; dsimp only; rw [if_pos (show timedB 2 = true from rfl), if_pos HRE.out, HDD.out]; unfold seenS; unfold Parts.mom; rw [if_pos HOK.out])
     clear hok
     have HM2 : Hid (HasL wv (w.heap.size + 1 + 1) [.int .i64 2, .int .i64 0, .int .i64 0, .int .i64 0, .int .i64 hr, .int .i64 mi, .bool dd.neg, .string dd.ds, .int .i64 dd.sc, .bool zd, .int .i64 z]) := HM
     obtain ⟨d0, d1, d2, d3, d4, d5, d6, d7, d8, d9, d10⟩ := HM2.out.all11
     obtain ⟨f0, f1, f2, f3, f4, f5, f6, f7, f8, f9, f10⟩ := HR.out.all11
     obtain ⟨z0, z1, z2, z3, z4, z5, z6, z7, z8, z9, z10⟩ := HR.out.free11
     have ne1 : w.heap.size + 1 ≠ w.heap.size + 1 + 1 := by omega
     have ne2 : w.heap.size + 1 + 1 ≠ w.heap.size + 1 := by omega
     go_wp2
     replace HR := Lib.hid (HR.out.setL [.int .i64 2, .int .i64 0, .int .i64 0, .int .i64 0, .int .i64 hr, .int .i64 mi, .bool dd.neg, .string dd.ds, .int .i64 dd.sc, .bool zd, .int .i64 z] rfl)
     replace HW := Lib.hid (setStepL HW.out (b := w.heap.size + 1) (by omega) 0 [.int .i64 2, .int .i64 0, .int .i64 0, .int .i64 0, .int .i64 hr, .int .i64 mi, .bool dd.neg, .string dd.ds, .int .i64 dd.sc, .bool zd, .int .i64 z])
     obtain ⟨r0, r1, r2, r3, r4, r5, r6, r7, r8, r9, r10⟩ := HR.out.all11
     simp only [setL, Nat.reduceAdd] at r0 r1 r2 r3 r4 r5 r6 r7 r8 r9 r10
     refine bodyPost_ret (v := .agg #[.int .i64 2, .int .i64 0, .int .i64 0, .int .i64 0, .int .i64 hr, .int .i64 mi, .bool dd.neg, .string dd.ds, .int .i64 dd.sc, .bool zd, .int .i64 z]) ?_ rfl ⟨fin_ok HZ.out rfl, HW.out⟩
     simp [results, Tryz.results31, go_sem, r0, r1, r2, r3, r4, r5, r6, r7, r8, r9, r10]
theorem p_read3 (l : List UInt8) (hs : l.length ≤ 390) (w : World) (hT : Tabs w) :
  Calls Tryz.prog 31 #[.int .i64 3, .string ⟨l.toArray⟩] w (ReadPost 3 l w) := by
 have HL := Lib.hid hs
 have HL0 := Lib.hid hs
 have HT := Lib.hid hT
 clear hs hT
 have hmf : ∀ (fn : Fn) (first cap : Array Value) (w : World), (Instr.makeFunc fn first cap).run Tryz.prog w = .ok (.func fn first cap) w := fun _ _ _ _ => rfl
 go_enter Tryz.func31, Tryz.ntmps31
 go_wp2_with fail
 refine (p_hasDate _ _).mono ?_
 rintro e w_ ⟨rfl, rfl⟩
 have HS := Lib.hid ((((KD.nil w).push [.string ⟨l.toArray⟩] 9 (n := w.heap.size) rfl).push [.int .i64 0, .int .i64 0, .int .i64 0, .int .i64 0, .int .i64 0, .int .i64 0, .bool false, .string ⟨#[]⟩, .int .i64 0, .bool false, .int .i64 0] 25 (n := w.heap.size + 1) (by simp)).push [.int .i64 3, .int .i64 0, .int .i64 0, .int .i64 0, .int .i64 0, .int .i64 0, .bool false, .string ⟨#[]⟩, .int .i64 0, .bool false, .int .i64 0] 25 (n := w.heap.size + 1 + 1) (by simp))
 have HB := Lib.hid (HS.out.at 0 rfl)
 have HR := Lib.hid (HS.out.at 1 rfl)
 have HM : Hid (HasL _ (w.heap.size + 1 + 1) (momC 3 0 0 0 0 0 decNil false 0)) := Lib.hid (HS.out.at 2 rfl)
 have HW := Lib.hid HS.out.old
 clear HS
 go_wp2_with fail
 refine (p_date7 w.heap.size (w.heap.size + 1 + 1) (by omega) 3 0 0 0 0 0 decNil false 0 l (by have := HL.out; omega) _ HB.out HM.out).mono ?_
 intro e w1 hq
 unfold DatePost at hq
 cases hE : dateP l with
 | none =>
  rw [hE] at hq
  have E1 := Lib.hid hE
  clear hE
  obtain ⟨rfl, n1⟩ := hq
  unfold outOf
  have HZ : Hid (readS6 3 l = ⟨momNil, 6⟩) := Lib.hid (by show (match partsP 3 l with | none => _ | some p => _) = _; rw [show partsP 3 l = none by rw [parts3]; simp only [E1.out, Option.bind_some, Option.bind_none, reduceCtorEq, if_false]])
  replace HW := Lib.hid (Near.under HW.out n1 (by intro p hp; simp only [List.mem_cons, List.mem_nil_iff, or_false] at hp; first | (rcases hp with rfl | rfl <;> omega) | omega))
  clear n1
  go_wp2
  exact ⟨rfl, fin_no HZ.out (by decide) rfl, HW.out⟩
 | some x =>
  rw [hE] at hq
  obtain ⟨⟨y, mo, d⟩, l1⟩ := x
  have E1 := Lib.hid hE
  clear hE
  have HL1 : Hid (l1.length ≤ 390) := Lib.hid (by have h1 := HL.out; have h2 := dateP_len E1.out; dsimp only at h2; omega)
  replace HL := HL1
  obtain ⟨rfl, h1, h2, n1⟩ := hq
  replace HB := Lib.hid h1
  replace HM := Lib.hid h2
  replace HR := Lib.hid (HR.out.near n1 (by simp <;> omega))
  replace HW := Lib.hid (Near.under HW.out n1 (by intro p hp; simp only [List.mem_cons, List.mem_nil_iff, or_false] at hp; first | (rcases hp with rfl | rfl <;> omega) | omega))
  clear h1 h2 n1
  go_wp2_with fail
  refine (t_ch w.heap.size 84 l1 (by have := HL.out; omega) _ HB.out).mono ?_
  intro e w2 hq
  unfold Stepped at hq
  cases hE : chP 84 l1 with
  | none =>
   rw [hE] at hq
   have E2 := Lib.hid hE
   clear hE
   obtain ⟨rfl, n1⟩ := hq
   unfold outOf
   have HZ : Hid (readS6 3 l = ⟨momNil, 6⟩) := Lib.hid (by show (match partsP 3 l with | none => _ | some p => _) = _; rw [show partsP 3 l = none by rw [parts3]; simp only [E1.out, E2.out, Option.bind_some, Option.bind_none, reduceCtorEq, if_false]])
   replace HW := Lib.hid (Near.under HW.out n1 (by intro p hp; simp only [List.mem_cons, List.mem_nil_iff, or_false] at hp; first | (rcases hp with rfl | rfl <;> omega) | omega))
   clear n1
   go_wp2
   exact ⟨rfl, fin_no HZ.out (by decide) rfl, HW.out⟩
  | some x =>
   rw [hE] at hq
   obtain ⟨u, l2⟩ := x
   have E2 := Lib.hid hE
   clear hE
   have HL2 : Hid (l2.length ≤ 390) := Lib.hid (by have h1 := HL.out; have h2 := chP_len E2.out; dsimp only at h2; omega)
   replace HL := HL2
   obtain ⟨rfl, h1, n1⟩ := hq
   replace HB := Lib.hid h1
   replace HM := Lib.hid (HM.out.near n1 (by simp <;> omega))
   replace HR := Lib.hid (HR.out.near n1 (by simp <;> omega))
   replace HW := Lib.hid (Near.under HW.out n1 (by intro p hp; simp only [List.mem_cons, List.mem_nil_iff, or_false] at hp; first | (rcases hp with rfl | rfl <;> omega) | omega))
   clear h1 n1
   go_wp2_with fail
   refine (p_hasTime _ _).mono ?_
   rintro e w_ ⟨rfl, rfl⟩
   go_wp2_with fail
   refine (p_time7 w.heap.size (w.heap.size + 1 + 1) (by omega) 3 y mo d 0 0 decNil false 0 l2 (by have := HL.out; omega) _ HB.out HM.out).mono ?_
   intro e w3 hq
   unfold TimePost at hq
   cases hE : timeP l2 with
   | none =>
    rw [hE] at hq
    have E3 := Lib.hid hE
    clear hE
    obtain ⟨rfl, n1⟩ := hq
    unfold outOf
    have HZ : Hid (readS6 3 l = ⟨momNil, 6⟩) := Lib.hid (by show (match partsP 3 l with | none => _ | some p => _) = _; rw [show partsP 3 l = none by rw [parts3]; simp only [E1.out, E2.out, E3.out, Option.bind_some, Option.bind_none, reduceCtorEq, if_false]])
    replace HW := Lib.hid (Near.under HW.out n1 (by intro p hp; simp only [List.mem_cons, List.mem_nil_iff, or_false] at hp; first | (rcases hp with rfl | rfl <;> omega) | omega))
    clear n1
    go_wp2
    exact ⟨rfl, fin_no HZ.out (by decide) rfl, HW.out⟩
   | some x =>
    rw [hE] at hq
    obtain ⟨⟨hr, mi, sx⟩, l3⟩ := x
    have E3 := Lib.hid hE
    clear hE
    have HL3 : Hid (l3.length ≤ 390) := Lib.hid (by have h1 := HL.out; have h2 := (timeP_len E3.out).1; dsimp only at h2; omega)
    replace HL := HL3
    obtain ⟨rfl, h1, h2, n1⟩ := hq
    replace HB := Lib.hid h1
    replace HM := Lib.hid h2
    replace HR := Lib.hid (HR.out.near n1 (by simp <;> omega))
    replace HW := Lib.hid (Near.under HW.out n1 (by intro p hp; simp only [List.mem_cons, List.mem_nil_iff, or_false] at hp; first | (rcases hp with rfl | rfl <;> omega) | omega))
    clear h1 h2 n1
    go_wp2_with fail
    refine (p_zone7 w.heap.size (w.heap.size + 1 + 1) (by omega) 3 y mo d hr mi decNil l3 (by have := HL.out; omega) _ HB.out HM.out).mono ?_
    intro e w4 hq
    unfold ZonePost at hq
    cases hE : zone1P l3 with
    | none =>
     rw [hE] at hq
     have E4 := Lib.hid hE
     clear hE
     obtain ⟨rfl, n1⟩ := hq
     unfold outOf
     have HZ : Hid (readS6 3 l = ⟨momNil, 6⟩) := Lib.hid (by show (match partsP 3 l with | none => _ | some p => _) = _; rw [show partsP 3 l = none by rw [parts3]; simp only [E1.out, E2.out, E3.out, zone_end, E4.out, Option.bind_some, Option.bind_none, reduceCtorEq, if_false]])
     replace HW := Lib.hid (Near.under HW.out n1 (by intro p hp; simp only [List.mem_cons, List.mem_nil_iff, or_false] at hp; first | (rcases hp with rfl | rfl <;> omega) | omega))
     clear n1
     go_wp2
     exact ⟨rfl, fin_no HZ.out (by decide) rfl, HW.out⟩
    | some x =>
     rw [hE] at hq
     obtain ⟨⟨zd, z⟩, l4⟩ := x
     have E4 := Lib.hid hE
     clear hE
     have HL4 : Hid (l4.length ≤ 390) := Lib.hid (by have h1 := HL.out; have h2 := zone1P_len E4.out; dsimp only at h2; omega)
     replace HL := HL4
     obtain ⟨rfl, h1, h2, n1⟩ := hq
     replace HB := Lib.hid h1
     replace HM := Lib.hid h2
     replace HR := Lib.hid (HR.out.near n1 (by simp <;> omega))
     replace HW := Lib.hid (Near.under HW.out n1 (by intro p hp; simp only [List.mem_cons, List.mem_nil_iff, or_false] at hp; first | (rcases hp with rfl | rfl <;> omega) | omega))
     clear h1 h2 n1
     have d0 := HB.out.cell 0 rfl
     cases l4 with
     | cons c tl =>
      have he : (⟨(c :: tl).toArray⟩ : ByteArray).toList.isEmpty = false := by rw [Lib.toList_data, bytes_mk]; rfl
      have HZ : Hid (readS6 3 l = ⟨momNil, 6⟩) := Lib.hid (by show (match partsP 3 l with | none => _ | some p => _) = _; rw [show partsP 3 l = none by rw [parts3]; simp only [E1.out, E2.out, E3.out, zone_end, E4.out, Option.bind_some, Option.bind_none, reduceCtorEq, if_false]])
      go_wp2
      exact ⟨rfl, fin_no HZ.out (by decide) rfl, HW.out⟩
     | nil =>
      have he : (⟨([] : List UInt8).toArray⟩ : ByteArray).toList.isEmpty = true := by rw [Lib.toList_data, bytes_mk]; rfl
      go_wp2_with fail
      refine (p_hasTime _ _).mono ?_
      rintro e w_ ⟨rfl, rfl⟩
      have HP : Hid (partsP 3 l = some ⟨y, mo, d, hr, mi, sx, zd, z⟩) := Lib.hid (by rw [parts3]; simp only [E1.out, E2.out, E3.out, zone_end, E4.out, Option.bind_some, if_true])
      clear d0 he
      have hzl : sx.length ≤ 393 := by have h1 := (timeP_len E3.out).2; have h2 := HL0.out; have h3 := dateP_len E1.out; have h4 := chP_len E2.out; dsimp only at h3 h4; dsimp only at h1; omega
      go_wp2_with fail
      refine (p_second ⟨sx.toArray⟩ (by rw [← bytes_len, bytes_mk]; omega) _ (HT.out.next HW.out)).mono ?_
      rintro e ws ⟨hq, b1⟩
      replace HB := Lib.hid (HB.out.call b1)
      replace HM := Lib.hid (HM.out.call b1)
      replace HR := Lib.hid (HR.out.call b1)
      replace HW := Lib.hid (step HW.out b1)
      clear b1
      by_cases hre : (readS ⟨sx.toArray⟩).e = 0
      rotate_left
      ·rw [if_neg hre] at hq
       subst hq
       have HRE := Lib.hid hre
       have HZ : Hid (readS6 3 l = ⟨momNil, (readS ⟨sx.toArray⟩).e⟩) := Lib.hid (by show (match partsP 3 l with | none => _ | some p => _) = _; rw [HP.out]; show partsS 3 _ = _; unfold partsS; dsimp only; rw [if_pos (show timedB 3 = true from rfl), if_neg HRE.out])
       clear hre
       unfold outOf
       go_wp2
       exact ⟨rfl, fin_no HZ.out HRE.out rfl, HW.out⟩
      rw [if_pos hre] at hq
      subst hq
      have hdv := (read_valid hre).size
      have HRE := Lib.hid hre
      clear hre
      obtain ⟨dd, hdd⟩ : ∃ d, (readS ⟨sx.toArray⟩).d = d := ⟨_, rfl⟩
      rw [hdd] at hdv ⊢
      have HDD := Lib.hid hdd
      clear hdd
      have d0 := HM.out.cell 0 rfl
      have z0 := HM.out.frozen 0 rfl
      have d1 := HM.out.cell 1 rfl
      have z1 := HM.out.frozen 1 rfl
      have d2 := HM.out.cell 2 rfl
      have z2 := HM.out.frozen 2 rfl
      have d3 := HM.out.cell 3 rfl
      have z3 := HM.out.frozen 3 rfl
      have d4 := HM.out.cell 4 rfl
      have z4 := HM.out.frozen 4 rfl
      have d5 := HM.out.cell 5 rfl
      have z5 := HM.out.frozen 5 rfl
      have d6 := HM.out.cell 6 rfl
      have z6 := HM.out.frozen 6 rfl
      have d7 := HM.out.cell 7 rfl
      have z7 := HM.out.frozen 7 rfl
      have d8 := HM.out.cell 8 rfl
      have z8 := HM.out.frozen 8 rfl
      have d9 := HM.out.cell 9 rfl
      have z9 := HM.out.frozen 9 rfl
      have d10 := HM.out.cell 10 rfl
      have z10 := HM.out.frozen 10 rfl
      unfold Dec.v
      have cV := fun W hW => p_valid (⟨3, y, mo, d, hr, mi, dd, zd, z⟩ : Mom) (by show dd.ds.size ≤ 400; omega) W hW
      unfold Mom.v at cV
      dsimp only at cV
      go_wp2_with fail
      replace HB := Lib.hid (HB.out.farL (c := w.heap.size + 1 + 1) (by omega) 6 [.bool dd.neg, .string dd.ds, .int .i64 dd.sc])
      replace HR := Lib.hid (HR.out.farL (c := w.heap.size + 1 + 1) (by omega) 6 [.bool dd.neg, .string dd.ds, .int .i64 dd.sc])
      replace HM := Lib.hid (((HM.out.set 6 (.bool dd.neg) (by simp [momC])).set 7 (.string dd.ds) (by simp [momC])).set 8 (.int .i64 dd.sc) (by simp [momC]))
      replace HW := Lib.hid (setStepL HW.out (b := w.heap.size + 1 + 1) (by omega) 6 [.bool dd.neg, .string dd.ds, .int .i64 dd.sc])
      clear d0 d1 d2 d3 d4 d5 d6 d7 d8 d9 d10 z0 z1 z2 z3 z4 z5 z6 z7 z8 z9 z10
      refine (cV _ (HT.out.next HW.out)).mono ?_
      rintro e wv ⟨rfl, b1⟩
      replace HM := Lib.hid (HM.out.call b1)
      replace HR := Lib.hid (HR.out.call b1)
      replace HW := Lib.hid (step HW.out b1)
      clear b1 cV HB
      cases hok : okB (⟨3, y, mo, d, hr, mi, dd, zd, z⟩ : Mom)
      ·have HOK := Lib.hid hok
       have HZ : Hid (readS6 3 l = ⟨momNil, 6⟩) := Lib.hid (by show (match partsP 3 l with | none => _ | some p => _) = _; rw [HP.out]; show partsS 3 _ = _; unfold partsS; dsimp only; rw [if_pos (show timedB 3 = true from rfl), if_pos HRE.out, HDD.out]; unfold seenS; rw [if_neg (by intro g; have h := HOK.out; unfold Parts.mom at g; rw [h] at g; cases g)])
       clear hok
       go_wp2
       exact ⟨rfl, fin_no HZ.out (by decide) rfl, HW.out⟩
      ·have HOK := Lib.hid hok
       have HZ : Hid (readS6 3 l = ⟨(⟨3, y, mo, d, hr, mi, dd, zd, z⟩ : Mom), 0⟩) := Lib.hid (by show (match partsP 3 l with | none => _ | some p => _) = _; rw [HP.out]; show partsS 3 _ = _; unfold partsS; dsimp only; rw [if_pos (show timedB 3 = true from rfl), if_pos HRE.out, HDD.out]; unfold seenS; unfold Parts.mom; rw [if_pos HOK.out])
       clear hok
       have HM2 : Hid (HasL wv (w.heap.size + 1 + 1) [.int .i64 3, .int .i64 y, .int .i64 mo, .int .i64 d, .int .i64 hr, .int .i64 mi, .bool dd.neg, .string dd.ds, .int .i64 dd.sc, .bool zd, .int .i64 z]) := HM
       obtain ⟨d0, d1, d2, d3, d4, d5, d6, d7, d8, d9, d10⟩ := HM2.out.all11
       obtain ⟨f0, f1, f2, f3, f4, f5, f6, f7, f8, f9, f10⟩ := HR.out.all11
       obtain ⟨z0, z1, z2, z3, z4, z5, z6, z7, z8, z9, z10⟩ := HR.out.free11
       have ne1 : w.heap.size + 1 ≠ w.heap.size + 1 + 1 := by omega
       have ne2 : w.heap.size + 1 + 1 ≠ w.heap.size + 1 := by omega
       go_wp2
       replace HR := Lib.hid (HR.out.setL [.int .i64 3, .int .i64 y, .int .i64 mo, .int .i64 d, .int .i64 hr, .int .i64 mi, .bool dd.neg, .string dd.ds, .int .i64 dd.sc, .bool zd, .int .i64 z] rfl)
       replace HW := Lib.hid (setStepL HW.out (b := w.heap.size + 1) (by omega) 0 [.int .i64 3, .int .i64 y, .int .i64 mo, .int .i64 d, .int .i64 hr, .int .i64 mi, .bool dd.neg, .string dd.ds, .int .i64 dd.sc, .bool zd, .int .i64 z])
       obtain ⟨r0, r1, r2, r3, r4, r5, r6, r7, r8, r9, r10⟩ := HR.out.all11
       simp only [setL, Nat.reduceAdd] at r0 r1 r2 r3 r4 r5 r6 r7 r8 r9 r10
       refine bodyPost_ret (v := .agg #[.int .i64 3, .int .i64 y, .int .i64 mo, .int .i64 d, .int .i64 hr, .int .i64 mi, .bool dd.neg, .string dd.ds, .int .i64 dd.sc, .bool zd, .int .i64 z]) ?_ rfl ⟨fin_ok HZ.out rfl, HW.out⟩
       simp [results, Tryz.results31, go_sem, r0, r1, r2, r3, r4, r5, r6, r7, r8, r9, r10]
end Go.Proofs.YtmdnijehoagamaaGreatDoor
