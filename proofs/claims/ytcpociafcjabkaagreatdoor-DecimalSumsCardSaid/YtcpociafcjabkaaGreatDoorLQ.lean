/- The five laws of decimal, over what the program's functions answer. -/
import Derived.Test.YtcpociafcjabkaaGreatDoorLF
import Derived.Test.YtcpociafcjabkaaGreatDoorLG
import Derived.Test.YtcpociafcjabkaaGreatDoorLL
import Derived.Test.YtcpociafcjabkaaGreatDoorLO
import Derived.Test.YtcpociafcjabkaaGreatDoorLP
set_option linter.unusedSimpArgs false
set_option linter.unusedVariables false
namespace Go.Proofs.YtcpociafcjabkaaGreatDoor
open Go.RowKit

theorem lawTexts {P : World → Prop} (ok : ProgOk P) (a : Dec) (s : ByteArray) (n : Int) (n0 : -9223372036854775808 ≤ n) (n1 : n ≤ 9223372036854775807) (w : World) (hP : P w) : Calls Tryz.prog 3 #[a.v, .string s, .int .i64 n] w fun e w' => e = .returned (.bool true) ∧ Below w.heap.size w w' := by
  obtain ⟨an, ad, ak⟩ := a
  by_cases g : (400 : Int) < (s.size : Int)
  · exact texts_long1 ok an ad ak s n n0 n1 g w hP
  · by_cases h : (400 : Int) < (ad.size : Int)
    · exact texts_long2 ok an ad ak s n n0 n1 g h w hP
    · exact texts_short ok an ad ak s n n0 n1 g h w hP
theorem lawSums {P : World → Prop} (ok : ProgOk P) (a b : Dec) (w : World) (hP : P w) : Calls Tryz.prog 4 #[a.v, b.v] w fun e w' => e = .returned (.bool true) ∧ Below w.heap.size w w' := by
  obtain ⟨an, ad, ak⟩ := a
  obtain ⟨bn, bd, bk⟩ := b
  by_cases g : (400 : Int) < (ad.size : Int)
  · exact sums_long1 ok an ad ak bn bd bk g w hP
  · by_cases h : (400 : Int) < (bd.size : Int)
    · exact sums_long2 ok an ad ak bn bd bk g h w hP
    · exact sums_short ok an ad ak bn bd bk g h w hP
theorem lawRounds {P : World → Prop} (ok : ProgOk P) (a b : Dec) (k : Int) (w : World) (hP : P w) : Calls Tryz.prog 5 #[a.v, b.v, .int .i64 k] w fun e w' => e = .returned (.bool true) ∧ Below w.heap.size w w' := by
  obtain ⟨an, ad, ak⟩ := a
  obtain ⟨bn, bd, bk⟩ := b
  by_cases g : (400 : Int) < (ad.size : Int)
  · exact rounds_long1 ok an ad ak bn bd bk k g w hP
  · by_cases h : (400 : Int) < (bd.size : Int)
    · exact rounds_long2 ok an ad ak bn bd bk k g h w hP
    · exact rounds_short ok an ad ak bn bd bk k g h w hP
theorem lawLaws {P : World → Prop} (ok : ProgOk P) (a b c : Dec) (w : World) (hP : P w) : Calls Tryz.prog 6 #[a.v, b.v, c.v] w fun e w' => e = .returned (.bool true) ∧ Below w.heap.size w w' := by
  obtain ⟨an, ad, ak⟩ := a
  obtain ⟨bn, bd, bk⟩ := b
  obtain ⟨cn, cd, ck⟩ := c
  by_cases ga : (400 : Int) < (ad.size : Int)
  · exact laws_long1 ok an ad ak bn bd bk cn cd ck ga w hP
  by_cases gb : (400 : Int) < (bd.size : Int)
  · exact laws_long2 ok an ad ak bn bd bk cn cd ck ga gb w hP
  by_cases gc : (400 : Int) < (cd.size : Int)
  · exact laws_long3 ok an ad ak bn bd bk cn cd ck ga gb gc w hP
  by_cases ha : Valid ⟨an, ad, ak⟩
  · by_cases hb : Valid ⟨bn, bd, bk⟩
    · by_cases hc : Valid ⟨cn, cd, ck⟩
      · exact laws_main ok an ad ak bn bd bk cn cd ck ha hb hc w hP
      · exact laws_bad3 ok an ad ak bn bd bk cn cd ck ga gb gc ha hb hc w hP
    · exact laws_bad2 ok an ad ak bn bd bk cn cd ck ga gb gc ha hb w hP
  · exact laws_bad1 ok an ad ak bn bd bk cn cd ck ga gb gc ha w hP
theorem lawBounds {P : World → Prop} (ok : ProgOk P) (a b : Dec) (k : Int) (za : a.ds.size ≤ maxLen) (zb : b.ds.size ≤ maxLen) (w : World) (hP : P w) : Calls Tryz.prog 7 #[a.v, b.v, .int .i64 k] w fun e w' => e = .returned (.bool true) ∧ Below w.heap.size w w' := by
  obtain ⟨an, ad, ak⟩ := a
  obtain ⟨bn, bd, bk⟩ := b
  simp only at za zb
  by_cases ha : Valid ⟨an, ad, ak⟩
  · by_cases hb : Valid ⟨bn, bd, bk⟩
    · by_cases g0 : (20 : Int) < (ad.size : Int)
      · exact bounds_out0 ok an ad ak bn bd bk za zb k ha hb g0 w hP
      by_cases g1 : (20 : Int) < (bd.size : Int)
      · exact bounds_out1 ok an ad ak bn bd bk za zb k ha hb g0 g1 w hP
      by_cases g2 : (10 : Int) < ak
      · exact bounds_out2 ok an ad ak bn bd bk za zb k ha hb g0 g1 g2 w hP
      by_cases g3 : (10 : Int) < bk
      · exact bounds_out3 ok an ad ak bn bd bk za zb k ha hb g0 g1 g2 g3 w hP
      by_cases g4 : k < 0
      · exact bounds_out4 ok an ad ak bn bd bk za zb k ha hb g0 g1 g2 g3 g4 w hP
      by_cases g5 : (10 : Int) < k
      · exact bounds_out5 ok an ad ak bn bd bk za zb k ha hb g0 g1 g2 g3 g4 g5 w hP
      by_cases g6 : (bd.toList == [48]) = true
      · exact bounds_out6 ok an ad ak bn bd bk za zb k ha hb g0 g1 g2 g3 g4 g5 g6 w hP
      · obtain ⟨j, rfl⟩ : ∃ j : Nat, k = (j : Int) := ⟨k.toNat, by omega⟩
        exact bounds_main ok an ad ak bn bd bk j (by omega) za zb ha hb g0 g1 g2 g3 (by simpa using g6) w hP
    · exact bounds_bad2 ok an ad ak bn bd bk za zb k ha hb w hP
  · exact bounds_bad1 ok an ad ak bn bd bk za zb k ha w hP
end Go.Proofs.YtcpociafcjabkaaGreatDoor
