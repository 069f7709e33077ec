import Derived.Test.YtbomlapmoiamgaaRows
import Derived.WalkKit
import Derived.ProofKit
import Derived.OpenShut
import Derived.Lib.Hide
import Derived.Deep.QuietTactic
import Derived.BigQuiet
import Derived.Laws.BitsAllLaws
import Derived.WalkSpells
import Derived.Laws.IdiomStrings
import Derived.Test.YtbomlapmoiamgaaSum
import Derived.Test.YtbomlapmoiamgaaOpen
import Derived.Test.YtbomlapmoiamgaaBlock
set_option linter.unusedSimpArgs false
set_option linter.unusedVariables false
namespace Go.Proofs.Ytbomlapmoiamgaa.crc
open Go.ChangeShapes Go.WideShapes Go.ChangeAt Go.RowKit
open Go.Proofs.Ytbomlapmoiamgaa.crcm Go.Proofs.Ytbomlapmoiamgaa.block Go.Proofs.Ytbomlapmoiamgaa.opened


theorem str_add (l : List UInt8) (s : ByteArray) : (⟨l.toArray⟩ : ByteArray) ++ s = ⟨(l ++ s.data.toList).toArray⟩ := ByteArray.ext (by simp)
theorem ret_str {a b : ByteArray} (h : a = b) : Ending.returned (.string a) = .returned (.string b) := by rw [h]
set_option maxRecDepth 100000 in
theorem head_conv (w : World) (t : TypeId) (n : Nat) : (convert 86 9 (.slice (some ⟨w.heap.size, 0, none⟩) 4 4)).run Try.prog (w.alloc (.cells #[.int .u8 ((n : Int) % 256), .int .u8 ((n : Int) / 256 % 256), .int .u8 ((n : Int) / 65536 % 256), .int .u8 ((n : Int) / 16777216 % 256)] t)) =
    .ok (.string ⟨(headL n).toArray⟩) (w.alloc (.cells #[.int .u8 ((n : Int) % 256), .int .u8 ((n : Int) / 256 % 256), .int .u8 ((n : Int) / 65536 % 256), .int .u8 ((n : Int) / 16777216 % 256)] t)) := by
  refine run_convert_bytes_back _ 86 9 5 ⟨w.heap.size, 0, none⟩ 4 (headL n) Try.underlying86 Try.underlying5 Try.underlying9 ?_
  intro j hj
  rw [headL_length] at hj
  have hr := (Whole.fresh w t #[.int .u8 ((n : Int) % 256), .int .u8 ((n : Int) / 256 % 256), .int .u8 ((n : Int) / 65536 % 256), .int .u8 ((n : Int) / 16777216 % 256)]).read j
  have ha : (⟨w.heap.size, 0, none⟩ : Addr).add j = ⟨w.heap.size, j, none⟩ := by
    unfold Addr.add
    by_cases h : j = 0 <;> simp [h]
  rw [ha, hr]
  obtain rfl | rfl | rfl | rfl : j = 0 ∨ j = 1 ∨ j = 2 ∨ j = 3 := by omega
  all_goals simp [headL]

theorem seal_any (l : List UInt8) (hl : l.length ≤ 140737488351232) (w : World) : Calls Try.prog 61 #[.string ⟨l.toArray⟩] w fun e w' => e = .returned (.string ⟨(sealL l).toArray⟩) ∧ Below w.heap.size w w' := by
  go_enter Try.func61, Try.ntmps61
  go_wp2_with fail
  refine (sum_any l hl _).mono ?_
  rintro e w' ⟨rfl, rfl⟩
  have hc := head_conv w 125 (sumL l)
  have hh : (headL (sumL l)).length = 4 := rfl
  go_wp2
  go_ret
  exact ⟨ret_str (str_add _ _), (Below.refl _ _).alloc (Nat.le_refl _) _⟩
/-- What Open answers. -/
def opened (l : List UInt8) : Ending := .returned (.tuple #[.string ⟨(openT l).toArray⟩, .bool (isSeal l)])
theorem str_drop (l : List UInt8) (n : Nat) : (⟨l.toArray⟩ : ByteArray).extract n l.length = ⟨(l.drop n).toArray⟩ := by
  apply ByteArray.ext
  simp only [ByteArray.data_extract, List.extract_toArray]
  congr 1
  rw [List.extract_eq_take_drop]
  exact List.take_of_length_le (by simp)
theorem str_take (l : List UInt8) (n : Nat) : (⟨l.toArray⟩ : ByteArray).extract 0 n = ⟨(l.take n).toArray⟩ := by
  apply ByteArray.ext
  simp [ByteArray.data_extract]
theorem seal_drop (l : List UInt8) (hl : l.length ≤ 140737488351232) (w : World) : Calls Try.prog 61 #[.string ((⟨l.toArray⟩ : ByteArray).extract 4 l.length)] w fun e w' => e = .returned (.string ⟨(sealL (l.drop 4)).toArray⟩) ∧ Below w.heap.size w w' := by
  rw [str_drop]
  exact seal_any _ (by simp; omega) w
theorem opened_yes {l : List UInt8} (h4 : 4 ≤ l.length) (hs : sealL (l.drop 4) = l) : Ending.returned (.tuple #[.string ((⟨l.toArray⟩ : ByteArray).extract 4 l.length), .bool true]) = opened l := by
  have h : isSeal l = true := by simp [isSeal, h4, hs]
  unfold opened openT
  rw [if_pos h, h, str_drop]
theorem opened_no {l : List UInt8} (h4 : ¬ 4 ≤ l.length ∨ ¬ sealL (l.drop 4) = l) : Ending.returned (.tuple #[.string ⟨#[]⟩, .bool false]) = opened l := by
  have h : isSeal l = false := by
    rcases h4 with h4 | hs
    · simp [isSeal, h4]
    · simp [isSeal, hs]
  unfold opened openT
  rw [if_neg (by simp [h]), h]
theorem open_any (l : List UInt8) (hl : l.length ≤ 140737488351232) (w : World) : Calls Try.prog 62 #[.string ⟨l.toArray⟩] w fun e w' => e = opened l ∧ Below w.heap.size w w' := by
  by_cases h4 : 4 ≤ l.length
  · go_enter Try.func62, Try.ntmps62
    go_wp2_with fail
    refine (seal_drop l hl _).mono ?_
    rintro e w' ⟨rfl, hb⟩
    by_cases hs : sealL (l.drop 4) = l
    · go_wp2
      go_ret2
      exact ⟨opened_yes h4 hs, hb⟩
    · have e1 : (l == sealL (l.drop 4)) = false := by
        simp only [beq_eq_false_iff_ne, ne_eq]
        exact fun h => hs h.symm
      have e2 : (sealL (l.drop 4) == l) = false := by simp [hs]
      go_wp2
      go_ret2
      exact ⟨opened_no (.inr hs), hb⟩
  · go_enter Try.func62, Try.ntmps62
    go_wp2
    go_ret2
    exact ⟨opened_no (.inl h4), Below.refl _ _⟩
end Go.Proofs.Ytbomlapmoiamgaa.crc
