/-
  What is wrong with a batch: the contracts of data.Check and of the document's.
-/
import Derived.Test.YtkfjgmfokpgcbaaGreatDoorJDe
import Derived.Test.YtkfjgmfokpgcbaaGreatDoorJChk
namespace Go.Proofs.YtkfjgmfokpgcbaaGreatDoor.data
open Go.ChangeShapes Go.WideShapes Go.ChangeAt Go.RowKit
open Go.Proofs.YtkfjgmfokpgcbaaGreatDoor.tm Go.Proofs.YtkfjgmfokpgcbaaGreatDoor.opened Go.Proofs.YtkfjgmfokpgcbaaGreatDoor.block Go.Proofs.YtkfjgmfokpgcbaaGreatDoor.region

/-- What is wrong with a batch, by its place, its time, and how many records it has. -/
def chkB (l : Int) (t : Tm) (n : Nat) : Int := if l < 0 then 1 else if 1000 < l then 1 else if chk t ≠ 0 then chk t else if n = 0 then 3 else if 64 < n then 7 else 0
theorem chkB_zero {l : Int} {t : Tm} {n : Nat} (h : chkB l t n = 0) : 0 ≤ l ∧ l ≤ 1000 ∧ chk t = 0 ∧ 1 ≤ n ∧ n ≤ 64 := by
  unfold chkB at h
  repeat' split at h
  all_goals omega
set_option maxRecDepth 100000 in
theorem check_any (l : Int) (t : Tm) (i : t.In) (A : Option Addr) (n c : Nat) (w : World) :
    Calls Tryz.prog 22 #[.agg #[.int .i64 l, .int .u32 t.e, .int .i64 t.d, .int .u32 t.a, .int .u32 t.b, .int .u32 t.c, .slice A n c]] w fun e w' => e = .returned (.int .i64 (chkB l t n)) ∧ Below w.heap.size w w' := by
  have CT := Lib.hid (stamp.check_any t i)
  have B0 := Lib.hid (fresh0 w)
  unfold chkB
  by_cases h0 : l < 0
  · rw [if_pos h0]
    go_enter Tryz.func22, Tryz.ntmps22
    go_wp2_with fail
    go_ret
    exact ⟨rfl, B0.out _⟩
  rw [if_neg h0]
  by_cases h1 : 1000 < l
  · rw [if_pos h1]
    go_enter Tryz.func22, Tryz.ntmps22
    go_wp2_with fail
    go_ret
    exact ⟨rfl, B0.out _⟩
  rw [if_neg h1]
  generalize chk t = x at CT ⊢
  by_cases h2 : x ≠ 0
  · rw [if_pos h2]
    have e2 : (x != 0) = true := by simpa using h2
    clear h2
    go_enter Tryz.func22, Tryz.ntmps22
    go_wp2_with fail
    refine (CT.out _).mono ?_
    rintro e w1 ⟨rfl, b1⟩
    have B1 := Lib.hid ((B0.out _).trans (b1.mono (by simp)))
    have c6 : w1.cell? ⟨w.heap.size, 6, none⟩ = some (.slice A n c) := Whole.read (Whole.below (Whole.fresh w 46 #[.int .i64 l, .int .u32 t.e, .int .i64 t.d, .int .u32 t.a, .int .u32 t.b, .int .u32 t.c, .slice A n c]) b1 (by simp)) 6
    clear b1
    go_wp2_with fail
    go_ret
    exact ⟨rfl, B1.out⟩
  rw [if_neg h2]
  obtain rfl : x = 0 := Decidable.not_not.1 h2
  clear h2
  by_cases h3 : n = 0
  · subst h3
    rw [if_pos rfl]
    go_enter Tryz.func22, Tryz.ntmps22
    go_wp2_with fail
    refine (CT.out _).mono ?_
    rintro e w1 ⟨rfl, b1⟩
    have B1 := Lib.hid ((B0.out _).trans (b1.mono (by simp)))
    have c6 : w1.cell? ⟨w.heap.size, 6, none⟩ = some (.slice A 0 c) := Whole.read (Whole.below (Whole.fresh w 46 #[.int .i64 l, .int .u32 t.e, .int .i64 t.d, .int .u32 t.a, .int .u32 t.b, .int .u32 t.c, .slice A 0 c]) b1 (by simp)) 6
    clear b1
    go_wp2_with fail
    go_ret
    exact ⟨rfl, B1.out⟩
  rw [if_neg h3]
  have e3 : ((n : Int) == 0) = false := by rw [beq_eq_false_iff_ne]; omega
  clear h3
  by_cases h4 : 64 < n
  · rw [if_pos h4]
    go_enter Tryz.func22, Tryz.ntmps22
    go_wp2_with fail
    refine (CT.out _).mono ?_
    rintro e w1 ⟨rfl, b1⟩
    have B1 := Lib.hid ((B0.out _).trans (b1.mono (by simp)))
    have c6 : w1.cell? ⟨w.heap.size, 6, none⟩ = some (.slice A n c) := Whole.read (Whole.below (Whole.fresh w 46 #[.int .i64 l, .int .u32 t.e, .int .i64 t.d, .int .u32 t.a, .int .u32 t.b, .int .u32 t.c, .slice A n c]) b1 (by simp)) 6
    clear b1
    go_wp2_with fail
    go_ret
    exact ⟨rfl, B1.out⟩
  · rw [if_neg h4]
    go_enter Tryz.func22, Tryz.ntmps22
    go_wp2_with fail
    refine (CT.out _).mono ?_
    rintro e w1 ⟨rfl, b1⟩
    have B1 := Lib.hid ((B0.out _).trans (b1.mono (by simp)))
    have c6 : w1.cell? ⟨w.heap.size, 6, none⟩ = some (.slice A n c) := Whole.read (Whole.below (Whole.fresh w 46 #[.int .i64 l, .int .u32 t.e, .int .i64 t.d, .int .u32 t.a, .int .u32 t.b, .int .u32 t.c, .slice A n c]) b1 (by simp)) 6
    clear b1
    go_wp2_with fail
    go_ret
    exact ⟨rfl, B1.out⟩
end Go.Proofs.YtkfjgmfokpgcbaaGreatDoor.data
