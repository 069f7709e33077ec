/-
  The contract of survives.
-/
import Derived.Test.YtfpmcomigolacaaGreatDoorJKs
import Derived.IntWalk
set_option linter.unusedSimpArgs false
set_option linter.unusedVariables false
namespace Go.Proofs.YtfpmcomigolacaaGreatDoor.disk
open Go.ChangeShapes Go.WideShapes Go.ChangeAt Go.RowKit Go.Maps Go.WideMaps
open Go.Proofs.YtfpmcomigolacaaGreatDoor.words Go.Proofs.YtfpmcomigolacaaGreatDoor.opened Go.Proofs.YtfpmcomigolacaaGreatDoor.block

set_option maxRecDepth 100000 in
theorem survives_neg (A : Option Addr) (n c l : Nat) (k : Int) (hl : l ≤ n) (hn : n ≤ 262144) (hk : k < 0) (w : World) :
    Calls Tryz.prog 43 #[.agg #[.slice A n c, .int .i64 (l : Int)], .int .i64 k] w fun e w' => e = .returned (.int .i64 (l : Int)) ∧ Below w.heap.size w w' := by
  have OZ := Whole.fresh w 79 #[.slice A n c, .int .i64 (l : Int)]
  have z0 : (w.alloc (.cells #[.slice A n c, .int .i64 (l : Int)] 79)).drew.cell? ⟨w.heap.size, 0, none⟩ = some (.slice A n c) := OZ.read 0
  have z1 : (w.alloc (.cells #[.slice A n c, .int .i64 (l : Int)] 79)).drew.cell? ⟨w.heap.size, 1, none⟩ = some (.int .i64 (l : Int)) := OZ.read 1
  have h1 : ¬ k > 0 := by omega
  have h2 : 0 ≤ (n : Int) - l := by omega
  have h3 : (n : Int) - l + 1 ≤ 262145 := by omega
  have h4 : ((n : Int) - l + 1 == 0) = false := by simp; omega
  have h5 : (0 : Int).tmod ((n : Int) - l + 1) = 0 := by simp
  have h6 : max k 0 = 0 := by omega
  go_enter Tryz.func43, Tryz.ntmps43
  go_upto_region 1 with fail
  go_region
  go_wp2_with fail
  go_ret
  exact ⟨rfl, (fresh1' w _).drew⟩
set_option maxRecDepth 100000 in
theorem survives_pos (A : Option Addr) (n c l : Nat) (k : Int) (hl : l ≤ n) (hn : n ≤ 262144) (hk : 0 ≤ k) (hk2 : k ≤ 9223372036854775807) (w : World) :
    Calls Tryz.prog 43 #[.agg #[.slice A n c, .int .i64 (l : Int)], .int .i64 k] w fun e w' => e = .returned (.int .i64 ((l : Int) + k % ((n : Int) - l + 1))) ∧ Below w.heap.size w w' := by
  have OZ := Whole.fresh w 79 #[.slice A n c, .int .i64 (l : Int)]
  have z0 : (w.alloc (.cells #[.slice A n c, .int .i64 (l : Int)] 79)).drew.cell? ⟨w.heap.size, 0, none⟩ = some (.slice A n c) := OZ.read 0
  have z1 : (w.alloc (.cells #[.slice A n c, .int .i64 (l : Int)] 79)).drew.cell? ⟨w.heap.size, 1, none⟩ = some (.int .i64 (l : Int)) := OZ.read 1
  have h1 : ¬ 0 > k := by omega
  have h2 : 0 ≤ (n : Int) - l := by omega
  have h3 : (n : Int) - l + 1 ≤ 262145 := by omega
  have h4 : ((n : Int) - l + 1 == 0) = false := by simp; omega
  have h5 : k.tmod ((n : Int) - l + 1) = k % ((n : Int) - l + 1) := Int.tmod_eq_emod_of_nonneg hk
  have r0 : 0 ≤ k % ((n : Int) - l + 1) := Int.emod_nonneg _ (by omega)
  have r1 : k % ((n : Int) - l + 1) ≤ 262145 := by have := Int.emod_lt_of_pos k (b := (n : Int) - l + 1) (by omega); omega
  have h6 : max k 0 = k := by omega
  generalize hr : k % ((n : Int) - l + 1) = r at h5 r0 r1 ⊢
  go_enter Tryz.func43, Tryz.ntmps43
  go_upto_region 1 with fail
  go_region
  go_wp2_with fail
  go_ret
  exact ⟨rfl, (fresh1' w _).drew⟩
theorem survives_any (keep : List Int) (i : Nat) (f : Fl) (A : Option Addr) (c : Nat) (hl : f.l ≤ f.b.length) (hn : f.b.length ≤ 262144) (hk2 : keepK keep i ≤ 9223372036854775807) (w : World) :
    Calls Tryz.prog 43 #[.agg #[.slice A f.b.length c, .int .i64 (f.l : Int)], .int .i64 (keepK keep i)] w fun e w' => e = .returned (.int .i64 (leftN keep i f : Int)) ∧ Below w.heap.size w w' := by
  have e0 : ((f.b.length - f.l : Nat) : Int) + 1 = (f.b.length : Int) - f.l + 1 := by omega
  by_cases hk : keepK keep i < 0
  · have e : (leftN keep i f : Int) = f.l := by
      unfold leftN
      rw [Int.max_eq_right (by omega), Int.zero_emod]
      simp
    rw [e]
    exact survives_neg A _ c _ _ hl hn hk w
  · have h0 : 0 ≤ keepK keep i := by omega
    have e : (leftN keep i f : Int) = f.l + keepK keep i % ((f.b.length : Int) - f.l + 1) := by
      unfold leftN
      rw [Int.max_eq_left h0, e0]
      have := Int.emod_nonneg (keepK keep i) (b := (f.b.length : Int) - f.l + 1) (by omega)
      omega
    rw [e]
    exact survives_pos A _ c _ _ hl hn h0 hk2 w
end Go.Proofs.YtfpmcomigolacaaGreatDoor.disk
