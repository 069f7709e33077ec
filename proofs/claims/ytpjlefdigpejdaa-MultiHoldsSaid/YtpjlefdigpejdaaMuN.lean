/-
  The contract of multi.New.
-/
import Derived.Test.YtpjlefdigpejdaaGma
import Derived.Test.YtpjlefdigpejdaaChk
namespace Go.Proofs.Ytpjlefdigpejdaa.multi
open Go.ChangeShapes Go.WideShapes Go.ChangeAt Go.RowKit Go.Maps Go.WideMaps
open Go.Proofs.Ytpjlefdigpejdaa.tm Go.Proofs.Ytpjlefdigpejdaa.opened Go.Proofs.Ytpjlefdigpejdaa.block Go.Proofs.Ytpjlefdigpejdaa.stamp Go.Proofs.Ytpjlefdigpejdaa.chain

theorem size_alloc (w : World) (o : Obj) : (w.alloc o).heap.size = w.heap.size + 1 := Array.size_push o
theorem new_lies (w : World) (o : Obj) (d : Int) : MulP (((w.alloc o).alloc (.map #[] 0)).alloc (.cells #[.int .i64 d, .map (some (w.heap.size + 1)), .slice none 0 0] 85)) (w.heap.size + 1 + 1) d (w.heap.size + 1) none 0 [] [] := by
  have m := own_made (w.alloc o)
  have W := Whole.fresh ((w.alloc o).alloc (.map #[] 0)) 85 #[.int .i64 d, .map (some (w.heap.size + 1)), .slice none 0 0]
  rw [size_alloc] at m
  rw [size_alloc, size_alloc] at W
  exact ⟨W, m.below (fresh1 _ _) m.lt, .nil _ _, by omega, fun h0 => absurd rfl h0⟩
theorem zero_bad (d : Int) (h : d < 0 ∨ 3 < d) (w : World) : Calls Try.prog 48 #[.int .i64 d] w fun e w' => e = .returned (.tuple #[.agg #[.int .u32 0, .int .i64 0, .int .u32 0, .int .u32 0, .int .u32 0], .int .i64 10]) ∧ Below w.heap.size w w' := by
  go_enter Try.func48, Try.ntmps48
  go_wp2_with ((go_at_call 87; refine (isDepth_no _ h _).mono ?_; rintro e w' ⟨rfl, rfl⟩))
  refine bodyPost_ret (v := .tuple #[.agg #[.int .u32 0, .int .i64 0, .int .u32 0, .int .u32 0, .int .u32 0], .int .i64 10]) (by simp [results, Try.results48, go_sem]) rfl ⟨rfl, ?_⟩
  exact fresh1 _ _
theorem zero_good (d : Int) (h0 : 0 ≤ d) (h1 : d ≤ 3) (w : World) : Calls Try.prog 48 #[.int .i64 d] w fun e w' => e = .returned (.tuple #[.agg #[.int .u32 0, .int .i64 d, .int .u32 0, .int .u32 0, .int .u32 0], .int .i64 0]) ∧ Below w.heap.size w w' := by
  go_enter Try.func48, Try.ntmps48
  go_wp2_with ((go_at_call 87; refine (isDepth_yes _ (by omega) (by omega) _).mono ?_; rintro e w' ⟨rfl, rfl⟩))
  refine bodyPost_ret (v := .tuple #[.agg #[.int .u32 0, .int .i64 d, .int .u32 0, .int .u32 0, .int .u32 0], .int .i64 0]) (by simp [results, Try.results48, go_sem]) rfl ⟨rfl, ?_⟩
  exact fresh1 _ _
set_option maxRecDepth 100000 in
theorem new_bad (d : Int) (h : d < 0 ∨ 3 < d) (w : World) : Calls Try.prog 11 #[.int .i64 d] w fun e w' => e = .returned (.tuple #[.pointer none, .int .i64 10]) ∧ Below w.heap.size w w' := by
  go_enter Try.func11, Try.ntmps11
  go_wp2_with ((go_at_call 48; refine (zero_bad d h _).mono ?_; rintro e w1 ⟨rfl, b1⟩; have hb1 := Lib.hid b1; clear b1))
  refine bodyPost_ret (v := .tuple #[.pointer none, .int .i64 10]) (by simp [results, Try.results11, go_sem]) rfl ⟨rfl, ?_⟩
  exact hb1.out.alloc hb1.out.size _
set_option maxRecDepth 100000 in
theorem new_good (d : Int) (h0 : 0 ≤ d) (h1 : d ≤ 3) (w : World) : Calls Try.prog 11 #[.int .i64 d] w fun e w' => ∃ g b, e = .returned (.tuple #[.pointer (some ⟨g, 0, none⟩), .int .i64 0]) ∧ MulP w' g d b none 0 [] [] ∧ Below w.heap.size w w' ∧ w.heap.size ≤ g ∧ w.heap.size ≤ b := by
  have hmm := @run_makeMap Try.prog
  go_enter Try.func11, Try.ntmps11
  go_wp2_with ((go_at_call 48; refine (zero_good d h0 h1 _).mono ?_; rintro e w1 ⟨rfl, b1⟩; have hb1 := Lib.hid b1; clear b1))
  refine bodyPost_ret (v := .tuple #[.pointer (some ⟨w1.heap.size + 1 + 1, 0, none⟩), .int .i64 0]) (by simp [results, Try.results11, go_sem]) rfl ⟨_, w1.heap.size + 1, rfl, ?_, ?_, ?_, ?_⟩
  · exact new_lies w1 _ d
  · have := hb1.out.size
    exact ((hb1.out.alloc this _).alloc (by rw [size_alloc]; omega) _).alloc (by rw [size_alloc, size_alloc]; omega) _
  · have := hb1.out.size
    omega
  · have := hb1.out.size
    omega
end Go.Proofs.Ytpjlefdigpejdaa.multi
