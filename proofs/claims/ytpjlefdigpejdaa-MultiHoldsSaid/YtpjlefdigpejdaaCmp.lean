/-
  The contracts of stamp.Compare and of watershedref04.Compare, at any two times.
-/
import Derived.Test.YtpjlefdigpejdaaCmpL
import Derived.Test.YtpjlefdigpejdaaEq
import Derived.Deep.RegionWith
import Derived.Deep.RegionHeld3
namespace Go.Proofs.Ytpjlefdigpejdaa.stamp
open Go.ChangeShapes Go.WideShapes Go.ChangeAt Go.RowKit
open Go.Proofs.Ytpjlefdigpejdaa.tm Go.Proofs.Ytpjlefdigpejdaa.opened Go.Proofs.Ytpjlefdigpejdaa.block

theorem run_eq_yes (t : Tm) (w : World) : (binOp .eql 33 (.agg #[.int .u32 t.e, .int .i64 t.d, .int .u32 t.a, .int .u32 t.b, .int .u32 t.c]) (.agg #[.int .u32 t.e, .int .i64 t.d, .int .u32 t.a, .int .u32 t.b, .int .u32 t.c])).run Try.prog w = .ok (.bool true) w := by rw [run_eqT, eqT_self]
theorem run_eq_no {s t : Tm} (h : s ≠ t) (w : World) : (binOp .eql 33 (.agg #[.int .u32 s.e, .int .i64 s.d, .int .u32 s.a, .int .u32 s.b, .int .u32 s.c]) (.agg #[.int .u32 t.e, .int .i64 t.d, .int .u32 t.a, .int .u32 t.b, .int .u32 t.c])).run Try.prog w = .ok (.bool false) w := by rw [run_eqT, eqT_no h]
theorem compare_same (t : Tm) (_i : t.In) (w : World) : Calls Try.prog 76 #[.agg #[.int .u32 t.e, .int .i64 t.d, .int .u32 t.a, .int .u32 t.b, .int .u32 t.c], .agg #[.int .u32 t.e, .int .i64 t.d, .int .u32 t.a, .int .u32 t.b, .int .u32 t.c]] w fun e w' => e = .returned (.int .i64 0) ∧ Below w.heap.size w w' := by
  have he := run_eq_yes t
  go_enter Try.func76, Try.ntmps76
  go_wp2_with (fail)
  go_ret
  exact ⟨rfl, fresh2 _ _ _⟩
theorem or_new (p q r : Int) {W : World} {g : Nat} (hg : W.heap.size = g) :
    Calls Try.prog 103 #[.slice (some ⟨g, 0, none⟩) 3 3] ((W.alloc (.cells #[.int .i64 p, .int .i64 q, .int .i64 r] 3)).drew) fun e w' => e = .returned (.int .i64 (orI p (orI q r))) ∧ ((W.alloc (.cells #[.int .i64 p, .int .i64 q, .int .i64 r] 3)).drew) = w' := by
  subst hg
  have h := Whole.fresh W 3 #[.int .i64 p, .int .i64 q, .int .i64 r]
  exact or_any p q r W.heap.size _ (h.read 0) (h.read 1) (h.read 2)
set_option maxHeartbeats 1000000 in
theorem compare_rest (s t : Tm) (_i : s.In) (_j : t.In) (h : s ≠ t) (w : World) : Calls Try.prog 76 #[.agg #[.int .u32 s.e, .int .i64 s.d, .int .u32 s.a, .int .u32 s.b, .int .u32 s.c], .agg #[.int .u32 t.e, .int .i64 t.d, .int .u32 t.a, .int .u32 t.b, .int .u32 t.c]] w fun e w' => e = .returned (.int .i64 (cmpT s t)) ∧ Below w.heap.size w w' := by
  have he := run_eq_no h
  go_enter Try.func76, Try.ntmps76
  go_wp2_with (fail)
  clear he
  go_region_held3 (fun w' => w'.cell? ⟨w.heap.size, 0, none⟩ = some (.int .u32 s.e) ∧ w'.cell? ⟨w.heap.size, 1, none⟩ = some (.int .i64 s.d) ∧ w'.cell? ⟨w.heap.size, 2, none⟩ = some (.int .u32 s.a) ∧ w'.cell? ⟨w.heap.size, 3, none⟩ = some (.int .u32 s.b) ∧ w'.cell? ⟨w.heap.size, 4, none⟩ = some (.int .u32 s.c) ∧ w'.cell? ⟨w.heap.size + 1, 0, none⟩ = some (.int .u32 t.e) ∧ w'.cell? ⟨w.heap.size + 1, 1, none⟩ = some (.int .i64 t.d) ∧ w'.cell? ⟨w.heap.size + 1, 2, none⟩ = some (.int .u32 t.a) ∧ w'.cell? ⟨w.heap.size + 1, 3, none⟩ = some (.int .u32 t.b) ∧ w'.cell? ⟨w.heap.size + 1, 4, none⟩ = some (.int .u32 t.c))
    (go_keep)
    (first | (go_at_call 104; refine (cmp_i64 _ _ _).mono ?_; rintro e w' ⟨rfl, rfl⟩) | (go_at_call 105; refine (cmp_u32 _ _ _).mono ?_; rintro e w' ⟨rfl, rfl⟩) | (go_at_call 106; refine (cmp3_any s.a s.b s.c t.a t.b t.c _ _ _ ?_ ?_ ?_ ?_ ?_ ?_).mono ?_ <;> first | (rintro e w2 ⟨rfl, rfl⟩) | (go_split_ands; assumption)) | (go_at_call 103; refine (or_new _ _ _ ?_).mono ?_; (simp); rintro e w2 ⟨rfl, rfl⟩))
  all_goals go_wp2
  all_goals go_ret
  all_goals exact ⟨rfl, below_drewN ((fresh2 _ _ _).alloc (by simp; omega) _) 1⟩
theorem compare_any (s t : Tm) (i : s.In) (j : t.In) (w : World) : Calls Try.prog 76 #[.agg #[.int .u32 s.e, .int .i64 s.d, .int .u32 s.a, .int .u32 s.b, .int .u32 s.c], .agg #[.int .u32 t.e, .int .i64 t.d, .int .u32 t.a, .int .u32 t.b, .int .u32 t.c]] w fun e w' => e = .returned (.int .i64 (cmpT s t)) ∧ Below w.heap.size w w' := by
  by_cases h : s = t
  · subst h
    rw [cmpT_self]
    exact compare_same s i w
  · exact compare_rest s t i j h w
end Go.Proofs.Ytpjlefdigpejdaa.stamp
