/-
  The contract of stamp.Compare once more: the world behind it, as the sort wants it.
-/
import Derived.Test.YtpjlefdigpejdaaLay
import Derived.Test.YtpjlefdigpejdaaHd
import Derived.Test.YtpjlefdigpejdaaCmp
import Derived.Deep.RegionWith
import Derived.Deep.RegionHeld3
namespace Go.Proofs.Ytpjlefdigpejdaa.stamp
open Go.ChangeShapes Go.WideShapes Go.ChangeAt Go.RowKit Go.Shelf Go.Lib Go.Sort
open Go.Proofs.Ytpjlefdigpejdaa.tm Go.Proofs.Ytpjlefdigpejdaa.opened Go.Proofs.Ytpjlefdigpejdaa.block

theorem compare_sameG (t : Tm) (_i : t.In) (w : World) : Calls Try.prog 76 #[.agg #[.int .u32 t.e, .int .i64 t.d, .int .u32 t.a, .int .u32 t.b, .int .u32 t.c], .agg #[.int .u32 t.e, .int .i64 t.d, .int .u32 t.a, .int .u32 t.b, .int .u32 t.c]] w fun e w' => e = .returned (.int .i64 0) ∧ ∃ q os', w' = grow (w.drewN q) os' := by
  have he := run_eq_yes t
  go_enter Try.func76, Try.ntmps76
  go_wp2_with (fail)
  go_ret
  exact ⟨rfl, 0, _, by rw [alloc_eq_grow, alloc_eq_grow, grow_grow]; rfl⟩
set_option maxHeartbeats 1000000 in
theorem compare_restG (s t : Tm) (_i : s.In) (_j : t.In) (h : s ≠ t) (w : World) : Calls Try.prog 76 #[.agg #[.int .u32 s.e, .int .i64 s.d, .int .u32 s.a, .int .u32 s.b, .int .u32 s.c], .agg #[.int .u32 t.e, .int .i64 t.d, .int .u32 t.a, .int .u32 t.b, .int .u32 t.c]] w fun e w' => e = .returned (.int .i64 (cmpT s t)) ∧ ∃ q os', w' = grow (w.drewN q) os' := by
  have he := run_eq_no h
  go_enter Try.func76, Try.ntmps76
  go_wp2_with (fail)
  clear he
  go_region_held3 (fun w' => w'.cell? ⟨w.heap.size, 0, none⟩ = some (.int .u32 s.e) ∧ w'.cell? ⟨w.heap.size, 1, none⟩ = some (.int .i64 s.d) ∧ w'.cell? ⟨w.heap.size, 2, none⟩ = some (.int .u32 s.a) ∧ w'.cell? ⟨w.heap.size, 3, none⟩ = some (.int .u32 s.b) ∧ w'.cell? ⟨w.heap.size, 4, none⟩ = some (.int .u32 s.c) ∧ w'.cell? ⟨w.heap.size + 1, 0, none⟩ = some (.int .u32 t.e) ∧ w'.cell? ⟨w.heap.size + 1, 1, none⟩ = some (.int .i64 t.d) ∧ w'.cell? ⟨w.heap.size + 1, 2, none⟩ = some (.int .u32 t.a) ∧ w'.cell? ⟨w.heap.size + 1, 3, none⟩ = some (.int .u32 t.b) ∧ w'.cell? ⟨w.heap.size + 1, 4, none⟩ = some (.int .u32 t.c))
    (go_keep)
    (first | (go_at_call 104; refine (cmp_i64 _ _ _).mono ?_; rintro e w' ⟨rfl, rfl⟩) | (go_at_call 105; refine (cmp_u32 _ _ _).mono ?_; rintro e w' ⟨rfl, rfl⟩) | (go_at_call 106; refine (cmp3_any s.a s.b s.c t.a t.b t.c _ _ _ ?_ ?_ ?_ ?_ ?_ ?_).mono ?_ <;> first | (rintro e w2 ⟨rfl, rfl⟩) | (go_split_ands; assumption)) | (go_at_call 103; refine (or_new _ _ _ ?_).mono ?_; (simp); rintro e w2 ⟨rfl, rfl⟩))
  all_goals go_wp2
  all_goals go_ret
  all_goals exact ⟨rfl, 1, _, by rw [alloc_eq_grow, alloc_eq_grow, alloc_eq_grow, grow_grow, grow_grow]; rfl⟩
theorem compare_grown (s t : Tm) (i : s.In) (j : t.In) (w : World) : Calls Try.prog 76 #[.agg #[.int .u32 s.e, .int .i64 s.d, .int .u32 s.a, .int .u32 s.b, .int .u32 s.c], .agg #[.int .u32 t.e, .int .i64 t.d, .int .u32 t.a, .int .u32 t.b, .int .u32 t.c]] w fun e w' => e = .returned (.int .i64 (cmpT s t)) ∧ ∃ q os', w' = grow (w.drewN q) os' := by
  by_cases h : s = t
  · subst h
    rw [cmpT_self]
    exact compare_sameG s i w
  · exact compare_restG s t i j h w
end Go.Proofs.Ytpjlefdigpejdaa.stamp
