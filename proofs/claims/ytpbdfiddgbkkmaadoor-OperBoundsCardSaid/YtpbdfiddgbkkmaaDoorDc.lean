/-
  The order of records: cmp.Compare, cmp.Or, data.compare, watershedref11.less.
-/
import Derived.Test.YtpbdfiddgbkkmaaDoorDe
import Derived.Deep.QuietTactic
import Derived.BigQuiet
import Derived.WalkKit
import Derived.Deep.RegionWith
import Derived.Deep.RegionHeld3
import Derived.Lib.AppendIntMem
import Derived.Sort.Grow
namespace Go.Proofs.YtpbdfiddgbkkmaaDoor.data
open Go.ChangeShapes Go.WideShapes Go.ChangeAt Go.RowKit Go.Lib Go.Sort
open Go.Proofs.YtpbdfiddgbkkmaaDoor.tm Go.Proofs.YtpbdfiddgbkkmaaDoor.opened Go.Proofs.YtpbdfiddgbkkmaaDoor.block Go.Proofs.YtpbdfiddgbkkmaaDoor.region

theorem nz {x : Int} (h : (x != 0) = true) : x ≠ 0 := by simpa using h
theorem ze {x : Int} (h : (x != 0) = false) : x = 0 := by simpa using h
theorem ret_i64 {a b : Int} (h : a = b) : Ending.returned (.int .i64 a) = .returned (.int .i64 b) := by rw [h]
theorem cmp_l64 (x y : Int) (w : World) : Calls Tryd.prog 41 #[.int .i64 x, .int .i64 y] w fun e w' => e = .returned (.int .i64 (cmpI x y)) ∧ w = w' := by
  by_cases h : x < y
  · rw [show cmpI x y = -1 by simp [cmpI, h]]
    go_enter Tryd.func41, Tryd.ntmps41
    go_wp2
    go_ret
    exact ⟨rfl, rfl⟩
  · by_cases k : y < x
    · rw [show cmpI x y = 1 by simp [cmpI, h, k]]
      go_enter Tryd.func41, Tryd.ntmps41
      go_wp2
      go_ret
      exact ⟨rfl, rfl⟩
    · rw [show cmpI x y = 0 by simp [cmpI, h, k]]
      go_enter Tryd.func41, Tryd.ntmps41
      go_wp2
      go_ret
      exact ⟨rfl, rfl⟩
theorem or_two (p q : Int) (g : Nat) (w : World) (c0 : w.cell? ⟨g, 0, none⟩ = some (.int .i64 p)) (c1 : w.cell? ⟨g, 1, none⟩ = some (.int .i64 q)) :
    Calls Tryd.prog 40 #[.slice (some ⟨g, 0, none⟩) 2 2] w fun e w' => e = .returned (.int .i64 (orI p q)) ∧ w = w' := by
  generalize hC : orI p q = C
  have HC := Lib.hid hC
  clear hC
  go_enter Tryd.func40, Tryd.ntmps40
  go_wp2
  refine wp_loop_rounds 3 ?_
  rw [rounds_succ]
  go_wp2
  all_goals try (rw [rounds_succ]; go_wp2)
  all_goals try (rw [rounds_succ]; go_wp2)
  all_goals go_ret
  all_goals refine ⟨ret_i64 ?_, rfl⟩
  all_goals rw [← HC.out]
  all_goals first | (have z := nz ‹(p != 0) = true›; simp [orI, z]) | (have y := ze ‹(p != 0) = false›; have z := nz ‹(q != 0) = true›; simp [orI, y]) | (have y := ze ‹(p != 0) = false›; have x := ze ‹(q != 0) = false›; simp [orI, y, x])
theorem or_new2 (p q : Int) {W : World} {g : Nat} (hg : W.heap.size = g) :
    Calls Tryd.prog 40 #[.slice (some ⟨g, 0, none⟩) 2 2] ((W.alloc (.cells #[.int .i64 p, .int .i64 q] 3)).drew) fun e w' => e = .returned (.int .i64 (orI p q)) ∧ ((W.alloc (.cells #[.int .i64 p, .int .i64 q] 3)).drew) = w' := by
  subst hg
  have h := Whole.fresh W 3 #[.int .i64 p, .int .i64 q]
  exact or_two p q W.heap.size _ (h.read 0) (h.read 1)
set_option maxHeartbeats 1000000 in
theorem compare_grown (s t : Rc) (w : World) : Calls Tryd.prog 28 #[.agg #[.int .i64 s.k, .int .i64 s.v], .agg #[.int .i64 t.k, .int .i64 t.v]] w fun e w' => e = .returned (.int .i64 (cmpR s t)) ∧ ∃ q os', w' = grow (w.drewN q) os' := by
  go_enter Tryd.func28, Tryd.ntmps28
  go_wp2_with (fail)
  go_region_held3 (fun w' => w'.cell? ⟨w.heap.size, 0, none⟩ = some (.int .i64 s.k) ∧ w'.cell? ⟨w.heap.size, 1, none⟩ = some (.int .i64 s.v) ∧ w'.cell? ⟨w.heap.size + 1, 0, none⟩ = some (.int .i64 t.k) ∧ w'.cell? ⟨w.heap.size + 1, 1, none⟩ = some (.int .i64 t.v))
    (go_keep)
    (first | (go_at_call 41; refine (cmp_l64 _ _ _).mono ?_; rintro e w' ⟨rfl, rfl⟩) | (go_at_call 40; refine (or_new2 _ _ ?_).mono ?_; (simp); rintro e w2 ⟨rfl, rfl⟩))
  all_goals go_wp2
  all_goals go_ret
  all_goals exact ⟨rfl, 1, _, by rw [alloc_eq_grow, alloc_eq_grow, alloc_eq_grow, grow_grow, grow_grow]; rfl⟩
end Go.Proofs.YtpbdfiddgbkkmaaDoor.data
