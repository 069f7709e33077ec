/-
  The contract of path.Compare.
-/
import Derived.Test.YtilkdpobkcocoaaKn
import Derived.Test.YtilkdpobkcocoaaCmpL
import Derived.Deep.RegionWith
import Derived.Deep.RegionHeld3
import Derived.Deep.QuietTactic
import Derived.BigQuiet
namespace Go.Proofs.Ytilkdpobkcocoaa.path
open Go.ChangeShapes Go.WideShapes Go.ChangeAt Go.RowKit
open Go.Proofs.Ytilkdpobkcocoaa.tm Go.Proofs.Ytilkdpobkcocoaa.opened Go.Proofs.Ytilkdpobkcocoaa.block Go.Proofs.Ytilkdpobkcocoaa.stamp Go.Proofs.Ytilkdpobkcocoaa.pa

theorem cmpL4 (a0 a1 a2 a3 b0 b1 b2 b3 : Int) (g k : Nat) (w : World) (p0 : w.cell? ⟨g, 2, none⟩ = some (.int .u32 a0)) (p1 : w.cell? ⟨g, 3, none⟩ = some (.int .u32 a1)) (p2 : w.cell? ⟨g, 4, none⟩ = some (.int .u32 a2)) (p3 : w.cell? ⟨g, 5, none⟩ = some (.int .u32 a3)) (q0 : w.cell? ⟨k, 2, none⟩ = some (.int .u32 b0)) (q1 : w.cell? ⟨k, 3, none⟩ = some (.int .u32 b1)) (q2 : w.cell? ⟨k, 4, none⟩ = some (.int .u32 b2)) (q3 : w.cell? ⟨k, 5, none⟩ = some (.int .u32 b3)) :
    Calls Try.prog 51 #[.slice (some ⟨g, 2, none⟩) 4 4, .slice (some ⟨k, 2, none⟩) 4 4] w fun e w' => e = .returned (.int .i64 (orI ((cmpI a0 b0)) (orI ((cmpI a1 b1)) (orI ((cmpI a2 b2)) ((cmpI a3 b3)))))) ∧ w = w' := by
  generalize h0 : cmpI a0 b0 = v0
  generalize h1 : cmpI a1 b1 = v1
  generalize h2 : cmpI a2 b2 = v2
  generalize h3 : cmpI a3 b3 = v3
  have H0 := Lib.hid h0
  have H1 := Lib.hid h1
  have H2 := Lib.hid h2
  have H3 := Lib.hid h3
  clear h0 h1 h2 h3
  generalize hC : orI v0 (orI v1 (orI v2 (v3))) = C
  have HC := Lib.hid hC
  clear hC
  go_enter Try.func51, Try.ntmps51
  go_wp2
  refine wp_loop_rounds 5 ?_
  rw [rounds_succ]
  go_wp2_with (go_at_call 73; refine (cmp_is _ _ H0.out _).mono ?_; rintro e w' ⟨rfl, rfl⟩)
  all_goals try (rw [rounds_succ]; go_wp2_with (go_at_call 73; refine (cmp_is _ _ H1.out _).mono ?_; rintro e w' ⟨rfl, rfl⟩))
  all_goals try (rw [rounds_succ]; go_wp2_with (go_at_call 73; refine (cmp_is _ _ H2.out _).mono ?_; rintro e w' ⟨rfl, rfl⟩))
  all_goals try (rw [rounds_succ]; go_wp2_with (go_at_call 73; refine (cmp_is _ _ H3.out _).mono ?_; rintro e w' ⟨rfl, rfl⟩))
  all_goals try (rw [rounds_succ]; go_wp2)
  all_goals go_ret
  all_goals refine ⟨ret_i64 ?_, rfl⟩
  all_goals rw [← HC.out]
  all_goals first | (have y := nz ‹(v0 != 0) = true›; simp [orI, y]) | (have z0 := ze ‹(v0 != 0) = false›; have y := nz ‹(v1 != 0) = true›; simp [orI, z0, y]) | (have z0 := ze ‹(v0 != 0) = false›; have z1 := ze ‹(v1 != 0) = false›; have y := nz ‹(v2 != 0) = true›; simp [orI, z0, z1, y]) | (have z0 := ze ‹(v0 != 0) = false›; have z1 := ze ‹(v1 != 0) = false›; have z2 := ze ‹(v2 != 0) = false›; have y := nz ‹(v3 != 0) = true›; simp [orI, z0, z1, z2]) | (have z0 := ze ‹(v0 != 0) = false›; have z1 := ze ‹(v1 != 0) = false›; have z2 := ze ‹(v2 != 0) = false›; have z3 := ze ‹(v3 != 0) = false›; simp [orI, z0, z1, z2, z3])
theorem cmpL3 (a0 a1 a2 b0 b1 b2 : Int) (g k : Nat) (w : World) (p0 : w.cell? ⟨g, 7, none⟩ = some (.int .u32 a0)) (p1 : w.cell? ⟨g, 8, none⟩ = some (.int .u32 a1)) (p2 : w.cell? ⟨g, 9, none⟩ = some (.int .u32 a2)) (q0 : w.cell? ⟨k, 7, none⟩ = some (.int .u32 b0)) (q1 : w.cell? ⟨k, 8, none⟩ = some (.int .u32 b1)) (q2 : w.cell? ⟨k, 9, none⟩ = some (.int .u32 b2)) :
    Calls Try.prog 51 #[.slice (some ⟨g, 7, none⟩) 3 3, .slice (some ⟨k, 7, none⟩) 3 3] w fun e w' => e = .returned (.int .i64 (orI ((cmpI a0 b0)) (orI ((cmpI a1 b1)) ((cmpI a2 b2))))) ∧ w = w' := by
  generalize h0 : cmpI a0 b0 = v0
  generalize h1 : cmpI a1 b1 = v1
  generalize h2 : cmpI a2 b2 = v2
  have H0 := Lib.hid h0
  have H1 := Lib.hid h1
  have H2 := Lib.hid h2
  clear h0 h1 h2
  generalize hC : orI v0 (orI v1 (v2)) = C
  have HC := Lib.hid hC
  clear hC
  go_enter Try.func51, Try.ntmps51
  go_wp2
  refine wp_loop_rounds 4 ?_
  rw [rounds_succ]
  go_wp2_with (go_at_call 73; refine (cmp_is _ _ H0.out _).mono ?_; rintro e w' ⟨rfl, rfl⟩)
  all_goals try (rw [rounds_succ]; go_wp2_with (go_at_call 73; refine (cmp_is _ _ H1.out _).mono ?_; rintro e w' ⟨rfl, rfl⟩))
  all_goals try (rw [rounds_succ]; go_wp2_with (go_at_call 73; refine (cmp_is _ _ H2.out _).mono ?_; rintro e w' ⟨rfl, rfl⟩))
  all_goals try (rw [rounds_succ]; go_wp2)
  all_goals go_ret
  all_goals refine ⟨ret_i64 ?_, rfl⟩
  all_goals rw [← HC.out]
  all_goals first | (have y := nz ‹(v0 != 0) = true›; simp [orI, y]) | (have z0 := ze ‹(v0 != 0) = false›; have y := nz ‹(v1 != 0) = true›; simp [orI, z0, y]) | (have z0 := ze ‹(v0 != 0) = false›; have z1 := ze ‹(v1 != 0) = false›; have y := nz ‹(v2 != 0) = true›; simp [orI, z0, z1]) | (have z0 := ze ‹(v0 != 0) = false›; have z1 := ze ‹(v1 != 0) = false›; have z2 := ze ‹(v2 != 0) = false›; simp [orI, z0, z1, z2])
theorem or5 (v0 v1 v2 v3 v4 : Int) (g : Nat) (w : World) (c0 : w.cell? ⟨g, 0, none⟩ = some (.int .i64 v0)) (c1 : w.cell? ⟨g, 1, none⟩ = some (.int .i64 v1)) (c2 : w.cell? ⟨g, 2, none⟩ = some (.int .i64 v2)) (c3 : w.cell? ⟨g, 3, none⟩ = some (.int .i64 v3)) (c4 : w.cell? ⟨g, 4, none⟩ = some (.int .i64 v4)) :
    Calls Try.prog 49 #[.slice (some ⟨g, 0, none⟩) 5 5] w fun e w' => e = .returned (.int .i64 (orI v0 (orI v1 (orI v2 (orI v3 (v4)))))) ∧ w = w' := by
  generalize hC : orI v0 (orI v1 (orI v2 (orI v3 (v4)))) = C
  have HC := Lib.hid hC
  clear hC
  go_enter Try.func49, Try.ntmps49
  go_wp2
  refine wp_loop_rounds 6 ?_
  rw [rounds_succ]
  go_wp2
  all_goals try (rw [rounds_succ]; go_wp2)
  all_goals try (rw [rounds_succ]; go_wp2)
  all_goals try (rw [rounds_succ]; go_wp2)
  all_goals try (rw [rounds_succ]; go_wp2)
  all_goals try (rw [rounds_succ]; go_wp2)
  all_goals go_ret
  all_goals refine ⟨ret_i64 ?_, rfl⟩
  all_goals rw [← HC.out]
  all_goals first | (have y := nz ‹(v0 != 0) = true›; simp [orI, y]) | (have z0 := ze ‹(v0 != 0) = false›; have y := nz ‹(v1 != 0) = true›; simp [orI, z0, y]) | (have z0 := ze ‹(v0 != 0) = false›; have z1 := ze ‹(v1 != 0) = false›; have y := nz ‹(v2 != 0) = true›; simp [orI, z0, z1, y]) | (have z0 := ze ‹(v0 != 0) = false›; have z1 := ze ‹(v1 != 0) = false›; have z2 := ze ‹(v2 != 0) = false›; have y := nz ‹(v3 != 0) = true›; simp [orI, z0, z1, z2, y]) | (have z0 := ze ‹(v0 != 0) = false›; have z1 := ze ‹(v1 != 0) = false›; have z2 := ze ‹(v2 != 0) = false›; have z3 := ze ‹(v3 != 0) = false›; have y := nz ‹(v4 != 0) = true›; simp [orI, z0, z1, z2, z3]) | (have z0 := ze ‹(v0 != 0) = false›; have z1 := ze ‹(v1 != 0) = false›; have z2 := ze ‹(v2 != 0) = false›; have z3 := ze ‹(v3 != 0) = false›; have z4 := ze ‹(v4 != 0) = false›; simp [orI, z0, z1, z2, z3, z4])
theorem or5_new (v0 v1 v2 v3 v4 : Int) {W : World} {g : Nat} (hg : W.heap.size = g) :
    Calls Try.prog 49 #[.slice (some ⟨g, 0, none⟩) 5 5] ((W.alloc (.cells #[.int .i64 v0, .int .i64 v1, .int .i64 v2, .int .i64 v3, .int .i64 v4] 3)).drew) fun e w' => e = .returned (.int .i64 (orI v0 (orI v1 (orI v2 (orI v3 (v4)))))) ∧ ((W.alloc (.cells #[.int .i64 v0, .int .i64 v1, .int .i64 v2, .int .i64 v3, .int .i64 v4] 3)).drew) = w' := by
  subst hg
  have h := Whole.fresh W 3 #[.int .i64 v0, .int .i64 v1, .int .i64 v2, .int .i64 v3, .int .i64 v4]
  exact or5 v0 v1 v2 v3 v4 W.heap.size _ (h.read 0) (h.read 1) (h.read 2) (h.read 3) (h.read 4)
set_option maxHeartbeats 2000000 in
theorem cmpP_any (p q : Pa) (w : World) : Calls Try.prog 19 #[.agg #[.int .i64 p.f, .int .i64 p.k, .int .u32 p.p0, .int .u32 p.p1, .int .u32 p.p2, .int .u32 p.p3, .int .i64 p.u, .int .u32 p.l0, .int .u32 p.l1, .int .u32 p.l2], .agg #[.int .i64 q.f, .int .i64 q.k, .int .u32 q.p0, .int .u32 q.p1, .int .u32 q.p2, .int .u32 q.p3, .int .i64 q.u, .int .u32 q.l0, .int .u32 q.l1, .int .u32 q.l2]] w fun e w' => e = .returned (.int .i64 (cmpP p q)) ∧ Below w.heap.size w w' := by
  go_enter Try.func19, Try.ntmps19
  go_wp2_with (fail)
  go_region_held3 (fun w' => w'.cell? ⟨w.heap.size, 0, none⟩ = some (.int .i64 p.f) ∧ w'.cell? ⟨w.heap.size, 1, none⟩ = some (.int .i64 p.k) ∧ w'.cell? ⟨w.heap.size, 2, none⟩ = some (.int .u32 p.p0) ∧ w'.cell? ⟨w.heap.size, 3, none⟩ = some (.int .u32 p.p1) ∧ w'.cell? ⟨w.heap.size, 4, none⟩ = some (.int .u32 p.p2) ∧ w'.cell? ⟨w.heap.size, 5, none⟩ = some (.int .u32 p.p3) ∧ w'.cell? ⟨w.heap.size, 6, none⟩ = some (.int .i64 p.u) ∧ w'.cell? ⟨w.heap.size, 7, none⟩ = some (.int .u32 p.l0) ∧ w'.cell? ⟨w.heap.size, 8, none⟩ = some (.int .u32 p.l1) ∧ w'.cell? ⟨w.heap.size, 9, none⟩ = some (.int .u32 p.l2) ∧ w'.cell? ⟨w.heap.size + 1, 0, none⟩ = some (.int .i64 q.f) ∧ w'.cell? ⟨w.heap.size + 1, 1, none⟩ = some (.int .i64 q.k) ∧ w'.cell? ⟨w.heap.size + 1, 2, none⟩ = some (.int .u32 q.p0) ∧ w'.cell? ⟨w.heap.size + 1, 3, none⟩ = some (.int .u32 q.p1) ∧ w'.cell? ⟨w.heap.size + 1, 4, none⟩ = some (.int .u32 q.p2) ∧ w'.cell? ⟨w.heap.size + 1, 5, none⟩ = some (.int .u32 q.p3) ∧ w'.cell? ⟨w.heap.size + 1, 6, none⟩ = some (.int .i64 q.u) ∧ w'.cell? ⟨w.heap.size + 1, 7, none⟩ = some (.int .u32 q.l0) ∧ w'.cell? ⟨w.heap.size + 1, 8, none⟩ = some (.int .u32 q.l1) ∧ w'.cell? ⟨w.heap.size + 1, 9, none⟩ = some (.int .u32 q.l2))
    (go_keep)
    (first | (go_at_call 50; refine (cmp_i64 _ _ _).mono ?_; rintro e w' ⟨rfl, rfl⟩) | (go_at_call 51; (with_reducible refine (cmpL4 p.p0 p.p1 p.p2 p.p3 q.p0 q.p1 q.p2 q.p3 _ _ _ ?_ ?_ ?_ ?_ ?_ ?_ ?_ ?_).mono ?_) <;> first | (rintro e w2 ⟨rfl, rfl⟩) | (go_split_ands; assumption)) | (go_at_call 51; (with_reducible refine (cmpL3 p.l0 p.l1 p.l2 q.l0 q.l1 q.l2 _ _ _ ?_ ?_ ?_ ?_ ?_ ?_).mono ?_) <;> first | (rintro e w2 ⟨rfl, rfl⟩) | (go_split_ands; assumption)) | (go_at_call 49; refine (or5_new _ _ _ _ _ ?_).mono ?_; (simp); rintro e w2 ⟨rfl, rfl⟩))
  all_goals go_wp2
  all_goals go_ret
  all_goals exact ⟨rfl, below_drewN ((fresh2 _ _ _).alloc (by simp; omega) _) 1⟩
end Go.Proofs.Ytilkdpobkcocoaa.path
