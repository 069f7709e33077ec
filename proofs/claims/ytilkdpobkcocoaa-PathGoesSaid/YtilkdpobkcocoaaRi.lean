/-
  The contracts of path.Rises, path.LE, path.Compare.
-/
import Derived.Test.YtilkdpobkcocoaaAp2
import Derived.Test.YtilkdpobkcocoaaEqP
import Derived.Test.YtilkdpobkcocoaaCmpL
import Derived.Deep.RegionWith
import Derived.Deep.RegionHeld3
namespace Go.Proofs.Ytilkdpobkcocoaa.path
open Go.ChangeShapes Go.WideShapes Go.ChangeAt Go.RowKit
open Go.Proofs.Ytilkdpobkcocoaa.tm Go.Proofs.Ytilkdpobkcocoaa.opened Go.Proofs.Ytilkdpobkcocoaa.block Go.Proofs.Ytilkdpobkcocoaa.stamp Go.Proofs.Ytilkdpobkcocoaa.pa

theorem run_neq4 (x0 x1 x2 x3 : Int) (w : World) : (binOp .neq 23 (.agg #[.int .u32 x0, .int .u32 x1, .int .u32 x2, .int .u32 x3]) (.agg #[.int .u32 0, .int .u32 0, .int .u32 0, .int .u32 0])).run Try.prog w = .ok (.bool (!(x0 == 0 && (x1 == 0 && (x2 == 0 && x3 == 0))))) w := by
  rw [run_neq_struct, run_eq4 9998]
  rfl
theorem rises_bad (p : Pa) (i : p.In) (h : chkP p ≠ 0) (w : World) : Calls Try.prog 44 #[.agg #[.int .i64 p.f, .int .i64 p.k, .int .u32 p.p0, .int .u32 p.p1, .int .u32 p.p2, .int .u32 p.p3, .int .i64 p.u, .int .u32 p.l0, .int .u32 p.l1, .int .u32 p.l2]] w fun e w' => e = .returned (.bool false) ∧ Below w.heap.size w w' := by
  have C := Lib.hid (chkP_any p i)
  generalize chkP p = E at C h
  have hE : (E == 0) = false := by simpa using h
  clear h i
  have h0 := Whole.fresh w 32 #[.int .i64 p.f, .int .i64 p.k, .int .u32 p.p0, .int .u32 p.p1, .int .u32 p.p2, .int .u32 p.p3, .int .i64 p.u, .int .u32 p.l0, .int .u32 p.l1, .int .u32 p.l2]
  go_enter Try.func44, Try.ntmps44
  go_wp2_with fail
  have hB := fresh1 w (.cells #[.int .i64 p.f, .int .i64 p.k, .int .u32 p.p0, .int .u32 p.p1, .int .u32 p.p2, .int .u32 p.p3, .int .i64 p.u, .int .u32 p.l0, .int .u32 p.l1, .int .u32 p.l2] 32)
  generalize w.alloc (.cells #[.int .i64 p.f, .int .i64 p.k, .int .u32 p.p0, .int .u32 p.p1, .int .u32 p.p2, .int .u32 p.p3, .int .i64 p.u, .int .u32 p.l0, .int .u32 p.l1, .int .u32 p.l2] 32) = W at h0 hB ⊢
  have c1 : ∀ (x : Since W) (i : Nat), x.1.cell? ⟨w.heap.size, i, none⟩ = #[.int .i64 p.f, .int .i64 p.k, .int .u32 p.p0, .int .u32 p.p1, .int .u32 p.p2, .int .u32 p.p3, .int .i64 p.u, .int .u32 p.l0, .int .u32 p.l1, .int .u32 p.l2][i]? := fun x i => (h0.below x.2 h0.inside).read i
  refine region_since W (by kernel_rfl) (by kernel_rfl) (Below.refl _ _) ?_
  repeat (go_big_quiet_step ((go_at_call 15; with_reducible exact since_call C.out _)))
  refine wpQuiet_nil ?_
  rintro w4 ⟨x, hw⟩
  have b4 : Below w.heap.size w w4 := hB.trans ((hw ▸ x.2).mono hB.size)
  clear hw x c1
  go_wp2_with fail
  go_ret
  exact ⟨rfl, b4⟩
theorem rises_good (p : Pa) (i : p.In) (h : chkP p = 0) (w : World) : Calls Try.prog 44 #[.agg #[.int .i64 p.f, .int .i64 p.k, .int .u32 p.p0, .int .u32 p.p1, .int .u32 p.p2, .int .u32 p.p3, .int .i64 p.u, .int .u32 p.l0, .int .u32 p.l1, .int .u32 p.l2]] w fun e w' => e = .returned (.bool (risesB p)) ∧ Below w.heap.size w w' := by
  have C := Lib.hid (chkP_any p i)
  have D := Lib.hid (to_any' p i)
  have a := chkP_open h
  rw [h] at C
  rw [show toV p = p.k + p.u by unfold toV; rw [if_pos h]] at D
  generalize hr : risesB p = r
  have HR := Lib.hid hr
  have Z := Lib.hid h
  have u0 := a.1.2.2.2.2.1
  have k0 := a.1.2.2.1
  have k1 := a.1.2.2.2.1
  clear hr h i a
  have h0 := Whole.fresh w 32 #[.int .i64 p.f, .int .i64 p.k, .int .u32 p.p0, .int .u32 p.p1, .int .u32 p.p2, .int .u32 p.p3, .int .i64 p.u, .int .u32 p.l0, .int .u32 p.l1, .int .u32 p.l2]
  have hn := run_neq4 p.p0 p.p1 p.p2 p.p3
  generalize hs : p.k + p.u = s at D
  generalize hv : (!(p.p0 == 0 && (p.p1 == 0 && (p.p2 == 0 && p.p3 == 0)))) = v at hn
  have HV := Lib.hid hv
  clear hv
  by_cases e1 : s = p.f
  · have q1 : (s == p.f) = true := by simp [e1]
    have HS := Lib.hid (hs.trans e1)
    clear hs e1
    by_cases e2 : p.k = p.f
    · have q2 : (p.k == p.f) = true := by simp [e2]
      have HK := Lib.hid e2
      clear e2 u0 k0 k1
      go_enter Try.func44, Try.ntmps44
      go_wp2_with fail
      have hB := fresh1 w (.cells #[.int .i64 p.f, .int .i64 p.k, .int .u32 p.p0, .int .u32 p.p1, .int .u32 p.p2, .int .u32 p.p3, .int .i64 p.u, .int .u32 p.l0, .int .u32 p.l1, .int .u32 p.l2] 32)
      generalize w.alloc (.cells #[.int .i64 p.f, .int .i64 p.k, .int .u32 p.p0, .int .u32 p.p1, .int .u32 p.p2, .int .u32 p.p3, .int .i64 p.u, .int .u32 p.l0, .int .u32 p.l1, .int .u32 p.l2] 32) = W at h0 hB ⊢
      have c1 : ∀ (x : Since W) (i : Nat), x.1.cell? ⟨w.heap.size, i, none⟩ = #[.int .i64 p.f, .int .i64 p.k, .int .u32 p.p0, .int .u32 p.p1, .int .u32 p.p2, .int .u32 p.p3, .int .i64 p.u, .int .u32 p.l0, .int .u32 p.l1, .int .u32 p.l2][i]? := fun x i => (h0.below x.2 h0.inside).read i
      refine region_since W (by kernel_rfl) (by kernel_rfl) (Below.refl _ _) ?_
      repeat (go_big_quiet_step ((first | (go_at_call 15; with_reducible exact since_call C.out _) | (go_at_call 17; with_reducible exact since_call D.out _))))
      refine wpQuiet_nil ?_
      rintro w4 ⟨x, hw⟩
      have b4 : Below w.heap.size w w4 := hB.trans ((hw ▸ x.2).mono hB.size)
      clear hw x c1 hn
      go_wp2_with fail
      go_ret
      refine ⟨ret_bool ?_, b4⟩
      rw [← HR.out, ← HV.out]
      have a := HS.out
      have b := HK.out
      have z := Z.out
      have hu : p.u = 0 := by omega
      unfold risesB
      rw [Bool.eq_iff_iff, decide_eq_true_iff]
      simp only [Bool.not_eq_true', Bool.and_eq_false_iff, beq_eq_false_iff_ne, ne_eq]
      constructor
      · intro h
        exact ⟨z, b, hu, by omega⟩
      · rintro ⟨-, -, -, h⟩
        omega
    · have q2 : (p.k == p.f) = false := by simp [e2]
      have hf : risesB p = false := by unfold risesB; exact decide_eq_false (fun h => e2 h.2.1)
      rw [HR.out] at hf
      subst hf
      clear e2 u0 k0 k1
      go_enter Try.func44, Try.ntmps44
      go_wp2_with fail
      have hB := fresh1 w (.cells #[.int .i64 p.f, .int .i64 p.k, .int .u32 p.p0, .int .u32 p.p1, .int .u32 p.p2, .int .u32 p.p3, .int .i64 p.u, .int .u32 p.l0, .int .u32 p.l1, .int .u32 p.l2] 32)
      generalize w.alloc (.cells #[.int .i64 p.f, .int .i64 p.k, .int .u32 p.p0, .int .u32 p.p1, .int .u32 p.p2, .int .u32 p.p3, .int .i64 p.u, .int .u32 p.l0, .int .u32 p.l1, .int .u32 p.l2] 32) = W at h0 hB ⊢
      have c1 : ∀ (x : Since W) (i : Nat), x.1.cell? ⟨w.heap.size, i, none⟩ = #[.int .i64 p.f, .int .i64 p.k, .int .u32 p.p0, .int .u32 p.p1, .int .u32 p.p2, .int .u32 p.p3, .int .i64 p.u, .int .u32 p.l0, .int .u32 p.l1, .int .u32 p.l2][i]? := fun x i => (h0.below x.2 h0.inside).read i
      refine region_since W (by kernel_rfl) (by kernel_rfl) (Below.refl _ _) ?_
      repeat (go_big_quiet_step ((first | (go_at_call 15; with_reducible exact since_call C.out _) | (go_at_call 17; with_reducible exact since_call D.out _))))
      refine wpQuiet_nil ?_
      rintro w4 ⟨x, hw⟩
      have b4 : Below w.heap.size w w4 := hB.trans ((hw ▸ x.2).mono hB.size)
      clear hw x c1 hn
      go_wp2_with fail
      go_ret
      exact ⟨rfl, b4⟩
  · have q1 : (s == p.f) = false := by simp [e1]
    have hf : risesB p = false := by unfold risesB; exact decide_eq_false (fun h => e1 (by rw [← hs, h.2.1, h.2.2.1]; omega))
    rw [HR.out] at hf
    subst hf
    clear hs e1 u0 k0 k1
    go_enter Try.func44, Try.ntmps44
    go_wp2_with fail
    have hB := fresh1 w (.cells #[.int .i64 p.f, .int .i64 p.k, .int .u32 p.p0, .int .u32 p.p1, .int .u32 p.p2, .int .u32 p.p3, .int .i64 p.u, .int .u32 p.l0, .int .u32 p.l1, .int .u32 p.l2] 32)
    generalize w.alloc (.cells #[.int .i64 p.f, .int .i64 p.k, .int .u32 p.p0, .int .u32 p.p1, .int .u32 p.p2, .int .u32 p.p3, .int .i64 p.u, .int .u32 p.l0, .int .u32 p.l1, .int .u32 p.l2] 32) = W at h0 hB ⊢
    have c1 : ∀ (x : Since W) (i : Nat), x.1.cell? ⟨w.heap.size, i, none⟩ = #[.int .i64 p.f, .int .i64 p.k, .int .u32 p.p0, .int .u32 p.p1, .int .u32 p.p2, .int .u32 p.p3, .int .i64 p.u, .int .u32 p.l0, .int .u32 p.l1, .int .u32 p.l2][i]? := fun x i => (h0.below x.2 h0.inside).read i
    refine region_since W (by kernel_rfl) (by kernel_rfl) (Below.refl _ _) ?_
    repeat (go_big_quiet_step ((first | (go_at_call 15; with_reducible exact since_call C.out _) | (go_at_call 17; with_reducible exact since_call D.out _))))
    refine wpQuiet_nil ?_
    rintro w4 ⟨x, hw⟩
    have b4 : Below w.heap.size w w4 := hB.trans ((hw ▸ x.2).mono hB.size)
    clear hw x c1 hn
    go_wp2_with fail
    go_ret
    exact ⟨rfl, b4⟩
theorem rises_any (p : Pa) (i : p.In) (w : World) : Calls Try.prog 44 #[.agg #[.int .i64 p.f, .int .i64 p.k, .int .u32 p.p0, .int .u32 p.p1, .int .u32 p.p2, .int .u32 p.p3, .int .i64 p.u, .int .u32 p.l0, .int .u32 p.l1, .int .u32 p.l2]] w fun e w' => e = .returned (.bool (risesB p)) ∧ Below w.heap.size w w' := by
  by_cases h : chkP p = 0
  · exact rises_good p i h w
  · rw [show risesB p = false by unfold risesB; exact decide_eq_false (fun k => h k.1)]
    exact rises_bad p i h w
end Go.Proofs.Ytilkdpobkcocoaa.path
