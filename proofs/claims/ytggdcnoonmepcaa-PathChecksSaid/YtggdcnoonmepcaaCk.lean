/-
  Of any two paths: what the program's Check, To, Rises, LE and Compare answer is what the document's own functions answer; no condition.
-/
import Derived.Test.YtggdcnoonmepcaaLeR
import Derived.Test.YtggdcnoonmepcaaCmR
import Derived.Test.YtggdcnoonmepcaaCm
import Derived.Test.YtggdcnoonmepcaaRi
import Derived.Test.YtggdcnoonmepcaaConv
import Derived.Test.YtggdcnoonmepcaaOpenP
namespace Go.Proofs.Ytggdcnoonmepcaa.pathChecks
open Go.ChangeShapes Go.WideShapes Go.ChangeAt Go.RowKit
open Go.Proofs.Ytggdcnoonmepcaa.tm Go.Proofs.Ytggdcnoonmepcaa.opened Go.Proofs.Ytggdcnoonmepcaa.block Go.Proofs.Ytggdcnoonmepcaa.stamp Go.Proofs.Ytggdcnoonmepcaa.pa Go.Proofs.Ytggdcnoonmepcaa.path

set_option maxRecDepth 100000 in
set_option maxHeartbeats 2000000 in
theorem walk (p q : Pa) (i : p.In) (j : q.In) (w : World) : Calls Try.prog 4 #[.agg #[.int .i64 p.f, .int .i64 p.k, .int .u32 p.p0, .int .u32 p.p1, .int .u32 p.p2, .int .u32 p.p3, .int .i64 p.u, .int .u32 p.l0, .int .u32 p.l1, .int .u32 p.l2], .agg #[.int .i64 q.f, .int .i64 q.k, .int .u32 q.p0, .int .u32 q.p1, .int .u32 q.p2, .int .u32 q.p3, .int .i64 q.u, .int .u32 q.l0, .int .u32 q.l1, .int .u32 q.l2]] w fun e w' => e = .returned (.bool true) ∧ Below w.heap.size w w' := by
  have A1 := Lib.hid (chkP_any p i)
  have A2 := Lib.hid (chkPR_any p i)
  have B1 := Lib.hid (to_any' p i)
  have B2 := Lib.hid (toR_any p i)
  have C1 := Lib.hid (rises_any p i)
  have C2 := Lib.hid (risesR_any p i)
  have D1 := Lib.hid (lep_any p q i j)
  have D2 := Lib.hid (lepR_any p q i j)
  have E1 := Lib.hid (cmpP_any p q)
  have E2 := Lib.hid (cmpPR_any p q i j)
  generalize chkP p = a at A1 A2
  generalize toV p = b at B1 B2
  generalize risesB p = c at C1 C2
  generalize lePB p q = d at D1 D2
  generalize cmpP p q = x at E1 E2
  have T1 := Lib.hid (to_any p)
  have T2 := Lib.hid (to_any q)
  clear i j
  have h0 := PQ.fresh w 30 p q
  go_enter Try.func4, Try.ntmps4
  go_wp2_with fail
  generalize (w.alloc (.cells #[.int .i64 p.f, .int .i64 p.k, .int .u32 p.p0, .int .u32 p.p1, .int .u32 p.p2, .int .u32 p.p3, .int .i64 p.u, .int .u32 p.l0, .int .u32 p.l1, .int .u32 p.l2] 30)).alloc (.cells #[.int .i64 q.f, .int .i64 q.k, .int .u32 q.p0, .int .u32 q.p1, .int .u32 q.p2, .int .u32 q.p3, .int .i64 q.u, .int .u32 q.l0, .int .u32 q.l1, .int .u32 q.l2] 30) = W at h0 ⊢
  generalize w.heap.size = g at h0 ⊢
  obtain ⟨c1, c2⟩ := h0.since
  refine region_since W (by kernel_rfl) (by kernel_rfl) (Below.refl _ _) ?_
  repeat (go_big_quiet_step ((first | (go_at_call 23; first | (with_reducible exact since_call T1.out _) | (with_reducible exact since_call T2.out _)) | (go_at_call 22; with_reducible exact since_call A1.out _) | (go_at_call 24; with_reducible exact since_call A2.out _) | (go_at_call 25; with_reducible exact since_call B1.out _) | (go_at_call 26; with_reducible exact since_call B2.out _) | (go_at_call 27; with_reducible exact since_call C1.out _) | (go_at_call 28; with_reducible exact since_call C2.out _) | (go_at_call 29; with_reducible exact since_call D1.out _) | (go_at_call 30; with_reducible exact since_call D2.out _) | (go_at_call 31; with_reducible exact since_call E1.out _) | (go_at_call 32; with_reducible exact since_call E2.out _))))
  refine wpQuiet_nil ?_
  rintro w2 ⟨y, hw⟩
  have H := h0.below (hw ▸ y.2)
  clear hw y c1 c2 h0 W
  go_wp2_with fail
  go_ret
  exact ⟨rfl, H.old⟩
theorem told (W : World) (args : Array Value) (h : Fed Try.prog W [30, 30] args) : Calls Try.prog 4 args W fun e W' => e = .returned (.bool true) ∧ Below W.heap.size W W' := by
  obtain ⟨v0, v1, rfl⟩ := args2 h.count
  obtain ⟨⟨_, o0⟩, r0⟩ := h.each 0 30 v0 rfl rfl
  obtain ⟨⟨_, o1⟩, r1⟩ := h.each 1 30 v1 rfl rfl
  obtain ⟨a0, q0⟩ := r0 opens_path
  obtain ⟨t0, i0, rfl⟩ := top_path o0 q0
  obtain ⟨a1, q1⟩ := r1 opens_path
  obtain ⟨t1, i1, rfl⟩ := top_path o1 q1
  exact walk t0 t1 i0 i1 W

/-! ### The row -/
theorem own : ownKnob Try.prog.godebug = none := by kernel_rfl
theorem laidOut : laidOutB Try.prog = true := by kernel_rfl
set_option maxRecDepth 100000 in
theorem lifted (os : Os) (started : os.Started) (H : Type) (enc : TypeId × Value → H) :
    ReturnsInHanded {} Try.checked os 4 .any (Rows.pathChecksSpec.pre6 enc Try.prog Try.f4 Rows.pathChecksRow.domain false) (Rows.pathChecksSpec.post enc Try.prog Try.f4 false true false false) :=
  lift (C := Try.checked) (fn := Try.f4) (tb := 4) (ts := [30, 30]) own started (by kernel_rfl) Try.func4 laidOut (by kernel_rfl) (by kernel_rfl) (by kernel_rfl) Try.underlying4 rfl
    (fun ds h => by
      match ds, h with
      | [_, _], _ => rfl)
    (ChangeSpec.witness6 (enc := enc) (C := Try.checked) false ⟨#[], #[.agg #[.int .i64 0, .int .i64 0, .int .u32 0, .int .u32 0, .int .u32 0, .int .u32 0, .int .i64 0, .int .u32 0, .int .u32 0, .int .u32 0], .agg #[.int .i64 0, .int .i64 0, .int .u32 0, .int .u32 0, .int .u32 0, .int .u32 0, .int .i64 0, .int .u32 0, .int .u32 0, .int .u32 0]], []⟩ 8 (by kernel_rfl) (by kernel_rfl) (by kernel_rfl) (by kernel_rfl)) told

theorem over : Rows.pathChecksRow.holds Try.pinned (OpenSpec.ofChange Rows.pathChecksSpec) :=
  OpenClaim.holds_of_wide 4 Try.f4 rfl rfl rfl rfl rfl rfl rfl ⟨rfl, rfl, rfl, rfl, rfl⟩ rfl rfl rfl rfl rfl (by kernel_rfl) Try.func4 (by kernel_rfl)
    (of_decide_eq_true (by kernel_rfl)) (by unfold Func.isWrapper; first | (rw [if_pos (by decide +kernel)]; kernel_rfl) | (rw [if_neg (by decide +kernel)]; exact ⟨rfl, rfl⟩))
    (fun os started H enc _ => lifted os started H enc)

theorem proved : Rows.PathChecksSaid := over
#print axioms proved
end Go.Proofs.Ytggdcnoonmepcaa.pathChecks
