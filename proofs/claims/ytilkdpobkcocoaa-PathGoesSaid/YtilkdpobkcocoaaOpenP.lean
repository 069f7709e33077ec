/-
  A path of the document's type that came in, as the walk wants it.
-/
import Derived.Test.YtilkdpobkcocoaaChk
import Derived.Test.YtilkdpobkcocoaaPa
namespace Go.Proofs.Ytilkdpobkcocoaa.path
open Go.ChangeShapes Go.WideShapes Go.ChangeAt Go.RowKit
open Go.Proofs.Ytilkdpobkcocoaa.tm Go.Proofs.Ytilkdpobkcocoaa.opened Go.Proofs.Ytilkdpobkcocoaa.block Go.Proofs.Ytilkdpobkcocoaa.stamp Go.Proofs.Ytilkdpobkcocoaa.pa

def pathR : Reader (Int × Int × List Int × Int × List Int × Unit) := consR 1 (intR .i64) (consR 1 (intR .i64) (consR 4 (arrR 4 1 (intR .u32)) (consR 1 (intR .i64) (consR 3 (arrR 3 1 (intR .u32)) nilR))))
set_option maxRecDepth 100000 in
theorem opens_path : Opens Try.prog 26 pathR :=
  opens_struct Try.underlying26 (by kernel_rfl) (by kernel_rfl) (opensFs_cons (opens_int Try.underlying3) (m := 1) (by kernel_rfl) (opensFs_cons (opens_int Try.underlying3) (m := 1) (by kernel_rfl) (opensFs_cons (opens_array (n := 4) (m := 1) Try.underlying23 (by kernel_rfl) (by kernel_rfl) (opens_int Try.underlying22)) (m := 4) (by kernel_rfl) (opensFs_cons (opens_int Try.underlying3) (m := 1) (by kernel_rfl) (opensFs_cons (opens_array (n := 3) (m := 1) Try.underlying24 (by kernel_rfl) (by kernel_rfl) (opens_int Try.underlying22)) (m := 3) (by kernel_rfl) opensFs_nil)))))
set_option maxRecDepth 100000 in
set_option maxHeartbeats 1000000 in
theorem path_cells {w : World} {cs : List Value} {p : Int × Int × List Int × Int × List Int × Unit} (h : pathR w cs p) : ∃ t : Pa, t.In ∧ cs = (#[.int .i64 t.f, .int .i64 t.k, .int .u32 t.p0, .int .u32 t.p1, .int .u32 t.p2, .int .u32 t.p3, .int .i64 t.u, .int .u32 t.l0, .int .u32 t.l1, .int .u32 t.l2] : Array Value).toList := by
  obtain ⟨⟨h1, w1⟩, ⟨h2, w2⟩, ⟨l1, l2, h3⟩, ⟨h4, w4⟩, ⟨m1, m2, h5⟩, h6⟩ := h
  obtain ⟨f, k, l, u, m, z⟩ := p
  dsimp only at *
  match l, l2, m, m2 with
  | [x0, x1, x2, x3], _, [y0, y1, y2], _ =>
    obtain ⟨k0, v0⟩ := h3 0 x0 rfl
    obtain ⟨k1, v1⟩ := h3 1 x1 rfl
    obtain ⟨k2, v2⟩ := h3 2 x2 rfl
    obtain ⟨k3, v3⟩ := h3 3 x3 rfl
    obtain ⟨j0, u0⟩ := h5 0 y0 rfl
    obtain ⟨j1, u1⟩ := h5 1 y1 rfl
    obtain ⟨j2, u2⟩ := h5 2 y2 rfl
    obtain ⟨a0, a1⟩ := bounds_i64 w1
    obtain ⟨a2, a3⟩ := bounds_i64 w2
    obtain ⟨a4, a5⟩ := bounds_u32 v0
    obtain ⟨a6, a7⟩ := bounds_u32 v1
    obtain ⟨a8, a9⟩ := bounds_u32 v2
    obtain ⟨b0, b1⟩ := bounds_u32 v3
    obtain ⟨b2, b3⟩ := bounds_i64 w4
    obtain ⟨b4, b5⟩ := bounds_u32 u0
    obtain ⟨b6, b7⟩ := bounds_u32 u1
    obtain ⟨b8, b9⟩ := bounds_u32 u2
    refine ⟨⟨f, k, x0, x1, x2, x3, u, y0, y1, y2⟩, ⟨a0, a1, a2, a3, a4, by omega, a6, by omega, a8, by omega, b0, by omega, b2, b3, b4, by omega, b6, by omega, b8, by omega⟩, ?_⟩
    unfold nilR at h6
    match cs, h1 with
    | c0 :: cs, h1 =>
      simp at h1
      subst h1
      match cs, h2 with
      | c1 :: cs, h2 =>
        simp at h2
        subst h2
        match cs, k0, k1, k2, k3, h4, l1, j0, j1, j2, h6, m1 with
        | [c2, c3, c4, c5, c6, c7, c8, c9], k0, k1, k2, k3, h4, _, j0, j1, j2, _, _ =>
          simp at k0 k1 k2 k3 h4 j0 j1 j2
          subst k0; subst k1; subst k2; subst k3; subst h4; subst j0; subst j1; subst j2
          rfl
set_option maxRecDepth 100000 in
theorem top_path {w : World} {r : Reach} {b : Nat} {v : Value} {p : Int × Int × List Int × Int × List Int × Unit} (hv : Value.okWide Try.prog w r b 26 v) (h : pathR w v.cells.toList p) : ∃ t : Pa, t.In ∧ v = .agg #[.int .i64 t.f, .int .i64 t.k, .int .u32 t.p0, .int .u32 t.p1, .int .u32 t.p2, .int .u32 t.p3, .int .i64 t.u, .int .u32 t.l0, .int .u32 t.l1, .int .u32 t.l2] := by
  obtain ⟨t, i, ht⟩ := path_cells h
  refine ⟨t, i, ?_⟩
  rw [top_struct Try.underlying26 hv]
  congr 1
  exact Array.toList_inj.1 ht
end Go.Proofs.Ytilkdpobkcocoaa.path
