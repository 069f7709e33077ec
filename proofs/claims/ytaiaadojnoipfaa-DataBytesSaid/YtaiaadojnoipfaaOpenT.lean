/-
  A time that came in, as the walk wants it.
-/
import Derived.Test.YtaiaadojnoipfaaChk
namespace Go.Proofs.Ytaiaadojnoipfaa.stamp
open Go.ChangeShapes Go.WideShapes Go.ChangeAt Go.RowKit
open Go.Proofs.Ytaiaadojnoipfaa.tm Go.Proofs.Ytaiaadojnoipfaa.opened Go.Proofs.Ytaiaadojnoipfaa.block

def timeR : Reader (Int × Int × List Int × Unit) := consR 1 (intR .u32) (consR 1 (intR .i64) (consR 3 (arrR 3 1 (intR .u32)) nilR))
set_option maxRecDepth 100000 in
theorem opens_time : Opens Try.prog 35 timeR :=
  opens_struct Try.underlying35 (by kernel_rfl) (by kernel_rfl) (opensFs_cons (opens_int Try.underlying32) (m := 1) (by kernel_rfl) (opensFs_cons (opens_int Try.underlying3) (m := 1) (by kernel_rfl) (opensFs_cons (opens_array (n := 3) (m := 1) Try.underlying33 (by kernel_rfl) (by kernel_rfl) (opens_int Try.underlying32)) (m := 3) (by kernel_rfl) opensFs_nil)))
set_option maxRecDepth 100000 in
theorem time_cells {w : World} {cs : List Value} {p : Int × Int × List Int × Unit} (h : timeR w cs p) : ∃ t : Tm, t.In ∧ cs = #[.int .u32 t.e, .int .i64 t.d, .int .u32 t.a, .int .u32 t.b, .int .u32 t.c].toList := by
  obtain ⟨⟨h1, w1⟩, ⟨h2, w2⟩, ⟨l1, l2, h3⟩, h4⟩ := h
  obtain ⟨e, d, l, u⟩ := p
  dsimp only at *
  match l, l2 with
  | [x, y, z], _ =>
    obtain ⟨k0, v0⟩ := h3 0 x rfl
    obtain ⟨k1, v1⟩ := h3 1 y rfl
    obtain ⟨k2, v2⟩ := h3 2 z rfl
    obtain ⟨a0, a1⟩ := bounds_u32 w1
    obtain ⟨a2, a3⟩ := bounds_i64 w2
    obtain ⟨a4, a5⟩ := bounds_u32 v0
    obtain ⟨a6, a7⟩ := bounds_u32 v1
    obtain ⟨a8, a9⟩ := bounds_u32 v2
    refine ⟨⟨e, d, x, y, z⟩, ⟨a0, by omega, a2, a3, a4, by omega, a6, by omega, a8, by omega⟩, ?_⟩
    unfold nilR at h4
    match cs, h1 with
    | c0 :: cs, h1 =>
      simp at h1
      subst h1
      match cs, h2 with
      | c1 :: cs, h2 =>
        simp at h2
        subst h2
        match cs, k0, k1, k2, h4, l1 with
        | [c2, c3, c4], k0, k1, k2, _, _ => simp at k0 k1 k2; subst k0; subst k1; subst k2; rfl
set_option maxRecDepth 100000 in
theorem top_time {w : World} {r : Reach} {b : Nat} {v : Value} {p : Int × Int × List Int × Unit} (hv : Value.okWide Try.prog w r b 35 v) (h : timeR w v.cells.toList p) : ∃ t : Tm, t.In ∧ v = .agg #[.int .u32 t.e, .int .i64 t.d, .int .u32 t.a, .int .u32 t.b, .int .u32 t.c] := by
  obtain ⟨t, i, ht⟩ := time_cells h
  refine ⟨t, i, ?_⟩
  rw [top_struct Try.underlying35 hv]
  congr 1
  exact Array.toList_inj.1 ht
end Go.Proofs.Ytaiaadojnoipfaa.stamp
