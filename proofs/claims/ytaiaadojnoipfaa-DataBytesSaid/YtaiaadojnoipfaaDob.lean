/-
  A batch that came in, as the walk wants it.
-/
import Derived.Test.YtaiaadojnoipfaaDop
import Derived.Test.YtaiaadojnoipfaaOpenT
import Derived.Test.YtaiaadojnoipfaaDto
namespace Go.Proofs.Ytaiaadojnoipfaa.data
open Go.ChangeShapes Go.WideShapes Go.ChangeAt Go.RowKit
open Go.Proofs.Ytaiaadojnoipfaa.tm Go.Proofs.Ytaiaadojnoipfaa.opened Go.Proofs.Ytaiaadojnoipfaa.block Go.Proofs.Ytaiaadojnoipfaa.region Go.Proofs.Ytaiaadojnoipfaa.stamp

def btR : Reader (Int × (Int × Int × List Int × Unit) × Row (Int × Int × Unit) × Unit) := consR 1 (intR .i64) (consR 5 timeR (consR 1 (sliceR 2 16 rcR) nilR))
set_option maxRecDepth 100000 in
theorem opens_bt : Opens Try.prog 37 btR :=
  opens_struct Try.underlying37 (by kernel_rfl) (by kernel_rfl) (opensFs_cons (opens_int Try.underlying3) (m := 1) (by kernel_rfl) (opensFs_cons opens_time (m := 5) (by kernel_rfl) (opensFs_cons opens_recs (m := 1) (by kernel_rfl) opensFs_nil)))
set_option maxRecDepth 100000 in
theorem top_bt {w : World} {r : Reach} {b : Nat} {v : Value} {q : Int × (Int × Int × List Int × Unit) × Row (Int × Int × Unit) × Unit} (hv : Value.okWide Try.prog w r b 37 v) (h : btR w v.cells.toList q) :
    ∃ (l : Int) (t : Tm) (A : Option Addr) (c : Nat) (L : List Rc), v = .agg (bt l t A L.length c) ∧ (-9223372036854775808 ≤ l ∧ l ≤ 9223372036854775807) ∧ t.In ∧ InR L ∧ Lr w A L := by
  have hs := top_struct Try.underlying37 hv
  obtain ⟨⟨h0, w0⟩, h1, h2, h3⟩ := h
  obtain ⟨t, it, ht⟩ := time_cells h1
  obtain ⟨i1, i2, i3, -⟩ := row_rc h2
  have u0 := bounds_i64 w0
  have hc := h2.1
  unfold nilR at h3
  refine ⟨q.1, t, q.2.2.1.ptr, q.2.2.1.cap, _, ?_, ⟨u0.1, by omega⟩, it, i1, i2⟩
  rw [hs]
  have e : v.cells.toList = (bt q.1 t q.2.2.1.ptr (q.2.2.1.elems.map rcOf).length q.2.2.1.cap).toList := by
    rw [← List.take_append_drop 1 v.cells.toList, h0, ← List.take_append_drop 5 (v.cells.toList.drop 1), ht, ← List.take_append_drop 1 ((v.cells.toList.drop 1).drop 5), hc, h3, i3]
    rfl
  have e2 := congrArg List.toArray e
  rw [Array.toArray_toList, Array.toArray_toList] at e2
  rw [e2]
end Go.Proofs.Ytaiaadojnoipfaa.data
