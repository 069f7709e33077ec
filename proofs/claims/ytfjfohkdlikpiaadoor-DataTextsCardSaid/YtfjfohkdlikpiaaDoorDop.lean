/-
  A list of records that came in, as the walk wants it.
-/
import Derived.Test.YtfjfohkdlikpiaaDoorDe
namespace Go.Proofs.YtfjfohkdlikpiaaDoor.data
open Go.ChangeShapes Go.WideShapes Go.ChangeAt Go.RowKit
open Go.Proofs.YtfjfohkdlikpiaaDoor.opened Go.Proofs.YtfjfohkdlikpiaaDoor.block Go.Proofs.YtfjfohkdlikpiaaDoor.region

def rcR : Reader (Int × Int × Unit) := consR 1 (intR .i64) (consR 1 (intR .i64) nilR)
set_option maxRecDepth 100000 in
theorem opens_rc : Opens Tryd.prog 34 rcR :=
  opens_struct Tryd.underlying34 (by kernel_rfl) (by kernel_rfl) (opensFs_cons (opens_int Tryd.underlying2) (m := 1) (by kernel_rfl) (opensFs_cons (opens_int Tryd.underlying2) (m := 1) (by kernel_rfl) opensFs_nil))
set_option maxRecDepth 100000 in
theorem opens_recs : Opens Tryd.prog 22 (sliceR 2 16 rcR) := opens_slice Tryd.underlying22 (m := 2) (bytes := 16) (by kernel_rfl) (by kernel_rfl) opens_rc
def rcOf (p : Int × Int × Unit) : Rc := ⟨p.1, p.2.1⟩
theorem rc_of {w : World} {cs : List Value} {p : Int × Int × Unit} (h : rcR w cs p) : (rcOf p).In ∧ cs = cR (rcOf p) := by
  obtain ⟨⟨h0, w0⟩, ⟨h1, w1⟩, hz⟩ := h
  have u0 := bounds_i64 w0
  have u1 := bounds_i64 w1
  refine ⟨⟨⟨u0.1, by show p.1 ≤ _; omega⟩, ⟨u1.1, by show p.2.1 ≤ _; omega⟩⟩, ?_⟩
  unfold nilR at hz
  match cs, h0, h1, hz with
  | [c0, c1], h0, h1, _ =>
    simp at h0 h1
    subst h0 h1
    simp [cR, rcOf]
theorem row_rc {w : World} {cs : List Value} {q : Row (Int × Int × Unit)} (h : sliceR 2 16 rcR w cs q) : InR (q.elems.map rcOf) ∧ Lr w q.ptr (q.elems.map rcOf) ∧ q.val = .slice q.ptr (q.elems.map rcOf).length q.cap ∧ (q.elems.map rcOf).length ≤ 4611686018427387903 := by
  refine ⟨fun x hx => ?_, ?_, by rw [row_val h, List.length_map], ?_⟩
  · obtain ⟨a, ha, rfl⟩ := List.mem_map.1 hx
    obtain ⟨cs', hcs⟩ := elem_of h a ha
    exact (rc_of hcs).1
  · have := liesN_of (f := fun a => cR (rcOf a)) (fun w cs a ha => (rc_of ha).2) (by omega) h
    unfold Lr Lg
    rw [List.map_map]
    exact this
  · have h1 := h.2.1
    have h2 := h.2.2.1
    have h3 := h.2.2.2.2.1
    rw [List.length_map]
    omega
set_option maxRecDepth 100000 in
theorem top_recs {w : World} {r : Reach} {b : Nat} {v : Value} {q : Row (Int × Int × Unit)} (hv : Value.okWide Tryd.prog w r b 22 v) (h : sliceR 2 16 rcR w v.cells.toList q) :
    ∃ (A : Option Addr) (c : Nat) (L : List Rc), v = .slice A L.length c ∧ InR L ∧ Lr w A L ∧ L.length ≤ 4611686018427387903 := by
  obtain ⟨h1, h2, h3, h4⟩ := row_rc h
  exact ⟨q.ptr, q.cap, _, by rw [top_slice Tryd.underlying22 hv h, h3], h1, h2, h4⟩
end Go.Proofs.YtfjfohkdlikpiaaDoor.data
