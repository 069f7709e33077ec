/-
  Acts of law16 come in: the opener.
-/
import Derived.Test.YtbomlapmoiamgaaWop
set_option linter.unusedSimpArgs false
set_option linter.unusedVariables false
namespace Go.Proofs.Ytbomlapmoiamgaa.wan
open Go.ChangeShapes Go.WideShapes Go.ChangeAt Go.RowKit
open Go.Proofs.Ytbomlapmoiamgaa.opened Go.Proofs.Ytbomlapmoiamgaa.block Go.Proofs.Ytbomlapmoiamgaa.words Go.Proofs.Ytbomlapmoiamgaa.region
theorem wf_bd {n : Int} (h : (Lit.int .i64 n).wf = true) : IntIn n := by
  have u := bounds_i64 h
  exact ⟨u.1, by omega⟩
abbrev OxT := Int × Int × Int × ByteArray × Int × Bool × Unit
def actxR : Reader OxT := consR 1 (intR .i64) (consR 1 (intR .i64) (consR 1 (intR .i64) (consR 1 (strR) (consR 1 (intR .i64) (consR 1 boolR nilR)))))
set_option maxRecDepth 100000 in
theorem opens_actx : Opens Try.prog 31 actxR :=
  opens_struct Try.underlying31 (by kernel_rfl) (by kernel_rfl) (opensFs_cons (opens_int Try.underlying3) (m := 1) (by kernel_rfl) (opensFs_cons (opens_int Try.underlying3) (m := 1) (by kernel_rfl) (opensFs_cons (opens_int Try.underlying3) (m := 1) (by kernel_rfl) (opensFs_cons (opens_str Try.underlying9) (m := 1) (by kernel_rfl) (opensFs_cons (opens_int Try.underlying3) (m := 1) (by kernel_rfl) (opensFs_cons (opens_bool Try.underlying4) (m := 1) (by kernel_rfl) opensFs_nil))))))
set_option maxRecDepth 100000 in
theorem opens_actsx : Opens Try.prog 22 (sliceR 6 56 actxR) := opens_slice Try.underlying22 (m := 6) (bytes := 56) (by kernel_rfl) (by kernel_rfl) opens_actx
def actxOf (p : OxT) : Ox := ⟨p.1, p.2.1, p.2.2.1, p.2.2.2.1.data.toList, p.2.2.2.2.1, p.2.2.2.2.2.1⟩
theorem actx_of {w : World} {cs : List Value} {p : OxT} (h : actxR w cs p) : ((actxOf p).s.length ≤ 140737488351232 ∧ IntIn (actxOf p).i) ∧ cs = (actxOf p).cells := by
  obtain ⟨⟨h0, w0⟩, ⟨h1, w1⟩, ⟨h2, w2⟩, ⟨h3, w3⟩, ⟨h4, w4⟩, h5, hz⟩ := h
  refine ⟨⟨?_, wf_bd w4⟩, ?_⟩
  · show p.2.2.2.1.data.toList.length ≤ _
    rw [Array.length_toList]
    exact w3
  · unfold nilR at hz
    unfold boolR at h5
    match cs, h0, h1, h2, h3, h4, h5, hz with
    | [c0, c1, c2, c3, c4, c5], h0, h1, h2, h3, h4, h5, _ =>
      simp at h0 h1 h2 h3 h4 h5
      subst h0 h1 h2 h3 h4 h5
      simp [Ox.cells, actxOf, sV]
theorem row_actsx {w : World} {cs : List Value} {q : Row OxT} (h : sliceR 6 56 actxR w cs q) : Actx w q.ptr (q.elems.map actxOf) ∧ q.val = .slice q.ptr (q.elems.map actxOf).length q.cap ∧ (q.elems.map actxOf).length ≤ 4611686018427387903 := by
  refine ⟨⟨?_, fun x hx => ?_⟩, by rw [row_val h, List.length_map], ?_⟩
  · have := liesN_of (f := fun a => (actxOf a).cells) (fun w cs a ha => (actx_of ha).2) (by omega) h
    unfold graph.Lg
    rw [List.map_map]
    exact this
  · obtain ⟨a, ha, rfl⟩ := List.mem_map.1 hx
    obtain ⟨cs', hcs⟩ := elem_of h a ha
    exact (actx_of hcs).1
  · have h1 := h.2.1
    have h2 := h.2.2.1
    have h3 := h.2.2.2.2.1
    rw [List.length_map]
    omega
set_option maxRecDepth 100000 in
theorem top_actsx {w : World} {r : Reach} {b : Nat} {v : Value} {q : Row OxT} (hv : Value.okWide Try.prog w r b 22 v) (h : sliceR 6 56 actxR w v.cells.toList q) :
    ∃ (A : Option Addr) (c : Nat) (L : List Ox), v = .slice A L.length c ∧ Actx w A L ∧ L.length ≤ 4611686018427387903 := by
  obtain ⟨h1, h2, h3⟩ := row_actsx h
  exact ⟨q.ptr, q.cap, _, by rw [top_slice Try.underlying22 hv h, h2], h1, h3⟩
end Go.Proofs.Ytbomlapmoiamgaa.wan
