/-
  What law17's functions are given: rows of numbers, of acts and of what a link does; a frame.
-/
import Derived.Test.YtbomlapmoiamgaaHp1
set_option linter.unusedSimpArgs false
set_option linter.unusedVariables false
namespace Go.Proofs.Ytbomlapmoiamgaa.hop
open Go.ChangeShapes Go.WideShapes Go.ChangeAt Go.RowKit
open Go.Proofs.Ytbomlapmoiamgaa.opened Go.Proofs.Ytbomlapmoiamgaa.block Go.Proofs.Ytbomlapmoiamgaa.words Go.Proofs.Ytbomlapmoiamgaa.region
theorem wf_bd {n : Int} (h : (Lit.int .i64 n).wf = true) : IntIn n := by
  have u := bounds_i64 h
  exact ⟨u.1, by omega⟩
theorem ints_of {w : World} {cs : List Value} {r : Row Int} (h : sliceR 1 8 (intR .i64) w cs r) : cs = [.slice r.ptr r.elems.length r.cap] ∧ (∀ x ∈ r.elems, IntIn x) ∧ r.elems.length ≤ 140737488351232 ∧ Lies w r.ptr (r.elems.map (Value.int .i64)) := by
  refine ⟨by rw [← row_val h]; exact h.1, fun x hx => ?_, ?_, lies_of (f := Value.int .i64) (fun _ _ _ ha => ha.1) h⟩
  · obtain ⟨cs', hcs⟩ := elem_of h x hx
    exact wf_bd hcs.2
  · have h1 := h.2.1
    have h2 := h.2.2.1
    have h3 := h.2.2.2.2.1
    omega
structure Oh where
  k : Int
  s : Bs
  e : Int
  n : Int
def Oh.cells (o : Oh) : List Value := [.int .i64 o.k, sV o.s, .int .i64 o.e, .int .i64 o.n]
def Oh.In (o : Oh) : Prop := IntIn o.k ∧ o.s.length ≤ 140737488351232 ∧ IntIn o.e ∧ IntIn o.n
abbrev acthT := Int × ByteArray × Int × Int × Unit
def acthR : Reader acthT := consR 1 (intR .i64) (consR 1 (strR) (consR 1 (intR .i64) (consR 1 (intR .i64) (nilR))))
set_option maxRecDepth 100000 in
theorem opens_acth : Opens Try.prog 63 acthR :=
  opens_struct Try.underlying63 (by kernel_rfl) (by kernel_rfl) (opensFs_cons (opens_int Try.underlying3) (m := 1) (by kernel_rfl) (opensFs_cons (opens_str Try.underlying9) (m := 1) (by kernel_rfl) (opensFs_cons (opens_int Try.underlying3) (m := 1) (by kernel_rfl) (opensFs_cons (opens_int Try.underlying3) (m := 1) (by kernel_rfl) opensFs_nil))))
def acthOf (p : acthT) : Oh := ⟨p.1, p.2.1.data.toList, p.2.2.1, p.2.2.2.1⟩
theorem acth_of {w : World} {cs : List Value} {p : acthT} (h : acthR w cs p) : (acthOf p).In ∧ cs = (acthOf p).cells := by
  obtain ⟨⟨h0, w0⟩, ⟨h1, w1⟩, ⟨h2, w2⟩, ⟨h3, w3⟩, hz⟩ := h
  refine ⟨⟨wf_bd w0, (by show p.2.1.data.toList.length ≤ _; rw [Array.length_toList]; exact w1), wf_bd w2, wf_bd w3⟩, ?_⟩
  · unfold nilR at hz
    match cs, h0, h1, h2, h3, hz with
    | [c0, c1, c2, c3], h0, h1, h2, h3, _ =>
      simp at h0 h1 h2 h3
      subst h0 h1 h2 h3
      simp [Oh.cells, acthOf, sV]
set_option maxRecDepth 100000 in
theorem opens_acths : Opens Try.prog 55 (sliceR 4 40 acthR) := opens_slice Try.underlying55 (m := 4) (bytes := 40) (by kernel_rfl) (by kernel_rfl) opens_acth
def acthRow (w : World) (A : Option Addr) (L : List Oh) : Prop := graph.Lg 4 Oh.cells w A L ∧ ∀ o ∈ L, o.In
theorem row_acths {w : World} {cs : List Value} {q : Row acthT} (h : sliceR 4 40 acthR w cs q) : acthRow w q.ptr (q.elems.map acthOf) ∧ q.val = .slice q.ptr (q.elems.map acthOf).length q.cap ∧ (q.elems.map acthOf).length ≤ 4611686018427387903 := by
  refine ⟨⟨?_, fun x hx => ?_⟩, by rw [row_val h, List.length_map], ?_⟩
  · have := liesN_of (f := fun a => (acthOf a).cells) (fun w cs a ha => (acth_of ha).2) (by omega) h
    unfold graph.Lg
    rw [List.map_map]
    exact this
  · obtain ⟨a, ha, rfl⟩ := List.mem_map.1 hx
    obtain ⟨cs', hcs⟩ := elem_of h a ha
    exact (acth_of hcs).1
  · have h1 := h.2.1
    have h2 := h.2.2.1
    have h3 := h.2.2.2.2.1
    rw [List.length_map]
    omega
set_option maxRecDepth 100000 in
theorem top_acths {w : World} {r : Reach} {b : Nat} {v : Value} {q : Row acthT} (hv : Value.okWide Try.prog w r b 55 v) (h : sliceR 4 40 acthR w v.cells.toList q) :
    ∃ (A : Option Addr) (c : Nat) (L : List Oh), v = .slice A L.length c ∧ acthRow w A L ∧ L.length ≤ 4611686018427387903 := by
  obtain ⟨h1, h2, h3⟩ := row_acths h
  exact ⟨q.ptr, q.cap, _, by rw [top_slice Try.underlying55 hv h, h2], h1, h3⟩
structure Lk where
  k : Int
  i : Int
def Lk.cells (o : Lk) : List Value := [.int .i64 o.k, .int .i64 o.i]
def Lk.In (o : Lk) : Prop := IntIn o.k ∧ IntIn o.i
abbrev lnkT := Int × Int × Unit
def lnkR : Reader lnkT := consR 1 (intR .i64) (consR 1 (intR .i64) (nilR))
set_option maxRecDepth 100000 in
theorem opens_lnk : Opens Try.prog 83 lnkR :=
  opens_struct Try.underlying83 (by kernel_rfl) (by kernel_rfl) (opensFs_cons (opens_int Try.underlying3) (m := 1) (by kernel_rfl) (opensFs_cons (opens_int Try.underlying3) (m := 1) (by kernel_rfl) opensFs_nil))
def lnkOf (p : lnkT) : Lk := ⟨p.1, p.2.1⟩
theorem lnk_of {w : World} {cs : List Value} {p : lnkT} (h : lnkR w cs p) : (lnkOf p).In ∧ cs = (lnkOf p).cells := by
  obtain ⟨⟨h0, w0⟩, ⟨h1, w1⟩, hz⟩ := h
  refine ⟨⟨wf_bd w0, wf_bd w1⟩, ?_⟩
  · unfold nilR at hz
    match cs, h0, h1, hz with
    | [c0, c1], h0, h1, _ =>
      simp at h0 h1
      subst h0 h1
      simp [Lk.cells, lnkOf, sV]
set_option maxRecDepth 100000 in
theorem opens_lnks : Opens Try.prog 77 (sliceR 2 16 lnkR) := opens_slice Try.underlying77 (m := 2) (bytes := 16) (by kernel_rfl) (by kernel_rfl) opens_lnk
def lnkRow (w : World) (A : Option Addr) (L : List Lk) : Prop := graph.Lg 2 Lk.cells w A L ∧ ∀ o ∈ L, o.In
theorem row_lnks {w : World} {cs : List Value} {q : Row lnkT} (h : sliceR 2 16 lnkR w cs q) : lnkRow w q.ptr (q.elems.map lnkOf) ∧ q.val = .slice q.ptr (q.elems.map lnkOf).length q.cap ∧ (q.elems.map lnkOf).length ≤ 4611686018427387903 := by
  refine ⟨⟨?_, fun x hx => ?_⟩, by rw [row_val h, List.length_map], ?_⟩
  · have := liesN_of (f := fun a => (lnkOf a).cells) (fun w cs a ha => (lnk_of ha).2) (by omega) h
    unfold graph.Lg
    rw [List.map_map]
    exact this
  · obtain ⟨a, ha, rfl⟩ := List.mem_map.1 hx
    obtain ⟨cs', hcs⟩ := elem_of h a ha
    exact (lnk_of hcs).1
  · have h1 := h.2.1
    have h2 := h.2.2.1
    have h3 := h.2.2.2.2.1
    rw [List.length_map]
    omega
set_option maxRecDepth 100000 in
theorem top_lnks {w : World} {r : Reach} {b : Nat} {v : Value} {q : Row lnkT} (hv : Value.okWide Try.prog w r b 77 v) (h : sliceR 2 16 lnkR w v.cells.toList q) :
    ∃ (A : Option Addr) (c : Nat) (L : List Lk), v = .slice A L.length c ∧ lnkRow w A L ∧ L.length ≤ 4611686018427387903 := by
  obtain ⟨h1, h2, h3⟩ := row_lnks h
  exact ⟨q.ptr, q.cap, _, by rw [top_slice Try.underlying77 hv h, h2], h1, h3⟩
structure Fm where
  k : Int
  f : Int
  e : Int
  n : Int
  s : Bs
def Fm.cells (o : Fm) : List Value := [.int .i64 o.k, .int .i64 o.f, .int .i64 o.e, .int .i64 o.n, sV o.s]
def Fm.In (o : Fm) : Prop := IntIn o.k ∧ IntIn o.f ∧ IntIn o.e ∧ IntIn o.n ∧ o.s.length ≤ 140737488351232
abbrev fraT := Int × Int × Int × Int × ByteArray × Unit
def fraR : Reader fraT := consR 1 (intR .i64) (consR 1 (intR .i64) (consR 1 (intR .i64) (consR 1 (intR .i64) (consR 1 (strR) (nilR)))))
def fraOf (p : fraT) : Fm := ⟨p.1, p.2.1, p.2.2.1, p.2.2.2.1, p.2.2.2.2.1.data.toList⟩
theorem fra_of {w : World} {cs : List Value} {p : fraT} (h : fraR w cs p) : (fraOf p).In ∧ cs = (fraOf p).cells := by
  obtain ⟨⟨h0, w0⟩, ⟨h1, w1⟩, ⟨h2, w2⟩, ⟨h3, w3⟩, ⟨h4, w4⟩, hz⟩ := h
  refine ⟨⟨wf_bd w0, wf_bd w1, wf_bd w2, wf_bd w3, (by show p.2.2.2.2.1.data.toList.length ≤ _; rw [Array.length_toList]; exact w4)⟩, ?_⟩
  · unfold nilR at hz
    match cs, h0, h1, h2, h3, h4, hz with
    | [c0, c1, c2, c3, c4], h0, h1, h2, h3, h4, _ =>
      simp at h0 h1 h2 h3 h4
      subst h0 h1 h2 h3 h4
      simp [Fm.cells, fraOf, sV]
end Go.Proofs.Ytbomlapmoiamgaa.hop
