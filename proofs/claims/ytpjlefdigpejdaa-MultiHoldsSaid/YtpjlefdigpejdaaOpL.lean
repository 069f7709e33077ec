/-
  A slice of times that came in; calls over slices in a region that draws its order.
-/
import Derived.Test.YtpjlefdigpejdaaHoR
namespace Go.Proofs.Ytpjlefdigpejdaa.chain
open Go.ChangeShapes Go.WideShapes Go.ChangeAt Go.RowKit
open Go.Proofs.Ytpjlefdigpejdaa.tm Go.Proofs.Ytpjlefdigpejdaa.opened Go.Proofs.Ytpjlefdigpejdaa.block Go.Proofs.Ytpjlefdigpejdaa.stamp

theorem opens_times : Opens Try.prog 37 (sliceR 5 32 timeR) := opens_slice Try.underlying37 (m := 5) (bytes := 32) (by kernel_rfl) (by kernel_rfl) opens_time
def tmOf (p : Int × Int × List Int × Unit) : Tm := ⟨p.1, p.2.1, p.2.2.1.getD 0 0, p.2.2.1.getD 1 0, p.2.2.1.getD 2 0⟩
theorem time_of {w : World} {cs : List Value} {p : Int × Int × List Int × Unit} (h : timeR w cs p) : (tmOf p).In ∧ cs = cT (tmOf p) := by
  obtain ⟨⟨h1, w1⟩, ⟨h2, w2⟩, ⟨l1, l2, h3⟩, h4⟩ := h
  obtain ⟨e, d, l, u⟩ := p
  dsimp only at *
  match l, l2 with
  | [x, y, z], _ =>
    obtain ⟨k0, v0⟩ := h3 0 x rfl
    obtain ⟨k1, v1⟩ := h3 1 y rfl
    obtain ⟨k2, v2⟩ := h3 2 z rfl
    obtain ⟨a0, a1⟩ := bounds_u32 w1
    obtain ⟨a2, a3⟩ := bounds_i64 w2
    obtain ⟨a4, a5⟩ := bounds_u32 v0
    obtain ⟨a6, a7⟩ := bounds_u32 v1
    obtain ⟨a8, a9⟩ := bounds_u32 v2
    refine ⟨⟨a0, by show e ≤ _; omega, a2, a3, a4, by show x ≤ _; omega, a6, by show y ≤ _; omega, a8, by show z ≤ _; omega⟩, ?_⟩
    unfold nilR at h4
    match cs, h1 with
    | c0 :: cs, h1 =>
      simp at h1
      subst h1
      match cs, h2 with
      | c1 :: cs, h2 =>
        simp at h2
        subst h2
        match cs, k0, k1, k2, h4, l1 with
        | [c2, c3, c4], k0, k1, k2, _, _ => simp at k0 k1 k2; subst k0; subst k1; subst k2; rfl
set_option maxRecDepth 100000 in
/-- A slice of times that came in. -/
theorem top_times {w : World} {r : Reach} {b : Nat} {v : Value} {q : Row (Int × Int × List Int × Unit)} (hv : Value.okWide Try.prog w r b 37 v) (h : sliceR 5 32 timeR w v.cells.toList q) :
    ∃ (A : Option Addr) (c : Nat) (L : List Tm), v = .slice A L.length c ∧ InL L ∧ Lt w A L ∧ L.length ≤ c ∧ L.length ≤ 4611686018427387903 := by
  have hl := h.2.1
  have hc := h.2.2.1
  have hb := h.2.2.2.2.1
  refine ⟨q.ptr, q.cap, q.elems.map tmOf, ?_, ?_, ?_, ?_, ?_⟩
  · rw [top_slice Try.underlying37 hv h, row_val h, List.length_map]
  · intro t ht
    obtain ⟨a, ha, rfl⟩ := List.mem_map.1 ht
    obtain ⟨cs', hcs⟩ := elem_of h a ha
    exact (time_of hcs).1
  · have := liesN_of (f := fun a => cT (tmOf a)) (fun w cs a ha => (time_of ha).2) (by omega) h
    unfold Lt
    rw [List.map_map]
    exact this
  · rw [List.length_map, hl]; exact hc
  · rw [List.length_map, hl]; omega
theorem since_callS {P : Program} {f : FuncId} {args : Array Value} {v : Value} {w0 : World} (h : ∀ x : Since w0, Calls P f args x.1 fun e w' => e = .returned v ∧ Below x.1.heap.size x.1 w') (x : Since w0) :
    Calls P f args x.1 fun e w' => e = .returned v ∧ ∃ y : Since w0, w' = y.1 :=
  (h x).mono fun _ w' ⟨he, hb⟩ => ⟨he, ⟨w', then_below x.2 hb⟩, rfl⟩
theorem same_self (A B : Option Addr) (c d : Nat) (L : List Tm) (mL : L.length ≤ 4611686018427387903) (w : World) (hL : Lt w A L) (hM : Lt w B L) :
    Calls Try.prog 17 #[.slice A L.length c, .slice B L.length d] w fun e w' => e = .returned (.bool true) ∧ Below w.heap.size w w' := by
  have := same_any A B c d L L mL mL w hL hM
  rwa [decide_eq_true (p := L = L) rfl] at this
end Go.Proofs.Ytpjlefdigpejdaa.chain
