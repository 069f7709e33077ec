/-
  Acts of law16 that came in, as the walk wants them; numbers that are drawn from others.
-/
import Derived.Test.YtbomlapmoiamgaaWv1
set_option linter.unusedSimpArgs false
set_option linter.unusedVariables false
namespace Go.Proofs.Ytbomlapmoiamgaa.wan
open Go.ChangeShapes Go.WideShapes Go.ChangeAt Go.RowKit
open Go.Proofs.Ytbomlapmoiamgaa.opened Go.Proofs.Ytbomlapmoiamgaa.block Go.Proofs.Ytbomlapmoiamgaa.words Go.Proofs.Ytbomlapmoiamgaa.region
structure Ox where
  k : Int
  f : Int
  t : Int
  s : Bs
  i : Int
  o : Bool
def Ox.cells (o : Ox) : List Value := [.int .i64 o.k, .int .i64 o.f, .int .i64 o.t, sV o.s, .int .i64 o.i, .bool o.o]
def IntIn (n : Int) : Prop := -9223372036854775808 ≤ n ∧ n ≤ 9223372036854775807
/-- A row of acts that came in. -/
def Actx (w : World) (A : Option Addr) (L : List Ox) : Prop := graph.Lg 6 Ox.cells w A L ∧ ∀ o ∈ L, o.s.length ≤ 140737488351232 ∧ IntIn o.i
theorem Actx.below {w w' : World} {A : Option Addr} {L : List Ox} (h : Actx w A L) (hb : Below w.heap.size w w') : Actx w' A L := ⟨h.1.below hb, h.2⟩
theorem Actx.at {w : World} {A : Option Addr} {L : List Ox} (h : Actx w A L) {k : Nat} {o : Ox} (hk : L[k]? = some o) :
    ∃ b off, A = some ⟨b, off, none⟩ ∧ b < w.heap.size ∧ w.cell? ⟨b, off + k * 6, none⟩ = some (.int .i64 o.k) ∧ w.cell? ⟨b, off + k * 6 + 1, none⟩ = some (.int .i64 o.f) ∧ w.cell? ⟨b, off + k * 6 + 2, none⟩ = some (.int .i64 o.t) ∧ w.cell? ⟨b, off + k * 6 + 3, none⟩ = some (sV o.s) ∧ w.cell? ⟨b, off + k * 6 + 4, none⟩ = some (.int .i64 o.i) ∧ w.cell? ⟨b, off + k * 6 + 5, none⟩ = some (.bool o.o) := by
  obtain ⟨b, off, hA, hb, hc⟩ := h.1.cells hk
  have hc' : ∀ j, j < 6 → w.cell? ⟨b, off + k * 6 + j, none⟩ = o.cells[j]? := fun j hj => by rw [Nat.add_assoc]; exact hc j hj
  exact ⟨b, off, hA, hb, hc' 0 (by omega), hc' 1 (by omega), hc' 2 (by omega), hc' 3 (by omega), hc' 4 (by omega), hc' 5 (by omega)⟩
set_option maxRecDepth 100000 in
theorem ends_is (n : Int) : ∃ m : Nat, 2 ≤ m ∧ m ≤ 16 ∧ wrap64 (2 + wrap64 ((IntKind.u64.wrap n).tmod 15)) = (m : Int) := by
  have h0 : 0 ≤ IntKind.u64.wrap n := by rw [IntKind.wrap_u64]; omega
  rw [Int.tmod_eq_emod_of_nonneg h0]
  generalize IntKind.u64.wrap n = z at h0
  refine ⟨(2 + z % 15).toNat, by omega, by omega, ?_⟩
  rw [IntWalk.wrap64_in (z % 15) ⟨by omega, by omega⟩, IntWalk.wrap64_in _ ⟨by omega, by omega⟩]
  omega
set_option maxRecDepth 100000 in
theorem end_is (a : Int) (m : Nat) (h2 : 2 ≤ m) (h16 : m ≤ 16) : ∃ i : Nat, i < m ∧ wrap64 ((IntKind.u64.wrap a).tmod (m : Int)) = (i : Int) := by
  have h0 : 0 ≤ IntKind.u64.wrap a := by rw [IntKind.wrap_u64]; omega
  rw [Int.tmod_eq_emod_of_nonneg h0]
  generalize IntKind.u64.wrap a = z at h0
  have hz0 : 0 ≤ z % (m : Int) := Int.emod_nonneg _ (by omega)
  have hz1 : z % (m : Int) < m := Int.emod_lt_of_pos _ (by omega)
  refine ⟨(z % (m : Int)).toNat, by omega, ?_⟩
  rw [IntWalk.wrap64_in _ ⟨by omega, by omega⟩]
  omega
end Go.Proofs.Ytbomlapmoiamgaa.wan
