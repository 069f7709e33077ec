/-
  Slices of times, as the walks want them.
-/
import Derived.Test.YtpjlefdigpejdaaKn
import Derived.Test.YtpjlefdigpejdaaEq
import Derived.Test.YtpjlefdigpejdaaOpenT
import Derived.BigRegion
import Derived.Deep.QuietTactic
import Derived.BigQuiet
import Derived.Deep.Cut
import Derived.Deep.CutRange
namespace Go.Proofs.Ytpjlefdigpejdaa.chain
open Go.ChangeShapes Go.WideShapes Go.ChangeAt Go.RowKit
open Go.Proofs.Ytpjlefdigpejdaa.tm Go.Proofs.Ytpjlefdigpejdaa.opened Go.Proofs.Ytpjlefdigpejdaa.block Go.Proofs.Ytpjlefdigpejdaa.stamp

/-- A time's cells. -/
def cT (t : Tm) : List Value := [.int .u32 t.e, .int .i64 t.d, .int .u32 t.a, .int .u32 t.b, .int .u32 t.c]
/-- At this place lie these times. -/
def Lt (w : World) (A : Option Addr) (L : List Tm) : Prop := LiesN w A 5 (L.map cT)
theorem Lt.nil (w : World) (A : Option Addr) : Lt w A [] := .inl rfl
theorem Lt.below {w w' : World} {A : Option Addr} {L : List Tm} (h : Lt w A L) (hb : Below w.heap.size w w') : Lt w' A L := by
  rcases h with h | ⟨b, off, hA, hbl, hc⟩
  · exact .inl h
  · exact .inr ⟨b, off, hA, Nat.lt_of_lt_of_le hbl hb.size, fun i x hx => ⟨(hc i x hx).1, fun j hj => (hb.cell (p := ⟨b, off + (i * 5 + j), none⟩) hbl).trans ((hc i x hx).2 j hj)⟩⟩
/-- The k-th of them: its cells. -/
theorem Lt.at {w : World} {A : Option Addr} {L : List Tm} (h : Lt w A L) {k : Nat} {t : Tm} (hk : L[k]? = some t) : ∃ b off, A = some ⟨b, off, none⟩ ∧ b < w.heap.size ∧
    w.cell? ⟨b, off + k * 5, none⟩ = some (.int .u32 t.e) ∧ w.cell? ⟨b, off + k * 5 + 1, none⟩ = some (.int .i64 t.d) ∧ w.cell? ⟨b, off + k * 5 + 2, none⟩ = some (.int .u32 t.a) ∧ w.cell? ⟨b, off + k * 5 + 3, none⟩ = some (.int .u32 t.b) ∧ w.cell? ⟨b, off + k * 5 + 4, none⟩ = some (.int .u32 t.c) := by
  rcases h with h | ⟨b, off, hA, hbl, hc⟩
  · have : L = [] := by simpa using h
    subst this
    simp at hk
  · obtain ⟨-, h2⟩ := hc k (cT t) (by rw [List.getElem?_map, hk]; rfl)
    exact ⟨b, off, hA, hbl, h2 0 (by omega), h2 1 (by omega), h2 2 (by omega), h2 3 (by omega), h2 4 (by omega)⟩
theorem get_lt {L : List Tm} {k : Nat} (h : k < L.length) : ∃ t, L[k]? = some t ∧ t ∈ L := ⟨L[k], List.getElem?_eq_getElem h, List.getElem_mem h⟩
/-- The times of a list are within their kinds. -/
def InL (L : List Tm) : Prop := ∀ t ∈ L, t.In
theorem take_any {L : List Tm} {k : Nat} {t : Tm} {p : Tm → Bool} (hk : L[k]? = some t) (h : (L.take k).any p = false) : (L.take (k + 1)).any p = p t := by
  rw [List.take_add_one, hk, List.any_append, h]
  simp
theorem any_at {L : List Tm} {k : Nat} {t : Tm} {p : Tm → Bool} (hk : L[k]? = some t) (h : p t = true) : L.any p = true := List.any_eq_true.2 ⟨t, List.mem_of_getElem? hk, h⟩
end Go.Proofs.Ytpjlefdigpejdaa.chain
