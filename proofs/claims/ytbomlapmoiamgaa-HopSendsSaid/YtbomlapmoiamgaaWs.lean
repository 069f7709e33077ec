/-
  clear at elements of several cells; cells laid in a block that is known whole; a row that is one's own whose cells are laid anew. It names no number of a program.
-/
import Derived.Test.YtbomlapmoiamgaaOg
import Derived.Lib.SliceRun
import Derived.Laws.IdiomCopy
set_option linter.unusedSimpArgs false
set_option linter.unusedVariables false
namespace Go.Proofs.Ytbomlapmoiamgaa.region
open Go.ChangeShapes Go.WideShapes Go.ChangeAt Go.RowKit
open Go.Proofs.Ytbomlapmoiamgaa.opened Go.Proofs.Ytbomlapmoiamgaa.block
section
variable {α : Type} {m : Nat} {f : α → List Value} {T : TypeId} {P : Program}
theorem zeroCells_G (F : Cells m f) (hm : 0 < m) (zr : α) (n : Nat) : (Builtin.zeroCells (f zr).toArray n).toList = (List.replicate n zr).flatMap f := by
  have hl := F.len zr
  apply List.ext_getElem?
  intro k
  have e1 : (Builtin.zeroCells (f zr).toArray n).toList[k]? = if k < n * m then (f zr)[k % m]? else none := by
    unfold Builtin.zeroCells
    rw [Array.getElem?_toList, Array.getElem?_map, List.size_toArray, hl]
    by_cases hk : k < n * m
    · have hmod : k % m < (f zr).length := by rw [hl]; exact Nat.mod_lt _ hm
      rw [if_pos hk, Array.getElem?_eq_getElem (by simpa using hk)]
      simp [hl, hmod, List.getElem?_eq_getElem hmod]
    · rw [if_neg hk, Array.getElem?_eq_none (by simpa using hk)]
      rfl
  rw [e1]
  by_cases hk : k < n * m
  · have hd : k / m < n := by rw [Nat.div_lt_iff_lt_mul hm]; exact hk
    have := flatG_at F (List.replicate n zr) (k / m) zr (k % m) (by rw [List.getElem?_replicate, if_pos hd]) (Nat.mod_lt _ hm)
    rw [if_pos hk, ← this]
    congr 1
    have := Nat.div_add_mod k m
    rw [Nat.mul_comm] at this
    omega
  · rw [if_neg hk, List.getElem?_eq_none (by rw [flatG_len F, List.length_replicate]; omega)]
theorem run_clear_G (F : Cells m f) (hm : 0 < m) (zr : α) (w : World) (t e ty : TypeId) (z : Value) (ht : P.underlying t = some (.slice e)) (hv : ∀ w, (zeroValue e).run P w = .ok z w) (hz : z.cells = (f zr).toArray) (b o n c : Nat) (hn : 0 < n)
    (hc : ∀ j, j < n * m → (w.cell? ⟨b, o + j, none⟩).isSome = true) (hf : ∀ j, j < n * m → w.frozen? ⟨b, o + j, none⟩ = false) :
    (Builtin.clear_ #[t] ty #[.slice (some ⟨b, o, none⟩) n c]).run P w = .ok (.tuple #[]) (w.setCells b o ((List.replicate n zr).flatMap f)) := by
  have hzc := zeroCells_G F hm zr n
  have hlen : ((List.replicate n zr).flatMap f).length = n * m := by rw [flatG_len F, List.length_replicate]
  have hst := run_storeCells_cells (P := P) b o ((List.replicate n zr).flatMap f) 0 w (by rw [hlen]; simpa using hc) (by rw [hlen]; simpa using hf) (by
    intro v hv'
    obtain ⟨x, -, hx⟩ := List.mem_flatMap.1 hv'
    exact F.one x v hx)
  simp only [Nat.add_zero] at hst
  obtain ⟨k, rfl⟩ : ∃ k, n = k + 1 := ⟨n - 1, by omega⟩
  simp only [Builtin.clear_]
  simp [run_underlying ht, hv, hz, hzc, hst]
theorem whole_setCells {g : Nat} {t : TypeId} : ∀ (vs : List Value) (o : Nat) (w : World) (cs : Array Value), Whole w g t cs → o + vs.length ≤ cs.size → ∃ ds : Array Value, Whole (w.setCells g o vs) g t ds ∧ ds.toList = cs.toList.take o ++ vs ++ cs.toList.drop (o + vs.length)
  | [], o, w, cs, h, _ => ⟨cs, h, by simp⟩
  | v :: r, o, w, cs, h, hb => by
    simp only [List.length_cons] at hb
    obtain ⟨ds, h1, h2⟩ := whole_setCells r (o + 1) (w.setCell ⟨g, o, none⟩ v) _ (h.store o v) (by simp; omega)
    refine ⟨ds, h1, ?_⟩
    rw [h2, Array.toList_setIfInBounds, List.drop_set_of_lt (by omega), List.take_set, List.length_cons, show o + 1 + r.length = o + (r.length + 1) by omega]
    have ho : o < cs.toList.length := by simp; omega
    rw [List.take_add_one, List.getElem?_eq_getElem ho]
    have hmin : min o cs.size = o := by
      have : o < cs.size := by simpa using ho
      omega
    simp [List.set_append, List.length_take, hmin]
theorem grown_setCells {g : Nat} {a : World} : ∀ (vs : List Value) (o : Nat) (w : World), a.grownBy w (some g) → a.grownBy (w.setCells g o vs) (some g)
  | [], _, _, h => h
  | v :: r, o, w, h => grown_setCells r (o + 1) _ (only_store h v)
end
end Go.Proofs.Ytbomlapmoiamgaa.region
namespace Go.Proofs.Ytbomlapmoiamgaa.region
section
variable {α : Type} {m : Nat} {f : α → List Value}
theorem flat_drop (F : Cells m f) : ∀ (j : Nat) (N : List α), (N.drop j).flatMap f = (N.flatMap f).drop (j * m)
  | 0, N => by simp
  | j + 1, [] => by simp
  | j + 1, x :: N => by
    rw [List.drop_succ_cons, flat_drop F j N, List.flatMap_cons, List.drop_append, F.len, List.drop_of_length_le (l := f x) (by rw [F.len, Nat.add_mul]; omega), List.nil_append]
    congr 1
    rw [Nat.add_mul]
    omega
theorem flat_take (F : Cells m f) : ∀ (j : Nat) (N : List α), (N.take j).flatMap f = (N.flatMap f).take (j * m)
  | 0, N => by simp
  | j + 1, [] => by simp
  | j + 1, x :: N => by
    rw [List.take_succ_cons, List.flatMap_cons, flat_take F j N, List.flatMap_cons, List.take_append, F.len, List.take_of_length_le (l := f x) (by rw [F.len, Nat.add_mul]; omega)]
    congr 2
    rw [Nat.add_mul]
    omega
end
end Go.Proofs.Ytbomlapmoiamgaa.region
