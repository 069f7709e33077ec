/-
  append of a whole row to a row of one's own. It names no number of a program.
-/
import Derived.Test.YtkfjgmfokpgcbaaJDr
import Derived.Maps.AppendAt
namespace Go.Proofs.Ytkfjgmfokpgcbaa.data
open Go.ChangeShapes Go.WideShapes Go.ChangeAt Go.RowKit
open Go.Proofs.Ytkfjgmfokpgcbaa.opened Go.Proofs.Ytkfjgmfokpgcbaa.block Go.Proofs.Ytkfjgmfokpgcbaa.region

section
variable {P : Program} {α : Type} {T : TypeId} {m : Nat} {f : α → List Value}
theorem lg_flat (F : Cells m f) (hm : 0 < m) {w : World} {b off : Nat} {L : List α} (h : Lg m f w (some ⟨b, off, none⟩) L) : ∀ j u, (L.flatMap f)[j]? = some u → w.cell? ((⟨b, off, none⟩ : Addr).add j) = some u := by
  intro j u hj
  have hlt : j < L.length * m := by rw [← flatG_len F]; exact (List.getElem?_eq_some_iff.1 hj).1
  have hd : j / m < L.length := Nat.div_lt_of_lt_mul (by rw [Nat.mul_comm]; exact hlt)
  have hy : L[j / m]? = some (L[j / m]'hd) := List.getElem?_eq_getElem hd
  have e := flatG_at F L (j / m) _ (j % m) hy (Nat.mod_lt _ hm)
  rw [show j / m * m + j % m = j by rw [Nat.mul_comm]; exact Nat.div_add_mod j m, hj] at e
  rcases h with h | ⟨b', o', hA, -, hc⟩
  · have : L = [] := by simpa using h
    subst this
    simp at hd
  · injection (Option.some.inj hA) with e1 e2
    subst e1 e2
    have := (hc (j / m) (f (L[j / m]'hd)) (by rw [List.getElem?_map, hy]; rfl)).2 (j % m) (Nat.mod_lt _ hm)
    rw [show j / m * m + j % m = j by rw [Nat.mul_comm]; exact Nat.div_add_mod j m, ← e] at this
    rw [show (⟨b, off, none⟩ : Addr).add j = ⟨b, off + j, none⟩ by cases j <;> simp [Addr.add]]
    exact this
theorem run_append_zero (w : World) (t ty e : TypeId) (i : TypeInfo) (ht : P.underlying t = some (.slice e)) (hi : P.info? e = some i) (B : Option Addr) (n cap : Nat) (hn : n ≤ cap) (A : Option Addr) (c : Nat) :
    (Builtin.append_ #[t, t] ty #[.slice B n cap, .slice A 0 c]).run P w = .ok (.slice B n cap) w := by
  cases B <;> cases A <;> simp [Builtin.append_, Builtin.lenOf, Builtin.firstCells, run_underlying ht, sizeOf, typeInfo, hi, storeCells, loadCells, loadCellsFrom, go_sem, Result.andThen, hn]
theorem run_append_row (F : Cells m f) (hm : 0 < m) {w : World} {base : Nat} (t ty : TypeId) (i : TypeInfo) (z : Value) (bytes : Nat) (ht : P.underlying t = some (.slice T)) (hi : P.info? T = some i) (hz : i.zero = some z)
    (hsize : i.size = m) (hby : i.bytes = bytes) (hzs : z.cells.size = m) {V A : Option Addr} {cap c : Nat} {N M : List α} (hown : OwnG T m f w base (.slice V N.length cap) N) (hM : Lg m f w A M)
    (h63 : N.length + M.length ≤ maxLen) (hbytes : (N.length + M.length) * bytes ≤ 140737488355328) (hbase : base ≤ w.heap.size) :
    ∃ B' cap' w', (Builtin.append_ #[t, t] ty #[.slice V N.length cap, .slice A M.length c]).run P w = .ok (.slice B' (N ++ M).length cap') w' ∧ OwnG T m f w' base (.slice B' (N ++ M).length cap') (N ++ M) ∧ w.grownBy w' (Value.slice V N.length cap).ownBlock ∧
      ((Value.slice B' (N ++ M).length cap').ownBlock = (Value.slice V N.length cap).ownBlock ∨ (Value.slice B' (N ++ M).length cap').ownBlock = some w.heap.size) := by
  by_cases h0 : M = []
  · subst h0
    refine ⟨V, cap, w, ?_, ?_, World.grownBy.refl w _, ?_⟩
    · rw [List.append_nil]
      exact run_append_zero w t ty T i ht hi V N.length cap hown.room A c
    · rw [List.append_nil]
      exact hown
    · rw [List.append_nil]
      exact .inl rfl
  · obtain ⟨y, hy⟩ : ∃ y, M[0]? = some y := ⟨_, List.getElem?_eq_getElem (List.length_pos_iff.2 h0)⟩
    obtain ⟨b, off, rfl, -⟩ := hM.cells hy
    obtain ⟨v', w', hr, h1, h2, -, h4⟩ := run_append_own_at (P := P) w base t ty T i z m bytes ht hi hz hsize hby hzs hm _ N.length (N.flatMap f) hown ⟨b, off, none⟩ M.length c (M.flatMap f) (flatG_len F M) (lg_flat F hm hM)
      (fun u hu => by obtain ⟨x, -, hx⟩ := List.mem_flatMap.1 hu; exact F.one x u hx) h63 hbytes hbase
    rw [← List.flatMap_append] at h1
    have h5 : OwnG T m f w' base v' (N ++ M) := by
      unfold OwnG
      rw [List.length_append]
      exact h1
    obtain ⟨B', cap', rfl, -⟩ := h5.shape
    exact ⟨B', cap', w', hr, h5, h2, h4⟩
/-- At the operation, for the walk. -/
theorem wpList_append_row (F : Cells m f) (hm : 0 < m) {w : World} {ops : Array Oper} {rest : List Oper} {o : Oper} {a : Act} {Q : Exit → Act → World → Prop} (hgd : o.guard = none) (s x : Operand) (t : TypeId)
    (ho : o.op = .call { callee := .builtin .append, args := #[s, x], argTypes := #[t, t] }) (base : Nat) (i : TypeInfo) (z : Value) (bytes : Nat) (ht : P.underlying t = some (.slice T)) (hi : P.info? T = some i) (hz : i.zero = some z)
    (hsize : i.size = m) (hby : i.bytes = bytes) (hzs : z.cells.size = m) {V A : Option Addr} {cap c : Nat} {N M : List α} (hs : a.eval s = .slice V N.length cap) (hx : a.eval x = .slice A M.length c) (hown : OwnG T m f w base (.slice V N.length cap) N) (hM : Lg m f w A M)
    (h63 : N.length + M.length ≤ maxLen) (hbytes : (N.length + M.length) * bytes ≤ 140737488355328) (hbase : base ≤ w.heap.size)
    (h : ∀ B' cap' w', OwnG T m f w' base (.slice B' (N ++ M).length cap') (N ++ M) → w.grownBy w' (Value.slice V N.length cap).ownBlock → ((Value.slice B' (N ++ M).length cap').ownBlock = (Value.slice V N.length cap).ownBlock ∨ (Value.slice B' (N ++ M).length cap').ownBlock = some w.heap.size) →
      wpList P ops Q rest (a.put o.dst (.slice B' (N ++ M).length cap')) w') : wpList P ops Q (o :: rest) a w := by
  refine wpList_plain hgd fun K hK => ?_
  obtain ⟨B', cap', w', hr, h1, h2, h3⟩ := run_append_row (P := P) F hm t o.type i z bytes ht hi hz hsize hby hzs hown hM h63 hbytes hbase
  unfold Oper.wp execOp
  simp only [ho, resolve, invoke, builtin, Sem.run_bind, Sem.run_pure, Result.andThen_ok, List.map_toArray, List.map_cons, List.map_nil, hs, hx]
  rw [hr]
  exact hK _ _ (h B' cap' w' h1 h2 h3)
/-- In a region that draws its order. -/
theorem yields_append_row (F : Cells m f) (hm : 0 < m) {w : World} {o : Oper} {ρ : Operand → Value} {Q : Value → World → Prop} (s x : Operand) (t : TypeId)
    (ho : o.op = .call { callee := .builtin .append, args := #[s, x], argTypes := #[t, t] }) (base : Nat) (i : TypeInfo) (z : Value) (bytes : Nat) (ht : P.underlying t = some (.slice T)) (hi : P.info? T = some i) (hz : i.zero = some z)
    (hsize : i.size = m) (hby : i.bytes = bytes) (hzs : z.cells.size = m) {V A : Option Addr} {cap c : Nat} {N M : List α} (hs : ρ s = .slice V N.length cap) (hx : ρ x = .slice A M.length c) (hown : OwnG T m f w base (.slice V N.length cap) N) (hM : Lg m f w A M)
    (h63 : N.length + M.length ≤ maxLen) (hbytes : (N.length + M.length) * bytes ≤ 140737488355328) (hbase : base ≤ w.heap.size)
    (h : ∀ B' cap' w', OwnG T m f w' base (.slice B' (N ++ M).length cap') (N ++ M) → w.grownBy w' (Value.slice V N.length cap).ownBlock → ((Value.slice B' (N ++ M).length cap').ownBlock = (Value.slice V N.length cap).ownBlock ∨ (Value.slice B' (N ++ M).length cap').ownBlock = some w.heap.size) →
      Q (.slice B' (N ++ M).length cap') w') : YieldsW P o ρ w Q := by
  obtain ⟨B', cap', w', hr, h1, h2, h3⟩ := run_append_row (P := P) F hm t o.type i z bytes ht hi hz hsize hby hzs hown hM h63 hbytes hbase
  refine .inl ⟨_, w', ?_, h B' cap' w' h1 h2 h3⟩
  unfold execOp
  simp only [ho, resolve, invoke, builtin, Sem.run_bind, Sem.run_pure, Result.andThen_ok, List.map_toArray, List.map_cons, List.map_nil, hs, hx]
  rw [hr]
  rfl
end
end Go.Proofs.Ytkfjgmfokpgcbaa.data
