/-
  Append of a whole row to a row of one's own; the walk's frame as a letter. It names no number of a program.
-/
import Derived.Test.YtbomlapmoiamgaaOg
import Derived.Test.YtbomlapmoiamgaaWh
import Derived.Test.YtbomlapmoiamgaaRt9
import Derived.Maps.AppendAt
set_option linter.unusedSimpArgs false
set_option linter.unusedVariables false
namespace Go.Proofs.Ytbomlapmoiamgaa.region
open Go.ChangeShapes Go.WideShapes Go.ChangeAt Go.RowKit
open Go.Proofs.Ytbomlapmoiamgaa.opened Go.Proofs.Ytbomlapmoiamgaa.block
section
variable {P : Program} {α : Type} {T : TypeId} {m : Nat} {f : α → List Value}
theorem own_shapeG {w : World} {base : Nat} {v : Value} {N : List α} (h : OwnG T m f w base v N) : ∃ B c, v = .slice B N.length c := by
  rcases h.2 with ⟨hv, hn⟩ | ⟨b, cap, cur, hv, -⟩
  · exact ⟨none, 0, by rw [hv, hn]⟩
  · exact ⟨_, cap, hv⟩
theorem lg_sub (F : Cells m f) {w : World} {base b n c : Nat} {N : List α} (h : OwnG T m f w base (.slice (some ⟨b, 0, none⟩) n c) N) (o : Nat) (M : List α) (hM : ∀ i y, M[i]? = some y → N[o + i]? = some y) : graph.Lg m f w (some ⟨b, o * m, none⟩) M := by
  rcases h.2 with ⟨hv, -⟩ | ⟨b', cap, cur, hv, hb, hh, hcl, hcm, hcs, hct⟩
  · cases hv
  · injection hv with h1 h2 h3
    injection h1 with h1
    injection h1 with h1
    subst h1 h3
    refine .inr ⟨b, o * m, rfl, (Array.getElem?_eq_some_iff.1 hh).1, fun i x hx => ?_⟩
    rw [List.getElem?_map, Option.map_eq_some_iff] at hx
    obtain ⟨y, hy, rfl⟩ := hx
    refine ⟨F.len y, fun q hq => ?_⟩
    have hy2 := hM i y hy
    have e := flatG_at F N (o + i) y q hy2 hq
    have hi := (List.getElem?_eq_some_iff.1 hy2).1
    have hlt : (o + i) * m + q < N.length * m := by
      have : (o + i + 1) * m ≤ N.length * m := Nat.mul_le_mul_right m hi
      rw [Nat.add_mul] at this
      omega
    rw [← hct, List.getElem?_take, if_pos hlt, Array.getElem?_toList] at e
    rw [← e, show (o + i) * m + q = o * m + (i * m + q) by rw [Nat.add_mul]; omega]
    simp [World.cell?, hh]
theorem lgg_flat (F : Cells m f) (hm : 0 < m) {w : World} {b off : Nat} {L : List α} (h : graph.Lg m f w (some ⟨b, off, none⟩) L) : ∀ j u, (L.flatMap f)[j]? = some u → w.cell? ((⟨b, off, none⟩ : Addr).add j) = some u := by
  intro j u hj
  have hlt : j < L.length * m := by rw [← flatG_len F]; exact (List.getElem?_eq_some_iff.1 hj).1
  have hd : j / m < L.length := Nat.div_lt_of_lt_mul (by rw [Nat.mul_comm]; exact hlt)
  have hy : L[j / m]? = some (L[j / m]'hd) := List.getElem?_eq_getElem hd
  have e := flatG_at F L (j / m) _ (j % m) hy (Nat.mod_lt _ hm)
  rw [show j / m * m + j % m = j by rw [Nat.mul_comm]; exact Nat.div_add_mod j m, hj] at e
  rcases h with h | ⟨b', o', hA, -, hc⟩
  · have : L = [] := by simpa using h
    subst this
    simp at hd
  · injection (Option.some.inj hA) with e1 e2
    subst e1 e2
    have := (hc (j / m) (f (L[j / m]'hd)) (by rw [List.getElem?_map, hy]; rfl)).2 (j % m) (Nat.mod_lt _ hm)
    rw [show j / m * m + j % m = j by rw [Nat.mul_comm]; exact Nat.div_add_mod j m, ← e] at this
    rw [show (⟨b, off, none⟩ : Addr).add j = ⟨b, off + j, none⟩ by cases j <;> simp [Addr.add]]
    exact this
theorem run_append_zero (w : World) (t ty e : TypeId) (i : TypeInfo) (ht : P.underlying t = some (.slice e)) (hi : P.info? e = some i) (B : Option Addr) (n cap : Nat) (hn : n ≤ cap) (A : Option Addr) (c : Nat) :
    (Builtin.append_ #[t, t] ty #[.slice B n cap, .slice A 0 c]).run P w = .ok (.slice B n cap) w := by
  cases B <;> cases A <;> simp [Builtin.append_, Builtin.lenOf, Builtin.firstCells, run_underlying ht, sizeOf, typeInfo, hi, storeCells, loadCells, loadCellsFrom, go_sem, Result.andThen, hn]
theorem run_append_row (F : Cells m f) (hm : 0 < m) {w : World} {base : Nat} (t ty : TypeId) (i : TypeInfo) (z : Value) (bytes : Nat) (ht : P.underlying t = some (.slice T)) (hi : P.info? T = some i) (hz : i.zero = some z)
    (hsize : i.size = m) (hby : i.bytes = bytes) (hzs : z.cells.size = m) {V A : Option Addr} {cap c : Nat} {N M : List α} (hown : OwnG T m f w base (.slice V N.length cap) N) (hM : graph.Lg m f w A M)
    (h63 : N.length + M.length ≤ maxLen) (hbytes : (N.length + M.length) * bytes ≤ 140737488355328) (hbase : base ≤ w.heap.size) :
    ∃ B' cap' w', (Builtin.append_ #[t, t] ty #[.slice V N.length cap, .slice A M.length c]).run P w = .ok (.slice B' (N ++ M).length cap') w' ∧ OwnG T m f w' base (.slice B' (N ++ M).length cap') (N ++ M) ∧ w.grownBy w' (Value.slice V N.length cap).ownBlock ∧
      ((Value.slice B' (N ++ M).length cap').ownBlock = (Value.slice V N.length cap).ownBlock ∨ (Value.slice B' (N ++ M).length cap').ownBlock = some w.heap.size) := by
  by_cases h0 : M = []
  · subst h0
    refine ⟨V, cap, w, ?_, ?_, World.grownBy.refl w _, ?_⟩
    · rw [List.append_nil]
      exact run_append_zero w t ty T i ht hi V N.length cap hown.room A c
    · rw [List.append_nil]
      exact hown
    · rw [List.append_nil]
      exact .inl rfl
  · obtain ⟨y, hy⟩ : ∃ y, M[0]? = some y := ⟨_, List.getElem?_eq_getElem (List.length_pos_iff.2 h0)⟩
    obtain ⟨b, off, rfl, -⟩ := graph.Lg.cells hM hy
    obtain ⟨v', w', hr, h1, h2, -, h4⟩ := run_append_own_at (P := P) w base t ty T i z m bytes ht hi hz hsize hby hzs hm _ N.length (N.flatMap f) hown ⟨b, off, none⟩ M.length c (M.flatMap f) (flatG_len F M) (lgg_flat F hm hM)
      (fun u hu => by obtain ⟨x, -, hx⟩ := List.mem_flatMap.1 hu; exact F.one x u hx) h63 hbytes hbase
    rw [← List.flatMap_append] at h1
    have h5 : OwnG T m f w' base v' (N ++ M) := by
      unfold OwnG
      rw [List.length_append]
      exact h1
    obtain ⟨B', cap', rfl⟩ := own_shapeG h5
    exact ⟨B', cap', w', hr, h5, h2, h4⟩
/-- At the operation, for the walk. -/
theorem wpList_append_row (F : Cells m f) (hm : 0 < m) {w : World} {ops : Array Oper} {rest : List Oper} {o : Oper} {a : Act} {Q : Exit → Act → World → Prop} (hgd : o.guard = none) (s x : Operand) (t : TypeId)
    (ho : o.op = .call { callee := .builtin .append, args := #[s, x], argTypes := #[t, t] }) (base : Nat) (i : TypeInfo) (z : Value) (bytes : Nat) (ht : P.underlying t = some (.slice T)) (hi : P.info? T = some i) (hz : i.zero = some z)
    (hsize : i.size = m) (hby : i.bytes = bytes) (hzs : z.cells.size = m) {V A : Option Addr} {cap c : Nat} {N M : List α} (hs : a.eval s = .slice V N.length cap) (hx : a.eval x = .slice A M.length c) (hown : OwnG T m f w base (.slice V N.length cap) N) (hM : graph.Lg m f w A M)
    (h63 : N.length + M.length ≤ maxLen) (hbytes : (N.length + M.length) * bytes ≤ 140737488355328) (hbase : base ≤ w.heap.size)
    (h : ∀ B' cap' w', OwnG T m f w' base (.slice B' (N ++ M).length cap') (N ++ M) → w.grownBy w' (Value.slice V N.length cap).ownBlock → ((Value.slice B' (N ++ M).length cap').ownBlock = (Value.slice V N.length cap).ownBlock ∨ (Value.slice B' (N ++ M).length cap').ownBlock = some w.heap.size) →
      wpList P ops Q rest (a.put o.dst (.slice B' (N ++ M).length cap')) w') : wpList P ops Q (o :: rest) a w := by
  refine wpList_plain hgd fun K hK => ?_
  obtain ⟨B', cap', w', hr, h1, h2, h3⟩ := run_append_row (P := P) F hm t o.type i z bytes ht hi hz hsize hby hzs hown hM h63 hbytes hbase
  unfold Oper.wp execOp
  simp only [ho, resolve, invoke, builtin, Sem.run_bind, Sem.run_pure, Result.andThen_ok, List.map_toArray, List.map_cons, List.map_nil, hs, hx]
  rw [hr]
  exact hK _ _ (h B' cap' w' h1 h2 h3)
/-- In a region that draws its order. -/
theorem yields_append_row (F : Cells m f) (hm : 0 < m) {w : World} {o : Oper} {ρ : Operand → Value} {Q : Value → World → Prop} (s x : Operand) (t : TypeId)
    (ho : o.op = .call { callee := .builtin .append, args := #[s, x], argTypes := #[t, t] }) (base : Nat) (i : TypeInfo) (z : Value) (bytes : Nat) (ht : P.underlying t = some (.slice T)) (hi : P.info? T = some i) (hz : i.zero = some z)
    (hsize : i.size = m) (hby : i.bytes = bytes) (hzs : z.cells.size = m) {V A : Option Addr} {cap c : Nat} {N M : List α} (hs : ρ s = .slice V N.length cap) (hx : ρ x = .slice A M.length c) (hown : OwnG T m f w base (.slice V N.length cap) N) (hM : graph.Lg m f w A M)
    (h63 : N.length + M.length ≤ maxLen) (hbytes : (N.length + M.length) * bytes ≤ 140737488355328) (hbase : base ≤ w.heap.size)
    (h : ∀ B' cap' w', OwnG T m f w' base (.slice B' (N ++ M).length cap') (N ++ M) → w.grownBy w' (Value.slice V N.length cap).ownBlock → ((Value.slice B' (N ++ M).length cap').ownBlock = (Value.slice V N.length cap).ownBlock ∨ (Value.slice B' (N ++ M).length cap').ownBlock = some w.heap.size) →
      Q (.slice B' (N ++ M).length cap') w') : YieldsW P o ρ w Q := by
  obtain ⟨B', cap', w', hr, h1, h2, h3⟩ := run_append_row (P := P) F hm t o.type i z bytes ht hi hz hsize hby hzs hown hM h63 hbytes hbase
  refine .inl ⟨_, w', ?_, h B' cap' w' h1 h2 h3⟩
  unfold execOp
  simp only [ho, resolve, invoke, builtin, Sem.run_bind, Sem.run_pure, Result.andThen_ok, List.map_toArray, List.map_cons, List.map_nil, hs, hx]
  rw [hr]
  rfl
end
theorem yields_slice {P : Program} {w : World} {o : Oper} {ρ : Operand → Value} {t : TypeId} {x : Operand} {a b c : Option Operand} {T : Value → World → Prop} {v u : Value} (ho : o.op = .slice t x a b c) (hx : ρ x = v) (h : (Instr.sliceAt t v (a.map ρ) (b.map ρ) (c.map ρ)).run P w = .ok u w) (ht : T u w) : Yields P o ρ w T := by
  refine yields_run (u := u) (w' := w) ?_ (Below.refl _ _) ht
  unfold execOp
  simp only [ho, hx, Sem.run_bind, h, Result.andThen_ok]
  rfl
theorem yields_convert {P : Program} {w : World} {o : Oper} {ρ : Operand → Value} {s d : TypeId} {x : Operand} {T : Value → World → Prop} {v u : Value} (ho : o.op = .convert s d x) (hx : ρ x = v) (h : (convert s d v).run P w = .ok u w) (ht : T u w) : Yields P o ρ w T := by
  refine yields_run (u := u) (w' := w) ?_ (Below.refl _ _) ht
  unfold execOp
  simp only [ho, hx, Sem.run_bind, h, Result.andThen_ok]
  rfl
end Go.Proofs.Ytbomlapmoiamgaa.region
namespace Go.Proofs.Ytbomlapmoiamgaa.region
open Go.ChangeShapes Go.WideShapes Go.ChangeAt Go.RowKit
/-- The frame as a letter. -/
theorem wp_frame {P : Program} {c : Code} {Q : Exit → Act → World → Prop} {a : Act} {w : World} (h : ∀ b : Act, b = a → c.wp P Q b w) : c.wp P Q a w := h a rfl
theorem ev_ne {a : Act} {t s : Nat} {v : Value} (h : t ≠ s) : (a.put (some t) v).eval (.tmp s) = a.eval (.tmp s) := by
  simp [Act.put, Act.eval, Array.getD_eq_getD_getElem?, Array.getElem?_setIfInBounds, h]
theorem ev_eq {a : Act} {t : Nat} {v : Value} (h : t < a.tmps.size) : (a.put (some t) v).eval (.tmp t) = v := by
  simp [Act.put, Act.eval, Array.getD_eq_getD_getElem?, Array.getElem?_setIfInBounds, h]
theorem ev_none {a : Act} {v : Value} : a.put none v = a := rfl
theorem put_size {a : Act} {t : Nat} {v : Value} : (a.put (some t) v).tmps.size = a.tmps.size := by
  simp [Act.put]
theorem ev_get {a : Act} {t : Nat} {v : Value} (h : a.eval (.tmp t) = v) (hl : t < a.tmps.size) : a.tmps[t] = v := by
  simpa [Act.eval, hl] using h
theorem ev_const {a : Act} {v : Value} : a.eval (.const v) = v := rfl
end Go.Proofs.Ytbomlapmoiamgaa.region
