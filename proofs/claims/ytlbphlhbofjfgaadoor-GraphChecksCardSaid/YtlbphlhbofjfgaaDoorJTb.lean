/-
  Listed tables of plain parts: their cells, told by what is listed. It names no number of a program.
-/
import Derived.Test.YtlbphlhbofjfgaaDoorJOpen
import Derived.Lib.LaidTab
namespace Go.Proofs.YtlbphlhbofjfgaaDoor.tabs
open Go.Proofs.YtlbphlhbofjfgaaDoor.opened
/-- Cells of type t that read as d are these. -/
def Knows (P : Program) (t : TypeId) (d : DataW Unit) (c0 : List Value) : Prop :=
  ∀ (enc : TypeId × Value → Unit) (w : World) (base : Nat) (sp : Nat → Bool) (held : Bool) (fuel : Nat) (cs : List Value) (x : DataW Unit × List MemPlace),
    DataW.trod enc P w base sp held fuel t cs = some x → x.1 = d → cs = c0
def KnowsFs (P : Program) (ts : List TypeId) (ds : List (DataW Unit)) (c0 : List Value) : Prop :=
  ∀ (enc : TypeId × Value → Unit) (w : World) (base : Nat) (sp : Nat → Bool) (held : Bool) (n : Nat) (cs : List Value) (xs : List (DataW Unit × List MemPlace)),
    xs.length = ts.length → cs.length = sumOf P ts → (∀ i t, ts[i]? = some t → DataW.trod enc P w base sp held n t ((cs.drop (offOf P ts i)).take (P.cellsOf t)) = xs[i]?) → xs.map (·.1) = ds → cs = c0
variable {P : Program} {t : TypeId}
theorem knows_int {k : IntKind} (ht : P.underlying t = some (.int k)) (z : Int) : Knows P t (.lit (.int k z)) [.int k z] := by
  intro enc w base sp held fuel cs x h hx
  obtain ⟨n, rfl, rfl, _⟩ := DataW.trod_int ht h
  injection hx with e
  injection e with _ e
  rw [e]
theorem knows_str (ht : P.underlying t = some .string) (l : List UInt8) : Knows P t (.lit (.string l)) [.string ⟨l.toArray⟩] := by
  intro enc w base sp held fuel cs x h hx
  obtain ⟨s, rfl, rfl, _⟩ := DataW.trod_string ht h
  injection hx with e
  injection e with e
  subst e
  rfl
theorem knowsFs_nil : KnowsFs P [] [] [] := by
  intro enc w base sp held n cs xs _ hc _ _
  exact List.eq_nil_of_length_eq_zero (by simpa [sumOf] using hc)
theorem knowsFs_cons {d : DataW Unit} {c0 : List Value} {ts : List TypeId} {ds : List (DataW Unit)} {c1 : List Value} (hR : Knows P t d c0) (hS : KnowsFs P ts ds c1) : KnowsFs P (t :: ts) (d :: ds) (c0 ++ c1) := by
  intro enc w base sp held n cs xs hl hc h hd
  match xs, hl with
  | x :: xs, hl =>
    have h0 := h 0 t rfl
    simp only [offOf, List.drop_zero, List.getElem?_cons_zero] at h0
    simp only [List.map_cons, List.cons.injEq] at hd
    have e0 := hR enc w base sp held n _ x h0 hd.1
    have e1 := hS enc w base sp held n (cs.drop (P.cellsOf t)) xs (by simpa using hl) (by simp only [sumOf] at hc; simp; omega)
      (fun i u hu => by
        have := h (i + 1) u hu
        simp only [offOf, List.getElem?_cons_succ] at this
        rw [List.drop_drop]
        exact this) hd.2
    rw [← e0, ← e1, List.take_append_drop]
theorem knows_struct {fs : Array Field} {ts : List TypeId} {ds : List (DataW Unit)} {c0 : List Value} (ht : P.underlying t = some (.struct fs)) (ho : offsetsOk P fs ts = true) (hc : P.cellsOf t = sumOf P ts) (hS : KnowsFs P ts ds c0) : Knows P t (.agg ds) c0 := by
  intro enc w base sp held fuel cs x h hx
  obtain ⟨xs, n, _, rfl, hlen, hxl, hf⟩ := DataW.trod_struct ht h
  simp only [offsetsOk, Bool.and_eq_true, beq_iff_eq] at ho
  obtain ⟨hts, ho⟩ := ho
  injection hx with hx
  refine hS enc w base sp held n cs xs ?_ (hlen.trans hc) ?_ hx
  · rw [← hts]; simpa using hxl
  · intro i u hu
    have hi : i < fs.size := by
      have := (List.getElem?_eq_some_iff.1 hu).1
      rw [← hts] at this
      simpa using this
    have hf' := hf i fs[i] (Array.getElem?_eq_getElem hi)
    have hoo := List.all_eq_true.1 ho i (List.mem_range.2 hi)
    rw [Array.getElem?_eq_getElem hi] at hoo
    simp only [beq_iff_eq] at hoo
    have hty : fs[i].type = u := by
      rw [← hts] at hu
      simp only [List.getElem?_map, Array.getElem?_toList, Array.getElem?_eq_getElem hi, Option.map_some, Option.some.injEq] at hu
      exact hu
    rw [hoo, hty] at hf'
    exact hf'
/-- A table's cells, element by element. -/
theorem knows_array {w : World} {base : Nat} {sp : Nat → Bool} {held : Bool} {enc : TypeId × Value → Unit} {e : TypeId} {n m fuel : Nat} {cs : List Value} {x : DataW Unit × List MemPlace} {ds : List (DataW Unit)} (ht : P.underlying t = some (.array n e)) (hm : P.cellsOf e = m) (hc : P.cellsOf t = n * m)
    (h : DataW.trod enc P w base sp held fuel t cs = some x) (hx : x.1 = .agg ds) : cs.length = n * m ∧ ∀ i d c0, ds[i]? = some d → Knows P e d c0 → ∀ j, j < m → cs[i * m + j]? = c0[j]? := by
  cases fuel with
  | zero => simp [DataW.trod] at h
  | succ fuel =>
    simp only [DataW.trod, ht] at h
    split at h
    · rename_i hl
      obtain ⟨xs, hm', rfl⟩ := Option.map_eq_some_iff.1 h
      rw [hm] at hm'
      refine ⟨hl.trans hc, fun i d c0 hd hk j hj => ?_⟩
      injection hx with hx
      rw [← hx, List.getElem?_map, Option.map_eq_some_iff] at hd
      obtain ⟨y, hy, hy1⟩ := hd
      have hxl : xs.length = n := by simpa using Lib.mapM_length hm'
      have hi : i < n := by rw [← hxl]; exact (List.getElem?_eq_some_iff.1 hy).1
      obtain ⟨b, hb, hf⟩ := Lib.mapM_at hm' i i (by simp [hi])
      rw [hy] at hb
      obtain rfl := Option.some.inj hb
      have e0 := hk enc w base sp held fuel _ _ hf hy1
      rw [← e0, List.getElem?_take_of_lt hj, List.getElem?_drop]
    · cases h
/-- A listed table's cells. -/
theorem laid_cells {W : World} {name : String} {ds : List (DataW Unit)} {rest : List (String × DataW Unit)} {g : Nat} {e : TypeId} {n m : Nat}
    (hg : P.globalNamed name = some g) (hty : (P.globals[g]?).map (·.type) = some t) (ht : P.underlying t = some (.array n e)) (hm : P.cellsOf e = m) (hc : P.cellsOf t = n * m) (hm0 : 0 < m) (hn : 0 < n)
    (h : laidMet P ((name, .agg ds) :: rest) W) : g < W.heap.size ∧ ∀ i d c0, ds[i]? = some d → Knows P e d c0 → ∀ j, j < m → W.cell? ⟨g, i * m + j, none⟩ = c0[j]? := by
  obtain ⟨ps, ⟨g', t', cs, fuel, p, q, hg', ht', hvar, hd, _, _⟩, _⟩ := h
  obtain rfl := Option.some.inj (hg.symm.trans hg')
  obtain rfl := Option.some.inj (hty.symm.trans ht')
  have hv := World.var?_cell hg hvar
  obtain ⟨hl, hk⟩ := knows_array ht hm hc hd rfl
  refine ⟨?_, fun i d c0 hd hkn j hj => ?_⟩
  · have h0 := hv 0
    have : 0 < cs.toList.length := by rw [hl]; exact Nat.mul_pos hn hm0
    obtain ⟨v, hv0⟩ : ∃ v, W.cell? ⟨g, 0, none⟩ = some v := by
      refine ⟨cs.toList[0], ?_⟩
      rw [h0]
      simp
    exact World.block_lt_of_cell? W _ hv0
  · have := hk i d c0 hd hkn j hj
    rw [hv]
    simpa using this
end Go.Proofs.YtlbphlhbofjfgaaDoor.tabs
