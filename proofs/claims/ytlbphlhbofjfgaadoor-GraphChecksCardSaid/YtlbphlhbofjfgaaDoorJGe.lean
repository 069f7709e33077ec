/-
  '==' of two channels; slices.Contains over channels.
-/
import Derived.Test.YtlbphlhbofjfgaaDoorJGn1
import Derived.Test.YtlbphlhbofjfgaaDoorJLayC
import Derived.ChangeKeysEq
import Derived.Laws.StructEq
namespace Go.Proofs.YtlbphlhbofjfgaaDoor.graph
open Go.ChangeShapes Go.WideShapes Go.ChangeAt Go.RowKit Go.Shelf
open Go.Proofs.YtlbphlhbofjfgaaDoor.opened Go.Proofs.YtlbphlhbofjfgaaDoor.block Go.Proofs.YtlbphlhbofjfgaaDoor.words
instance : Inhabited Ch := ⟨⟨0, 0⟩⟩
theorem fieldsCh : (Tryd.prog.fieldsOf 77).toList.map (fun f => (f.name == "_", f.type, f.offset)) = [(false, 3, 0), (false, 3, 1)] := by kernel_rfl
theorem namesCh : ∃ f g : Field, (Tryd.prog.fieldsOf 77).toList = [f, g] ∧ f.name ≠ "_" ∧ f.type = 3 ∧ f.offset = 0 ∧ g.name ≠ "_" ∧ g.type = 3 ∧ g.offset = 1 := by
  have k := fieldsCh
  match hq : (Tryd.prog.fieldsOf 77).toList with
  | [f, g] =>
    rw [hq] at k
    simp at k
    obtain ⟨⟨a1, a2, a3⟩, b1, b2, b3⟩ := k
    exact ⟨f, g, rfl, a1, a2, a3, b1, b2, b3⟩
  | [] => rw [hq] at k; simp at k
  | [_] => rw [hq] at k; simp at k
  | _ :: _ :: _ :: _ => rw [hq] at k; simp at k
theorem descCh : Tryd.prog.underlying 77 = some (.struct (Tryd.prog.fieldsOf 77)) := by kernel_rfl
theorem stoodCh : Tryd.prog.stoodInHeld 77 = false := by kernel_rfl
theorem plainI : Tryd.prog.plainKey 3 = true := by kernel_rfl
set_option maxRecDepth 100000 in
theorem run_eqCh (p q : Ch) (w : World) : (binOp .eql 77 (.agg #[.int .i64 p.f, .int .i64 p.t]) (.agg #[.int .i64 q.f, .int .i64 q.t])).run Tryd.prog w = .ok (.bool (decide (p = q))) w := by
  obtain ⟨f, g, hl, f1, f2, f3, g1, g2, g3⟩ := namesCh
  have k : (Op.equalIn 10000 77 (.agg #[.int .i64 p.f, .int .i64 p.t]) (.agg #[.int .i64 q.f, .int .i64 q.t])).run Tryd.prog w = .ok (p.f == q.f && p.t == q.t) w := by
    rw [run_equalIn_struct w 9999 77 _ _ descCh stoodCh, hl]
    simp only [Op.eqFields, f1, g1, f2, g2, f3, g3, ne_eq, not_false_eq_true, if_true, Sem.run_bind]
    rw [run_part_plain w plainI (v := .int .i64 p.f) (by simp)]
    simp only [Result.andThen_ok]
    rw [run_part_plain w plainI (v := .int .i64 q.f) (by simp)]
    simp only [Result.andThen_ok]
    rw [run_equalIn_int w 9998 3 .i64 .i64 _ _ Tryd.underlying3]
    simp only [Result.andThen_ok]
    cases e0 : p.f == q.f
    · simp
    · simp only [Bool.not_true, Bool.false_eq_true, if_false, Sem.run_bind]
      rw [run_part_plain w plainI (v := .int .i64 p.t) (by simp)]
      simp only [Result.andThen_ok]
      rw [run_part_plain w plainI (v := .int .i64 q.t) (by simp)]
      simp only [Result.andThen_ok]
      rw [run_equalIn_int w 9998 3 .i64 .i64 _ _ Tryd.underlying3]
      simp only [Result.andThen_ok]
      cases e1 : p.t == q.t
      · simp
      · simp
  rw [run_eql_struct, k]
  simp only [Result.andThen_ok]
  congr 2
  rw [Bool.eq_iff_iff]
  obtain ⟨s, m⟩ := p
  obtain ⟨t, n⟩ := q
  simp
theorem eqCh : EqlAt Tryd.prog 77 (fun x : Ch => .agg (cCh x).toArray) (fun x y => decide (x = y)) := ⟨fun x y w => run_eqCh x y w, GuardAt.agg _ (by kernel_rfl)⟩
theorem cells_ch {w : World} {A : Option Addr} {M : List Ch} {b off : Nat} (h : Lg 2 cCh w A M) (hA : A = some ⟨b, off, none⟩) : ∀ j, j < M.length → ∀ i v, (cCh M[j]!)[i]? = some v → w.cell? ⟨b, off + j * 2 + i, none⟩ = some v := by
  intro j hj i v hi
  have hx : M[j]? = some M[j]! := by rw [List.getElem?_eq_getElem hj, getElem!_pos M j hj]
  obtain ⟨b1, o1, hA1, hb1, hc⟩ := h.cells hx
  rw [hA] at hA1
  injection (Option.some.inj hA1) with h1 h2
  subst h1 h2
  have hi3 : i < 2 := by
    have := (List.getElem?_eq_some_iff.1 hi).1
    simpa [cCh] using this
  rw [← hi, ← hc i hi3, Nat.add_assoc]
/-- Is a channel among the first k of a row? -/
theorem has_any (b off c k : Nat) (M : List Ch) (x : Ch) (w : World) (hk : k ≤ M.length) (h48 : M.length ≤ 48) (h : Lg 2 cCh w (some ⟨b, off, none⟩) M) :
    Calls Tryd.prog 68 #[.slice (some ⟨b, off, none⟩) k c, .agg #[.int .i64 x.f, .int .i64 x.t]] w fun e w' => e = .returned (.bool (decide (x ∈ M.take k))) ∧ Below w.heap.size w w' := by
  have hcon := AnyQ.slices_Contains Tryd.lQc 2 Tryd.isAgg77 Tryd.sizeOf77 cCh (fun _ => rfl) (fun x y => decide (x = y)) eqCh b off k c M x w hk (by omega) (cells_ch h rfl)
  change Calls Tryd.prog 68 _ _ _ at hcon
  have e : ((M.take k).any fun y => decide (x = y)) = decide (x ∈ M.take k) := by
    rw [Bool.eq_iff_iff]
    simp
  rw [e] at hcon
  exact hcon
end Go.Proofs.YtlbphlhbofjfgaaDoor.graph
