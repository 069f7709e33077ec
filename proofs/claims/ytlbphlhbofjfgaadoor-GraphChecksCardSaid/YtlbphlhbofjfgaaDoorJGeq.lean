/-
  '!=' of an element of the document's graph and itself (by gen_eq.py).
-/
import Derived.Test.YtlbphlhbofjfgaaDoorJGe
namespace Go.Proofs.YtlbphlhbofjfgaaDoor.graph
open Go.ChangeShapes Go.WideShapes Go.ChangeAt Go.RowKit Go.Shelf
open Go.Proofs.YtlbphlhbofjfgaaDoor.opened Go.Proofs.YtlbphlhbofjfgaaDoor.block Go.Proofs.YtlbphlhbofjfgaaDoor.words
theorem plainS9 : Tryd.prog.plainKey 9 = true := by kernel_rfl
theorem plainI9 : Tryd.prog.plainKey 3 = true := by kernel_rfl
theorem plainL9 : Tryd.prog.plainKey 2 = true := by kernel_rfl
theorem fieldsCluster9 : (Tryd.prog.fieldsOf 67).toList.map (fun f => (f.name == "_", f.type, f.offset)) = [(false, 9, 0), (false, 3, 1)] := by kernel_rfl
theorem namesCluster9 : ∃ f g : Field, (Tryd.prog.fieldsOf 67).toList = [f, g] ∧ f.name ≠ "_" ∧ f.type = 9 ∧ f.offset = 0 ∧ g.name ≠ "_" ∧ g.type = 3 ∧ g.offset = 1 := by
  have k := fieldsCluster9
  generalize (Tryd.prog.fieldsOf 67).toList = l at k
  obtain _ | ⟨f, l0⟩ := l
  · simp at k
  obtain _ | ⟨g, l1⟩ := l0
  · simp at k
  obtain _ | ⟨z, lz⟩ := l1
  · simp at k
    obtain ⟨⟨a0, b0, c0⟩, ⟨a1, b1, c1⟩⟩ := k
    exact ⟨f, g, rfl, a0, b0, c0, a1, b1, c1⟩
  · simp at k
set_option maxRecDepth 100000 in
theorem eqCluster9 (a0 : ByteArray) (a1 : Int) (w : World) : (Op.equalIn 10000 67 (.agg #[.string a0, .int .i64 a1]) (.agg #[.string a0, .int .i64 a1])).run Tryd.prog w = .ok true w := by
  obtain ⟨f, g, hl, n0, t0, o0, n1, t1, o1⟩ := namesCluster9
  rw [run_equalIn_struct w 9999 67 _ _ (by kernel_rfl) (by kernel_rfl), hl]
  have p0 := run_part_plain (P := Tryd.prog) w plainS9 (xs := #[.string a0, .int .i64 a1]) (off := 0) (v := .string a0) (by simp)
  have e0 := run_equalIn_string (P := Tryd.prog) w 9998 9 a0 a0 Tryd.underlying9
  have p1 := run_part_plain (P := Tryd.prog) w plainI9 (xs := #[.string a0, .int .i64 a1]) (off := 1) (v := .int .i64 a1) (by simp)
  have e1 := run_equalIn_int (P := Tryd.prog) w 9998 3 .i64 .i64 a1 a1 Tryd.underlying3
  simp only [Op.eqFields, n0, t0, o0, n1, t1, o1, ne_eq, not_false_eq_true, if_true, Sem.run_bind, p0, e0, p1, e1, Result.andThen_ok, beq_self_eq_true, Bool.not_true, Bool.false_eq_true, if_false]
  try rfl
theorem fieldsLoop9 : (Tryd.prog.fieldsOf 69).toList.map (fun f => (f.name == "_", f.type, f.offset)) = [(false, 9, 0), (false, 3, 1), (false, 3, 2)] := by kernel_rfl
theorem namesLoop9 : ∃ f g h : Field, (Tryd.prog.fieldsOf 69).toList = [f, g, h] ∧ f.name ≠ "_" ∧ f.type = 9 ∧ f.offset = 0 ∧ g.name ≠ "_" ∧ g.type = 3 ∧ g.offset = 1 ∧ h.name ≠ "_" ∧ h.type = 3 ∧ h.offset = 2 := by
  have k := fieldsLoop9
  generalize (Tryd.prog.fieldsOf 69).toList = l at k
  obtain _ | ⟨f, l0⟩ := l
  · simp at k
  obtain _ | ⟨g, l1⟩ := l0
  · simp at k
  obtain _ | ⟨h, l2⟩ := l1
  · simp at k
  obtain _ | ⟨z, lz⟩ := l2
  · simp at k
    obtain ⟨⟨a0, b0, c0⟩, ⟨a1, b1, c1⟩, ⟨a2, b2, c2⟩⟩ := k
    exact ⟨f, g, h, rfl, a0, b0, c0, a1, b1, c1, a2, b2, c2⟩
  · simp at k
set_option maxRecDepth 100000 in
theorem eqLoop9 (a0 : ByteArray) (a1 : Int) (a2 : Int) (w : World) : (Op.equalIn 10000 69 (.agg #[.string a0, .int .i64 a1, .int .i64 a2]) (.agg #[.string a0, .int .i64 a1, .int .i64 a2])).run Tryd.prog w = .ok true w := by
  obtain ⟨f, g, h, hl, n0, t0, o0, n1, t1, o1, n2, t2, o2⟩ := namesLoop9
  rw [run_equalIn_struct w 9999 69 _ _ (by kernel_rfl) (by kernel_rfl), hl]
  have p0 := run_part_plain (P := Tryd.prog) w plainS9 (xs := #[.string a0, .int .i64 a1, .int .i64 a2]) (off := 0) (v := .string a0) (by simp)
  have e0 := run_equalIn_string (P := Tryd.prog) w 9998 9 a0 a0 Tryd.underlying9
  have p1 := run_part_plain (P := Tryd.prog) w plainI9 (xs := #[.string a0, .int .i64 a1, .int .i64 a2]) (off := 1) (v := .int .i64 a1) (by simp)
  have e1 := run_equalIn_int (P := Tryd.prog) w 9998 3 .i64 .i64 a1 a1 Tryd.underlying3
  have p2 := run_part_plain (P := Tryd.prog) w plainI9 (xs := #[.string a0, .int .i64 a1, .int .i64 a2]) (off := 2) (v := .int .i64 a2) (by simp)
  have e2 := run_equalIn_int (P := Tryd.prog) w 9998 3 .i64 .i64 a2 a2 Tryd.underlying3
  simp only [Op.eqFields, n0, t0, o0, n1, t1, o1, n2, t2, o2, ne_eq, not_false_eq_true, if_true, Sem.run_bind, p0, e0, p1, e1, p2, e2, Result.andThen_ok, beq_self_eq_true, Bool.not_true, Bool.false_eq_true, if_false]
  try rfl
theorem fieldsOp9 : (Tryd.prog.fieldsOf 71).toList.map (fun f => (f.name == "_", f.type, f.offset)) = [(false, 9, 0), (false, 3, 1), (false, 3, 2), (false, 3, 3), (false, 2, 4), (false, 2, 5)] := by kernel_rfl
theorem namesOp9 : ∃ f g h i j k : Field, (Tryd.prog.fieldsOf 71).toList = [f, g, h, i, j, k] ∧ f.name ≠ "_" ∧ f.type = 9 ∧ f.offset = 0 ∧ g.name ≠ "_" ∧ g.type = 3 ∧ g.offset = 1 ∧ h.name ≠ "_" ∧ h.type = 3 ∧ h.offset = 2 ∧ i.name ≠ "_" ∧ i.type = 3 ∧ i.offset = 3 ∧ j.name ≠ "_" ∧ j.type = 2 ∧ j.offset = 4 ∧ k.name ≠ "_" ∧ k.type = 2 ∧ k.offset = 5 := by
  have k := fieldsOp9
  generalize (Tryd.prog.fieldsOf 71).toList = l at k
  obtain _ | ⟨f, l0⟩ := l
  · simp at k
  obtain _ | ⟨g, l1⟩ := l0
  · simp at k
  obtain _ | ⟨h, l2⟩ := l1
  · simp at k
  obtain _ | ⟨i, l3⟩ := l2
  · simp at k
  obtain _ | ⟨j, l4⟩ := l3
  · simp at k
  obtain _ | ⟨k, l5⟩ := l4
  · simp at k
  obtain _ | ⟨z, lz⟩ := l5
  · simp at k
    obtain ⟨⟨a0, b0, c0⟩, ⟨a1, b1, c1⟩, ⟨a2, b2, c2⟩, ⟨a3, b3, c3⟩, ⟨a4, b4, c4⟩, ⟨a5, b5, c5⟩⟩ := k
    exact ⟨f, g, h, i, j, k, rfl, a0, b0, c0, a1, b1, c1, a2, b2, c2, a3, b3, c3, a4, b4, c4, a5, b5, c5⟩
  · simp at k
set_option maxRecDepth 100000 in
theorem eqOp9 (a0 : ByteArray) (a1 : Int) (a2 : Int) (a3 : Int) (a4 : Int) (a5 : Int) (w : World) : (Op.equalIn 10000 71 (.agg #[.string a0, .int .i64 a1, .int .i64 a2, .int .i64 a3, .int .i64 a4, .int .i64 a5]) (.agg #[.string a0, .int .i64 a1, .int .i64 a2, .int .i64 a3, .int .i64 a4, .int .i64 a5])).run Tryd.prog w = .ok true w := by
  obtain ⟨f, g, h, i, j, k, hl, n0, t0, o0, n1, t1, o1, n2, t2, o2, n3, t3, o3, n4, t4, o4, n5, t5, o5⟩ := namesOp9
  rw [run_equalIn_struct w 9999 71 _ _ (by kernel_rfl) (by kernel_rfl), hl]
  have p0 := run_part_plain (P := Tryd.prog) w plainS9 (xs := #[.string a0, .int .i64 a1, .int .i64 a2, .int .i64 a3, .int .i64 a4, .int .i64 a5]) (off := 0) (v := .string a0) (by simp)
  have e0 := run_equalIn_string (P := Tryd.prog) w 9998 9 a0 a0 Tryd.underlying9
  have p1 := run_part_plain (P := Tryd.prog) w plainI9 (xs := #[.string a0, .int .i64 a1, .int .i64 a2, .int .i64 a3, .int .i64 a4, .int .i64 a5]) (off := 1) (v := .int .i64 a1) (by simp)
  have e1 := run_equalIn_int (P := Tryd.prog) w 9998 3 .i64 .i64 a1 a1 Tryd.underlying3
  have p2 := run_part_plain (P := Tryd.prog) w plainI9 (xs := #[.string a0, .int .i64 a1, .int .i64 a2, .int .i64 a3, .int .i64 a4, .int .i64 a5]) (off := 2) (v := .int .i64 a2) (by simp)
  have e2 := run_equalIn_int (P := Tryd.prog) w 9998 3 .i64 .i64 a2 a2 Tryd.underlying3
  have p3 := run_part_plain (P := Tryd.prog) w plainI9 (xs := #[.string a0, .int .i64 a1, .int .i64 a2, .int .i64 a3, .int .i64 a4, .int .i64 a5]) (off := 3) (v := .int .i64 a3) (by simp)
  have e3 := run_equalIn_int (P := Tryd.prog) w 9998 3 .i64 .i64 a3 a3 Tryd.underlying3
  have p4 := run_part_plain (P := Tryd.prog) w plainL9 (xs := #[.string a0, .int .i64 a1, .int .i64 a2, .int .i64 a3, .int .i64 a4, .int .i64 a5]) (off := 4) (v := .int .i64 a4) (by simp)
  have e4 := run_equalIn_int (P := Tryd.prog) w 9998 2 .i64 .i64 a4 a4 Tryd.underlying2
  have p5 := run_part_plain (P := Tryd.prog) w plainL9 (xs := #[.string a0, .int .i64 a1, .int .i64 a2, .int .i64 a3, .int .i64 a4, .int .i64 a5]) (off := 5) (v := .int .i64 a5) (by simp)
  have e5 := run_equalIn_int (P := Tryd.prog) w 9998 2 .i64 .i64 a5 a5 Tryd.underlying2
  simp only [Op.eqFields, n0, t0, o0, n1, t1, o1, n2, t2, o2, n3, t3, o3, n4, t4, o4, n5, t5, o5, ne_eq, not_false_eq_true, if_true, Sem.run_bind, p0, e0, p1, e1, p2, e2, p3, e3, p4, e4, p5, e5, Result.andThen_ok, beq_self_eq_true, Bool.not_true, Bool.false_eq_true, if_false]
  try rfl
theorem fieldsChannel9 : (Tryd.prog.fieldsOf 76).toList.map (fun f => (f.name == "_", f.type, f.offset)) = [(false, 3, 0), (false, 3, 1)] := by kernel_rfl
theorem namesChannel9 : ∃ f g : Field, (Tryd.prog.fieldsOf 76).toList = [f, g] ∧ f.name ≠ "_" ∧ f.type = 3 ∧ f.offset = 0 ∧ g.name ≠ "_" ∧ g.type = 3 ∧ g.offset = 1 := by
  have k := fieldsChannel9
  generalize (Tryd.prog.fieldsOf 76).toList = l at k
  obtain _ | ⟨f, l0⟩ := l
  · simp at k
  obtain _ | ⟨g, l1⟩ := l0
  · simp at k
  obtain _ | ⟨z, lz⟩ := l1
  · simp at k
    obtain ⟨⟨a0, b0, c0⟩, ⟨a1, b1, c1⟩⟩ := k
    exact ⟨f, g, rfl, a0, b0, c0, a1, b1, c1⟩
  · simp at k
set_option maxRecDepth 100000 in
theorem eqChannel9 (a0 : Int) (a1 : Int) (w : World) : (Op.equalIn 10000 76 (.agg #[.int .i64 a0, .int .i64 a1]) (.agg #[.int .i64 a0, .int .i64 a1])).run Tryd.prog w = .ok true w := by
  obtain ⟨f, g, hl, n0, t0, o0, n1, t1, o1⟩ := namesChannel9
  rw [run_equalIn_struct w 9999 76 _ _ (by kernel_rfl) (by kernel_rfl), hl]
  have p0 := run_part_plain (P := Tryd.prog) w plainI9 (xs := #[.int .i64 a0, .int .i64 a1]) (off := 0) (v := .int .i64 a0) (by simp)
  have e0 := run_equalIn_int (P := Tryd.prog) w 9998 3 .i64 .i64 a0 a0 Tryd.underlying3
  have p1 := run_part_plain (P := Tryd.prog) w plainI9 (xs := #[.int .i64 a0, .int .i64 a1]) (off := 1) (v := .int .i64 a1) (by simp)
  have e1 := run_equalIn_int (P := Tryd.prog) w 9998 3 .i64 .i64 a1 a1 Tryd.underlying3
  simp only [Op.eqFields, n0, t0, o0, n1, t1, o1, ne_eq, not_false_eq_true, if_true, Sem.run_bind, p0, e0, p1, e1, Result.andThen_ok, beq_self_eq_true, Bool.not_true, Bool.false_eq_true, if_false]
  try rfl
end Go.Proofs.YtlbphlhbofjfgaaDoor.graph
