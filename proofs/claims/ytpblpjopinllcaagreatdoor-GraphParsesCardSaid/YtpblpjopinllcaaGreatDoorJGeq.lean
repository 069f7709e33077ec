/-
  '!=' of an element of the document's graph and itself (by gen_eq.py).
-/
import Derived.Test.YtpblpjopinllcaaGreatDoorJLayC
namespace Go.Proofs.YtpblpjopinllcaaGreatDoor.graph
open Go.ChangeShapes Go.WideShapes Go.ChangeAt Go.RowKit Go.Shelf
open Go.Proofs.YtpblpjopinllcaaGreatDoor.opened Go.Proofs.YtpblpjopinllcaaGreatDoor.block Go.Proofs.YtpblpjopinllcaaGreatDoor.words
theorem plainS9 : Tryz.prog.plainKey 9 = true := by kernel_rfl
theorem plainI9 : Tryz.prog.plainKey 3 = true := by kernel_rfl
theorem plainL9 : Tryz.prog.plainKey 2 = true := by kernel_rfl
theorem fieldsCluster9 : (Tryz.prog.fieldsOf 137).toList.map (fun f => (f.name == "_", f.type, f.offset)) = [(false, 9, 0), (false, 3, 1)] := by kernel_rfl
theorem namesCluster9 : ∃ f g : Field, (Tryz.prog.fieldsOf 137).toList = [f, g] ∧ f.name ≠ "_" ∧ f.type = 9 ∧ f.offset = 0 ∧ g.name ≠ "_" ∧ g.type = 3 ∧ g.offset = 1 := by
  have k := fieldsCluster9
  generalize (Tryz.prog.fieldsOf 137).toList = l at k
  obtain _ | ⟨f, l0⟩ := l
  · simp at k
  obtain _ | ⟨g, l1⟩ := l0
  · simp at k
  obtain _ | ⟨z, lz⟩ := l1
  · simp at k
    obtain ⟨⟨a0, b0, c0⟩, ⟨a1, b1, c1⟩⟩ := k
    exact ⟨f, g, rfl, a0, b0, c0, a1, b1, c1⟩
  · simp at k
set_option maxRecDepth 100000 in
theorem eqCluster9 (a0 : ByteArray) (a1 : Int) (w : World) : (Op.equalIn 10000 137 (.agg #[.string a0, .int .i64 a1]) (.agg #[.string a0, .int .i64 a1])).run Tryz.prog w = .ok true w := by
  obtain ⟨f, g, hl, n0, t0, o0, n1, t1, o1⟩ := namesCluster9
  rw [run_equalIn_struct w 9999 137 _ _ (by kernel_rfl) (by kernel_rfl), hl]
  have p0 := run_part_plain (P := Tryz.prog) w plainS9 (xs := #[.string a0, .int .i64 a1]) (off := 0) (v := .string a0) (by simp)
  have e0 := run_equalIn_string (P := Tryz.prog) w 9998 9 a0 a0 Tryz.underlying9
  have p1 := run_part_plain (P := Tryz.prog) w plainI9 (xs := #[.string a0, .int .i64 a1]) (off := 1) (v := .int .i64 a1) (by simp)
  have e1 := run_equalIn_int (P := Tryz.prog) w 9998 3 .i64 .i64 a1 a1 Tryz.underlying3
  simp only [Op.eqFields, n0, t0, o0, n1, t1, o1, ne_eq, not_false_eq_true, if_true, Sem.run_bind, p0, e0, p1, e1, Result.andThen_ok, beq_self_eq_true, Bool.not_true, Bool.false_eq_true, if_false]
  try rfl
theorem fieldsLoop9 : (Tryz.prog.fieldsOf 139).toList.map (fun f => (f.name == "_", f.type, f.offset)) = [(false, 9, 0), (false, 3, 1), (false, 3, 2)] := by kernel_rfl
theorem namesLoop9 : ∃ f g h : Field, (Tryz.prog.fieldsOf 139).toList = [f, g, h] ∧ f.name ≠ "_" ∧ f.type = 9 ∧ f.offset = 0 ∧ g.name ≠ "_" ∧ g.type = 3 ∧ g.offset = 1 ∧ h.name ≠ "_" ∧ h.type = 3 ∧ h.offset = 2 := by
  have k := fieldsLoop9
  generalize (Tryz.prog.fieldsOf 139).toList = l at k
  obtain _ | ⟨f, l0⟩ := l
  · simp at k
  obtain _ | ⟨g, l1⟩ := l0
  · simp at k
  obtain _ | ⟨h, l2⟩ := l1
  · simp at k
  obtain _ | ⟨z, lz⟩ := l2
  · simp at k
    obtain ⟨⟨a0, b0, c0⟩, ⟨a1, b1, c1⟩, ⟨a2, b2, c2⟩⟩ := k
    exact ⟨f, g, h, rfl, a0, b0, c0, a1, b1, c1, a2, b2, c2⟩
  · simp at k
set_option maxRecDepth 100000 in
theorem eqLoop9 (a0 : ByteArray) (a1 : Int) (a2 : Int) (w : World) : (Op.equalIn 10000 139 (.agg #[.string a0, .int .i64 a1, .int .i64 a2]) (.agg #[.string a0, .int .i64 a1, .int .i64 a2])).run Tryz.prog w = .ok true w := by
  obtain ⟨f, g, h, hl, n0, t0, o0, n1, t1, o1, n2, t2, o2⟩ := namesLoop9
  rw [run_equalIn_struct w 9999 139 _ _ (by kernel_rfl) (by kernel_rfl), hl]
  have p0 := run_part_plain (P := Tryz.prog) w plainS9 (xs := #[.string a0, .int .i64 a1, .int .i64 a2]) (off := 0) (v := .string a0) (by simp)
  have e0 := run_equalIn_string (P := Tryz.prog) w 9998 9 a0 a0 Tryz.underlying9
  have p1 := run_part_plain (P := Tryz.prog) w plainI9 (xs := #[.string a0, .int .i64 a1, .int .i64 a2]) (off := 1) (v := .int .i64 a1) (by simp)
  have e1 := run_equalIn_int (P := Tryz.prog) w 9998 3 .i64 .i64 a1 a1 Tryz.underlying3
  have p2 := run_part_plain (P := Tryz.prog) w plainI9 (xs := #[.string a0, .int .i64 a1, .int .i64 a2]) (off := 2) (v := .int .i64 a2) (by simp)
  have e2 := run_equalIn_int (P := Tryz.prog) w 9998 3 .i64 .i64 a2 a2 Tryz.underlying3
  simp only [Op.eqFields, n0, t0, o0, n1, t1, o1, n2, t2, o2, ne_eq, not_false_eq_true, if_true, Sem.run_bind, p0, e0, p1, e1, p2, e2, Result.andThen_ok, beq_self_eq_true, Bool.not_true, Bool.false_eq_true, if_false]
  try rfl
theorem fieldsOp9 : (Tryz.prog.fieldsOf 141).toList.map (fun f => (f.name == "_", f.type, f.offset)) = [(false, 9, 0), (false, 3, 1), (false, 3, 2), (false, 3, 3), (false, 2, 4), (false, 2, 5)] := by kernel_rfl
theorem namesOp9 : ∃ f g h i j k : Field, (Tryz.prog.fieldsOf 141).toList = [f, g, h, i, j, k] ∧ f.name ≠ "_" ∧ f.type = 9 ∧ f.offset = 0 ∧ g.name ≠ "_" ∧ g.type = 3 ∧ g.offset = 1 ∧ h.name ≠ "_" ∧ h.type = 3 ∧ h.offset = 2 ∧ i.name ≠ "_" ∧ i.type = 3 ∧ i.offset = 3 ∧ j.name ≠ "_" ∧ j.type = 2 ∧ j.offset = 4 ∧ k.name ≠ "_" ∧ k.type = 2 ∧ k.offset = 5 := by
  have k := fieldsOp9
  generalize (Tryz.prog.fieldsOf 141).toList = l at k
  obtain _ | ⟨f, l0⟩ := l
  · simp at k
  obtain _ | ⟨g, l1⟩ := l0
  · simp at k
  obtain _ | ⟨h, l2⟩ := l1
  · simp at k
  obtain _ | ⟨i, l3⟩ := l2
  · simp at k
  obtain _ | ⟨j, l4⟩ := l3
  · simp at k
  obtain _ | ⟨k, l5⟩ := l4
  · simp at k
  obtain _ | ⟨z, lz⟩ := l5
  · simp at k
    obtain ⟨⟨a0, b0, c0⟩, ⟨a1, b1, c1⟩, ⟨a2, b2, c2⟩, ⟨a3, b3, c3⟩, ⟨a4, b4, c4⟩, ⟨a5, b5, c5⟩⟩ := k
    exact ⟨f, g, h, i, j, k, rfl, a0, b0, c0, a1, b1, c1, a2, b2, c2, a3, b3, c3, a4, b4, c4, a5, b5, c5⟩
  · simp at k
set_option maxRecDepth 100000 in
theorem eqOp9 (a0 : ByteArray) (a1 : Int) (a2 : Int) (a3 : Int) (a4 : Int) (a5 : Int) (w : World) : (Op.equalIn 10000 141 (.agg #[.string a0, .int .i64 a1, .int .i64 a2, .int .i64 a3, .int .i64 a4, .int .i64 a5]) (.agg #[.string a0, .int .i64 a1, .int .i64 a2, .int .i64 a3, .int .i64 a4, .int .i64 a5])).run Tryz.prog w = .ok true w := by
  obtain ⟨f, g, h, i, j, k, hl, n0, t0, o0, n1, t1, o1, n2, t2, o2, n3, t3, o3, n4, t4, o4, n5, t5, o5⟩ := namesOp9
  rw [run_equalIn_struct w 9999 141 _ _ (by kernel_rfl) (by kernel_rfl), hl]
  have p0 := run_part_plain (P := Tryz.prog) w plainS9 (xs := #[.string a0, .int .i64 a1, .int .i64 a2, .int .i64 a3, .int .i64 a4, .int .i64 a5]) (off := 0) (v := .string a0) (by simp)
  have e0 := run_equalIn_string (P := Tryz.prog) w 9998 9 a0 a0 Tryz.underlying9
  have p1 := run_part_plain (P := Tryz.prog) w plainI9 (xs := #[.string a0, .int .i64 a1, .int .i64 a2, .int .i64 a3, .int .i64 a4, .int .i64 a5]) (off := 1) (v := .int .i64 a1) (by simp)
  have e1 := run_equalIn_int (P := Tryz.prog) w 9998 3 .i64 .i64 a1 a1 Tryz.underlying3
  have p2 := run_part_plain (P := Tryz.prog) w plainI9 (xs := #[.string a0, .int .i64 a1, .int .i64 a2, .int .i64 a3, .int .i64 a4, .int .i64 a5]) (off := 2) (v := .int .i64 a2) (by simp)
  have e2 := run_equalIn_int (P := Tryz.prog) w 9998 3 .i64 .i64 a2 a2 Tryz.underlying3
  have p3 := run_part_plain (P := Tryz.prog) w plainI9 (xs := #[.string a0, .int .i64 a1, .int .i64 a2, .int .i64 a3, .int .i64 a4, .int .i64 a5]) (off := 3) (v := .int .i64 a3) (by simp)
  have e3 := run_equalIn_int (P := Tryz.prog) w 9998 3 .i64 .i64 a3 a3 Tryz.underlying3
  have p4 := run_part_plain (P := Tryz.prog) w plainL9 (xs := #[.string a0, .int .i64 a1, .int .i64 a2, .int .i64 a3, .int .i64 a4, .int .i64 a5]) (off := 4) (v := .int .i64 a4) (by simp)
  have e4 := run_equalIn_int (P := Tryz.prog) w 9998 2 .i64 .i64 a4 a4 Tryz.underlying2
  have p5 := run_part_plain (P := Tryz.prog) w plainL9 (xs := #[.string a0, .int .i64 a1, .int .i64 a2, .int .i64 a3, .int .i64 a4, .int .i64 a5]) (off := 5) (v := .int .i64 a5) (by simp)
  have e5 := run_equalIn_int (P := Tryz.prog) w 9998 2 .i64 .i64 a5 a5 Tryz.underlying2
  simp only [Op.eqFields, n0, t0, o0, n1, t1, o1, n2, t2, o2, n3, t3, o3, n4, t4, o4, n5, t5, o5, ne_eq, not_false_eq_true, if_true, Sem.run_bind, p0, e0, p1, e1, p2, e2, p3, e3, p4, e4, p5, e5, Result.andThen_ok, beq_self_eq_true, Bool.not_true, Bool.false_eq_true, if_false]
  try rfl
theorem fieldsChannel9 : (Tryz.prog.fieldsOf 142).toList.map (fun f => (f.name == "_", f.type, f.offset)) = [(false, 3, 0), (false, 3, 1)] := by kernel_rfl
theorem namesChannel9 : ∃ f g : Field, (Tryz.prog.fieldsOf 142).toList = [f, g] ∧ f.name ≠ "_" ∧ f.type = 3 ∧ f.offset = 0 ∧ g.name ≠ "_" ∧ g.type = 3 ∧ g.offset = 1 := by
  have k := fieldsChannel9
  generalize (Tryz.prog.fieldsOf 142).toList = l at k
  obtain _ | ⟨f, l0⟩ := l
  · simp at k
  obtain _ | ⟨g, l1⟩ := l0
  · simp at k
  obtain _ | ⟨z, lz⟩ := l1
  · simp at k
    obtain ⟨⟨a0, b0, c0⟩, ⟨a1, b1, c1⟩⟩ := k
    exact ⟨f, g, rfl, a0, b0, c0, a1, b1, c1⟩
  · simp at k
set_option maxRecDepth 100000 in
theorem eqChannel9 (a0 : Int) (a1 : Int) (w : World) : (Op.equalIn 10000 142 (.agg #[.int .i64 a0, .int .i64 a1]) (.agg #[.int .i64 a0, .int .i64 a1])).run Tryz.prog w = .ok true w := by
  obtain ⟨f, g, hl, n0, t0, o0, n1, t1, o1⟩ := namesChannel9
  rw [run_equalIn_struct w 9999 142 _ _ (by kernel_rfl) (by kernel_rfl), hl]
  have p0 := run_part_plain (P := Tryz.prog) w plainI9 (xs := #[.int .i64 a0, .int .i64 a1]) (off := 0) (v := .int .i64 a0) (by simp)
  have e0 := run_equalIn_int (P := Tryz.prog) w 9998 3 .i64 .i64 a0 a0 Tryz.underlying3
  have p1 := run_part_plain (P := Tryz.prog) w plainI9 (xs := #[.int .i64 a0, .int .i64 a1]) (off := 1) (v := .int .i64 a1) (by simp)
  have e1 := run_equalIn_int (P := Tryz.prog) w 9998 3 .i64 .i64 a1 a1 Tryz.underlying3
  simp only [Op.eqFields, n0, t0, o0, n1, t1, o1, ne_eq, not_false_eq_true, if_true, Sem.run_bind, p0, e0, p1, e1, Result.andThen_ok, beq_self_eq_true, Bool.not_true, Bool.false_eq_true, if_false]
  try rfl
end Go.Proofs.YtpblpjopinllcaaGreatDoor.graph
