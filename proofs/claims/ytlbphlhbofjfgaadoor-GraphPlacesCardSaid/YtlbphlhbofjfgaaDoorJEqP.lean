/-
  '==' of two paths.
-/
import Derived.Test.YtlbphlhbofjfgaaDoorJEq
import Derived.Test.YtlbphlhbofjfgaaDoorJPa
namespace Go.Proofs.YtlbphlhbofjfgaaDoor.path
open Go.ChangeShapes Go.WideShapes Go.ChangeAt Go.RowKit
open Go.Proofs.YtlbphlhbofjfgaaDoor.tm Go.Proofs.YtlbphlhbofjfgaaDoor.opened Go.Proofs.YtlbphlhbofjfgaaDoor.block Go.Proofs.YtlbphlhbofjfgaaDoor.stamp Go.Proofs.YtlbphlhbofjfgaaDoor.pa

theorem range4 : List.range 4 = [0, 1, 2, 3] := by decide
theorem run_eq4 (d : Nat) (x0 x1 x2 x3 y0 y1 y2 y3 : Int) (w : World) : (Op.equalIn (d + 2) 55 (.agg #[.int .u32 x0, .int .u32 x1, .int .u32 x2, .int .u32 x3]) (.agg #[.int .u32 y0, .int .u32 y1, .int .u32 y2, .int .u32 y3])).run Tryd.prog w = .ok (x0 == y0 && (x1 == y1 && (x2 == y2 && x3 == y3))) w := by
  obtain ⟨i, hi⟩ := info22
  have p : ∀ (l : Array Value) (k : Nat) (x : Int) (w : World), l[k]? = some (.int .u32 x) → (part 48 l k).run Tryd.prog w = .ok (.int .u32 x) w := fun l k x w h => run_part_plain w plain22 h
  rw [run_equalIn_array w (d + 1) _ _ Tryd.underlying55 hi, cells22, range4]
  simp only [Op.eqItems, Sem.run_bind]
  rw [p _ _ x0 w (by simp)]
  simp only [Result.andThen_ok]
  rw [p _ _ y0 w (by simp)]
  simp only [Result.andThen_ok]
  rw [run_u32]
  simp only [Result.andThen_ok]
  cases h0 : x0 == y0
  · simp
  · simp only [Bool.not_true, Bool.false_eq_true, if_false, Sem.run_bind]
    rw [p _ _ x1 w (by simp)]
    simp only [Result.andThen_ok]
    rw [p _ _ y1 w (by simp)]
    simp only [Result.andThen_ok]
    rw [run_u32]
    simp only [Result.andThen_ok]
    cases h1 : x1 == y1
    · simp
    · simp only [Bool.not_true, Bool.false_eq_true, if_false, Sem.run_bind]
      rw [p _ _ x2 w (by simp)]
      simp only [Result.andThen_ok]
      rw [p _ _ y2 w (by simp)]
      simp only [Result.andThen_ok]
      rw [run_u32]
      simp only [Result.andThen_ok]
      cases h2 : x2 == y2
      · simp
      · simp only [Bool.not_true, Bool.false_eq_true, if_false, Sem.run_bind]
        rw [p _ _ x3 w (by simp)]
        simp only [Result.andThen_ok]
        rw [p _ _ y3 w (by simp)]
        simp only [Result.andThen_ok]
        rw [run_u32]
        simp only [Result.andThen_ok]
        cases h3 : x3 == y3
        · simp
        · simp
theorem size4 : (Tryd.prog.info? 55).map (·.size) = some 4 := by kernel_rfl
theorem run_part4 (l : Array Value) (k : Nat) (w : World) : (part 55 l k).run Tryd.prog w = .ok (.agg (l.extract k (k + 4))) w := by
  have h := size4
  cases hq : Tryd.prog.info? 55 with
  | none => simp [hq] at h
  | some i =>
    have hs : i.size = 4 := by simpa [hq] using h
    simp [part, Sem.run_bind, sizeOf, typeInfo, hq, hs]
theorem run_part3 (l : Array Value) (k : Nat) (w : World) : (part 49 l k).run Tryd.prog w = .ok (.agg (l.extract k (k + 3))) w := by
  have h := size23
  cases hq : Tryd.prog.info? 49 with
  | none => simp [hq] at h
  | some i =>
    have hs : i.size = 3 := by simpa [hq] using h
    simp [part, Sem.run_bind, sizeOf, typeInfo, hq, hs]
/-- Are two paths one? -/
def eqP (p q : Pa) : Bool := decide (p = q)
theorem eqP_self (p : Pa) : eqP p p = true := by simp [eqP]
theorem eqP_no {p q : Pa} (h : p ≠ q) : eqP p q = false := by simp [eqP, h]
theorem fieldsP : (Tryd.prog.fieldsOf 57).toList.map (fun f => (f.name == "_", f.type, f.offset)) = [(false, 3, 0), (false, 3, 1), (false, 55, 2), (false, 3, 6), (false, 49, 7)] := by kernel_rfl
theorem namesP : ∃ a b c d e : Field, (Tryd.prog.fieldsOf 57).toList = [a, b, c, d, e] ∧ (a.name ≠ "_" ∧ a.type = 3 ∧ a.offset = 0) ∧ (b.name ≠ "_" ∧ b.type = 3 ∧ b.offset = 1) ∧ (c.name ≠ "_" ∧ c.type = 55 ∧ c.offset = 2) ∧ (d.name ≠ "_" ∧ d.type = 3 ∧ d.offset = 6) ∧ (e.name ≠ "_" ∧ e.type = 49 ∧ e.offset = 7) := by
  have k := fieldsP
  match hq : (Tryd.prog.fieldsOf 57).toList with
  | [a, b, c, d, e] =>
    rw [hq] at k
    simp at k
    obtain ⟨⟨a1, a2, a3⟩, ⟨b1, b2, b3⟩, ⟨c1, c2, c3⟩, ⟨d1, d2, d3⟩, e1, e2, e3⟩ := k
    exact ⟨a, b, c, d, e, rfl, ⟨a1, a2, a3⟩, ⟨b1, b2, b3⟩, ⟨c1, c2, c3⟩, ⟨d1, d2, d3⟩, e1, e2, e3⟩
  | [] => rw [hq] at k; simp at k
  | [_] => rw [hq] at k; simp at k
  | [_, _] => rw [hq] at k; simp at k
  | [_, _, _] => rw [hq] at k; simp at k
  | [_, _, _, _] => rw [hq] at k; simp at k
  | _ :: _ :: _ :: _ :: _ :: _ :: _ => rw [hq] at k; simp at k
theorem descP : Tryd.prog.underlying 57 = some (.struct (Tryd.prog.fieldsOf 57)) := by kernel_rfl
theorem stoodP : Tryd.prog.stoodInHeld 57 = false := by kernel_rfl
set_option maxRecDepth 100000 in
set_option maxHeartbeats 1000000 in
theorem run_eqP (p q : Pa) (w : World) : (binOp .eql 57 (.agg #[.int .i64 p.f, .int .i64 p.k, .int .u32 p.p0, .int .u32 p.p1, .int .u32 p.p2, .int .u32 p.p3, .int .i64 p.u, .int .u32 p.l0, .int .u32 p.l1, .int .u32 p.l2]) (.agg #[.int .i64 q.f, .int .i64 q.k, .int .u32 q.p0, .int .u32 q.p1, .int .u32 q.p2, .int .u32 q.p3, .int .i64 q.u, .int .u32 q.l0, .int .u32 q.l1, .int .u32 q.l2])).run Tryd.prog w = .ok (.bool (eqP p q)) w := by
  obtain ⟨a, b, c, d, e, hl, ⟨a1, a2, a3⟩, ⟨b1, b2, b3⟩, ⟨c1, c2, c3⟩, ⟨d1, d2, d3⟩, e1, e2, e3⟩ := namesP
  have r : (Op.equalIn 10000 57 (.agg #[.int .i64 p.f, .int .i64 p.k, .int .u32 p.p0, .int .u32 p.p1, .int .u32 p.p2, .int .u32 p.p3, .int .i64 p.u, .int .u32 p.l0, .int .u32 p.l1, .int .u32 p.l2]) (.agg #[.int .i64 q.f, .int .i64 q.k, .int .u32 q.p0, .int .u32 q.p1, .int .u32 q.p2, .int .u32 q.p3, .int .i64 q.u, .int .u32 q.l0, .int .u32 q.l1, .int .u32 q.l2])).run Tryd.prog w = .ok (p.f == q.f && (p.k == q.k && ((p.p0 == q.p0 && (p.p1 == q.p1 && (p.p2 == q.p2 && p.p3 == q.p3))) && (p.u == q.u && (p.l0 == q.l0 && (p.l1 == q.l1 && p.l2 == q.l2)))))) w := by
    rw [run_equalIn_struct w 9999 57 _ _ descP stoodP, hl]
    simp only [Op.eqFields, a1, b1, c1, d1, e1, a2, b2, c2, d2, e2, a3, b3, c3, d3, e3, ne_eq, not_false_eq_true, if_true, Sem.run_bind]
    rw [run_part_plain w plain3 (v := .int .i64 p.f) (by simp)]
    simp only [Result.andThen_ok]
    rw [run_part_plain w plain3 (v := .int .i64 q.f) (by simp)]
    simp only [Result.andThen_ok]
    rw [run_equalIn_int w 9998 3 .i64 .i64 _ _ Tryd.underlying3]
    simp only [Result.andThen_ok]
    cases z0 : p.f == q.f
    · simp
    · simp only [Bool.not_true, Bool.false_eq_true, if_false, Sem.run_bind]
      rw [run_part_plain w plain3 (v := .int .i64 p.k) (by simp)]
      simp only [Result.andThen_ok]
      rw [run_part_plain w plain3 (v := .int .i64 q.k) (by simp)]
      simp only [Result.andThen_ok]
      rw [run_equalIn_int w 9998 3 .i64 .i64 _ _ Tryd.underlying3]
      simp only [Result.andThen_ok]
      cases z1 : p.k == q.k
      · simp
      · simp only [Bool.not_true, Bool.false_eq_true, if_false, Sem.run_bind]
        rw [run_part4]
        simp only [Result.andThen_ok]
        rw [run_part4]
        simp only [Result.andThen_ok]
        have x1 : ∀ u : Pa, (#[.int .i64 u.f, .int .i64 u.k, .int .u32 u.p0, .int .u32 u.p1, .int .u32 u.p2, .int .u32 u.p3, .int .i64 u.u, .int .u32 u.l0, .int .u32 u.l1, .int .u32 u.l2] : Array Value).extract 2 (2 + 4) = #[.int .u32 u.p0, .int .u32 u.p1, .int .u32 u.p2, .int .u32 u.p3] := fun u => by simp
        rw [x1, x1, run_eq4 9997]
        simp only [Result.andThen_ok]
        cases z2 : (p.p0 == q.p0 && (p.p1 == q.p1 && (p.p2 == q.p2 && p.p3 == q.p3)))
        · simp
        · simp only [Bool.not_true, Bool.false_eq_true, if_false, Sem.run_bind]
          rw [run_part_plain w plain3 (v := .int .i64 p.u) (by simp)]
          simp only [Result.andThen_ok]
          rw [run_part_plain w plain3 (v := .int .i64 q.u) (by simp)]
          simp only [Result.andThen_ok]
          rw [run_equalIn_int w 9998 3 .i64 .i64 _ _ Tryd.underlying3]
          simp only [Result.andThen_ok]
          cases z3 : p.u == q.u
          · simp
          · simp only [Bool.not_true, Bool.false_eq_true, if_false, Sem.run_bind]
            rw [run_part3]
            simp only [Result.andThen_ok]
            rw [run_part3]
            simp only [Result.andThen_ok]
            have x2 : ∀ u : Pa, (#[.int .i64 u.f, .int .i64 u.k, .int .u32 u.p0, .int .u32 u.p1, .int .u32 u.p2, .int .u32 u.p3, .int .i64 u.u, .int .u32 u.l0, .int .u32 u.l1, .int .u32 u.l2] : Array Value).extract 7 (7 + 3) = #[.int .u32 u.l0, .int .u32 u.l1, .int .u32 u.l2] := fun u => by simp
            rw [x2, x2, run_eqA 9997]
            simp only [Result.andThen_ok]
            cases z4 : (p.l0 == q.l0 && (p.l1 == q.l1 && p.l2 == q.l2))
            · simp
            · simp
  rw [run_eql_struct, r]
  simp only [Result.andThen_ok]
  congr 2
  obtain ⟨pf, pk, pp0, pp1, pp2, pp3, pu, pl0, pl1, pl2⟩ := p
  obtain ⟨qf, qk, qp0, qp1, qp2, qp3, qu, ql0, ql1, ql2⟩ := q
  rw [Bool.eq_iff_iff]
  simp [eqP, and_assoc]
theorem fieldsPR : (Tryd.prog.fieldsOf 60).toList.map (fun f => (f.name == "_", f.type, f.offset)) = [(false, 3, 0), (false, 3, 1), (false, 55, 2), (false, 3, 6), (false, 49, 7)] := by kernel_rfl
theorem namesPR : ∃ a b c d e : Field, (Tryd.prog.fieldsOf 60).toList = [a, b, c, d, e] ∧ (a.name ≠ "_" ∧ a.type = 3 ∧ a.offset = 0) ∧ (b.name ≠ "_" ∧ b.type = 3 ∧ b.offset = 1) ∧ (c.name ≠ "_" ∧ c.type = 55 ∧ c.offset = 2) ∧ (d.name ≠ "_" ∧ d.type = 3 ∧ d.offset = 6) ∧ (e.name ≠ "_" ∧ e.type = 49 ∧ e.offset = 7) := by
  have k := fieldsPR
  match hq : (Tryd.prog.fieldsOf 60).toList with
  | [a, b, c, d, e] =>
    rw [hq] at k
    simp at k
    obtain ⟨⟨a1, a2, a3⟩, ⟨b1, b2, b3⟩, ⟨c1, c2, c3⟩, ⟨d1, d2, d3⟩, e1, e2, e3⟩ := k
    exact ⟨a, b, c, d, e, rfl, ⟨a1, a2, a3⟩, ⟨b1, b2, b3⟩, ⟨c1, c2, c3⟩, ⟨d1, d2, d3⟩, e1, e2, e3⟩
  | [] => rw [hq] at k; simp at k
  | [_] => rw [hq] at k; simp at k
  | [_, _] => rw [hq] at k; simp at k
  | [_, _, _] => rw [hq] at k; simp at k
  | [_, _, _, _] => rw [hq] at k; simp at k
  | _ :: _ :: _ :: _ :: _ :: _ :: _ => rw [hq] at k; simp at k
theorem descPR : Tryd.prog.underlying 60 = some (.struct (Tryd.prog.fieldsOf 60)) := by kernel_rfl
theorem stoodPR : Tryd.prog.stoodInHeld 60 = false := by kernel_rfl
set_option maxRecDepth 100000 in
set_option maxHeartbeats 1000000 in
theorem run_eqPR (p q : Pa) (w : World) : (binOp .eql 60 (.agg #[.int .i64 p.f, .int .i64 p.k, .int .u32 p.p0, .int .u32 p.p1, .int .u32 p.p2, .int .u32 p.p3, .int .i64 p.u, .int .u32 p.l0, .int .u32 p.l1, .int .u32 p.l2]) (.agg #[.int .i64 q.f, .int .i64 q.k, .int .u32 q.p0, .int .u32 q.p1, .int .u32 q.p2, .int .u32 q.p3, .int .i64 q.u, .int .u32 q.l0, .int .u32 q.l1, .int .u32 q.l2])).run Tryd.prog w = .ok (.bool (eqP p q)) w := by
  obtain ⟨a, b, c, d, e, hl, ⟨a1, a2, a3⟩, ⟨b1, b2, b3⟩, ⟨c1, c2, c3⟩, ⟨d1, d2, d3⟩, e1, e2, e3⟩ := namesPR
  have r : (Op.equalIn 10000 60 (.agg #[.int .i64 p.f, .int .i64 p.k, .int .u32 p.p0, .int .u32 p.p1, .int .u32 p.p2, .int .u32 p.p3, .int .i64 p.u, .int .u32 p.l0, .int .u32 p.l1, .int .u32 p.l2]) (.agg #[.int .i64 q.f, .int .i64 q.k, .int .u32 q.p0, .int .u32 q.p1, .int .u32 q.p2, .int .u32 q.p3, .int .i64 q.u, .int .u32 q.l0, .int .u32 q.l1, .int .u32 q.l2])).run Tryd.prog w = .ok (p.f == q.f && (p.k == q.k && ((p.p0 == q.p0 && (p.p1 == q.p1 && (p.p2 == q.p2 && p.p3 == q.p3))) && (p.u == q.u && (p.l0 == q.l0 && (p.l1 == q.l1 && p.l2 == q.l2)))))) w := by
    rw [run_equalIn_struct w 9999 60 _ _ descPR stoodPR, hl]
    simp only [Op.eqFields, a1, b1, c1, d1, e1, a2, b2, c2, d2, e2, a3, b3, c3, d3, e3, ne_eq, not_false_eq_true, if_true, Sem.run_bind]
    rw [run_part_plain w plain3 (v := .int .i64 p.f) (by simp)]
    simp only [Result.andThen_ok]
    rw [run_part_plain w plain3 (v := .int .i64 q.f) (by simp)]
    simp only [Result.andThen_ok]
    rw [run_equalIn_int w 9998 3 .i64 .i64 _ _ Tryd.underlying3]
    simp only [Result.andThen_ok]
    cases z0 : p.f == q.f
    · simp
    · simp only [Bool.not_true, Bool.false_eq_true, if_false, Sem.run_bind]
      rw [run_part_plain w plain3 (v := .int .i64 p.k) (by simp)]
      simp only [Result.andThen_ok]
      rw [run_part_plain w plain3 (v := .int .i64 q.k) (by simp)]
      simp only [Result.andThen_ok]
      rw [run_equalIn_int w 9998 3 .i64 .i64 _ _ Tryd.underlying3]
      simp only [Result.andThen_ok]
      cases z1 : p.k == q.k
      · simp
      · simp only [Bool.not_true, Bool.false_eq_true, if_false, Sem.run_bind]
        rw [run_part4]
        simp only [Result.andThen_ok]
        rw [run_part4]
        simp only [Result.andThen_ok]
        have x1 : ∀ u : Pa, (#[.int .i64 u.f, .int .i64 u.k, .int .u32 u.p0, .int .u32 u.p1, .int .u32 u.p2, .int .u32 u.p3, .int .i64 u.u, .int .u32 u.l0, .int .u32 u.l1, .int .u32 u.l2] : Array Value).extract 2 (2 + 4) = #[.int .u32 u.p0, .int .u32 u.p1, .int .u32 u.p2, .int .u32 u.p3] := fun u => by simp
        rw [x1, x1, run_eq4 9997]
        simp only [Result.andThen_ok]
        cases z2 : (p.p0 == q.p0 && (p.p1 == q.p1 && (p.p2 == q.p2 && p.p3 == q.p3)))
        · simp
        · simp only [Bool.not_true, Bool.false_eq_true, if_false, Sem.run_bind]
          rw [run_part_plain w plain3 (v := .int .i64 p.u) (by simp)]
          simp only [Result.andThen_ok]
          rw [run_part_plain w plain3 (v := .int .i64 q.u) (by simp)]
          simp only [Result.andThen_ok]
          rw [run_equalIn_int w 9998 3 .i64 .i64 _ _ Tryd.underlying3]
          simp only [Result.andThen_ok]
          cases z3 : p.u == q.u
          · simp
          · simp only [Bool.not_true, Bool.false_eq_true, if_false, Sem.run_bind]
            rw [run_part3]
            simp only [Result.andThen_ok]
            rw [run_part3]
            simp only [Result.andThen_ok]
            have x2 : ∀ u : Pa, (#[.int .i64 u.f, .int .i64 u.k, .int .u32 u.p0, .int .u32 u.p1, .int .u32 u.p2, .int .u32 u.p3, .int .i64 u.u, .int .u32 u.l0, .int .u32 u.l1, .int .u32 u.l2] : Array Value).extract 7 (7 + 3) = #[.int .u32 u.l0, .int .u32 u.l1, .int .u32 u.l2] := fun u => by simp
            rw [x2, x2, run_eqA 9997]
            simp only [Result.andThen_ok]
            cases z4 : (p.l0 == q.l0 && (p.l1 == q.l1 && p.l2 == q.l2))
            · simp
            · simp
  rw [run_eql_struct, r]
  simp only [Result.andThen_ok]
  congr 2
  obtain ⟨pf, pk, pp0, pp1, pp2, pp3, pu, pl0, pl1, pl2⟩ := p
  obtain ⟨qf, qk, qp0, qp1, qp2, qp3, qu, ql0, ql1, ql2⟩ := q
  rw [Bool.eq_iff_iff]
  simp [eqP, and_assoc]
end Go.Proofs.YtlbphlhbofjfgaaDoor.path
