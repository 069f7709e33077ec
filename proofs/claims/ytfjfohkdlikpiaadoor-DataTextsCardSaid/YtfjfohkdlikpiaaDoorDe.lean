/-
  '==' and '!=' of two records.
-/
import Derived.Test.YtfjfohkdlikpiaaDoorProg
import Derived.Test.YtfjfohkdlikpiaaDoorDm
import Derived.Test.YtfjfohkdlikpiaaDoorDn
import Derived.ChangeKeysEq
import Derived.Laws.StructEq
namespace Go.Proofs.YtfjfohkdlikpiaaDoor.data
open Go.ChangeShapes Go.WideShapes Go.ChangeAt Go.RowKit
open Go.Proofs.YtfjfohkdlikpiaaDoor.opened Go.Proofs.YtfjfohkdlikpiaaDoor.block Go.Proofs.YtfjfohkdlikpiaaDoor.region

def cR (r : Rc) : List Value := [.int .i64 r.k, .int .i64 r.v]
theorem cellsR : Cells 2 cR := ⟨fun _ => rfl, fun x v hv => by
  simp [cR] at hv
  rcases hv with rfl | rfl <;> rfl⟩
abbrev Lr (w : World) (A : Option Addr) (L : List Rc) : Prop := Lg 2 cR w A L
abbrev OwnR (w : World) (base : Nat) (v : Value) (L : List Rc) : Prop := OwnG 34 2 cR w base v L
theorem at_rc {w : World} {A : Option Addr} {M : List Rc} (h : Lr w A M) {k : Nat} {p : Rc} (hk : M[k]? = some p) :
    ∃ b off, A = some ⟨b, off, none⟩ ∧ b < w.heap.size ∧ w.cell? ⟨b, off + k * 2, none⟩ = some (.int .i64 p.k) ∧ w.cell? ⟨b, off + k * 2 + 1, none⟩ = some (.int .i64 p.v) := by
  obtain ⟨b, off, hA, hb, hc⟩ := h.cells hk
  exact ⟨b, off, hA, hb, by simpa [cR, Nat.add_assoc] using hc 0 (by omega), by simpa [cR, Nat.add_assoc] using hc 1 (by omega)⟩
instance : Inhabited Rc := ⟨⟨0, 0⟩⟩
theorem infoR : (Tryd.prog.info? 34).map (fun i => (i.zero, i.size, i.bytes)) = some (some (.agg #[.int .i64 0, .int .i64 0]), 2, 16) := by kernel_rfl
theorem infoR_parts : ∃ i, Tryd.prog.info? 34 = some i ∧ i.zero = some (.agg #[.int .i64 0, .int .i64 0]) ∧ i.size = 2 ∧ i.bytes = 16 := by
  have h := infoR
  rw [Option.map_eq_some_iff] at h
  obtain ⟨i, hi, he⟩ := h
  simp only [Prod.mk.injEq] at he
  exact ⟨i, hi, he.1, he.2.1, he.2.2⟩
theorem fieldsR : (Tryd.prog.fieldsOf 34).toList.map (fun f => (f.name == "_", f.type, f.offset)) = [(false, 2, 0), (false, 2, 1)] := by kernel_rfl
theorem namesR : ∃ f g : Field, (Tryd.prog.fieldsOf 34).toList = [f, g] ∧ f.name ≠ "_" ∧ f.type = 2 ∧ f.offset = 0 ∧ g.name ≠ "_" ∧ g.type = 2 ∧ g.offset = 1 := by
  have k := fieldsR
  match hq : (Tryd.prog.fieldsOf 34).toList with
  | [f, g] =>
    rw [hq] at k
    simp at k
    obtain ⟨⟨a1, a2, a3⟩, b1, b2, b3⟩ := k
    exact ⟨f, g, rfl, a1, a2, a3, b1, b2, b3⟩
  | [] => rw [hq] at k; simp at k
  | [_] => rw [hq] at k; simp at k
  | _ :: _ :: _ :: _ => rw [hq] at k; simp at k
theorem descR : Tryd.prog.underlying 34 = some (.struct (Tryd.prog.fieldsOf 34)) := by kernel_rfl
theorem stoodR : Tryd.prog.stoodInHeld 34 = false := by kernel_rfl
theorem plainL : Tryd.prog.plainKey 2 = true := by kernel_rfl
set_option maxRecDepth 100000 in
theorem run_inR (p q : Rc) (w : World) : (Op.equalIn 10000 34 (.agg #[.int .i64 p.k, .int .i64 p.v]) (.agg #[.int .i64 q.k, .int .i64 q.v])).run Tryd.prog w = .ok (decide (p = q)) w := by
  obtain ⟨f, g, hl, f1, f2, f3, g1, g2, g3⟩ := namesR
  have k : (Op.equalIn 10000 34 (.agg #[.int .i64 p.k, .int .i64 p.v]) (.agg #[.int .i64 q.k, .int .i64 q.v])).run Tryd.prog w = .ok (p.k == q.k && p.v == q.v) w := by
    rw [run_equalIn_struct w 9999 34 _ _ descR stoodR, hl]
    simp only [Op.eqFields, f1, g1, f2, g2, f3, g3, ne_eq, not_false_eq_true, if_true, Sem.run_bind]
    rw [run_part_plain w plainL (v := .int .i64 p.k) (by simp)]
    simp only [Result.andThen_ok]
    rw [run_part_plain w plainL (v := .int .i64 q.k) (by simp)]
    simp only [Result.andThen_ok]
    rw [run_equalIn_int w 9998 2 .i64 .i64 _ _ Tryd.underlying2]
    simp only [Result.andThen_ok]
    cases e0 : p.k == q.k
    · simp
    · simp only [Bool.not_true, Bool.false_eq_true, if_false, Sem.run_bind]
      rw [run_part_plain w plainL (v := .int .i64 p.v) (by simp)]
      simp only [Result.andThen_ok]
      rw [run_part_plain w plainL (v := .int .i64 q.v) (by simp)]
      simp only [Result.andThen_ok]
      rw [run_equalIn_int w 9998 2 .i64 .i64 _ _ Tryd.underlying2]
      simp only [Result.andThen_ok]
      cases e1 : p.v == q.v
      · simp
      · simp
  rw [k]
  congr 1
  rw [Bool.eq_iff_iff]
  obtain ⟨s, m⟩ := p
  obtain ⟨t, n⟩ := q
  simp
set_option maxRecDepth 100000 in
theorem run_eqR (p q : Rc) (w : World) : (binOp .eql 34 (.agg #[.int .i64 p.k, .int .i64 p.v]) (.agg #[.int .i64 q.k, .int .i64 q.v])).run Tryd.prog w = .ok (.bool (decide (p = q))) w := by
  rw [run_eql_struct, run_inR]
  rfl
set_option maxRecDepth 100000 in
theorem run_neR (p q : Rc) (w : World) : (binOp .neq 34 (.agg #[.int .i64 p.k, .int .i64 p.v]) (.agg #[.int .i64 q.k, .int .i64 q.v])).run Tryd.prog w = .ok (.bool (!decide (p = q))) w := by
  rw [run_neq_struct, run_inR]
  rfl
end Go.Proofs.YtfjfohkdlikpiaaDoor.data
