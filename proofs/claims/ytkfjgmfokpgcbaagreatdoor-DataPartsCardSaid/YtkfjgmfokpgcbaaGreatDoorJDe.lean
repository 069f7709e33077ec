/-
  '==' and '!=' of two records.
  A list of records that came in, as the walk wants it.
-/
import Derived.Test.YtkfjgmfokpgcbaaGreatDoorProg
import Derived.Test.YtkfjgmfokpgcbaaGreatDoorJTm
import Derived.Test.YtkfjgmfokpgcbaaGreatDoorJOpen
import Derived.ChangeKeysEq
import Derived.Laws.StructEq
namespace Go.Proofs.YtkfjgmfokpgcbaaGreatDoor.data
open Go.ChangeShapes Go.WideShapes Go.ChangeAt Go.RowKit
open Go.Proofs.YtkfjgmfokpgcbaaGreatDoor.opened Go.Proofs.YtkfjgmfokpgcbaaGreatDoor.block Go.Proofs.YtkfjgmfokpgcbaaGreatDoor.region

def cR (r : Rc) : List Value := [.int .i64 r.k, .int .i64 r.v]
theorem cellsR : Cells 2 cR := ⟨fun _ => rfl, fun x v hv => by
  simp [cR] at hv
  rcases hv with rfl | rfl <;> rfl⟩
abbrev Lr (w : World) (A : Option Addr) (L : List Rc) : Prop := Lg 2 cR w A L
abbrev OwnR (w : World) (base : Nat) (v : Value) (L : List Rc) : Prop := OwnG 33 2 cR w base v L
theorem at_rc {w : World} {A : Option Addr} {M : List Rc} (h : Lr w A M) {k : Nat} {p : Rc} (hk : M[k]? = some p) :
    ∃ b off, A = some ⟨b, off, none⟩ ∧ b < w.heap.size ∧ w.cell? ⟨b, off + k * 2, none⟩ = some (.int .i64 p.k) ∧ w.cell? ⟨b, off + k * 2 + 1, none⟩ = some (.int .i64 p.v) := by
  obtain ⟨b, off, hA, hb, hc⟩ := h.cells hk
  exact ⟨b, off, hA, hb, by simpa [cR, Nat.add_assoc] using hc 0 (by omega), by simpa [cR, Nat.add_assoc] using hc 1 (by omega)⟩
instance : Inhabited Rc := ⟨⟨0, 0⟩⟩
theorem infoR : (Tryz.prog.info? 33).map (fun i => (i.zero, i.size, i.bytes)) = some (some (.agg #[.int .i64 0, .int .i64 0]), 2, 16) := by kernel_rfl
theorem infoR_parts : ∃ i, Tryz.prog.info? 33 = some i ∧ i.zero = some (.agg #[.int .i64 0, .int .i64 0]) ∧ i.size = 2 ∧ i.bytes = 16 := by
  have h := infoR
  rw [Option.map_eq_some_iff] at h
  obtain ⟨i, hi, he⟩ := h
  simp only [Prod.mk.injEq] at he
  exact ⟨i, hi, he.1, he.2.1, he.2.2⟩
theorem fieldsR : (Tryz.prog.fieldsOf 33).toList.map (fun f => (f.name == "_", f.type, f.offset)) = [(false, 2, 0), (false, 2, 1)] := by kernel_rfl
theorem namesR : ∃ f g : Field, (Tryz.prog.fieldsOf 33).toList = [f, g] ∧ f.name ≠ "_" ∧ f.type = 2 ∧ f.offset = 0 ∧ g.name ≠ "_" ∧ g.type = 2 ∧ g.offset = 1 := by
  have k := fieldsR
  match hq : (Tryz.prog.fieldsOf 33).toList with
  | [f, g] =>
    rw [hq] at k
    simp at k
    obtain ⟨⟨a1, a2, a3⟩, b1, b2, b3⟩ := k
    exact ⟨f, g, rfl, a1, a2, a3, b1, b2, b3⟩
  | [] => rw [hq] at k; simp at k
  | [_] => rw [hq] at k; simp at k
  | _ :: _ :: _ :: _ => rw [hq] at k; simp at k
theorem descR : Tryz.prog.underlying 33 = some (.struct (Tryz.prog.fieldsOf 33)) := by kernel_rfl
theorem stoodR : Tryz.prog.stoodInHeld 33 = false := by kernel_rfl
theorem plainL : Tryz.prog.plainKey 2 = true := by kernel_rfl
set_option maxRecDepth 100000 in
theorem run_inR (p q : Rc) (w : World) : (Op.equalIn 10000 33 (.agg #[.int .i64 p.k, .int .i64 p.v]) (.agg #[.int .i64 q.k, .int .i64 q.v])).run Tryz.prog w = .ok (decide (p = q)) w := by
  obtain ⟨f, g, hl, f1, f2, f3, g1, g2, g3⟩ := namesR
  have k : (Op.equalIn 10000 33 (.agg #[.int .i64 p.k, .int .i64 p.v]) (.agg #[.int .i64 q.k, .int .i64 q.v])).run Tryz.prog w = .ok (p.k == q.k && p.v == q.v) w := by
    rw [run_equalIn_struct w 9999 33 _ _ descR stoodR, hl]
    simp only [Op.eqFields, f1, g1, f2, g2, f3, g3, ne_eq, not_false_eq_true, if_true, Sem.run_bind]
    rw [run_part_plain w plainL (v := .int .i64 p.k) (by simp)]
    simp only [Result.andThen_ok]
    rw [run_part_plain w plainL (v := .int .i64 q.k) (by simp)]
    simp only [Result.andThen_ok]
    rw [run_equalIn_int w 9998 2 .i64 .i64 _ _ Tryz.underlying2]
    simp only [Result.andThen_ok]
    cases e0 : p.k == q.k
    · simp
    · simp only [Bool.not_true, Bool.false_eq_true, if_false, Sem.run_bind]
      rw [run_part_plain w plainL (v := .int .i64 p.v) (by simp)]
      simp only [Result.andThen_ok]
      rw [run_part_plain w plainL (v := .int .i64 q.v) (by simp)]
      simp only [Result.andThen_ok]
      rw [run_equalIn_int w 9998 2 .i64 .i64 _ _ Tryz.underlying2]
      simp only [Result.andThen_ok]
      cases e1 : p.v == q.v
      · simp
      · simp
  rw [k]
  congr 1
  rw [Bool.eq_iff_iff]
  obtain ⟨s, m⟩ := p
  obtain ⟨t, n⟩ := q
  simp
set_option maxRecDepth 100000 in
theorem run_eqR (p q : Rc) (w : World) : (binOp .eql 33 (.agg #[.int .i64 p.k, .int .i64 p.v]) (.agg #[.int .i64 q.k, .int .i64 q.v])).run Tryz.prog w = .ok (.bool (decide (p = q))) w := by
  rw [run_eql_struct, run_inR]
  rfl
set_option maxRecDepth 100000 in
theorem run_neR (p q : Rc) (w : World) : (binOp .neq 33 (.agg #[.int .i64 p.k, .int .i64 p.v]) (.agg #[.int .i64 q.k, .int .i64 q.v])).run Tryz.prog w = .ok (.bool (!decide (p = q))) w := by
  rw [run_neq_struct, run_inR]
  rfl
end Go.Proofs.YtkfjgmfokpgcbaaGreatDoor.data
namespace Go.Proofs.YtkfjgmfokpgcbaaGreatDoor.data
open Go.ChangeShapes Go.WideShapes Go.ChangeAt Go.RowKit
open Go.Proofs.YtkfjgmfokpgcbaaGreatDoor.opened Go.Proofs.YtkfjgmfokpgcbaaGreatDoor.block Go.Proofs.YtkfjgmfokpgcbaaGreatDoor.region

def rcR : Reader (Int × Int × Unit) := consR 1 (intR .i64) (consR 1 (intR .i64) nilR)
set_option maxRecDepth 100000 in
theorem opens_rc : Opens Tryz.prog 33 rcR :=
  opens_struct Tryz.underlying33 (by kernel_rfl) (by kernel_rfl) (opensFs_cons (opens_int Tryz.underlying2) (m := 1) (by kernel_rfl) (opensFs_cons (opens_int Tryz.underlying2) (m := 1) (by kernel_rfl) opensFs_nil))
set_option maxRecDepth 100000 in
theorem opens_recs : Opens Tryz.prog 22 (sliceR 2 16 rcR) := opens_slice Tryz.underlying22 (m := 2) (bytes := 16) (by kernel_rfl) (by kernel_rfl) opens_rc
def rcOf (p : Int × Int × Unit) : Rc := ⟨p.1, p.2.1⟩
theorem rc_of {w : World} {cs : List Value} {p : Int × Int × Unit} (h : rcR w cs p) : (rcOf p).In ∧ cs = cR (rcOf p) := by
  obtain ⟨⟨h0, w0⟩, ⟨h1, w1⟩, hz⟩ := h
  have u0 := bounds_i64 w0
  have u1 := bounds_i64 w1
  refine ⟨⟨⟨u0.1, by show p.1 ≤ _; omega⟩, ⟨u1.1, by show p.2.1 ≤ _; omega⟩⟩, ?_⟩
  unfold nilR at hz
  match cs, h0, h1, hz with
  | [c0, c1], h0, h1, _ =>
    simp at h0 h1
    subst h0 h1
    simp [cR, rcOf]
theorem row_rc {w : World} {cs : List Value} {q : Row (Int × Int × Unit)} (h : sliceR 2 16 rcR w cs q) : InR (q.elems.map rcOf) ∧ Lr w q.ptr (q.elems.map rcOf) ∧ q.val = .slice q.ptr (q.elems.map rcOf).length q.cap ∧ (q.elems.map rcOf).length ≤ 4611686018427387903 := by
  refine ⟨fun x hx => ?_, ?_, by rw [row_val h, List.length_map], ?_⟩
  · obtain ⟨a, ha, rfl⟩ := List.mem_map.1 hx
    obtain ⟨cs', hcs⟩ := elem_of h a ha
    exact (rc_of hcs).1
  · have := liesN_of (f := fun a => cR (rcOf a)) (fun w cs a ha => (rc_of ha).2) (by omega) h
    unfold Lr Lg
    rw [List.map_map]
    exact this
  · have h1 := h.2.1
    have h2 := h.2.2.1
    have h3 := h.2.2.2.2.1
    rw [List.length_map]
    omega
set_option maxRecDepth 100000 in
theorem top_recs {w : World} {r : Reach} {b : Nat} {v : Value} {q : Row (Int × Int × Unit)} (hv : Value.okWide Tryz.prog w r b 22 v) (h : sliceR 2 16 rcR w v.cells.toList q) :
    ∃ (A : Option Addr) (c : Nat) (L : List Rc), v = .slice A L.length c ∧ InR L ∧ Lr w A L ∧ L.length ≤ 4611686018427387903 := by
  obtain ⟨h1, h2, h3, h4⟩ := row_rc h
  exact ⟨q.ptr, q.cap, _, by rw [top_slice Tryz.underlying22 hv h, h3], h1, h2, h4⟩
end Go.Proofs.YtkfjgmfokpgcbaaGreatDoor.data
