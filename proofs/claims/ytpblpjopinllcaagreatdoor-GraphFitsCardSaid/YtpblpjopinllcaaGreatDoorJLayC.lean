/-
  DERIVED: THE SHELF's CONTRACTS AT THIS DUMP, IN PLAIN WORDS (tools/lay-plain.mjs out of 'TryzShelfX.lean', which tools/lay-shelf.mjs wrote): THE SAME DECLARATIONS UNDER THE SAME NAMES: 'import', 'namespace', 'open', 'def', 'theorem' AND NOTHING ELSE: no command of the shelf's: FOR A HAND-IN. Each laying: the table of numbers ('.._ren') and one theorem, a field a fact of the dump's own or the kernel's comparison; each contract: ONE APPLICATION.
  '==' of two channels; slices.Contains over channels.
-/
import Derived.Shelf.SlGeneric
import Derived.Shelf.SlicesQ.IndexFunc
import Derived.Shelf.SlicesQ.Equal
import Derived.Shelf.SlicesQ.Contains
import Derived.Ground.SlgfProg
import Derived.Ground.SlgqProg
import Derived.Test.YtpblpjopinllcaaGreatDoorProg
import Derived.Test.YtpblpjopinllcaaGreatDoorJLayG
import Derived.ChangeKeysEq
import Derived.Laws.StructEq
namespace Go.Proofs
open Go.Shelf
def Tryz.lQc_ren : Go.Shelf.Ren := ⟨fun | 7 => 164 | 6 => 243 | n => n, fun | 22 => 25 | 24 => 61 | 4 => 4 | 0 => 0 | 3 => 3 | n => n, fun | n => n⟩
theorem Tryz.lQc : Go.Proofs.SlLaysQ.n7 Tryz.prog Tryz.lQc_ren := {
  mixed := by kernel_rfl
  f6 := ⟨Tryz.f243.name, by decide, Tryz.func243.trans (congrArg some (by kernel_rfl))⟩
  f7 := ⟨Tryz.f164.name, by decide, Tryz.func164.trans (congrArg some (by kernel_rfl))⟩
  t0 := Tryz.underlying0
  a0 := Tryz.isAgg0
  z0 := Tryz.sizeOf0
  v0 := Tryz.zeroValue0
  t3 := Tryz.underlying3
  a3 := Tryz.isAgg3
  z3 := Tryz.sizeOf3
  v3 := Tryz.zeroValue3
  t4 := Tryz.underlying4
  a4 := Tryz.isAgg4
  z4 := Tryz.sizeOf4
  v4 := Tryz.zeroValue4
  t22 := Tryz.underlying25
  a22 := Tryz.isAgg25
  z22 := Tryz.sizeOf25
  v22 := Tryz.zeroValue25 }
end Go.Proofs
namespace Go.Proofs.YtpblpjopinllcaaGreatDoor.graph
open Go.ChangeShapes Go.WideShapes Go.ChangeAt Go.RowKit Go.Shelf
open Go.Proofs.YtpblpjopinllcaaGreatDoor.opened Go.Proofs.YtpblpjopinllcaaGreatDoor.block Go.Proofs.YtpblpjopinllcaaGreatDoor.words
instance : Inhabited Ch := ⟨⟨0, 0⟩⟩
theorem fieldsCh : (Tryz.prog.fieldsOf 61).toList.map (fun f => (f.name == "_", f.type, f.offset)) = [(false, 3, 0), (false, 3, 1)] := by kernel_rfl
theorem namesCh : ∃ f g : Field, (Tryz.prog.fieldsOf 61).toList = [f, g] ∧ f.name ≠ "_" ∧ f.type = 3 ∧ f.offset = 0 ∧ g.name ≠ "_" ∧ g.type = 3 ∧ g.offset = 1 := by
  have k := fieldsCh
  match hq : (Tryz.prog.fieldsOf 61).toList with
  | [f, g] =>
    rw [hq] at k
    simp at k
    obtain ⟨⟨a1, a2, a3⟩, b1, b2, b3⟩ := k
    exact ⟨f, g, rfl, a1, a2, a3, b1, b2, b3⟩
  | [] => rw [hq] at k; simp at k
  | [_] => rw [hq] at k; simp at k
  | _ :: _ :: _ :: _ => rw [hq] at k; simp at k
theorem descCh : Tryz.prog.underlying 61 = some (.struct (Tryz.prog.fieldsOf 61)) := by kernel_rfl
theorem stoodCh : Tryz.prog.stoodInHeld 61 = false := by kernel_rfl
theorem plainI : Tryz.prog.plainKey 3 = true := by kernel_rfl
set_option maxRecDepth 100000 in
theorem run_eqCh (p q : Ch) (w : World) : (binOp .eql 61 (.agg #[.int .i64 p.f, .int .i64 p.t]) (.agg #[.int .i64 q.f, .int .i64 q.t])).run Tryz.prog w = .ok (.bool (decide (p = q))) w := by
  obtain ⟨f, g, hl, f1, f2, f3, g1, g2, g3⟩ := namesCh
  have k : (Op.equalIn 10000 61 (.agg #[.int .i64 p.f, .int .i64 p.t]) (.agg #[.int .i64 q.f, .int .i64 q.t])).run Tryz.prog w = .ok (p.f == q.f && p.t == q.t) w := by
    rw [run_equalIn_struct w 9999 61 _ _ descCh stoodCh, hl]
    simp only [Op.eqFields, f1, g1, f2, g2, f3, g3, ne_eq, not_false_eq_true, if_true, Sem.run_bind]
    rw [run_part_plain w plainI (v := .int .i64 p.f) (by simp)]
    simp only [Result.andThen_ok]
    rw [run_part_plain w plainI (v := .int .i64 q.f) (by simp)]
    simp only [Result.andThen_ok]
    rw [run_equalIn_int w 9998 3 .i64 .i64 _ _ Tryz.underlying3]
    simp only [Result.andThen_ok]
    cases e0 : p.f == q.f
    · simp
    · simp only [Bool.not_true, Bool.false_eq_true, if_false, Sem.run_bind]
      rw [run_part_plain w plainI (v := .int .i64 p.t) (by simp)]
      simp only [Result.andThen_ok]
      rw [run_part_plain w plainI (v := .int .i64 q.t) (by simp)]
      simp only [Result.andThen_ok]
      rw [run_equalIn_int w 9998 3 .i64 .i64 _ _ Tryz.underlying3]
      simp only [Result.andThen_ok]
      cases e1 : p.t == q.t
      · simp
      · simp
  rw [run_eql_struct, k]
  simp only [Result.andThen_ok]
  congr 2
  rw [Bool.eq_iff_iff]
  obtain ⟨s, m⟩ := p
  obtain ⟨t, n⟩ := q
  simp
theorem eqCh : EqlAt Tryz.prog 61 (fun x : Ch => .agg (cCh x).toArray) (fun x y => decide (x = y)) := ⟨fun x y w => run_eqCh x y w, GuardAt.agg _ (by kernel_rfl)⟩
theorem cells_ch {w : World} {A : Option Addr} {M : List Ch} {b off : Nat} (h : Lg 2 cCh w A M) (hA : A = some ⟨b, off, none⟩) : ∀ j, j < M.length → ∀ i v, (cCh M[j]!)[i]? = some v → w.cell? ⟨b, off + j * 2 + i, none⟩ = some v := by
  intro j hj i v hi
  have hx : M[j]? = some M[j]! := by rw [List.getElem?_eq_getElem hj, getElem!_pos M j hj]
  obtain ⟨b1, o1, hA1, hb1, hc⟩ := h.cells hx
  rw [hA] at hA1
  injection (Option.some.inj hA1) with h1 h2
  subst h1 h2
  have hi3 : i < 2 := by
    have := (List.getElem?_eq_some_iff.1 hi).1
    simpa [cCh] using this
  rw [← hi, ← hc i hi3, Nat.add_assoc]
/-- Is a channel among the first k of a row? -/
theorem has_any (b off c k : Nat) (M : List Ch) (x : Ch) (w : World) (hk : k ≤ M.length) (h48 : M.length ≤ 48) (h : Lg 2 cCh w (some ⟨b, off, none⟩) M) :
    Calls Tryz.prog 164 #[.slice (some ⟨b, off, none⟩) k c, .agg #[.int .i64 x.f, .int .i64 x.t]] w fun e w' => e = .returned (.bool (decide (x ∈ M.take k))) ∧ Below w.heap.size w w' := by
  have hcon := AnyQ.slices_Contains Tryz.lQc 2 Tryz.isAgg61 Tryz.sizeOf61 cCh (fun _ => rfl) (fun x y => decide (x = y)) eqCh b off k c M x w hk (by omega) (cells_ch h rfl)
  change Calls Tryz.prog 164 _ _ _ at hcon
  have e : ((M.take k).any fun y => decide (x = y)) = decide (x ∈ M.take k) := by
    rw [Bool.eq_iff_iff]
    simp
  rw [e] at hcon
  exact hcon
end Go.Proofs.YtpblpjopinllcaaGreatDoor.graph
