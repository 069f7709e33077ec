/-
  '==' of two times.
  Are two batches the same: the contract of watershedlaw11.Alike, at two of the same.
-/
import Derived.Test.YtkfjgmfokpgcbaaGreatDoorJChk
import Derived.ChangeKeysEq
import Derived.Laws.StructEq
import Derived.Test.YtkfjgmfokpgcbaaGreatDoorJDto
import Derived.Test.YtkfjgmfokpgcbaaGreatDoorJDa
namespace Go.Proofs.YtkfjgmfokpgcbaaGreatDoor.stamp
open Go.ChangeShapes Go.WideShapes Go.ChangeAt Go.RowKit
open Go.Proofs.YtkfjgmfokpgcbaaGreatDoor.tm Go.Proofs.YtkfjgmfokpgcbaaGreatDoor.opened Go.Proofs.YtkfjgmfokpgcbaaGreatDoor.block

theorem info22 : ∃ i, Tryz.prog.info? 38 = some i := by
  have h : (Tryz.prog.info? 38).isSome = true := by kernel_rfl
  exact Option.isSome_iff_exists.1 h
theorem cells22 : Tryz.prog.cellsOf 38 = 1 := by kernel_rfl
theorem plain22 : Tryz.prog.plainKey 38 = true := by kernel_rfl
theorem plain3 : Tryz.prog.plainKey 3 = true := by kernel_rfl
theorem range3 : List.range 3 = [0, 1, 2] := by decide
theorem run_u32 (d : Nat) (x y : Int) (w : World) : (Op.equalIn (d + 1) 38 (.int .u32 x) (.int .u32 y)).run Tryz.prog w = .ok (x == y) w := run_equalIn_int w d 38 .u32 .u32 x y Tryz.underlying38
theorem run_eqA (d : Nat) (x0 x1 x2 y0 y1 y2 : Int) (w : World) : (Op.equalIn (d + 2) 39 (.agg #[.int .u32 x0, .int .u32 x1, .int .u32 x2]) (.agg #[.int .u32 y0, .int .u32 y1, .int .u32 y2])).run Tryz.prog w = .ok (x0 == y0 && (x1 == y1 && x2 == y2)) w := by
  obtain ⟨i, hi⟩ := info22
  have p : ∀ (l : Array Value) (k : Nat) (x : Int) (w : World), l[k]? = some (.int .u32 x) → (part 38 l k).run Tryz.prog w = .ok (.int .u32 x) w := fun l k x w h => run_part_plain w plain22 h
  rw [run_equalIn_array w (d + 1) _ _ Tryz.underlying39 hi, cells22, range3]
  simp only [Op.eqItems, Sem.run_bind]
  rw [p _ _ x0 w (by simp)]
  simp only [Result.andThen_ok]
  rw [p _ _ y0 w (by simp)]
  simp only [Result.andThen_ok]
  rw [run_u32]
  simp only [Result.andThen_ok]
  cases h0 : x0 == y0
  · simp
  · simp only [Bool.not_true, Bool.false_eq_true, if_false, Sem.run_bind]
    rw [p _ _ x1 w (by simp)]
    simp only [Result.andThen_ok]
    rw [p _ _ y1 w (by simp)]
    simp only [Result.andThen_ok]
    rw [run_u32]
    simp only [Result.andThen_ok]
    cases h1 : x1 == y1
    · simp
    · simp only [Bool.not_true, Bool.false_eq_true, if_false, Sem.run_bind]
      rw [p _ _ x2 w (by simp)]
      simp only [Result.andThen_ok]
      rw [p _ _ y2 w (by simp)]
      simp only [Result.andThen_ok]
      rw [run_u32]
      simp only [Result.andThen_ok]
      cases h2 : x2 == y2
      · simp
      · simp
theorem size23 : (Tryz.prog.info? 39).map (·.size) = some 3 := by kernel_rfl
theorem run_part23 (l : Array Value) (w : World) : (part 39 l 2).run Tryz.prog w = .ok (.agg (l.extract 2 5)) w := by
  have h := size23
  cases hq : Tryz.prog.info? 39 with
  | none => simp [hq] at h
  | some i =>
    have hs : i.size = 3 := by simpa [hq] using h
    simp [part, Sem.run_bind, sizeOf, typeInfo, hq, hs]
theorem fields25 : (Tryz.prog.fieldsOf 41).toList.map (fun f => (f.name == "_", f.type, f.offset)) = [(false, 38, 0), (false, 3, 1), (false, 39, 2)] := by kernel_rfl
theorem names25 : ∃ f g h : Field, (Tryz.prog.fieldsOf 41).toList = [f, g, h] ∧ f.name ≠ "_" ∧ f.type = 38 ∧ f.offset = 0 ∧ g.name ≠ "_" ∧ g.type = 3 ∧ g.offset = 1 ∧ h.name ≠ "_" ∧ h.type = 39 ∧ h.offset = 2 := by
  have k := fields25
  match hq : (Tryz.prog.fieldsOf 41).toList with
  | [f, g, h] =>
    rw [hq] at k
    simp at k
    obtain ⟨⟨a1, a2, a3⟩, ⟨b1, b2, b3⟩, c1, c2, c3⟩ := k
    exact ⟨f, g, h, rfl, a1, a2, a3, b1, b2, b3, c1, c2, c3⟩
  | [] => rw [hq] at k; simp at k
  | [_] => rw [hq] at k; simp at k
  | [_, _] => rw [hq] at k; simp at k
  | _ :: _ :: _ :: _ :: _ => rw [hq] at k; simp at k
theorem desc25 : Tryz.prog.underlying 41 = some (.struct (Tryz.prog.fieldsOf 41)) := by kernel_rfl
theorem stood25 : Tryz.prog.stoodInHeld 41 = false := by kernel_rfl
set_option maxRecDepth 100000 in
theorem run_eqT (s t : Tm) (w : World) : (binOp .eql 41 (.agg #[.int .u32 s.e, .int .i64 s.d, .int .u32 s.a, .int .u32 s.b, .int .u32 s.c]) (.agg #[.int .u32 t.e, .int .i64 t.d, .int .u32 t.a, .int .u32 t.b, .int .u32 t.c])).run Tryz.prog w = .ok (.bool (eqT s t)) w := by
  obtain ⟨f, g, h, hl, f1, f2, f3, g1, g2, g3, h1, h2, h3⟩ := names25
  have q : (Op.equalIn 10000 41 (.agg #[.int .u32 s.e, .int .i64 s.d, .int .u32 s.a, .int .u32 s.b, .int .u32 s.c]) (.agg #[.int .u32 t.e, .int .i64 t.d, .int .u32 t.a, .int .u32 t.b, .int .u32 t.c])).run Tryz.prog w = .ok (s.e == t.e && (s.d == t.d && (s.a == t.a && (s.b == t.b && s.c == t.c)))) w := by
    rw [run_equalIn_struct w 9999 41 _ _ desc25 stood25, hl]
    simp only [Op.eqFields, f1, g1, h1, f2, g2, h2, f3, g3, h3, ne_eq, not_false_eq_true, if_true, Sem.run_bind]
    rw [run_part_plain w plain22 (v := .int .u32 s.e) (by simp)]
    simp only [Result.andThen_ok]
    rw [run_part_plain w plain22 (v := .int .u32 t.e) (by simp)]
    simp only [Result.andThen_ok]
    rw [run_u32]
    simp only [Result.andThen_ok]
    cases e0 : s.e == t.e
    · simp
    · simp only [Bool.not_true, Bool.false_eq_true, if_false, Sem.run_bind]
      rw [run_part_plain w plain3 (v := .int .i64 s.d) (by simp)]
      simp only [Result.andThen_ok]
      rw [run_part_plain w plain3 (v := .int .i64 t.d) (by simp)]
      simp only [Result.andThen_ok]
      rw [run_equalIn_int w 9998 3 .i64 .i64 _ _ Tryz.underlying3]
      simp only [Result.andThen_ok]
      cases e1 : s.d == t.d
      · simp
      · simp only [Bool.not_true, Bool.false_eq_true, if_false, Sem.run_bind]
        rw [run_part23]
        simp only [Result.andThen_ok]
        rw [run_part23]
        simp only [Result.andThen_ok]
        have x1 : ∀ u : Tm, (#[.int .u32 u.e, .int .i64 u.d, .int .u32 u.a, .int .u32 u.b, .int .u32 u.c] : Array Value).extract 2 5 = #[.int .u32 u.a, .int .u32 u.b, .int .u32 u.c] := fun u => by simp
        rw [x1, x1, run_eqA 9997]
        simp only [Result.andThen_ok]
        cases e2 : (s.a == t.a && (s.b == t.b && s.c == t.c))
        · simp
        · simp
  rw [run_eql_struct, q]
  simp only [Result.andThen_ok]
  congr 2
  obtain ⟨se, sd, sa, sb, sc⟩ := s
  obtain ⟨te, td, ta, tb, tc⟩ := t
  rw [Bool.eq_iff_iff]
  simp [eqT]
end Go.Proofs.YtkfjgmfokpgcbaaGreatDoor.stamp
namespace Go.Proofs.YtkfjgmfokpgcbaaGreatDoor.data
open Go.ChangeShapes Go.WideShapes Go.ChangeAt Go.RowKit
open Go.Proofs.YtkfjgmfokpgcbaaGreatDoor.tm Go.Proofs.YtkfjgmfokpgcbaaGreatDoor.opened Go.Proofs.YtkfjgmfokpgcbaaGreatDoor.block Go.Proofs.YtkfjgmfokpgcbaaGreatDoor.region Go.Proofs.YtkfjgmfokpgcbaaGreatDoor.stamp

theorem eqT_self (t : Tm) : eqT t t = true := by simp [eqT]
set_option maxRecDepth 100000 in
theorem alikeB_self (l : Int) (t : Tm) (A B : Option Addr) (c d : Nat) (N : List Rc) (hN : N.length ≤ 1000000) (w : World) (h1 : Lr w A N) (h2 : Lr w B N) :
    Calls Tryz.prog 17 #[.agg (bt l t A N.length c), .agg (bt l t B N.length d)] w fun e w' => e = .returned (.bool true) ∧ Below w.heap.size w w' := by
  have NE := fun W => (run_eqT t t W).trans (by rw [eqT_self])
  have b1 := fresh0 w (.cells (bt l t A N.length c) 46)
  have b2 := fresh0 (w.alloc (.cells (bt l t A N.length c) 46)) (.cells (bt l t B N.length d) 43)
  have B2 := Lib.hid (b1.trans (b2.mono b1.size))
  have AL := Lib.hid (fun W k1 k2 => alike_any A B c d N N hN W k1 k2)
  rw [decide_eq_true (rfl : N = N)] at AL
  have H1 := Lib.hid ((h1.below b1).below b2)
  have H2 := Lib.hid ((h2.below b1).below b2)
  clear h1 h2 b1 b2
  go_enter Tryz.func17, Tryz.ntmps17
  go_wp2_with (go_at_call 12; refine (AL.out _ H1.out H2.out).mono ?_; rintro e w3 ⟨rfl, b3⟩; have B3 := Lib.hid (B2.out.trans (b3.mono B2.out.size)); clear b3)
  go_ret
  exact ⟨rfl, B3.out⟩
end Go.Proofs.YtkfjgmfokpgcbaaGreatDoor.data
