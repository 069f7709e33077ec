/-
  The contracts of stamp.Check and of watershedref04.Check, at any time.
  A time that came in, as the walk wants it.
-/
import Derived.Test.YtkfjgmfokpgcbaaGreatDoorRows
import Derived.WalkKit
import Derived.ProofKit
import Derived.OpenShut
import Derived.Lib.Hide
import Derived.Handy
import Derived.LoopN
import Derived.Test.YtkfjgmfokpgcbaaGreatDoorJTm
import Derived.Test.YtkfjgmfokpgcbaaGreatDoorJOpen
import Derived.Test.YtkfjgmfokpgcbaaGreatDoorJBlock
namespace Go.Proofs.YtkfjgmfokpgcbaaGreatDoor.stamp
open Go.ChangeShapes Go.WideShapes Go.ChangeAt Go.RowKit
open Go.Proofs.YtkfjgmfokpgcbaaGreatDoor.tm Go.Proofs.YtkfjgmfokpgcbaaGreatDoor.opened Go.Proofs.YtkfjgmfokpgcbaaGreatDoor.block

theorem ret_i64 {a b : Int} (h : a = b) : Ending.returned (.int .i64 a) = .returned (.int .i64 b) := by rw [h]
theorem isCount_yes (a : Int) (h : a ≤ 1048576) (w : World) : Calls Tryz.prog 59 #[.int .u32 a] w fun e w' => e = .returned (.bool true) ∧ w = w' := by
  go_enter Tryz.func59, Tryz.ntmps59
  go_wp2
  go_ret
  exact ⟨rfl, rfl⟩
theorem isCount_no (a : Int) (h : ¬ a ≤ 1048576) (w : World) : Calls Tryz.prog 59 #[.int .u32 a] w fun e w' => e = .returned (.bool false) ∧ w = w' := by
  have h' : decide (a ≤ 1048576) = false := by simpa using h
  go_enter Tryz.func59, Tryz.ntmps59
  go_wp2
  go_ret
  exact ⟨rfl, rfl⟩
theorem isDepth_yes (d : Int) (h0 : 0 ≤ d) (h1 : d ≤ 3) (w : World) : Calls Tryz.prog 58 #[.int .i64 d] w fun e w' => e = .returned (.bool true) ∧ w = w' := by
  go_enter Tryz.func58, Tryz.ntmps58
  go_wp2
  go_ret
  exact ⟨rfl, rfl⟩
theorem isDepth_no (d : Int) (h : d < 0 ∨ 3 < d) (w : World) : Calls Tryz.prog 58 #[.int .i64 d] w fun e w' => e = .returned (.bool false) ∧ w = w' := by
  by_cases h0 : 0 ≤ d
  · have h1 : decide (d ≤ 3) = false := by simp; omega
    clear h
    go_enter Tryz.func58, Tryz.ntmps58
    go_wp2
    go_ret
    exact ⟨rfl, rfl⟩
  · have h1 : decide (0 ≤ d) = false := by simpa using h0
    clear h
    go_enter Tryz.func58, Tryz.ntmps58
    go_wp2
    go_ret
    exact ⟨rfl, rfl⟩

theorem ixA (x y z : Int) : ∀ w, (Instr.index 39 (.agg #[.int .u32 x, .int .u32 y, .int .u32 z]) (.int .i64 0)).run Tryz.prog w = .ok (.int .u32 x) w := fun _ => by kernel_rfl
theorem ixB (x y z : Int) : ∀ w, (Instr.index 39 (.agg #[.int .u32 x, .int .u32 y, .int .u32 z]) (.int .i64 1)).run Tryz.prog w = .ok (.int .u32 y) w := fun _ => by kernel_rfl
theorem ixC (x y z : Int) : ∀ w, (Instr.index 39 (.agg #[.int .u32 x, .int .u32 y, .int .u32 z]) (.int .i64 2)).run Tryz.prog w = .ok (.int .u32 z) w := fun _ => by kernel_rfl
theorem fresh1 (w : World) (o : Obj) : Below w.heap.size w (w.alloc o) := (Below.refl _ _).alloc (Nat.le_refl _) _
theorem nz {x : Int} (h : (x != 0) = true) : x ≠ 0 := by simpa using h
theorem ze {x : Int} (h : (x != 0) = false) : x = 0 := by simpa using h
theorem check_depth (t : Tm) (_i : t.In) (h : t.d < 0 ∨ 3 < t.d) (w : World) : Calls Tryz.prog 43 #[.agg #[.int .u32 t.e, .int .i64 t.d, .int .u32 t.a, .int .u32 t.b, .int .u32 t.c]] w fun e w' => e = .returned (.int .i64 10) ∧ Below w.heap.size w w' := by
  go_enter Tryz.func43, Tryz.ntmps43
  go_wp2_with (go_at_call 58; refine (isDepth_no _ h _).mono ?_; rintro e w' ⟨rfl, rfl⟩)
  go_ret
  exact ⟨rfl, fresh1 _ _⟩
theorem check_range (t : Tm) (_i : t.In) (h0 : 0 ≤ t.d) (h1 : t.d ≤ 3) (h : 1048576 < t.e ∨ 1048576 < t.a ∨ 1048576 < t.b ∨ 1048576 < t.c) (w : World) : Calls Tryz.prog 43 #[.agg #[.int .u32 t.e, .int .i64 t.d, .int .u32 t.a, .int .u32 t.b, .int .u32 t.c]] w fun e w' => e = .returned (.int .i64 1) ∧ Below w.heap.size w w' := by
  have x0 := ixA t.a t.b t.c
  have x1 := ixB t.a t.b t.c
  have x2 := ixC t.a t.b t.c
  by_cases he : t.e ≤ 1048576
  · by_cases ha : t.a ≤ 1048576
    · by_cases hb : t.b ≤ 1048576
      · have hc : 1048576 < t.c := by omega
        clear h
        go_enter Tryz.func43, Tryz.ntmps43
        go_wp2_with (first | (go_at_call 58; refine (isDepth_yes _ h0 h1 _).mono ?_; rintro e w' ⟨rfl, rfl⟩) | (go_at_call 59; refine (isCount_yes _ (by omega) _).mono ?_; rintro e w' ⟨rfl, rfl⟩))
        refine wp_loop_rounds 3 ?_
        rw [rounds_succ]
        go_wp2_with (first | (go_at_call 59; refine (isCount_yes _ (by omega) _).mono ?_; rintro e w' ⟨rfl, rfl⟩))
        rw [rounds_succ]
        go_wp2_with (first | (go_at_call 59; refine (isCount_yes _ (by omega) _).mono ?_; rintro e w' ⟨rfl, rfl⟩))
        rw [rounds_succ]
        go_wp2_with (first | (go_at_call 59; refine (isCount_no _ (by omega) _).mono ?_; rintro e w' ⟨rfl, rfl⟩))
        go_ret
        exact ⟨rfl, fresh1 _ _⟩
      · clear h
        go_enter Tryz.func43, Tryz.ntmps43
        go_wp2_with (first | (go_at_call 58; refine (isDepth_yes _ h0 h1 _).mono ?_; rintro e w' ⟨rfl, rfl⟩) | (go_at_call 59; refine (isCount_yes _ (by omega) _).mono ?_; rintro e w' ⟨rfl, rfl⟩))
        refine wp_loop_rounds 3 ?_
        rw [rounds_succ]
        go_wp2_with (first | (go_at_call 59; refine (isCount_yes _ (by omega) _).mono ?_; rintro e w' ⟨rfl, rfl⟩))
        rw [rounds_succ]
        go_wp2_with (first | (go_at_call 59; refine (isCount_no _ (by omega) _).mono ?_; rintro e w' ⟨rfl, rfl⟩))
        go_ret
        exact ⟨rfl, fresh1 _ _⟩
    · clear h
      go_enter Tryz.func43, Tryz.ntmps43
      go_wp2_with (first | (go_at_call 58; refine (isDepth_yes _ h0 h1 _).mono ?_; rintro e w' ⟨rfl, rfl⟩) | (go_at_call 59; refine (isCount_yes _ (by omega) _).mono ?_; rintro e w' ⟨rfl, rfl⟩))
      refine wp_loop_rounds 3 ?_
      rw [rounds_succ]
      go_wp2_with (first | (go_at_call 59; refine (isCount_no _ (by omega) _).mono ?_; rintro e w' ⟨rfl, rfl⟩))
      go_ret
      exact ⟨rfl, fresh1 _ _⟩
  · clear h
    go_enter Tryz.func43, Tryz.ntmps43
    go_wp2_with (first | (go_at_call 58; refine (isDepth_yes _ h0 h1 _).mono ?_; rintro e w' ⟨rfl, rfl⟩) | (go_at_call 59; refine (isCount_no _ (by omega) _).mono ?_; rintro e w' ⟨rfl, rfl⟩))
    go_ret
    exact ⟨rfl, fresh1 _ _⟩
theorem check_rest (t : Tm) (_i : t.In) (h0 : 0 ≤ t.d) (h1 : t.d ≤ 3) (he : t.e ≤ 1048576) (ha : t.a ≤ 1048576) (hb : t.b ≤ 1048576) (hc : t.c ≤ 1048576) (w : World) :
    Calls Tryz.prog 43 #[.agg #[.int .u32 t.e, .int .i64 t.d, .int .u32 t.a, .int .u32 t.b, .int .u32 t.c]] w fun e w' => e = .returned (.int .i64 (chk t)) ∧ Below w.heap.size w w' := by
  have x0 := ixA t.a t.b t.c
  have x1 := ixB t.a t.b t.c
  have x2 := ixC t.a t.b t.c
  have hd : t.d = 0 ∨ t.d = 1 ∨ t.d = 2 ∨ t.d = 3 := by omega
  generalize hC : chk t = C
  have HC := Lib.hid hC
  clear hC
  obtain ⟨e, d, a, b, c⟩ := t
  dsimp only at *
  rcases hd with rfl | rfl | rfl | rfl
  all_goals go_enter Tryz.func43, Tryz.ntmps43
  all_goals go_wp2_with (first | (go_at_call 58; refine (isDepth_yes _ h0 h1 _).mono ?_; rintro e w' ⟨rfl, rfl⟩) | (go_at_call 59; refine (isCount_yes _ (by omega) _).mono ?_; rintro e w' ⟨rfl, rfl⟩))
  all_goals refine wp_loop_rounds 4 ?_
  all_goals rw [rounds_succ]
  all_goals go_wp2_with (first | (go_at_call 59; refine (isCount_yes _ (by omega) _).mono ?_; rintro e w' ⟨rfl, rfl⟩))
  all_goals rw [rounds_succ]
  all_goals go_wp2_with (first | (go_at_call 59; refine (isCount_yes _ (by omega) _).mono ?_; rintro e w' ⟨rfl, rfl⟩))
  all_goals rw [rounds_succ]
  all_goals go_wp2_with (first | (go_at_call 59; refine (isCount_yes _ (by omega) _).mono ?_; rintro e w' ⟨rfl, rfl⟩))
  all_goals rw [rounds_succ]
  all_goals go_wp2
  all_goals refine wp_loop_rounds 4 ?_
  all_goals rw [rounds_succ]
  all_goals go_wp2
  all_goals try (rw [rounds_succ]; go_wp2)
  all_goals try (rw [rounds_succ]; go_wp2)
  all_goals try (rw [rounds_succ]; go_wp2)
  all_goals go_ret
  all_goals refine ⟨ret_i64 ?_, fresh1 _ _⟩
  all_goals rw [← HC.out]
  all_goals first | (have z := nz ‹(a != 0) = true›; rw [chk_field] <;> simp only <;> omega) | (have z := nz ‹(b != 0) = true›; rw [chk_field] <;> simp only <;> omega) | (have z := nz ‹(c != 0) = true›; rw [chk_field] <;> simp only <;> omega) | (have z := ze ‹(a != 0) = false›; have y := ze ‹(b != 0) = false›; have x := ze ‹(c != 0) = false›; rw [chk_ok] <;> simp only <;> omega) | (have y := ze ‹(b != 0) = false›; have x := ze ‹(c != 0) = false›; rw [chk_ok] <;> simp only <;> omega) | (have x := ze ‹(c != 0) = false›; rw [chk_ok] <;> simp only <;> omega) | (rw [chk_ok] <;> simp only <;> omega)
theorem check_any (t : Tm) (i : t.In) (w : World) : Calls Tryz.prog 43 #[.agg #[.int .u32 t.e, .int .i64 t.d, .int .u32 t.a, .int .u32 t.b, .int .u32 t.c]] w fun e w' => e = .returned (.int .i64 (chk t)) ∧ Below w.heap.size w w' := by
  by_cases h : t.d < 0 ∨ 3 < t.d
  · rw [chk_depth h]; exact check_depth t i h w
  · by_cases k : 1048576 < t.e ∨ 1048576 < t.a ∨ 1048576 < t.b ∨ 1048576 < t.c
    · rw [chk_range h k]; exact check_range t i (by omega) (by omega) k w
    · exact check_rest t i (by omega) (by omega) (by omega) (by omega) (by omega) (by omega) w

end Go.Proofs.YtkfjgmfokpgcbaaGreatDoor.stamp
namespace Go.Proofs.YtkfjgmfokpgcbaaGreatDoor.stamp
open Go.ChangeShapes Go.WideShapes Go.ChangeAt Go.RowKit
open Go.Proofs.YtkfjgmfokpgcbaaGreatDoor.tm Go.Proofs.YtkfjgmfokpgcbaaGreatDoor.opened Go.Proofs.YtkfjgmfokpgcbaaGreatDoor.block

def timeR : Reader (Int × Int × List Int × Unit) := consR 1 (intR .u32) (consR 1 (intR .i64) (consR 3 (arrR 3 1 (intR .u32)) nilR))
set_option maxRecDepth 100000 in
theorem opens_time : Opens Tryz.prog 41 timeR :=
  opens_struct Tryz.underlying41 (by kernel_rfl) (by kernel_rfl) (opensFs_cons (opens_int Tryz.underlying38) (m := 1) (by kernel_rfl) (opensFs_cons (opens_int Tryz.underlying3) (m := 1) (by kernel_rfl) (opensFs_cons (opens_array (n := 3) (m := 1) Tryz.underlying39 (by kernel_rfl) (by kernel_rfl) (opens_int Tryz.underlying38)) (m := 3) (by kernel_rfl) opensFs_nil)))
set_option maxRecDepth 100000 in
theorem time_cells {w : World} {cs : List Value} {p : Int × Int × List Int × Unit} (h : timeR w cs p) : ∃ t : Tm, t.In ∧ cs = #[.int .u32 t.e, .int .i64 t.d, .int .u32 t.a, .int .u32 t.b, .int .u32 t.c].toList := by
  obtain ⟨⟨h1, w1⟩, ⟨h2, w2⟩, ⟨l1, l2, h3⟩, h4⟩ := h
  obtain ⟨e, d, l, u⟩ := p
  dsimp only at *
  match l, l2 with
  | [x, y, z], _ =>
    obtain ⟨k0, v0⟩ := h3 0 x rfl
    obtain ⟨k1, v1⟩ := h3 1 y rfl
    obtain ⟨k2, v2⟩ := h3 2 z rfl
    obtain ⟨a0, a1⟩ := bounds_u32 w1
    obtain ⟨a2, a3⟩ := bounds_i64 w2
    obtain ⟨a4, a5⟩ := bounds_u32 v0
    obtain ⟨a6, a7⟩ := bounds_u32 v1
    obtain ⟨a8, a9⟩ := bounds_u32 v2
    refine ⟨⟨e, d, x, y, z⟩, ⟨a0, by omega, a2, a3, a4, by omega, a6, by omega, a8, by omega⟩, ?_⟩
    unfold nilR at h4
    match cs, h1 with
    | c0 :: cs, h1 =>
      simp at h1
      subst h1
      match cs, h2 with
      | c1 :: cs, h2 =>
        simp at h2
        subst h2
        match cs, k0, k1, k2, h4, l1 with
        | [c2, c3, c4], k0, k1, k2, _, _ => simp at k0 k1 k2; subst k0; subst k1; subst k2; rfl
set_option maxRecDepth 100000 in
theorem top_time {w : World} {r : Reach} {b : Nat} {v : Value} {p : Int × Int × List Int × Unit} (hv : Value.okWide Tryz.prog w r b 41 v) (h : timeR w v.cells.toList p) : ∃ t : Tm, t.In ∧ v = .agg #[.int .u32 t.e, .int .i64 t.d, .int .u32 t.a, .int .u32 t.b, .int .u32 t.c] := by
  obtain ⟨t, i, ht⟩ := time_cells h
  refine ⟨t, i, ?_⟩
  rw [top_struct Tryz.underlying41 hv]
  congr 1
  exact Array.toList_inj.1 ht
end Go.Proofs.YtkfjgmfokpgcbaaGreatDoor.stamp
