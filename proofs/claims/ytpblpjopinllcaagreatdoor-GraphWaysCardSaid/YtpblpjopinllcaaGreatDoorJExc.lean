/-
  The contract of path.exceeds.
-/
import Derived.Test.YtpblpjopinllcaaGreatDoorJKn
namespace Go.Proofs.YtpblpjopinllcaaGreatDoor.path
open Go.ChangeShapes Go.WideShapes Go.ChangeAt Go.RowKit
open Go.Proofs.YtpblpjopinllcaaGreatDoor.tm Go.Proofs.YtpblpjopinllcaaGreatDoor.opened Go.Proofs.YtpblpjopinllcaaGreatDoor.block Go.Proofs.YtpblpjopinllcaaGreatDoor.stamp Go.Proofs.YtpblpjopinllcaaGreatDoor.pa

/-- Is one of the numbers greater? -/
def excB (l : List Int) (m : Int) : Bool := l.any (fun x => decide (m < x))
theorem exc0 (m : Int) (A : Option Addr) (cap : Nat) {v : Bool} (hv : excB [] m = v) (w : World) : Calls Tryz.prog 102 #[.slice A 0 cap, .int .u32 m] w fun e w' => e = .returned (.bool v) ∧ w = w' := by
  subst hv
  go_enter Tryz.func102, Tryz.ntmps102
  go_wp2
  refine wp_loop_rounds 2 ?_
  rw [rounds_succ]
  go_wp2
  go_ret
  exact ⟨rfl, rfl⟩
theorem exc1 (a m : Int) (g o cap : Nat) {v : Bool} (hv : excB [a] m = v) (w : World) (c0 : w.cell? ⟨g, o, none⟩ = some (.int .u32 a)) :
    Calls Tryz.prog 102 #[.slice (some ⟨g, o, none⟩) 1 cap, .int .u32 m] w fun e w' => e = .returned (.bool v) ∧ w = w' := by
  have HC := Lib.hid hv
  clear hv
  go_enter Tryz.func102, Tryz.ntmps102
  go_wp2
  refine wp_loop_rounds 2 ?_
  rw [rounds_succ]
  go_wp2
  all_goals try (rw [rounds_succ]; go_wp2)
  all_goals go_ret
  all_goals refine ⟨ret_bool ?_, rfl⟩
  all_goals rw [← HC.out]
  all_goals simp [excB]
  all_goals omega
theorem exc2 (a b m : Int) (g o cap : Nat) {v : Bool} (hv : excB [a, b] m = v) (w : World) (c0 : w.cell? ⟨g, o, none⟩ = some (.int .u32 a)) (c1 : w.cell? ⟨g, o + 1, none⟩ = some (.int .u32 b)) :
    Calls Tryz.prog 102 #[.slice (some ⟨g, o, none⟩) 2 cap, .int .u32 m] w fun e w' => e = .returned (.bool v) ∧ w = w' := by
  have HC := Lib.hid hv
  clear hv
  go_enter Tryz.func102, Tryz.ntmps102
  go_wp2
  refine wp_loop_rounds 3 ?_
  rw [rounds_succ]
  go_wp2
  all_goals try (rw [rounds_succ]; go_wp2)
  all_goals try (rw [rounds_succ]; go_wp2)
  all_goals go_ret
  all_goals refine ⟨ret_bool ?_, rfl⟩
  all_goals rw [← HC.out]
  all_goals simp [excB]
  all_goals omega
theorem exc3 (a b c m : Int) (g o cap : Nat) {v : Bool} (hv : excB [a, b, c] m = v) (w : World) (c0 : w.cell? ⟨g, o, none⟩ = some (.int .u32 a)) (c1 : w.cell? ⟨g, o + 1, none⟩ = some (.int .u32 b)) (c2 : w.cell? ⟨g, o + 2, none⟩ = some (.int .u32 c)) :
    Calls Tryz.prog 102 #[.slice (some ⟨g, o, none⟩) 3 cap, .int .u32 m] w fun e w' => e = .returned (.bool v) ∧ w = w' := by
  have HC := Lib.hid hv
  clear hv
  go_enter Tryz.func102, Tryz.ntmps102
  go_wp2
  refine wp_loop_rounds 4 ?_
  rw [rounds_succ]
  go_wp2
  all_goals try (rw [rounds_succ]; go_wp2)
  all_goals try (rw [rounds_succ]; go_wp2)
  all_goals try (rw [rounds_succ]; go_wp2)
  all_goals go_ret
  all_goals refine ⟨ret_bool ?_, rfl⟩
  all_goals rw [← HC.out]
  all_goals simp [excB]
  all_goals omega
theorem exc4 (a b c d m : Int) (g o cap : Nat) {v : Bool} (hv : excB [a, b, c, d] m = v) (w : World) (c0 : w.cell? ⟨g, o, none⟩ = some (.int .u32 a)) (c1 : w.cell? ⟨g, o + 1, none⟩ = some (.int .u32 b)) (c2 : w.cell? ⟨g, o + 2, none⟩ = some (.int .u32 c)) (c3 : w.cell? ⟨g, o + 3, none⟩ = some (.int .u32 d)) :
    Calls Tryz.prog 102 #[.slice (some ⟨g, o, none⟩) 4 cap, .int .u32 m] w fun e w' => e = .returned (.bool v) ∧ w = w' := by
  have HC := Lib.hid hv
  clear hv
  go_enter Tryz.func102, Tryz.ntmps102
  go_wp2
  refine wp_loop_rounds 5 ?_
  rw [rounds_succ]
  go_wp2
  all_goals try (rw [rounds_succ]; go_wp2)
  all_goals try (rw [rounds_succ]; go_wp2)
  all_goals try (rw [rounds_succ]; go_wp2)
  all_goals try (rw [rounds_succ]; go_wp2)
  all_goals go_ret
  all_goals refine ⟨ret_bool ?_, rfl⟩
  all_goals rw [← HC.out]
  all_goals simp [excB]
  all_goals omega
theorem exP2 {a0 a1 b : Value} {p0 p1 p2 p3 l0 l1 l2 m : Int} {g cap : Nat} {t : TypeId} {w : World} {v : Bool} (hv : excB [p0, p1, p2, p3] m = v) (hR : Whole w g t #[a0, a1, .int .u32 p0, .int .u32 p1, .int .u32 p2, .int .u32 p3, b, .int .u32 l0, .int .u32 l1, .int .u32 l2]) : Calls Tryz.prog 102 #[.slice (some ⟨g, 2, none⟩) 4 cap, .int .u32 m] w fun e w' => e = .returned (.bool v) ∧ w = w' :=
  exc4 p0 p1 p2 p3 m g 2 cap hv w (hR.read 2) (hR.read 3) (hR.read 4) (hR.read 5)
theorem exP3 {a0 a1 b : Value} {p0 p1 p2 p3 l0 l1 l2 m : Int} {g cap : Nat} {t : TypeId} {w : World} {v : Bool} (hv : excB [p1, p2, p3] m = v) (hR : Whole w g t #[a0, a1, .int .u32 p0, .int .u32 p1, .int .u32 p2, .int .u32 p3, b, .int .u32 l0, .int .u32 l1, .int .u32 l2]) : Calls Tryz.prog 102 #[.slice (some ⟨g, 3, none⟩) 3 cap, .int .u32 m] w fun e w' => e = .returned (.bool v) ∧ w = w' :=
  exc3 p1 p2 p3 m g 3 cap hv w (hR.read 3) (hR.read 4) (hR.read 5)
theorem exP4 {a0 a1 b : Value} {p0 p1 p2 p3 l0 l1 l2 m : Int} {g cap : Nat} {t : TypeId} {w : World} {v : Bool} (hv : excB [p2, p3] m = v) (hR : Whole w g t #[a0, a1, .int .u32 p0, .int .u32 p1, .int .u32 p2, .int .u32 p3, b, .int .u32 l0, .int .u32 l1, .int .u32 l2]) : Calls Tryz.prog 102 #[.slice (some ⟨g, 4, none⟩) 2 cap, .int .u32 m] w fun e w' => e = .returned (.bool v) ∧ w = w' :=
  exc2 p2 p3 m g 4 cap hv w (hR.read 4) (hR.read 5)
theorem exP5 {a0 a1 b : Value} {p0 p1 p2 p3 l0 l1 l2 m : Int} {g cap : Nat} {t : TypeId} {w : World} {v : Bool} (hv : excB [p3] m = v) (hR : Whole w g t #[a0, a1, .int .u32 p0, .int .u32 p1, .int .u32 p2, .int .u32 p3, b, .int .u32 l0, .int .u32 l1, .int .u32 l2]) : Calls Tryz.prog 102 #[.slice (some ⟨g, 5, none⟩) 1 cap, .int .u32 m] w fun e w' => e = .returned (.bool v) ∧ w = w' :=
  exc1 p3 m g 5 cap hv w (hR.read 5)
theorem exP7 {a0 a1 b : Value} {p0 p1 p2 p3 l0 l1 l2 m : Int} {g cap : Nat} {t : TypeId} {w : World} {v : Bool} (hv : excB [l0, l1, l2] m = v) (hR : Whole w g t #[a0, a1, .int .u32 p0, .int .u32 p1, .int .u32 p2, .int .u32 p3, b, .int .u32 l0, .int .u32 l1, .int .u32 l2]) : Calls Tryz.prog 102 #[.slice (some ⟨g, 7, none⟩) 3 cap, .int .u32 m] w fun e w' => e = .returned (.bool v) ∧ w = w' :=
  exc3 l0 l1 l2 m g 7 cap hv w (hR.read 7) (hR.read 8) (hR.read 9)
theorem exP8 {a0 a1 b : Value} {p0 p1 p2 p3 l0 l1 l2 m : Int} {g cap : Nat} {t : TypeId} {w : World} {v : Bool} (hv : excB [l1, l2] m = v) (hR : Whole w g t #[a0, a1, .int .u32 p0, .int .u32 p1, .int .u32 p2, .int .u32 p3, b, .int .u32 l0, .int .u32 l1, .int .u32 l2]) : Calls Tryz.prog 102 #[.slice (some ⟨g, 8, none⟩) 2 cap, .int .u32 m] w fun e w' => e = .returned (.bool v) ∧ w = w' :=
  exc2 l1 l2 m g 8 cap hv w (hR.read 8) (hR.read 9)
theorem exP9 {a0 a1 b : Value} {p0 p1 p2 p3 l0 l1 l2 m : Int} {g cap : Nat} {t : TypeId} {w : World} {v : Bool} (hv : excB [l2] m = v) (hR : Whole w g t #[a0, a1, .int .u32 p0, .int .u32 p1, .int .u32 p2, .int .u32 p3, b, .int .u32 l0, .int .u32 l1, .int .u32 l2]) : Calls Tryz.prog 102 #[.slice (some ⟨g, 9, none⟩) 1 cap, .int .u32 m] w fun e w' => e = .returned (.bool v) ∧ w = w' :=
  exc1 l2 m g 9 cap hv w (hR.read 9)
end Go.Proofs.YtpblpjopinllcaaGreatDoor.path
