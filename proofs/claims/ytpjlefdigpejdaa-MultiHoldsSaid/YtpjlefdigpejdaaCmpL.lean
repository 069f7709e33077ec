/-
  The contracts of cmp.Compare, cmp.Or and slices.Compare where stamp.Compare calls them.
-/
import Derived.Test.YtpjlefdigpejdaaLe
namespace Go.Proofs.Ytpjlefdigpejdaa.stamp
open Go.ChangeShapes Go.WideShapes Go.ChangeAt Go.RowKit
open Go.Proofs.Ytpjlefdigpejdaa.tm Go.Proofs.Ytpjlefdigpejdaa.opened Go.Proofs.Ytpjlefdigpejdaa.block

theorem cmp_i64 (x y : Int) (w : World) : Calls Try.prog 104 #[.int .i64 x, .int .i64 y] w fun e w' => e = .returned (.int .i64 (cmpI x y)) ∧ w = w' := by
  by_cases h : x < y
  · rw [show cmpI x y = -1 by simp [cmpI, h]]
    go_enter Try.func104, Try.ntmps104
    go_wp2
    go_ret
    exact ⟨rfl, rfl⟩
  · by_cases k : y < x
    · rw [show cmpI x y = 1 by simp [cmpI, h, k]]
      go_enter Try.func104, Try.ntmps104
      go_wp2
      go_ret
      exact ⟨rfl, rfl⟩
    · rw [show cmpI x y = 0 by simp [cmpI, h, k]]
      go_enter Try.func104, Try.ntmps104
      go_wp2
      go_ret
      exact ⟨rfl, rfl⟩
theorem cmp_u32 (x y : Int) (w : World) : Calls Try.prog 105 #[.int .u32 x, .int .u32 y] w fun e w' => e = .returned (.int .i64 (cmpI x y)) ∧ w = w' := by
  by_cases h : x < y
  · rw [show cmpI x y = -1 by simp [cmpI, h]]
    go_enter Try.func105, Try.ntmps105
    go_wp2
    go_ret
    exact ⟨rfl, rfl⟩
  · by_cases k : y < x
    · rw [show cmpI x y = 1 by simp [cmpI, h, k]]
      go_enter Try.func105, Try.ntmps105
      go_wp2
      go_ret
      exact ⟨rfl, rfl⟩
    · rw [show cmpI x y = 0 by simp [cmpI, h, k]]
      go_enter Try.func105, Try.ntmps105
      go_wp2
      go_ret
      exact ⟨rfl, rfl⟩
theorem cmp_is (x y : Int) {p : Int} (h : cmpI x y = p) (w : World) : Calls Try.prog 105 #[.int .u32 x, .int .u32 y] w fun e w' => e = .returned (.int .i64 p) ∧ w = w' := h ▸ cmp_u32 x y w

theorem or_any (p q r : Int) (g : Nat) (w : World) (c0 : w.cell? ⟨g, 0, none⟩ = some (.int .i64 p)) (c1 : w.cell? ⟨g, 1, none⟩ = some (.int .i64 q)) (c2 : w.cell? ⟨g, 2, none⟩ = some (.int .i64 r)) :
    Calls Try.prog 103 #[.slice (some ⟨g, 0, none⟩) 3 3] w fun e w' => e = .returned (.int .i64 (orI p (orI q r))) ∧ w = w' := by
  generalize hC : orI p (orI q r) = C
  have HC := Lib.hid hC
  clear hC
  go_enter Try.func103, Try.ntmps103
  go_wp2
  refine wp_loop_rounds 4 ?_
  rw [rounds_succ]
  go_wp2
  all_goals try (rw [rounds_succ]; go_wp2)
  all_goals try (rw [rounds_succ]; go_wp2)
  all_goals try (rw [rounds_succ]; go_wp2)
  all_goals go_ret
  all_goals refine ⟨ret_i64 ?_, rfl⟩
  all_goals rw [← HC.out]
  all_goals first | (have z := nz ‹(p != 0) = true›; simp [orI, z]) | (have y := ze ‹(p != 0) = false›; have z := nz ‹(q != 0) = true›; simp [orI, y, z]) | (have y := ze ‹(p != 0) = false›; have x := ze ‹(q != 0) = false›; have z := nz ‹(r != 0) = true›; simp [orI, y, x]) | (have y := ze ‹(p != 0) = false›; have x := ze ‹(q != 0) = false›; have z := ze ‹(r != 0) = false›; simp [orI, y, x, z])
theorem cmp3_any (a b c x y z : Int) (g k : Nat) (w : World) (a0 : w.cell? ⟨g, 2, none⟩ = some (.int .u32 a)) (a1 : w.cell? ⟨g, 3, none⟩ = some (.int .u32 b)) (a2 : w.cell? ⟨g, 4, none⟩ = some (.int .u32 c))
    (b0 : w.cell? ⟨k, 2, none⟩ = some (.int .u32 x)) (b1 : w.cell? ⟨k, 3, none⟩ = some (.int .u32 y)) (b2 : w.cell? ⟨k, 4, none⟩ = some (.int .u32 z)) :
    Calls Try.prog 106 #[.slice (some ⟨g, 2, none⟩) 3 3, .slice (some ⟨k, 2, none⟩) 3 3] w fun e w' => e = .returned (.int .i64 (orI (cmpI a x) (orI (cmpI b y) (cmpI c z)))) ∧ w = w' := by
  generalize hp : cmpI a x = p
  generalize hq : cmpI b y = q
  generalize hr : cmpI c z = r
  have HP := Lib.hid hp
  have HQ := Lib.hid hq
  have HR := Lib.hid hr
  clear hp hq hr
  generalize hC : orI p (orI q r) = C
  have HC := Lib.hid hC
  clear hC
  go_enter Try.func106, Try.ntmps106
  go_wp2
  refine wp_loop_rounds 4 ?_
  rw [rounds_succ]
  go_wp2_with (go_at_call 105; refine (cmp_is _ _ HP.out _).mono ?_; rintro e w' ⟨rfl, rfl⟩)
  all_goals try (rw [rounds_succ]; go_wp2_with (go_at_call 105; refine (cmp_is _ _ HQ.out _).mono ?_; rintro e w' ⟨rfl, rfl⟩))
  all_goals try (rw [rounds_succ]; go_wp2_with (go_at_call 105; refine (cmp_is _ _ HR.out _).mono ?_; rintro e w' ⟨rfl, rfl⟩))
  all_goals try (rw [rounds_succ]; go_wp2)
  all_goals go_ret
  all_goals refine ⟨ret_i64 ?_, rfl⟩
  all_goals rw [← HC.out]
  all_goals first | (have z := nz ‹(p != 0) = true›; simp [orI, z]) | (have y := ze ‹(p != 0) = false›; have z := nz ‹(q != 0) = true›; simp [orI, y, z]) | (have y := ze ‹(p != 0) = false›; have x := ze ‹(q != 0) = false›; have z := nz ‹(r != 0) = true›; simp [orI, y, x]) | (have y := ze ‹(p != 0) = false›; have x := ze ‹(q != 0) = false›; have z := ze ‹(r != 0) = false›; simp [orI, y, x, z])
end Go.Proofs.Ytpjlefdigpejdaa.stamp
