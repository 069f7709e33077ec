/-
  The contracts of the five paths of any depth, the program's and the document's own.
-/
import Derived.Test.YtlbphlhbofjfgaaDoorJKn
namespace Go.Proofs.YtlbphlhbofjfgaaDoor.path
open Go.ChangeShapes Go.WideShapes Go.ChangeAt Go.RowKit
open Go.Proofs.YtlbphlhbofjfgaaDoor.tm Go.Proofs.YtlbphlhbofjfgaaDoor.opened Go.Proofs.YtlbphlhbofjfgaaDoor.block Go.Proofs.YtlbphlhbofjfgaaDoor.stamp Go.Proofs.YtlbphlhbofjfgaaDoor.pa

theorem depth_yes (d : Int) (h0 : 0 ≤ d) (h1 : d ≤ 3) (w : World) : Calls Tryd.prog 71 #[.int .i64 d] w fun e w' => e = .returned (.bool true) ∧ w = w' := by
  go_enter Tryd.func71, Tryd.ntmps71
  go_wp2
  go_ret
  exact ⟨rfl, rfl⟩
theorem depth_no (d : Int) (h : d < 0 ∨ 3 < d) (w : World) : Calls Tryd.prog 71 #[.int .i64 d] w fun e w' => e = .returned (.bool false) ∧ w = w' := by
  by_cases h0 : 0 ≤ d
  · have h1 : decide (d ≤ 3) = false := by simp; omega
    clear h
    go_enter Tryd.func71, Tryd.ntmps71
    go_wp2
    go_ret
    exact ⟨rfl, rfl⟩
  · have h1 : decide (0 ≤ d) = false := by simpa using h0
    clear h
    go_enter Tryd.func71, Tryd.ntmps71
    go_wp2
    go_ret
    exact ⟨rfl, rfl⟩
theorem inner_yes (d : Int) (h0 : 1 ≤ d) (h1 : d ≤ 3) (w : World) : Calls Tryd.prog 72 #[.int .i64 d] w fun e w' => e = .returned (.bool true) ∧ w = w' := by
  go_enter Tryd.func72, Tryd.ntmps72
  go_wp2_with (go_at_call 71; refine (depth_yes _ (by omega) (by omega) _).mono ?_; rintro e w' ⟨rfl, rfl⟩)
  go_ret
  exact ⟨by simp; omega, rfl⟩
theorem inner_no (d : Int) (h : d ≤ 0 ∨ 3 < d) (w : World) : Calls Tryd.prog 72 #[.int .i64 d] w fun e w' => e = .returned (.bool false) ∧ w = w' := by
  by_cases h0 : d = 0
  · subst h0
    clear h
    go_enter Tryd.func72, Tryd.ntmps72
    go_wp2_with (go_at_call 71; refine (depth_yes _ (by omega) (by omega) _).mono ?_; rintro e w' ⟨rfl, rfl⟩)
    go_ret
    exact ⟨rfl, rfl⟩
  · have h1 : d < 0 ∨ 3 < d := by omega
    clear h h0
    go_enter Tryd.func72, Tryd.ntmps72
    go_wp2_with (go_at_call 71; refine (depth_no _ h1 _).mono ?_; rintro e w' ⟨rfl, rfl⟩)
    go_ret
    exact ⟨rfl, rfl⟩
theorem stay_bad (d : Int) (h : d < 0 ∨ 3 < d) (w : World) : Calls Tryd.prog 51 #[.int .i64 d] w (Gives P0 10 w) := by
  go_enter Tryd.func51, Tryd.ntmps51
  go_wp2_with (go_at_call 71; refine (depth_no _ h _).mono ?_; rintro e w' ⟨rfl, rfl⟩)
  exact bodyPost_ret (v := .tuple #[.agg #[.int .i64 P0.f, .int .i64 P0.k, .int .u32 P0.p0, .int .u32 P0.p1, .int .u32 P0.p2, .int .u32 P0.p3, .int .i64 P0.u, .int .u32 P0.l0, .int .u32 P0.l1, .int .u32 P0.l2], .int .i64 10]) (by simp [results, Tryd.results51, go_sem, P0]) rfl (gives (fresh1 _ _) rfl rfl)
theorem stay_good (d : Int) (h0 : 0 ≤ d) (h1 : d ≤ 3) (w : World) : Calls Tryd.prog 51 #[.int .i64 d] w (Gives ⟨d, d, 0, 0, 0, 0, 0, 0, 0, 0⟩ 0 w) := by
  go_enter Tryd.func51, Tryd.ntmps51
  go_wp2_with (go_at_call 71; refine (depth_yes _ h0 h1 _).mono ?_; rintro e w' ⟨rfl, rfl⟩)
  exact bodyPost_ret (v := .tuple #[.agg #[.int .i64 (Pa.mk d d 0 0 0 0 0 0 0 0).f, .int .i64 (Pa.mk d d 0 0 0 0 0 0 0 0).k, .int .u32 (Pa.mk d d 0 0 0 0 0 0 0 0).p0, .int .u32 (Pa.mk d d 0 0 0 0 0 0 0 0).p1, .int .u32 (Pa.mk d d 0 0 0 0 0 0 0 0).p2, .int .u32 (Pa.mk d d 0 0 0 0 0 0 0 0).p3, .int .i64 (Pa.mk d d 0 0 0 0 0 0 0 0).u, .int .u32 (Pa.mk d d 0 0 0 0 0 0 0 0).l0, .int .u32 (Pa.mk d d 0 0 0 0 0 0 0 0).l1, .int .u32 (Pa.mk d d 0 0 0 0 0 0 0 0).l2], .int .i64 0]) (by simp [results, Tryd.results51, go_sem]) rfl (gives (fresh1 _ _) rfl rfl)
theorem stay_any (d : Int) (w : World) : Calls Tryd.prog 51 #[.int .i64 d] w (Gives (stayV d) (stayE d) w) := by
  unfold stayV stayE
  split
  · exact stay_good d (by omega) (by omega) w
  · exact stay_bad d (by omega) w
theorem stayR_bad (d : Int) (h : d < 0 ∨ 3 < d) (w : World) : Calls Tryd.prog 56 #[.int .i64 d] w (Gives P0 10 w) := by
  by_cases h0 : d < 0
  · clear h
    go_enter Tryd.func56, Tryd.ntmps56
    go_wp2
    exact bodyPost_ret (v := .tuple #[.agg #[.int .i64 P0.f, .int .i64 P0.k, .int .u32 P0.p0, .int .u32 P0.p1, .int .u32 P0.p2, .int .u32 P0.p3, .int .i64 P0.u, .int .u32 P0.l0, .int .u32 P0.l1, .int .u32 P0.l2], .int .i64 10]) (by simp [results, Tryd.results56, go_sem, P0]) rfl (gives (fresh1 _ _) rfl rfl)
  · have h1 : 3 < d := by omega
    clear h
    go_enter Tryd.func56, Tryd.ntmps56
    go_wp2
    exact bodyPost_ret (v := .tuple #[.agg #[.int .i64 P0.f, .int .i64 P0.k, .int .u32 P0.p0, .int .u32 P0.p1, .int .u32 P0.p2, .int .u32 P0.p3, .int .i64 P0.u, .int .u32 P0.l0, .int .u32 P0.l1, .int .u32 P0.l2], .int .i64 10]) (by simp [results, Tryd.results56, go_sem, P0]) rfl (gives (fresh1 _ _) rfl rfl)
theorem stayR_good (d : Int) (h0 : 0 ≤ d) (h1 : d ≤ 3) (w : World) : Calls Tryd.prog 56 #[.int .i64 d] w (Gives ⟨d, d, 0, 0, 0, 0, 0, 0, 0, 0⟩ 0 w) := by
  go_enter Tryd.func56, Tryd.ntmps56
  go_wp2
  exact bodyPost_ret (v := .tuple #[.agg #[.int .i64 (Pa.mk d d 0 0 0 0 0 0 0 0).f, .int .i64 (Pa.mk d d 0 0 0 0 0 0 0 0).k, .int .u32 (Pa.mk d d 0 0 0 0 0 0 0 0).p0, .int .u32 (Pa.mk d d 0 0 0 0 0 0 0 0).p1, .int .u32 (Pa.mk d d 0 0 0 0 0 0 0 0).p2, .int .u32 (Pa.mk d d 0 0 0 0 0 0 0 0).p3, .int .i64 (Pa.mk d d 0 0 0 0 0 0 0 0).u, .int .u32 (Pa.mk d d 0 0 0 0 0 0 0 0).l0, .int .u32 (Pa.mk d d 0 0 0 0 0 0 0 0).l1, .int .u32 (Pa.mk d d 0 0 0 0 0 0 0 0).l2], .int .i64 0]) (by simp [results, Tryd.results56, go_sem]) rfl (gives (fresh1 _ _) rfl rfl)
theorem stayR_any (d : Int) (w : World) : Calls Tryd.prog 56 #[.int .i64 d] w (Gives (stayV d) (stayE d) w) := by
  unfold stayV stayE
  split
  · exact stayR_good d (by omega) (by omega) w
  · exact stayR_bad d (by omega) w
/-! Into a loop. -/
theorem goIn_any (d : Int) (w : World) : Calls Tryd.prog 47 #[.int .i64 d] w (Gives (goInV d) (goInE d) w) := by
  unfold goInV goInE
  split <;> rename_i hc
  · have h0 : 0 ≤ d := by omega
    have h1 : d ≤ 2 := by omega
    have h3 : ¬ d = 3 := by omega
    clear hc
    go_enter Tryd.func47, Tryd.ntmps47
    go_wp2_with (go_at_call 71; refine (depth_yes _ (by omega) (by omega) _).mono ?_; rintro e w' ⟨rfl, rfl⟩)
    exact bodyPost_ret (v := .tuple #[.agg #[.int .i64 (Pa.mk d d 0 0 0 0 1 0 0 0).f, .int .i64 (Pa.mk d d 0 0 0 0 1 0 0 0).k, .int .u32 (Pa.mk d d 0 0 0 0 1 0 0 0).p0, .int .u32 (Pa.mk d d 0 0 0 0 1 0 0 0).p1, .int .u32 (Pa.mk d d 0 0 0 0 1 0 0 0).p2, .int .u32 (Pa.mk d d 0 0 0 0 1 0 0 0).p3, .int .i64 (Pa.mk d d 0 0 0 0 1 0 0 0).u, .int .u32 (Pa.mk d d 0 0 0 0 1 0 0 0).l0, .int .u32 (Pa.mk d d 0 0 0 0 1 0 0 0).l1, .int .u32 (Pa.mk d d 0 0 0 0 1 0 0 0).l2], .int .i64 0]) (by simp [results, Tryd.results47, go_sem]) rfl (gives (fresh1 _ _) rfl rfl)
  · by_cases h3 : d = 3
    · subst h3
      clear hc
      go_enter Tryd.func47, Tryd.ntmps47
      go_wp2_with (go_at_call 71; refine (depth_yes _ (by omega) (by omega) _).mono ?_; rintro e w' ⟨rfl, rfl⟩)
      exact bodyPost_ret (v := .tuple #[.agg #[.int .i64 P0.f, .int .i64 P0.k, .int .u32 P0.p0, .int .u32 P0.p1, .int .u32 P0.p2, .int .u32 P0.p3, .int .i64 P0.u, .int .u32 P0.l0, .int .u32 P0.l1, .int .u32 P0.l2], .int .i64 10]) (by simp [results, Tryd.results47, go_sem, P0]) rfl (gives (fresh1 _ _) rfl rfl)
    · have h : d < 0 ∨ 3 < d := by omega
      clear hc h3
      go_enter Tryd.func47, Tryd.ntmps47
      go_wp2_with (go_at_call 71; refine (depth_no _ h _).mono ?_; rintro e w' ⟨rfl, rfl⟩)
      exact bodyPost_ret (v := .tuple #[.agg #[.int .i64 P0.f, .int .i64 P0.k, .int .u32 P0.p0, .int .u32 P0.p1, .int .u32 P0.p2, .int .u32 P0.p3, .int .i64 P0.u, .int .u32 P0.l0, .int .u32 P0.l1, .int .u32 P0.l2], .int .i64 10]) (by simp [results, Tryd.results47, go_sem, P0]) rfl (gives (fresh1 _ _) rfl rfl)
/-! Out of one. -/
theorem goOut_any (d : Int) (w : World) : Calls Tryd.prog 48 #[.int .i64 d] w (Gives (goOutV d) (goOutE d) w) := by
  unfold goOutV goOutE
  split <;> rename_i hc
  · have h0 : 1 ≤ d := by omega
    have h1 : d ≤ 3 := by omega
    clear hc
    go_enter Tryd.func48, Tryd.ntmps48
    go_wp2_with (go_at_call 72; refine (inner_yes _ (by omega) (by omega) _).mono ?_; rintro e w' ⟨rfl, rfl⟩)
    exact bodyPost_ret (v := .tuple #[.agg #[.int .i64 (Pa.mk d (d - 1) 0 0 0 0 0 0 0 0).f, .int .i64 (Pa.mk d (d - 1) 0 0 0 0 0 0 0 0).k, .int .u32 (Pa.mk d (d - 1) 0 0 0 0 0 0 0 0).p0, .int .u32 (Pa.mk d (d - 1) 0 0 0 0 0 0 0 0).p1, .int .u32 (Pa.mk d (d - 1) 0 0 0 0 0 0 0 0).p2, .int .u32 (Pa.mk d (d - 1) 0 0 0 0 0 0 0 0).p3, .int .i64 (Pa.mk d (d - 1) 0 0 0 0 0 0 0 0).u, .int .u32 (Pa.mk d (d - 1) 0 0 0 0 0 0 0 0).l0, .int .u32 (Pa.mk d (d - 1) 0 0 0 0 0 0 0 0).l1, .int .u32 (Pa.mk d (d - 1) 0 0 0 0 0 0 0 0).l2], .int .i64 0]) (by simp [results, Tryd.results48, go_sem]) rfl (gives (fresh1 _ _) rfl rfl)
  · have h : d ≤ 0 ∨ 3 < d := by omega
    clear hc
    go_enter Tryd.func48, Tryd.ntmps48
    go_wp2_with (go_at_call 72; refine (inner_no _ h _).mono ?_; rintro e w' ⟨rfl, rfl⟩)
    exact bodyPost_ret (v := .tuple #[.agg #[.int .i64 P0.f, .int .i64 P0.k, .int .u32 P0.p0, .int .u32 P0.p1, .int .u32 P0.p2, .int .u32 P0.p3, .int .i64 P0.u, .int .u32 P0.l0, .int .u32 P0.l1, .int .u32 P0.l2], .int .i64 10]) (by simp [results, Tryd.results48, go_sem, P0]) rfl (gives (fresh1 _ _) rfl rfl)
/-! To the next round. -/
theorem goOn_any (d : Int) (w : World) : Calls Tryd.prog 49 #[.int .i64 d] w (Gives (goOnV d) (goOnE d) w) := by
  unfold goOnV goOnE
  split <;> rename_i hc
  · have hd : d = 1 ∨ d = 2 ∨ d = 3 := by omega
    rcases hd with rfl | rfl | rfl
    · clear hc
      go_enter Tryd.func49, Tryd.ntmps49
      go_wp2_with (go_at_call 72; refine (inner_yes _ (by omega) (by omega) _).mono ?_; rintro e w' ⟨rfl, rfl⟩)
      refine bodyPost_ret (v := .tuple #[.agg #[.int .i64 (Pa.mk 1 1 0 1 0 0 0 0 0 0).f, .int .i64 (Pa.mk 1 1 0 1 0 0 0 0 0 0).k, .int .u32 (Pa.mk 1 1 0 1 0 0 0 0 0 0).p0, .int .u32 (Pa.mk 1 1 0 1 0 0 0 0 0 0).p1, .int .u32 (Pa.mk 1 1 0 1 0 0 0 0 0 0).p2, .int .u32 (Pa.mk 1 1 0 1 0 0 0 0 0 0).p3, .int .i64 (Pa.mk 1 1 0 1 0 0 0 0 0 0).u, .int .u32 (Pa.mk 1 1 0 1 0 0 0 0 0 0).l0, .int .u32 (Pa.mk 1 1 0 1 0 0 0 0 0 0).l1, .int .u32 (Pa.mk 1 1 0 1 0 0 0 0 0 0).l2], .int .i64 0]) (by simp [results, Tryd.results49, go_sem]) rfl (gives ?_ rfl rfl)
      repeat (with_reducible refine Below.setCell ?_ (by simp) _)
      exact fresh2 _ _ _
    · clear hc
      go_enter Tryd.func49, Tryd.ntmps49
      go_wp2_with (go_at_call 72; refine (inner_yes _ (by omega) (by omega) _).mono ?_; rintro e w' ⟨rfl, rfl⟩)
      refine bodyPost_ret (v := .tuple #[.agg #[.int .i64 (Pa.mk 2 2 0 0 1 0 0 0 0 0).f, .int .i64 (Pa.mk 2 2 0 0 1 0 0 0 0 0).k, .int .u32 (Pa.mk 2 2 0 0 1 0 0 0 0 0).p0, .int .u32 (Pa.mk 2 2 0 0 1 0 0 0 0 0).p1, .int .u32 (Pa.mk 2 2 0 0 1 0 0 0 0 0).p2, .int .u32 (Pa.mk 2 2 0 0 1 0 0 0 0 0).p3, .int .i64 (Pa.mk 2 2 0 0 1 0 0 0 0 0).u, .int .u32 (Pa.mk 2 2 0 0 1 0 0 0 0 0).l0, .int .u32 (Pa.mk 2 2 0 0 1 0 0 0 0 0).l1, .int .u32 (Pa.mk 2 2 0 0 1 0 0 0 0 0).l2], .int .i64 0]) (by simp [results, Tryd.results49, go_sem]) rfl (gives ?_ rfl rfl)
      repeat (with_reducible refine Below.setCell ?_ (by simp) _)
      exact fresh2 _ _ _
    · clear hc
      go_enter Tryd.func49, Tryd.ntmps49
      go_wp2_with (go_at_call 72; refine (inner_yes _ (by omega) (by omega) _).mono ?_; rintro e w' ⟨rfl, rfl⟩)
      refine bodyPost_ret (v := .tuple #[.agg #[.int .i64 (Pa.mk 3 3 0 0 0 1 0 0 0 0).f, .int .i64 (Pa.mk 3 3 0 0 0 1 0 0 0 0).k, .int .u32 (Pa.mk 3 3 0 0 0 1 0 0 0 0).p0, .int .u32 (Pa.mk 3 3 0 0 0 1 0 0 0 0).p1, .int .u32 (Pa.mk 3 3 0 0 0 1 0 0 0 0).p2, .int .u32 (Pa.mk 3 3 0 0 0 1 0 0 0 0).p3, .int .i64 (Pa.mk 3 3 0 0 0 1 0 0 0 0).u, .int .u32 (Pa.mk 3 3 0 0 0 1 0 0 0 0).l0, .int .u32 (Pa.mk 3 3 0 0 0 1 0 0 0 0).l1, .int .u32 (Pa.mk 3 3 0 0 0 1 0 0 0 0).l2], .int .i64 0]) (by simp [results, Tryd.results49, go_sem]) rfl (gives ?_ rfl rfl)
      repeat (with_reducible refine Below.setCell ?_ (by simp) _)
      exact fresh2 _ _ _
  · have h : d ≤ 0 ∨ 3 < d := by omega
    clear hc
    go_enter Tryd.func49, Tryd.ntmps49
    go_wp2_with (go_at_call 72; refine (inner_no _ h _).mono ?_; rintro e w' ⟨rfl, rfl⟩)
    exact bodyPost_ret (v := .tuple #[.agg #[.int .i64 P0.f, .int .i64 P0.k, .int .u32 P0.p0, .int .u32 P0.p1, .int .u32 P0.p2, .int .u32 P0.p3, .int .i64 P0.u, .int .u32 P0.l0, .int .u32 P0.l1, .int .u32 P0.l2], .int .i64 10]) (by simp [results, Tryd.results49, go_sem, P0]) rfl (gives (fresh1 _ _) rfl rfl)
/-! So many epochs on. -/
theorem stay_is (d : Int) {V : Pa} {E : Int} (h : stayV d = V) (k : stayE d = E) (w : World) : Calls Tryd.prog 51 #[.int .i64 d] w (Gives V E w) := h ▸ k ▸ stay_any d w
theorem stayR_is (d : Int) {V : Pa} {E : Int} (h : stayV d = V) (k : stayE d = E) (w : World) : Calls Tryd.prog 56 #[.int .i64 d] w (Gives V E w) := h ▸ k ▸ stayR_any d w
end Go.Proofs.YtlbphlhbofjfgaaDoor.path
