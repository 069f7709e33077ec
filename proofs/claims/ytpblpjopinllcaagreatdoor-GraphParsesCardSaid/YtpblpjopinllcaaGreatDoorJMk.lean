/-
  The contracts of the five paths of any depth, the program's and the document's own.
  The contracts of the paths of a depth that are made of another one.
-/
import Derived.Test.YtpblpjopinllcaaGreatDoorJPa
import Derived.Deep.Cut
import Derived.Deep.CutRange
namespace Go.Proofs.YtpblpjopinllcaaGreatDoor.path
open Go.ChangeShapes Go.WideShapes Go.ChangeAt Go.RowKit
open Go.Proofs.YtpblpjopinllcaaGreatDoor.tm Go.Proofs.YtpblpjopinllcaaGreatDoor.opened Go.Proofs.YtpblpjopinllcaaGreatDoor.block Go.Proofs.YtpblpjopinllcaaGreatDoor.stamp Go.Proofs.YtpblpjopinllcaaGreatDoor.pa

theorem depth_yes (d : Int) (h0 : 0 ≤ d) (h1 : d ≤ 3) (w : World) : Calls Tryz.prog 165 #[.int .i64 d] w fun e w' => e = .returned (.bool true) ∧ w = w' := by
  go_enter Tryz.func165, Tryz.ntmps165
  go_wp2
  go_ret
  exact ⟨rfl, rfl⟩
theorem depth_no (d : Int) (h : d < 0 ∨ 3 < d) (w : World) : Calls Tryz.prog 165 #[.int .i64 d] w fun e w' => e = .returned (.bool false) ∧ w = w' := by
  by_cases h0 : 0 ≤ d
  · have h1 : decide (d ≤ 3) = false := by simp; omega
    clear h
    go_enter Tryz.func165, Tryz.ntmps165
    go_wp2
    go_ret
    exact ⟨rfl, rfl⟩
  · have h1 : decide (0 ≤ d) = false := by simpa using h0
    clear h
    go_enter Tryz.func165, Tryz.ntmps165
    go_wp2
    go_ret
    exact ⟨rfl, rfl⟩
theorem inner_yes (d : Int) (h0 : 1 ≤ d) (h1 : d ≤ 3) (w : World) : Calls Tryz.prog 166 #[.int .i64 d] w fun e w' => e = .returned (.bool true) ∧ w = w' := by
  go_enter Tryz.func166, Tryz.ntmps166
  go_wp2_with (go_at_call 165; refine (depth_yes _ (by omega) (by omega) _).mono ?_; rintro e w' ⟨rfl, rfl⟩)
  go_ret
  exact ⟨by simp; omega, rfl⟩
theorem inner_no (d : Int) (h : d ≤ 0 ∨ 3 < d) (w : World) : Calls Tryz.prog 166 #[.int .i64 d] w fun e w' => e = .returned (.bool false) ∧ w = w' := by
  by_cases h0 : d = 0
  · subst h0
    clear h
    go_enter Tryz.func166, Tryz.ntmps166
    go_wp2_with (go_at_call 165; refine (depth_yes _ (by omega) (by omega) _).mono ?_; rintro e w' ⟨rfl, rfl⟩)
    go_ret
    exact ⟨rfl, rfl⟩
  · have h1 : d < 0 ∨ 3 < d := by omega
    clear h h0
    go_enter Tryz.func166, Tryz.ntmps166
    go_wp2_with (go_at_call 165; refine (depth_no _ h1 _).mono ?_; rintro e w' ⟨rfl, rfl⟩)
    go_ret
    exact ⟨rfl, rfl⟩
theorem stay_bad (d : Int) (h : d < 0 ∨ 3 < d) (w : World) : Calls Tryz.prog 99 #[.int .i64 d] w (Gives P0 10 w) := by
  go_enter Tryz.func99, Tryz.ntmps99
  go_wp2_with (go_at_call 165; refine (depth_no _ h _).mono ?_; rintro e w' ⟨rfl, rfl⟩)
  exact bodyPost_ret (v := .tuple #[.agg #[.int .i64 P0.f, .int .i64 P0.k, .int .u32 P0.p0, .int .u32 P0.p1, .int .u32 P0.p2, .int .u32 P0.p3, .int .i64 P0.u, .int .u32 P0.l0, .int .u32 P0.l1, .int .u32 P0.l2], .int .i64 10]) (by simp [results, Tryz.results99, go_sem, P0]) rfl (gives (fresh1 _ _) rfl rfl)
theorem stay_good (d : Int) (h0 : 0 ≤ d) (h1 : d ≤ 3) (w : World) : Calls Tryz.prog 99 #[.int .i64 d] w (Gives ⟨d, d, 0, 0, 0, 0, 0, 0, 0, 0⟩ 0 w) := by
  go_enter Tryz.func99, Tryz.ntmps99
  go_wp2_with (go_at_call 165; refine (depth_yes _ h0 h1 _).mono ?_; rintro e w' ⟨rfl, rfl⟩)
  exact bodyPost_ret (v := .tuple #[.agg #[.int .i64 (Pa.mk d d 0 0 0 0 0 0 0 0).f, .int .i64 (Pa.mk d d 0 0 0 0 0 0 0 0).k, .int .u32 (Pa.mk d d 0 0 0 0 0 0 0 0).p0, .int .u32 (Pa.mk d d 0 0 0 0 0 0 0 0).p1, .int .u32 (Pa.mk d d 0 0 0 0 0 0 0 0).p2, .int .u32 (Pa.mk d d 0 0 0 0 0 0 0 0).p3, .int .i64 (Pa.mk d d 0 0 0 0 0 0 0 0).u, .int .u32 (Pa.mk d d 0 0 0 0 0 0 0 0).l0, .int .u32 (Pa.mk d d 0 0 0 0 0 0 0 0).l1, .int .u32 (Pa.mk d d 0 0 0 0 0 0 0 0).l2], .int .i64 0]) (by simp [results, Tryz.results99, go_sem]) rfl (gives (fresh1 _ _) rfl rfl)
theorem stay_any (d : Int) (w : World) : Calls Tryz.prog 99 #[.int .i64 d] w (Gives (stayV d) (stayE d) w) := by
  unfold stayV stayE
  split
  · exact stay_good d (by omega) (by omega) w
  · exact stay_bad d (by omega) w
theorem stayR_bad (d : Int) (h : d < 0 ∨ 3 < d) (w : World) : Calls Tryz.prog 125 #[.int .i64 d] w (Gives P0 10 w) := by
  by_cases h0 : d < 0
  · clear h
    go_enter Tryz.func125, Tryz.ntmps125
    go_wp2
    exact bodyPost_ret (v := .tuple #[.agg #[.int .i64 P0.f, .int .i64 P0.k, .int .u32 P0.p0, .int .u32 P0.p1, .int .u32 P0.p2, .int .u32 P0.p3, .int .i64 P0.u, .int .u32 P0.l0, .int .u32 P0.l1, .int .u32 P0.l2], .int .i64 10]) (by simp [results, Tryz.results125, go_sem, P0]) rfl (gives (fresh1 _ _) rfl rfl)
  · have h1 : 3 < d := by omega
    clear h
    go_enter Tryz.func125, Tryz.ntmps125
    go_wp2
    exact bodyPost_ret (v := .tuple #[.agg #[.int .i64 P0.f, .int .i64 P0.k, .int .u32 P0.p0, .int .u32 P0.p1, .int .u32 P0.p2, .int .u32 P0.p3, .int .i64 P0.u, .int .u32 P0.l0, .int .u32 P0.l1, .int .u32 P0.l2], .int .i64 10]) (by simp [results, Tryz.results125, go_sem, P0]) rfl (gives (fresh1 _ _) rfl rfl)
theorem stayR_good (d : Int) (h0 : 0 ≤ d) (h1 : d ≤ 3) (w : World) : Calls Tryz.prog 125 #[.int .i64 d] w (Gives ⟨d, d, 0, 0, 0, 0, 0, 0, 0, 0⟩ 0 w) := by
  go_enter Tryz.func125, Tryz.ntmps125
  go_wp2
  exact bodyPost_ret (v := .tuple #[.agg #[.int .i64 (Pa.mk d d 0 0 0 0 0 0 0 0).f, .int .i64 (Pa.mk d d 0 0 0 0 0 0 0 0).k, .int .u32 (Pa.mk d d 0 0 0 0 0 0 0 0).p0, .int .u32 (Pa.mk d d 0 0 0 0 0 0 0 0).p1, .int .u32 (Pa.mk d d 0 0 0 0 0 0 0 0).p2, .int .u32 (Pa.mk d d 0 0 0 0 0 0 0 0).p3, .int .i64 (Pa.mk d d 0 0 0 0 0 0 0 0).u, .int .u32 (Pa.mk d d 0 0 0 0 0 0 0 0).l0, .int .u32 (Pa.mk d d 0 0 0 0 0 0 0 0).l1, .int .u32 (Pa.mk d d 0 0 0 0 0 0 0 0).l2], .int .i64 0]) (by simp [results, Tryz.results125, go_sem]) rfl (gives (fresh1 _ _) rfl rfl)
theorem stayR_any (d : Int) (w : World) : Calls Tryz.prog 125 #[.int .i64 d] w (Gives (stayV d) (stayE d) w) := by
  unfold stayV stayE
  split
  · exact stayR_good d (by omega) (by omega) w
  · exact stayR_bad d (by omega) w
/-! Into a loop. -/
theorem goIn_any (d : Int) (w : World) : Calls Tryz.prog 95 #[.int .i64 d] w (Gives (goInV d) (goInE d) w) := by
  unfold goInV goInE
  split <;> rename_i hc
  · have h0 : 0 ≤ d := by omega
    have h1 : d ≤ 2 := by omega
    have h3 : ¬ d = 3 := by omega
    clear hc
    go_enter Tryz.func95, Tryz.ntmps95
    go_wp2_with (go_at_call 165; refine (depth_yes _ (by omega) (by omega) _).mono ?_; rintro e w' ⟨rfl, rfl⟩)
    exact bodyPost_ret (v := .tuple #[.agg #[.int .i64 (Pa.mk d d 0 0 0 0 1 0 0 0).f, .int .i64 (Pa.mk d d 0 0 0 0 1 0 0 0).k, .int .u32 (Pa.mk d d 0 0 0 0 1 0 0 0).p0, .int .u32 (Pa.mk d d 0 0 0 0 1 0 0 0).p1, .int .u32 (Pa.mk d d 0 0 0 0 1 0 0 0).p2, .int .u32 (Pa.mk d d 0 0 0 0 1 0 0 0).p3, .int .i64 (Pa.mk d d 0 0 0 0 1 0 0 0).u, .int .u32 (Pa.mk d d 0 0 0 0 1 0 0 0).l0, .int .u32 (Pa.mk d d 0 0 0 0 1 0 0 0).l1, .int .u32 (Pa.mk d d 0 0 0 0 1 0 0 0).l2], .int .i64 0]) (by simp [results, Tryz.results95, go_sem]) rfl (gives (fresh1 _ _) rfl rfl)
  · by_cases h3 : d = 3
    · subst h3
      clear hc
      go_enter Tryz.func95, Tryz.ntmps95
      go_wp2_with (go_at_call 165; refine (depth_yes _ (by omega) (by omega) _).mono ?_; rintro e w' ⟨rfl, rfl⟩)
      exact bodyPost_ret (v := .tuple #[.agg #[.int .i64 P0.f, .int .i64 P0.k, .int .u32 P0.p0, .int .u32 P0.p1, .int .u32 P0.p2, .int .u32 P0.p3, .int .i64 P0.u, .int .u32 P0.l0, .int .u32 P0.l1, .int .u32 P0.l2], .int .i64 10]) (by simp [results, Tryz.results95, go_sem, P0]) rfl (gives (fresh1 _ _) rfl rfl)
    · have h : d < 0 ∨ 3 < d := by omega
      clear hc h3
      go_enter Tryz.func95, Tryz.ntmps95
      go_wp2_with (go_at_call 165; refine (depth_no _ h _).mono ?_; rintro e w' ⟨rfl, rfl⟩)
      exact bodyPost_ret (v := .tuple #[.agg #[.int .i64 P0.f, .int .i64 P0.k, .int .u32 P0.p0, .int .u32 P0.p1, .int .u32 P0.p2, .int .u32 P0.p3, .int .i64 P0.u, .int .u32 P0.l0, .int .u32 P0.l1, .int .u32 P0.l2], .int .i64 10]) (by simp [results, Tryz.results95, go_sem, P0]) rfl (gives (fresh1 _ _) rfl rfl)
/-! Out of one. -/
theorem goOut_any (d : Int) (w : World) : Calls Tryz.prog 96 #[.int .i64 d] w (Gives (goOutV d) (goOutE d) w) := by
  unfold goOutV goOutE
  split <;> rename_i hc
  · have h0 : 1 ≤ d := by omega
    have h1 : d ≤ 3 := by omega
    clear hc
    go_enter Tryz.func96, Tryz.ntmps96
    go_wp2_with (go_at_call 166; refine (inner_yes _ (by omega) (by omega) _).mono ?_; rintro e w' ⟨rfl, rfl⟩)
    exact bodyPost_ret (v := .tuple #[.agg #[.int .i64 (Pa.mk d (d - 1) 0 0 0 0 0 0 0 0).f, .int .i64 (Pa.mk d (d - 1) 0 0 0 0 0 0 0 0).k, .int .u32 (Pa.mk d (d - 1) 0 0 0 0 0 0 0 0).p0, .int .u32 (Pa.mk d (d - 1) 0 0 0 0 0 0 0 0).p1, .int .u32 (Pa.mk d (d - 1) 0 0 0 0 0 0 0 0).p2, .int .u32 (Pa.mk d (d - 1) 0 0 0 0 0 0 0 0).p3, .int .i64 (Pa.mk d (d - 1) 0 0 0 0 0 0 0 0).u, .int .u32 (Pa.mk d (d - 1) 0 0 0 0 0 0 0 0).l0, .int .u32 (Pa.mk d (d - 1) 0 0 0 0 0 0 0 0).l1, .int .u32 (Pa.mk d (d - 1) 0 0 0 0 0 0 0 0).l2], .int .i64 0]) (by simp [results, Tryz.results96, go_sem]) rfl (gives (fresh1 _ _) rfl rfl)
  · have h : d ≤ 0 ∨ 3 < d := by omega
    clear hc
    go_enter Tryz.func96, Tryz.ntmps96
    go_wp2_with (go_at_call 166; refine (inner_no _ h _).mono ?_; rintro e w' ⟨rfl, rfl⟩)
    exact bodyPost_ret (v := .tuple #[.agg #[.int .i64 P0.f, .int .i64 P0.k, .int .u32 P0.p0, .int .u32 P0.p1, .int .u32 P0.p2, .int .u32 P0.p3, .int .i64 P0.u, .int .u32 P0.l0, .int .u32 P0.l1, .int .u32 P0.l2], .int .i64 10]) (by simp [results, Tryz.results96, go_sem, P0]) rfl (gives (fresh1 _ _) rfl rfl)
/-! To the next round. -/
theorem goOn_any (d : Int) (w : World) : Calls Tryz.prog 97 #[.int .i64 d] w (Gives (goOnV d) (goOnE d) w) := by
  unfold goOnV goOnE
  split <;> rename_i hc
  · have hd : d = 1 ∨ d = 2 ∨ d = 3 := by omega
    rcases hd with rfl | rfl | rfl
    · clear hc
      go_enter Tryz.func97, Tryz.ntmps97
      go_wp2_with (go_at_call 166; refine (inner_yes _ (by omega) (by omega) _).mono ?_; rintro e w' ⟨rfl, rfl⟩)
      refine bodyPost_ret (v := .tuple #[.agg #[.int .i64 (Pa.mk 1 1 0 1 0 0 0 0 0 0).f, .int .i64 (Pa.mk 1 1 0 1 0 0 0 0 0 0).k, .int .u32 (Pa.mk 1 1 0 1 0 0 0 0 0 0).p0, .int .u32 (Pa.mk 1 1 0 1 0 0 0 0 0 0).p1, .int .u32 (Pa.mk 1 1 0 1 0 0 0 0 0 0).p2, .int .u32 (Pa.mk 1 1 0 1 0 0 0 0 0 0).p3, .int .i64 (Pa.mk 1 1 0 1 0 0 0 0 0 0).u, .int .u32 (Pa.mk 1 1 0 1 0 0 0 0 0 0).l0, .int .u32 (Pa.mk 1 1 0 1 0 0 0 0 0 0).l1, .int .u32 (Pa.mk 1 1 0 1 0 0 0 0 0 0).l2], .int .i64 0]) (by simp [results, Tryz.results97, go_sem]) rfl (gives ?_ rfl rfl)
      repeat (with_reducible refine Below.setCell ?_ (by simp) _)
      exact fresh2 _ _ _
    · clear hc
      go_enter Tryz.func97, Tryz.ntmps97
      go_wp2_with (go_at_call 166; refine (inner_yes _ (by omega) (by omega) _).mono ?_; rintro e w' ⟨rfl, rfl⟩)
      refine bodyPost_ret (v := .tuple #[.agg #[.int .i64 (Pa.mk 2 2 0 0 1 0 0 0 0 0).f, .int .i64 (Pa.mk 2 2 0 0 1 0 0 0 0 0).k, .int .u32 (Pa.mk 2 2 0 0 1 0 0 0 0 0).p0, .int .u32 (Pa.mk 2 2 0 0 1 0 0 0 0 0).p1, .int .u32 (Pa.mk 2 2 0 0 1 0 0 0 0 0).p2, .int .u32 (Pa.mk 2 2 0 0 1 0 0 0 0 0).p3, .int .i64 (Pa.mk 2 2 0 0 1 0 0 0 0 0).u, .int .u32 (Pa.mk 2 2 0 0 1 0 0 0 0 0).l0, .int .u32 (Pa.mk 2 2 0 0 1 0 0 0 0 0).l1, .int .u32 (Pa.mk 2 2 0 0 1 0 0 0 0 0).l2], .int .i64 0]) (by simp [results, Tryz.results97, go_sem]) rfl (gives ?_ rfl rfl)
      repeat (with_reducible refine Below.setCell ?_ (by simp) _)
      exact fresh2 _ _ _
    · clear hc
      go_enter Tryz.func97, Tryz.ntmps97
      go_wp2_with (go_at_call 166; refine (inner_yes _ (by omega) (by omega) _).mono ?_; rintro e w' ⟨rfl, rfl⟩)
      refine bodyPost_ret (v := .tuple #[.agg #[.int .i64 (Pa.mk 3 3 0 0 0 1 0 0 0 0).f, .int .i64 (Pa.mk 3 3 0 0 0 1 0 0 0 0).k, .int .u32 (Pa.mk 3 3 0 0 0 1 0 0 0 0).p0, .int .u32 (Pa.mk 3 3 0 0 0 1 0 0 0 0).p1, .int .u32 (Pa.mk 3 3 0 0 0 1 0 0 0 0).p2, .int .u32 (Pa.mk 3 3 0 0 0 1 0 0 0 0).p3, .int .i64 (Pa.mk 3 3 0 0 0 1 0 0 0 0).u, .int .u32 (Pa.mk 3 3 0 0 0 1 0 0 0 0).l0, .int .u32 (Pa.mk 3 3 0 0 0 1 0 0 0 0).l1, .int .u32 (Pa.mk 3 3 0 0 0 1 0 0 0 0).l2], .int .i64 0]) (by simp [results, Tryz.results97, go_sem]) rfl (gives ?_ rfl rfl)
      repeat (with_reducible refine Below.setCell ?_ (by simp) _)
      exact fresh2 _ _ _
  · have h : d ≤ 0 ∨ 3 < d := by omega
    clear hc
    go_enter Tryz.func97, Tryz.ntmps97
    go_wp2_with (go_at_call 166; refine (inner_no _ h _).mono ?_; rintro e w' ⟨rfl, rfl⟩)
    exact bodyPost_ret (v := .tuple #[.agg #[.int .i64 P0.f, .int .i64 P0.k, .int .u32 P0.p0, .int .u32 P0.p1, .int .u32 P0.p2, .int .u32 P0.p3, .int .i64 P0.u, .int .u32 P0.l0, .int .u32 P0.l1, .int .u32 P0.l2], .int .i64 10]) (by simp [results, Tryz.results97, go_sem, P0]) rfl (gives (fresh1 _ _) rfl rfl)
/-! So many epochs on. -/
theorem stay_is (d : Int) {V : Pa} {E : Int} (h : stayV d = V) (k : stayE d = E) (w : World) : Calls Tryz.prog 99 #[.int .i64 d] w (Gives V E w) := h ▸ k ▸ stay_any d w
theorem stayR_is (d : Int) {V : Pa} {E : Int} (h : stayV d = V) (k : stayE d = E) (w : World) : Calls Tryz.prog 125 #[.int .i64 d] w (Gives V E w) := h ▸ k ▸ stayR_any d w
end Go.Proofs.YtpblpjopinllcaaGreatDoor.path
namespace Go.Proofs.YtpblpjopinllcaaGreatDoor.path
open Go.ChangeShapes Go.WideShapes Go.ChangeAt Go.RowKit
open Go.Proofs.YtpblpjopinllcaaGreatDoor.tm Go.Proofs.YtpblpjopinllcaaGreatDoor.opened Go.Proofs.YtpblpjopinllcaaGreatDoor.block Go.Proofs.YtpblpjopinllcaaGreatDoor.stamp Go.Proofs.YtpblpjopinllcaaGreatDoor.pa

theorem goBy_any (d n : Int) (n0 : 0 ≤ n) (_n1 : n ≤ 4294967295) (w : World) : Calls Tryz.prog 98 #[.int .i64 d, .int .u32 n] w (Gives (goByV d n) (goByE d n) w) := by
  unfold goByV goByE
  split <;> rename_i hc
  · have h0 : 0 ≤ d := by omega
    have h1 : d ≤ 3 := by omega
    clear hc
    split <;> rename_i hn
    · go_enter Tryz.func98, Tryz.ntmps98
      go_wp2_with (first
        | (go_at_call 99; refine (stay_good d h0 h1 _).mono ?_; rintro e w1 ⟨rfl, b1⟩; obtain ⟨hR, hB, hx⟩ := res_of b1; clear b1; generalize hg : w.heap.size = g at hR hB hx ⊢; have HG := Lib.hid hg; clear hg)
        | (refine put rfl 53 (.tmp 4) _ rfl (g := g) rfl rfl (hR.alloc _) (by kernel_rfl) rfl (by simp [Value.oneCell']) (hB.alloc (by omega) _) (Nat.le_refl _) ?_; intro w2 hR2 hB2 hs2 ho2; clear hR hB))
      refine bodyPost_ret (two_path Tryz.results98 rfl rfl (P := Pa.mk d d n 0 0 0 0 0 0 0) hR2) rfl (gives_at HG hB2 rfl rfl)
    · go_enter Tryz.func98, Tryz.ntmps98
      go_wp2_with (first
        | (go_at_call 99; refine (stay_good d h0 h1 _).mono ?_; rintro e w1 ⟨rfl, b1⟩; obtain ⟨hR, hB, hx⟩ := res_of b1; clear b1; generalize hg : w.heap.size = g at hR hB hx ⊢; have HG := Lib.hid hg; clear hg)
        | (refine put rfl 53 (.tmp 4) _ rfl (g := g) rfl rfl (hR.alloc _) (by kernel_rfl) rfl (by simp [Value.oneCell']) (hB.alloc (by omega) _) (Nat.le_refl _) ?_; intro w2 hR2 hB2 hs2 ho2; clear hR hB))
      refine bodyPost_ret (two_path Tryz.results98 rfl rfl (P := P0) hR2) rfl (gives_at HG hB2 rfl rfl)
  · have h : d < 0 ∨ 3 < d := by omega
    clear hc
    go_enter Tryz.func98, Tryz.ntmps98
    go_wp2_with (first
      | (go_at_call 99; refine (stay_bad d h _).mono ?_; rintro e w1 ⟨rfl, b1⟩; obtain ⟨hR, hB, hx⟩ := res_of b1; clear b1; generalize hg : w.heap.size = g at hR hB hx ⊢; have HG := Lib.hid hg; clear hg)
      | (refine put rfl 53 (.tmp 4) _ rfl (g := g) rfl rfl (hR.alloc _) (by kernel_rfl) rfl (by simp [Value.oneCell']) (hB.alloc (by omega) _) (Nat.le_refl _) ?_; intro w2 hR2 hB2 hs2 ho2; clear hR hB))
    refine bodyPost_ret (two_path Tryz.results98 rfl rfl (P := P0) hR2) rfl (gives_at HG hB2 rfl rfl)
theorem goByR_any (d n : Int) (n0 : 0 ≤ n) (_n1 : n ≤ 4294967295) (w : World) : Calls Tryz.prog 195 #[.int .i64 d, .int .u32 n] w (Gives (goByV d n) (goByE d n) w) := by
  unfold goByV goByE
  split <;> rename_i hc
  · have h0 : 0 ≤ d := by omega
    have h1 : d ≤ 3 := by omega
    clear hc
    split <;> rename_i hn
    · go_enter Tryz.func195, Tryz.ntmps195
      go_wp2_with (first
        | (go_at_call 125; refine (stayR_good d h0 h1 _).mono ?_; rintro e w1 ⟨rfl, b1⟩; obtain ⟨hR, hB, hx⟩ := res_of b1; clear b1; generalize hg : w.heap.size = g at hR hB hx ⊢; have HG := Lib.hid hg; clear hg)
        | (refine put rfl 102 (.tmp 4) _ rfl (g := g) rfl rfl (hR.alloc _) (by kernel_rfl) rfl (by simp [Value.oneCell']) (hB.alloc (by omega) _) (Nat.le_refl _) ?_; intro w2 hR2 hB2 hs2 ho2; clear hR hB))
      refine bodyPost_ret (two_pathR Tryz.results195 rfl rfl (P := Pa.mk d d n 0 0 0 0 0 0 0) hR2) rfl (gives_at HG hB2 rfl rfl)
    · go_enter Tryz.func195, Tryz.ntmps195
      go_wp2_with (first
        | (go_at_call 125; refine (stayR_good d h0 h1 _).mono ?_; rintro e w1 ⟨rfl, b1⟩; obtain ⟨hR, hB, hx⟩ := res_of b1; clear b1; generalize hg : w.heap.size = g at hR hB hx ⊢; have HG := Lib.hid hg; clear hg)
        | (refine put rfl 102 (.tmp 4) _ rfl (g := g) rfl rfl (hR.alloc _) (by kernel_rfl) rfl (by simp [Value.oneCell']) (hB.alloc (by omega) _) (Nat.le_refl _) ?_; intro w2 hR2 hB2 hs2 ho2; clear hR hB))
      refine bodyPost_ret (two_pathR Tryz.results195 rfl rfl (P := P0) hR2) rfl (gives_at HG hB2 rfl rfl)
  · have h : d < 0 ∨ 3 < d := by omega
    clear hc
    go_enter Tryz.func195, Tryz.ntmps195
    go_wp2_with (first
      | (go_at_call 125; refine (stayR_bad d h _).mono ?_; rintro e w1 ⟨rfl, b1⟩; obtain ⟨hR, hB, hx⟩ := res_of b1; clear b1; generalize hg : w.heap.size = g at hR hB hx ⊢; have HG := Lib.hid hg; clear hg)
      | (refine put rfl 102 (.tmp 4) _ rfl (g := g) rfl rfl (hR.alloc _) (by kernel_rfl) rfl (by simp [Value.oneCell']) (hB.alloc (by omega) _) (Nat.le_refl _) ?_; intro w2 hR2 hB2 hs2 ho2; clear hR hB))
    refine bodyPost_ret (two_pathR Tryz.results195 rfl rfl (P := P0) hR2) rfl (gives_at HG hB2 rfl rfl)
theorem goInR_any (d : Int) (w : World) : Calls Tryz.prog 192 #[.int .i64 d] w (Gives (goInV d) (goInE d) w) := by
  unfold goInV goInE
  split <;> rename_i hc
  · have h0 : 0 ≤ d := by omega
    have h1 : d ≤ 3 := by omega
    have h3 : (d == 3) = false := by simp; omega
    clear hc
    go_enter Tryz.func192, Tryz.ntmps192
    go_wp2_with (first
      | (go_at_call 125; refine (stayR_good d h0 h1 _).mono ?_; rintro e w1 ⟨rfl, b1⟩; obtain ⟨hR, hB, hx⟩ := res_of b1; clear b1; generalize hg : w.heap.size = g at hR hB hx ⊢; have HG := Lib.hid hg; clear hg)
      | (refine put rfl 102 (.tmp 2) _ rfl (g := g) rfl rfl (hR.alloc _) (by kernel_rfl) rfl (by simp [Value.oneCell']) (hB.alloc (by omega) _) (Nat.le_refl _) ?_; intro w2 hR2 hB2 hs2 ho2; clear hR hB))
    refine bodyPost_ret (two_pathR Tryz.results192 rfl rfl (P := Pa.mk d d 0 0 0 0 1 0 0 0) hR2) rfl (gives_at HG hB2 rfl rfl)
  · by_cases h3 : d = 3
    · subst h3
      clear hc
      go_enter Tryz.func192, Tryz.ntmps192
      go_wp2_with (first
        | (go_at_call 125; refine (stayR_good 3 (by omega) (by omega) _).mono ?_; rintro e w1 ⟨rfl, b1⟩; obtain ⟨hR, hB, hx⟩ := res_of b1; clear b1; generalize hg : w.heap.size = g at hR hB hx ⊢; have HG := Lib.hid hg; clear hg)
        | (refine put rfl 102 (.tmp 2) _ rfl (g := g) rfl rfl (hR.alloc _) (by kernel_rfl) rfl (by simp [Value.oneCell']) (hB.alloc (by omega) _) (Nat.le_refl _) ?_; intro w2 hR2 hB2 hs2 ho2; clear hR hB))
      refine bodyPost_ret (two_pathR Tryz.results192 rfl rfl (P := P0) hR2) rfl (gives_at HG hB2 rfl rfl)
    · have h : d < 0 ∨ 3 < d := by omega
      clear hc h3
      go_enter Tryz.func192, Tryz.ntmps192
      go_wp2_with (first
        | (go_at_call 125; refine (stayR_bad d h _).mono ?_; rintro e w1 ⟨rfl, b1⟩; obtain ⟨hR, hB, hx⟩ := res_of b1; clear b1; generalize hg : w.heap.size = g at hR hB hx ⊢; have HG := Lib.hid hg; clear hg)
        | (refine put rfl 102 (.tmp 2) _ rfl (g := g) rfl rfl (hR.alloc _) (by kernel_rfl) rfl (by simp [Value.oneCell']) (hB.alloc (by omega) _) (Nat.le_refl _) ?_; intro w2 hR2 hB2 hs2 ho2; clear hR hB))
      refine bodyPost_ret (two_pathR Tryz.results192 rfl rfl (P := P0) hR2) rfl (gives_at HG hB2 rfl rfl)
theorem goOutR_any (d : Int) (w : World) : Calls Tryz.prog 193 #[.int .i64 d] w (Gives (goOutV d) (goOutE d) w) := by
  unfold goOutV goOutE
  split <;> rename_i hc
  · have h0 : 0 ≤ d := by omega
    have h1 : d ≤ 3 := by omega
    have h3 : (d == 0) = false := by simp; omega
    clear hc
    go_enter Tryz.func193, Tryz.ntmps193
    go_wp2_with (first
      | (go_at_call 125; refine (stayR_good d h0 h1 _).mono ?_; rintro e w1 ⟨rfl, b1⟩; obtain ⟨hR, hB, hx⟩ := res_of b1; clear b1; generalize hg : w.heap.size = g at hR hB hx ⊢; have HG := Lib.hid hg; clear hg)
      | (refine put rfl 102 (.tmp 2) _ rfl (g := g) rfl rfl (hR.alloc _) (by kernel_rfl) rfl (by simp [Value.oneCell']) (hB.alloc (by omega) _) (Nat.le_refl _) ?_; intro w2 hR2 hB2 hs2 ho2; clear hR hB))
    refine bodyPost_ret (two_pathR Tryz.results193 rfl rfl (P := Pa.mk d (d - 1) 0 0 0 0 0 0 0 0) hR2) rfl (gives_at HG hB2 rfl rfl)
  · by_cases h3 : d = 0
    · subst h3
      clear hc
      go_enter Tryz.func193, Tryz.ntmps193
      go_wp2_with (first
        | (go_at_call 125; refine (stayR_good 0 (by omega) (by omega) _).mono ?_; rintro e w1 ⟨rfl, b1⟩; obtain ⟨hR, hB, hx⟩ := res_of b1; clear b1; generalize hg : w.heap.size = g at hR hB hx ⊢; have HG := Lib.hid hg; clear hg)
        | (refine put rfl 102 (.tmp 2) _ rfl (g := g) rfl rfl (hR.alloc _) (by kernel_rfl) rfl (by simp [Value.oneCell']) (hB.alloc (by omega) _) (Nat.le_refl _) ?_; intro w2 hR2 hB2 hs2 ho2; clear hR hB))
      refine bodyPost_ret (two_pathR Tryz.results193 rfl rfl (P := P0) hR2) rfl (gives_at HG hB2 rfl rfl)
    · have h : d < 0 ∨ 3 < d := by omega
      clear hc h3
      go_enter Tryz.func193, Tryz.ntmps193
      go_wp2_with (first
        | (go_at_call 125; refine (stayR_bad d h _).mono ?_; rintro e w1 ⟨rfl, b1⟩; obtain ⟨hR, hB, hx⟩ := res_of b1; clear b1; generalize hg : w.heap.size = g at hR hB hx ⊢; have HG := Lib.hid hg; clear hg)
        | (refine put rfl 102 (.tmp 2) _ rfl (g := g) rfl rfl (hR.alloc _) (by kernel_rfl) rfl (by simp [Value.oneCell']) (hB.alloc (by omega) _) (Nat.le_refl _) ?_; intro w2 hR2 hB2 hs2 ho2; clear hR hB))
      refine bodyPost_ret (two_pathR Tryz.results193 rfl rfl (P := P0) hR2) rfl (gives_at HG hB2 rfl rfl)
theorem goOnR_any (d : Int) (w : World) : Calls Tryz.prog 194 #[.int .i64 d] w (Gives (goOnV d) (goOnE d) w) := by
  unfold goOnV goOnE
  split <;> rename_i hc
  · have hd : d = 1 ∨ d = 2 ∨ d = 3 := by omega
    clear hc
    rcases hd with rfl | rfl | rfl
    · go_enter Tryz.func194, Tryz.ntmps194
      go_wp2_with (first
        | (go_at_call 125; refine (stayR_good 1 (by omega) (by omega) _).mono ?_; rintro e w1 ⟨rfl, b1⟩; obtain ⟨hR, hB, hx⟩ := res_of b1; clear b1; generalize hg : w.heap.size = g at hR hB hx ⊢; have HG := Lib.hid hg; clear hg)
        | (refine put rfl 102 (.tmp 2) _ rfl (g := g) rfl rfl (hR.alloc _) (by kernel_rfl) rfl (by simp [Value.oneCell']) (hB.alloc (by omega) _) (Nat.le_refl _) ?_; intro w2 hR2 hB2 hs2 ho2; clear hR hB))
      refine bodyPost_ret (two_pathR Tryz.results194 rfl rfl (P := Pa.mk 1 1 0 1 0 0 0 0 0 0) hR2) rfl (gives_at HG hB2 rfl rfl)
    · go_enter Tryz.func194, Tryz.ntmps194
      go_wp2_with (first
        | (go_at_call 125; refine (stayR_good 2 (by omega) (by omega) _).mono ?_; rintro e w1 ⟨rfl, b1⟩; obtain ⟨hR, hB, hx⟩ := res_of b1; clear b1; generalize hg : w.heap.size = g at hR hB hx ⊢; have HG := Lib.hid hg; clear hg)
        | (refine put rfl 102 (.tmp 2) _ rfl (g := g) rfl rfl (hR.alloc _) (by kernel_rfl) rfl (by simp [Value.oneCell']) (hB.alloc (by omega) _) (Nat.le_refl _) ?_; intro w2 hR2 hB2 hs2 ho2; clear hR hB))
      refine bodyPost_ret (two_pathR Tryz.results194 rfl rfl (P := Pa.mk 2 2 0 0 1 0 0 0 0 0) hR2) rfl (gives_at HG hB2 rfl rfl)
    · go_enter Tryz.func194, Tryz.ntmps194
      go_wp2_with (first
        | (go_at_call 125; refine (stayR_good 3 (by omega) (by omega) _).mono ?_; rintro e w1 ⟨rfl, b1⟩; obtain ⟨hR, hB, hx⟩ := res_of b1; clear b1; generalize hg : w.heap.size = g at hR hB hx ⊢; have HG := Lib.hid hg; clear hg)
        | (refine put rfl 102 (.tmp 2) _ rfl (g := g) rfl rfl (hR.alloc _) (by kernel_rfl) rfl (by simp [Value.oneCell']) (hB.alloc (by omega) _) (Nat.le_refl _) ?_; intro w2 hR2 hB2 hs2 ho2; clear hR hB))
      refine bodyPost_ret (two_pathR Tryz.results194 rfl rfl (P := Pa.mk 3 3 0 0 0 1 0 0 0 0) hR2) rfl (gives_at HG hB2 rfl rfl)
  · by_cases h3 : d = 0
    · subst h3
      clear hc
      go_enter Tryz.func194, Tryz.ntmps194
      go_wp2_with (first
        | (go_at_call 125; refine (stayR_good 0 (by omega) (by omega) _).mono ?_; rintro e w1 ⟨rfl, b1⟩; obtain ⟨hR, hB, hx⟩ := res_of b1; clear b1; generalize hg : w.heap.size = g at hR hB hx ⊢; have HG := Lib.hid hg; clear hg)
        | (refine put rfl 102 (.tmp 2) _ rfl (g := g) rfl rfl (hR.alloc _) (by kernel_rfl) rfl (by simp [Value.oneCell']) (hB.alloc (by omega) _) (Nat.le_refl _) ?_; intro w2 hR2 hB2 hs2 ho2; clear hR hB))
      refine bodyPost_ret (two_pathR Tryz.results194 rfl rfl (P := P0) hR2) rfl (gives_at HG hB2 rfl rfl)
    · have h : d < 0 ∨ 3 < d := by omega
      clear hc h3
      go_enter Tryz.func194, Tryz.ntmps194
      go_wp2_with (first
        | (go_at_call 125; refine (stayR_bad d h _).mono ?_; rintro e w1 ⟨rfl, b1⟩; obtain ⟨hR, hB, hx⟩ := res_of b1; clear b1; generalize hg : w.heap.size = g at hR hB hx ⊢; have HG := Lib.hid hg; clear hg)
        | (refine put rfl 102 (.tmp 2) _ rfl (g := g) rfl rfl (hR.alloc _) (by kernel_rfl) rfl (by simp [Value.oneCell']) (hB.alloc (by omega) _) (Nat.le_refl _) ?_; intro w2 hR2 hB2 hs2 ho2; clear hR hB))
      refine bodyPost_ret (two_pathR Tryz.results194 rfl rfl (P := P0) hR2) rfl (gives_at HG hB2 rfl rfl)
end Go.Proofs.YtpblpjopinllcaaGreatDoor.path
