/-
  The contract of watershedref05.Compare.
-/
import Derived.Test.YtggdcnoonmepcaaKn
import Derived.Test.YtggdcnoonmepcaaCmpL
import Derived.Deep.RegionWith
import Derived.Deep.RegionHeld3
import Derived.Deep.QuietTactic
import Derived.BigQuiet
namespace Go.Proofs.Ytggdcnoonmepcaa.path
open Go.ChangeShapes Go.WideShapes Go.ChangeAt Go.RowKit
open Go.Proofs.Ytggdcnoonmepcaa.tm Go.Proofs.Ytggdcnoonmepcaa.opened Go.Proofs.Ytggdcnoonmepcaa.block Go.Proofs.Ytggdcnoonmepcaa.stamp Go.Proofs.Ytggdcnoonmepcaa.pa

theorem ord_any (x y : Int) (w : World) : Calls Try.prog 48 #[.int .i64 x, .int .i64 y] w fun e w' => e = .returned (.int .i64 (cmpI x y)) ∧ w = w' := by
  by_cases h : x < y
  · rw [cmpI_lt h]
    go_enter Try.func48, Try.ntmps48
    go_wp2
    go_ret
    exact ⟨rfl, rfl⟩
  · by_cases k : y < x
    · rw [cmpI_gt k]
      go_enter Try.func48, Try.ntmps48
      go_wp2
      go_ret
      exact ⟨rfl, rfl⟩
    · obtain rfl : x = y := by omega
      rw [cmpI_self]
      clear h k
      go_enter Try.func48, Try.ntmps48
      go_wp2
      go_ret
      exact ⟨rfl, rfl⟩
theorem ord_is {x y v : Int} (h : cmpI x y = v) (w : World) : Calls Try.prog 48 #[.int .i64 x, .int .i64 y] w fun e w' => e = .returned (.int .i64 v) ∧ w = w' := h ▸ ord_any x y w
theorem quiet_at' {P : Program} {f : FuncId} {args : Array Value} {w : World} {a n : Nat} {v : Value} (h : ∀ W : World, Calls P f args W fun e w' => e = .returned v ∧ W = w') :
    Calls P f args (w.drewN (a + n)) fun e w' => e = .returned v ∧ ∃ m, w' = w.drewN (a + m) := (h _).mono fun _ _ ⟨he, hm⟩ => ⟨he, n, hm.symm⟩
theorem quiet_0 {P : Program} {f : FuncId} {args : Array Value} {w : World} {n : Nat} {v : Value} (h : ∀ W : World, Calls P f args W fun e w' => e = .returned v ∧ W = w') :
    Calls P f args (w.drewN n) fun e w' => e = .returned v ∧ ∃ m, w' = w.drewN m := (h _).mono fun _ _ ⟨he, hm⟩ => ⟨he, n, hm.symm⟩
theorem below_drewN_self (w : World) (p q : Pa) (n : Nat) : Below w.heap.size w (((w.alloc (.cells #[.int .i64 p.f, .int .i64 p.k, .int .u32 p.p0, .int .u32 p.p1, .int .u32 p.p2, .int .u32 p.p3, .int .i64 p.u, .int .u32 p.l0, .int .u32 p.l1, .int .u32 p.l2] 30)).alloc (.cells #[.int .i64 q.f, .int .i64 q.k, .int .u32 q.p0, .int .u32 q.p1, .int .u32 q.p2, .int .u32 q.p3, .int .i64 q.u, .int .u32 q.l0, .int .u32 q.l1, .int .u32 q.l2] 30)).drewN n) := below_drewN (fresh2 _ _ _) n
set_option maxHeartbeats 8000000 in
theorem cmpPR_any (p q : Pa) (i : p.In) (j : q.In) (w : World) : Calls Try.prog 32 #[.agg #[.int .i64 p.f, .int .i64 p.k, .int .u32 p.p0, .int .u32 p.p1, .int .u32 p.p2, .int .u32 p.p3, .int .i64 p.u, .int .u32 p.l0, .int .u32 p.l1, .int .u32 p.l2], .agg #[.int .i64 q.f, .int .i64 q.k, .int .u32 q.p0, .int .u32 q.p1, .int .u32 q.p2, .int .u32 q.p3, .int .i64 q.u, .int .u32 q.l0, .int .u32 q.l1, .int .u32 q.l2]] w fun e w' => e = .returned (.int .i64 (cmpP p q)) ∧ Below w.heap.size w w' := by
  obtain ⟨q_f, q_k, q_p0, q_p1, q_p2, q_p3, q_u, q_l0, q_l1, q_l2⟩ := q
  have i_p00 := i.p00
  have i_p01 := i.p01
  have j_p00 := j.p00
  have j_p01 := j.p01
  have i_p10 := i.p10
  have i_p11 := i.p11
  have j_p10 := j.p10
  have j_p11 := j.p11
  have i_p20 := i.p20
  have i_p21 := i.p21
  have j_p20 := j.p20
  have j_p21 := j.p21
  have i_p30 := i.p30
  have i_p31 := i.p31
  have j_p30 := j.p30
  have j_p31 := j.p31
  have i_l00 := i.l00
  have i_l01 := i.l01
  have j_l00 := j.l00
  have j_l01 := j.l01
  have i_l10 := i.l10
  have i_l11 := i.l11
  have j_l10 := j.l10
  have j_l11 := j.l11
  have i_l20 := i.l20
  have i_l21 := i.l21
  have j_l20 := j.l20
  have j_l21 := j.l21
  dsimp only at j_p00 j_p01 j_p10 j_p11 j_p20 j_p21 j_p30 j_p31 j_l00 j_l01 j_l10 j_l11 j_l20 j_l21
  clear i j
  by_cases e0 : q_f = p.f
  · subst e0
    by_cases e1 : q_k = p.k
    · subst e1
      by_cases e2 : q_p0 = p.p0
      · subst e2
        by_cases e3 : q_p1 = p.p1
        · subst e3
          by_cases e4 : q_p2 = p.p2
          · subst e4
            by_cases e5 : q_p3 = p.p3
            · subst e5
              by_cases e6 : q_u = p.u
              · subst e6
                by_cases e7 : q_l0 = p.l0
                · subst e7
                  by_cases e8 : q_l1 = p.l1
                  · subst e8
                    by_cases e9 : q_l2 = p.l2
                    · subst e9
                      rw [show cmpP p ⟨p.f, p.k, p.p0, p.p1, p.p2, p.p3, p.u, p.l0, p.l1, p.l2⟩ = 0 by simp [cmpP, cmpI_self, orI]]
                      have S_f := Lib.hid (ord_is (cmpI_self p.f))
                      have S_k := Lib.hid (ord_is (cmpI_self p.k))
                      have S_p0 := Lib.hid (ord_is (cmpI_self p.p0))
                      have S_p1 := Lib.hid (ord_is (cmpI_self p.p1))
                      have S_p2 := Lib.hid (ord_is (cmpI_self p.p2))
                      have S_p3 := Lib.hid (ord_is (cmpI_self p.p3))
                      have S_u := Lib.hid (ord_is (cmpI_self p.u))
                      have S_l0 := Lib.hid (ord_is (cmpI_self p.l0))
                      have S_l1 := Lib.hid (ord_is (cmpI_self p.l1))
                      have S_l2 := Lib.hid (ord_is (cmpI_self p.l2))
                      go_enter Try.func32, Try.ntmps32
                      go_wp2_with (first | (go_at_call 48; (with_reducible refine (S_f.out _).mono ?_); rintro e w' ⟨rfl, rfl⟩) | (go_at_call 48; (with_reducible refine (S_k.out _).mono ?_); rintro e w' ⟨rfl, rfl⟩))
                      refine wp_loop_rounds 6 ?_
                      rw [rounds_succ]
                      go_wp2_with fail
                      go_quiet ((go_at_call 48; first | exact quiet_at' S_p0.out | exact quiet_0 S_p0.out))
                      go_wp2_with fail
                      rw [rounds_succ]
                      go_wp2_with fail
                      go_quiet ((go_at_call 48; first | exact quiet_at' S_p1.out | exact quiet_0 S_p1.out))
                      go_wp2_with fail
                      rw [rounds_succ]
                      go_wp2_with fail
                      go_quiet ((go_at_call 48; first | exact quiet_at' S_p2.out | exact quiet_0 S_p2.out))
                      go_wp2_with fail
                      rw [rounds_succ]
                      go_wp2_with fail
                      go_quiet ((go_at_call 48; first | exact quiet_at' S_p3.out | exact quiet_0 S_p3.out))
                      go_wp2_with fail
                      rw [rounds_succ]
                      go_wp2_with ((go_at_call 48; (with_reducible refine (S_u.out _).mono ?_); rintro e w' ⟨rfl, rfl⟩))
                      refine wp_loop_rounds 6 ?_
                      rw [rounds_succ]
                      go_wp2_with fail
                      go_quiet ((go_at_call 48; first | exact quiet_at' S_l0.out | exact quiet_0 S_l0.out))
                      go_wp2_with fail
                      rw [rounds_succ]
                      go_wp2_with fail
                      go_quiet ((go_at_call 48; first | exact quiet_at' S_l1.out | exact quiet_0 S_l1.out))
                      go_wp2_with fail
                      rw [rounds_succ]
                      go_wp2_with fail
                      go_quiet ((go_at_call 48; first | exact quiet_at' S_l2.out | exact quiet_0 S_l2.out))
                      go_wp2_with fail
                      rw [rounds_succ]
                      go_wp2_with fail
                      go_ret
                      exact ⟨rfl, by repeat (first | exact fresh2 _ _ _ | apply below_drewN)⟩
                    · have hne : cmpI p.l2 q_l2 ≠ 0 := cmpI_ne (fun h => e9 h.symm)
                      rw [show cmpP p ⟨p.f, p.k, p.p0, p.p1, p.p2, p.p3, p.u, p.l0, p.l1, q_l2⟩ = cmpI p.l2 q_l2 by simp [cmpP, cmpI_self, orI]]
                      clear e9
                      generalize hv : cmpI p.l2 q_l2 = v at hne ⊢
                      have hz : (v == 0) = false := by simpa using hne
                      clear hne
                      have S_f := Lib.hid (ord_is (cmpI_self p.f))
                      have S_k := Lib.hid (ord_is (cmpI_self p.k))
                      have S_p0 := Lib.hid (ord_is (cmpI_self p.p0))
                      have S_p1 := Lib.hid (ord_is (cmpI_self p.p1))
                      have S_p2 := Lib.hid (ord_is (cmpI_self p.p2))
                      have S_p3 := Lib.hid (ord_is (cmpI_self p.p3))
                      have S_u := Lib.hid (ord_is (cmpI_self p.u))
                      have S_l0 := Lib.hid (ord_is (cmpI_self p.l0))
                      have S_l1 := Lib.hid (ord_is (cmpI_self p.l1))
                      have V := Lib.hid (ord_is hv)
                      clear hv
                      go_enter Try.func32, Try.ntmps32
                      go_wp2_with (first | (go_at_call 48; (with_reducible refine (S_f.out _).mono ?_); rintro e w' ⟨rfl, rfl⟩) | (go_at_call 48; (with_reducible refine (S_k.out _).mono ?_); rintro e w' ⟨rfl, rfl⟩))
                      refine wp_loop_rounds 6 ?_
                      rw [rounds_succ]
                      go_wp2_with fail
                      go_quiet ((go_at_call 48; first | exact quiet_at' S_p0.out | exact quiet_0 S_p0.out))
                      go_wp2_with fail
                      rw [rounds_succ]
                      go_wp2_with fail
                      go_quiet ((go_at_call 48; first | exact quiet_at' S_p1.out | exact quiet_0 S_p1.out))
                      go_wp2_with fail
                      rw [rounds_succ]
                      go_wp2_with fail
                      go_quiet ((go_at_call 48; first | exact quiet_at' S_p2.out | exact quiet_0 S_p2.out))
                      go_wp2_with fail
                      rw [rounds_succ]
                      go_wp2_with fail
                      go_quiet ((go_at_call 48; first | exact quiet_at' S_p3.out | exact quiet_0 S_p3.out))
                      go_wp2_with fail
                      rw [rounds_succ]
                      go_wp2_with ((go_at_call 48; (with_reducible refine (S_u.out _).mono ?_); rintro e w' ⟨rfl, rfl⟩))
                      refine wp_loop_rounds 6 ?_
                      rw [rounds_succ]
                      go_wp2_with fail
                      go_quiet ((go_at_call 48; first | exact quiet_at' S_l0.out | exact quiet_0 S_l0.out))
                      go_wp2_with fail
                      rw [rounds_succ]
                      go_wp2_with fail
                      go_quiet ((go_at_call 48; first | exact quiet_at' S_l1.out | exact quiet_0 S_l1.out))
                      go_wp2_with fail
                      rw [rounds_succ]
                      go_wp2_with fail
                      go_quiet ((go_at_call 48; first | exact quiet_at' V.out | exact quiet_0 V.out))
                      go_wp2_with fail
                      rw [rounds_succ]
                      go_wp2_with fail
                      go_ret
                      exact ⟨rfl, by repeat (first | exact fresh2 _ _ _ | apply below_drewN)⟩
                  · have hne : cmpI p.l1 q_l1 ≠ 0 := cmpI_ne (fun h => e8 h.symm)
                    rw [show cmpP p ⟨p.f, p.k, p.p0, p.p1, p.p2, p.p3, p.u, p.l0, q_l1, q_l2⟩ = cmpI p.l1 q_l1 by simp [cmpP, cmpI_self, orI, hne]]
                    clear e8
                    generalize hv : cmpI p.l1 q_l1 = v at hne ⊢
                    have hz : (v == 0) = false := by simpa using hne
                    clear hne
                    have S_f := Lib.hid (ord_is (cmpI_self p.f))
                    have S_k := Lib.hid (ord_is (cmpI_self p.k))
                    have S_p0 := Lib.hid (ord_is (cmpI_self p.p0))
                    have S_p1 := Lib.hid (ord_is (cmpI_self p.p1))
                    have S_p2 := Lib.hid (ord_is (cmpI_self p.p2))
                    have S_p3 := Lib.hid (ord_is (cmpI_self p.p3))
                    have S_u := Lib.hid (ord_is (cmpI_self p.u))
                    have S_l0 := Lib.hid (ord_is (cmpI_self p.l0))
                    have V := Lib.hid (ord_is hv)
                    clear hv
                    go_enter Try.func32, Try.ntmps32
                    go_wp2_with (first | (go_at_call 48; (with_reducible refine (S_f.out _).mono ?_); rintro e w' ⟨rfl, rfl⟩) | (go_at_call 48; (with_reducible refine (S_k.out _).mono ?_); rintro e w' ⟨rfl, rfl⟩))
                    refine wp_loop_rounds 6 ?_
                    rw [rounds_succ]
                    go_wp2_with fail
                    go_quiet ((go_at_call 48; first | exact quiet_at' S_p0.out | exact quiet_0 S_p0.out))
                    go_wp2_with fail
                    rw [rounds_succ]
                    go_wp2_with fail
                    go_quiet ((go_at_call 48; first | exact quiet_at' S_p1.out | exact quiet_0 S_p1.out))
                    go_wp2_with fail
                    rw [rounds_succ]
                    go_wp2_with fail
                    go_quiet ((go_at_call 48; first | exact quiet_at' S_p2.out | exact quiet_0 S_p2.out))
                    go_wp2_with fail
                    rw [rounds_succ]
                    go_wp2_with fail
                    go_quiet ((go_at_call 48; first | exact quiet_at' S_p3.out | exact quiet_0 S_p3.out))
                    go_wp2_with fail
                    rw [rounds_succ]
                    go_wp2_with ((go_at_call 48; (with_reducible refine (S_u.out _).mono ?_); rintro e w' ⟨rfl, rfl⟩))
                    refine wp_loop_rounds 6 ?_
                    rw [rounds_succ]
                    go_wp2_with fail
                    go_quiet ((go_at_call 48; first | exact quiet_at' S_l0.out | exact quiet_0 S_l0.out))
                    go_wp2_with fail
                    rw [rounds_succ]
                    go_wp2_with fail
                    go_quiet ((go_at_call 48; first | exact quiet_at' V.out | exact quiet_0 V.out))
                    go_wp2_with fail
                    rw [rounds_succ]
                    go_wp2_with fail
                    go_ret
                    exact ⟨rfl, by repeat (first | exact fresh2 _ _ _ | apply below_drewN)⟩
                · have hne : cmpI p.l0 q_l0 ≠ 0 := cmpI_ne (fun h => e7 h.symm)
                  rw [show cmpP p ⟨p.f, p.k, p.p0, p.p1, p.p2, p.p3, p.u, q_l0, q_l1, q_l2⟩ = cmpI p.l0 q_l0 by simp [cmpP, cmpI_self, orI, hne]]
                  clear e7
                  generalize hv : cmpI p.l0 q_l0 = v at hne ⊢
                  have hz : (v == 0) = false := by simpa using hne
                  clear hne
                  have S_f := Lib.hid (ord_is (cmpI_self p.f))
                  have S_k := Lib.hid (ord_is (cmpI_self p.k))
                  have S_p0 := Lib.hid (ord_is (cmpI_self p.p0))
                  have S_p1 := Lib.hid (ord_is (cmpI_self p.p1))
                  have S_p2 := Lib.hid (ord_is (cmpI_self p.p2))
                  have S_p3 := Lib.hid (ord_is (cmpI_self p.p3))
                  have S_u := Lib.hid (ord_is (cmpI_self p.u))
                  have V := Lib.hid (ord_is hv)
                  clear hv
                  go_enter Try.func32, Try.ntmps32
                  go_wp2_with (first | (go_at_call 48; (with_reducible refine (S_f.out _).mono ?_); rintro e w' ⟨rfl, rfl⟩) | (go_at_call 48; (with_reducible refine (S_k.out _).mono ?_); rintro e w' ⟨rfl, rfl⟩))
                  refine wp_loop_rounds 6 ?_
                  rw [rounds_succ]
                  go_wp2_with fail
                  go_quiet ((go_at_call 48; first | exact quiet_at' S_p0.out | exact quiet_0 S_p0.out))
                  go_wp2_with fail
                  rw [rounds_succ]
                  go_wp2_with fail
                  go_quiet ((go_at_call 48; first | exact quiet_at' S_p1.out | exact quiet_0 S_p1.out))
                  go_wp2_with fail
                  rw [rounds_succ]
                  go_wp2_with fail
                  go_quiet ((go_at_call 48; first | exact quiet_at' S_p2.out | exact quiet_0 S_p2.out))
                  go_wp2_with fail
                  rw [rounds_succ]
                  go_wp2_with fail
                  go_quiet ((go_at_call 48; first | exact quiet_at' S_p3.out | exact quiet_0 S_p3.out))
                  go_wp2_with fail
                  rw [rounds_succ]
                  go_wp2_with ((go_at_call 48; (with_reducible refine (S_u.out _).mono ?_); rintro e w' ⟨rfl, rfl⟩))
                  refine wp_loop_rounds 6 ?_
                  rw [rounds_succ]
                  go_wp2_with fail
                  go_quiet ((go_at_call 48; first | exact quiet_at' V.out | exact quiet_0 V.out))
                  go_wp2_with fail
                  rw [rounds_succ]
                  go_wp2_with fail
                  go_ret
                  exact ⟨rfl, by repeat (first | exact fresh2 _ _ _ | apply below_drewN)⟩
              · have hne : cmpI p.u q_u ≠ 0 := cmpI_ne (fun h => e6 h.symm)
                rw [show cmpP p ⟨p.f, p.k, p.p0, p.p1, p.p2, p.p3, q_u, q_l0, q_l1, q_l2⟩ = cmpI p.u q_u by simp [cmpP, cmpI_self, orI, hne]]
                clear e6
                generalize hv : cmpI p.u q_u = v at hne ⊢
                have hz : (v == 0) = false := by simpa using hne
                clear hne
                have S_f := Lib.hid (ord_is (cmpI_self p.f))
                have S_k := Lib.hid (ord_is (cmpI_self p.k))
                have S_p0 := Lib.hid (ord_is (cmpI_self p.p0))
                have S_p1 := Lib.hid (ord_is (cmpI_self p.p1))
                have S_p2 := Lib.hid (ord_is (cmpI_self p.p2))
                have S_p3 := Lib.hid (ord_is (cmpI_self p.p3))
                have V := Lib.hid (ord_is hv)
                clear hv
                go_enter Try.func32, Try.ntmps32
                go_wp2_with (first | (go_at_call 48; (with_reducible refine (S_f.out _).mono ?_); rintro e w' ⟨rfl, rfl⟩) | (go_at_call 48; (with_reducible refine (S_k.out _).mono ?_); rintro e w' ⟨rfl, rfl⟩))
                refine wp_loop_rounds 6 ?_
                rw [rounds_succ]
                go_wp2_with fail
                go_quiet ((go_at_call 48; first | exact quiet_at' S_p0.out | exact quiet_0 S_p0.out))
                go_wp2_with fail
                rw [rounds_succ]
                go_wp2_with fail
                go_quiet ((go_at_call 48; first | exact quiet_at' S_p1.out | exact quiet_0 S_p1.out))
                go_wp2_with fail
                rw [rounds_succ]
                go_wp2_with fail
                go_quiet ((go_at_call 48; first | exact quiet_at' S_p2.out | exact quiet_0 S_p2.out))
                go_wp2_with fail
                rw [rounds_succ]
                go_wp2_with fail
                go_quiet ((go_at_call 48; first | exact quiet_at' S_p3.out | exact quiet_0 S_p3.out))
                go_wp2_with fail
                rw [rounds_succ]
                go_wp2_with ((go_at_call 48; (with_reducible refine (V.out _).mono ?_); rintro e w' ⟨rfl, rfl⟩))
                refine wp_loop_rounds 6 ?_
                rw [rounds_succ]
                go_wp2_with fail
                go_ret
                exact ⟨rfl, by repeat (first | exact fresh2 _ _ _ | apply below_drewN)⟩
            · have hne : cmpI p.p3 q_p3 ≠ 0 := cmpI_ne (fun h => e5 h.symm)
              rw [show cmpP p ⟨p.f, p.k, p.p0, p.p1, p.p2, q_p3, q_u, q_l0, q_l1, q_l2⟩ = cmpI p.p3 q_p3 by simp [cmpP, cmpI_self, orI, hne]]
              clear e5
              generalize hv : cmpI p.p3 q_p3 = v at hne ⊢
              have hz : (v == 0) = false := by simpa using hne
              clear hne
              have S_f := Lib.hid (ord_is (cmpI_self p.f))
              have S_k := Lib.hid (ord_is (cmpI_self p.k))
              have S_p0 := Lib.hid (ord_is (cmpI_self p.p0))
              have S_p1 := Lib.hid (ord_is (cmpI_self p.p1))
              have S_p2 := Lib.hid (ord_is (cmpI_self p.p2))
              have V := Lib.hid (ord_is hv)
              clear hv
              go_enter Try.func32, Try.ntmps32
              go_wp2_with (first | (go_at_call 48; (with_reducible refine (S_f.out _).mono ?_); rintro e w' ⟨rfl, rfl⟩) | (go_at_call 48; (with_reducible refine (S_k.out _).mono ?_); rintro e w' ⟨rfl, rfl⟩))
              refine wp_loop_rounds 6 ?_
              rw [rounds_succ]
              go_wp2_with fail
              go_quiet ((go_at_call 48; first | exact quiet_at' S_p0.out | exact quiet_0 S_p0.out))
              go_wp2_with fail
              rw [rounds_succ]
              go_wp2_with fail
              go_quiet ((go_at_call 48; first | exact quiet_at' S_p1.out | exact quiet_0 S_p1.out))
              go_wp2_with fail
              rw [rounds_succ]
              go_wp2_with fail
              go_quiet ((go_at_call 48; first | exact quiet_at' S_p2.out | exact quiet_0 S_p2.out))
              go_wp2_with fail
              rw [rounds_succ]
              go_wp2_with fail
              go_quiet ((go_at_call 48; first | exact quiet_at' V.out | exact quiet_0 V.out))
              go_wp2_with fail
              rw [rounds_succ]
              go_wp2_with fail
              refine wp_loop_rounds 6 ?_
              rw [rounds_succ]
              go_wp2_with fail
              go_ret
              exact ⟨rfl, by repeat (first | exact fresh2 _ _ _ | apply below_drewN)⟩
          · have hne : cmpI p.p2 q_p2 ≠ 0 := cmpI_ne (fun h => e4 h.symm)
            rw [show cmpP p ⟨p.f, p.k, p.p0, p.p1, q_p2, q_p3, q_u, q_l0, q_l1, q_l2⟩ = cmpI p.p2 q_p2 by simp [cmpP, cmpI_self, orI, hne]]
            clear e4
            generalize hv : cmpI p.p2 q_p2 = v at hne ⊢
            have hz : (v == 0) = false := by simpa using hne
            clear hne
            have S_f := Lib.hid (ord_is (cmpI_self p.f))
            have S_k := Lib.hid (ord_is (cmpI_self p.k))
            have S_p0 := Lib.hid (ord_is (cmpI_self p.p0))
            have S_p1 := Lib.hid (ord_is (cmpI_self p.p1))
            have V := Lib.hid (ord_is hv)
            clear hv
            go_enter Try.func32, Try.ntmps32
            go_wp2_with (first | (go_at_call 48; (with_reducible refine (S_f.out _).mono ?_); rintro e w' ⟨rfl, rfl⟩) | (go_at_call 48; (with_reducible refine (S_k.out _).mono ?_); rintro e w' ⟨rfl, rfl⟩))
            refine wp_loop_rounds 6 ?_
            rw [rounds_succ]
            go_wp2_with fail
            go_quiet ((go_at_call 48; first | exact quiet_at' S_p0.out | exact quiet_0 S_p0.out))
            go_wp2_with fail
            rw [rounds_succ]
            go_wp2_with fail
            go_quiet ((go_at_call 48; first | exact quiet_at' S_p1.out | exact quiet_0 S_p1.out))
            go_wp2_with fail
            rw [rounds_succ]
            go_wp2_with fail
            go_quiet ((go_at_call 48; first | exact quiet_at' V.out | exact quiet_0 V.out))
            go_wp2_with fail
            rw [rounds_succ]
            go_wp2_with fail
            refine wp_loop_rounds 6 ?_
            rw [rounds_succ]
            go_wp2_with fail
            go_ret
            exact ⟨rfl, by repeat (first | exact fresh2 _ _ _ | apply below_drewN)⟩
        · have hne : cmpI p.p1 q_p1 ≠ 0 := cmpI_ne (fun h => e3 h.symm)
          rw [show cmpP p ⟨p.f, p.k, p.p0, q_p1, q_p2, q_p3, q_u, q_l0, q_l1, q_l2⟩ = cmpI p.p1 q_p1 by simp [cmpP, cmpI_self, orI, hne]]
          clear e3
          generalize hv : cmpI p.p1 q_p1 = v at hne ⊢
          have hz : (v == 0) = false := by simpa using hne
          clear hne
          have S_f := Lib.hid (ord_is (cmpI_self p.f))
          have S_k := Lib.hid (ord_is (cmpI_self p.k))
          have S_p0 := Lib.hid (ord_is (cmpI_self p.p0))
          have V := Lib.hid (ord_is hv)
          clear hv
          go_enter Try.func32, Try.ntmps32
          go_wp2_with (first | (go_at_call 48; (with_reducible refine (S_f.out _).mono ?_); rintro e w' ⟨rfl, rfl⟩) | (go_at_call 48; (with_reducible refine (S_k.out _).mono ?_); rintro e w' ⟨rfl, rfl⟩))
          refine wp_loop_rounds 6 ?_
          rw [rounds_succ]
          go_wp2_with fail
          go_quiet ((go_at_call 48; first | exact quiet_at' S_p0.out | exact quiet_0 S_p0.out))
          go_wp2_with fail
          rw [rounds_succ]
          go_wp2_with fail
          go_quiet ((go_at_call 48; first | exact quiet_at' V.out | exact quiet_0 V.out))
          go_wp2_with fail
          rw [rounds_succ]
          go_wp2_with fail
          refine wp_loop_rounds 6 ?_
          rw [rounds_succ]
          go_wp2_with fail
          go_ret
          exact ⟨rfl, by repeat (first | exact fresh2 _ _ _ | apply below_drewN)⟩
      · have hne : cmpI p.p0 q_p0 ≠ 0 := cmpI_ne (fun h => e2 h.symm)
        rw [show cmpP p ⟨p.f, p.k, q_p0, q_p1, q_p2, q_p3, q_u, q_l0, q_l1, q_l2⟩ = cmpI p.p0 q_p0 by simp [cmpP, cmpI_self, orI, hne]]
        clear e2
        generalize hv : cmpI p.p0 q_p0 = v at hne ⊢
        have hz : (v == 0) = false := by simpa using hne
        clear hne
        have S_f := Lib.hid (ord_is (cmpI_self p.f))
        have S_k := Lib.hid (ord_is (cmpI_self p.k))
        have V := Lib.hid (ord_is hv)
        clear hv
        go_enter Try.func32, Try.ntmps32
        go_wp2_with (first | (go_at_call 48; (with_reducible refine (S_f.out _).mono ?_); rintro e w' ⟨rfl, rfl⟩) | (go_at_call 48; (with_reducible refine (S_k.out _).mono ?_); rintro e w' ⟨rfl, rfl⟩))
        refine wp_loop_rounds 6 ?_
        rw [rounds_succ]
        go_wp2_with fail
        go_quiet ((go_at_call 48; first | exact quiet_at' V.out | exact quiet_0 V.out))
        go_wp2_with fail
        rw [rounds_succ]
        go_wp2_with fail
        refine wp_loop_rounds 6 ?_
        rw [rounds_succ]
        go_wp2_with fail
        go_ret
        exact ⟨rfl, by repeat (first | exact fresh2 _ _ _ | apply below_drewN)⟩
    · have hne : cmpI p.k q_k ≠ 0 := cmpI_ne (fun h => e1 h.symm)
      rw [show cmpP p ⟨p.f, q_k, q_p0, q_p1, q_p2, q_p3, q_u, q_l0, q_l1, q_l2⟩ = cmpI p.k q_k by simp [cmpP, cmpI_self, orI, hne]]
      clear e1
      generalize hv : cmpI p.k q_k = v at hne ⊢
      have hz : (v == 0) = false := by simpa using hne
      clear hne
      have S_f := Lib.hid (ord_is (cmpI_self p.f))
      have V := Lib.hid (ord_is hv)
      clear hv
      go_enter Try.func32, Try.ntmps32
      go_wp2_with (first | (go_at_call 48; (with_reducible refine (S_f.out _).mono ?_); rintro e w' ⟨rfl, rfl⟩) | (go_at_call 48; (with_reducible refine (V.out _).mono ?_); rintro e w' ⟨rfl, rfl⟩))
      refine wp_loop_rounds 6 ?_
      rw [rounds_succ]
      go_wp2_with fail
      refine wp_loop_rounds 6 ?_
      rw [rounds_succ]
      go_wp2_with fail
      go_ret
      exact ⟨rfl, by repeat (first | exact fresh2 _ _ _ | apply below_drewN)⟩
  · have hne : cmpI p.f q_f ≠ 0 := cmpI_ne (fun h => e0 h.symm)
    rw [show cmpP p ⟨q_f, q_k, q_p0, q_p1, q_p2, q_p3, q_u, q_l0, q_l1, q_l2⟩ = cmpI p.f q_f by simp [cmpP, orI, hne]]
    clear e0
    generalize hv : cmpI p.f q_f = v at hne ⊢
    have hz : (v == 0) = false := by simpa using hne
    clear hne
    have V := Lib.hid (ord_is hv)
    clear hv
    go_enter Try.func32, Try.ntmps32
    go_wp2_with (first | (go_at_call 48; (with_reducible refine (V.out _).mono ?_); rintro e w' ⟨rfl, rfl⟩))
    refine wp_loop_rounds 6 ?_
    rw [rounds_succ]
    go_wp2_with fail
    refine wp_loop_rounds 6 ?_
    rw [rounds_succ]
    go_wp2_with fail
    go_ret
    exact ⟨rfl, by repeat (first | exact fresh2 _ _ _ | apply below_drewN)⟩
end Go.Proofs.Ytggdcnoonmepcaa.path
