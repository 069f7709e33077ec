/-
  The contracts of Next, Later and Zero.
-/
import Derived.Test.YtehcnnjhgiiehaaMv2
namespace Go.Proofs.Ytehcnnjhgiiehaa.stamp
open Go.ChangeShapes Go.WideShapes Go.ChangeAt Go.RowKit
open Go.Proofs.Ytehcnnjhgiiehaa.tm Go.Proofs.Ytehcnnjhgiiehaa.opened Go.Proofs.Ytehcnnjhgiiehaa.block

theorem next_over (t : Tm) (i : t.In) (h : inn t = 0) (hl : lastT t = 1048576) (w : World) : Calls Try.prog 22 #[.agg #[.int .u32 t.e, .int .i64 t.d, .int .u32 t.a, .int .u32 t.b, .int .u32 t.c]] w fun e w' => e = .returned (.tuple #[.agg #[.int .u32 T0.e, .int .i64 T0.d, .int .u32 T0.a, .int .u32 T0.b, .int .u32 T0.c], .int .i64 9]) ∧ Below w.heap.size w w' := by
  obtain ⟨hk, hz⟩ := inn_zero h
  obtain ⟨z0, z1, -⟩ := chk_zero hk
  have hd : t.d = 1 ∨ t.d = 2 ∨ t.d = 3 := by omega
  have HE := Lib.hid h
  have HK := Lib.hid hk
  clear h hk hz
  obtain ⟨e, d, a, b, c⟩ := t
  dsimp only at *
  rcases hd with rfl | rfl | rfl
  · obtain rfl : a = 1048576 := by simpa [lastT] using hl
    clear hl
    go_enter Try.func22, Try.ntmps22
    go_wp2_with (first | (go_at_call 45; refine (inner_is _ i HE.out _).mono ?_; rintro e w1 ⟨rfl, b1⟩; obtain ⟨hc, hf⟩ := bcell b1) | (go_at_call 46; refine (add_over 1048576 1 (by omega) (by omega) (by omega) (by omega) (by omega) _).mono ?_; rintro e w2 ⟨rfl, rfl⟩))
    refine bodyPost_ret (v := .tuple #[.agg #[.int .u32 T0.e, .int .i64 T0.d, .int .u32 T0.a, .int .u32 T0.b, .int .u32 T0.c], .int .i64 9]) (by simp [results, Try.results22, go_sem, hc, T0]) rfl ⟨rfl, ?_⟩
    repeat (with_reducible refine Below.setCell ?_ (by simp) _)
    exact over2 b1
  · obtain rfl : b = 1048576 := by simpa [lastT] using hl
    clear hl
    go_enter Try.func22, Try.ntmps22
    go_wp2_with (first | (go_at_call 45; refine (inner_is _ i HE.out _).mono ?_; rintro e w1 ⟨rfl, b1⟩; obtain ⟨hc, hf⟩ := bcell b1) | (go_at_call 46; refine (add_over 1048576 1 (by omega) (by omega) (by omega) (by omega) (by omega) _).mono ?_; rintro e w2 ⟨rfl, rfl⟩))
    refine bodyPost_ret (v := .tuple #[.agg #[.int .u32 T0.e, .int .i64 T0.d, .int .u32 T0.a, .int .u32 T0.b, .int .u32 T0.c], .int .i64 9]) (by simp [results, Try.results22, go_sem, hc, T0]) rfl ⟨rfl, ?_⟩
    repeat (with_reducible refine Below.setCell ?_ (by simp) _)
    exact over2 b1
  · obtain rfl : c = 1048576 := by simpa [lastT] using hl
    clear hl
    go_enter Try.func22, Try.ntmps22
    go_wp2_with (first | (go_at_call 45; refine (inner_is _ i HE.out _).mono ?_; rintro e w1 ⟨rfl, b1⟩; obtain ⟨hc, hf⟩ := bcell b1) | (go_at_call 46; refine (add_over 1048576 1 (by omega) (by omega) (by omega) (by omega) (by omega) _).mono ?_; rintro e w2 ⟨rfl, rfl⟩))
    refine bodyPost_ret (v := .tuple #[.agg #[.int .u32 T0.e, .int .i64 T0.d, .int .u32 T0.a, .int .u32 T0.b, .int .u32 T0.c], .int .i64 9]) (by simp [results, Try.results22, go_sem, hc, T0]) rfl ⟨rfl, ?_⟩
    repeat (with_reducible refine Below.setCell ?_ (by simp) _)
    exact over2 b1
theorem next_good (t : Tm) (i : t.In) (h : inn t = 0) (hl : lastT t ≠ 1048576) (w : World) : Calls Try.prog 22 #[.agg #[.int .u32 t.e, .int .i64 t.d, .int .u32 t.a, .int .u32 t.b, .int .u32 t.c]] w fun e w' => e = .returned (.tuple #[.agg #[.int .u32 (bumpT t).e, .int .i64 (bumpT t).d, .int .u32 (bumpT t).a, .int .u32 (bumpT t).b, .int .u32 (bumpT t).c], .int .i64 0]) ∧ Below w.heap.size w w' := by
  obtain ⟨hk, hz⟩ := inn_zero h
  obtain ⟨z0, z1, z2, z3, z4, z5, -⟩ := chk_zero hk
  have hd : t.d = 1 ∨ t.d = 2 ∨ t.d = 3 := by omega
  have HE := Lib.hid h
  have HK := Lib.hid hk
  have i' := i
  obtain ⟨-, -, -, -, p0, p1, q0, q1, r0, r1⟩ := i
  have i : t.In := i'
  clear h hk hz
  obtain ⟨e, d, a, b, c⟩ := t
  dsimp only at *
  rcases hd with rfl | rfl | rfl
  · have hq : a ≠ 1048576 := by simpa [lastT] using hl
    have hlt : a < 1048576 := by omega
    have hne : (a == 1048576) = false := by simpa using hq
    clear hl hq
    go_enter Try.func22, Try.ntmps22
    go_wp2_with (first | (go_at_call 45; refine (inner_is _ i HE.out _).mono ?_; rintro e w1 ⟨rfl, b1⟩; obtain ⟨hc, hf⟩ := bcell b1; have hb := fst2 b1 rfl; have hx := put_other hb 2; have hy := put_same hb 2 (by simp); clear hb) | (go_at_call 46; refine (add_sum a 1 (by omega) (by omega) (by omega) (by omega) (by omega) _).mono ?_; rintro e w2 ⟨rfl, rfl⟩))
    refine bodyPost_ret (v := .tuple #[.agg #[.int .u32 (bumpT ⟨e, 1, a, b, c⟩).e, .int .i64 (bumpT ⟨e, 1, a, b, c⟩).d, .int .u32 (bumpT ⟨e, 1, a, b, c⟩).a, .int .u32 (bumpT ⟨e, 1, a, b, c⟩).b, .int .u32 (bumpT ⟨e, 1, a, b, c⟩).c], .int .i64 0]) (by simp [results, Try.results22, go_sem, hc, bumpT]) rfl ⟨rfl, ?_⟩
    repeat (with_reducible refine Below.setCell ?_ (by simp) _)
    exact over2 b1
  · have hq : b ≠ 1048576 := by simpa [lastT] using hl
    have hlt : b < 1048576 := by omega
    have hne : (b == 1048576) = false := by simpa using hq
    clear hl hq
    go_enter Try.func22, Try.ntmps22
    go_wp2_with (first | (go_at_call 45; refine (inner_is _ i HE.out _).mono ?_; rintro e w1 ⟨rfl, b1⟩; obtain ⟨hc, hf⟩ := bcell b1; have hb := fst2 b1 rfl; have hx := put_other hb 3; have hy := put_same hb 3 (by simp); clear hb) | (go_at_call 46; refine (add_sum b 1 (by omega) (by omega) (by omega) (by omega) (by omega) _).mono ?_; rintro e w2 ⟨rfl, rfl⟩))
    refine bodyPost_ret (v := .tuple #[.agg #[.int .u32 (bumpT ⟨e, 2, a, b, c⟩).e, .int .i64 (bumpT ⟨e, 2, a, b, c⟩).d, .int .u32 (bumpT ⟨e, 2, a, b, c⟩).a, .int .u32 (bumpT ⟨e, 2, a, b, c⟩).b, .int .u32 (bumpT ⟨e, 2, a, b, c⟩).c], .int .i64 0]) (by simp [results, Try.results22, go_sem, hc, bumpT]) rfl ⟨rfl, ?_⟩
    repeat (with_reducible refine Below.setCell ?_ (by simp) _)
    exact over2 b1
  · have hq : c ≠ 1048576 := by simpa [lastT] using hl
    have hlt : c < 1048576 := by omega
    have hne : (c == 1048576) = false := by simpa using hq
    clear hl hq
    go_enter Try.func22, Try.ntmps22
    go_wp2_with (first | (go_at_call 45; refine (inner_is _ i HE.out _).mono ?_; rintro e w1 ⟨rfl, b1⟩; obtain ⟨hc, hf⟩ := bcell b1; have hb := fst2 b1 rfl; have hx := put_other hb 4; have hy := put_same hb 4 (by simp); clear hb) | (go_at_call 46; refine (add_sum c 1 (by omega) (by omega) (by omega) (by omega) (by omega) _).mono ?_; rintro e w2 ⟨rfl, rfl⟩))
    refine bodyPost_ret (v := .tuple #[.agg #[.int .u32 (bumpT ⟨e, 3, a, b, c⟩).e, .int .i64 (bumpT ⟨e, 3, a, b, c⟩).d, .int .u32 (bumpT ⟨e, 3, a, b, c⟩).a, .int .u32 (bumpT ⟨e, 3, a, b, c⟩).b, .int .u32 (bumpT ⟨e, 3, a, b, c⟩).c], .int .i64 0]) (by simp [results, Try.results22, go_sem, hc, bumpT]) rfl ⟨rfl, ?_⟩
    repeat (with_reducible refine Below.setCell ?_ (by simp) _)
    exact over2 b1
theorem nextR_over (t : Tm) (i : t.In) (h : inn t = 0) (hl : lastT t = 1048576) (w : World) : Calls Try.prog 23 #[.agg #[.int .u32 t.e, .int .i64 t.d, .int .u32 t.a, .int .u32 t.b, .int .u32 t.c]] w fun e w' => e = .returned (.tuple #[.agg #[.int .u32 T0.e, .int .i64 T0.d, .int .u32 T0.a, .int .u32 T0.b, .int .u32 T0.c], .int .i64 9]) ∧ Below w.heap.size w w' := by
  obtain ⟨hk, hz⟩ := inn_zero h
  obtain ⟨z0, z1, -⟩ := chk_zero hk
  have hd : t.d = 1 ∨ t.d = 2 ∨ t.d = 3 := by omega
  have HE := Lib.hid h
  have HK := Lib.hid hk
  clear h hk hz
  obtain ⟨e, d, a, b, c⟩ := t
  dsimp only at *
  rcases hd with rfl | rfl | rfl
  · obtain rfl : a = 1048576 := by simpa [lastT] using hl
    clear hl
    go_enter Try.func23, Try.ntmps23
    go_wp2_with ((go_at_call 9; refine (checkR_is _ i HK.out _).mono ?_; rintro e w1 ⟨rfl, b1⟩; obtain ⟨hc, hf⟩ := bcell b1))
    refine bodyPost_ret (v := .tuple #[.agg #[.int .u32 T0.e, .int .i64 T0.d, .int .u32 T0.a, .int .u32 T0.b, .int .u32 T0.c], .int .i64 9]) (by simp [results, Try.results23, go_sem, hc, T0]) rfl ⟨rfl, ?_⟩
    repeat (with_reducible refine Below.setCell ?_ (by simp) _)
    exact over2 b1
  · obtain rfl : b = 1048576 := by simpa [lastT] using hl
    clear hl
    go_enter Try.func23, Try.ntmps23
    go_wp2_with ((go_at_call 9; refine (checkR_is _ i HK.out _).mono ?_; rintro e w1 ⟨rfl, b1⟩; obtain ⟨hc, hf⟩ := bcell b1))
    refine bodyPost_ret (v := .tuple #[.agg #[.int .u32 T0.e, .int .i64 T0.d, .int .u32 T0.a, .int .u32 T0.b, .int .u32 T0.c], .int .i64 9]) (by simp [results, Try.results23, go_sem, hc, T0]) rfl ⟨rfl, ?_⟩
    repeat (with_reducible refine Below.setCell ?_ (by simp) _)
    exact over2 b1
  · obtain rfl : c = 1048576 := by simpa [lastT] using hl
    clear hl
    go_enter Try.func23, Try.ntmps23
    go_wp2_with ((go_at_call 9; refine (checkR_is _ i HK.out _).mono ?_; rintro e w1 ⟨rfl, b1⟩; obtain ⟨hc, hf⟩ := bcell b1))
    refine bodyPost_ret (v := .tuple #[.agg #[.int .u32 T0.e, .int .i64 T0.d, .int .u32 T0.a, .int .u32 T0.b, .int .u32 T0.c], .int .i64 9]) (by simp [results, Try.results23, go_sem, hc, T0]) rfl ⟨rfl, ?_⟩
    repeat (with_reducible refine Below.setCell ?_ (by simp) _)
    exact over2 b1
theorem nextR_good (t : Tm) (i : t.In) (h : inn t = 0) (hl : lastT t ≠ 1048576) (w : World) : Calls Try.prog 23 #[.agg #[.int .u32 t.e, .int .i64 t.d, .int .u32 t.a, .int .u32 t.b, .int .u32 t.c]] w fun e w' => e = .returned (.tuple #[.agg #[.int .u32 (bumpT t).e, .int .i64 (bumpT t).d, .int .u32 (bumpT t).a, .int .u32 (bumpT t).b, .int .u32 (bumpT t).c], .int .i64 0]) ∧ Below w.heap.size w w' := by
  obtain ⟨hk, hz⟩ := inn_zero h
  obtain ⟨z0, z1, z2, z3, z4, z5, -⟩ := chk_zero hk
  have hd : t.d = 1 ∨ t.d = 2 ∨ t.d = 3 := by omega
  have HE := Lib.hid h
  have HK := Lib.hid hk
  have i' := i
  obtain ⟨-, -, -, -, p0, p1, q0, q1, r0, r1⟩ := i
  have i : t.In := i'
  clear h hk hz
  obtain ⟨e, d, a, b, c⟩ := t
  dsimp only at *
  rcases hd with rfl | rfl | rfl
  · have hq : a ≠ 1048576 := by simpa [lastT] using hl
    have hlt : a < 1048576 := by omega
    have hne : (a == 1048576) = false := by simpa using hq
    clear hl hq
    go_enter Try.func23, Try.ntmps23
    go_wp2_with ((go_at_call 9; refine (checkR_is _ i HK.out _).mono ?_; rintro e w1 ⟨rfl, b1⟩; obtain ⟨hc, hf⟩ := bcell b1; have hb := fst2 b1 rfl; have hx := put_other hb 2; have hy := put_same hb 2 (by simp); clear hb))
    refine bodyPost_ret (v := .tuple #[.agg #[.int .u32 (bumpT ⟨e, 1, a, b, c⟩).e, .int .i64 (bumpT ⟨e, 1, a, b, c⟩).d, .int .u32 (bumpT ⟨e, 1, a, b, c⟩).a, .int .u32 (bumpT ⟨e, 1, a, b, c⟩).b, .int .u32 (bumpT ⟨e, 1, a, b, c⟩).c], .int .i64 0]) (by simp [results, Try.results23, go_sem, hc, bumpT]) rfl ⟨rfl, ?_⟩
    repeat (with_reducible refine Below.setCell ?_ (by simp) _)
    exact over2 b1
  · have hq : b ≠ 1048576 := by simpa [lastT] using hl
    have hlt : b < 1048576 := by omega
    have hne : (b == 1048576) = false := by simpa using hq
    clear hl hq
    go_enter Try.func23, Try.ntmps23
    go_wp2_with ((go_at_call 9; refine (checkR_is _ i HK.out _).mono ?_; rintro e w1 ⟨rfl, b1⟩; obtain ⟨hc, hf⟩ := bcell b1; have hb := fst2 b1 rfl; have hx := put_other hb 3; have hy := put_same hb 3 (by simp); clear hb))
    refine bodyPost_ret (v := .tuple #[.agg #[.int .u32 (bumpT ⟨e, 2, a, b, c⟩).e, .int .i64 (bumpT ⟨e, 2, a, b, c⟩).d, .int .u32 (bumpT ⟨e, 2, a, b, c⟩).a, .int .u32 (bumpT ⟨e, 2, a, b, c⟩).b, .int .u32 (bumpT ⟨e, 2, a, b, c⟩).c], .int .i64 0]) (by simp [results, Try.results23, go_sem, hc, bumpT]) rfl ⟨rfl, ?_⟩
    repeat (with_reducible refine Below.setCell ?_ (by simp) _)
    exact over2 b1
  · have hq : c ≠ 1048576 := by simpa [lastT] using hl
    have hlt : c < 1048576 := by omega
    have hne : (c == 1048576) = false := by simpa using hq
    clear hl hq
    go_enter Try.func23, Try.ntmps23
    go_wp2_with ((go_at_call 9; refine (checkR_is _ i HK.out _).mono ?_; rintro e w1 ⟨rfl, b1⟩; obtain ⟨hc, hf⟩ := bcell b1; have hb := fst2 b1 rfl; have hx := put_other hb 4; have hy := put_same hb 4 (by simp); clear hb))
    refine bodyPost_ret (v := .tuple #[.agg #[.int .u32 (bumpT ⟨e, 3, a, b, c⟩).e, .int .i64 (bumpT ⟨e, 3, a, b, c⟩).d, .int .u32 (bumpT ⟨e, 3, a, b, c⟩).a, .int .u32 (bumpT ⟨e, 3, a, b, c⟩).b, .int .u32 (bumpT ⟨e, 3, a, b, c⟩).c], .int .i64 0]) (by simp [results, Try.results23, go_sem, hc, bumpT]) rfl ⟨rfl, ?_⟩
    repeat (with_reducible refine Below.setCell ?_ (by simp) _)
    exact over2 b1
theorem nextR_flat (t : Tm) (i : t.In) (h : chk t = 0) (hd : t.d = 0) (w : World) : Calls Try.prog 23 #[.agg #[.int .u32 t.e, .int .i64 t.d, .int .u32 t.a, .int .u32 t.b, .int .u32 t.c]] w fun e w' => e = .returned (.tuple #[.agg #[.int .u32 T0.e, .int .i64 T0.d, .int .u32 T0.a, .int .u32 T0.b, .int .u32 T0.c], .int .i64 10]) ∧ Below w.heap.size w w' := by
  have hd' : (t.d == 0) = true := by simpa using hd
  have HE := Lib.hid h
  clear h hd
  go_enter Try.func23, Try.ntmps23
  go_wp2_with (go_at_call 9; refine (checkR_is _ i HE.out _).mono ?_; rintro e w1 ⟨rfl, b1⟩; obtain ⟨hc, hf⟩ := bcell b1)
  refine bodyPost_ret (v := .tuple #[.agg #[.int .u32 T0.e, .int .i64 T0.d, .int .u32 T0.a, .int .u32 T0.b, .int .u32 T0.c], .int .i64 10]) (by simp [results, Try.results23, go_sem, hc, T0]) rfl ⟨rfl, ?_⟩
  repeat (with_reducible refine Below.setCell ?_ (by simp) _)
  exact over2 b1
theorem next_any (t : Tm) (i : t.In) (w : World) : Calls Try.prog 22 #[.agg #[.int .u32 t.e, .int .i64 t.d, .int .u32 t.a, .int .u32 t.b, .int .u32 t.c]] w fun e w' => e = .returned (.tuple #[.agg #[.int .u32 (nextV t).e, .int .i64 (nextV t).d, .int .u32 (nextV t).a, .int .u32 (nextV t).b, .int .u32 (nextV t).c], .int .i64 (nextE t)]) ∧ Below w.heap.size w w' := by
  by_cases h : inn t = 0
  · by_cases k : lastT t = 1048576
    · rw [show nextV t = T0 by simp [nextV, k], show nextE t = 9 by simp [nextE, h, k]]
      exact next_over t i h k w
    · rw [show nextV t = bumpT t by simp [nextV, h, k], show nextE t = 0 by simp [nextE, h, k]]
      exact next_good t i h k w
  · rw [show nextV t = T0 by simp [nextV, h], show nextE t = inn t by simp [nextE, h]]
    exact next_bad t i h w
theorem nextR_any (t : Tm) (i : t.In) (w : World) : Calls Try.prog 23 #[.agg #[.int .u32 t.e, .int .i64 t.d, .int .u32 t.a, .int .u32 t.b, .int .u32 t.c]] w fun e w' => e = .returned (.tuple #[.agg #[.int .u32 (nextV t).e, .int .i64 (nextV t).d, .int .u32 (nextV t).a, .int .u32 (nextV t).b, .int .u32 (nextV t).c], .int .i64 (nextE t)]) ∧ Below w.heap.size w w' := by
  by_cases h : inn t = 0
  · by_cases k : lastT t = 1048576
    · rw [show nextV t = T0 by simp [nextV, k], show nextE t = 9 by simp [nextE, h, k]]
      exact nextR_over t i h k w
    · rw [show nextV t = bumpT t by simp [nextV, h, k], show nextE t = 0 by simp [nextE, h, k]]
      exact nextR_good t i h k w
  · rw [show nextV t = T0 by simp [nextV, h], show nextE t = inn t by simp [nextE, h]]
    by_cases k : chk t = 0
    · have hd : t.d = 0 := by
        unfold inn at h
        rw [if_pos k] at h
        by_cases z : t.d = 0
        · exact z
        · rw [if_neg z] at h; omega
      rw [show inn t = 10 by simp [inn, k, hd]]
      exact nextR_flat t i k hd w
    · rw [show inn t = chk t by simp [inn, k]]
      exact nextR_chk_bad t i k w
theorem later_range (t : Tm) (n : Int) (i : t.In) (h : chk t = 0) (n0 : 0 ≤ n) (_n1 : n ≤ 4294967295) (hn : 1048576 < n) (w : World) : Calls Try.prog 24 #[.agg #[.int .u32 t.e, .int .i64 t.d, .int .u32 t.a, .int .u32 t.b, .int .u32 t.c], .int .u32 n] w fun e w' => e = .returned (.tuple #[.agg #[.int .u32 T0.e, .int .i64 T0.d, .int .u32 T0.a, .int .u32 T0.b, .int .u32 T0.c], .int .i64 1]) ∧ Below w.heap.size w w' := by
  obtain ⟨z0, z1, z2, -⟩ := chk_zero h
  have e0 := i.e0
  have HE := Lib.hid h
  clear h
  go_enter Try.func24, Try.ntmps24
  go_wp2_with (first | (go_at_call 8; refine (check_is _ i HE.out _).mono ?_; rintro e w1 ⟨rfl, b1⟩; obtain ⟨hc, hf⟩ := bcell b1) | (go_at_call 46; refine (add_range t.e n (by omega) (by omega) (by omega) (by omega) _).mono ?_; rintro e w2 ⟨rfl, rfl⟩))
  refine bodyPost_ret (v := .tuple #[.agg #[.int .u32 T0.e, .int .i64 T0.d, .int .u32 T0.a, .int .u32 T0.b, .int .u32 T0.c], .int .i64 1]) (by simp [results, Try.results24, go_sem, hc, T0]) rfl ⟨rfl, ?_⟩
  repeat (with_reducible refine Below.setCell ?_ (by simp) _)
  exact over2 b1
theorem later_over (t : Tm) (n : Int) (i : t.In) (h : chk t = 0) (n0 : 0 ≤ n) (_n1 : n ≤ 4294967295) (hn : n ≤ 1048576) (hs : 1048576 < t.e + n) (w : World) : Calls Try.prog 24 #[.agg #[.int .u32 t.e, .int .i64 t.d, .int .u32 t.a, .int .u32 t.b, .int .u32 t.c], .int .u32 n] w fun e w' => e = .returned (.tuple #[.agg #[.int .u32 T0.e, .int .i64 T0.d, .int .u32 T0.a, .int .u32 T0.b, .int .u32 T0.c], .int .i64 9]) ∧ Below w.heap.size w w' := by
  obtain ⟨z0, z1, z2, -⟩ := chk_zero h
  have e0 := i.e0
  have HE := Lib.hid h
  clear h
  go_enter Try.func24, Try.ntmps24
  go_wp2_with (first | (go_at_call 8; refine (check_is _ i HE.out _).mono ?_; rintro e w1 ⟨rfl, b1⟩; obtain ⟨hc, hf⟩ := bcell b1) | (go_at_call 46; refine (add_over t.e n (by omega) (by omega) (by omega) (by omega) (by omega) _).mono ?_; rintro e w2 ⟨rfl, rfl⟩))
  refine bodyPost_ret (v := .tuple #[.agg #[.int .u32 T0.e, .int .i64 T0.d, .int .u32 T0.a, .int .u32 T0.b, .int .u32 T0.c], .int .i64 9]) (by simp [results, Try.results24, go_sem, hc, T0]) rfl ⟨rfl, ?_⟩
  repeat (with_reducible refine Below.setCell ?_ (by simp) _)
  exact over2 b1
theorem later_good (t : Tm) (n : Int) (i : t.In) (h : chk t = 0) (n0 : 0 ≤ n) (_n1 : n ≤ 4294967295) (hn : n ≤ 1048576) (hs : t.e + n ≤ 1048576) (w : World) : Calls Try.prog 24 #[.agg #[.int .u32 t.e, .int .i64 t.d, .int .u32 t.a, .int .u32 t.b, .int .u32 t.c], .int .u32 n] w fun e w' => e = .returned (.tuple #[.agg #[.int .u32 (t.e + n), .int .i64 t.d, .int .u32 t.a, .int .u32 t.b, .int .u32 t.c], .int .i64 0]) ∧ Below w.heap.size w w' := by
  obtain ⟨z0, z1, z2, -⟩ := chk_zero h
  have e0 := i.e0
  have HE := Lib.hid h
  clear h
  go_enter Try.func24, Try.ntmps24
  go_wp2_with (first | (go_at_call 8; refine (check_is _ i HE.out _).mono ?_; rintro e w1 ⟨rfl, b1⟩; obtain ⟨hc, hf⟩ := bcell b1; have hb := fst2 b1 rfl; have hx := put_other hb 0; have hy := put_same hb 0 (by simp); clear hb) | (go_at_call 46; refine (add_sum t.e n (by omega) (by omega) (by omega) (by omega) (by omega) _).mono ?_; rintro e w2 ⟨rfl, rfl⟩))
  refine bodyPost_ret (v := .tuple #[.agg #[.int .u32 (t.e + n), .int .i64 t.d, .int .u32 t.a, .int .u32 t.b, .int .u32 t.c], .int .i64 0]) (by simp [results, Try.results24, go_sem, hc]) rfl ⟨rfl, ?_⟩
  repeat (with_reducible refine Below.setCell ?_ (by simp) _)
  exact over2 b1
theorem later_any (t : Tm) (n : Int) (i : t.In) (n0 : 0 ≤ n) (n1 : n ≤ 4294967295) (w : World) : Calls Try.prog 24 #[.agg #[.int .u32 t.e, .int .i64 t.d, .int .u32 t.a, .int .u32 t.b, .int .u32 t.c], .int .u32 n] w fun e w' => e = .returned (.tuple #[.agg #[.int .u32 (laterV t n).e, .int .i64 (laterV t n).d, .int .u32 (laterV t n).a, .int .u32 (laterV t n).b, .int .u32 (laterV t n).c], .int .i64 (laterE t n)]) ∧ Below w.heap.size w w' := by
  by_cases h : chk t = 0
  · by_cases hn : 1048576 < n
    · rw [show laterV t n = T0 by simp [laterV, hn], show laterE t n = 1 by simp [laterE, h, hn]]
      exact later_range t n i h n0 n1 hn w
    · by_cases hs : 1048576 < t.e + n
      · rw [show laterV t n = T0 by simp [laterV, hs], show laterE t n = 9 by simp [laterE, h, hn, hs]]
        exact later_over t n i h n0 n1 (by omega) hs w
      · rw [show laterV t n = ⟨t.e + n, t.d, t.a, t.b, t.c⟩ by simp [laterV, h, hn, hs], show laterE t n = 0 by simp [laterE, h, hn, hs]]
        exact later_good t n i h n0 n1 (by omega) (by omega) w
  · rw [show laterV t n = T0 by simp [laterV, h], show laterE t n = chk t by simp [laterE, h]]
    exact later_bad t n i h w
theorem laterR_range (t : Tm) (n : Int) (i : t.In) (h : chk t = 0) (_n0 : 0 ≤ n) (_n1 : n ≤ 4294967295) (hn : 1048576 < n) (w : World) : Calls Try.prog 25 #[.agg #[.int .u32 t.e, .int .i64 t.d, .int .u32 t.a, .int .u32 t.b, .int .u32 t.c], .int .u32 n] w fun e w' => e = .returned (.tuple #[.agg #[.int .u32 T0.e, .int .i64 T0.d, .int .u32 T0.a, .int .u32 T0.b, .int .u32 T0.c], .int .i64 1]) ∧ Below w.heap.size w w' := by
  obtain ⟨z0, z1, z2, -⟩ := chk_zero h
  have e0 := i.e0
  have HE := Lib.hid h
  clear h
  go_enter Try.func25, Try.ntmps25
  go_wp2_with ((go_at_call 9; refine (checkR_is _ i HE.out _).mono ?_; rintro e w1 ⟨rfl, b1⟩; obtain ⟨hc, hf⟩ := bcell b1))
  refine bodyPost_ret (v := .tuple #[.agg #[.int .u32 T0.e, .int .i64 T0.d, .int .u32 T0.a, .int .u32 T0.b, .int .u32 T0.c], .int .i64 1]) (by simp [results, Try.results25, go_sem, hc, T0]) rfl ⟨rfl, ?_⟩
  repeat (with_reducible refine Below.setCell ?_ (by simp) _)
  exact over2 b1
theorem laterR_over (t : Tm) (n : Int) (i : t.In) (h : chk t = 0) (n0 : 0 ≤ n) (n1 : n ≤ 4294967295) (hn : n ≤ 1048576) (hs : 1048576 < t.e + n) (w : World) : Calls Try.prog 25 #[.agg #[.int .u32 t.e, .int .i64 t.d, .int .u32 t.a, .int .u32 t.b, .int .u32 t.c], .int .u32 n] w fun e w' => e = .returned (.tuple #[.agg #[.int .u32 T0.e, .int .i64 T0.d, .int .u32 T0.a, .int .u32 T0.b, .int .u32 T0.c], .int .i64 9]) ∧ Below w.heap.size w w' := by
  obtain ⟨z0, z1, z2, -⟩ := chk_zero h
  have e0 := i.e0
  have HE := Lib.hid h
  clear h
  go_enter Try.func25, Try.ntmps25
  go_wp2_with ((go_at_call 9; refine (checkR_is _ i HE.out _).mono ?_; rintro e w1 ⟨rfl, b1⟩; obtain ⟨hc, hf⟩ := bcell b1))
  refine bodyPost_ret (v := .tuple #[.agg #[.int .u32 T0.e, .int .i64 T0.d, .int .u32 T0.a, .int .u32 T0.b, .int .u32 T0.c], .int .i64 9]) (by simp [results, Try.results25, go_sem, hc, T0]) rfl ⟨rfl, ?_⟩
  repeat (with_reducible refine Below.setCell ?_ (by simp) _)
  exact over2 b1
theorem laterR_good (t : Tm) (n : Int) (i : t.In) (h : chk t = 0) (n0 : 0 ≤ n) (n1 : n ≤ 4294967295) (hn : n ≤ 1048576) (hs : t.e + n ≤ 1048576) (w : World) : Calls Try.prog 25 #[.agg #[.int .u32 t.e, .int .i64 t.d, .int .u32 t.a, .int .u32 t.b, .int .u32 t.c], .int .u32 n] w fun e w' => e = .returned (.tuple #[.agg #[.int .u32 (t.e + n), .int .i64 t.d, .int .u32 t.a, .int .u32 t.b, .int .u32 t.c], .int .i64 0]) ∧ Below w.heap.size w w' := by
  obtain ⟨z0, z1, z2, -⟩ := chk_zero h
  have e0 := i.e0
  have HE := Lib.hid h
  clear h
  go_enter Try.func25, Try.ntmps25
  go_wp2_with ((go_at_call 9; refine (checkR_is _ i HE.out _).mono ?_; rintro e w1 ⟨rfl, b1⟩; obtain ⟨hc, hf⟩ := bcell b1; have hb := fst2 b1 rfl; have hx := put_other hb 0; have hy := put_same hb 0 (by simp); clear hb))
  refine bodyPost_ret (v := .tuple #[.agg #[.int .u32 (t.e + n), .int .i64 t.d, .int .u32 t.a, .int .u32 t.b, .int .u32 t.c], .int .i64 0]) (by simp [results, Try.results25, go_sem, hc]) rfl ⟨rfl, ?_⟩
  repeat (with_reducible refine Below.setCell ?_ (by simp) _)
  exact over2 b1
theorem laterR_any (t : Tm) (n : Int) (i : t.In) (n0 : 0 ≤ n) (n1 : n ≤ 4294967295) (w : World) : Calls Try.prog 25 #[.agg #[.int .u32 t.e, .int .i64 t.d, .int .u32 t.a, .int .u32 t.b, .int .u32 t.c], .int .u32 n] w fun e w' => e = .returned (.tuple #[.agg #[.int .u32 (laterV t n).e, .int .i64 (laterV t n).d, .int .u32 (laterV t n).a, .int .u32 (laterV t n).b, .int .u32 (laterV t n).c], .int .i64 (laterE t n)]) ∧ Below w.heap.size w w' := by
  by_cases h : chk t = 0
  · by_cases hn : 1048576 < n
    · rw [show laterV t n = T0 by simp [laterV, hn], show laterE t n = 1 by simp [laterE, h, hn]]
      exact laterR_range t n i h n0 n1 hn w
    · by_cases hs : 1048576 < t.e + n
      · rw [show laterV t n = T0 by simp [laterV, hs], show laterE t n = 9 by simp [laterE, h, hn, hs]]
        exact laterR_over t n i h n0 n1 (by omega) hs w
      · rw [show laterV t n = ⟨t.e + n, t.d, t.a, t.b, t.c⟩ by simp [laterV, h, hn, hs], show laterE t n = 0 by simp [laterE, h, hn, hs]]
        exact laterR_good t n i h n0 n1 (by omega) (by omega) w
  · rw [show laterV t n = T0 by simp [laterV, h], show laterE t n = chk t by simp [laterE, h]]
    exact laterR_bad t n i h w
theorem zero_bad (d : Int) (h : d < 0 ∨ 3 < d) (w : World) : Calls Try.prog 6 #[.int .i64 d] w fun e w' => e = .returned (.tuple #[.agg #[.int .u32 0, .int .i64 0, .int .u32 0, .int .u32 0, .int .u32 0], .int .i64 10]) ∧ Below w.heap.size w w' := by
  go_enter Try.func6, Try.ntmps6
  go_wp2_with ((go_at_call 34; refine (isDepth_no _ h _).mono ?_; rintro e w' ⟨rfl, rfl⟩))
  refine bodyPost_ret (v := .tuple #[.agg #[.int .u32 0, .int .i64 0, .int .u32 0, .int .u32 0, .int .u32 0], .int .i64 10]) (by simp [results, Try.results6, go_sem]) rfl ⟨rfl, ?_⟩
  exact fresh1 _ _
theorem zero_good (d : Int) (h0 : 0 ≤ d) (h1 : d ≤ 3) (w : World) : Calls Try.prog 6 #[.int .i64 d] w fun e w' => e = .returned (.tuple #[.agg #[.int .u32 0, .int .i64 d, .int .u32 0, .int .u32 0, .int .u32 0], .int .i64 0]) ∧ Below w.heap.size w w' := by
  go_enter Try.func6, Try.ntmps6
  go_wp2_with ((go_at_call 34; refine (isDepth_yes _ (by omega) (by omega) _).mono ?_; rintro e w' ⟨rfl, rfl⟩))
  refine bodyPost_ret (v := .tuple #[.agg #[.int .u32 0, .int .i64 d, .int .u32 0, .int .u32 0, .int .u32 0], .int .i64 0]) (by simp [results, Try.results6, go_sem]) rfl ⟨rfl, ?_⟩
  exact fresh1 _ _
theorem zero_any (d : Int) (w : World) : Calls Try.prog 6 #[.int .i64 d] w fun e w' => e = .returned (.tuple #[.agg #[.int .u32 (zeroV d).e, .int .i64 (zeroV d).d, .int .u32 (zeroV d).a, .int .u32 (zeroV d).b, .int .u32 (zeroV d).c], .int .i64 (zeroE d)]) ∧ Below w.heap.size w w' := by
  by_cases h : d < 0 ∨ 3 < d
  · rw [show zeroV d = T0 by unfold zeroV; rw [if_pos h], show zeroE d = 10 by unfold zeroE; rw [if_pos h]]
    exact zero_bad d h w
  · rw [show zeroV d = ⟨0, d, 0, 0, 0⟩ by unfold zeroV; rw [if_neg h], show zeroE d = 0 by unfold zeroE; rw [if_neg h]]
    exact zero_good d (by omega) (by omega) w
theorem zeroR_bad (d : Int) (h : d < 0 ∨ 3 < d) (w : World) : Calls Try.prog 7 #[.int .i64 d] w fun e w' => e = .returned (.tuple #[.agg #[.int .u32 0, .int .i64 0, .int .u32 0, .int .u32 0, .int .u32 0], .int .i64 10]) ∧ Below w.heap.size w w' := by
  by_cases h0 : d < 0
  · clear h
    go_enter Try.func7, Try.ntmps7
    go_wp2_with (fail)
    refine bodyPost_ret (v := .tuple #[.agg #[.int .u32 0, .int .i64 0, .int .u32 0, .int .u32 0, .int .u32 0], .int .i64 10]) (by simp [results, Try.results7, go_sem]) rfl ⟨rfl, ?_⟩
    exact fresh1 _ _
  · have h1 : 3 < d := by omega
    clear h
    go_enter Try.func7, Try.ntmps7
    go_wp2_with (fail)
    refine bodyPost_ret (v := .tuple #[.agg #[.int .u32 0, .int .i64 0, .int .u32 0, .int .u32 0, .int .u32 0], .int .i64 10]) (by simp [results, Try.results7, go_sem]) rfl ⟨rfl, ?_⟩
    exact fresh1 _ _
theorem zeroR_good (d : Int) (h0 : 0 ≤ d) (h1 : d ≤ 3) (w : World) : Calls Try.prog 7 #[.int .i64 d] w fun e w' => e = .returned (.tuple #[.agg #[.int .u32 0, .int .i64 d, .int .u32 0, .int .u32 0, .int .u32 0], .int .i64 0]) ∧ Below w.heap.size w w' := by
  go_enter Try.func7, Try.ntmps7
  go_wp2_with (fail)
  refine bodyPost_ret (v := .tuple #[.agg #[.int .u32 0, .int .i64 d, .int .u32 0, .int .u32 0, .int .u32 0], .int .i64 0]) (by simp [results, Try.results7, go_sem]) rfl ⟨rfl, ?_⟩
  exact fresh1 _ _
theorem zeroR_any (d : Int) (w : World) : Calls Try.prog 7 #[.int .i64 d] w fun e w' => e = .returned (.tuple #[.agg #[.int .u32 (zeroV d).e, .int .i64 (zeroV d).d, .int .u32 (zeroV d).a, .int .u32 (zeroV d).b, .int .u32 (zeroV d).c], .int .i64 (zeroE d)]) ∧ Below w.heap.size w w' := by
  by_cases h : d < 0 ∨ 3 < d
  · rw [show zeroV d = T0 by unfold zeroV; rw [if_pos h], show zeroE d = 10 by unfold zeroE; rw [if_pos h]]
    exact zeroR_bad d h w
  · rw [show zeroV d = ⟨0, d, 0, 0, 0⟩ by unfold zeroV; rw [if_neg h], show zeroE d = 0 by unfold zeroE; rw [if_neg h]]
    exact zeroR_good d (by omega) (by omega) w
end Go.Proofs.Ytehcnnjhgiiehaa.stamp
