/-
  The contracts of Next, Later and Zero.
-/
import Derived.Test.YtilkdpobkcocoaaDoorMv2
namespace Go.Proofs.YtilkdpobkcocoaaDoor.stamp
open Go.ChangeShapes Go.WideShapes Go.ChangeAt Go.RowKit
open Go.Proofs.YtilkdpobkcocoaaDoor.tm Go.Proofs.YtilkdpobkcocoaaDoor.opened Go.Proofs.YtilkdpobkcocoaaDoor.block

theorem next_over (t : Tm) (i : t.In) (h : inn t = 0) (hl : lastT t = 1048576) (w : World) : Calls Tryd.prog 17 #[.agg #[.int .u32 t.e, .int .i64 t.d, .int .u32 t.a, .int .u32 t.b, .int .u32 t.c]] w fun e w' => e = .returned (.tuple #[.agg #[.int .u32 T0.e, .int .i64 T0.d, .int .u32 T0.a, .int .u32 T0.b, .int .u32 T0.c], .int .i64 9]) ∧ Below w.heap.size w w' := by
  obtain ⟨hk, hz⟩ := inn_zero h
  obtain ⟨z0, z1, -⟩ := chk_zero hk
  have hd : t.d = 1 ∨ t.d = 2 ∨ t.d = 3 := by omega
  have HE := Lib.hid h
  have HK := Lib.hid hk
  clear h hk hz
  obtain ⟨e, d, a, b, c⟩ := t
  dsimp only at *
  rcases hd with rfl | rfl | rfl
  · obtain rfl : a = 1048576 := by simpa [lastT] using hl
    clear hl
    go_enter Tryd.func17, Tryd.ntmps17
    go_wp2_with (first | (go_at_call 48; refine (inner_is _ i HE.out _).mono ?_; rintro e w1 ⟨rfl, b1⟩; obtain ⟨hc, hf⟩ := bcell b1) | (go_at_call 49; refine (add_over 1048576 1 (by omega) (by omega) (by omega) (by omega) (by omega) _).mono ?_; rintro e w2 ⟨rfl, rfl⟩))
    refine bodyPost_ret (v := .tuple #[.agg #[.int .u32 T0.e, .int .i64 T0.d, .int .u32 T0.a, .int .u32 T0.b, .int .u32 T0.c], .int .i64 9]) (by simp [results, Tryd.results17, go_sem, hc, T0]) rfl ⟨rfl, ?_⟩
    repeat (with_reducible refine Below.setCell ?_ (by simp) _)
    exact over2 b1
  · obtain rfl : b = 1048576 := by simpa [lastT] using hl
    clear hl
    go_enter Tryd.func17, Tryd.ntmps17
    go_wp2_with (first | (go_at_call 48; refine (inner_is _ i HE.out _).mono ?_; rintro e w1 ⟨rfl, b1⟩; obtain ⟨hc, hf⟩ := bcell b1) | (go_at_call 49; refine (add_over 1048576 1 (by omega) (by omega) (by omega) (by omega) (by omega) _).mono ?_; rintro e w2 ⟨rfl, rfl⟩))
    refine bodyPost_ret (v := .tuple #[.agg #[.int .u32 T0.e, .int .i64 T0.d, .int .u32 T0.a, .int .u32 T0.b, .int .u32 T0.c], .int .i64 9]) (by simp [results, Tryd.results17, go_sem, hc, T0]) rfl ⟨rfl, ?_⟩
    repeat (with_reducible refine Below.setCell ?_ (by simp) _)
    exact over2 b1
  · obtain rfl : c = 1048576 := by simpa [lastT] using hl
    clear hl
    go_enter Tryd.func17, Tryd.ntmps17
    go_wp2_with (first | (go_at_call 48; refine (inner_is _ i HE.out _).mono ?_; rintro e w1 ⟨rfl, b1⟩; obtain ⟨hc, hf⟩ := bcell b1) | (go_at_call 49; refine (add_over 1048576 1 (by omega) (by omega) (by omega) (by omega) (by omega) _).mono ?_; rintro e w2 ⟨rfl, rfl⟩))
    refine bodyPost_ret (v := .tuple #[.agg #[.int .u32 T0.e, .int .i64 T0.d, .int .u32 T0.a, .int .u32 T0.b, .int .u32 T0.c], .int .i64 9]) (by simp [results, Tryd.results17, go_sem, hc, T0]) rfl ⟨rfl, ?_⟩
    repeat (with_reducible refine Below.setCell ?_ (by simp) _)
    exact over2 b1
theorem next_good (t : Tm) (i : t.In) (h : inn t = 0) (hl : lastT t ≠ 1048576) (w : World) : Calls Tryd.prog 17 #[.agg #[.int .u32 t.e, .int .i64 t.d, .int .u32 t.a, .int .u32 t.b, .int .u32 t.c]] w fun e w' => e = .returned (.tuple #[.agg #[.int .u32 (bumpT t).e, .int .i64 (bumpT t).d, .int .u32 (bumpT t).a, .int .u32 (bumpT t).b, .int .u32 (bumpT t).c], .int .i64 0]) ∧ Below w.heap.size w w' := by
  obtain ⟨hk, hz⟩ := inn_zero h
  obtain ⟨z0, z1, z2, z3, z4, z5, -⟩ := chk_zero hk
  have hd : t.d = 1 ∨ t.d = 2 ∨ t.d = 3 := by omega
  have HE := Lib.hid h
  have HK := Lib.hid hk
  have i' := i
  obtain ⟨-, -, -, -, p0, p1, q0, q1, r0, r1⟩ := i
  have i : t.In := i'
  clear h hk hz
  obtain ⟨e, d, a, b, c⟩ := t
  dsimp only at *
  rcases hd with rfl | rfl | rfl
  · have hq : a ≠ 1048576 := by simpa [lastT] using hl
    have hlt : a < 1048576 := by omega
    have hne : (a == 1048576) = false := by simpa using hq
    clear hl hq
    go_enter Tryd.func17, Tryd.ntmps17
    go_wp2_with (first | (go_at_call 48; refine (inner_is _ i HE.out _).mono ?_; rintro e w1 ⟨rfl, b1⟩; obtain ⟨hc, hf⟩ := bcell b1; have hb := fst2 b1 rfl; have hx := put_other hb 2; have hy := put_same hb 2 (by simp); clear hb) | (go_at_call 49; refine (add_sum a 1 (by omega) (by omega) (by omega) (by omega) (by omega) _).mono ?_; rintro e w2 ⟨rfl, rfl⟩))
    refine bodyPost_ret (v := .tuple #[.agg #[.int .u32 (bumpT ⟨e, 1, a, b, c⟩).e, .int .i64 (bumpT ⟨e, 1, a, b, c⟩).d, .int .u32 (bumpT ⟨e, 1, a, b, c⟩).a, .int .u32 (bumpT ⟨e, 1, a, b, c⟩).b, .int .u32 (bumpT ⟨e, 1, a, b, c⟩).c], .int .i64 0]) (by simp [results, Tryd.results17, go_sem, hc, bumpT]) rfl ⟨rfl, ?_⟩
    repeat (with_reducible refine Below.setCell ?_ (by simp) _)
    exact over2 b1
  · have hq : b ≠ 1048576 := by simpa [lastT] using hl
    have hlt : b < 1048576 := by omega
    have hne : (b == 1048576) = false := by simpa using hq
    clear hl hq
    go_enter Tryd.func17, Tryd.ntmps17
    go_wp2_with (first | (go_at_call 48; refine (inner_is _ i HE.out _).mono ?_; rintro e w1 ⟨rfl, b1⟩; obtain ⟨hc, hf⟩ := bcell b1; have hb := fst2 b1 rfl; have hx := put_other hb 3; have hy := put_same hb 3 (by simp); clear hb) | (go_at_call 49; refine (add_sum b 1 (by omega) (by omega) (by omega) (by omega) (by omega) _).mono ?_; rintro e w2 ⟨rfl, rfl⟩))
    refine bodyPost_ret (v := .tuple #[.agg #[.int .u32 (bumpT ⟨e, 2, a, b, c⟩).e, .int .i64 (bumpT ⟨e, 2, a, b, c⟩).d, .int .u32 (bumpT ⟨e, 2, a, b, c⟩).a, .int .u32 (bumpT ⟨e, 2, a, b, c⟩).b, .int .u32 (bumpT ⟨e, 2, a, b, c⟩).c], .int .i64 0]) (by simp [results, Tryd.results17, go_sem, hc, bumpT]) rfl ⟨rfl, ?_⟩
    repeat (with_reducible refine Below.setCell ?_ (by simp) _)
    exact over2 b1
  · have hq : c ≠ 1048576 := by simpa [lastT] using hl
    have hlt : c < 1048576 := by omega
    have hne : (c == 1048576) = false := by simpa using hq
    clear hl hq
    go_enter Tryd.func17, Tryd.ntmps17
    go_wp2_with (first | (go_at_call 48; refine (inner_is _ i HE.out _).mono ?_; rintro e w1 ⟨rfl, b1⟩; obtain ⟨hc, hf⟩ := bcell b1; have hb := fst2 b1 rfl; have hx := put_other hb 4; have hy := put_same hb 4 (by simp); clear hb) | (go_at_call 49; refine (add_sum c 1 (by omega) (by omega) (by omega) (by omega) (by omega) _).mono ?_; rintro e w2 ⟨rfl, rfl⟩))
    refine bodyPost_ret (v := .tuple #[.agg #[.int .u32 (bumpT ⟨e, 3, a, b, c⟩).e, .int .i64 (bumpT ⟨e, 3, a, b, c⟩).d, .int .u32 (bumpT ⟨e, 3, a, b, c⟩).a, .int .u32 (bumpT ⟨e, 3, a, b, c⟩).b, .int .u32 (bumpT ⟨e, 3, a, b, c⟩).c], .int .i64 0]) (by simp [results, Tryd.results17, go_sem, hc, bumpT]) rfl ⟨rfl, ?_⟩
    repeat (with_reducible refine Below.setCell ?_ (by simp) _)
    exact over2 b1
theorem next_any (t : Tm) (i : t.In) (w : World) : Calls Tryd.prog 17 #[.agg #[.int .u32 t.e, .int .i64 t.d, .int .u32 t.a, .int .u32 t.b, .int .u32 t.c]] w fun e w' => e = .returned (.tuple #[.agg #[.int .u32 (nextV t).e, .int .i64 (nextV t).d, .int .u32 (nextV t).a, .int .u32 (nextV t).b, .int .u32 (nextV t).c], .int .i64 (nextE t)]) ∧ Below w.heap.size w w' := by
  by_cases h : inn t = 0
  · by_cases k : lastT t = 1048576
    · rw [show nextV t = T0 by simp [nextV, k], show nextE t = 9 by simp [nextE, h, k]]
      exact next_over t i h k w
    · rw [show nextV t = bumpT t by simp [nextV, h, k], show nextE t = 0 by simp [nextE, h, k]]
      exact next_good t i h k w
  · rw [show nextV t = T0 by simp [nextV, h], show nextE t = inn t by simp [nextE, h]]
    exact next_bad t i h w
theorem later_range (t : Tm) (n : Int) (i : t.In) (h : chk t = 0) (n0 : 0 ≤ n) (_n1 : n ≤ 4294967295) (hn : 1048576 < n) (w : World) : Calls Tryd.prog 19 #[.agg #[.int .u32 t.e, .int .i64 t.d, .int .u32 t.a, .int .u32 t.b, .int .u32 t.c], .int .u32 n] w fun e w' => e = .returned (.tuple #[.agg #[.int .u32 T0.e, .int .i64 T0.d, .int .u32 T0.a, .int .u32 T0.b, .int .u32 T0.c], .int .i64 1]) ∧ Below w.heap.size w w' := by
  obtain ⟨z0, z1, z2, -⟩ := chk_zero h
  have e0 := i.e0
  have HE := Lib.hid h
  clear h
  go_enter Tryd.func19, Tryd.ntmps19
  go_wp2_with (first | (go_at_call 39; refine (check_is _ i HE.out _).mono ?_; rintro e w1 ⟨rfl, b1⟩; obtain ⟨hc, hf⟩ := bcell b1) | (go_at_call 49; refine (add_range t.e n (by omega) (by omega) (by omega) (by omega) _).mono ?_; rintro e w2 ⟨rfl, rfl⟩))
  refine bodyPost_ret (v := .tuple #[.agg #[.int .u32 T0.e, .int .i64 T0.d, .int .u32 T0.a, .int .u32 T0.b, .int .u32 T0.c], .int .i64 1]) (by simp [results, Tryd.results19, go_sem, hc, T0]) rfl ⟨rfl, ?_⟩
  repeat (with_reducible refine Below.setCell ?_ (by simp) _)
  exact over2 b1
theorem later_over (t : Tm) (n : Int) (i : t.In) (h : chk t = 0) (n0 : 0 ≤ n) (_n1 : n ≤ 4294967295) (hn : n ≤ 1048576) (hs : 1048576 < t.e + n) (w : World) : Calls Tryd.prog 19 #[.agg #[.int .u32 t.e, .int .i64 t.d, .int .u32 t.a, .int .u32 t.b, .int .u32 t.c], .int .u32 n] w fun e w' => e = .returned (.tuple #[.agg #[.int .u32 T0.e, .int .i64 T0.d, .int .u32 T0.a, .int .u32 T0.b, .int .u32 T0.c], .int .i64 9]) ∧ Below w.heap.size w w' := by
  obtain ⟨z0, z1, z2, -⟩ := chk_zero h
  have e0 := i.e0
  have HE := Lib.hid h
  clear h
  go_enter Tryd.func19, Tryd.ntmps19
  go_wp2_with (first | (go_at_call 39; refine (check_is _ i HE.out _).mono ?_; rintro e w1 ⟨rfl, b1⟩; obtain ⟨hc, hf⟩ := bcell b1) | (go_at_call 49; refine (add_over t.e n (by omega) (by omega) (by omega) (by omega) (by omega) _).mono ?_; rintro e w2 ⟨rfl, rfl⟩))
  refine bodyPost_ret (v := .tuple #[.agg #[.int .u32 T0.e, .int .i64 T0.d, .int .u32 T0.a, .int .u32 T0.b, .int .u32 T0.c], .int .i64 9]) (by simp [results, Tryd.results19, go_sem, hc, T0]) rfl ⟨rfl, ?_⟩
  repeat (with_reducible refine Below.setCell ?_ (by simp) _)
  exact over2 b1
theorem later_good (t : Tm) (n : Int) (i : t.In) (h : chk t = 0) (n0 : 0 ≤ n) (_n1 : n ≤ 4294967295) (hn : n ≤ 1048576) (hs : t.e + n ≤ 1048576) (w : World) : Calls Tryd.prog 19 #[.agg #[.int .u32 t.e, .int .i64 t.d, .int .u32 t.a, .int .u32 t.b, .int .u32 t.c], .int .u32 n] w fun e w' => e = .returned (.tuple #[.agg #[.int .u32 (t.e + n), .int .i64 t.d, .int .u32 t.a, .int .u32 t.b, .int .u32 t.c], .int .i64 0]) ∧ Below w.heap.size w w' := by
  obtain ⟨z0, z1, z2, -⟩ := chk_zero h
  have e0 := i.e0
  have HE := Lib.hid h
  clear h
  go_enter Tryd.func19, Tryd.ntmps19
  go_wp2_with (first | (go_at_call 39; refine (check_is _ i HE.out _).mono ?_; rintro e w1 ⟨rfl, b1⟩; obtain ⟨hc, hf⟩ := bcell b1; have hb := fst2 b1 rfl; have hx := put_other hb 0; have hy := put_same hb 0 (by simp); clear hb) | (go_at_call 49; refine (add_sum t.e n (by omega) (by omega) (by omega) (by omega) (by omega) _).mono ?_; rintro e w2 ⟨rfl, rfl⟩))
  refine bodyPost_ret (v := .tuple #[.agg #[.int .u32 (t.e + n), .int .i64 t.d, .int .u32 t.a, .int .u32 t.b, .int .u32 t.c], .int .i64 0]) (by simp [results, Tryd.results19, go_sem, hc]) rfl ⟨rfl, ?_⟩
  repeat (with_reducible refine Below.setCell ?_ (by simp) _)
  exact over2 b1
theorem later_any (t : Tm) (n : Int) (i : t.In) (n0 : 0 ≤ n) (n1 : n ≤ 4294967295) (w : World) : Calls Tryd.prog 19 #[.agg #[.int .u32 t.e, .int .i64 t.d, .int .u32 t.a, .int .u32 t.b, .int .u32 t.c], .int .u32 n] w fun e w' => e = .returned (.tuple #[.agg #[.int .u32 (laterV t n).e, .int .i64 (laterV t n).d, .int .u32 (laterV t n).a, .int .u32 (laterV t n).b, .int .u32 (laterV t n).c], .int .i64 (laterE t n)]) ∧ Below w.heap.size w w' := by
  by_cases h : chk t = 0
  · by_cases hn : 1048576 < n
    · rw [show laterV t n = T0 by simp [laterV, hn], show laterE t n = 1 by simp [laterE, h, hn]]
      exact later_range t n i h n0 n1 hn w
    · by_cases hs : 1048576 < t.e + n
      · rw [show laterV t n = T0 by simp [laterV, hs], show laterE t n = 9 by simp [laterE, h, hn, hs]]
        exact later_over t n i h n0 n1 (by omega) hs w
      · rw [show laterV t n = ⟨t.e + n, t.d, t.a, t.b, t.c⟩ by simp [laterV, h, hn, hs], show laterE t n = 0 by simp [laterE, h, hn, hs]]
        exact later_good t n i h n0 n1 (by omega) (by omega) w
  · rw [show laterV t n = T0 by simp [laterV, h], show laterE t n = chk t by simp [laterE, h]]
    exact later_bad t n i h w
end Go.Proofs.YtilkdpobkcocoaaDoor.stamp
