/-
  The contracts of Join and Meet.
-/
import Derived.Test.YtmepiogoofmbbaaMv2
import Derived.Deep.RegionWith
namespace Go.Proofs.Ytmepiogoofmbbaa.stamp
open Go.ChangeShapes Go.WideShapes Go.ChangeAt Go.RowKit
open Go.Proofs.Ytmepiogoofmbbaa.tm Go.Proofs.Ytmepiogoofmbbaa.opened Go.Proofs.Ytmepiogoofmbbaa.block

theorem sz2 {w w1 : World} {o o' : Obj} (b1 : Below ((w.alloc o).alloc o').heap.size ((w.alloc o).alloc o') w1) : w.heap.size + 1 < w1.heap.size ∧ w.heap.size < w1.heap.size := by
  have := b1.size
  simp at this
  omega
theorem then2 {w w1 w2 : World} {o o' : Obj} (b1 : Below ((w.alloc o).alloc o').heap.size ((w.alloc o).alloc o') w1) (b2 : Below w1.heap.size w1 w2) : Below w.heap.size w w2 := then_below (over2 b1) b2
theorem both_first (s t : Tm) (i : s.In) (_j : t.In) (h : chk s ≠ 0) (w : World) : Calls Try.prog 125 #[.agg #[.int .u32 s.e, .int .i64 s.d, .int .u32 s.a, .int .u32 s.b, .int .u32 s.c], .agg #[.int .u32 t.e, .int .i64 t.d, .int .u32 t.a, .int .u32 t.b, .int .u32 t.c]] w fun e w' => e = .returned (.int .i64 (chk s)) ∧ Below w.heap.size w w' := by
  generalize hE : chk s = E at h
  have h' : (E != 0) = true := by simpa using h
  have h2 : (E == 0) = false := by simpa using h
  clear h
  have HS := Lib.hid hE
  clear hE
  go_enter Try.func125, Try.ntmps125
  go_wp2_with ((go_at_call 69; with_reducible refine (check_is _ i HS.out _).mono ?_; rintro e w1 ⟨rfl, b1⟩; obtain ⟨hc, hf⟩ := bcell b1; obtain ⟨hz, hz0⟩ := sz2 b1))
  go_ret
  exact ⟨rfl, over2 b1⟩
theorem both_second (s t : Tm) (i : s.In) (j : t.In) (k : chk s = 0) (h : chk t ≠ 0) (w : World) : Calls Try.prog 125 #[.agg #[.int .u32 s.e, .int .i64 s.d, .int .u32 s.a, .int .u32 s.b, .int .u32 s.c], .agg #[.int .u32 t.e, .int .i64 t.d, .int .u32 t.a, .int .u32 t.b, .int .u32 t.c]] w fun e w' => e = .returned (.int .i64 (chk t)) ∧ Below w.heap.size w w' := by
  have HS := Lib.hid k
  clear k
  generalize hE : chk t = E at h
  have h' : (E != 0) = true := by simpa using h
  have h2 : (E == 0) = false := by simpa using h
  clear h
  have HT := Lib.hid hE
  clear hE
  go_enter Try.func125, Try.ntmps125
  go_wp2_with (first | (go_at_call 69; with_reducible refine (check_is _ i HS.out _).mono ?_; rintro e w1 ⟨rfl, b1⟩; obtain ⟨hc, hf⟩ := bcell b1; obtain ⟨hz, hz0⟩ := sz2 b1) | (go_at_call 69; with_reducible refine (check_is _ j HT.out _).mono ?_; rintro e w2 ⟨rfl, b2⟩; obtain ⟨hc2, hf2⟩ := bcell b2))
  go_ret
  exact ⟨rfl, then2 b1 b2⟩
theorem both_third (s t : Tm) (i : s.In) (j : t.In) (k : chk s = 0) (h : chk t = 0) (hd : s.d ≠ t.d) (w : World) : Calls Try.prog 125 #[.agg #[.int .u32 s.e, .int .i64 s.d, .int .u32 s.a, .int .u32 s.b, .int .u32 s.c], .agg #[.int .u32 t.e, .int .i64 t.d, .int .u32 t.a, .int .u32 t.b, .int .u32 t.c]] w fun e w' => e = .returned (.int .i64 10) ∧ Below w.heap.size w w' := by
  have HS := Lib.hid k
  have HT := Lib.hid h
  have hd' : (s.d != t.d) = true := by simpa using hd
  clear k h hd
  go_enter Try.func125, Try.ntmps125
  go_wp2_with (first | (go_at_call 69; with_reducible refine (check_is _ i HS.out _).mono ?_; rintro e w1 ⟨rfl, b1⟩; obtain ⟨hc, hf⟩ := bcell b1; obtain ⟨hz, hz0⟩ := sz2 b1) | (go_at_call 69; with_reducible refine (check_is _ j HT.out _).mono ?_; rintro e w2 ⟨rfl, b2⟩; obtain ⟨hc2, hf2⟩ := bcell b2))
  go_ret
  exact ⟨rfl, then2 b1 b2⟩
theorem both_none (s t : Tm) (i : s.In) (j : t.In) (k : chk s = 0) (h : chk t = 0) (hd : s.d = t.d) (w : World) : Calls Try.prog 125 #[.agg #[.int .u32 s.e, .int .i64 s.d, .int .u32 s.a, .int .u32 s.b, .int .u32 s.c], .agg #[.int .u32 t.e, .int .i64 t.d, .int .u32 t.a, .int .u32 t.b, .int .u32 t.c]] w fun e w' => e = .returned (.int .i64 0) ∧ Below w.heap.size w w' := by
  have HS := Lib.hid k
  have HT := Lib.hid h
  have hd' : (s.d != t.d) = false := by simpa using hd
  clear k h hd
  go_enter Try.func125, Try.ntmps125
  go_wp2_with (first | (go_at_call 69; with_reducible refine (check_is _ i HS.out _).mono ?_; rintro e w1 ⟨rfl, b1⟩; obtain ⟨hc, hf⟩ := bcell b1; obtain ⟨hz, hz0⟩ := sz2 b1) | (go_at_call 69; with_reducible refine (check_is _ j HT.out _).mono ?_; rintro e w2 ⟨rfl, b2⟩; obtain ⟨hc2, hf2⟩ := bcell b2))
  go_ret
  exact ⟨rfl, then2 b1 b2⟩
theorem both_any (s t : Tm) (i : s.In) (j : t.In) (w : World) : Calls Try.prog 125 #[.agg #[.int .u32 s.e, .int .i64 s.d, .int .u32 s.a, .int .u32 s.b, .int .u32 s.c], .agg #[.int .u32 t.e, .int .i64 t.d, .int .u32 t.a, .int .u32 t.b, .int .u32 t.c]] w fun e w' => e = .returned (.int .i64 (both s t)) ∧ Below w.heap.size w w' := by
  by_cases h : chk s = 0
  · by_cases k : chk t = 0
    · by_cases hd : s.d = t.d
      · rw [show both s t = 0 by simp [both, h, k, hd]]
        exact both_none s t i j h k hd w
      · rw [show both s t = 10 by simp [both, h, k, hd]]
        exact both_third s t i j h k hd w
    · rw [show both s t = chk t by simp [both, h, k]]
      exact both_second s t i j h k w
  · rw [show both s t = chk s by simp [both, h]]
    exact both_first s t i j h w
theorem both_is (s t : Tm) (i : s.In) (j : t.In) {E : Int} (h : both s t = E) (w : World) : Calls Try.prog 125 #[.agg #[.int .u32 s.e, .int .i64 s.d, .int .u32 s.a, .int .u32 s.b, .int .u32 s.c], .agg #[.int .u32 t.e, .int .i64 t.d, .int .u32 t.a, .int .u32 t.b, .int .u32 t.c]] w fun e w' => e = .returned (.int .i64 E) ∧ Below w.heap.size w w' := by
  have k := both_any s t i j w
  rw [h] at k
  exact k
theorem bothR_first (s t : Tm) (i : s.In) (_j : t.In) (h : chk s ≠ 0) (w : World) : Calls Try.prog 108 #[.agg #[.int .u32 s.e, .int .i64 s.d, .int .u32 s.a, .int .u32 s.b, .int .u32 s.c], .agg #[.int .u32 t.e, .int .i64 t.d, .int .u32 t.a, .int .u32 t.b, .int .u32 t.c]] w fun e w' => e = .returned (.int .i64 (chk s)) ∧ Below w.heap.size w w' := by
  generalize hE : chk s = E at h
  have h' : (E != 0) = true := by simpa using h
  have h2 : (E == 0) = false := by simpa using h
  clear h
  have HS := Lib.hid hE
  clear hE
  go_enter Try.func108, Try.ntmps108
  go_wp2_with ((go_at_call 71; with_reducible refine (checkR_is _ i HS.out _).mono ?_; rintro e w1 ⟨rfl, b1⟩; obtain ⟨hc, hf⟩ := bcell b1; obtain ⟨hz, hz0⟩ := sz2 b1))
  go_ret
  exact ⟨rfl, over2 b1⟩
theorem bothR_second (s t : Tm) (i : s.In) (j : t.In) (k : chk s = 0) (h : chk t ≠ 0) (w : World) : Calls Try.prog 108 #[.agg #[.int .u32 s.e, .int .i64 s.d, .int .u32 s.a, .int .u32 s.b, .int .u32 s.c], .agg #[.int .u32 t.e, .int .i64 t.d, .int .u32 t.a, .int .u32 t.b, .int .u32 t.c]] w fun e w' => e = .returned (.int .i64 (chk t)) ∧ Below w.heap.size w w' := by
  have HS := Lib.hid k
  clear k
  generalize hE : chk t = E at h
  have h' : (E != 0) = true := by simpa using h
  have h2 : (E == 0) = false := by simpa using h
  clear h
  have HT := Lib.hid hE
  clear hE
  go_enter Try.func108, Try.ntmps108
  go_wp2_with (first | (go_at_call 71; with_reducible refine (checkR_is _ i HS.out _).mono ?_; rintro e w1 ⟨rfl, b1⟩; obtain ⟨hc, hf⟩ := bcell b1; obtain ⟨hz, hz0⟩ := sz2 b1) | (go_at_call 71; with_reducible refine (checkR_is _ j HT.out _).mono ?_; rintro e w2 ⟨rfl, b2⟩; obtain ⟨hc2, hf2⟩ := bcell b2))
  go_ret
  exact ⟨rfl, then2 b1 b2⟩
theorem bothR_third (s t : Tm) (i : s.In) (j : t.In) (k : chk s = 0) (h : chk t = 0) (hd : s.d ≠ t.d) (w : World) : Calls Try.prog 108 #[.agg #[.int .u32 s.e, .int .i64 s.d, .int .u32 s.a, .int .u32 s.b, .int .u32 s.c], .agg #[.int .u32 t.e, .int .i64 t.d, .int .u32 t.a, .int .u32 t.b, .int .u32 t.c]] w fun e w' => e = .returned (.int .i64 10) ∧ Below w.heap.size w w' := by
  have HS := Lib.hid k
  have HT := Lib.hid h
  have hd' : (s.d != t.d) = true := by simpa using hd
  clear k h hd
  go_enter Try.func108, Try.ntmps108
  go_wp2_with (first | (go_at_call 71; with_reducible refine (checkR_is _ i HS.out _).mono ?_; rintro e w1 ⟨rfl, b1⟩; obtain ⟨hc, hf⟩ := bcell b1; obtain ⟨hz, hz0⟩ := sz2 b1) | (go_at_call 71; with_reducible refine (checkR_is _ j HT.out _).mono ?_; rintro e w2 ⟨rfl, b2⟩; obtain ⟨hc2, hf2⟩ := bcell b2))
  go_ret
  exact ⟨rfl, then2 b1 b2⟩
theorem bothR_none (s t : Tm) (i : s.In) (j : t.In) (k : chk s = 0) (h : chk t = 0) (hd : s.d = t.d) (w : World) : Calls Try.prog 108 #[.agg #[.int .u32 s.e, .int .i64 s.d, .int .u32 s.a, .int .u32 s.b, .int .u32 s.c], .agg #[.int .u32 t.e, .int .i64 t.d, .int .u32 t.a, .int .u32 t.b, .int .u32 t.c]] w fun e w' => e = .returned (.int .i64 0) ∧ Below w.heap.size w w' := by
  have HS := Lib.hid k
  have HT := Lib.hid h
  have hd' : (s.d != t.d) = false := by simpa using hd
  clear k h hd
  go_enter Try.func108, Try.ntmps108
  go_wp2_with (first | (go_at_call 71; with_reducible refine (checkR_is _ i HS.out _).mono ?_; rintro e w1 ⟨rfl, b1⟩; obtain ⟨hc, hf⟩ := bcell b1; obtain ⟨hz, hz0⟩ := sz2 b1) | (go_at_call 71; with_reducible refine (checkR_is _ j HT.out _).mono ?_; rintro e w2 ⟨rfl, b2⟩; obtain ⟨hc2, hf2⟩ := bcell b2))
  go_ret
  exact ⟨rfl, then2 b1 b2⟩
theorem bothR_any (s t : Tm) (i : s.In) (j : t.In) (w : World) : Calls Try.prog 108 #[.agg #[.int .u32 s.e, .int .i64 s.d, .int .u32 s.a, .int .u32 s.b, .int .u32 s.c], .agg #[.int .u32 t.e, .int .i64 t.d, .int .u32 t.a, .int .u32 t.b, .int .u32 t.c]] w fun e w' => e = .returned (.int .i64 (both s t)) ∧ Below w.heap.size w w' := by
  by_cases h : chk s = 0
  · by_cases k : chk t = 0
    · by_cases hd : s.d = t.d
      · rw [show both s t = 0 by simp [both, h, k, hd]]
        exact bothR_none s t i j h k hd w
      · rw [show both s t = 10 by simp [both, h, k, hd]]
        exact bothR_third s t i j h k hd w
    · rw [show both s t = chk t by simp [both, h, k]]
      exact bothR_second s t i j h k w
  · rw [show both s t = chk s by simp [both, h]]
    exact bothR_first s t i j h w
theorem bothR_is (s t : Tm) (i : s.In) (j : t.In) {E : Int} (h : both s t = E) (w : World) : Calls Try.prog 108 #[.agg #[.int .u32 s.e, .int .i64 s.d, .int .u32 s.a, .int .u32 s.b, .int .u32 s.c], .agg #[.int .u32 t.e, .int .i64 t.d, .int .u32 t.a, .int .u32 t.b, .int .u32 t.c]] w fun e w' => e = .returned (.int .i64 E) ∧ Below w.heap.size w w' := by
  have k := bothR_any s t i j w
  rw [h] at k
  exact k
end Go.Proofs.Ytmepiogoofmbbaa.stamp
