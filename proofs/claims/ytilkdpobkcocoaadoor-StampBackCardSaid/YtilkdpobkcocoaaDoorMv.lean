/-
  The contracts of what makes one time of another.
-/
import Derived.Test.YtilkdpobkcocoaaDoorChk
namespace Go.Proofs.YtilkdpobkcocoaaDoor.stamp
open Go.ChangeShapes Go.WideShapes Go.ChangeAt Go.RowKit
open Go.Proofs.YtilkdpobkcocoaaDoor.tm Go.Proofs.YtilkdpobkcocoaaDoor.opened Go.Proofs.YtilkdpobkcocoaaDoor.block

theorem fresh2 (w : World) (o o' : Obj) : Below w.heap.size w ((w.alloc o).alloc o') := ((Below.refl _ _).alloc (Nat.le_refl _) _).alloc (by simp) _
theorem over2 {w w1 : World} {o o' : Obj} (b1 : Below ((w.alloc o).alloc o').heap.size ((w.alloc o).alloc o') w1) : Below w.heap.size w w1 := (fresh2 _ _ _).trans (b1.mono (by simp; omega))
theorem over1 {w w1 : World} {o : Obj} (b1 : Below (w.alloc o).heap.size (w.alloc o) w1) : Below w.heap.size w w1 := (fresh1 _ _).trans (b1.mono (by simp))
theorem bcell {W w1 : World} (hb : Below W.heap.size W w1) : (∀ b o, b < W.heap.size → w1.cell? ⟨b, o, none⟩ = W.cell? ⟨b, o, none⟩) ∧ (∀ b o, b < W.heap.size → w1.frozen? ⟨b, o, none⟩ = W.frozen? ⟨b, o, none⟩) :=
  ⟨fun b o h => hb.cell (p := ⟨b, o, none⟩) h, fun b o h => hb.frozen (p := ⟨b, o, none⟩) h⟩
theorem tup {a b : Tm} {x y : Int} (h : a = b) (k : x = y) : Ending.returned (.tuple #[.agg #[.int .u32 a.e, .int .i64 a.d, .int .u32 a.a, .int .u32 a.b, .int .u32 a.c], .int .i64 x]) = .returned (.tuple #[.agg #[.int .u32 b.e, .int .i64 b.d, .int .u32 b.a, .int .u32 b.b, .int .u32 b.c], .int .i64 y]) := by rw [h, k]
theorem check_is (t : Tm) (i : t.In) {E : Int} (h : chk t = E) (w : World) : Calls Tryd.prog 39 #[.agg #[.int .u32 t.e, .int .i64 t.d, .int .u32 t.a, .int .u32 t.b, .int .u32 t.c]] w fun e w' => e = .returned (.int .i64 E) ∧ Below w.heap.size w w' := by
  have k := check_any t i w
  rw [h] at k
  exact k
theorem checkR_is (t : Tm) (i : t.In) {E : Int} (h : chk t = E) (w : World) : Calls Tryd.prog 14 #[.agg #[.int .u32 t.e, .int .i64 t.d, .int .u32 t.a, .int .u32 t.b, .int .u32 t.c]] w fun e w' => e = .returned (.int .i64 E) ∧ Below w.heap.size w w' := by
  have k := checkR_any t i w
  rw [h] at k
  exact k
theorem inner_bad (t : Tm) (i : t.In) (h : chk t ≠ 0) (w : World) : Calls Tryd.prog 48 #[.agg #[.int .u32 t.e, .int .i64 t.d, .int .u32 t.a, .int .u32 t.b, .int .u32 t.c]] w fun e w' => e = .returned (.int .i64 (chk t)) ∧ Below w.heap.size w w' := by
  generalize hE : chk t = E at h
  have h' : (E != 0) = true := by simpa using h
  clear h
  have HE := Lib.hid hE
  clear hE
  go_enter Tryd.func48, Tryd.ntmps48
  go_wp2_with (go_at_call 39; refine (check_is _ i HE.out _).mono ?_; rintro e w1 ⟨rfl, b1⟩; obtain ⟨hc, hf⟩ := bcell b1)
  go_ret
  exact ⟨rfl, over1 b1⟩
theorem inner_good (t : Tm) (i : t.In) (h : chk t = 0) (w : World) : Calls Tryd.prog 48 #[.agg #[.int .u32 t.e, .int .i64 t.d, .int .u32 t.a, .int .u32 t.b, .int .u32 t.c]] w fun e w' => e = .returned (.int .i64 (inn t)) ∧ Below w.heap.size w w' := by
  have HE := Lib.hid h
  clear h
  by_cases hd : t.d = 0
  · have hd' : (t.d == 0) = true := by simpa using hd
    have hi : inn t = 10 := by simp [inn, HE.out, hd]
    rw [hi]
    clear hd hi
    go_enter Tryd.func48, Tryd.ntmps48
    go_wp2_with (go_at_call 39; refine (check_is _ i HE.out _).mono ?_; rintro e w1 ⟨rfl, b1⟩; obtain ⟨hc, hf⟩ := bcell b1)
    go_ret
    exact ⟨rfl, over1 b1⟩
  · have hd' : (t.d == 0) = false := by simpa using hd
    have hi : inn t = 0 := by simp [inn, HE.out, hd]
    rw [hi]
    clear hd hi
    go_enter Tryd.func48, Tryd.ntmps48
    go_wp2_with (go_at_call 39; refine (check_is _ i HE.out _).mono ?_; rintro e w1 ⟨rfl, b1⟩; obtain ⟨hc, hf⟩ := bcell b1)
    go_ret
    exact ⟨rfl, over1 b1⟩
theorem inner_any (t : Tm) (i : t.In) (w : World) : Calls Tryd.prog 48 #[.agg #[.int .u32 t.e, .int .i64 t.d, .int .u32 t.a, .int .u32 t.b, .int .u32 t.c]] w fun e w' => e = .returned (.int .i64 (inn t)) ∧ Below w.heap.size w w' := by
  by_cases h : chk t = 0
  · exact inner_good t i h w
  · have k := inner_bad t i h w
    rwa [show inn t = chk t by simp [inn, h]]
theorem inner_is (t : Tm) (i : t.In) {E : Int} (h : inn t = E) (w : World) : Calls Tryd.prog 48 #[.agg #[.int .u32 t.e, .int .i64 t.d, .int .u32 t.a, .int .u32 t.b, .int .u32 t.c]] w fun e w' => e = .returned (.int .i64 E) ∧ Below w.heap.size w w' := by
  have k := inner_any t i w
  rw [h] at k
  exact k
theorem enter_bad (t : Tm) (i : t.In) (h : chk t ≠ 0) (w : World) : Calls Tryd.prog 15 #[.agg #[.int .u32 t.e, .int .i64 t.d, .int .u32 t.a, .int .u32 t.b, .int .u32 t.c]] w fun e w' => e = .returned (.tuple #[.agg #[.int .u32 T0.e, .int .i64 T0.d, .int .u32 T0.a, .int .u32 T0.b, .int .u32 T0.c], .int .i64 (chk t)]) ∧ Below w.heap.size w w' := by
  generalize hE : chk t = E at h
  have h' : (E != 0) = true := by simpa using h
  clear h
  have HE := Lib.hid hE
  clear hE
  go_enter Tryd.func15, Tryd.ntmps15
  go_wp2_with (go_at_call 39; refine (check_is _ i HE.out _).mono ?_; rintro e w1 ⟨rfl, b1⟩; obtain ⟨hc, hf⟩ := bcell b1)
  refine bodyPost_ret (v := .tuple #[.agg #[.int .u32 T0.e, .int .i64 T0.d, .int .u32 T0.a, .int .u32 T0.b, .int .u32 T0.c], .int .i64 E]) (by simp [results, Tryd.results15, go_sem, hc, T0]) rfl ⟨rfl, ?_⟩
  repeat (with_reducible refine Below.setCell ?_ (by simp) _)
  exact over2 b1
theorem leave_bad (t : Tm) (i : t.In) (h : inn t ≠ 0) (w : World) : Calls Tryd.prog 16 #[.agg #[.int .u32 t.e, .int .i64 t.d, .int .u32 t.a, .int .u32 t.b, .int .u32 t.c]] w fun e w' => e = .returned (.tuple #[.agg #[.int .u32 T0.e, .int .i64 T0.d, .int .u32 T0.a, .int .u32 T0.b, .int .u32 T0.c], .int .i64 (inn t)]) ∧ Below w.heap.size w w' := by
  generalize hE : inn t = E at h
  have h' : (E != 0) = true := by simpa using h
  clear h
  have HE := Lib.hid hE
  clear hE
  go_enter Tryd.func16, Tryd.ntmps16
  go_wp2_with (go_at_call 48; refine (inner_is _ i HE.out _).mono ?_; rintro e w1 ⟨rfl, b1⟩; obtain ⟨hc, hf⟩ := bcell b1)
  refine bodyPost_ret (v := .tuple #[.agg #[.int .u32 T0.e, .int .i64 T0.d, .int .u32 T0.a, .int .u32 T0.b, .int .u32 T0.c], .int .i64 E]) (by simp [results, Tryd.results16, go_sem, hc, T0]) rfl ⟨rfl, ?_⟩
  repeat (with_reducible refine Below.setCell ?_ (by simp) _)
  exact over2 b1
theorem next_bad (t : Tm) (i : t.In) (h : inn t ≠ 0) (w : World) : Calls Tryd.prog 17 #[.agg #[.int .u32 t.e, .int .i64 t.d, .int .u32 t.a, .int .u32 t.b, .int .u32 t.c]] w fun e w' => e = .returned (.tuple #[.agg #[.int .u32 T0.e, .int .i64 T0.d, .int .u32 T0.a, .int .u32 T0.b, .int .u32 T0.c], .int .i64 (inn t)]) ∧ Below w.heap.size w w' := by
  generalize hE : inn t = E at h
  have h' : (E != 0) = true := by simpa using h
  clear h
  have HE := Lib.hid hE
  clear hE
  go_enter Tryd.func17, Tryd.ntmps17
  go_wp2_with (go_at_call 48; refine (inner_is _ i HE.out _).mono ?_; rintro e w1 ⟨rfl, b1⟩; obtain ⟨hc, hf⟩ := bcell b1)
  refine bodyPost_ret (v := .tuple #[.agg #[.int .u32 T0.e, .int .i64 T0.d, .int .u32 T0.a, .int .u32 T0.b, .int .u32 T0.c], .int .i64 E]) (by simp [results, Tryd.results17, go_sem, hc, T0]) rfl ⟨rfl, ?_⟩
  repeat (with_reducible refine Below.setCell ?_ (by simp) _)
  exact over2 b1
theorem later_bad (t : Tm) (n : Int) (i : t.In) (h : chk t ≠ 0) (w : World) : Calls Tryd.prog 19 #[.agg #[.int .u32 t.e, .int .i64 t.d, .int .u32 t.a, .int .u32 t.b, .int .u32 t.c], .int .u32 n] w fun e w' => e = .returned (.tuple #[.agg #[.int .u32 T0.e, .int .i64 T0.d, .int .u32 T0.a, .int .u32 T0.b, .int .u32 T0.c], .int .i64 (chk t)]) ∧ Below w.heap.size w w' := by
  generalize hE : chk t = E at h
  have h' : (E != 0) = true := by simpa using h
  clear h
  have HE := Lib.hid hE
  clear hE
  go_enter Tryd.func19, Tryd.ntmps19
  go_wp2_with (go_at_call 39; refine (check_is _ i HE.out _).mono ?_; rintro e w1 ⟨rfl, b1⟩; obtain ⟨hc, hf⟩ := bcell b1)
  refine bodyPost_ret (v := .tuple #[.agg #[.int .u32 T0.e, .int .i64 T0.d, .int .u32 T0.a, .int .u32 T0.b, .int .u32 T0.c], .int .i64 E]) (by simp [results, Tryd.results19, go_sem, hc, T0]) rfl ⟨rfl, ?_⟩
  repeat (with_reducible refine Below.setCell ?_ (by simp) _)
  exact over2 b1
end Go.Proofs.YtilkdpobkcocoaaDoor.stamp
