/-
  The contracts of what makes one time of another, where nothing is wrong.
-/
import Derived.Test.YtilkdpobkcocoaaDoorMv
namespace Go.Proofs.YtilkdpobkcocoaaDoor.stamp
open Go.ChangeShapes Go.WideShapes Go.ChangeAt Go.RowKit
open Go.Proofs.YtilkdpobkcocoaaDoor.tm Go.Proofs.YtilkdpobkcocoaaDoor.opened Go.Proofs.YtilkdpobkcocoaaDoor.block

theorem fst2 {w w1 : World} {o o' : Obj} (b1 : Below ((w.alloc o).alloc o').heap.size ((w.alloc o).alloc o') w1) {cs : Array Value} (ho : o = .cells cs 25) : Whole w1 w.heap.size 25 cs := by
  subst ho
  exact Whole.below (Whole.alloc (Whole.fresh w 25 cs) _) b1 (by simp; omega)
theorem put_other {w : World} {g : Nat} {t : TypeId} {cs : Array Value} (h : Whole w g t cs) (i : Nat) : ∀ (v : Value) (j : Nat), i ≠ j → (w.setCell ⟨g, i, none⟩ v).cell? ⟨g, j, none⟩ = cs[j]? := fun v j hj => by
  rw [(h.store i v).read j, Array.getElem?_setIfInBounds_ne hj]
theorem put_same {w : World} {g : Nat} {t : TypeId} {cs : Array Value} (h : Whole w g t cs) (i : Nat) (hi : i < cs.size) : ∀ v : Value, (w.setCell ⟨g, i, none⟩ v).cell? ⟨g, i, none⟩ = some v := fun v => by
  rw [(h.store i v).read i]
  simp [hi]
theorem put2_other {w : World} {g : Nat} {t : TypeId} {cs : Array Value} (h : Whole w g t cs) (i k : Nat) : ∀ (u v : Value) (j : Nat), i ≠ j → k ≠ j → ((w.setCell ⟨g, i, none⟩ u).setCell ⟨g, k, none⟩ v).cell? ⟨g, j, none⟩ = cs[j]? := fun u v j hi hk => by
  rw [((h.store i u).store k v).read j, Array.getElem?_setIfInBounds_ne hk, Array.getElem?_setIfInBounds_ne hi]
theorem put2_first {w : World} {g : Nat} {t : TypeId} {cs : Array Value} (h : Whole w g t cs) (i k : Nat) (hik : k ≠ i) (hi : i < cs.size) : ∀ u v : Value, ((w.setCell ⟨g, i, none⟩ u).setCell ⟨g, k, none⟩ v).cell? ⟨g, i, none⟩ = some u := fun u v => by
  rw [((h.store i u).store k v).read i, Array.getElem?_setIfInBounds_ne hik]
  simp [hi]
theorem put2_second {w : World} {g : Nat} {t : TypeId} {cs : Array Value} (h : Whole w g t cs) (i k : Nat) (hk : k < cs.size) : ∀ u v : Value, ((w.setCell ⟨g, i, none⟩ u).setCell ⟨g, k, none⟩ v).cell? ⟨g, k, none⟩ = some v := fun u v => by
  rw [((h.store i u).store k v).read k]
  simp [hk]
theorem isCountN_yes (a : Int) (h : a ≤ 1048576) (w : World) : Calls Tryd.prog 78 #[.int .u32 a] w fun e w' => e = .returned (.bool true) ∧ w = w' := by
  go_enter Tryd.func78, Tryd.ntmps78
  go_wp2
  go_ret
  exact ⟨rfl, rfl⟩
theorem isCountN_no (a : Int) (h : 1048576 < a) (w : World) : Calls Tryd.prog 78 #[.int .u32 a] w fun e w' => e = .returned (.bool false) ∧ w = w' := by
  have h' : decide (a ≤ 1048576) = false := by simp; omega
  go_enter Tryd.func78, Tryd.ntmps78
  go_wp2
  go_ret
  exact ⟨rfl, rfl⟩
theorem add_sum (a b : Int) (a0 : 0 ≤ a) (b0 : 0 ≤ b) (ha : a ≤ 1048576) (hb : b ≤ 1048576) (h : a + b ≤ 1048576) (w : World) : Calls Tryd.prog 49 #[.int .u32 a, .int .u32 b] w fun e w' => e = .returned (.tuple #[.int .u32 (a + b), .int .i64 0]) ∧ w = w' := by
  go_enter Tryd.func49, Tryd.ntmps49
  go_wp2_with (go_at_call 78; refine (isCountN_yes _ (by omega) _).mono ?_; rintro e w' ⟨rfl, rfl⟩)
  go_ret2
  exact ⟨rfl, rfl⟩
theorem add_over (a b : Int) (a0 : 0 ≤ a) (b0 : 0 ≤ b) (ha : a ≤ 1048576) (hb : b ≤ 1048576) (h : 1048576 < a + b) (w : World) : Calls Tryd.prog 49 #[.int .u32 a, .int .u32 b] w fun e w' => e = .returned (.tuple #[.int .u32 0, .int .i64 9]) ∧ w = w' := by
  go_enter Tryd.func49, Tryd.ntmps49
  go_wp2_with (go_at_call 78; first | (refine (isCountN_yes _ (by omega) _).mono ?_; rintro e w' ⟨rfl, rfl⟩) | (refine (isCountN_no _ (by omega) _).mono ?_; rintro e w' ⟨rfl, rfl⟩))
  go_ret2
  exact ⟨rfl, rfl⟩
theorem add_range (a b : Int) (_a0 : 0 ≤ a) (_b0 : 0 ≤ b) (ha : a ≤ 1048576) (hb : 1048576 < b) (w : World) : Calls Tryd.prog 49 #[.int .u32 a, .int .u32 b] w fun e w' => e = .returned (.tuple #[.int .u32 0, .int .i64 1]) ∧ w = w' := by
  go_enter Tryd.func49, Tryd.ntmps49
  go_wp2_with (go_at_call 78; first | (refine (isCountN_yes _ (by omega) _).mono ?_; rintro e w' ⟨rfl, rfl⟩) | (refine (isCountN_no _ (by omega) _).mono ?_; rintro e w' ⟨rfl, rfl⟩))
  go_ret2
  exact ⟨rfl, rfl⟩
theorem enter_good (t : Tm) (i : t.In) (h : chk t = 0) (w : World) : Calls Tryd.prog 15 #[.agg #[.int .u32 t.e, .int .i64 t.d, .int .u32 t.a, .int .u32 t.b, .int .u32 t.c]] w fun e w' => e = .returned (.tuple #[.agg #[.int .u32 (enterV t).e, .int .i64 (enterV t).d, .int .u32 (enterV t).a, .int .u32 (enterV t).b, .int .u32 (enterV t).c], .int .i64 (enterE t)]) ∧ Below w.heap.size w w' := by
  obtain ⟨z0, z1, -⟩ := chk_zero h
  have HE := Lib.hid h
  clear h
  by_cases hd : t.d = 3
  · have hd' : (t.d == 3) = true := by simpa using hd
    have hi : enterV t = T0 := by simp [enterV, HE.out, hd]
    have hj : enterE t = 10 := by simp [enterE, HE.out, hd]
    rw [hi, hj]
    clear hd hi hj
    go_enter Tryd.func15, Tryd.ntmps15
    go_wp2_with (go_at_call 39; refine (check_is _ i HE.out _).mono ?_; rintro e w1 ⟨rfl, b1⟩; obtain ⟨hc, hf⟩ := bcell b1)
    refine bodyPost_ret (v := .tuple #[.agg #[.int .u32 T0.e, .int .i64 T0.d, .int .u32 T0.a, .int .u32 T0.b, .int .u32 T0.c], .int .i64 10]) (by simp [results, Tryd.results15, go_sem, hc, T0]) rfl ⟨rfl, ?_⟩
    repeat (with_reducible refine Below.setCell ?_ (by simp) _)
    exact over2 b1
  · have hd' : (t.d == 3) = false := by simpa using hd
    have hi : enterV t = ⟨t.e, t.d + 1, t.a, t.b, t.c⟩ := by simp [enterV, HE.out, hd]
    have hj : enterE t = 0 := by simp [enterE, HE.out, hd]
    rw [hi, hj]
    clear hd hi hj
    go_enter Tryd.func15, Tryd.ntmps15
    go_wp2_with (go_at_call 39; refine (check_is _ i HE.out _).mono ?_; rintro e w1 ⟨rfl, b1⟩; obtain ⟨hc, hf⟩ := bcell b1; have hx := put_other (fst2 b1 rfl) 1; have hy := put_same (fst2 b1 rfl) 1 (by simp))
    refine bodyPost_ret (v := .tuple #[.agg #[.int .u32 t.e, .int .i64 (t.d + 1), .int .u32 t.a, .int .u32 t.b, .int .u32 t.c], .int .i64 0]) (by simp [results, Tryd.results15, go_sem, hc]) rfl ⟨rfl, ?_⟩
    repeat (with_reducible refine Below.setCell ?_ (by simp) _)
    exact over2 b1
theorem enter_any (t : Tm) (i : t.In) (w : World) : Calls Tryd.prog 15 #[.agg #[.int .u32 t.e, .int .i64 t.d, .int .u32 t.a, .int .u32 t.b, .int .u32 t.c]] w fun e w' => e = .returned (.tuple #[.agg #[.int .u32 (enterV t).e, .int .i64 (enterV t).d, .int .u32 (enterV t).a, .int .u32 (enterV t).b, .int .u32 (enterV t).c], .int .i64 (enterE t)]) ∧ Below w.heap.size w w' := by
  by_cases h : chk t = 0
  · exact enter_good t i h w
  · rw [show enterV t = T0 by simp [enterV, h], show enterE t = chk t by simp [enterE, h]]
    exact enter_bad t i h w
theorem leave_good (t : Tm) (i : t.In) (h : inn t = 0) (w : World) : Calls Tryd.prog 16 #[.agg #[.int .u32 t.e, .int .i64 t.d, .int .u32 t.a, .int .u32 t.b, .int .u32 t.c]] w fun e w' => e = .returned (.tuple #[.agg #[.int .u32 (dropT t).e, .int .i64 (dropT t).d, .int .u32 (dropT t).a, .int .u32 (dropT t).b, .int .u32 (dropT t).c], .int .i64 0]) ∧ Below w.heap.size w w' := by
  obtain ⟨hk, hz⟩ := inn_zero h
  obtain ⟨z0, z1, -⟩ := chk_zero hk
  have hd : t.d = 1 ∨ t.d = 2 ∨ t.d = 3 := by omega
  have HE := Lib.hid h
  have HK := Lib.hid hk
  clear h hk hz
  obtain ⟨e, d, a, b, c⟩ := t
  dsimp only at *
  rcases hd with rfl | rfl | rfl
  · go_enter Tryd.func16, Tryd.ntmps16
    go_wp2_with (go_at_call 48; refine (inner_is _ i HE.out _).mono ?_; rintro e w1 ⟨rfl, b1⟩; obtain ⟨hc, hf⟩ := bcell b1; have hb := fst2 b1 rfl; have hx := put_other hb 1; have hy := put_same hb 1 (by simp); have hu := put2_other hb 1 2; have hv := put2_first hb 1 2 (by decide) (by simp); have hw := put2_second hb 1 2 (by simp); clear hb)
    refine bodyPost_ret (v := .tuple #[.agg #[.int .u32 (dropT ⟨e, 1, a, b, c⟩).e, .int .i64 (dropT ⟨e, 1, a, b, c⟩).d, .int .u32 (dropT ⟨e, 1, a, b, c⟩).a, .int .u32 (dropT ⟨e, 1, a, b, c⟩).b, .int .u32 (dropT ⟨e, 1, a, b, c⟩).c], .int .i64 0]) (by simp [results, Tryd.results16, go_sem, hc, dropT]) rfl ⟨rfl, ?_⟩
    repeat (with_reducible refine Below.setCell ?_ (by simp) _)
    exact over2 b1
  · go_enter Tryd.func16, Tryd.ntmps16
    go_wp2_with (go_at_call 48; refine (inner_is _ i HE.out _).mono ?_; rintro e w1 ⟨rfl, b1⟩; obtain ⟨hc, hf⟩ := bcell b1; have hb := fst2 b1 rfl; have hx := put_other hb 1; have hy := put_same hb 1 (by simp); have hu := put2_other hb 1 3; have hv := put2_first hb 1 3 (by decide) (by simp); have hw := put2_second hb 1 3 (by simp); clear hb)
    refine bodyPost_ret (v := .tuple #[.agg #[.int .u32 (dropT ⟨e, 2, a, b, c⟩).e, .int .i64 (dropT ⟨e, 2, a, b, c⟩).d, .int .u32 (dropT ⟨e, 2, a, b, c⟩).a, .int .u32 (dropT ⟨e, 2, a, b, c⟩).b, .int .u32 (dropT ⟨e, 2, a, b, c⟩).c], .int .i64 0]) (by simp [results, Tryd.results16, go_sem, hc, dropT]) rfl ⟨rfl, ?_⟩
    repeat (with_reducible refine Below.setCell ?_ (by simp) _)
    exact over2 b1
  · go_enter Tryd.func16, Tryd.ntmps16
    go_wp2_with (go_at_call 48; refine (inner_is _ i HE.out _).mono ?_; rintro e w1 ⟨rfl, b1⟩; obtain ⟨hc, hf⟩ := bcell b1; have hb := fst2 b1 rfl; have hx := put_other hb 1; have hy := put_same hb 1 (by simp); have hu := put2_other hb 1 4; have hv := put2_first hb 1 4 (by decide) (by simp); have hw := put2_second hb 1 4 (by simp); clear hb)
    refine bodyPost_ret (v := .tuple #[.agg #[.int .u32 (dropT ⟨e, 3, a, b, c⟩).e, .int .i64 (dropT ⟨e, 3, a, b, c⟩).d, .int .u32 (dropT ⟨e, 3, a, b, c⟩).a, .int .u32 (dropT ⟨e, 3, a, b, c⟩).b, .int .u32 (dropT ⟨e, 3, a, b, c⟩).c], .int .i64 0]) (by simp [results, Tryd.results16, go_sem, hc, dropT]) rfl ⟨rfl, ?_⟩
    repeat (with_reducible refine Below.setCell ?_ (by simp) _)
    exact over2 b1
theorem leave_any (t : Tm) (i : t.In) (w : World) : Calls Tryd.prog 16 #[.agg #[.int .u32 t.e, .int .i64 t.d, .int .u32 t.a, .int .u32 t.b, .int .u32 t.c]] w fun e w' => e = .returned (.tuple #[.agg #[.int .u32 (leaveV t).e, .int .i64 (leaveV t).d, .int .u32 (leaveV t).a, .int .u32 (leaveV t).b, .int .u32 (leaveV t).c], .int .i64 (inn t)]) ∧ Below w.heap.size w w' := by
  by_cases h : inn t = 0
  · rw [show leaveV t = dropT t by simp [leaveV, h], h]
    exact leave_good t i h w
  · rw [show leaveV t = T0 by simp [leaveV, h]]
    exact leave_bad t i h w
end Go.Proofs.YtilkdpobkcocoaaDoor.stamp
