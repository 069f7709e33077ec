/-
  Contracts of package graph: sizes, places, depths.
-/
import Derived.Test.YtlbphlhbofjfgaaDoorJWn
import Derived.WalkKit
import Derived.WalkMore
import Derived.Lib.Hide
import Derived.Deep.CutRange
namespace Go.Proofs.YtlbphlhbofjfgaaDoor.graph
open Go.ChangeShapes Go.WideShapes Go.ChangeAt Go.RowKit
open Go.Proofs.YtlbphlhbofjfgaaDoor.opened Go.Proofs.YtlbphlhbofjfgaaDoor.block Go.Proofs.YtlbphlhbofjfgaaDoor.words

set_option maxRecDepth 100000 in
theorem sizes_any (v : Gv) (g : Gr) (w : World) : Calls Tryd.prog 32 #[gV v g] w fun e w' => e = .returned (.int .i64 (sizesE g)) ∧ Below w.heap.size w w' := by
  unfold sizesE gV
  by_cases a1 : 4 < g.c.length
  · rw [if_pos (.inl a1)]
    go_enter Tryd.func32, Tryd.ntmps32
    go_wp2
    go_ret
    exact ⟨rfl, fresh1 _ _⟩
  by_cases a2 : 6 < g.l.length
  · rw [if_pos (.inr (.inl a2))]
    go_enter Tryd.func32, Tryd.ntmps32
    go_wp2
    go_ret
    exact ⟨rfl, fresh1 _ _⟩
  by_cases a3 : 24 < g.o.length
  · rw [if_pos (.inr (.inr (.inl a3)))]
    go_enter Tryd.func32, Tryd.ntmps32
    go_wp2
    go_ret
    exact ⟨rfl, fresh1 _ _⟩
  by_cases a4 : 48 < g.h.length
  · rw [if_pos (.inr (.inr (.inr a4)))]
    go_enter Tryd.func32, Tryd.ntmps32
    go_wp2
    go_ret
    exact ⟨rfl, fresh1 _ _⟩
  rw [if_neg (by omega)]
  by_cases b1 : g.c.length = 0
  · rw [if_pos (.inl b1)]
    have b2 : ((g.c.length : Int) == 0) = true := by rw [beq_iff_eq]; omega
    go_enter Tryd.func32, Tryd.ntmps32
    go_wp2
    go_ret
    exact ⟨rfl, fresh1 _ _⟩
  by_cases b2 : g.o.length = 0
  · rw [if_pos (.inr b2)]
    have b3 : ((g.o.length : Int) == 0) = true := by rw [beq_iff_eq]; omega
    have b4 : ((g.c.length : Int) == 0) = false := by rw [beq_eq_false_iff_ne]; omega
    go_enter Tryd.func32, Tryd.ntmps32
    go_wp2
    go_ret
    exact ⟨rfl, fresh1 _ _⟩
  rw [if_neg (by omega)]
  have b3 : ((g.o.length : Int) == 0) = false := by rw [beq_eq_false_iff_ne]; omega
  have b4 : ((g.c.length : Int) == 0) = false := by rw [beq_eq_false_iff_ne]; omega
  go_enter Tryd.func32, Tryd.ntmps32
  go_wp2
  go_ret
  exact ⟨rfl, fresh1 _ _⟩
theorem isOp_any (v : Gv) (g : Gr) (i : Int) (w : World) : Calls Tryd.prog 45 #[gV v g, .int .i64 i] w fun e w' => e = .returned (.bool (decide (0 ≤ i ∧ i < g.o.length))) ∧ Below w.heap.size w w' := by
  unfold gV
  by_cases a1 : 0 ≤ i
  · by_cases a2 : i < g.o.length
    · rw [decide_eq_true (And.intro a1 a2)]
      go_enter Tryd.func45, Tryd.ntmps45
      go_wp2
      go_ret
      exact ⟨rfl, fresh1 _ _⟩
    · rw [decide_eq_false (fun h => a2 h.2)]
      go_enter Tryd.func45, Tryd.ntmps45
      go_wp2
      go_ret
      exact ⟨rfl, fresh1 _ _⟩
  · rw [decide_eq_false (fun h => a1 h.1)]
    go_enter Tryd.func45, Tryd.ntmps45
    go_wp2
    go_ret
    exact ⟨rfl, fresh1 _ _⟩
theorem input_any (i : Nat) (hi : i ≤ 1000) (w : World) : Calls Tryd.prog 46 #[.int .i64 i] w fun e w' => e = .returned (.int .i64 (2 * (i : Int))) ∧ w = w' := by
  go_enter Tryd.func46, Tryd.ntmps46
  go_wp2
  go_ret
  exact ⟨rfl, rfl⟩
theorem output_any (i : Nat) (hi : i ≤ 1000) (w : World) : Calls Tryd.prog 67 #[.int .i64 i] w fun e w' => e = .returned (.int .i64 (2 * (i : Int) + 1)) ∧ w = w' := by
  go_enter Tryd.func67, Tryd.ntmps67
  go_wp2
  go_ret
  exact ⟨rfl, rfl⟩
theorem isPlace_any (v : Gv) (g : Gr) (i : Int) (h24 : g.o.length ≤ 24) (w : World) : Calls Tryd.prog 41 #[gV v g, .int .i64 i] w fun e w' => e = .returned (.bool (decide (0 ≤ i ∧ i < 2 * g.o.length))) ∧ Below w.heap.size w w' := by
  unfold gV
  have C := Lib.hid (input_any g.o.length (by omega))
  by_cases a1 : 0 ≤ i
  · by_cases a2 : i < 2 * (g.o.length : Int)
    · rw [decide_eq_true (And.intro a1 a2)]
      go_enter Tryd.func41, Tryd.ntmps41
      go_wp2_with (go_at_call 46; refine (C.out _).mono ?_; rintro e w1 ⟨rfl, rfl⟩)
      go_ret
      exact ⟨rfl, fresh1 _ _⟩
    · rw [decide_eq_false (fun h => a2 h.2)]
      go_enter Tryd.func41, Tryd.ntmps41
      go_wp2_with (go_at_call 46; refine (C.out _).mono ?_; rintro e w1 ⟨rfl, rfl⟩)
      go_ret
      exact ⟨by simp; omega, fresh1 _ _⟩
  · rw [decide_eq_false (fun h => a1 h.1)]
    go_enter Tryd.func41, Tryd.ntmps41
    go_wp2
    go_ret
    exact ⟨rfl, fresh1 _ _⟩
/-- How deep a loop is, where the Ups ahead are as they must be. -/
theorem depth_any (v : Gv) (g : Gr) (n : Nat) (hn : n ≤ g.l.length) (hu : UpOk g.l n) (i : Int) (h0 : -1 ≤ i) (h1 : i < n) (h6 : g.l.length ≤ 6) (w : World) (h : Lies4 w v g) :
    Calls Tryd.prog 43 #[gV v g, .int .i64 i] w fun e w' => e = .returned (.int .i64 (deepL g.l i)) ∧ Below w.heap.size w w' := by
  unfold gV
  have H := Lib.hid h
  have HU := Lib.hid hu
  have hd : deepL g.l i ≤ 7 := by
    have := deep_le hu (i + 1).toNat i h1 (by omega)
    unfold deepL
    omega
  obtain ⟨D, hD⟩ : ∃ D, deepL g.l i = D := ⟨_, rfl⟩
  rw [hD] at hd ⊢
  have HD := Lib.hid hD
  have hF := Lib.hid (fresh1 w (.cells #[.slice v.a g.c.length v.i, .slice v.b g.l.length v.j, .slice v.d g.o.length v.k, .slice v.e g.h.length v.m] 34))
  have OX := Lib.hid (Whole.fresh w 34 #[.slice v.a g.c.length v.i, .slice v.b g.l.length v.j, .slice v.d g.o.length v.k, .slice v.e g.h.length v.m])
  clear h hu hD
  go_enter Tryd.func43, Tryd.ntmps43
  go_upto_region 1 with fail
  change Code.wp _ _ _ _ (w.alloc (.cells #[.slice v.a g.c.length v.i, .slice v.b g.l.length v.j, .slice v.d g.o.length v.k, .slice v.e g.h.length v.m] 34))
  generalize w.alloc (.cells #[.slice v.a g.c.length v.i, .slice v.b g.l.length v.j, .slice v.d g.o.length v.k, .slice v.e g.h.length v.m] 34) = w1 at OX hF ⊢
  have hF2 := Lib.hid hF.out
  obtain ⟨gg, hgg⟩ : ∃ gg, w.heap.size = gg := ⟨_, rfl⟩
  rw [hgg] at OX ⊢
  clear hgg hF
  have k1 : w1.cell? ⟨gg, 1, none⟩ = some (.slice v.b g.l.length v.j) := OX.out.read 1
  go_wp2_with fail
  go_loopw [1, 5] (fun a b wr => ∃ (x : Int) (y : Nat), -1 ≤ x ∧ x < n ∧ a = .int .i64 x ∧ b = .int .i64 y ∧ Hid (y + deepL g.l x = D) ∧ wr = w1) (fun a _ _ => (intOf a + 1).toNat)
  case atStart => exact ⟨i, 0, h0, h1, rfl, rfl, Lib.hid (by rw [HD.out]; omega), rfl⟩
  case round =>
    obtain ⟨x, y, hx0, hx1, rfl, rfl, HS, rfl⟩ := hrel
    by_cases hx : x = -1
    · subst hx
      have hy : y = D := by have := HS.out; rw [deep_neg (by omega)] at this; omega
      subst hy
      go_wp2_with fail
      go_ret
      exact ⟨rfl, hF2.out⟩
    · obtain ⟨k, rfl⟩ : ∃ k : Nat, x = k := ⟨x.toNat, by omega⟩
      have hkn : k < n := by omega
      have hkl : k < g.l.length := by omega
      obtain ⟨z, hz⟩ : ∃ z, g.l[k]? = some z := ⟨g.l[k]'(by omega), List.getElem?_eq_getElem (by omega)⟩
      have hzu := HU.out k z hkn hz
      have HS2 : Hid (y + 1 + deepL g.l z.u = D) := Lib.hid (by have := HS.out; rw [deep_step HU.out hkn hz] at this; omega)
      have hy7 : y ≤ 7 := by have := HS.out; omega
      obtain ⟨b1, o1, hA, hb1, c0, c1, c2⟩ := at_lo (H.out.l.below hF2.out) hz
      rw [hA] at k1
      clear c0 c2
      go_wp2_with fail
      go_roundw
      case rel => exact ⟨z.u, y + 1, by omega, by omega, rfl, by go_num, HS2, by first | rfl | trivial⟩
      case measure => simp [intOf]; omega
end Go.Proofs.YtlbphlhbofjfgaaDoor.graph
