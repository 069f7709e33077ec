/-
  Contracts of package graph: sizes, places, depths.
  The loop of a place, as the program tells it (by gen_ga.py).
-/
import Derived.Test.YtpblpjopinllcaaGreatDoorJWn
import Derived.WalkKit
import Derived.WalkMore
import Derived.Lib.Hide
import Derived.Deep.CutRange
namespace Go.Proofs.YtpblpjopinllcaaGreatDoor.graph
open Go.ChangeShapes Go.WideShapes Go.ChangeAt Go.RowKit
open Go.Proofs.YtpblpjopinllcaaGreatDoor.opened Go.Proofs.YtpblpjopinllcaaGreatDoor.block Go.Proofs.YtpblpjopinllcaaGreatDoor.words

set_option maxRecDepth 100000 in
theorem sizes_any (v : Gv) (g : Gr) (w : World) : Calls Tryz.prog 86 #[gV v g] w fun e w' => e = .returned (.int .i64 (sizesE g)) ∧ Below w.heap.size w w' := by
  unfold sizesE gV
  by_cases a1 : 4 < g.c.length
  · rw [if_pos (.inl a1)]
    go_enter Tryz.func86, Tryz.ntmps86
    go_wp2
    go_ret
    exact ⟨rfl, fresh1 _ _⟩
  by_cases a2 : 6 < g.l.length
  · rw [if_pos (.inr (.inl a2))]
    go_enter Tryz.func86, Tryz.ntmps86
    go_wp2
    go_ret
    exact ⟨rfl, fresh1 _ _⟩
  by_cases a3 : 24 < g.o.length
  · rw [if_pos (.inr (.inr (.inl a3)))]
    go_enter Tryz.func86, Tryz.ntmps86
    go_wp2
    go_ret
    exact ⟨rfl, fresh1 _ _⟩
  by_cases a4 : 48 < g.h.length
  · rw [if_pos (.inr (.inr (.inr a4)))]
    go_enter Tryz.func86, Tryz.ntmps86
    go_wp2
    go_ret
    exact ⟨rfl, fresh1 _ _⟩
  rw [if_neg (by omega)]
  by_cases b1 : g.c.length = 0
  · rw [if_pos (.inl b1)]
    have b2 : ((g.c.length : Int) == 0) = true := by rw [beq_iff_eq]; omega
    go_enter Tryz.func86, Tryz.ntmps86
    go_wp2
    go_ret
    exact ⟨rfl, fresh1 _ _⟩
  by_cases b2 : g.o.length = 0
  · rw [if_pos (.inr b2)]
    have b3 : ((g.o.length : Int) == 0) = true := by rw [beq_iff_eq]; omega
    have b4 : ((g.c.length : Int) == 0) = false := by rw [beq_eq_false_iff_ne]; omega
    go_enter Tryz.func86, Tryz.ntmps86
    go_wp2
    go_ret
    exact ⟨rfl, fresh1 _ _⟩
  rw [if_neg (by omega)]
  have b3 : ((g.o.length : Int) == 0) = false := by rw [beq_eq_false_iff_ne]; omega
  have b4 : ((g.c.length : Int) == 0) = false := by rw [beq_eq_false_iff_ne]; omega
  go_enter Tryz.func86, Tryz.ntmps86
  go_wp2
  go_ret
  exact ⟨rfl, fresh1 _ _⟩
theorem isOp_any (v : Gv) (g : Gr) (i : Int) (w : World) : Calls Tryz.prog 91 #[gV v g, .int .i64 i] w fun e w' => e = .returned (.bool (decide (0 ≤ i ∧ i < g.o.length))) ∧ Below w.heap.size w w' := by
  unfold gV
  by_cases a1 : 0 ≤ i
  · by_cases a2 : i < g.o.length
    · rw [decide_eq_true (And.intro a1 a2)]
      go_enter Tryz.func91, Tryz.ntmps91
      go_wp2
      go_ret
      exact ⟨rfl, fresh1 _ _⟩
    · rw [decide_eq_false (fun h => a2 h.2)]
      go_enter Tryz.func91, Tryz.ntmps91
      go_wp2
      go_ret
      exact ⟨rfl, fresh1 _ _⟩
  · rw [decide_eq_false (fun h => a1 h.1)]
    go_enter Tryz.func91, Tryz.ntmps91
    go_wp2
    go_ret
    exact ⟨rfl, fresh1 _ _⟩
theorem input_any (i : Nat) (hi : i ≤ 1000) (w : World) : Calls Tryz.prog 94 #[.int .i64 i] w fun e w' => e = .returned (.int .i64 (2 * (i : Int))) ∧ w = w' := by
  go_enter Tryz.func94, Tryz.ntmps94
  go_wp2
  go_ret
  exact ⟨rfl, rfl⟩
theorem output_any (i : Nat) (hi : i ≤ 1000) (w : World) : Calls Tryz.prog 163 #[.int .i64 i] w fun e w' => e = .returned (.int .i64 (2 * (i : Int) + 1)) ∧ w = w' := by
  go_enter Tryz.func163, Tryz.ntmps163
  go_wp2
  go_ret
  exact ⟨rfl, rfl⟩
theorem isPlace_any (v : Gv) (g : Gr) (i : Int) (h24 : g.o.length ≤ 24) (w : World) : Calls Tryz.prog 100 #[gV v g, .int .i64 i] w fun e w' => e = .returned (.bool (decide (0 ≤ i ∧ i < 2 * g.o.length))) ∧ Below w.heap.size w w' := by
  unfold gV
  have C := Lib.hid (input_any g.o.length (by omega))
  by_cases a1 : 0 ≤ i
  · by_cases a2 : i < 2 * (g.o.length : Int)
    · rw [decide_eq_true (And.intro a1 a2)]
      go_enter Tryz.func100, Tryz.ntmps100
      go_wp2_with (go_at_call 94; refine (C.out _).mono ?_; rintro e w1 ⟨rfl, rfl⟩)
      go_ret
      exact ⟨rfl, fresh1 _ _⟩
    · rw [decide_eq_false (fun h => a2 h.2)]
      go_enter Tryz.func100, Tryz.ntmps100
      go_wp2_with (go_at_call 94; refine (C.out _).mono ?_; rintro e w1 ⟨rfl, rfl⟩)
      go_ret
      exact ⟨by simp; omega, fresh1 _ _⟩
  · rw [decide_eq_false (fun h => a1 h.1)]
    go_enter Tryz.func100, Tryz.ntmps100
    go_wp2
    go_ret
    exact ⟨rfl, fresh1 _ _⟩
/-- How deep a loop is, where the Ups ahead are as they must be. -/
theorem depth_any (v : Gv) (g : Gr) (n : Nat) (hn : n ≤ g.l.length) (hu : UpOk g.l n) (i : Int) (h0 : -1 ≤ i) (h1 : i < n) (h6 : g.l.length ≤ 6) (w : World) (h : Lies4 w v g) :
    Calls Tryz.prog 92 #[gV v g, .int .i64 i] w fun e w' => e = .returned (.int .i64 (deepL g.l i)) ∧ Below w.heap.size w w' := by
  unfold gV
  have H := Lib.hid h
  have HU := Lib.hid hu
  have hd : deepL g.l i ≤ 7 := by
    have := deep_le hu (i + 1).toNat i h1 (by omega)
    unfold deepL
    omega
  obtain ⟨D, hD⟩ : ∃ D, deepL g.l i = D := ⟨_, rfl⟩
  rw [hD] at hd ⊢
  have HD := Lib.hid hD
  have hF := Lib.hid (fresh1 w (.cells #[.slice v.a g.c.length v.i, .slice v.b g.l.length v.j, .slice v.d g.o.length v.k, .slice v.e g.h.length v.m] 27))
  have OX := Lib.hid (Whole.fresh w 27 #[.slice v.a g.c.length v.i, .slice v.b g.l.length v.j, .slice v.d g.o.length v.k, .slice v.e g.h.length v.m])
  clear h hu hD
  go_enter Tryz.func92, Tryz.ntmps92
  go_upto_region 1 with fail
  change Code.wp _ _ _ _ (w.alloc (.cells #[.slice v.a g.c.length v.i, .slice v.b g.l.length v.j, .slice v.d g.o.length v.k, .slice v.e g.h.length v.m] 27))
  generalize w.alloc (.cells #[.slice v.a g.c.length v.i, .slice v.b g.l.length v.j, .slice v.d g.o.length v.k, .slice v.e g.h.length v.m] 27) = w1 at OX hF ⊢
  have hF2 := Lib.hid hF.out
  obtain ⟨gg, hgg⟩ : ∃ gg, w.heap.size = gg := ⟨_, rfl⟩
  rw [hgg] at OX ⊢
  clear hgg hF
  have k1 : w1.cell? ⟨gg, 1, none⟩ = some (.slice v.b g.l.length v.j) := OX.out.read 1
  go_wp2_with fail
  go_loopw [1, 5] (fun a b wr => ∃ (x : Int) (y : Nat), -1 ≤ x ∧ x < n ∧ a = .int .i64 x ∧ b = .int .i64 y ∧ Hid (y + deepL g.l x = D) ∧ wr = w1) (fun a _ _ => (intOf a + 1).toNat)
  case atStart => exact ⟨i, 0, h0, h1, rfl, rfl, Lib.hid (by rw [HD.out]; omega), rfl⟩
  case round =>
    obtain ⟨x, y, hx0, hx1, rfl, rfl, HS, rfl⟩ := hrel
    by_cases hx : x = -1
    · subst hx
      have hy : y = D := by have := HS.out; rw [deep_neg (by omega)] at this; omega
      subst hy
      go_wp2_with fail
      go_ret
      exact ⟨rfl, hF2.out⟩
    · obtain ⟨k, rfl⟩ : ∃ k : Nat, x = k := ⟨x.toNat, by omega⟩
      have hkn : k < n := by omega
      have hkl : k < g.l.length := by omega
      obtain ⟨z, hz⟩ : ∃ z, g.l[k]? = some z := ⟨g.l[k]'(by omega), List.getElem?_eq_getElem (by omega)⟩
      have hzu := HU.out k z hkn hz
      have HS2 : Hid (y + 1 + deepL g.l z.u = D) := Lib.hid (by have := HS.out; rw [deep_step HU.out hkn hz] at this; omega)
      have hy7 : y ≤ 7 := by have := HS.out; omega
      obtain ⟨b1, o1, hA, hb1, c0, c1, c2⟩ := at_lo (H.out.l.below hF2.out) hz
      rw [hA] at k1
      clear c0 c2
      go_wp2_with fail
      go_roundw
      case rel => exact ⟨z.u, y + 1, by omega, by omega, rfl, by go_num, HS2, by first | rfl | trivial⟩
      case measure => simp [intOf]; omega
end Go.Proofs.YtpblpjopinllcaaGreatDoor.graph
namespace Go.Proofs.YtpblpjopinllcaaGreatDoor.graph
open Go.ChangeShapes Go.WideShapes Go.ChangeAt Go.RowKit Go.Shelf
open Go.Proofs.YtpblpjopinllcaaGreatDoor.opened Go.Proofs.YtpblpjopinllcaaGreatDoor.block Go.Proofs.YtpblpjopinllcaaGreatDoor.words
set_option maxRecDepth 100000 in
theorem loopAt_walk (v : Gv) (g : Gr) (i : Nat) (x : Oq) (hx : g.o[i]? = some x) (h24 : g.o.length ≤ 24) (hl : x.k = 7 ∨ x.k = 8 → 0 ≤ x.l ∧ x.l < g.l.length) (p : Int) (out : Bool) (hp : p = 2 * (i : Int) + (if out then 1 else 0)) (w : World) (h : Lies4 w v g) :
    Calls Tryz.prog 93 #[gV v g, .int .i64 p] w fun e w' => e = .returned (.int .i64 (loopV g i out)) ∧ Below w.heap.size w w' := by
  have hi : i < 24 := by have := (List.getElem?_eq_some_iff.1 hx).1; omega
  have hil := (List.getElem?_eq_some_iff.1 hx).1
  have hq : Int.tdiv p 2 = i := by rw [hp, Int.tdiv_eq_ediv_of_nonneg (by split <;> omega)]; split <;> omega
  have hq2 : p / 2 = (i : Int) := by rw [hp]; split <;> omega
  have hp0 : 0 ≤ p := by rw [hp]; split <;> omega
  have hp9 : p ≤ 1000 := by rw [hp]; split <;> omega
  replace hp := Lib.hid hp
  obtain ⟨va, vb, vd, ve, vi, vj, vk, vm⟩ := v
  have IN := Lib.hid (input_any i (by omega))
  have OU := Lib.hid (output_any i (by omega))
  unfold gV
  have H := Lib.hid h
  dsimp only
  have hB := Lib.hid (fresh1 w (.cells #[.slice va g.c.length vi, .slice vb g.l.length vj, .slice vd g.o.length vk, .slice ve g.h.length vm] 27))
  have OX := Lib.hid (Whole.fresh w 27 #[.slice va g.c.length vi, .slice vb g.l.length vj, .slice vd g.o.length vk, .slice ve g.h.length vm])
  have HR := Lib.hid (h.below hB.out)
  obtain ⟨b1, o1, hA, hb1, c0, c1, c2, c3, c4, c5⟩ := at_oq HR.out.o hx
  change vd = _ at hA
  subst hA
  have hv : loopV g i out = if (x.k = 7 ∧ out = false) ∨ (x.k = 8 ∧ out = true) then (match g.l[x.l.toNat]? with | none => -1 | some y => y.u) else x.l := by unfold loopV; rw [hx]; rfl
  rw [hv]
  clear h H hv
  obtain ⟨R, hR⟩ : ∃ R, (if (x.k = 7 ∧ out = false) ∨ (x.k = 8 ∧ out = true) then (match g.l[x.l.toNat]? with | none => -1 | some y => y.u) else x.l) = R := ⟨_, rfl⟩
  rw [hR]
  replace hR := Lib.hid hR
  go_enter Tryz.func93, Tryz.ntmps93
  go_upto_region 1 with fail
  change Code.wp _ _ _ _ (w.alloc (.cells #[.slice va g.c.length vi, .slice vb g.l.length vj, .slice (some ⟨b1, o1, none⟩) g.o.length vk, .slice ve g.h.length vm] 27))
  generalize w.alloc (.cells #[.slice va g.c.length vi, .slice vb g.l.length vj, .slice (some ⟨b1, o1, none⟩) g.o.length vk, .slice ve g.h.length vm] 27) = w1 at OX hB HR hb1 c0 c1 c2 c3 c4 c5 ⊢
  obtain ⟨gg, hgg⟩ : ∃ gg, w.heap.size = gg := ⟨_, rfl⟩
  rw [hgg] at OX ⊢
  clear hgg
  have k2 : w1.cell? ⟨gg, 2, none⟩ = some (.slice (some ⟨b1, o1, none⟩) g.o.length vk) := OX.out.read 2
  go_upto_region 3 with fail
  change Code.wp _ _ _ _ (w1.alloc (.cells #[sV x.n, .int .i64 x.k, .int .i64 x.l, .int .i64 x.a, .int .i64 x.x, .int .i64 x.y] 145))
  have hW := fresh1 w1 (.cells #[sV x.n, .int .i64 x.k, .int .i64 x.l, .int .i64 x.a, .int .i64 x.x, .int .i64 x.y] 145)
  have OW := Lib.hid (Whole.fresh w1 145 #[sV x.n, .int .i64 x.k, .int .i64 x.l, .int .i64 x.a, .int .i64 x.x, .int .i64 x.y])
  have OG := OX.out.below hW OX.out.inside
  have H2 := Lib.hid (HR.out.below hW)
  have B2 := Lib.hid (hB.out.trans (hW.mono hB.out.size))
  clear OX HR hB hW c0 c1 c2 c3 c4 c5 hb1 k2
  generalize w1.alloc (.cells #[sV x.n, .int .i64 x.k, .int .i64 x.l, .int .i64 x.a, .int .i64 x.x, .int .i64 x.y] 145) = w2 at OW OG H2 B2 ⊢
  generalize w1.heap.size = r at OW ⊢
  have d1 : w2.cell? ⟨r, 1, none⟩ = some (.int .i64 x.k) := OW.out.read 1
  have d2 : w2.cell? ⟨r, 2, none⟩ = some (.int .i64 x.l) := OW.out.read 2
  have k1 : w2.cell? ⟨gg, 1, none⟩ = some (.slice vb g.l.length vj) := OG.read 1
  clear OG OW hx hq hq2
  cases out
  · replace hp : p = 2 * (i : Int) := by simpa using hp.out
    have hp1 : (p == 2 * (i : Int)) = true := by rw [hp]; simp
    have hp2 : (p == 2 * (i : Int) + 1) = false := by rw [beq_eq_false_iff_ne]; omega
    clear hp
    by_cases hk : x.k = 7
    · have hl2 := hl (.inl hk)
      obtain ⟨m, hm⟩ : ∃ m : Nat, x.l = m := ⟨x.l.toNat, by omega⟩
      obtain ⟨y, hy⟩ : ∃ y, g.l[m]? = some y := ⟨g.l[m]'(by omega), List.getElem?_eq_getElem (by omega)⟩
      obtain rfl : y.u = R := by rw [← hR.out, if_pos (by simp [hk]), hm, Int.toNat_natCast, hy]
      obtain ⟨b3, o3, hA3, hb3, e0, e1, e2⟩ := at_lo H2.out.l hy
      change vb = _ at hA3
      subst hA3
      rw [hm] at d2
      rw [hk] at d1
      have hml : m < g.l.length := by omega
      clear e0 e2 H2 hR hy hl
      go_wp2_with (first | (go_at_call 94; refine (IN.out _).mono ?_; rintro e w4 ⟨rfl, rfl⟩) | (go_at_call 163; refine (OU.out _).mono ?_; rintro e w4 ⟨rfl, rfl⟩))
      go_ret
      exact ⟨rfl, B2.out⟩
    by_cases hk8 : x.k = 8
    · have hk := hk8
      have hl2 := hl (.inr hk)
      obtain rfl : x.l = R := by rw [← hR.out, if_neg (by simp [hk])]
      clear H2 hR hl
      rw [hk] at d1
      go_wp2_with (first | (go_at_call 94; refine (IN.out _).mono ?_; rintro e w4 ⟨rfl, rfl⟩) | (go_at_call 163; refine (OU.out _).mono ?_; rintro e w4 ⟨rfl, rfl⟩))
      go_ret
      exact ⟨rfl, B2.out⟩
    · have f1 : (x.k == 7) = false := by rw [beq_eq_false_iff_ne]; exact hk
      have f2 : (x.k == 8) = false := by rw [beq_eq_false_iff_ne]; exact hk8
      obtain rfl : x.l = R := by rw [← hR.out, if_neg (by simp [hk, hk8])]
      clear H2 hR hl
      go_wp2_with (first | (go_at_call 94; refine (IN.out _).mono ?_; rintro e w4 ⟨rfl, rfl⟩) | (go_at_call 163; refine (OU.out _).mono ?_; rintro e w4 ⟨rfl, rfl⟩))
      go_ret
      exact ⟨rfl, B2.out⟩
  · replace hp : p = 2 * (i : Int) + 1 := by simpa using hp.out
    have hp1 : (p == 2 * (i : Int)) = false := by rw [beq_eq_false_iff_ne]; omega
    have hp2 : (p == 2 * (i : Int) + 1) = true := by rw [hp]; simp
    clear hp
    by_cases hk : x.k = 7
    · have hl2 := hl (.inl hk)
      obtain rfl : x.l = R := by rw [← hR.out, if_neg (by simp [hk])]
      clear H2 hR hl
      rw [hk] at d1
      go_wp2_with (first | (go_at_call 94; refine (IN.out _).mono ?_; rintro e w4 ⟨rfl, rfl⟩) | (go_at_call 163; refine (OU.out _).mono ?_; rintro e w4 ⟨rfl, rfl⟩))
      go_ret
      exact ⟨rfl, B2.out⟩
    by_cases hk8 : x.k = 8
    · have hk := hk8
      have hl2 := hl (.inr hk)
      obtain ⟨m, hm⟩ : ∃ m : Nat, x.l = m := ⟨x.l.toNat, by omega⟩
      obtain ⟨y, hy⟩ : ∃ y, g.l[m]? = some y := ⟨g.l[m]'(by omega), List.getElem?_eq_getElem (by omega)⟩
      obtain rfl : y.u = R := by rw [← hR.out, if_pos (by simp [hk]), hm, Int.toNat_natCast, hy]
      obtain ⟨b3, o3, hA3, hb3, e0, e1, e2⟩ := at_lo H2.out.l hy
      change vb = _ at hA3
      subst hA3
      rw [hm] at d2
      rw [hk] at d1
      have hml : m < g.l.length := by omega
      clear e0 e2 H2 hR hy hl
      go_wp2_with (first | (go_at_call 94; refine (IN.out _).mono ?_; rintro e w4 ⟨rfl, rfl⟩) | (go_at_call 163; refine (OU.out _).mono ?_; rintro e w4 ⟨rfl, rfl⟩))
      go_ret
      exact ⟨rfl, B2.out⟩
    · have f1 : (x.k == 7) = false := by rw [beq_eq_false_iff_ne]; exact hk
      have f2 : (x.k == 8) = false := by rw [beq_eq_false_iff_ne]; exact hk8
      obtain rfl : x.l = R := by rw [← hR.out, if_neg (by simp [hk, hk8])]
      clear H2 hR hl
      go_wp2_with (first | (go_at_call 94; refine (IN.out _).mono ?_; rintro e w4 ⟨rfl, rfl⟩) | (go_at_call 163; refine (OU.out _).mono ?_; rintro e w4 ⟨rfl, rfl⟩))
      go_ret
      exact ⟨rfl, B2.out⟩
end Go.Proofs.YtpblpjopinllcaaGreatDoor.graph
