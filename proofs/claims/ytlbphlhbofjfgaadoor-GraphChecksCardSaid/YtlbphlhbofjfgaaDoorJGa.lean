/-
  The loop of a place, as the program tells it (by gen_ga.py).
-/
import Derived.Test.YtlbphlhbofjfgaaDoorJGc
namespace Go.Proofs.YtlbphlhbofjfgaaDoor.graph
open Go.ChangeShapes Go.WideShapes Go.ChangeAt Go.RowKit Go.Shelf
open Go.Proofs.YtlbphlhbofjfgaaDoor.opened Go.Proofs.YtlbphlhbofjfgaaDoor.block Go.Proofs.YtlbphlhbofjfgaaDoor.words
set_option maxRecDepth 100000 in
theorem loopAt_walk (v : Gv) (g : Gr) (i : Nat) (x : Oq) (hx : g.o[i]? = some x) (h24 : g.o.length ≤ 24) (hl : x.k = 7 ∨ x.k = 8 → 0 ≤ x.l ∧ x.l < g.l.length) (p : Int) (out : Bool) (hp : p = 2 * (i : Int) + (if out then 1 else 0)) (w : World) (h : Lies4 w v g) :
    Calls Tryd.prog 42 #[gV v g, .int .i64 p] w fun e w' => e = .returned (.int .i64 (loopV g i out)) ∧ Below w.heap.size w w' := by
  have hi : i < 24 := by have := (List.getElem?_eq_some_iff.1 hx).1; omega
  have hil := (List.getElem?_eq_some_iff.1 hx).1
  have hq : Int.tdiv p 2 = i := by rw [hp, Int.tdiv_eq_ediv_of_nonneg (by split <;> omega)]; split <;> omega
  have hq2 : p / 2 = (i : Int) := by rw [hp]; split <;> omega
  have hp0 : 0 ≤ p := by rw [hp]; split <;> omega
  have hp9 : p ≤ 1000 := by rw [hp]; split <;> omega
  replace hp := Lib.hid hp
  obtain ⟨va, vb, vd, ve, vi, vj, vk, vm⟩ := v
  have IN := Lib.hid (input_any i (by omega))
  have OU := Lib.hid (output_any i (by omega))
  unfold gV
  have H := Lib.hid h
  dsimp only
  have hB := Lib.hid (fresh1 w (.cells #[.slice va g.c.length vi, .slice vb g.l.length vj, .slice vd g.o.length vk, .slice ve g.h.length vm] 34))
  have OX := Lib.hid (Whole.fresh w 34 #[.slice va g.c.length vi, .slice vb g.l.length vj, .slice vd g.o.length vk, .slice ve g.h.length vm])
  have HR := Lib.hid (h.below hB.out)
  obtain ⟨b1, o1, hA, hb1, c0, c1, c2, c3, c4, c5⟩ := at_oq HR.out.o hx
  change vd = _ at hA
  subst hA
  have hv : loopV g i out = if (x.k = 7 ∧ out = false) ∨ (x.k = 8 ∧ out = true) then (match g.l[x.l.toNat]? with | none => -1 | some y => y.u) else x.l := by unfold loopV; rw [hx]; rfl
  rw [hv]
  clear h H hv
  obtain ⟨R, hR⟩ : ∃ R, (if (x.k = 7 ∧ out = false) ∨ (x.k = 8 ∧ out = true) then (match g.l[x.l.toNat]? with | none => -1 | some y => y.u) else x.l) = R := ⟨_, rfl⟩
  rw [hR]
  replace hR := Lib.hid hR
  go_enter Tryd.func42, Tryd.ntmps42
  go_upto_region 1 with fail
  change Code.wp _ _ _ _ (w.alloc (.cells #[.slice va g.c.length vi, .slice vb g.l.length vj, .slice (some ⟨b1, o1, none⟩) g.o.length vk, .slice ve g.h.length vm] 34))
  generalize w.alloc (.cells #[.slice va g.c.length vi, .slice vb g.l.length vj, .slice (some ⟨b1, o1, none⟩) g.o.length vk, .slice ve g.h.length vm] 34) = w1 at OX hB HR hb1 c0 c1 c2 c3 c4 c5 ⊢
  obtain ⟨gg, hgg⟩ : ∃ gg, w.heap.size = gg := ⟨_, rfl⟩
  rw [hgg] at OX ⊢
  clear hgg
  have k2 : w1.cell? ⟨gg, 2, none⟩ = some (.slice (some ⟨b1, o1, none⟩) g.o.length vk) := OX.out.read 2
  go_upto_region 3 with fail
  change Code.wp _ _ _ _ (w1.alloc (.cells #[sV x.n, .int .i64 x.k, .int .i64 x.l, .int .i64 x.a, .int .i64 x.x, .int .i64 x.y] 74))
  have hW := fresh1 w1 (.cells #[sV x.n, .int .i64 x.k, .int .i64 x.l, .int .i64 x.a, .int .i64 x.x, .int .i64 x.y] 74)
  have OW := Lib.hid (Whole.fresh w1 74 #[sV x.n, .int .i64 x.k, .int .i64 x.l, .int .i64 x.a, .int .i64 x.x, .int .i64 x.y])
  have OG := OX.out.below hW OX.out.inside
  have H2 := Lib.hid (HR.out.below hW)
  have B2 := Lib.hid (hB.out.trans (hW.mono hB.out.size))
  clear OX HR hB hW c0 c1 c2 c3 c4 c5 hb1 k2
  generalize w1.alloc (.cells #[sV x.n, .int .i64 x.k, .int .i64 x.l, .int .i64 x.a, .int .i64 x.x, .int .i64 x.y] 74) = w2 at OW OG H2 B2 ⊢
  generalize w1.heap.size = r at OW ⊢
  have d1 : w2.cell? ⟨r, 1, none⟩ = some (.int .i64 x.k) := OW.out.read 1
  have d2 : w2.cell? ⟨r, 2, none⟩ = some (.int .i64 x.l) := OW.out.read 2
  have k1 : w2.cell? ⟨gg, 1, none⟩ = some (.slice vb g.l.length vj) := OG.read 1
  clear OG OW hx hq hq2
  cases out
  · replace hp : p = 2 * (i : Int) := by simpa using hp.out
    have hp1 : (p == 2 * (i : Int)) = true := by rw [hp]; simp
    have hp2 : (p == 2 * (i : Int) + 1) = false := by rw [beq_eq_false_iff_ne]; omega
    clear hp
    by_cases hk : x.k = 7
    · have hl2 := hl (.inl hk)
      obtain ⟨m, hm⟩ : ∃ m : Nat, x.l = m := ⟨x.l.toNat, by omega⟩
      obtain ⟨y, hy⟩ : ∃ y, g.l[m]? = some y := ⟨g.l[m]'(by omega), List.getElem?_eq_getElem (by omega)⟩
      obtain rfl : y.u = R := by rw [← hR.out, if_pos (by simp [hk]), hm, Int.toNat_natCast, hy]
      obtain ⟨b3, o3, hA3, hb3, e0, e1, e2⟩ := at_lo H2.out.l hy
      change vb = _ at hA3
      subst hA3
      rw [hm] at d2
      rw [hk] at d1
      have hml : m < g.l.length := by omega
      clear e0 e2 H2 hR hy hl
      go_wp2_with (first | (go_at_call 46; refine (IN.out _).mono ?_; rintro e w4 ⟨rfl, rfl⟩) | (go_at_call 67; refine (OU.out _).mono ?_; rintro e w4 ⟨rfl, rfl⟩))
      go_ret
      exact ⟨rfl, B2.out⟩
    by_cases hk8 : x.k = 8
    · have hk := hk8
      have hl2 := hl (.inr hk)
      obtain rfl : x.l = R := by rw [← hR.out, if_neg (by simp [hk])]
      clear H2 hR hl
      rw [hk] at d1
      go_wp2_with (first | (go_at_call 46; refine (IN.out _).mono ?_; rintro e w4 ⟨rfl, rfl⟩) | (go_at_call 67; refine (OU.out _).mono ?_; rintro e w4 ⟨rfl, rfl⟩))
      go_ret
      exact ⟨rfl, B2.out⟩
    · have f1 : (x.k == 7) = false := by rw [beq_eq_false_iff_ne]; exact hk
      have f2 : (x.k == 8) = false := by rw [beq_eq_false_iff_ne]; exact hk8
      obtain rfl : x.l = R := by rw [← hR.out, if_neg (by simp [hk, hk8])]
      clear H2 hR hl
      go_wp2_with (first | (go_at_call 46; refine (IN.out _).mono ?_; rintro e w4 ⟨rfl, rfl⟩) | (go_at_call 67; refine (OU.out _).mono ?_; rintro e w4 ⟨rfl, rfl⟩))
      go_ret
      exact ⟨rfl, B2.out⟩
  · replace hp : p = 2 * (i : Int) + 1 := by simpa using hp.out
    have hp1 : (p == 2 * (i : Int)) = false := by rw [beq_eq_false_iff_ne]; omega
    have hp2 : (p == 2 * (i : Int) + 1) = true := by rw [hp]; simp
    clear hp
    by_cases hk : x.k = 7
    · have hl2 := hl (.inl hk)
      obtain rfl : x.l = R := by rw [← hR.out, if_neg (by simp [hk])]
      clear H2 hR hl
      rw [hk] at d1
      go_wp2_with (first | (go_at_call 46; refine (IN.out _).mono ?_; rintro e w4 ⟨rfl, rfl⟩) | (go_at_call 67; refine (OU.out _).mono ?_; rintro e w4 ⟨rfl, rfl⟩))
      go_ret
      exact ⟨rfl, B2.out⟩
    by_cases hk8 : x.k = 8
    · have hk := hk8
      have hl2 := hl (.inr hk)
      obtain ⟨m, hm⟩ : ∃ m : Nat, x.l = m := ⟨x.l.toNat, by omega⟩
      obtain ⟨y, hy⟩ : ∃ y, g.l[m]? = some y := ⟨g.l[m]'(by omega), List.getElem?_eq_getElem (by omega)⟩
      obtain rfl : y.u = R := by rw [← hR.out, if_pos (by simp [hk]), hm, Int.toNat_natCast, hy]
      obtain ⟨b3, o3, hA3, hb3, e0, e1, e2⟩ := at_lo H2.out.l hy
      change vb = _ at hA3
      subst hA3
      rw [hm] at d2
      rw [hk] at d1
      have hml : m < g.l.length := by omega
      clear e0 e2 H2 hR hy hl
      go_wp2_with (first | (go_at_call 46; refine (IN.out _).mono ?_; rintro e w4 ⟨rfl, rfl⟩) | (go_at_call 67; refine (OU.out _).mono ?_; rintro e w4 ⟨rfl, rfl⟩))
      go_ret
      exact ⟨rfl, B2.out⟩
    · have f1 : (x.k == 7) = false := by rw [beq_eq_false_iff_ne]; exact hk
      have f2 : (x.k == 8) = false := by rw [beq_eq_false_iff_ne]; exact hk8
      obtain rfl : x.l = R := by rw [← hR.out, if_neg (by simp [hk, hk8])]
      clear H2 hR hl
      go_wp2_with (first | (go_at_call 46; refine (IN.out _).mono ?_; rintro e w4 ⟨rfl, rfl⟩) | (go_at_call 67; refine (OU.out _).mono ?_; rintro e w4 ⟨rfl, rfl⟩))
      go_ret
      exact ⟨rfl, B2.out⟩
end Go.Proofs.YtlbphlhbofjfgaaDoor.graph
