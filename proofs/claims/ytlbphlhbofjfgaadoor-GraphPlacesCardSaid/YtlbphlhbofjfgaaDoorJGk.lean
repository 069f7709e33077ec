/-
  What is wrong with a graph's clusters, as the program tells it.
-/
import Derived.Test.YtlbphlhbofjfgaaDoorJGn1
namespace Go.Proofs.YtlbphlhbofjfgaaDoor.graph
open Go.ChangeShapes Go.WideShapes Go.ChangeAt Go.RowKit Go.Shelf
open Go.Proofs.YtlbphlhbofjfgaaDoor.opened Go.Proofs.YtlbphlhbofjfgaaDoor.block Go.Proofs.YtlbphlhbofjfgaaDoor.words
/-- The rooms are at least as wide as the rows, and the names are no longer than names that come in. -/
structure Fit (v : Gv) (g : Gr) : Prop where
  i : g.c.length ≤ v.i
  j : g.l.length ≤ v.j
  k : g.o.length ≤ v.k
  m : g.h.length ≤ v.m
  c : ∀ x ∈ g.c, x.n.length ≤ 100000
  l : ∀ x ∈ g.l, x.n.length ≤ 100000
  o : ∀ x ∈ g.o, x.n.length ≤ 100000
set_option maxRecDepth 100000 in
theorem clusters_any (v : Gv) (g : Gr) (F : Fit v g) (h4 : g.c.length ≤ 4) (w : World) (h : Lies4 w v g) :
    Calls Tryd.prog 33 #[gV v g] w fun e w' => e = .returned (.int .i64 (firstE (clE g.c) g.c.length)) ∧ Below w.heap.size w w' := by
  have HF := Lib.hid F
  obtain ⟨va, vb, vd, ve, vi, vj, vk, vm⟩ := v
  unfold gV
  have H := Lib.hid h
  dsimp only
  obtain ⟨E, hE⟩ : ∃ E, firstE (clE g.c) g.c.length = E := ⟨_, rfl⟩
  rw [hE]
  replace hE := Lib.hid hE
  have hB := Lib.hid (fresh1 w (.cells #[.slice va g.c.length vi, .slice vb g.l.length vj, .slice vd g.o.length vk, .slice ve g.h.length vm] 34))
  have OX := Lib.hid (Whole.fresh w 34 #[.slice va g.c.length vi, .slice vb g.l.length vj, .slice vd g.o.length vk, .slice ve g.h.length vm])
  clear h F
  go_enter Tryd.func33, Tryd.ntmps33
  go_upto_region 1 with fail
  change Code.wp _ _ _ _ (w.alloc (.cells #[.slice va g.c.length vi, .slice vb g.l.length vj, .slice vd g.o.length vk, .slice ve g.h.length vm] 34))
  generalize w.alloc (.cells #[.slice va g.c.length vi, .slice vb g.l.length vj, .slice vd g.o.length vk, .slice ve g.h.length vm] 34) = w1 at OX hB ⊢
  obtain ⟨gg, hgg⟩ : ∃ gg, w.heap.size = gg := ⟨_, rfl⟩
  rw [hgg] at OX ⊢
  clear hgg
  have k0 : w1.cell? ⟨gg, 0, none⟩ = some (.slice va g.c.length vi) := OX.out.read 0
  go_wp2_with fail
  clear k0
  go_loopw [9] (fun a wr => ∃ i : Nat, i ≤ g.c.length ∧ a = .int .i64 i ∧ Hid (firstE (clE g.c) i = 0) ∧ Hid (Below w1.heap.size w1 wr)) (fun a _ => (g.c.length - intOf a).toNat)
  case atStart => exact ⟨0, by omega, rfl, Lib.hid rfl, Lib.hid (Below.refl _ _)⟩
  case round =>
    obtain ⟨i, hi, rfl, Z, Br⟩ := hrel
    have BB := Lib.hid (hB.out.trans (Br.out.mono hB.out.size))
    have OG := Lib.hid (OX.out.below Br.out OX.out.inside)
    have HR := Lib.hid (H.out.below BB.out)
    by_cases hin : i = g.c.length
    · have e0 : E = 0 := by rw [← hE.out, ← Z.out, hin]
      subst e0
      clear Z
      have hlt : ¬ ((i : Int) < g.c.length) := by omega
      go_wp2_with fail
      go_ret
      exact ⟨rfl, BB.out⟩
    · have hlt : i < g.c.length := by omega
      obtain ⟨x, hx⟩ : ∃ x, g.c[i]? = some x := ⟨g.c[i], List.getElem?_eq_getElem hlt⟩
      obtain ⟨b1, o1, hA, hb1, c0, c1⟩ := at_cl HR.out.c hx
      obtain ⟨N, hN⟩ : ∃ N, nameE ((g.c.take i).map (·.n)) x.n = N := ⟨_, rfl⟩
      have hcl : clE g.c i = if N ≠ 0 then N else if x.w < 1 ∨ 4 < x.w then 1 else 0 := by unfold clE; rw [hx]; dsimp only; rw [hN]
      have NM := fun (w : World) (hw : Lg 2 cCl w va g.c) => nm_cl va vi g.c i x hx (by omega) HF.out.i (HF.out.c x (List.mem_of_getElem? hx)) w hw
      rw [hN] at NM
      replace NM := Lib.hid NM
      replace hcl := Lib.hid hcl
      clear hN
      have k0 : wr.cell? ⟨gg, 0, none⟩ = some (.slice va g.c.length vi) := OG.out.read 0
      change va = _ at hA
      subst hA
      go_upto_region 4 with fail
      change Code.wp _ _ _ _ (wr.alloc (.cells #[sV x.n, .int .i64 x.w] 72))
      have hW := fresh1 wr (.cells #[sV x.n, .int .i64 x.w] 72)
      have OW := Lib.hid (Whole.fresh wr 72 #[sV x.n, .int .i64 x.w])
      have OG2 := OG.out.below hW OG.out.inside
      have H2 := Lib.hid (HR.out.below hW).c
      have B2 := Lib.hid (BB.out.trans (hW.mono BB.out.size))
      have D2 := Lib.hid (Br.out.trans (hW.mono Br.out.size))
      clear OG HR BB Br hW c0 c1 hb1 k0
      generalize wr.alloc (.cells #[sV x.n, .int .i64 x.w] 72) = w2 at OW OG2 H2 B2 D2 ⊢
      generalize wr.heap.size = r at OW ⊢
      have k0 : w2.cell? ⟨gg, 0, none⟩ = some (.slice (some ⟨b1, o1, none⟩) g.c.length vi) := OG2.read 0
      clear OG2
      by_cases hN0 : N = 0
      · subst hN0
        replace hcl := Lib.hid (hcl.out.trans (if_neg (by simp)))
        go_upto_region 7 with (go_at_call 62; refine (NM.out _ H2.out).mono ?_; rintro e w3 ⟨rfl, b3⟩)
        have B3 := Lib.hid (B2.out.trans (b3.mono B2.out.size))
        have D3 := Lib.hid (D2.out.trans (b3.mono D2.out.size))
        have q1 : w3.cell? ⟨r, 1, none⟩ = some (.int .i64 x.w) := (OW.out.below b3 OW.out.inside).read 1
        clear b3 B2 D2 H2 OW NM k0 H
        by_cases a1 : x.w < 1
        · obtain rfl : 1 = E := by rw [← hE.out, first_stop Z.out (by rw [hcl.out, if_pos (.inl a1)]; decide) _ hlt, hcl.out, if_pos (.inl a1)]
          clear hcl Z
          go_wp2_with fail
          go_ret
          exact ⟨rfl, B3.out⟩
        · by_cases a2 : 4 < x.w
          · obtain rfl : 1 = E := by rw [← hE.out, first_stop Z.out (by rw [hcl.out, if_pos (.inr a2)]; decide) _ hlt, hcl.out, if_pos (.inr a2)]
            clear hcl Z
            go_wp2_with fail
            go_ret
            exact ⟨rfl, B3.out⟩
          · have Z2 := Lib.hid ((first_next Z.out).trans (by rw [hcl.out, if_neg (by omega)]))
            clear hcl Z hE
            go_wp2_with fail
            go_roundw
            case rel => exact ⟨i + 1, hlt, by go_num, Z2, D3⟩
            case measure => simp [intOf]; omega
      · have hN1 : (N == 0) = false := by rw [beq_eq_false_iff_ne]; exact hN0
        obtain rfl : N = E := by rw [← hE.out, first_stop Z.out (by rw [hcl.out, if_pos hN0]; exact hN0) _ hlt, hcl.out, if_pos hN0]
        clear hcl Z
        go_wp2_with (go_at_call 62; refine (NM.out _ H2.out).mono ?_; rintro e w3 ⟨rfl, b3⟩)
        go_ret
        exact ⟨rfl, B2.out.trans (b3.mono B2.out.size)⟩
end Go.Proofs.YtlbphlhbofjfgaaDoor.graph
