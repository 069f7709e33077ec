/-
  What is wrong with a graph's operators, as the program tells it (by gen_go9.py).
-/
import Derived.Test.YtlbphlhbofjfgaaDoorJGx
namespace Go.Proofs.YtlbphlhbofjfgaaDoor.graph
open Go.ChangeShapes Go.WideShapes Go.ChangeAt Go.RowKit Go.Shelf
open Go.Proofs.YtlbphlhbofjfgaaDoor.opened Go.Proofs.YtlbphlhbofjfgaaDoor.block Go.Proofs.YtlbphlhbofjfgaaDoor.words
set_option maxRecDepth 100000 in
theorem ops_any (v : Gv) (g : Gr) (F : Fit v g) (I : g.In) (h4 : g.o.length ≤ 24) (h6 : g.l.length ≤ 6) (w : World) (h : Lies4 w v g) (K : KT w) :
    Calls Tryd.prog 35 #[gV v g] w fun e w' => e = .returned (.int .i64 (firstE (oqE g) g.o.length)) ∧ Below w.heap.size w w' := by
  have HF := Lib.hid F
  obtain ⟨va, vb, vd, ve, vi, vj, vk, vm⟩ := v
  unfold gV
  have H := Lib.hid h
  dsimp only
  obtain ⟨E, hE⟩ : ∃ E, firstE (oqE g) g.o.length = E := ⟨_, rfl⟩
  rw [hE]
  replace hE := Lib.hid hE
  have hB := Lib.hid (fresh1 w (.cells #[.slice va g.c.length vi, .slice vb g.l.length vj, .slice vd g.o.length vk, .slice ve g.h.length vm] 34))
  have OX := Lib.hid (Whole.fresh w 34 #[.slice va g.c.length vi, .slice vb g.l.length vj, .slice vd g.o.length vk, .slice ve g.h.length vm])
  have HK := Lib.hid K
  have II := Lib.hid I.o
  clear h F K I
  go_enter Tryd.func35, Tryd.ntmps35
  go_upto_region 1 with fail
  change Code.wp _ _ _ _ (w.alloc (.cells #[.slice va g.c.length vi, .slice vb g.l.length vj, .slice vd g.o.length vk, .slice ve g.h.length vm] 34))
  generalize w.alloc (.cells #[.slice va g.c.length vi, .slice vb g.l.length vj, .slice vd g.o.length vk, .slice ve g.h.length vm] 34) = w1 at OX hB ⊢
  obtain ⟨gg, hgg⟩ : ∃ gg, w.heap.size = gg := ⟨_, rfl⟩
  rw [hgg] at OX ⊢
  clear hgg
  have k0 : w1.cell? ⟨gg, 2, none⟩ = some (.slice vd g.o.length vk) := OX.out.read 2
  go_wp2_with fail
  clear k0
  go_loopw [9] (fun a wr => ∃ i : Nat, i ≤ g.o.length ∧ a = .int .i64 i ∧ Hid (firstE (oqE g) i = 0) ∧ Hid (Below w1.heap.size w1 wr)) (fun a _ => (g.o.length - intOf a).toNat)
  case atStart => exact ⟨0, by omega, rfl, Lib.hid rfl, Lib.hid (Below.refl _ _)⟩
  case round =>
    obtain ⟨i, hi, rfl, Z, Br⟩ := hrel
    have BB := Lib.hid (hB.out.trans (Br.out.mono hB.out.size))
    have OG := Lib.hid (OX.out.below Br.out OX.out.inside)
    have HR := Lib.hid (H.out.below BB.out)
    by_cases hin : i = g.o.length
    · have e0 : E = 0 := by rw [← hE.out, ← Z.out, hin]
      subst e0
      clear Z
      have hlt : ¬ ((i : Int) < g.o.length) := by omega
      go_wp2_with fail
      go_ret
      exact ⟨rfl, BB.out⟩
    · have hlt : i < g.o.length := by omega
      obtain ⟨x, hx⟩ : ∃ x, g.o[i]? = some x := ⟨g.o[i], List.getElem?_eq_getElem hlt⟩
      obtain ⟨b1, o1, hA, hb1, c0, c1, c2, c3, c4, c5⟩ := at_oq HR.out.o hx
      obtain ⟨N, hN⟩ : ∃ N, nameE ((g.o.take i).map (·.n)) x.n = N := ⟨_, rfl⟩
      have hcl : oqE g i = if N ≠ 0 then N else opE g x := by unfold oqE; rw [hx]; dsimp only; rw [hN]
      have NM := fun (w : World) (hw : Lg 6 cOq w vd g.o) => nm_oq vd vk g.o i x hx (by omega) HF.out.k (HF.out.o x (List.mem_of_getElem? hx)) w hw
      rw [hN] at NM
      replace NM := Lib.hid NM
      replace hcl := Lib.hid hcl
      clear hN
      have k0 : wr.cell? ⟨gg, 2, none⟩ = some (.slice vd g.o.length vk) := OG.out.read 2
      change vd = _ at hA
      subst hA
      go_upto_region 4 with fail
      change Code.wp _ _ _ _ (wr.alloc (.cells (oqC x) 74))
      have hW := fresh1 wr (.cells (oqC x) 74)
      have OW := Lib.hid (Whole.fresh wr 74 (oqC x))
      have OG2 := OG.out.below hW OG.out.inside
      have H2 := Lib.hid (HR.out.below hW)
      have B2 := Lib.hid (BB.out.trans (hW.mono BB.out.size))
      have D2 := Lib.hid (Br.out.trans (hW.mono Br.out.size))
      clear OG HR BB Br hW c0 c1 c2 c3 c4 c5 hb1 k0
      generalize wr.alloc (.cells (oqC x) 74) = w2 at OW OG2 H2 B2 D2 ⊢
      generalize wr.heap.size = r at OW ⊢
      have k0 : w2.cell? ⟨gg, 2, none⟩ = some (.slice (some ⟨b1, o1, none⟩) g.o.length vk) := OG2.read 2
      replace OG2 := Lib.hid OG2
      by_cases hN0 : N = 0
      · subst hN0
        replace hcl := Lib.hid (hcl.out.trans (if_neg (by simp)))
        go_upto_region 7 with (go_at_call 64; refine (NM.out _ H2.out.o).mono ?_; rintro e w3 ⟨rfl, b3⟩)
        have B3 := Lib.hid (B2.out.trans (b3.mono B2.out.size))
        have D3 := Lib.hid (D2.out.trans (b3.mono D2.out.size))
        have q1 : w3.cell? ⟨r, 1, none⟩ = some (.int .i64 x.k) := (OW.out.below b3 OW.out.inside).read 1
        have q2 : w3.cell? ⟨r, 2, none⟩ = some (.int .i64 x.l) := (OW.out.below b3 OW.out.inside).read 2
        have q3 : w3.cell? ⟨r, 3, none⟩ = some (.int .i64 x.a) := (OW.out.below b3 OW.out.inside).read 3
        have O3 := Lib.hid (OW.out.below b3 OW.out.inside)
        have G3 := OG2.out.below b3 OG2.out.inside
        have g0 : w3.cell? ⟨gg, 0, none⟩ = some (.slice va g.c.length vi) := G3.read 0
        have g1 : w3.cell? ⟨gg, 1, none⟩ = some (.slice vb g.l.length vj) := G3.read 1
        have K3 := Lib.hid (HK.out.below B3.out)
        have ix := (II.out x (List.mem_of_getElem? hx)).2.2.2
        have hl0 : g.l.length ≤ 6 := h6
        clear b3 B2 D2 H2 OW NM k0 H OG2 G3
        by_cases ak : x.k < 1 ∨ 14 < x.k
        · obtain rfl : 70 = E := by rw [← hE.out, first_stop Z.out (by rw [hcl.out]; unfold opE; rw [if_pos ak]; decide) _ hlt, hcl.out]; unfold opE; rw [if_pos ak]
          clear hcl Z
          rcases Classical.em (x.k < 1) with a1 | a1
          · clear ak
            go_wp2_with fail
            go_ret
            exact ⟨rfl, B3.out⟩
          have a2 : 15 ≤ x.k := by omega
          clear ak
          go_wp2_with fail
          go_ret
          exact ⟨rfl, B3.out⟩
        have f1 : ¬ x.k < 1 := by omega
        have f2 : ¬ 15 ≤ x.k := by omega
        by_cases al : x.l < -1 ∨ (g.l.length : Int) ≤ x.l ∨ x.a < 0 ∨ (g.c.length : Int) ≤ x.a
        · obtain rfl : 1 = E := by rw [← hE.out, first_stop Z.out (by rw [hcl.out]; unfold opE; rw [if_neg ak, if_pos al]; decide) _ hlt, hcl.out]; unfold opE; rw [if_neg ak, if_pos al]
          clear hcl Z ak
          rcases Classical.em (x.l < -1) with a1 | a1
          · clear al
            go_wp2_with fail
            go_ret
            exact ⟨rfl, B3.out⟩
          rcases Classical.em ((g.l.length : Int) ≤ x.l) with a2 | a2
          · clear al
            go_wp2_with fail
            go_ret
            exact ⟨rfl, B3.out⟩
          rcases Classical.em (x.a < 0) with a3 | a3
          · clear al
            go_wp2_with fail
            go_ret
            exact ⟨rfl, B3.out⟩
          have a4 : (g.c.length : Int) ≤ x.a := by omega
          clear al
          go_wp2_with fail
          go_ret
          exact ⟨rfl, B3.out⟩
        have a1 : ¬ x.l < -1 := by omega
        have a2 : ¬ (g.l.length : Int) ≤ x.l := by omega
        have a3 : ¬ x.a < 0 := by omega
        have a4 : ¬ (g.c.length : Int) ≤ x.a := by omega
        have WA : ∀ w, KT w → Calls Tryd.prog 65 #[.int .i64 x.k, .int .i64 x.l] w fun e w' => e = .returned (.bool (whereB x.k x.l)) ∧ Below w.heap.size w w' := fun w K => by
          have := where_any x.k.toNat (by omega) (by omega) x.l w K
          rw [show ((x.k.toNat : Nat) : Int) = x.k by omega] at this
          exact this
        have NA : ∀ w, KT w → Calls Tryd.prog 66 #[.agg (oqC x)] w fun e w' => e = .returned (.bool (numsB x.k x.x x.y)) ∧ Below w.heap.size w w' := fun w K => nums_any x (by omega) (by omega) ix.1 ix.2 w K
        have hop : opE g x = if whereB x.k x.l = false then 10 else if numsB x.k x.x x.y = false then 1 else 0 := by unfold opE; rw [if_neg ak, if_neg al]
        replace hcl := Lib.hid (hcl.out.trans hop)
        clear ak al hop ix
        cases e1 : whereB x.k x.l
        · obtain rfl : 10 = E := by rw [← hE.out, first_stop Z.out (by rw [hcl.out, if_pos e1]; decide) _ hlt, hcl.out, if_pos e1]
          rw [e1] at WA
          replace WA := Lib.hid WA
          replace NA := Lib.hid NA
          clear hcl Z e1
          go_wp2_with (go_at_call 65; refine (WA.out _ K3.out).mono ?_; rintro e w4 ⟨rfl, b4⟩)
          go_ret
          exact ⟨rfl, B3.out.trans (b4.mono B3.out.size)⟩
        replace hcl := Lib.hid (hcl.out.trans (if_neg (by rw [e1]; decide)))
        rw [e1] at WA
        replace WA := Lib.hid WA
        clear e1
        cases e2 : numsB x.k x.x x.y
        · obtain rfl : 1 = E := by rw [← hE.out, first_stop Z.out (by rw [hcl.out, if_pos e2]; decide) _ hlt, hcl.out, if_pos e2]
          rw [e2] at NA
          replace NA := Lib.hid NA
          clear hcl Z e2
          go_upto_region 13 with (go_at_call 65; refine (WA.out _ K3.out).mono ?_; rintro e w4 ⟨rfl, b4⟩)
          have B4 := Lib.hid (B3.out.trans (b4.mono B3.out.size))
          have K4 := Lib.hid (K3.out.below b4)
          have p := (O3.out.below b4 O3.out.inside).read
          clear b4 q1 q2 q3 g0 g1
          go_wp2_with (go_at_call 66; refine (NA.out _ K4.out).mono ?_; rintro e w5 ⟨rfl, b5⟩)
          go_ret
          exact ⟨rfl, B4.out.trans (b5.mono B4.out.size)⟩
        · have Z2 := Lib.hid ((first_next Z.out).trans (hcl.out.trans (if_neg (by rw [e2]; decide))))
          rw [e2] at NA
          replace NA := Lib.hid NA
          clear hcl Z hE e2
          go_upto_region 13 with (go_at_call 65; refine (WA.out _ K3.out).mono ?_; rintro e w4 ⟨rfl, b4⟩)
          have B4 := Lib.hid (B3.out.trans (b4.mono B3.out.size))
          have D4 := Lib.hid (D3.out.trans (b4.mono D3.out.size))
          have K4 := Lib.hid (K3.out.below b4)
          have p := (O3.out.below b4 O3.out.inside).read
          clear b4 q1 q2 q3 g0 g1
          go_wp2_with (go_at_call 66; refine (NA.out _ K4.out).mono ?_; rintro e w5 ⟨rfl, b5⟩)
          go_roundw
          case rel => exact ⟨i + 1, hlt, by go_num, Z2, Lib.hid (D4.out.trans (b5.mono D4.out.size))⟩
          case measure => simp [intOf]; omega
      · have hN1 : (N == 0) = false := by rw [beq_eq_false_iff_ne]; exact hN0
        obtain rfl : N = E := by rw [← hE.out, first_stop Z.out (by rw [hcl.out, if_pos hN0]; exact hN0) _ hlt, hcl.out, if_pos hN0]
        clear hcl Z
        go_wp2_with (go_at_call 64; refine (NM.out _ H2.out.o).mono ?_; rintro e w3 ⟨rfl, b3⟩)
        go_ret
        exact ⟨rfl, B2.out.trans (b3.mono B2.out.size)⟩
end Go.Proofs.YtlbphlhbofjfgaaDoor.graph
