/-
  What is wrong with a graph's loops, as the program tells it (by gen_gl.py).
-/
import Derived.Test.YtpblpjopinllcaaGreatDoorJLayG
namespace Go.Proofs.YtpblpjopinllcaaGreatDoor.graph
open Go.ChangeShapes Go.WideShapes Go.ChangeAt Go.RowKit Go.Shelf
open Go.Proofs.YtpblpjopinllcaaGreatDoor.opened Go.Proofs.YtpblpjopinllcaaGreatDoor.block Go.Proofs.YtpblpjopinllcaaGreatDoor.words
set_option maxRecDepth 100000 in
theorem loops_any (v : Gv) (g : Gr) (F : Fit v g) (h4 : g.l.length ≤ 6) (w : World) (h : Lies4 w v g) :
    Calls Tryz.prog 88 #[gV v g] w fun e w' => e = .returned (.int .i64 (firstE (loE g.l) g.l.length)) ∧ Below w.heap.size w w' := by
  have HF := Lib.hid F
  obtain ⟨va, vb, vd, ve, vi, vj, vk, vm⟩ := v
  unfold gV
  have H := Lib.hid h
  dsimp only
  obtain ⟨E, hE⟩ : ∃ E, firstE (loE g.l) g.l.length = E := ⟨_, rfl⟩
  rw [hE]
  replace hE := Lib.hid hE
  have hB := Lib.hid (fresh1 w (.cells #[.slice va g.c.length vi, .slice vb g.l.length vj, .slice vd g.o.length vk, .slice ve g.h.length vm] 27))
  have OX := Lib.hid (Whole.fresh w 27 #[.slice va g.c.length vi, .slice vb g.l.length vj, .slice vd g.o.length vk, .slice ve g.h.length vm])
  clear h F
  go_enter Tryz.func88, Tryz.ntmps88
  go_upto_region 1 with fail
  change Code.wp _ _ _ _ (w.alloc (.cells #[.slice va g.c.length vi, .slice vb g.l.length vj, .slice vd g.o.length vk, .slice ve g.h.length vm] 27))
  generalize w.alloc (.cells #[.slice va g.c.length vi, .slice vb g.l.length vj, .slice vd g.o.length vk, .slice ve g.h.length vm] 27) = w1 at OX hB ⊢
  obtain ⟨gg, hgg⟩ : ∃ gg, w.heap.size = gg := ⟨_, rfl⟩
  rw [hgg] at OX ⊢
  clear hgg
  have k0 : w1.cell? ⟨gg, 1, none⟩ = some (.slice vb g.l.length vj) := OX.out.read 1
  go_wp2_with fail
  clear k0
  go_loopw [9] (fun a wr => ∃ i : Nat, i ≤ g.l.length ∧ a = .int .i64 i ∧ Hid (firstE (loE g.l) i = 0) ∧ Hid (Below w1.heap.size w1 wr)) (fun a _ => (g.l.length - intOf a).toNat)
  case atStart => exact ⟨0, by omega, rfl, Lib.hid rfl, Lib.hid (Below.refl _ _)⟩
  case round =>
    obtain ⟨i, hi, rfl, Z, Br⟩ := hrel
    have BB := Lib.hid (hB.out.trans (Br.out.mono hB.out.size))
    have OG := Lib.hid (OX.out.below Br.out OX.out.inside)
    have HR := Lib.hid (H.out.below BB.out)
    by_cases hin : i = g.l.length
    · have e0 : E = 0 := by rw [← hE.out, ← Z.out, hin]
      subst e0
      clear Z
      have hlt : ¬ ((i : Int) < g.l.length) := by omega
      go_wp2_with fail
      go_ret
      exact ⟨rfl, BB.out⟩
    · have hlt : i < g.l.length := by omega
      obtain ⟨x, hx⟩ : ∃ x, g.l[i]? = some x := ⟨g.l[i], List.getElem?_eq_getElem hlt⟩
      obtain ⟨b1, o1, hA, hb1, c0, c1, c2⟩ := at_lo HR.out.l hx
      obtain ⟨N, hN⟩ : ∃ N, nameE ((g.l.take i).map (·.n)) x.n = N := ⟨_, rfl⟩
      have hcl : loE g.l i = if N ≠ 0 then N else if x.u < -1 ∨ (i : Int) ≤ x.u ∨ x.r < 1 ∨ 8 < x.r then 1 else if 3 < deepL g.l i then 10 else 0 := by unfold loE; rw [hx]; dsimp only; rw [hN]
      have NM := fun (w : World) (hw : Lg 3 cLo w vb g.l) => nm_lo vb vj g.l i x hx (by omega) HF.out.j (HF.out.l x (List.mem_of_getElem? hx)) w hw
      rw [hN] at NM
      replace NM := Lib.hid NM
      replace hcl := Lib.hid hcl
      clear hN
      have k0 : wr.cell? ⟨gg, 1, none⟩ = some (.slice vb g.l.length vj) := OG.out.read 1
      change vb = _ at hA
      subst hA
      go_upto_region 4 with fail
      change Code.wp _ _ _ _ (wr.alloc (.cells #[sV x.n, .int .i64 x.u, .int .i64 x.r] 144))
      have hW := fresh1 wr (.cells #[sV x.n, .int .i64 x.u, .int .i64 x.r] 144)
      have OW := Lib.hid (Whole.fresh wr 144 #[sV x.n, .int .i64 x.u, .int .i64 x.r])
      have OG2 := OG.out.below hW OG.out.inside
      have H2 := Lib.hid (HR.out.below hW)
      have B2 := Lib.hid (BB.out.trans (hW.mono BB.out.size))
      have D2 := Lib.hid (Br.out.trans (hW.mono Br.out.size))
      clear OG HR BB Br hW c0 c1 c2 hb1 k0
      generalize wr.alloc (.cells #[sV x.n, .int .i64 x.u, .int .i64 x.r] 144) = w2 at OW OG2 H2 B2 D2 ⊢
      generalize wr.heap.size = r at OW ⊢
      have k0 : w2.cell? ⟨gg, 1, none⟩ = some (.slice (some ⟨b1, o1, none⟩) g.l.length vj) := OG2.read 1
      replace OG2 := Lib.hid OG2
      by_cases hN0 : N = 0
      · subst hN0
        replace hcl := Lib.hid (hcl.out.trans (if_neg (by simp)))
        go_upto_region 7 with (go_at_call 159; refine (NM.out _ H2.out.l).mono ?_; rintro e w3 ⟨rfl, b3⟩)
        have B3 := Lib.hid (B2.out.trans (b3.mono B2.out.size))
        have D3 := Lib.hid (D2.out.trans (b3.mono D2.out.size))
        have q1 : w3.cell? ⟨r, 1, none⟩ = some (.int .i64 x.u) := (OW.out.below b3 OW.out.inside).read 1
        have q2 : w3.cell? ⟨r, 2, none⟩ = some (.int .i64 x.r) := (OW.out.below b3 OW.out.inside).read 2
        have G3 := OG2.out.below b3 OG2.out.inside
        have g0 : w3.cell? ⟨gg, 0, none⟩ = some (.slice va g.c.length vi) := G3.read 0
        have g1 : w3.cell? ⟨gg, 1, none⟩ = some (.slice (some ⟨b1, o1, none⟩) g.l.length vj) := G3.read 1
        have g2 : w3.cell? ⟨gg, 2, none⟩ = some (.slice vd g.o.length vk) := G3.read 2
        have g3 : w3.cell? ⟨gg, 3, none⟩ = some (.slice ve g.h.length vm) := G3.read 3
        have H3 := Lib.hid (H2.out.below b3)
        clear b3 B2 D2 H2 OW NM k0 H OG2 G3
        by_cases a : x.u < -1 ∨ (i : Int) ≤ x.u ∨ x.r < 1 ∨ 8 < x.r
        · obtain rfl : 1 = E := by rw [← hE.out, first_stop Z.out (by rw [hcl.out, if_pos a]; decide) _ hlt, hcl.out, if_pos a]
          clear hcl Z
          rcases Classical.em (x.u < -1) with a1 | a1
          · clear a; go_wp2_with fail
            go_ret
            exact ⟨rfl, B3.out⟩
          rcases Classical.em ((i : Int) ≤ x.u) with a2 | a2
          · clear a; go_wp2_with fail
            go_ret
            exact ⟨rfl, B3.out⟩
          rcases Classical.em (x.r < 1) with a3 | a3
          · clear a; go_wp2_with fail
            go_ret
            exact ⟨rfl, B3.out⟩
          have a4 : 8 < x.r := by omega
          clear a
          go_wp2_with fail
          go_ret
          exact ⟨rfl, B3.out⟩
        · replace hcl := Lib.hid (hcl.out.trans (if_neg a))
          have a1 : ¬ x.u < -1 := by omega
          have a2 : ¬ (i : Int) ≤ x.u := by omega
          have a3 : ¬ x.r < 1 := by omega
          have a4 : ¬ 8 < x.r := by omega
          clear a
          have HU : UpOk g.l (i + 1) := fun j y hj hy => by
            by_cases hji : j = i
            · subst hji
              rw [hx] at hy
              cases hy
              omega
            · exact up_of Z.out j y (by omega) hy
          have DE := depth_any ⟨va, some ⟨b1, o1, none⟩, vd, ve, vi, vj, vk, vm⟩ g (i + 1) hlt HU i (by omega) (by omega) h4 w3 H3.out
          unfold gV at DE
          dsimp only at DE
          have hd : deepL g.l i ≤ 7 := by
            have := deep_le HU ((i : Int) + 1).toNat i (by omega) (by omega)
            unfold deepL
            omega
          generalize deepL g.l i = dd at DE hcl hd
          replace DE := Lib.hid DE
          clear HU H3
          by_cases a5 : 3 < dd
          · obtain rfl : 10 = E := by rw [← hE.out, first_stop Z.out (by rw [hcl.out, if_pos a5]; decide) _ hlt, hcl.out, if_pos a5]
            clear hcl Z
            go_wp2_with (go_at_call 92; refine DE.out.mono ?_; rintro e w4 ⟨rfl, b4⟩)
            go_ret
            exact ⟨rfl, B3.out.trans (b4.mono B3.out.size)⟩
          · have Z2 := Lib.hid ((first_next Z.out).trans (by rw [hcl.out, if_neg a5]))
            clear hcl Z hE
            go_wp2_with (go_at_call 92; refine DE.out.mono ?_; rintro e w4 ⟨rfl, b4⟩)
            go_roundw
            case rel => exact ⟨i + 1, hlt, by go_num, Z2, Lib.hid (D3.out.trans (b4.mono D3.out.size))⟩
            case measure => simp [intOf]; omega
      · have hN1 : (N == 0) = false := by rw [beq_eq_false_iff_ne]; exact hN0
        obtain rfl : N = E := by rw [← hE.out, first_stop Z.out (by rw [hcl.out, if_pos hN0]; exact hN0) _ hlt, hcl.out, if_pos hN0]
        clear hcl Z
        go_wp2_with (go_at_call 159; refine (NM.out _ H2.out.l).mono ?_; rintro e w3 ⟨rfl, b3⟩)
        go_ret
        exact ⟨rfl, B2.out.trans (b3.mono B2.out.size)⟩
end Go.Proofs.YtpblpjopinllcaaGreatDoor.graph
