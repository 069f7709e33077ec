/-
  The numbers that operators of a kind may have, as the program tells it.
  What is wrong with a graph's operators, as the program tells it (by gen_go9.py).
-/
import Derived.Test.YtpblpjopinllcaaGreatDoorJGw
namespace Go.Proofs.YtpblpjopinllcaaGreatDoor.graph
open Go.ChangeShapes Go.WideShapes Go.ChangeAt Go.RowKit Go.Shelf
open Go.Proofs.YtpblpjopinllcaaGreatDoor.opened Go.Proofs.YtpblpjopinllcaaGreatDoor.block Go.Proofs.YtpblpjopinllcaaGreatDoor.words
abbrev oqC (x : Oq) : Array Value := #[sV x.n, .int .i64 x.k, .int .i64 x.l, .int .i64 x.a, .int .i64 x.x, .int .i64 x.y]
set_option maxRecDepth 100000 in
theorem nums_walk (n : Bs) (k : Nat) (l a x y : Int) (h1 : 1 ≤ k) (h2 : k ≤ 14) (A1 A2 B1 B2 : Int) (w : World) (hlo : 0 < w.heap.size)
    (c3 : w.cell? ⟨0, k * 7 + 3, none⟩ = some (.int .i64 A1)) (c4 : w.cell? ⟨0, k * 7 + 4, none⟩ = some (.int .i64 A2))
    (c5 : w.cell? ⟨0, k * 7 + 5, none⟩ = some (.int .i64 B1)) (c6 : w.cell? ⟨0, k * 7 + 6, none⟩ = some (.int .i64 B2)) :
    Calls Tryz.prog 162 #[.agg #[sV n, .int .i64 k, .int .i64 l, .int .i64 a, .int .i64 x, .int .i64 y]] w fun e w' => e = .returned (.bool (if k = 4 ∧ x ≤ y then false else decide (A1 ≤ x ∧ x ≤ A2) && decide (B1 ≤ y ∧ y ≤ B2))) ∧ Below w.heap.size w w' := by
  have P1 := Lib.hid (holds_any A1 A2 x)
  have P2 := Lib.hid (holds_any B1 B2 y)
  have hB := Lib.hid (fresh1 w (.cells #[sV n, .int .i64 k, .int .i64 l, .int .i64 a, .int .i64 x, .int .i64 y] 145))
  have OX := Lib.hid (Whole.fresh w 145 #[sV n, .int .i64 k, .int .i64 l, .int .i64 a, .int .i64 x, .int .i64 y])
  have t3 := (hB.out.cell (p := ⟨0, k * 7 + 3, none⟩) hlo).trans c3
  have t4 := (hB.out.cell (p := ⟨0, k * 7 + 4, none⟩) hlo).trans c4
  have t5 := (hB.out.cell (p := ⟨0, k * 7 + 5, none⟩) hlo).trans c5
  have t6 := (hB.out.cell (p := ⟨0, k * 7 + 6, none⟩) hlo).trans c6
  have lo := Nat.lt_of_lt_of_le hlo hB.out.size
  clear c3 c4 c5 c6
  obtain ⟨R, hR⟩ : ∃ R, (if k = 4 ∧ x ≤ y then false else decide (A1 ≤ x ∧ x ≤ A2) && decide (B1 ≤ y ∧ y ≤ B2)) = R := ⟨_, rfl⟩
  rw [hR]
  replace hR := Lib.hid hR
  go_enter Tryz.func162, Tryz.ntmps162
  go_upto_region 1 with fail
  change Code.wp _ _ _ _ (w.alloc (.cells #[sV n, .int .i64 k, .int .i64 l, .int .i64 a, .int .i64 x, .int .i64 y] 145))
  generalize w.alloc (.cells #[sV n, .int .i64 k, .int .i64 l, .int .i64 a, .int .i64 x, .int .i64 y] 145) = w1 at OX hB t3 t4 t5 t6 lo ⊢
  obtain ⟨r, hr⟩ : ∃ r, w.heap.size = r := ⟨_, rfl⟩
  rw [hr] at OX ⊢
  clear hr
  have d1 : w1.cell? ⟨r, 1, none⟩ = some (.int .i64 k) := OX.out.read 1
  have d4 : w1.cell? ⟨r, 4, none⟩ = some (.int .i64 x) := OX.out.read 4
  have d5 : w1.cell? ⟨r, 5, none⟩ = some (.int .i64 y) := OX.out.read 5
  by_cases hk : k = 4 ∧ x ≤ y
  · obtain rfl : false = R := by rw [← hR.out, if_pos hk]
    obtain ⟨rfl, hxy⟩ := hk
    clear hR
    go_wp2_with fail
    go_ret
    exact ⟨rfl, hB.out⟩
  · replace hR := Lib.hid ((if_neg hk).symm.trans hR.out)
    have s1 : ∀ y : Since w1, y.1.cell? ⟨r, 1, none⟩ = some (.int .i64 k) := fun y => (OX.out.below y.2 OX.out.inside).read 1
    have s4 : ∀ y : Since w1, y.1.cell? ⟨r, 4, none⟩ = some (.int .i64 x) := fun y => (OX.out.below y.2 OX.out.inside).read 4
    have s5 : ∀ z : Since w1, z.1.cell? ⟨r, 5, none⟩ = some (.int .i64 y) := fun z => (OX.out.below z.2 OX.out.inside).read 5
    have u3 : ∀ y : Since w1, y.1.cell? ⟨0, k * 7 + 3, none⟩ = some (.int .i64 A1) := fun y => (y.2.cell (p := ⟨0, k * 7 + 3, none⟩) lo).trans t3
    have u4 : ∀ y : Since w1, y.1.cell? ⟨0, k * 7 + 4, none⟩ = some (.int .i64 A2) := fun y => (y.2.cell (p := ⟨0, k * 7 + 4, none⟩) lo).trans t4
    have u5 : ∀ y : Since w1, y.1.cell? ⟨0, k * 7 + 5, none⟩ = some (.int .i64 B1) := fun y => (y.2.cell (p := ⟨0, k * 7 + 5, none⟩) lo).trans t5
    have u6 : ∀ y : Since w1, y.1.cell? ⟨0, k * 7 + 6, none⟩ = some (.int .i64 B2) := fun y => (y.2.cell (p := ⟨0, k * 7 + 6, none⟩) lo).trans t6
    have hk4 : (k = 4 ∧ y < x) ∨ ((k : Int) == 4) = false := by
      by_cases e : k = 4
      · exact .inl ⟨e, by omega⟩
      · exact .inr (by rw [beq_eq_false_iff_ne]; omega)
    rcases hk4 with ⟨rfl, hxy⟩ | hk4
    · clear hk
      go_upto_region 3 with fail
      clear d1 d4 d5 t3 t4 t5 t6
      cases e1 : decide (A1 ≤ x ∧ x ≤ A2)
      · rw [e1] at P1
        obtain rfl : false = R := by rw [← hR.out, e1]; rfl
        replace P1 := Lib.hid P1.out
        clear e1 hR
        refine region_since w1 (by kernel_rfl) (by kernel_rfl) (Below.refl _ _) ?_
        repeat (go_big_quiet_step ((go_at_call 242; with_reducible exact since_call P1.out _)))
        refine wpQuiet_nil ?_
        rintro w4 ⟨z, rfl⟩
        have hz := hB.out.trans (z.2.mono hB.out.size)
        clear s1 s4 s5 u3 u4 u5 u6 P1 P2 OX
        go_wp2_with fail
        go_ret
        exact ⟨rfl, hz⟩
      · rw [e1] at P1
        cases e2 : decide (B1 ≤ y ∧ y ≤ B2)
        all_goals
          rw [e2] at P2
          rw [e1, e2] at hR
          obtain rfl := hR.out
          clear e1 e2 hR
          refine region_since w1 (by kernel_rfl) (by kernel_rfl) (Below.refl _ _) ?_
          repeat (go_big_quiet_step ((go_at_call 242; first | with_reducible exact since_call P1.out _ | with_reducible exact since_call P2.out _)))
          refine wpQuiet_nil ?_
          rintro w4 ⟨z, rfl⟩
          have hz := hB.out.trans (z.2.mono hB.out.size)
          clear s1 s4 s5 u3 u4 u5 u6 P1 P2 OX
          go_wp2_with fail
          go_ret
          exact ⟨rfl, hz⟩
    · clear hk
      go_upto_region 3 with fail
      clear d1 d4 d5 t3 t4 t5 t6
      cases e1 : decide (A1 ≤ x ∧ x ≤ A2)
      · rw [e1] at P1
        obtain rfl : false = R := by rw [← hR.out, e1]; rfl
        replace P1 := Lib.hid P1.out
        clear e1 hR
        refine region_since w1 (by kernel_rfl) (by kernel_rfl) (Below.refl _ _) ?_
        repeat (go_big_quiet_step ((go_at_call 242; with_reducible exact since_call P1.out _)))
        refine wpQuiet_nil ?_
        rintro w4 ⟨z, rfl⟩
        have hz := hB.out.trans (z.2.mono hB.out.size)
        clear s1 s4 s5 u3 u4 u5 u6 P1 P2 OX
        go_wp2_with fail
        go_ret
        exact ⟨rfl, hz⟩
      · rw [e1] at P1
        cases e2 : decide (B1 ≤ y ∧ y ≤ B2)
        all_goals
          rw [e2] at P2
          rw [e1, e2] at hR
          obtain rfl := hR.out
          clear e1 e2 hR
          refine region_since w1 (by kernel_rfl) (by kernel_rfl) (Below.refl _ _) ?_
          repeat (go_big_quiet_step ((go_at_call 242; first | with_reducible exact since_call P1.out _ | with_reducible exact since_call P2.out _)))
          refine wpQuiet_nil ?_
          rintro w4 ⟨z, rfl⟩
          have hz := hB.out.trans (z.2.mono hB.out.size)
          clear s1 s4 s5 u3 u4 u5 u6 P1 P2 OX
          go_wp2_with fail
          go_ret
          exact ⟨rfl, hz⟩
/-- The numbers that an operator may have are those that its kind's row says. -/
theorem nums_any (x : Oq) (h1 : 1 ≤ x.k) (h2 : x.k ≤ 14) (ix : I64 x.x) (iy : I64 x.y) (w : World) (K : KT w) :
    Calls Tryz.prog 162 #[.agg (oqC x)] w fun e w' => e = .returned (.bool (numsB x.k x.x x.y)) ∧ Below w.heap.size w w' := by
  obtain ⟨n, k0, l, a, p, q⟩ := x
  dsimp only at h1 h2 ix iy ⊢
  obtain ⟨k, rfl⟩ : ∃ k : Nat, k0 = k := ⟨k0.toNat, by omega⟩
  have g1 : 1 ≤ k := by omega
  have g2 : k ≤ 14 := by omega
  have C := fun i hi => K.c k (by omega) i hi
  have S : ∀ (A1 A2 B1 B2 : Int), (kRow k)[3]? = some (.int .i64 A1) → (kRow k)[4]? = some (.int .i64 A2) → (kRow k)[5]? = some (.int .i64 B1) → (kRow k)[6]? = some (.int .i64 B2) →
      (if k = 4 ∧ p ≤ q then false else decide (A1 ≤ p ∧ p ≤ A2) && decide (B1 ≤ q ∧ q ≤ B2)) = numsB k p q →
      Calls Tryz.prog 162 #[.agg (oqC ⟨n, k, l, a, p, q⟩)] w fun e w' => e = .returned (.bool (numsB k p q)) ∧ Below w.heap.size w w' := fun A1 A2 B1 B2 a3 a4 a5 a6 e => by
    have W := nums_walk n k l a p q g1 g2 A1 A2 B1 B2 w K.lo ((C 3 (by decide)).trans a3) ((C 4 (by decide)).trans a4) ((C 5 (by decide)).trans a5) ((C 6 (by decide)).trans a6)
    rw [e] at W
    exact W
  clear C K
  rcases (show k = 1 ∨ k = 2 ∨ k = 3 ∨ k = 4 ∨ k = 5 ∨ k = 6 ∨ k = 7 ∨ k = 8 ∨ k = 9 ∨ k = 10 ∨ k = 11 ∨ k = 12 ∨ k = 13 ∨ k = 14 by omega) with rfl | rfl | rfl | rfl | rfl | rfl | rfl | rfl | rfl | rfl | rfl | rfl | rfl | rfl
  · exact S (0) (0) (0) (0) rfl rfl rfl rfl (by rw [Bool.eq_iff_iff]; simp [numsB]; try omega)
  · exact S (0) (0) (0) (0) rfl rfl rfl rfl (by rw [Bool.eq_iff_iff]; simp [numsB]; try omega)
  · exact S (-9223372036854775808) (9223372036854775807) (-9223372036854775808) (9223372036854775807) rfl rfl rfl rfl (by rw [Bool.eq_iff_iff]; simp [numsB]; try omega)
  · exact S (1) (1000) (0) (999) rfl rfl rfl rfl (by rw [Bool.eq_iff_iff]; simp [numsB]; try omega)
  · exact S (0) (0) (0) (0) rfl rfl rfl rfl (by rw [Bool.eq_iff_iff]; simp [numsB]; try omega)
  · exact S (1) (1000) (0) (0) rfl rfl rfl rfl (by rw [Bool.eq_iff_iff]; simp [numsB]; try omega)
  · exact S (0) (0) (0) (0) rfl rfl rfl rfl (by rw [Bool.eq_iff_iff]; simp [numsB]; try omega)
  · exact S (0) (0) (0) (0) rfl rfl rfl rfl (by rw [Bool.eq_iff_iff]; simp [numsB]; try omega)
  · exact S (0) (0) (0) (0) rfl rfl rfl rfl (by rw [Bool.eq_iff_iff]; simp [numsB]; try omega)
  · exact S (0) (1000) (0) (0) rfl rfl rfl rfl (by rw [Bool.eq_iff_iff]; simp [numsB]; try omega)
  · exact S (0) (0) (0) (0) rfl rfl rfl rfl (by rw [Bool.eq_iff_iff]; simp [numsB]; try omega)
  · exact S (0) (0) (0) (0) rfl rfl rfl rfl (by rw [Bool.eq_iff_iff]; simp [numsB]; try omega)
  · exact S (0) (0) (0) (0) rfl rfl rfl rfl (by rw [Bool.eq_iff_iff]; simp [numsB]; try omega)
  · exact S (0) (0) (0) (0) rfl rfl rfl rfl (by rw [Bool.eq_iff_iff]; simp [numsB]; try omega)
end Go.Proofs.YtpblpjopinllcaaGreatDoor.graph
namespace Go.Proofs.YtpblpjopinllcaaGreatDoor.graph
open Go.ChangeShapes Go.WideShapes Go.ChangeAt Go.RowKit Go.Shelf
open Go.Proofs.YtpblpjopinllcaaGreatDoor.opened Go.Proofs.YtpblpjopinllcaaGreatDoor.block Go.Proofs.YtpblpjopinllcaaGreatDoor.words
set_option maxRecDepth 100000 in
theorem ops_any (v : Gv) (g : Gr) (F : Fit v g) (I : g.In) (h4 : g.o.length ≤ 24) (h6 : g.l.length ≤ 6) (w : World) (h : Lies4 w v g) (K : KT w) :
    Calls Tryz.prog 89 #[gV v g] w fun e w' => e = .returned (.int .i64 (firstE (oqE g) g.o.length)) ∧ Below w.heap.size w w' := by
  have HF := Lib.hid F
  obtain ⟨va, vb, vd, ve, vi, vj, vk, vm⟩ := v
  unfold gV
  have H := Lib.hid h
  dsimp only
  obtain ⟨E, hE⟩ : ∃ E, firstE (oqE g) g.o.length = E := ⟨_, rfl⟩
  rw [hE]
  replace hE := Lib.hid hE
  have hB := Lib.hid (fresh1 w (.cells #[.slice va g.c.length vi, .slice vb g.l.length vj, .slice vd g.o.length vk, .slice ve g.h.length vm] 27))
  have OX := Lib.hid (Whole.fresh w 27 #[.slice va g.c.length vi, .slice vb g.l.length vj, .slice vd g.o.length vk, .slice ve g.h.length vm])
  have HK := Lib.hid K
  have II := Lib.hid I.o
  clear h F K I
  go_enter Tryz.func89, Tryz.ntmps89
  go_upto_region 1 with fail
  change Code.wp _ _ _ _ (w.alloc (.cells #[.slice va g.c.length vi, .slice vb g.l.length vj, .slice vd g.o.length vk, .slice ve g.h.length vm] 27))
  generalize w.alloc (.cells #[.slice va g.c.length vi, .slice vb g.l.length vj, .slice vd g.o.length vk, .slice ve g.h.length vm] 27) = w1 at OX hB ⊢
  obtain ⟨gg, hgg⟩ : ∃ gg, w.heap.size = gg := ⟨_, rfl⟩
  rw [hgg] at OX ⊢
  clear hgg
  have k0 : w1.cell? ⟨gg, 2, none⟩ = some (.slice vd g.o.length vk) := OX.out.read 2
  go_wp2_with fail
  clear k0
  go_loopw [9] (fun a wr => ∃ i : Nat, i ≤ g.o.length ∧ a = .int .i64 i ∧ Hid (firstE (oqE g) i = 0) ∧ Hid (Below w1.heap.size w1 wr)) (fun a _ => (g.o.length - intOf a).toNat)
  case atStart => exact ⟨0, by omega, rfl, Lib.hid rfl, Lib.hid (Below.refl _ _)⟩
  case round =>
    obtain ⟨i, hi, rfl, Z, Br⟩ := hrel
    have BB := Lib.hid (hB.out.trans (Br.out.mono hB.out.size))
    have OG := Lib.hid (OX.out.below Br.out OX.out.inside)
    have HR := Lib.hid (H.out.below BB.out)
    by_cases hin : i = g.o.length
    · have e0 : E = 0 := by rw [← hE.out, ← Z.out, hin]
      subst e0
      clear Z
      have hlt : ¬ ((i : Int) < g.o.length) := by omega
      go_wp2_with fail
      go_ret
      exact ⟨rfl, BB.out⟩
    · have hlt : i < g.o.length := by omega
      obtain ⟨x, hx⟩ : ∃ x, g.o[i]? = some x := ⟨g.o[i], List.getElem?_eq_getElem hlt⟩
      obtain ⟨b1, o1, hA, hb1, c0, c1, c2, c3, c4, c5⟩ := at_oq HR.out.o hx
      obtain ⟨N, hN⟩ : ∃ N, nameE ((g.o.take i).map (·.n)) x.n = N := ⟨_, rfl⟩
      have hcl : oqE g i = if N ≠ 0 then N else opE g x := by unfold oqE; rw [hx]; dsimp only; rw [hN]
      have NM := fun (w : World) (hw : Lg 6 cOq w vd g.o) => nm_oq vd vk g.o i x hx (by omega) HF.out.k (HF.out.o x (List.mem_of_getElem? hx)) w hw
      rw [hN] at NM
      replace NM := Lib.hid NM
      replace hcl := Lib.hid hcl
      clear hN
      have k0 : wr.cell? ⟨gg, 2, none⟩ = some (.slice vd g.o.length vk) := OG.out.read 2
      change vd = _ at hA
      subst hA
      go_upto_region 4 with fail
      change Code.wp _ _ _ _ (wr.alloc (.cells (oqC x) 145))
      have hW := fresh1 wr (.cells (oqC x) 145)
      have OW := Lib.hid (Whole.fresh wr 145 (oqC x))
      have OG2 := OG.out.below hW OG.out.inside
      have H2 := Lib.hid (HR.out.below hW)
      have B2 := Lib.hid (BB.out.trans (hW.mono BB.out.size))
      have D2 := Lib.hid (Br.out.trans (hW.mono Br.out.size))
      clear OG HR BB Br hW c0 c1 c2 c3 c4 c5 hb1 k0
      generalize wr.alloc (.cells (oqC x) 145) = w2 at OW OG2 H2 B2 D2 ⊢
      generalize wr.heap.size = r at OW ⊢
      have k0 : w2.cell? ⟨gg, 2, none⟩ = some (.slice (some ⟨b1, o1, none⟩) g.o.length vk) := OG2.read 2
      replace OG2 := Lib.hid OG2
      by_cases hN0 : N = 0
      · subst hN0
        replace hcl := Lib.hid (hcl.out.trans (if_neg (by simp)))
        go_upto_region 7 with (go_at_call 160; refine (NM.out _ H2.out.o).mono ?_; rintro e w3 ⟨rfl, b3⟩)
        have B3 := Lib.hid (B2.out.trans (b3.mono B2.out.size))
        have D3 := Lib.hid (D2.out.trans (b3.mono D2.out.size))
        have q1 : w3.cell? ⟨r, 1, none⟩ = some (.int .i64 x.k) := (OW.out.below b3 OW.out.inside).read 1
        have q2 : w3.cell? ⟨r, 2, none⟩ = some (.int .i64 x.l) := (OW.out.below b3 OW.out.inside).read 2
        have q3 : w3.cell? ⟨r, 3, none⟩ = some (.int .i64 x.a) := (OW.out.below b3 OW.out.inside).read 3
        have O3 := Lib.hid (OW.out.below b3 OW.out.inside)
        have G3 := OG2.out.below b3 OG2.out.inside
        have g0 : w3.cell? ⟨gg, 0, none⟩ = some (.slice va g.c.length vi) := G3.read 0
        have g1 : w3.cell? ⟨gg, 1, none⟩ = some (.slice vb g.l.length vj) := G3.read 1
        have K3 := Lib.hid (HK.out.below B3.out)
        have ix := (II.out x (List.mem_of_getElem? hx)).2.2.2
        have hl0 : g.l.length ≤ 6 := h6
        clear b3 B2 D2 H2 OW NM k0 H OG2 G3
        by_cases ak : x.k < 1 ∨ 14 < x.k
        · obtain rfl : 70 = E := by rw [← hE.out, first_stop Z.out (by rw [hcl.out]; unfold opE; rw [if_pos ak]; decide) _ hlt, hcl.out]; unfold opE; rw [if_pos ak]
          clear hcl Z
          rcases Classical.em (x.k < 1) with a1 | a1
          · clear ak
            go_wp2_with fail
            go_ret
            exact ⟨rfl, B3.out⟩
          have a2 : 15 ≤ x.k := by omega
          clear ak
          go_wp2_with fail
          go_ret
          exact ⟨rfl, B3.out⟩
        have f1 : ¬ x.k < 1 := by omega
        have f2 : ¬ 15 ≤ x.k := by omega
        by_cases al : x.l < -1 ∨ (g.l.length : Int) ≤ x.l ∨ x.a < 0 ∨ (g.c.length : Int) ≤ x.a
        · obtain rfl : 1 = E := by rw [← hE.out, first_stop Z.out (by rw [hcl.out]; unfold opE; rw [if_neg ak, if_pos al]; decide) _ hlt, hcl.out]; unfold opE; rw [if_neg ak, if_pos al]
          clear hcl Z ak
          rcases Classical.em (x.l < -1) with a1 | a1
          · clear al
            go_wp2_with fail
            go_ret
            exact ⟨rfl, B3.out⟩
          rcases Classical.em ((g.l.length : Int) ≤ x.l) with a2 | a2
          · clear al
            go_wp2_with fail
            go_ret
            exact ⟨rfl, B3.out⟩
          rcases Classical.em (x.a < 0) with a3 | a3
          · clear al
            go_wp2_with fail
            go_ret
            exact ⟨rfl, B3.out⟩
          have a4 : (g.c.length : Int) ≤ x.a := by omega
          clear al
          go_wp2_with fail
          go_ret
          exact ⟨rfl, B3.out⟩
        have a1 : ¬ x.l < -1 := by omega
        have a2 : ¬ (g.l.length : Int) ≤ x.l := by omega
        have a3 : ¬ x.a < 0 := by omega
        have a4 : ¬ (g.c.length : Int) ≤ x.a := by omega
        have WA : ∀ w, KT w → Calls Tryz.prog 161 #[.int .i64 x.k, .int .i64 x.l] w fun e w' => e = .returned (.bool (whereB x.k x.l)) ∧ Below w.heap.size w w' := fun w K => by
          have := where_any x.k.toNat (by omega) (by omega) x.l w K
          rw [show ((x.k.toNat : Nat) : Int) = x.k by omega] at this
          exact this
        have NA : ∀ w, KT w → Calls Tryz.prog 162 #[.agg (oqC x)] w fun e w' => e = .returned (.bool (numsB x.k x.x x.y)) ∧ Below w.heap.size w w' := fun w K => nums_any x (by omega) (by omega) ix.1 ix.2 w K
        have hop : opE g x = if whereB x.k x.l = false then 10 else if numsB x.k x.x x.y = false then 1 else 0 := by unfold opE; rw [if_neg ak, if_neg al]
        replace hcl := Lib.hid (hcl.out.trans hop)
        clear ak al hop ix
        cases e1 : whereB x.k x.l
        · obtain rfl : 10 = E := by rw [← hE.out, first_stop Z.out (by rw [hcl.out, if_pos e1]; decide) _ hlt, hcl.out, if_pos e1]
          rw [e1] at WA
          replace WA := Lib.hid WA
          replace NA := Lib.hid NA
          clear hcl Z e1
          go_wp2_with (go_at_call 161; refine (WA.out _ K3.out).mono ?_; rintro e w4 ⟨rfl, b4⟩)
          go_ret
          exact ⟨rfl, B3.out.trans (b4.mono B3.out.size)⟩
        replace hcl := Lib.hid (hcl.out.trans (if_neg (by rw [e1]; decide)))
        rw [e1] at WA
        replace WA := Lib.hid WA
        clear e1
        cases e2 : numsB x.k x.x x.y
        · obtain rfl : 1 = E := by rw [← hE.out, first_stop Z.out (by rw [hcl.out, if_pos e2]; decide) _ hlt, hcl.out, if_pos e2]
          rw [e2] at NA
          replace NA := Lib.hid NA
          clear hcl Z e2
          go_upto_region 13 with (go_at_call 161; refine (WA.out _ K3.out).mono ?_; rintro e w4 ⟨rfl, b4⟩)
          have B4 := Lib.hid (B3.out.trans (b4.mono B3.out.size))
          have K4 := Lib.hid (K3.out.below b4)
          have p := (O3.out.below b4 O3.out.inside).read
          clear b4 q1 q2 q3 g0 g1
          go_wp2_with (go_at_call 162; refine (NA.out _ K4.out).mono ?_; rintro e w5 ⟨rfl, b5⟩)
          go_ret
          exact ⟨rfl, B4.out.trans (b5.mono B4.out.size)⟩
        · have Z2 := Lib.hid ((first_next Z.out).trans (hcl.out.trans (if_neg (by rw [e2]; decide))))
          rw [e2] at NA
          replace NA := Lib.hid NA
          clear hcl Z hE e2
          go_upto_region 13 with (go_at_call 161; refine (WA.out _ K3.out).mono ?_; rintro e w4 ⟨rfl, b4⟩)
          have B4 := Lib.hid (B3.out.trans (b4.mono B3.out.size))
          have D4 := Lib.hid (D3.out.trans (b4.mono D3.out.size))
          have K4 := Lib.hid (K3.out.below b4)
          have p := (O3.out.below b4 O3.out.inside).read
          clear b4 q1 q2 q3 g0 g1
          go_wp2_with (go_at_call 162; refine (NA.out _ K4.out).mono ?_; rintro e w5 ⟨rfl, b5⟩)
          go_roundw
          case rel => exact ⟨i + 1, hlt, by go_num, Z2, Lib.hid (D4.out.trans (b5.mono D4.out.size))⟩
          case measure => simp [intOf]; omega
      · have hN1 : (N == 0) = false := by rw [beq_eq_false_iff_ne]; exact hN0
        obtain rfl : N = E := by rw [← hE.out, first_stop Z.out (by rw [hcl.out, if_pos hN0]; exact hN0) _ hlt, hcl.out, if_pos hN0]
        clear hcl Z
        go_wp2_with (go_at_call 160; refine (NM.out _ H2.out.o).mono ?_; rintro e w3 ⟨rfl, b3⟩)
        go_ret
        exact ⟨rfl, B2.out.trans (b3.mono B2.out.size)⟩
end Go.Proofs.YtpblpjopinllcaaGreatDoor.graph
