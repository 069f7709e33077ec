/-
  The numbers that operators of a kind may have, as the program tells it.
-/
import Derived.Test.YtlbphlhbofjfgaaDoorJGw
namespace Go.Proofs.YtlbphlhbofjfgaaDoor.graph
open Go.ChangeShapes Go.WideShapes Go.ChangeAt Go.RowKit Go.Shelf
open Go.Proofs.YtlbphlhbofjfgaaDoor.opened Go.Proofs.YtlbphlhbofjfgaaDoor.block Go.Proofs.YtlbphlhbofjfgaaDoor.words
abbrev oqC (x : Oq) : Array Value := #[sV x.n, .int .i64 x.k, .int .i64 x.l, .int .i64 x.a, .int .i64 x.x, .int .i64 x.y]
set_option maxRecDepth 100000 in
theorem nums_walk (n : Bs) (k : Nat) (l a x y : Int) (h1 : 1 ≤ k) (h2 : k ≤ 14) (A1 A2 B1 B2 : Int) (w : World) (hlo : 0 < w.heap.size)
    (c3 : w.cell? ⟨0, k * 7 + 3, none⟩ = some (.int .i64 A1)) (c4 : w.cell? ⟨0, k * 7 + 4, none⟩ = some (.int .i64 A2))
    (c5 : w.cell? ⟨0, k * 7 + 5, none⟩ = some (.int .i64 B1)) (c6 : w.cell? ⟨0, k * 7 + 6, none⟩ = some (.int .i64 B2)) :
    Calls Tryd.prog 66 #[.agg #[sV n, .int .i64 k, .int .i64 l, .int .i64 a, .int .i64 x, .int .i64 y]] w fun e w' => e = .returned (.bool (if k = 4 ∧ x ≤ y then false else decide (A1 ≤ x ∧ x ≤ A2) && decide (B1 ≤ y ∧ y ≤ B2))) ∧ Below w.heap.size w w' := by
  have P1 := Lib.hid (holds_any A1 A2 x)
  have P2 := Lib.hid (holds_any B1 B2 y)
  have hB := Lib.hid (fresh1 w (.cells #[sV n, .int .i64 k, .int .i64 l, .int .i64 a, .int .i64 x, .int .i64 y] 74))
  have OX := Lib.hid (Whole.fresh w 74 #[sV n, .int .i64 k, .int .i64 l, .int .i64 a, .int .i64 x, .int .i64 y])
  have t3 := (hB.out.cell (p := ⟨0, k * 7 + 3, none⟩) hlo).trans c3
  have t4 := (hB.out.cell (p := ⟨0, k * 7 + 4, none⟩) hlo).trans c4
  have t5 := (hB.out.cell (p := ⟨0, k * 7 + 5, none⟩) hlo).trans c5
  have t6 := (hB.out.cell (p := ⟨0, k * 7 + 6, none⟩) hlo).trans c6
  have lo := Nat.lt_of_lt_of_le hlo hB.out.size
  clear c3 c4 c5 c6
  obtain ⟨R, hR⟩ : ∃ R, (if k = 4 ∧ x ≤ y then false else decide (A1 ≤ x ∧ x ≤ A2) && decide (B1 ≤ y ∧ y ≤ B2)) = R := ⟨_, rfl⟩
  rw [hR]
  replace hR := Lib.hid hR
  go_enter Tryd.func66, Tryd.ntmps66
  go_upto_region 1 with fail
  change Code.wp _ _ _ _ (w.alloc (.cells #[sV n, .int .i64 k, .int .i64 l, .int .i64 a, .int .i64 x, .int .i64 y] 74))
  generalize w.alloc (.cells #[sV n, .int .i64 k, .int .i64 l, .int .i64 a, .int .i64 x, .int .i64 y] 74) = w1 at OX hB t3 t4 t5 t6 lo ⊢
  obtain ⟨r, hr⟩ : ∃ r, w.heap.size = r := ⟨_, rfl⟩
  rw [hr] at OX ⊢
  clear hr
  have d1 : w1.cell? ⟨r, 1, none⟩ = some (.int .i64 k) := OX.out.read 1
  have d4 : w1.cell? ⟨r, 4, none⟩ = some (.int .i64 x) := OX.out.read 4
  have d5 : w1.cell? ⟨r, 5, none⟩ = some (.int .i64 y) := OX.out.read 5
  by_cases hk : k = 4 ∧ x ≤ y
  · obtain rfl : false = R := by rw [← hR.out, if_pos hk]
    obtain ⟨rfl, hxy⟩ := hk
    clear hR
    go_wp2_with fail
    go_ret
    exact ⟨rfl, hB.out⟩
  · replace hR := Lib.hid ((if_neg hk).symm.trans hR.out)
    have s1 : ∀ y : Since w1, y.1.cell? ⟨r, 1, none⟩ = some (.int .i64 k) := fun y => (OX.out.below y.2 OX.out.inside).read 1
    have s4 : ∀ y : Since w1, y.1.cell? ⟨r, 4, none⟩ = some (.int .i64 x) := fun y => (OX.out.below y.2 OX.out.inside).read 4
    have s5 : ∀ z : Since w1, z.1.cell? ⟨r, 5, none⟩ = some (.int .i64 y) := fun z => (OX.out.below z.2 OX.out.inside).read 5
    have u3 : ∀ y : Since w1, y.1.cell? ⟨0, k * 7 + 3, none⟩ = some (.int .i64 A1) := fun y => (y.2.cell (p := ⟨0, k * 7 + 3, none⟩) lo).trans t3
    have u4 : ∀ y : Since w1, y.1.cell? ⟨0, k * 7 + 4, none⟩ = some (.int .i64 A2) := fun y => (y.2.cell (p := ⟨0, k * 7 + 4, none⟩) lo).trans t4
    have u5 : ∀ y : Since w1, y.1.cell? ⟨0, k * 7 + 5, none⟩ = some (.int .i64 B1) := fun y => (y.2.cell (p := ⟨0, k * 7 + 5, none⟩) lo).trans t5
    have u6 : ∀ y : Since w1, y.1.cell? ⟨0, k * 7 + 6, none⟩ = some (.int .i64 B2) := fun y => (y.2.cell (p := ⟨0, k * 7 + 6, none⟩) lo).trans t6
    have hk4 : (k = 4 ∧ y < x) ∨ ((k : Int) == 4) = false := by
      by_cases e : k = 4
      · exact .inl ⟨e, by omega⟩
      · exact .inr (by rw [beq_eq_false_iff_ne]; omega)
    rcases hk4 with ⟨rfl, hxy⟩ | hk4
    · clear hk
      go_upto_region 3 with fail
      clear d1 d4 d5 t3 t4 t5 t6
      cases e1 : decide (A1 ≤ x ∧ x ≤ A2)
      · rw [e1] at P1
        obtain rfl : false = R := by rw [← hR.out, e1]; rfl
        replace P1 := Lib.hid P1.out
        clear e1 hR
        refine region_since w1 (by kernel_rfl) (by kernel_rfl) (Below.refl _ _) ?_
        repeat (go_big_quiet_step ((go_at_call 85; with_reducible exact since_call P1.out _)))
        refine wpQuiet_nil ?_
        rintro w4 ⟨z, rfl⟩
        have hz := hB.out.trans (z.2.mono hB.out.size)
        clear s1 s4 s5 u3 u4 u5 u6 P1 P2 OX
        go_wp2_with fail
        go_ret
        exact ⟨rfl, hz⟩
      · rw [e1] at P1
        cases e2 : decide (B1 ≤ y ∧ y ≤ B2)
        all_goals
          rw [e2] at P2
          rw [e1, e2] at hR
          obtain rfl := hR.out
          clear e1 e2 hR
          refine region_since w1 (by kernel_rfl) (by kernel_rfl) (Below.refl _ _) ?_
          repeat (go_big_quiet_step ((go_at_call 85; first | with_reducible exact since_call P1.out _ | with_reducible exact since_call P2.out _)))
          refine wpQuiet_nil ?_
          rintro w4 ⟨z, rfl⟩
          have hz := hB.out.trans (z.2.mono hB.out.size)
          clear s1 s4 s5 u3 u4 u5 u6 P1 P2 OX
          go_wp2_with fail
          go_ret
          exact ⟨rfl, hz⟩
    · clear hk
      go_upto_region 3 with fail
      clear d1 d4 d5 t3 t4 t5 t6
      cases e1 : decide (A1 ≤ x ∧ x ≤ A2)
      · rw [e1] at P1
        obtain rfl : false = R := by rw [← hR.out, e1]; rfl
        replace P1 := Lib.hid P1.out
        clear e1 hR
        refine region_since w1 (by kernel_rfl) (by kernel_rfl) (Below.refl _ _) ?_
        repeat (go_big_quiet_step ((go_at_call 85; with_reducible exact since_call P1.out _)))
        refine wpQuiet_nil ?_
        rintro w4 ⟨z, rfl⟩
        have hz := hB.out.trans (z.2.mono hB.out.size)
        clear s1 s4 s5 u3 u4 u5 u6 P1 P2 OX
        go_wp2_with fail
        go_ret
        exact ⟨rfl, hz⟩
      · rw [e1] at P1
        cases e2 : decide (B1 ≤ y ∧ y ≤ B2)
        all_goals
          rw [e2] at P2
          rw [e1, e2] at hR
          obtain rfl := hR.out
          clear e1 e2 hR
          refine region_since w1 (by kernel_rfl) (by kernel_rfl) (Below.refl _ _) ?_
          repeat (go_big_quiet_step ((go_at_call 85; first | with_reducible exact since_call P1.out _ | with_reducible exact since_call P2.out _)))
          refine wpQuiet_nil ?_
          rintro w4 ⟨z, rfl⟩
          have hz := hB.out.trans (z.2.mono hB.out.size)
          clear s1 s4 s5 u3 u4 u5 u6 P1 P2 OX
          go_wp2_with fail
          go_ret
          exact ⟨rfl, hz⟩
/-- The numbers that an operator may have are those that its kind's row says. -/
theorem nums_any (x : Oq) (h1 : 1 ≤ x.k) (h2 : x.k ≤ 14) (ix : I64 x.x) (iy : I64 x.y) (w : World) (K : KT w) :
    Calls Tryd.prog 66 #[.agg (oqC x)] w fun e w' => e = .returned (.bool (numsB x.k x.x x.y)) ∧ Below w.heap.size w w' := by
  obtain ⟨n, k0, l, a, p, q⟩ := x
  dsimp only at h1 h2 ix iy ⊢
  obtain ⟨k, rfl⟩ : ∃ k : Nat, k0 = k := ⟨k0.toNat, by omega⟩
  have g1 : 1 ≤ k := by omega
  have g2 : k ≤ 14 := by omega
  have C := fun i hi => K.c k (by omega) i hi
  have S : ∀ (A1 A2 B1 B2 : Int), (kRow k)[3]? = some (.int .i64 A1) → (kRow k)[4]? = some (.int .i64 A2) → (kRow k)[5]? = some (.int .i64 B1) → (kRow k)[6]? = some (.int .i64 B2) →
      (if k = 4 ∧ p ≤ q then false else decide (A1 ≤ p ∧ p ≤ A2) && decide (B1 ≤ q ∧ q ≤ B2)) = numsB k p q →
      Calls Tryd.prog 66 #[.agg (oqC ⟨n, k, l, a, p, q⟩)] w fun e w' => e = .returned (.bool (numsB k p q)) ∧ Below w.heap.size w w' := fun A1 A2 B1 B2 a3 a4 a5 a6 e => by
    have W := nums_walk n k l a p q g1 g2 A1 A2 B1 B2 w K.lo ((C 3 (by decide)).trans a3) ((C 4 (by decide)).trans a4) ((C 5 (by decide)).trans a5) ((C 6 (by decide)).trans a6)
    rw [e] at W
    exact W
  clear C K
  rcases (show k = 1 ∨ k = 2 ∨ k = 3 ∨ k = 4 ∨ k = 5 ∨ k = 6 ∨ k = 7 ∨ k = 8 ∨ k = 9 ∨ k = 10 ∨ k = 11 ∨ k = 12 ∨ k = 13 ∨ k = 14 by omega) with rfl | rfl | rfl | rfl | rfl | rfl | rfl | rfl | rfl | rfl | rfl | rfl | rfl | rfl
  · exact S (0) (0) (0) (0) rfl rfl rfl rfl (by rw [Bool.eq_iff_iff]; simp [numsB]; try omega)
  · exact S (0) (0) (0) (0) rfl rfl rfl rfl (by rw [Bool.eq_iff_iff]; simp [numsB]; try omega)
  · exact S (-9223372036854775808) (9223372036854775807) (-9223372036854775808) (9223372036854775807) rfl rfl rfl rfl (by rw [Bool.eq_iff_iff]; simp [numsB]; try omega)
  · exact S (1) (1000) (0) (999) rfl rfl rfl rfl (by rw [Bool.eq_iff_iff]; simp [numsB]; try omega)
  · exact S (0) (0) (0) (0) rfl rfl rfl rfl (by rw [Bool.eq_iff_iff]; simp [numsB]; try omega)
  · exact S (1) (1000) (0) (0) rfl rfl rfl rfl (by rw [Bool.eq_iff_iff]; simp [numsB]; try omega)
  · exact S (0) (0) (0) (0) rfl rfl rfl rfl (by rw [Bool.eq_iff_iff]; simp [numsB]; try omega)
  · exact S (0) (0) (0) (0) rfl rfl rfl rfl (by rw [Bool.eq_iff_iff]; simp [numsB]; try omega)
  · exact S (0) (0) (0) (0) rfl rfl rfl rfl (by rw [Bool.eq_iff_iff]; simp [numsB]; try omega)
  · exact S (0) (1000) (0) (0) rfl rfl rfl rfl (by rw [Bool.eq_iff_iff]; simp [numsB]; try omega)
  · exact S (0) (0) (0) (0) rfl rfl rfl rfl (by rw [Bool.eq_iff_iff]; simp [numsB]; try omega)
  · exact S (0) (0) (0) (0) rfl rfl rfl rfl (by rw [Bool.eq_iff_iff]; simp [numsB]; try omega)
  · exact S (0) (0) (0) (0) rfl rfl rfl rfl (by rw [Bool.eq_iff_iff]; simp [numsB]; try omega)
  · exact S (0) (0) (0) (0) rfl rfl rfl rfl (by rw [Bool.eq_iff_iff]; simp [numsB]; try omega)
end Go.Proofs.YtlbphlhbofjfgaaDoor.graph
