/-
  The document's Write (by gen_hp9.py).
-/
import Derived.Test.YtkofocnifncagaaHp7
set_option linter.unusedSimpArgs false
set_option linter.unusedVariables false
namespace Go.Proofs.Ytkofocnifncagaa.hop
open Go.ChangeShapes Go.WideShapes Go.ChangeAt Go.RowKit
open Go.Proofs.Ytkofocnifncagaa.opened Go.Proofs.Ytkofocnifncagaa.block Go.Proofs.Ytkofocnifncagaa.words Go.Proofs.Ytkofocnifncagaa.region Go.Proofs.Ytkofocnifncagaa.enc Go.Proofs.Ytkofocnifncagaa.code Go.Proofs.Ytkofocnifncagaa.crcm Go.Proofs.Ytkofocnifncagaa.crc
section
variable {w : World}
theorem epochR_any (n : Int) : Calls Try.prog 61 #[.int .i64 n] w fun e w' => e = .returned (.bool (decide (1 ≤ n ∧ n ≤ 1073741824))) ∧ Below w.heap.size w w' := by
  by_cases h1 : 1 ≤ n
  · by_cases h2 : n ≤ 1073741824
    · rw [decide_eq_true ⟨h1, h2⟩]
      go_enter Try.func61, Try.ntmps61
      go_wp2_with fail
      go_ret
      exact ⟨rfl, Below.refl _ _⟩
    · rw [decide_eq_false (fun h => h2 h.2)]
      go_enter Try.func61, Try.ntmps61
      go_wp2_with fail
      go_ret
      exact ⟨rfl, Below.refl _ _⟩
  · rw [decide_eq_false (fun h => h1 h.1)]
    go_enter Try.func61, Try.ntmps61
    go_wp2_with fail
    go_ret
    exact ⟨rfl, Below.refl _ _⟩
theorem chk_six {f : Fm} (h : ¬ ((1 ≤ f.k ∧ f.k ≤ 2) ∧ (0 ≤ f.f ∧ f.f ≤ 1000) ∧ (1 ≤ f.e ∧ f.e ≤ 1073741824)) ∨ ¬ ((leastN f.k ≤ f.n ∧ f.n ≤ 1099511627776) ∧ ¬ (f.k = 2 ∧ f.s ≠ []))) : chkF f = 6 ∧ wrV f = [] := by
  have hc : chkF f = 6 := by
    unfold chkF
    split
    · rename_i h1
      rw [if_neg (fun h2 => h.elim (fun h => h h1) (fun h => h h2))]
    · rfl
  exact ⟨hc, by unfold wrV; rw [hc]; rfl⟩
set_option maxRecDepth 100000 in
set_option maxHeartbeats 8000000 in
theorem writeR_any (f : Fm) (hl : f.s.length ≤ 140737488351232) : Calls Try.prog 30 #[.agg (fmC f)] w fun e w' => e = .returned (.tuple #[sV (wrV f), .int .i64 (chkF f)]) ∧ Below w.heap.size w w' := by
  obtain ⟨k, f, e, n, s⟩ := f
  have hl : s.length ≤ 140737488351232 := hl
  change Calls Try.prog 30 #[.agg #[.int .i64 k, .int .i64 f, .int .i64 e, .int .i64 n, sV s]] w _
  have HE := Lib.hid (fun (w1 : World) => epochR_any (w := w1) e)
  by_cases h1 : 0 ≤ f
  · by_cases h2 : f ≤ 1000
    · by_cases h3 : 1 ≤ e ∧ e ≤ 1073741824
      · have d3 : decide (1 ≤ e ∧ e ≤ 1073741824) = true := decide_eq_true h3
        by_cases h4 : 0 ≤ n
        · by_cases h5 : n ≤ 1099511627776
          · by_cases k1 : k = 1
            · subst k1
              by_cases n0 : n = 0
              · subst n0
                obtain ⟨c1, c2⟩ := chk_six (f := ⟨1, f, e, 0, s⟩) (.inr (fun h => by have := h.1.1; simp [leastN] at this))
                rw [c1, c2]
                clear c1 c2
                have B0 : Hid (Below w.heap.size w (w.alloc (.cells (fmC ⟨1, f, e, 0, s⟩) 56))) := Lib.hid (fresh1 w _)
                have R0 : Hid (Whole (w.alloc (.cells (fmC ⟨1, f, e, 0, s⟩) 56)) w.heap.size 56 (fmC ⟨1, f, e, 0, s⟩)) := Lib.hid (Whole.fresh w 56 _)
                go_enter Try.func30, Try.ntmps30
                go_upto_region 1 with fail
                change Code.wp _ _ _ _ (w.alloc (.cells (fmC ⟨1, f, e, 0, s⟩) 56))
                generalize w.alloc (.cells (fmC ⟨1, f, e, 0, s⟩) 56) = W at B0 R0 ⊢
                generalize w.heap.size = gz at R0 ⊢
                have HK : Hid (∀ w1, Below W.heap.size W w1 → w1.cell? ⟨gz, 0, none⟩ = some (.int .i64 1) ∧ w1.cell? ⟨gz, 1, none⟩ = some (.int .i64 f) ∧ w1.cell? ⟨gz, 2, none⟩ = some (.int .i64 e) ∧ w1.cell? ⟨gz, 3, none⟩ = some (.int .i64 0) ∧ w1.cell? ⟨gz, 4, none⟩ = some (sV s)) := Lib.hid fun w1 hb => by
                  have := R0.out.below hb R0.out.inside
                  exact ⟨this.read 0, this.read 1, this.read 2, this.read 3, this.read 4⟩
                obtain ⟨y0, y1, y2, y3, y4⟩ := HK.out W (Below.refl _ W)
                go_wp2_with (go_at_call 61; (with_reducible refine (HE.out W).mono ?_); rw [d3]; rintro r w1 ⟨rfl, b⟩; have B1 := Lib.hid b; clear y0 y1 y2 y3 y4; obtain ⟨y0, y1, y2, y3, y4⟩ := HK.out _ b; clear b)
                go_ret2
                exact ⟨rfl, then_below B0.out B1.out⟩
              · have n1 : (n == 0) = false := by simpa using n0
                by_cases h7 : 6000 < s.length
                · have hc : chkF ⟨1, f, e, n, s⟩ = 7 := by
                    unfold chkF
                    rw [if_pos ⟨by show (1 : Int) ≤ 1 ∧ (1 : Int) ≤ 2; omega, ⟨h1, h2⟩, h3⟩, if_pos ⟨⟨by show leastN 1 ≤ n; unfold leastN; simp; omega, h5⟩, by simp⟩, if_pos h7]
                  have hv : wrV ⟨1, f, e, n, s⟩ = [] := by unfold wrV; rw [hc]; rfl
                  rw [hc, hv]
                  clear hc hv
                  have h7i : (6000 : Int) < (s.length : Int) := by omega
                  have B0 : Hid (Below w.heap.size w (w.alloc (.cells (fmC ⟨1, f, e, n, s⟩) 56))) := Lib.hid (fresh1 w _)
                  have R0 : Hid (Whole (w.alloc (.cells (fmC ⟨1, f, e, n, s⟩) 56)) w.heap.size 56 (fmC ⟨1, f, e, n, s⟩)) := Lib.hid (Whole.fresh w 56 _)
                  go_enter Try.func30, Try.ntmps30
                  go_upto_region 1 with fail
                  change Code.wp _ _ _ _ (w.alloc (.cells (fmC ⟨1, f, e, n, s⟩) 56))
                  generalize w.alloc (.cells (fmC ⟨1, f, e, n, s⟩) 56) = W at B0 R0 ⊢
                  generalize w.heap.size = gz at R0 ⊢
                  have HK : Hid (∀ w1, Below W.heap.size W w1 → w1.cell? ⟨gz, 0, none⟩ = some (.int .i64 1) ∧ w1.cell? ⟨gz, 1, none⟩ = some (.int .i64 f) ∧ w1.cell? ⟨gz, 2, none⟩ = some (.int .i64 e) ∧ w1.cell? ⟨gz, 3, none⟩ = some (.int .i64 n) ∧ w1.cell? ⟨gz, 4, none⟩ = some (sV s)) := Lib.hid fun w1 hb => by
                    have := R0.out.below hb R0.out.inside
                    exact ⟨this.read 0, this.read 1, this.read 2, this.read 3, this.read 4⟩
                  obtain ⟨y0, y1, y2, y3, y4⟩ := HK.out W (Below.refl _ W)
                  go_wp2_with (go_at_call 61; (with_reducible refine (HE.out W).mono ?_); rw [d3]; rintro r w1 ⟨rfl, b⟩; have B1 := Lib.hid b; clear y0 y1 y2 y3 y4; obtain ⟨y0, y1, y2, y3, y4⟩ := HK.out _ b; clear b)
                  go_ret2
                  exact ⟨rfl, then_below B0.out B1.out⟩
                · have hc : chkF ⟨1, f, e, n, s⟩ = 0 := by
                    unfold chkF
                    rw [if_pos ⟨by show (1 : Int) ≤ 1 ∧ (1 : Int) ≤ 2; omega, ⟨h1, h2⟩, h3⟩, if_pos ⟨⟨by show leastN 1 ≤ n; unfold leastN; simp; omega, h5⟩, by simp⟩, if_neg h7]
                  have hv : wrV ⟨1, f, e, n, s⟩ = sealL (bodyF ⟨1, f, e, n, s⟩) := by unfold wrV; rw [if_pos hc]
                  rw [hc, hv]
                  clear hc hv
                  unfold bodyF
                  have h7i : (s.length : Int) ≤ 6000 := by simp at h7 ⊢ <;> omega
                  have Nk := Lib.hid (fun (w1 : World) => numRI_any 1 (by omega) (by omega) w1)
                  have Nf := Lib.hid (fun (w1 : World) => numRI_any f (by omega) (by omega) w1)
                  have Ne := Lib.hid (fun (w1 : World) => numRI_any e (by omega) (by omega) w1)
                  have Nn := Lib.hid (fun (w1 : World) => numRI_any n (by omega) (by omega) w1)
                  have u2 : IntKind.u64.wrap f = f := by simp only [IntKind.wrap_u64]; omega
                  have u3 : IntKind.u64.wrap e = e := by simp only [IntKind.wrap_u64]; omega
                  have u4 : IntKind.u64.wrap n = n := by simp only [IntKind.wrap_u64]; omega
                  have l1 := len_enc (1 : Int).toNat
                  have l2 := len_enc f.toNat
                  have l3 := len_enc e.toNat
                  have l4 := len_enc n.toNat
                  dsimp only
                  generalize enc (1 : Int).toNat = x1 at Nk l1 ⊢
                  generalize enc f.toNat = x2 at Nf l2 ⊢
                  generalize enc e.toNat = x3 at Ne l3 ⊢
                  generalize enc n.toNat = x4 at Nn l4 ⊢
                  have HS := Lib.hid (fun (w1 : World) => sealR_any (x1 ++ x2 ++ x3 ++ x4 ++ s) (by simp only [List.length_append, List.length_nil]; omega) w1)
                  rw [← cat5] at HS
                  generalize sealL (x1 ++ x2 ++ x3 ++ x4 ++ s) = r at HS ⊢
                  have a1 : ¬ 9223372036854775807 < x1.length + x2.length := by omega
                  have a2 : ¬ 9223372036854775807 < x1.length + x2.length + x3.length := by omega
                  have a3 : ¬ 9223372036854775807 < x1.length + x2.length + x3.length + x4.length := by omega
                  have a4 : ¬ 9223372036854775807 < x1.length + x2.length + x3.length + x4.length + s.length := by simp at h7i ⊢ <;> omega
                  clear l1 l2 l3 l4
                  have B0 : Hid (Below w.heap.size w (w.alloc (.cells (fmC ⟨1, f, e, n, s⟩) 56))) := Lib.hid (fresh1 w _)
                  have R0 : Hid (Whole (w.alloc (.cells (fmC ⟨1, f, e, n, s⟩) 56)) w.heap.size 56 (fmC ⟨1, f, e, n, s⟩)) := Lib.hid (Whole.fresh w 56 _)
                  go_enter Try.func30, Try.ntmps30
                  go_upto_region 1 with fail
                  change Code.wp _ _ _ _ (w.alloc (.cells (fmC ⟨1, f, e, n, s⟩) 56))
                  generalize w.alloc (.cells (fmC ⟨1, f, e, n, s⟩) 56) = W at B0 R0 ⊢
                  generalize w.heap.size = gz at R0 ⊢
                  have HK : Hid (∀ w1, Below W.heap.size W w1 → w1.cell? ⟨gz, 0, none⟩ = some (.int .i64 1) ∧ w1.cell? ⟨gz, 1, none⟩ = some (.int .i64 f) ∧ w1.cell? ⟨gz, 2, none⟩ = some (.int .i64 e) ∧ w1.cell? ⟨gz, 3, none⟩ = some (.int .i64 n) ∧ w1.cell? ⟨gz, 4, none⟩ = some (sV s)) := Lib.hid fun w1 hb => by
                    have := R0.out.below hb R0.out.inside
                    exact ⟨this.read 0, this.read 1, this.read 2, this.read 3, this.read 4⟩
                  obtain ⟨y0, y1, y2, y3, y4⟩ := HK.out W (Below.refl _ W)
                  go_upto_region 6 with (go_at_call 61; (with_reducible refine (HE.out W).mono ?_); rw [d3]; rintro r w1 ⟨rfl, b⟩; have B1 := Lib.hid b; clear y0 y1 y2 y3 y4; obtain ⟨y0, y1, y2, y3, y4⟩ := HK.out _ b; clear b)
                  clear y0 y1 y2 y3 y4
                  have z0 : ∀ y : Since W, y.1.cell? ⟨gz, 0, none⟩ = some (.int .i64 1) := fun y => (HK.out y.1 y.2).1
                  have z1 : ∀ y : Since W, y.1.cell? ⟨gz, 1, none⟩ = some (.int .i64 f) := fun y => (HK.out y.1 y.2).2.1
                  have z2 : ∀ y : Since W, y.1.cell? ⟨gz, 2, none⟩ = some (.int .i64 e) := fun y => (HK.out y.1 y.2).2.2.1
                  have z3 : ∀ y : Since W, y.1.cell? ⟨gz, 3, none⟩ = some (.int .i64 n) := fun y => (HK.out y.1 y.2).2.2.2.1
                  have z4 : ∀ y : Since W, y.1.cell? ⟨gz, 4, none⟩ = some (sV s) := fun y => (HK.out y.1 y.2).2.2.2.2
                  refine region_since W (by kernel_rfl) (by kernel_rfl) B1.out ?_
                  repeat (go_big_quiet_step (first
                    | (go_at_call 63; with_reducible exact since_callW (fun w1 _ => Nk.out w1) _)
                    | (go_at_call 63; with_reducible exact since_callW (fun w1 _ => Nf.out w1) _)
                    | (go_at_call 63; with_reducible exact since_callW (fun w1 _ => Ne.out w1) _)
                    | (go_at_call 63; with_reducible exact since_callW (fun w1 _ => Nn.out w1) _)
                    | (go_at_call 62; with_reducible exact since_callW (fun w1 _ => HS.out w1) _)))
                  refine wpQuiet_nil ?_
                  rintro w4 ⟨z, rfl⟩
                  have B4 := Lib.hid z.2
                  clear z0 z1 z2 z3 z4
                  go_wp2_with fail
                  go_ret2
                  exact ⟨rfl, then_below B0.out B4.out⟩
            · by_cases k2 : k = 2
              · subst k2
                by_cases s0 : s = []
                · subst s0
                  have h7 : ¬ 6000 < ([] : Bs).length := by simp
                  have hc : chkF ⟨2, f, e, n, []⟩ = 0 := by
                    unfold chkF
                    rw [if_pos ⟨by show (1 : Int) ≤ 2 ∧ (2 : Int) ≤ 2; omega, ⟨h1, h2⟩, h3⟩, if_pos ⟨⟨by show leastN 2 ≤ n; unfold leastN; simp; omega, h5⟩, by simp⟩, if_neg h7]
                  have hv : wrV ⟨2, f, e, n, []⟩ = sealL (bodyF ⟨2, f, e, n, []⟩) := by unfold wrV; rw [if_pos hc]
                  rw [hc, hv]
                  clear hc hv
                  unfold bodyF
                  have h7i : (([] : Bs).length : Int) ≤ 6000 := by simp at h7 ⊢ <;> omega
                  have Nk := Lib.hid (fun (w1 : World) => numRI_any 2 (by omega) (by omega) w1)
                  have Nf := Lib.hid (fun (w1 : World) => numRI_any f (by omega) (by omega) w1)
                  have Ne := Lib.hid (fun (w1 : World) => numRI_any e (by omega) (by omega) w1)
                  have Nn := Lib.hid (fun (w1 : World) => numRI_any n (by omega) (by omega) w1)
                  have u2 : IntKind.u64.wrap f = f := by simp only [IntKind.wrap_u64]; omega
                  have u3 : IntKind.u64.wrap e = e := by simp only [IntKind.wrap_u64]; omega
                  have u4 : IntKind.u64.wrap n = n := by simp only [IntKind.wrap_u64]; omega
                  have l1 := len_enc (2 : Int).toNat
                  have l2 := len_enc f.toNat
                  have l3 := len_enc e.toNat
                  have l4 := len_enc n.toNat
                  dsimp only
                  generalize enc (2 : Int).toNat = x1 at Nk l1 ⊢
                  generalize enc f.toNat = x2 at Nf l2 ⊢
                  generalize enc e.toNat = x3 at Ne l3 ⊢
                  generalize enc n.toNat = x4 at Nn l4 ⊢
                  have HS := Lib.hid (fun (w1 : World) => sealR_any (x1 ++ x2 ++ x3 ++ x4 ++ ([] : Bs)) (by simp only [List.length_append, List.length_nil]; omega) w1)
                  rw [← cat5] at HS
                  generalize sealL (x1 ++ x2 ++ x3 ++ x4 ++ ([] : Bs)) = r at HS ⊢
                  have a1 : ¬ 9223372036854775807 < x1.length + x2.length := by omega
                  have a2 : ¬ 9223372036854775807 < x1.length + x2.length + x3.length := by omega
                  have a3 : ¬ 9223372036854775807 < x1.length + x2.length + x3.length + x4.length := by omega
                  have a4 : ¬ 9223372036854775807 < x1.length + x2.length + x3.length + x4.length + ([] : Bs).length := by simp at h7i ⊢ <;> omega
                  clear l1 l2 l3 l4
                  have B0 : Hid (Below w.heap.size w (w.alloc (.cells (fmC ⟨2, f, e, n, []⟩) 56))) := Lib.hid (fresh1 w _)
                  have R0 : Hid (Whole (w.alloc (.cells (fmC ⟨2, f, e, n, []⟩) 56)) w.heap.size 56 (fmC ⟨2, f, e, n, []⟩)) := Lib.hid (Whole.fresh w 56 _)
                  go_enter Try.func30, Try.ntmps30
                  go_upto_region 1 with fail
                  change Code.wp _ _ _ _ (w.alloc (.cells (fmC ⟨2, f, e, n, []⟩) 56))
                  generalize w.alloc (.cells (fmC ⟨2, f, e, n, []⟩) 56) = W at B0 R0 ⊢
                  generalize w.heap.size = gz at R0 ⊢
                  have HK : Hid (∀ w1, Below W.heap.size W w1 → w1.cell? ⟨gz, 0, none⟩ = some (.int .i64 2) ∧ w1.cell? ⟨gz, 1, none⟩ = some (.int .i64 f) ∧ w1.cell? ⟨gz, 2, none⟩ = some (.int .i64 e) ∧ w1.cell? ⟨gz, 3, none⟩ = some (.int .i64 n) ∧ w1.cell? ⟨gz, 4, none⟩ = some (sV [])) := Lib.hid fun w1 hb => by
                    have := R0.out.below hb R0.out.inside
                    exact ⟨this.read 0, this.read 1, this.read 2, this.read 3, this.read 4⟩
                  obtain ⟨y0, y1, y2, y3, y4⟩ := HK.out W (Below.refl _ W)
                  go_upto_region 6 with (go_at_call 61; (with_reducible refine (HE.out W).mono ?_); rw [d3]; rintro r w1 ⟨rfl, b⟩; have B1 := Lib.hid b; clear y0 y1 y2 y3 y4; obtain ⟨y0, y1, y2, y3, y4⟩ := HK.out _ b; clear b)
                  clear y0 y1 y2 y3 y4
                  have z0 : ∀ y : Since W, y.1.cell? ⟨gz, 0, none⟩ = some (.int .i64 2) := fun y => (HK.out y.1 y.2).1
                  have z1 : ∀ y : Since W, y.1.cell? ⟨gz, 1, none⟩ = some (.int .i64 f) := fun y => (HK.out y.1 y.2).2.1
                  have z2 : ∀ y : Since W, y.1.cell? ⟨gz, 2, none⟩ = some (.int .i64 e) := fun y => (HK.out y.1 y.2).2.2.1
                  have z3 : ∀ y : Since W, y.1.cell? ⟨gz, 3, none⟩ = some (.int .i64 n) := fun y => (HK.out y.1 y.2).2.2.2.1
                  have z4 : ∀ y : Since W, y.1.cell? ⟨gz, 4, none⟩ = some (sV []) := fun y => (HK.out y.1 y.2).2.2.2.2
                  refine region_since W (by kernel_rfl) (by kernel_rfl) B1.out ?_
                  repeat (go_big_quiet_step (first
                    | (go_at_call 63; with_reducible exact since_callW (fun w1 _ => Nk.out w1) _)
                    | (go_at_call 63; with_reducible exact since_callW (fun w1 _ => Nf.out w1) _)
                    | (go_at_call 63; with_reducible exact since_callW (fun w1 _ => Ne.out w1) _)
                    | (go_at_call 63; with_reducible exact since_callW (fun w1 _ => Nn.out w1) _)
                    | (go_at_call 62; with_reducible exact since_callW (fun w1 _ => HS.out w1) _)))
                  refine wpQuiet_nil ?_
                  rintro w4 ⟨z, rfl⟩
                  have B4 := Lib.hid z.2
                  clear z0 z1 z2 z3 z4
                  go_wp2_with fail
                  go_ret2
                  exact ⟨rfl, then_below B0.out B4.out⟩
                · have s1 : (s == []) = false := by simpa using s0
                  obtain ⟨c1, c2⟩ := chk_six (f := ⟨2, f, e, n, s⟩) (.inr (fun h => h.2 ⟨rfl, s0⟩))
                  rw [c1, c2]
                  clear c1 c2
                  have B0 : Hid (Below w.heap.size w (w.alloc (.cells (fmC ⟨2, f, e, n, s⟩) 56))) := Lib.hid (fresh1 w _)
                  have R0 : Hid (Whole (w.alloc (.cells (fmC ⟨2, f, e, n, s⟩) 56)) w.heap.size 56 (fmC ⟨2, f, e, n, s⟩)) := Lib.hid (Whole.fresh w 56 _)
                  go_enter Try.func30, Try.ntmps30
                  go_upto_region 1 with fail
                  change Code.wp _ _ _ _ (w.alloc (.cells (fmC ⟨2, f, e, n, s⟩) 56))
                  generalize w.alloc (.cells (fmC ⟨2, f, e, n, s⟩) 56) = W at B0 R0 ⊢
                  generalize w.heap.size = gz at R0 ⊢
                  have HK : Hid (∀ w1, Below W.heap.size W w1 → w1.cell? ⟨gz, 0, none⟩ = some (.int .i64 2) ∧ w1.cell? ⟨gz, 1, none⟩ = some (.int .i64 f) ∧ w1.cell? ⟨gz, 2, none⟩ = some (.int .i64 e) ∧ w1.cell? ⟨gz, 3, none⟩ = some (.int .i64 n) ∧ w1.cell? ⟨gz, 4, none⟩ = some (sV s)) := Lib.hid fun w1 hb => by
                    have := R0.out.below hb R0.out.inside
                    exact ⟨this.read 0, this.read 1, this.read 2, this.read 3, this.read 4⟩
                  obtain ⟨y0, y1, y2, y3, y4⟩ := HK.out W (Below.refl _ W)
                  go_wp2_with (go_at_call 61; (with_reducible refine (HE.out W).mono ?_); rw [d3]; rintro r w1 ⟨rfl, b⟩; have B1 := Lib.hid b; clear y0 y1 y2 y3 y4; obtain ⟨y0, y1, y2, y3, y4⟩ := HK.out _ b; clear b)
                  go_ret2
                  exact ⟨rfl, then_below B0.out B1.out⟩
              · have k3 : (k == 1) = false := by simpa using k1
                have k4 : (k == 2) = false := by simpa using k2
                obtain ⟨c1, c2⟩ := chk_six (f := ⟨k, f, e, n, s⟩) (.inl (fun h => by have := h.1; dsimp only at this; omega))
                rw [c1, c2]
                clear c1 c2
                have B0 : Hid (Below w.heap.size w (w.alloc (.cells (fmC ⟨k, f, e, n, s⟩) 56))) := Lib.hid (fresh1 w _)
                have R0 : Hid (Whole (w.alloc (.cells (fmC ⟨k, f, e, n, s⟩) 56)) w.heap.size 56 (fmC ⟨k, f, e, n, s⟩)) := Lib.hid (Whole.fresh w 56 _)
                go_enter Try.func30, Try.ntmps30
                go_upto_region 1 with fail
                change Code.wp _ _ _ _ (w.alloc (.cells (fmC ⟨k, f, e, n, s⟩) 56))
                generalize w.alloc (.cells (fmC ⟨k, f, e, n, s⟩) 56) = W at B0 R0 ⊢
                generalize w.heap.size = gz at R0 ⊢
                have HK : Hid (∀ w1, Below W.heap.size W w1 → w1.cell? ⟨gz, 0, none⟩ = some (.int .i64 k) ∧ w1.cell? ⟨gz, 1, none⟩ = some (.int .i64 f) ∧ w1.cell? ⟨gz, 2, none⟩ = some (.int .i64 e) ∧ w1.cell? ⟨gz, 3, none⟩ = some (.int .i64 n) ∧ w1.cell? ⟨gz, 4, none⟩ = some (sV s)) := Lib.hid fun w1 hb => by
                  have := R0.out.below hb R0.out.inside
                  exact ⟨this.read 0, this.read 1, this.read 2, this.read 3, this.read 4⟩
                obtain ⟨y0, y1, y2, y3, y4⟩ := HK.out W (Below.refl _ W)
                go_wp2_with (go_at_call 61; (with_reducible refine (HE.out W).mono ?_); rw [d3]; rintro r w1 ⟨rfl, b⟩; have B1 := Lib.hid b; clear y0 y1 y2 y3 y4; obtain ⟨y0, y1, y2, y3, y4⟩ := HK.out _ b; clear b)
                go_ret2
                exact ⟨rfl, then_below B0.out B1.out⟩
          · have h5i : 1099511627776 < n := by omega
            obtain ⟨c1, c2⟩ := chk_six (f := ⟨k, f, e, n, s⟩) (.inr (fun h => h5 h.1.2))
            rw [c1, c2]
            clear c1 c2
            have B0 : Hid (Below w.heap.size w (w.alloc (.cells (fmC ⟨k, f, e, n, s⟩) 56))) := Lib.hid (fresh1 w _)
            have R0 : Hid (Whole (w.alloc (.cells (fmC ⟨k, f, e, n, s⟩) 56)) w.heap.size 56 (fmC ⟨k, f, e, n, s⟩)) := Lib.hid (Whole.fresh w 56 _)
            go_enter Try.func30, Try.ntmps30
            go_upto_region 1 with fail
            change Code.wp _ _ _ _ (w.alloc (.cells (fmC ⟨k, f, e, n, s⟩) 56))
            generalize w.alloc (.cells (fmC ⟨k, f, e, n, s⟩) 56) = W at B0 R0 ⊢
            generalize w.heap.size = gz at R0 ⊢
            have HK : Hid (∀ w1, Below W.heap.size W w1 → w1.cell? ⟨gz, 0, none⟩ = some (.int .i64 k) ∧ w1.cell? ⟨gz, 1, none⟩ = some (.int .i64 f) ∧ w1.cell? ⟨gz, 2, none⟩ = some (.int .i64 e) ∧ w1.cell? ⟨gz, 3, none⟩ = some (.int .i64 n) ∧ w1.cell? ⟨gz, 4, none⟩ = some (sV s)) := Lib.hid fun w1 hb => by
              have := R0.out.below hb R0.out.inside
              exact ⟨this.read 0, this.read 1, this.read 2, this.read 3, this.read 4⟩
            obtain ⟨y0, y1, y2, y3, y4⟩ := HK.out W (Below.refl _ W)
            go_wp2_with (go_at_call 61; (with_reducible refine (HE.out W).mono ?_); rw [d3]; rintro r w1 ⟨rfl, b⟩; have B1 := Lib.hid b; clear y0 y1 y2 y3 y4; obtain ⟨y0, y1, y2, y3, y4⟩ := HK.out _ b; clear b)
            go_ret2
            exact ⟨rfl, then_below B0.out B1.out⟩
        · have h4i : n < 0 := by omega
          obtain ⟨c1, c2⟩ := chk_six (f := ⟨k, f, e, n, s⟩) (.inr (fun h => by have := h.1.1; dsimp only at this; unfold leastN at this; split at this <;> omega))
          rw [c1, c2]
          clear c1 c2
          have B0 : Hid (Below w.heap.size w (w.alloc (.cells (fmC ⟨k, f, e, n, s⟩) 56))) := Lib.hid (fresh1 w _)
          have R0 : Hid (Whole (w.alloc (.cells (fmC ⟨k, f, e, n, s⟩) 56)) w.heap.size 56 (fmC ⟨k, f, e, n, s⟩)) := Lib.hid (Whole.fresh w 56 _)
          go_enter Try.func30, Try.ntmps30
          go_upto_region 1 with fail
          change Code.wp _ _ _ _ (w.alloc (.cells (fmC ⟨k, f, e, n, s⟩) 56))
          generalize w.alloc (.cells (fmC ⟨k, f, e, n, s⟩) 56) = W at B0 R0 ⊢
          generalize w.heap.size = gz at R0 ⊢
          have HK : Hid (∀ w1, Below W.heap.size W w1 → w1.cell? ⟨gz, 0, none⟩ = some (.int .i64 k) ∧ w1.cell? ⟨gz, 1, none⟩ = some (.int .i64 f) ∧ w1.cell? ⟨gz, 2, none⟩ = some (.int .i64 e) ∧ w1.cell? ⟨gz, 3, none⟩ = some (.int .i64 n) ∧ w1.cell? ⟨gz, 4, none⟩ = some (sV s)) := Lib.hid fun w1 hb => by
            have := R0.out.below hb R0.out.inside
            exact ⟨this.read 0, this.read 1, this.read 2, this.read 3, this.read 4⟩
          obtain ⟨y0, y1, y2, y3, y4⟩ := HK.out W (Below.refl _ W)
          go_wp2_with (go_at_call 61; (with_reducible refine (HE.out W).mono ?_); rw [d3]; rintro r w1 ⟨rfl, b⟩; have B1 := Lib.hid b; clear y0 y1 y2 y3 y4; obtain ⟨y0, y1, y2, y3, y4⟩ := HK.out _ b; clear b)
          go_ret2
          exact ⟨rfl, then_below B0.out B1.out⟩
      · have d3 : decide (1 ≤ e ∧ e ≤ 1073741824) = false := decide_eq_false h3
        obtain ⟨c1, c2⟩ := chk_six (f := ⟨k, f, e, n, s⟩) (.inl (fun h => h3 h.2.2))
        rw [c1, c2]
        clear c1 c2
        have B0 : Hid (Below w.heap.size w (w.alloc (.cells (fmC ⟨k, f, e, n, s⟩) 56))) := Lib.hid (fresh1 w _)
        have R0 : Hid (Whole (w.alloc (.cells (fmC ⟨k, f, e, n, s⟩) 56)) w.heap.size 56 (fmC ⟨k, f, e, n, s⟩)) := Lib.hid (Whole.fresh w 56 _)
        go_enter Try.func30, Try.ntmps30
        go_upto_region 1 with fail
        change Code.wp _ _ _ _ (w.alloc (.cells (fmC ⟨k, f, e, n, s⟩) 56))
        generalize w.alloc (.cells (fmC ⟨k, f, e, n, s⟩) 56) = W at B0 R0 ⊢
        generalize w.heap.size = gz at R0 ⊢
        have HK : Hid (∀ w1, Below W.heap.size W w1 → w1.cell? ⟨gz, 0, none⟩ = some (.int .i64 k) ∧ w1.cell? ⟨gz, 1, none⟩ = some (.int .i64 f) ∧ w1.cell? ⟨gz, 2, none⟩ = some (.int .i64 e) ∧ w1.cell? ⟨gz, 3, none⟩ = some (.int .i64 n) ∧ w1.cell? ⟨gz, 4, none⟩ = some (sV s)) := Lib.hid fun w1 hb => by
          have := R0.out.below hb R0.out.inside
          exact ⟨this.read 0, this.read 1, this.read 2, this.read 3, this.read 4⟩
        obtain ⟨y0, y1, y2, y3, y4⟩ := HK.out W (Below.refl _ W)
        go_wp2_with (go_at_call 61; (with_reducible refine (HE.out W).mono ?_); rw [d3]; rintro r w1 ⟨rfl, b⟩; have B1 := Lib.hid b; clear y0 y1 y2 y3 y4; obtain ⟨y0, y1, y2, y3, y4⟩ := HK.out _ b; clear b)
        go_ret2
        exact ⟨rfl, then_below B0.out B1.out⟩
    · have h2i : 1000 < f := by omega
      obtain ⟨c1, c2⟩ := chk_six (f := ⟨k, f, e, n, s⟩) (.inl (fun h => h2 h.2.1.2))
      rw [c1, c2]
      clear c1 c2
      have B0 : Hid (Below w.heap.size w (w.alloc (.cells (fmC ⟨k, f, e, n, s⟩) 56))) := Lib.hid (fresh1 w _)
      have R0 : Hid (Whole (w.alloc (.cells (fmC ⟨k, f, e, n, s⟩) 56)) w.heap.size 56 (fmC ⟨k, f, e, n, s⟩)) := Lib.hid (Whole.fresh w 56 _)
      go_enter Try.func30, Try.ntmps30
      go_upto_region 1 with fail
      change Code.wp _ _ _ _ (w.alloc (.cells (fmC ⟨k, f, e, n, s⟩) 56))
      generalize w.alloc (.cells (fmC ⟨k, f, e, n, s⟩) 56) = W at B0 R0 ⊢
      generalize w.heap.size = gz at R0 ⊢
      have HK : Hid (∀ w1, Below W.heap.size W w1 → w1.cell? ⟨gz, 0, none⟩ = some (.int .i64 k) ∧ w1.cell? ⟨gz, 1, none⟩ = some (.int .i64 f) ∧ w1.cell? ⟨gz, 2, none⟩ = some (.int .i64 e) ∧ w1.cell? ⟨gz, 3, none⟩ = some (.int .i64 n) ∧ w1.cell? ⟨gz, 4, none⟩ = some (sV s)) := Lib.hid fun w1 hb => by
        have := R0.out.below hb R0.out.inside
        exact ⟨this.read 0, this.read 1, this.read 2, this.read 3, this.read 4⟩
      obtain ⟨y0, y1, y2, y3, y4⟩ := HK.out W (Below.refl _ W)
      go_wp2_with fail
      go_ret2
      exact ⟨rfl, B0.out⟩
  · have h1i : f < 0 := by omega
    obtain ⟨c1, c2⟩ := chk_six (f := ⟨k, f, e, n, s⟩) (.inl (fun h => h1 h.2.1.1))
    rw [c1, c2]
    clear c1 c2
    have B0 : Hid (Below w.heap.size w (w.alloc (.cells (fmC ⟨k, f, e, n, s⟩) 56))) := Lib.hid (fresh1 w _)
    have R0 : Hid (Whole (w.alloc (.cells (fmC ⟨k, f, e, n, s⟩) 56)) w.heap.size 56 (fmC ⟨k, f, e, n, s⟩)) := Lib.hid (Whole.fresh w 56 _)
    go_enter Try.func30, Try.ntmps30
    go_upto_region 1 with fail
    change Code.wp _ _ _ _ (w.alloc (.cells (fmC ⟨k, f, e, n, s⟩) 56))
    generalize w.alloc (.cells (fmC ⟨k, f, e, n, s⟩) 56) = W at B0 R0 ⊢
    generalize w.heap.size = gz at R0 ⊢
    have HK : Hid (∀ w1, Below W.heap.size W w1 → w1.cell? ⟨gz, 0, none⟩ = some (.int .i64 k) ∧ w1.cell? ⟨gz, 1, none⟩ = some (.int .i64 f) ∧ w1.cell? ⟨gz, 2, none⟩ = some (.int .i64 e) ∧ w1.cell? ⟨gz, 3, none⟩ = some (.int .i64 n) ∧ w1.cell? ⟨gz, 4, none⟩ = some (sV s)) := Lib.hid fun w1 hb => by
      have := R0.out.below hb R0.out.inside
      exact ⟨this.read 0, this.read 1, this.read 2, this.read 3, this.read 4⟩
    obtain ⟨y0, y1, y2, y3, y4⟩ := HK.out W (Below.refl _ W)
    go_wp2_with fail
    go_ret2
    exact ⟨rfl, B0.out⟩
end
end Go.Proofs.Ytkofocnifncagaa.hop
