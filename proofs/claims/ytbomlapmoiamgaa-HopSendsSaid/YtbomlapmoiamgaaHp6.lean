/-
  Frames: what they are, what is wrong with them; check (by gen_hp6.py).
-/
import Derived.Test.YtbomlapmoiamgaaHp3
import Derived.Test.YtbomlapmoiamgaaHor
import Derived.Test.YtbomlapmoiamgaaSeal
import Derived.Test.YtbomlapmoiamgaaRdA2
set_option linter.unusedSimpArgs false
set_option linter.unusedVariables false
namespace Go.Proofs.Ytbomlapmoiamgaa.hop
open Go.ChangeShapes Go.WideShapes Go.ChangeAt Go.RowKit
open Go.Proofs.Ytbomlapmoiamgaa.opened Go.Proofs.Ytbomlapmoiamgaa.block Go.Proofs.Ytbomlapmoiamgaa.words Go.Proofs.Ytbomlapmoiamgaa.region
abbrev fmC (f : Fm) : Array Value := #[.int .i64 f.k, .int .i64 f.f, .int .i64 f.e, .int .i64 f.n, sV f.s]
def leastN (k : Int) : Int := if k = 2 then 0 else 1
def chkF (f : Fm) : Int :=
  if (1 ≤ f.k ∧ f.k ≤ 2) ∧ (0 ≤ f.f ∧ f.f ≤ 1000) ∧ (1 ≤ f.e ∧ f.e ≤ 1073741824) then
    if (leastN f.k ≤ f.n ∧ f.n ≤ 1099511627776) ∧ ¬ (f.k = 2 ∧ f.s ≠ []) then if 6000 < f.s.length then 7 else 0 else 6
  else 6
section
variable {w : World}
theorem least_any (k : Int) : Calls Try.prog 68 #[.int .i64 k] w fun e w' => e = .returned (.int .i64 (leastN k)) ∧ Below w.heap.size w w' := by
  unfold leastN
  by_cases h : k = 2
  · subst h
    rw [if_pos rfl]
    go_enter Try.func68, Try.ntmps68
    go_wp2_with fail
    go_ret
    exact ⟨rfl, Below.refl _ _⟩
  · rw [if_neg h]
    have hb : (k == 2) = false := by simpa using h
    go_enter Try.func68, Try.ntmps68
    go_wp2_with fail
    go_ret
    exact ⟨rfl, Below.refl _ _⟩
set_option maxRecDepth 100000 in
set_option maxHeartbeats 2000000 in
theorem check_any (f : Fm) (hl : f.s.length ≤ 140737488351232) : Calls Try.prog 59 #[.agg (fmC f)] w fun e w' => e = .returned (.int .i64 (chkF f)) ∧ Below w.heap.size w w' := by
  obtain ⟨k, f, e, n, s⟩ := f
  have hl : s.length ≤ 140737488351232 := hl
  have B0 : Hid (Below w.heap.size w (w.alloc (.cells (fmC ⟨k, f, e, n, s⟩) 88))) := Lib.hid (fresh1 w _)
  have R0 : Hid (Whole (w.alloc (.cells (fmC ⟨k, f, e, n, s⟩) 88)) w.heap.size 88 (fmC ⟨k, f, e, n, s⟩)) := Lib.hid (Whole.fresh w 88 _)
  have HW := Lib.hid (fun (w1 : World) (v a b : Int) => within_any (w := w1) v a b)
  have HL := Lib.hid (fun (w1 : World) => least_any (w := w1) k)
  have HC : Hid (chkF ⟨k, f, e, n, s⟩ = if (1 ≤ k ∧ k ≤ 2) ∧ (0 ≤ f ∧ f ≤ 1000) ∧ (1 ≤ e ∧ e ≤ 1073741824) then
    if (leastN k ≤ n ∧ n ≤ 1099511627776) ∧ ¬ (k = 2 ∧ s ≠ []) then if 6000 < s.length then 7 else 0 else 6
  else 6) := Lib.hid rfl
  generalize chkF ⟨k, f, e, n, s⟩ = ck at HC ⊢
  change Calls Try.prog 59 #[.agg #[.int .i64 k, .int .i64 f, .int .i64 e, .int .i64 n, sV s]] w _
  by_cases h1 : 1 ≤ k ∧ k ≤ 2
  · have d1 : decide (1 ≤ k ∧ k ≤ 2) = true := decide_eq_true h1
    by_cases h2 : 0 ≤ f ∧ f ≤ 1000
    · have d2 : decide (0 ≤ f ∧ f ≤ 1000) = true := decide_eq_true h2
      by_cases h3 : 1 ≤ e ∧ e ≤ 1073741824
      · have d3 : decide (1 ≤ e ∧ e ≤ 1073741824) = true := decide_eq_true h3
        have hc := HC.out
        rw [if_pos ⟨h1, h2, h3⟩] at hc
        by_cases h4 : leastN k ≤ n ∧ n ≤ 1099511627776
        · have d4 : decide (leastN k ≤ n ∧ n ≤ 1099511627776) = true := decide_eq_true h4
          by_cases h5 : k = 2
          · by_cases h6 : s = []
            · rw [if_pos ⟨h4, fun h => h.2 h6⟩, if_neg (by rw [h6]; decide)] at hc
              subst hc h5 h6
              clear h1 h2 h3 h4 HC
              go_enter Try.func59, Try.ntmps59
              go_upto_region 1 with fail
              change Code.wp _ _ _ _ (w.alloc (.cells (fmC ⟨2, f, e, n, []⟩) 88))
              generalize w.alloc (.cells (fmC ⟨2, f, e, n, []⟩) 88) = W at B0 R0 ⊢
              generalize w.heap.size = gz at R0 ⊢
              have HK : Hid (∀ w1, Below W.heap.size W w1 → w1.cell? ⟨gz, 0, none⟩ = some (.int .i64 2) ∧ w1.cell? ⟨gz, 1, none⟩ = some (.int .i64 f) ∧ w1.cell? ⟨gz, 2, none⟩ = some (.int .i64 e) ∧ w1.cell? ⟨gz, 3, none⟩ = some (.int .i64 n) ∧ w1.cell? ⟨gz, 4, none⟩ = some (sV [])) := Lib.hid fun w1 hb => by
                have := R0.out.below hb R0.out.inside
                exact ⟨this.read 0, this.read 1, this.read 2, this.read 3, this.read 4⟩
              obtain ⟨y0, y1, y2, y3, y4⟩ := HK.out W (Below.refl _ W)
              go_upto_region 3 with (first
                | (go_at_call 48; (with_reducible refine (HW.out w2 e 1 1073741824).mono ?_); rw [d3]; rintro r w3 ⟨rfl, b⟩; have B3 := Lib.hid (then_below B2.out b); clear y0 y1 y2 y3 y4; obtain ⟨y0, y1, y2, y3, y4⟩ := HK.out _ B3.out; clear b)
                | (go_at_call 48; (with_reducible refine (HW.out w1 f 0 1000).mono ?_); rw [d2]; rintro r w2 ⟨rfl, b⟩; have B2 := Lib.hid (then_below B1.out b); clear y0 y1 y2 y3 y4; obtain ⟨y0, y1, y2, y3, y4⟩ := HK.out _ B2.out; clear b)
                | (go_at_call 48; (with_reducible refine (HW.out W 2 1 2).mono ?_); rw [d1]; rintro r w1 ⟨rfl, b⟩; have B1 := Lib.hid (b); clear y0 y1 y2 y3 y4; obtain ⟨y0, y1, y2, y3, y4⟩ := HK.out _ B1.out; clear b))
              clear y0 y1 y2 y3 y4
              have z0 : ∀ y : Since W, y.1.cell? ⟨gz, 0, none⟩ = some (.int .i64 2) := fun y => (HK.out y.1 y.2).1
              have z3 : ∀ y : Since W, y.1.cell? ⟨gz, 3, none⟩ = some (.int .i64 n) := fun y => (HK.out y.1 y.2).2.2.2.1
              have z4 : ∀ y : Since W, y.1.cell? ⟨gz, 4, none⟩ = some (sV []) := fun y => (HK.out y.1 y.2).2.2.2.2
              have HQ := Lib.hid (fun (w1 : World) => HW.out w1 n (leastN 2) 1099511627776)
              rw [d4] at HQ
              generalize leastN 2 = ln at HL HQ
              refine region_since W (by kernel_rfl) (by kernel_rfl) B3.out ?_
              repeat (go_big_quiet_step (first
                | (go_at_call 48; with_reducible exact since_callW (fun w1 _ => HQ.out w1) _)
                | (go_at_call 68; with_reducible exact since_callW (fun w1 _ => HL.out w1) _)))
              refine wpQuiet_nil ?_
              rintro w4 ⟨z, rfl⟩
              obtain ⟨y0, y1, y2, y3, y4⟩ := HK.out z.1 z.2
              have B4 := Lib.hid z.2
              clear z0 z3 z4
              generalize z.1 = w4 at y0 y1 y2 y3 y4 B4 ⊢
              go_wp2_with fail
              go_ret
              exact ⟨rfl, then_below B0.out B4.out⟩
            · rw [if_neg (fun h => h.2 ⟨h5, h6⟩)] at hc
              subst hc h5
              have h6b : (s == []) = false := by simpa using h6
              clear h1 h2 h3 h4 HC
              go_enter Try.func59, Try.ntmps59
              go_upto_region 1 with fail
              change Code.wp _ _ _ _ (w.alloc (.cells (fmC ⟨2, f, e, n, s⟩) 88))
              generalize w.alloc (.cells (fmC ⟨2, f, e, n, s⟩) 88) = W at B0 R0 ⊢
              generalize w.heap.size = gz at R0 ⊢
              have HK : Hid (∀ w1, Below W.heap.size W w1 → w1.cell? ⟨gz, 0, none⟩ = some (.int .i64 2) ∧ w1.cell? ⟨gz, 1, none⟩ = some (.int .i64 f) ∧ w1.cell? ⟨gz, 2, none⟩ = some (.int .i64 e) ∧ w1.cell? ⟨gz, 3, none⟩ = some (.int .i64 n) ∧ w1.cell? ⟨gz, 4, none⟩ = some (sV s)) := Lib.hid fun w1 hb => by
                have := R0.out.below hb R0.out.inside
                exact ⟨this.read 0, this.read 1, this.read 2, this.read 3, this.read 4⟩
              obtain ⟨y0, y1, y2, y3, y4⟩ := HK.out W (Below.refl _ W)
              go_upto_region 3 with (first
                | (go_at_call 48; (with_reducible refine (HW.out w2 e 1 1073741824).mono ?_); rw [d3]; rintro r w3 ⟨rfl, b⟩; have B3 := Lib.hid (then_below B2.out b); clear y0 y1 y2 y3 y4; obtain ⟨y0, y1, y2, y3, y4⟩ := HK.out _ B3.out; clear b)
                | (go_at_call 48; (with_reducible refine (HW.out w1 f 0 1000).mono ?_); rw [d2]; rintro r w2 ⟨rfl, b⟩; have B2 := Lib.hid (then_below B1.out b); clear y0 y1 y2 y3 y4; obtain ⟨y0, y1, y2, y3, y4⟩ := HK.out _ B2.out; clear b)
                | (go_at_call 48; (with_reducible refine (HW.out W 2 1 2).mono ?_); rw [d1]; rintro r w1 ⟨rfl, b⟩; have B1 := Lib.hid (b); clear y0 y1 y2 y3 y4; obtain ⟨y0, y1, y2, y3, y4⟩ := HK.out _ B1.out; clear b))
              clear y0 y1 y2 y3 y4
              have z0 : ∀ y : Since W, y.1.cell? ⟨gz, 0, none⟩ = some (.int .i64 2) := fun y => (HK.out y.1 y.2).1
              have z3 : ∀ y : Since W, y.1.cell? ⟨gz, 3, none⟩ = some (.int .i64 n) := fun y => (HK.out y.1 y.2).2.2.2.1
              have z4 : ∀ y : Since W, y.1.cell? ⟨gz, 4, none⟩ = some (sV s) := fun y => (HK.out y.1 y.2).2.2.2.2
              have HQ := Lib.hid (fun (w1 : World) => HW.out w1 n (leastN 2) 1099511627776)
              rw [d4] at HQ
              generalize leastN 2 = ln at HL HQ
              refine region_since W (by kernel_rfl) (by kernel_rfl) B3.out ?_
              repeat (go_big_quiet_step (first
                | (go_at_call 48; with_reducible exact since_callW (fun w1 _ => HQ.out w1) _)
                | (go_at_call 68; with_reducible exact since_callW (fun w1 _ => HL.out w1) _)))
              refine wpQuiet_nil ?_
              rintro w4 ⟨z, rfl⟩
              obtain ⟨y0, y1, y2, y3, y4⟩ := HK.out z.1 z.2
              have B4 := Lib.hid z.2
              clear z0 z3 z4
              generalize z.1 = w4 at y0 y1 y2 y3 y4 B4 ⊢
              go_wp2_with fail
              go_ret
              exact ⟨rfl, then_below B0.out B4.out⟩
          · have h5b : (k == 2) = false := by simpa using h5
            rw [if_pos ⟨h4, fun h => h5 h.1⟩] at hc
            by_cases h7 : 6000 < s.length
            · rw [if_pos h7] at hc
              subst hc
              have h7i : (6000 : Int) < (s.length : Int) := by omega
              clear h1 h2 h3 h4 h5 HC
              go_enter Try.func59, Try.ntmps59
              go_upto_region 1 with fail
              change Code.wp _ _ _ _ (w.alloc (.cells (fmC ⟨k, f, e, n, s⟩) 88))
              generalize w.alloc (.cells (fmC ⟨k, f, e, n, s⟩) 88) = W at B0 R0 ⊢
              generalize w.heap.size = gz at R0 ⊢
              have HK : Hid (∀ w1, Below W.heap.size W w1 → w1.cell? ⟨gz, 0, none⟩ = some (.int .i64 k) ∧ w1.cell? ⟨gz, 1, none⟩ = some (.int .i64 f) ∧ w1.cell? ⟨gz, 2, none⟩ = some (.int .i64 e) ∧ w1.cell? ⟨gz, 3, none⟩ = some (.int .i64 n) ∧ w1.cell? ⟨gz, 4, none⟩ = some (sV s)) := Lib.hid fun w1 hb => by
                have := R0.out.below hb R0.out.inside
                exact ⟨this.read 0, this.read 1, this.read 2, this.read 3, this.read 4⟩
              obtain ⟨y0, y1, y2, y3, y4⟩ := HK.out W (Below.refl _ W)
              go_upto_region 3 with (first
                | (go_at_call 48; (with_reducible refine (HW.out w2 e 1 1073741824).mono ?_); rw [d3]; rintro r w3 ⟨rfl, b⟩; have B3 := Lib.hid (then_below B2.out b); clear y0 y1 y2 y3 y4; obtain ⟨y0, y1, y2, y3, y4⟩ := HK.out _ B3.out; clear b)
                | (go_at_call 48; (with_reducible refine (HW.out w1 f 0 1000).mono ?_); rw [d2]; rintro r w2 ⟨rfl, b⟩; have B2 := Lib.hid (then_below B1.out b); clear y0 y1 y2 y3 y4; obtain ⟨y0, y1, y2, y3, y4⟩ := HK.out _ B2.out; clear b)
                | (go_at_call 48; (with_reducible refine (HW.out W k 1 2).mono ?_); rw [d1]; rintro r w1 ⟨rfl, b⟩; have B1 := Lib.hid (b); clear y0 y1 y2 y3 y4; obtain ⟨y0, y1, y2, y3, y4⟩ := HK.out _ B1.out; clear b))
              clear y0 y1 y2 y3 y4
              have z0 : ∀ y : Since W, y.1.cell? ⟨gz, 0, none⟩ = some (.int .i64 k) := fun y => (HK.out y.1 y.2).1
              have z3 : ∀ y : Since W, y.1.cell? ⟨gz, 3, none⟩ = some (.int .i64 n) := fun y => (HK.out y.1 y.2).2.2.2.1
              have z4 : ∀ y : Since W, y.1.cell? ⟨gz, 4, none⟩ = some (sV s) := fun y => (HK.out y.1 y.2).2.2.2.2
              have HQ := Lib.hid (fun (w1 : World) => HW.out w1 n (leastN k) 1099511627776)
              rw [d4] at HQ
              generalize leastN k = ln at HL HQ
              refine region_since W (by kernel_rfl) (by kernel_rfl) B3.out ?_
              repeat (go_big_quiet_step (first
                | (go_at_call 48; with_reducible exact since_callW (fun w1 _ => HQ.out w1) _)
                | (go_at_call 68; with_reducible exact since_callW (fun w1 _ => HL.out w1) _)))
              refine wpQuiet_nil ?_
              rintro w4 ⟨z, rfl⟩
              obtain ⟨y0, y1, y2, y3, y4⟩ := HK.out z.1 z.2
              have B4 := Lib.hid z.2
              clear z0 z3 z4
              generalize z.1 = w4 at y0 y1 y2 y3 y4 B4 ⊢
              go_wp2_with fail
              go_ret
              exact ⟨rfl, then_below B0.out B4.out⟩
            · rw [if_neg h7] at hc
              subst hc
              have h7i : ¬ (6000 : Int) < (s.length : Int) := by omega
              clear h1 h2 h3 h4 h5 HC
              go_enter Try.func59, Try.ntmps59
              go_upto_region 1 with fail
              change Code.wp _ _ _ _ (w.alloc (.cells (fmC ⟨k, f, e, n, s⟩) 88))
              generalize w.alloc (.cells (fmC ⟨k, f, e, n, s⟩) 88) = W at B0 R0 ⊢
              generalize w.heap.size = gz at R0 ⊢
              have HK : Hid (∀ w1, Below W.heap.size W w1 → w1.cell? ⟨gz, 0, none⟩ = some (.int .i64 k) ∧ w1.cell? ⟨gz, 1, none⟩ = some (.int .i64 f) ∧ w1.cell? ⟨gz, 2, none⟩ = some (.int .i64 e) ∧ w1.cell? ⟨gz, 3, none⟩ = some (.int .i64 n) ∧ w1.cell? ⟨gz, 4, none⟩ = some (sV s)) := Lib.hid fun w1 hb => by
                have := R0.out.below hb R0.out.inside
                exact ⟨this.read 0, this.read 1, this.read 2, this.read 3, this.read 4⟩
              obtain ⟨y0, y1, y2, y3, y4⟩ := HK.out W (Below.refl _ W)
              go_upto_region 3 with (first
                | (go_at_call 48; (with_reducible refine (HW.out w2 e 1 1073741824).mono ?_); rw [d3]; rintro r w3 ⟨rfl, b⟩; have B3 := Lib.hid (then_below B2.out b); clear y0 y1 y2 y3 y4; obtain ⟨y0, y1, y2, y3, y4⟩ := HK.out _ B3.out; clear b)
                | (go_at_call 48; (with_reducible refine (HW.out w1 f 0 1000).mono ?_); rw [d2]; rintro r w2 ⟨rfl, b⟩; have B2 := Lib.hid (then_below B1.out b); clear y0 y1 y2 y3 y4; obtain ⟨y0, y1, y2, y3, y4⟩ := HK.out _ B2.out; clear b)
                | (go_at_call 48; (with_reducible refine (HW.out W k 1 2).mono ?_); rw [d1]; rintro r w1 ⟨rfl, b⟩; have B1 := Lib.hid (b); clear y0 y1 y2 y3 y4; obtain ⟨y0, y1, y2, y3, y4⟩ := HK.out _ B1.out; clear b))
              clear y0 y1 y2 y3 y4
              have z0 : ∀ y : Since W, y.1.cell? ⟨gz, 0, none⟩ = some (.int .i64 k) := fun y => (HK.out y.1 y.2).1
              have z3 : ∀ y : Since W, y.1.cell? ⟨gz, 3, none⟩ = some (.int .i64 n) := fun y => (HK.out y.1 y.2).2.2.2.1
              have z4 : ∀ y : Since W, y.1.cell? ⟨gz, 4, none⟩ = some (sV s) := fun y => (HK.out y.1 y.2).2.2.2.2
              have HQ := Lib.hid (fun (w1 : World) => HW.out w1 n (leastN k) 1099511627776)
              rw [d4] at HQ
              generalize leastN k = ln at HL HQ
              refine region_since W (by kernel_rfl) (by kernel_rfl) B3.out ?_
              repeat (go_big_quiet_step (first
                | (go_at_call 48; with_reducible exact since_callW (fun w1 _ => HQ.out w1) _)
                | (go_at_call 68; with_reducible exact since_callW (fun w1 _ => HL.out w1) _)))
              refine wpQuiet_nil ?_
              rintro w4 ⟨z, rfl⟩
              obtain ⟨y0, y1, y2, y3, y4⟩ := HK.out z.1 z.2
              have B4 := Lib.hid z.2
              clear z0 z3 z4
              generalize z.1 = w4 at y0 y1 y2 y3 y4 B4 ⊢
              go_wp2_with fail
              go_ret
              exact ⟨rfl, then_below B0.out B4.out⟩
        · have d4 : decide (leastN k ≤ n ∧ n ≤ 1099511627776) = false := decide_eq_false h4
          rw [if_neg (fun h => h4 h.1)] at hc
          subst hc
          clear h1 h2 h3 h4 HC
          go_enter Try.func59, Try.ntmps59
          go_upto_region 1 with fail
          change Code.wp _ _ _ _ (w.alloc (.cells (fmC ⟨k, f, e, n, s⟩) 88))
          generalize w.alloc (.cells (fmC ⟨k, f, e, n, s⟩) 88) = W at B0 R0 ⊢
          generalize w.heap.size = gz at R0 ⊢
          have HK : Hid (∀ w1, Below W.heap.size W w1 → w1.cell? ⟨gz, 0, none⟩ = some (.int .i64 k) ∧ w1.cell? ⟨gz, 1, none⟩ = some (.int .i64 f) ∧ w1.cell? ⟨gz, 2, none⟩ = some (.int .i64 e) ∧ w1.cell? ⟨gz, 3, none⟩ = some (.int .i64 n) ∧ w1.cell? ⟨gz, 4, none⟩ = some (sV s)) := Lib.hid fun w1 hb => by
            have := R0.out.below hb R0.out.inside
            exact ⟨this.read 0, this.read 1, this.read 2, this.read 3, this.read 4⟩
          obtain ⟨y0, y1, y2, y3, y4⟩ := HK.out W (Below.refl _ W)
          go_upto_region 3 with (first
            | (go_at_call 48; (with_reducible refine (HW.out w2 e 1 1073741824).mono ?_); rw [d3]; rintro r w3 ⟨rfl, b⟩; have B3 := Lib.hid (then_below B2.out b); clear y0 y1 y2 y3 y4; obtain ⟨y0, y1, y2, y3, y4⟩ := HK.out _ B3.out; clear b)
            | (go_at_call 48; (with_reducible refine (HW.out w1 f 0 1000).mono ?_); rw [d2]; rintro r w2 ⟨rfl, b⟩; have B2 := Lib.hid (then_below B1.out b); clear y0 y1 y2 y3 y4; obtain ⟨y0, y1, y2, y3, y4⟩ := HK.out _ B2.out; clear b)
            | (go_at_call 48; (with_reducible refine (HW.out W k 1 2).mono ?_); rw [d1]; rintro r w1 ⟨rfl, b⟩; have B1 := Lib.hid (b); clear y0 y1 y2 y3 y4; obtain ⟨y0, y1, y2, y3, y4⟩ := HK.out _ B1.out; clear b))
          clear y0 y1 y2 y3 y4
          have z0 : ∀ y : Since W, y.1.cell? ⟨gz, 0, none⟩ = some (.int .i64 k) := fun y => (HK.out y.1 y.2).1
          have z3 : ∀ y : Since W, y.1.cell? ⟨gz, 3, none⟩ = some (.int .i64 n) := fun y => (HK.out y.1 y.2).2.2.2.1
          have z4 : ∀ y : Since W, y.1.cell? ⟨gz, 4, none⟩ = some (sV s) := fun y => (HK.out y.1 y.2).2.2.2.2
          have HQ := Lib.hid (fun (w1 : World) => HW.out w1 n (leastN k) 1099511627776)
          rw [d4] at HQ
          generalize leastN k = ln at HL HQ
          refine region_since W (by kernel_rfl) (by kernel_rfl) B3.out ?_
          repeat (go_big_quiet_step (first
            | (go_at_call 48; with_reducible exact since_callW (fun w1 _ => HQ.out w1) _)
            | (go_at_call 68; with_reducible exact since_callW (fun w1 _ => HL.out w1) _)))
          refine wpQuiet_nil ?_
          rintro w4 ⟨z, rfl⟩
          obtain ⟨y0, y1, y2, y3, y4⟩ := HK.out z.1 z.2
          have B4 := Lib.hid z.2
          clear z0 z3 z4
          generalize z.1 = w4 at y0 y1 y2 y3 y4 B4 ⊢
          go_wp2_with fail
          go_ret
          exact ⟨rfl, then_below B0.out B4.out⟩
      · have d3 : decide (1 ≤ e ∧ e ≤ 1073741824) = false := decide_eq_false h3
        have hc := HC.out
        rw [if_neg (fun h => h3 h.2.2)] at hc
        subst hc
        clear h1 h2 h3 HC
        go_enter Try.func59, Try.ntmps59
        go_upto_region 1 with fail
        change Code.wp _ _ _ _ (w.alloc (.cells (fmC ⟨k, f, e, n, s⟩) 88))
        generalize w.alloc (.cells (fmC ⟨k, f, e, n, s⟩) 88) = W at B0 R0 ⊢
        generalize w.heap.size = gz at R0 ⊢
        have HK : Hid (∀ w1, Below W.heap.size W w1 → w1.cell? ⟨gz, 0, none⟩ = some (.int .i64 k) ∧ w1.cell? ⟨gz, 1, none⟩ = some (.int .i64 f) ∧ w1.cell? ⟨gz, 2, none⟩ = some (.int .i64 e) ∧ w1.cell? ⟨gz, 3, none⟩ = some (.int .i64 n) ∧ w1.cell? ⟨gz, 4, none⟩ = some (sV s)) := Lib.hid fun w1 hb => by
          have := R0.out.below hb R0.out.inside
          exact ⟨this.read 0, this.read 1, this.read 2, this.read 3, this.read 4⟩
        obtain ⟨y0, y1, y2, y3, y4⟩ := HK.out W (Below.refl _ W)
        go_wp2_with (first
          | (go_at_call 48; (with_reducible refine (HW.out w2 e 1 1073741824).mono ?_); rw [d3]; rintro r w3 ⟨rfl, b⟩; have B3 := Lib.hid (then_below B2.out b); clear y0 y1 y2 y3 y4; obtain ⟨y0, y1, y2, y3, y4⟩ := HK.out _ B3.out; clear b)
          | (go_at_call 48; (with_reducible refine (HW.out w1 f 0 1000).mono ?_); rw [d2]; rintro r w2 ⟨rfl, b⟩; have B2 := Lib.hid (then_below B1.out b); clear y0 y1 y2 y3 y4; obtain ⟨y0, y1, y2, y3, y4⟩ := HK.out _ B2.out; clear b)
          | (go_at_call 48; (with_reducible refine (HW.out W k 1 2).mono ?_); rw [d1]; rintro r w1 ⟨rfl, b⟩; have B1 := Lib.hid (b); clear y0 y1 y2 y3 y4; obtain ⟨y0, y1, y2, y3, y4⟩ := HK.out _ B1.out; clear b))
        go_ret
        exact ⟨rfl, then_below B0.out B3.out⟩
    · have d2 : decide (0 ≤ f ∧ f ≤ 1000) = false := decide_eq_false h2
      have hc := HC.out
      rw [if_neg (fun h => h2 h.2.1)] at hc
      subst hc
      clear h1 h2 HC
      go_enter Try.func59, Try.ntmps59
      go_upto_region 1 with fail
      change Code.wp _ _ _ _ (w.alloc (.cells (fmC ⟨k, f, e, n, s⟩) 88))
      generalize w.alloc (.cells (fmC ⟨k, f, e, n, s⟩) 88) = W at B0 R0 ⊢
      generalize w.heap.size = gz at R0 ⊢
      have HK : Hid (∀ w1, Below W.heap.size W w1 → w1.cell? ⟨gz, 0, none⟩ = some (.int .i64 k) ∧ w1.cell? ⟨gz, 1, none⟩ = some (.int .i64 f) ∧ w1.cell? ⟨gz, 2, none⟩ = some (.int .i64 e) ∧ w1.cell? ⟨gz, 3, none⟩ = some (.int .i64 n) ∧ w1.cell? ⟨gz, 4, none⟩ = some (sV s)) := Lib.hid fun w1 hb => by
        have := R0.out.below hb R0.out.inside
        exact ⟨this.read 0, this.read 1, this.read 2, this.read 3, this.read 4⟩
      obtain ⟨y0, y1, y2, y3, y4⟩ := HK.out W (Below.refl _ W)
      go_wp2_with (first
        | (go_at_call 48; (with_reducible refine (HW.out w1 f 0 1000).mono ?_); rw [d2]; rintro r w2 ⟨rfl, b⟩; have B2 := Lib.hid (then_below B1.out b); clear y0 y1 y2 y3 y4; obtain ⟨y0, y1, y2, y3, y4⟩ := HK.out _ B2.out; clear b)
        | (go_at_call 48; (with_reducible refine (HW.out W k 1 2).mono ?_); rw [d1]; rintro r w1 ⟨rfl, b⟩; have B1 := Lib.hid (b); clear y0 y1 y2 y3 y4; obtain ⟨y0, y1, y2, y3, y4⟩ := HK.out _ B1.out; clear b))
      go_ret
      exact ⟨rfl, then_below B0.out B2.out⟩
  · have d1 : decide (1 ≤ k ∧ k ≤ 2) = false := decide_eq_false h1
    have hc := HC.out
    rw [if_neg (fun h => h1 h.1)] at hc
    subst hc
    clear h1 HC
    go_enter Try.func59, Try.ntmps59
    go_upto_region 1 with fail
    change Code.wp _ _ _ _ (w.alloc (.cells (fmC ⟨k, f, e, n, s⟩) 88))
    generalize w.alloc (.cells (fmC ⟨k, f, e, n, s⟩) 88) = W at B0 R0 ⊢
    generalize w.heap.size = gz at R0 ⊢
    have HK : Hid (∀ w1, Below W.heap.size W w1 → w1.cell? ⟨gz, 0, none⟩ = some (.int .i64 k) ∧ w1.cell? ⟨gz, 1, none⟩ = some (.int .i64 f) ∧ w1.cell? ⟨gz, 2, none⟩ = some (.int .i64 e) ∧ w1.cell? ⟨gz, 3, none⟩ = some (.int .i64 n) ∧ w1.cell? ⟨gz, 4, none⟩ = some (sV s)) := Lib.hid fun w1 hb => by
      have := R0.out.below hb R0.out.inside
      exact ⟨this.read 0, this.read 1, this.read 2, this.read 3, this.read 4⟩
    obtain ⟨y0, y1, y2, y3, y4⟩ := HK.out W (Below.refl _ W)
    go_wp2_with (go_at_call 48; (with_reducible refine (HW.out W k 1 2).mono ?_); rw [d1]; rintro r w1 ⟨rfl, b⟩; have B1 := Lib.hid (b); clear y0 y1 y2 y3 y4; obtain ⟨y0, y1, y2, y3, y4⟩ := HK.out _ B1.out; clear b)
    go_ret
    exact ⟨rfl, then_below B0.out B1.out⟩
end
end Go.Proofs.Ytbomlapmoiamgaa.hop
