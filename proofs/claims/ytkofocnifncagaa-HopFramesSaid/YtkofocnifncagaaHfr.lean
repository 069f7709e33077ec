/-
  The walk of HopFrames.
-/
import Derived.Test.YtkofocnifncagaaHp10
set_option linter.unusedSimpArgs false
set_option linter.unusedVariables false
namespace Go.Proofs.Ytkofocnifncagaa.hop
open Go.ChangeShapes Go.WideShapes Go.ChangeAt Go.RowKit
open Go.Proofs.Ytkofocnifncagaa.opened Go.Proofs.Ytkofocnifncagaa.block Go.Proofs.Ytkofocnifncagaa.words Go.Proofs.Ytkofocnifncagaa.region
theorem one_frame {fn : Func} {p : Tmp} {tl : TypeId} {fs} (h : fn.results = #[.cell p tl]) {tmps : Array Value} {w : World} {g : Nat} {ty : TypeId} {f : Fm}
    (hp : tmps[p]?.getD undef = .pointer (some ⟨g, 0, none⟩)) (hw : Whole w g ty (fmC f)) (hu : Try.prog.underlying tl = some (.struct fs)) (hi : (Try.prog.info? tl).map (·.size) = some 5) : (results fn tmps).run Try.prog w = .ok (.agg (fmC f)) w := by
  simp [results, h, hp, asAddr, loaded hw hu rfl hi]
set_option maxRecDepth 100000 in
theorem frame_any (f : Fm) (w : World) : Calls Try.prog 29 #[.agg (fmC f)] w fun e w' => e = .returned (.agg (fmC f)) ∧ Below w.heap.size w w' := by
  obtain ⟨k, f, e, n, s⟩ := f
  change Calls Try.prog 29 #[.agg #[.int .i64 k, .int .i64 f, .int .i64 e, .int .i64 n, sV s]] w _
  have b1 := fresh1 w (.cells (fmC ⟨k, f, e, n, s⟩) 56)
  have R1 := Whole.fresh w 56 (fmC ⟨k, f, e, n, s⟩)
  obtain ⟨w1, hw1⟩ : ∃ w1, w1 = w.alloc (.cells (fmC ⟨k, f, e, n, s⟩) 56) := ⟨_, rfl⟩
  rw [← hw1] at b1 R1
  have b2 := then_below b1 (fresh1 w1 (.cells zF 59))
  have R2 : Whole (w1.alloc (.cells zF 59)) w.heap.size 56 (fmC ⟨k, f, e, n, s⟩) := R1.alloc _
  have Z2 := Whole.fresh w1 59 zF
  have HZ : Hid (w.heap.size ≤ w1.heap.size) := Lib.hid b1.size
  have B2 := Lib.hid b2
  have H2 := Lib.hid R2
  have G2 := Lib.hid Z2
  clear b1 R1 b2 R2 Z2
  go_enter Try.func29, Try.ntmps29
  go_upto_region 1 with fail
  change Code.wp _ _ _ _ ((w.alloc (.cells (fmC ⟨k, f, e, n, s⟩) 56)).alloc (.cells zF 59))
  rw [← hw1]
  have hs1 : w.heap.size + 1 = w1.heap.size := by rw [hw1, World.size_alloc]
  try simp only [World.size_alloc, hs1]
  clear hw1
  generalize w1.alloc (.cells zF 59) = W at B2 H2 G2 ⊢
  have x0 : W.cell? ⟨w.heap.size, 0, none⟩ = some (.int .i64 k) := H2.out.read 0
  have x1 : W.cell? ⟨w.heap.size, 1, none⟩ = some (.int .i64 f) := H2.out.read 1
  have x2 : W.cell? ⟨w.heap.size, 2, none⟩ = some (.int .i64 e) := H2.out.read 2
  have x3 : W.cell? ⟨w.heap.size, 3, none⟩ = some (.int .i64 n) := H2.out.read 3
  have x4 : W.cell? ⟨w.heap.size, 4, none⟩ = some (sV s) := H2.out.read 4
  go_wp2_with (refine put rfl 59 (.tmp 2) _ rfl (g := w1.heap.size) rfl rfl G2.out (by kernel_rfl) rfl (by simp [Value.oneCell']) B2.out HZ.out ?_; intro w9 hR9 hB9 hs9 ho9)
  exact bodyPost_ret (one_frame Try.results29 rfl (f := ⟨k, f, e, n, s⟩) hR9 Try.underlying59 infoFm) rfl ⟨rfl, hB9⟩
theorem str_list (s : ByteArray) (h : s.size ≤ 140737488351232) : ∃ l : Bs, s = ⟨l.toArray⟩ ∧ l.length ≤ 140737488351232 := ⟨s.data.toList, by simp, by rw [Array.length_toList]; exact h⟩
set_option maxRecDepth 100000 in
theorem top_fra {w : World} {r : Reach} {b : Nat} {v : Value} {p : fraT} (hv : Value.okWide Try.prog w r b 56 v) (h : fraR w v.cells.toList p) : ∃ f : Fm, f.In ∧ v = .agg (fmC f) := by
  obtain ⟨h1, h2⟩ := fra_of h
  refine ⟨fraOf p, h1, ?_⟩
  rw [top_struct Try.underlying56 hv]
  congr 1
  exact Array.toList_inj.1 h2
section
variable {w : World}
set_option maxRecDepth 100000 in
set_option maxHeartbeats 8000000 in
theorem walkFrames (f : Fm) (hf : f.In) (s : Bs) (hs : s.length ≤ 140737488351232) : Calls Try.prog 5 #[.agg (fmC f), sV s] w fun e w' => e = .returned (.bool true) ∧ Below w.heap.size w w' := by
  have hfs : f.s.length ≤ 140737488351232 := hf.2.2.2.2
  have HWr := Lib.hid (fun (w1 : World) => write_any (w := w1) f hfs)
  have HWR := Lib.hid (fun (w1 : World) => writeR_any (w := w1) f hfs)
  have HFr := Lib.hid (fun (w1 : World) => frame_any f w1)
  generalize wrV f = wv at HWr HWR
  generalize chkF f = cf at HWr HWR
  clear hf
  obtain ⟨k, f, e, n, t⟩ := f
  have ht : t.length ≤ 140737488351232 := hfs
  clear hfs
  change Calls Try.prog 5 #[.agg #[.int .i64 k, .int .i64 f, .int .i64 e, .int .i64 n, sV t], sV s] w _
  have B0 : Hid (Below w.heap.size w (w.alloc (.cells (fmC ⟨k, f, e, n, t⟩) 56))) := Lib.hid (fresh1 w _)
  have R0 : Hid (Whole (w.alloc (.cells (fmC ⟨k, f, e, n, t⟩) 56)) w.heap.size 56 (fmC ⟨k, f, e, n, t⟩)) := Lib.hid (Whole.fresh w 56 _)
  by_cases h1 : 7000 < t.length
  · have h1i : (7000 : Int) < (t.length : Int) := by omega
    have hti : (t.length : Int) ≤ 140737488351232 := by omega
    go_enter Try.func5, Try.ntmps5
    go_upto_region 1 with fail
    change Code.wp _ _ _ _ (w.alloc (.cells (fmC ⟨k, f, e, n, t⟩) 56))
    generalize w.alloc (.cells (fmC ⟨k, f, e, n, t⟩) 56) = W at B0 R0 ⊢
    have y4 : W.cell? ⟨w.heap.size, 4, none⟩ = some (sV t) := R0.out.read 4
    go_wp2_with fail
    go_ret
    exact ⟨rfl, B0.out⟩
  · have h1i : (t.length : Int) ≤ 7000 := by omega
    by_cases h2 : 7000 < s.length
    · have h2i : (7000 : Int) < (s.length : Int) := by omega
      have hsi : (s.length : Int) ≤ 140737488351232 := by omega
      go_enter Try.func5, Try.ntmps5
      go_upto_region 1 with fail
      change Code.wp _ _ _ _ (w.alloc (.cells (fmC ⟨k, f, e, n, t⟩) 56))
      generalize w.alloc (.cells (fmC ⟨k, f, e, n, t⟩) 56) = W at B0 R0 ⊢
      have y4 : W.cell? ⟨w.heap.size, 4, none⟩ = some (sV t) := R0.out.read 4
      go_wp2_with fail
      go_ret
      exact ⟨rfl, B0.out⟩
    · have h2i : (s.length : Int) ≤ 7000 := by omega
      have HRd := Lib.hid (fun (w1 : World) => read_any s (by omega) w1)
      have HRR := Lib.hid (fun (w1 : World) => readR_any s (by omega) w1)
      generalize rdV s = rv at HRd HRR
      generalize rdE s = re at HRd HRR
      have HFy := Lib.hid (fun (w1 : World) => frame_any rv w1)
      clear h1 h2 ht hs
      go_enter Try.func5, Try.ntmps5
      go_upto_region 1 with fail
      change Code.wp _ _ _ _ (w.alloc (.cells (fmC ⟨k, f, e, n, t⟩) 56))
      generalize w.alloc (.cells (fmC ⟨k, f, e, n, t⟩) 56) = W at B0 R0 ⊢
      generalize w.heap.size = gz at R0 ⊢
      have y4 : W.cell? ⟨gz, 4, none⟩ = some (sV t) := R0.out.read 4
      go_upto_region 5 with (first
        | (go_at_call 30; (with_reducible refine (HWR.out w2).mono ?_); rintro r w3 ⟨rfl, b3⟩; have B3 := Lib.hid (then_below B2.out b3); clear b3)
        | (refine get rfl 56 (.tmp 2) rfl rfl R2.out Try.underlying56 rfl infoFmR ?_)
        | (go_at_call 28; (with_reducible refine (HWr.out w1).mono ?_); rintro r w2 ⟨rfl, b2⟩; have B2 := Lib.hid (then_below B1.out b2); have R2 := Lib.hid (R1.out.below b2 R1.out.inside); clear b2)
        | (go_at_call 29; (with_reducible refine (HFr.out W).mono ?_); rintro r w1 ⟨rfl, b1⟩; have B1 := Lib.hid b1; have R1 := Lib.hid (R0.out.below b1 R0.out.inside); clear b1 y4)
        | (refine get rfl 56 (.tmp 2) rfl rfl R0.out Try.underlying56 rfl infoFmR ?_))
      go_upto_region 6 with (go_at_call 31; (with_reducible refine (HRd.out w3).mono ?_); rintro r w4 ⟨rfl, b4⟩; have B4 := Lib.hid (then_below B3.out b4); clear b4)
      change Code.wp _ _ _ _ (w4.alloc (.cells (fmC rv) 59))
      have B5 := Lib.hid (then_below B4.out (fresh1 w4 (.cells (fmC rv) 59)))
      have X5 := Lib.hid (Whole.fresh w4 59 (fmC rv))
      generalize w4.alloc (.cells (fmC rv) 59) = w5 at B5 X5 ⊢
      generalize w4.heap.size = gx at X5 ⊢
      go_upto_region 7 with (go_at_call 32; (with_reducible refine (HRR.out w5).mono ?_); rintro r w6 ⟨rfl, b6⟩; have B6 := Lib.hid (then_below B5.out b6); have X6 := Lib.hid (X5.out.below b6 X5.out.inside); clear b6)
      change Code.wp _ _ _ _ (w6.alloc (.cells (fmC rv) 56))
      have B7 := Lib.hid (then_below B6.out (fresh1 w6 (.cells (fmC rv) 56)))
      have X7 := Lib.hid (X6.out.alloc (.cells (fmC rv) 56))
      have Y7 := Lib.hid (Whole.fresh w6 56 (fmC rv))
      generalize w6.alloc (.cells (fmC rv) 56) = w7 at B7 X7 Y7 ⊢
      generalize w6.heap.size = gy at Y7 ⊢
      obtain ⟨a0, a1, a2, a3, a4⟩ := rv
      have x0 : ∀ y : Since w7, y.1.cell? ⟨gx, 0, none⟩ = some (.int .i64 a0) := fun y => (X7.out.below y.2 X7.out.inside).read 0
      have x1 : ∀ y : Since w7, y.1.cell? ⟨gx, 1, none⟩ = some (.int .i64 a1) := fun y => (X7.out.below y.2 X7.out.inside).read 1
      have x2 : ∀ y : Since w7, y.1.cell? ⟨gx, 2, none⟩ = some (.int .i64 a2) := fun y => (X7.out.below y.2 X7.out.inside).read 2
      have x3 : ∀ y : Since w7, y.1.cell? ⟨gx, 3, none⟩ = some (.int .i64 a3) := fun y => (X7.out.below y.2 X7.out.inside).read 3
      have x4 : ∀ y : Since w7, y.1.cell? ⟨gx, 4, none⟩ = some (sV a4) := fun y => (X7.out.below y.2 X7.out.inside).read 4
      have y0 : ∀ y : Since w7, y.1.cell? ⟨gy, 0, none⟩ = some (.int .i64 a0) := fun y => (Y7.out.below y.2 Y7.out.inside).read 0
      have y1 : ∀ y : Since w7, y.1.cell? ⟨gy, 1, none⟩ = some (.int .i64 a1) := fun y => (Y7.out.below y.2 Y7.out.inside).read 1
      have y2 : ∀ y : Since w7, y.1.cell? ⟨gy, 2, none⟩ = some (.int .i64 a2) := fun y => (Y7.out.below y.2 Y7.out.inside).read 2
      have y3 : ∀ y : Since w7, y.1.cell? ⟨gy, 3, none⟩ = some (.int .i64 a3) := fun y => (Y7.out.below y.2 Y7.out.inside).read 3
      have y4 : ∀ y : Since w7, y.1.cell? ⟨gy, 4, none⟩ = some (sV a4) := fun y => (Y7.out.below y.2 Y7.out.inside).read 4
      change Hid (∀ w1 : World, Calls Try.prog 29 #[.agg #[.int .i64 a0, .int .i64 a1, .int .i64 a2, .int .i64 a3, sV a4]] w1 fun e w' => e = .returned (.agg #[.int .i64 a0, .int .i64 a1, .int .i64 a2, .int .i64 a3, sV a4]) ∧ Below w1.heap.size w1 w') at HFy
      refine region_since w7 (by kernel_rfl) (by kernel_rfl) (Below.refl _ _) ?_
      repeat (go_big_quiet_step ((go_at_call 29; with_reducible exact since_callW (fun w1 _ => HFy.out w1) _)))
      refine wpQuiet_nil ?_
      rintro w8 ⟨z, rfl⟩
      have B8 := Lib.hid (then_below B7.out z.2)
      clear x0 x1 x2 x3 x4 y0 y1 y2 y3 y4
      go_wp2_with fail
      go_ret
      exact ⟨rfl, then_below B0.out B8.out⟩
end
end Go.Proofs.Ytkofocnifncagaa.hop
