/-
  The contract of the law's example: it answers true.
-/
import Derived.Test.YtilkdpobkcocoaaDoorWorksK
namespace Go.Proofs.YtilkdpobkcocoaaDoor.stamp
open Go.ChangeShapes Go.WideShapes Go.ChangeAt Go.RowKit
open Go.Proofs.YtilkdpobkcocoaaDoor.tm Go.Proofs.YtilkdpobkcocoaaDoor.opened Go.Proofs.YtilkdpobkcocoaaDoor.block Go.Proofs.YtilkdpobkcocoaaDoor.code Go.Proofs.YtilkdpobkcocoaaDoor.enc

theorem step_alloc {w w' : World} {g : Nat} {t : TypeId} {cs : Array Value} (h : Whole w g t cs) (o : Obj) (b : Below (w.alloc o).heap.size (w.alloc o) w') : Whole w' g t cs := (h.alloc o).below b (by have := h.inside; simp; omega)
theorem step_same {w w' : World} {g : Nat} {t : TypeId} {cs : Array Value} (h : Whole w g t cs) (b : Below w.heap.size w w') : Whole w' g t cs := h.below b h.inside
theorem step_new {w w' : World} (t : TypeId) (cs : Array Value) (b : Below (w.alloc (.cells cs t)).heap.size (w.alloc (.cells cs t)) w') : Whole w' w.heap.size t cs := (Whole.fresh w t cs).below b (by simp)
theorem up_alloc {w0 w w' : World} {o : Obj} (v : Below w0.heap.size w0 w) (b : Below (w.alloc o).heap.size (w.alloc o) w') : Below w0.heap.size w0 w' := v.trans ((over1 b).mono v.size)
theorem up_same {w0 w w' : World} (v : Below w0.heap.size w0 w) (b : Below w.heap.size w w') : Below w0.heap.size w0 w' := v.trans (b.mono v.size)
set_option maxRecDepth 100000 in
set_option maxHeartbeats 8000000 in
theorem works_any (w : World) (hE : Env w) : Calls Tryd.prog 13 #[] w fun e w' => e = .returned (.bool true) ∧ Below w.heap.size w w' := by
  have HE := Lib.hid hE
  clear hE
  have qa : ∀ W : World, (binOp .eql 25 (.agg #[.int .u32 3, .int .i64 1, .int .u32 1, .int .u32 0, .int .u32 0]) (.agg #[.int .u32 3, .int .i64 1, .int .u32 1, .int .u32 0, .int .u32 0])).run Tryd.prog W = .ok (.bool true) W := fun W => by have k := run_eqT (⟨3, 1, 1, 0, 0⟩ : Tm) (⟨3, 1, 1, 0, 0⟩ : Tm) W; rwa [eqT_self] at k
  have qb : ∀ W : World, (binOp .eql 25 (.agg #[.int .u32 3, .int .i64 1, .int .u32 2, .int .u32 0, .int .u32 0]) (.agg #[.int .u32 3, .int .i64 1, .int .u32 2, .int .u32 0, .int .u32 0])).run Tryd.prog W = .ok (.bool true) W := fun W => by have k := run_eqT (⟨3, 1, 2, 0, 0⟩ : Tm) (⟨3, 1, 2, 0, 0⟩ : Tm) W; rwa [eqT_self] at k
  have qf : ∀ W : World, (binOp .eql 25 (.agg #[.int .u32 3, .int .i64 2, .int .u32 1, .int .u32 1, .int .u32 0]) (.agg #[.int .u32 3, .int .i64 2, .int .u32 1, .int .u32 1, .int .u32 0])).run Tryd.prog W = .ok (.bool true) W := fun W => by have k := run_eqT (⟨3, 2, 1, 1, 0⟩ : Tm) (⟨3, 2, 1, 1, 0⟩ : Tm) W; rwa [eqT_self] at k
  have QA' := Lib.hid qa
  have QB' := Lib.hid qb
  have QF' := Lib.hid qf
  clear qa qb qf
  go_enter Tryd.func13, Tryd.ntmps13
  go_wp2_with fail
  refine (at_any 3 1 _).mono ?_
  rintro e w1 ⟨rfl, b1⟩
  go_wp2_with fail
  refine (at_any 3 2 _).mono ?_
  rintro e w2 ⟨rfl, b2⟩
  go_wp2_with fail
  refine (at_any 4 0 _).mono ?_
  rintro e w3 ⟨rfl, b3⟩
  have v3 : Below w.heap.size w w3 := up_same (up_same b1 b2) b3
  clear b1 b2 b3
  go_wp2_with fail
  refine (enterK _).mono ?_
  rintro e w4 ⟨rfl, b4⟩
  have hA : Whole w4 w3.heap.size 25 #[.int .u32 3, .int .i64 1, .int .u32 1, .int .u32 0, .int .u32 0] := (((Whole.fresh w3 25 _).alloc _).alloc _).below b4 (by simp; omega)
  have hB : Whole w4 (w3.heap.size + 1) 25 #[.int .u32 3, .int .i64 1, .int .u32 2, .int .u32 0, .int .u32 0] := by
    have k := Whole.fresh (w3.alloc (.cells #[.int .u32 3, .int .i64 1, .int .u32 1, .int .u32 0, .int .u32 0] 25)) 25 #[.int .u32 3, .int .i64 1, .int .u32 2, .int .u32 0, .int .u32 0]
    rw [World.size_alloc] at k
    exact (k.alloc _).below b4 (by simp)
  have hC : Whole w4 (w3.heap.size + 1 + 1) 25 #[.int .u32 4, .int .i64 1, .int .u32 0, .int .u32 0, .int .u32 0] := by
    have k := Whole.fresh ((w3.alloc (.cells #[.int .u32 3, .int .i64 1, .int .u32 1, .int .u32 0, .int .u32 0] 25)).alloc (.cells #[.int .u32 3, .int .i64 1, .int .u32 2, .int .u32 0, .int .u32 0] 25)) 25 #[.int .u32 4, .int .i64 1, .int .u32 0, .int .u32 0, .int .u32 0]
    rw [World.size_alloc, World.size_alloc] at k
    exact k.below b4 (by simp)
  have v4 : Below w.heap.size w w4 := up_same (((v3.alloc v3.size _).alloc (by have := v3.size; simp; omega) _).alloc (by have := v3.size; simp; omega) _) b4
  clear b4 v3
  generalize w3.heap.size = p at hA hB hC ⊢
  go_wp2_with fail
  refine (nextK _).mono ?_
  rintro e w5 ⟨rfl, b5⟩
  replace hA := step_alloc hA _ b5
  replace hB := step_alloc hB _ b5
  replace hC := step_alloc hC _ b5
  have v5 := up_alloc v4 b5
  clear b5 v4
  go_wp2_with fail
  refine (leaveK _).mono ?_
  rintro e w6 ⟨rfl, b6⟩
  replace hA := step_alloc hA _ b6
  replace hB := step_alloc hB _ b6
  replace hC := step_alloc hC _ b6
  have hF := step_new _ _ b6
  have v6 := up_alloc v5 b6
  clear b6 v5
  generalize w5.heap.size = pf at hF ⊢
  obtain ⟨nF0, nF1, nF2, nF3, nF4, nFf0, nFf1, nFf2, nFf3, nFf4⟩ := facts5' hF
  have iF := hF.inside
  go_wp2_with fail
  refine (textK _ (by exact HE.out.below (v6.alloc v6.size _))).mono ?_
  rintro e w7 ⟨rfl, b7⟩
  clear nF0 nF1 nF2 nF3 nF4 nFf0 nFf1 nFf2 nFf3 nFf4 iF
  replace hA := step_alloc hA _ b7
  replace hB := step_alloc hB _ b7
  replace hC := step_alloc hC _ b7
  replace hF := step_alloc hF _ b7
  have hH := step_new _ _ b7
  have v7 := up_alloc v6 b7
  clear b7 v6
  generalize w6.heap.size = ph at hH ⊢
  go_wp2_with fail
  refine (parseK _ (by exact HE.out.below v7)).mono ?_
  rintro e w8 ⟨rfl, b8⟩
  replace hA := step_same hA b8
  replace hB := step_same hB b8
  replace hC := step_same hC b8
  replace hF := step_same hF b8
  replace hH := step_same hH b8
  have v8 := up_same v7 b8
  clear b8 v7
  obtain ⟨nB0, nB1, nB2, nB3, nB4, nBf0, nBf1, nBf2, nBf3, nBf4⟩ := facts5' hB
  have iB := hB.inside
  go_wp2_with fail
  refine (writeK _).mono ?_
  rintro e w9 ⟨rfl, b9⟩
  clear nB0 nB1 nB2 nB3 nB4 nBf0 nBf1 nBf2 nBf3 nBf4 iB
  replace hA := step_alloc hA _ b9
  replace hB := step_alloc hB _ b9
  replace hC := step_alloc hC _ b9
  replace hF := step_alloc hF _ b9
  replace hH := step_alloc hH _ b9
  have hT := step_new _ _ b9
  have v9 := up_alloc v8 b9
  clear b9 v8
  generalize w8.heap.size = pt at hT ⊢
  go_wp2_with fail
  refine (new_any ⟨#[1, 3, 2]⟩ _).mono ?_
  rintro e w10 ⟨rfl, rfl⟩
  go_wp2_with fail
  refine (readK w9.heap.size _ (by exact Whole.fresh w9 74 _)).mono ?_
  rintro e w11 ⟨rfl, g11⟩
  replace hA := (hA.alloc (.cells #[.string ⟨#[1, 3, 2]⟩, .int .i64 0] 74)).grown g11 (by have := hA.inside; simp; omega)
  replace hB := (hB.alloc (.cells #[.string ⟨#[1, 3, 2]⟩, .int .i64 0] 74)).grown g11 (by have := hB.inside; simp; omega)
  replace hC := (hC.alloc (.cells #[.string ⟨#[1, 3, 2]⟩, .int .i64 0] 74)).grown g11 (by have := hC.inside; simp; omega)
  replace hF := (hF.alloc (.cells #[.string ⟨#[1, 3, 2]⟩, .int .i64 0] 74)).grown g11 (by have := hF.inside; simp; omega)
  replace hH := (hH.alloc (.cells #[.string ⟨#[1, 3, 2]⟩, .int .i64 0] 74)).grown g11 (by have := hH.inside; simp; omega)
  replace hT := (hT.alloc (.cells #[.string ⟨#[1, 3, 2]⟩, .int .i64 0] 74)).grown g11 (by have := hT.inside; simp; omega)
  have v11 : Below w.heap.size w w11 := below_only (v9.alloc v9.size _) g11 (by have := v9.size; simp; omega) v9.size
  clear g11 v9
  go_wp2_with fail
  refine (leaveZ _).mono ?_
  rintro e w12 ⟨rfl, b12⟩
  replace hA := step_alloc hA _ b12
  replace hB := step_alloc hB _ b12
  replace hC := step_alloc hC _ b12
  replace hF := step_alloc hF _ b12
  replace hH := step_alloc hH _ b12
  replace hT := step_alloc hT _ b12
  have hR := step_new _ _ b12
  have v12 := up_alloc v11 b12
  clear b12 v11
  generalize w11.heap.size = pr at hR ⊢
  obtain ⟨nA0, nA1, nA2, nA3, nA4, nAf0, nAf1, nAf2, nAf3, nAf4⟩ := facts5' hA
  have iA := hA.inside
  obtain ⟨nB0, nB1, nB2, nB3, nB4, nBf0, nBf1, nBf2, nBf3, nBf4⟩ := facts5' hB
  have iB := hB.inside
  go_wp2_with fail
  refine (leAB _).mono ?_
  rintro e w13 ⟨rfl, b13⟩
  clear nA0 nA1 nA2 nA3 nA4 nAf0 nAf1 nAf2 nAf3 nAf4 iA nB0 nB1 nB2 nB3 nB4 nBf0 nBf1 nBf2 nBf3 nBf4 iB
  replace hA := step_alloc hA _ b13
  replace hB := step_alloc hB _ b13
  replace hC := step_alloc hC _ b13
  replace hF := step_alloc hF _ b13
  replace hH := step_alloc hH _ b13
  replace hT := step_alloc hT _ b13
  replace hR := step_alloc hR _ b13
  have v13 := up_alloc v12 b13
  clear b13 v12
  obtain ⟨nA0, nA1, nA2, nA3, nA4, nAf0, nAf1, nAf2, nAf3, nAf4⟩ := facts5' hA
  have iA := hA.inside
  obtain ⟨nB0, nB1, nB2, nB3, nB4, nBf0, nBf1, nBf2, nBf3, nBf4⟩ := facts5' hB
  have iB := hB.inside
  go_wp2_with fail
  refine (leBA _).mono ?_
  rintro e w14 ⟨rfl, b14⟩
  clear nA0 nA1 nA2 nA3 nA4 nAf0 nAf1 nAf2 nAf3 nAf4 iA nB0 nB1 nB2 nB3 nB4 nBf0 nBf1 nBf2 nBf3 nBf4 iB
  replace hA := step_same hA b14
  replace hB := step_same hB b14
  replace hC := step_same hC b14
  replace hF := step_same hF b14
  replace hH := step_same hH b14
  replace hT := step_same hT b14
  replace hR := step_same hR b14
  have v14 := up_same v13 b14
  clear b14 v13
  obtain ⟨nA0, nA1, nA2, nA3, nA4, nAf0, nAf1, nAf2, nAf3, nAf4⟩ := facts5' hA
  have iA := hA.inside
  obtain ⟨nC0, nC1, nC2, nC3, nC4, nCf0, nCf1, nCf2, nCf3, nCf4⟩ := facts5' hC
  have iC := hC.inside
  go_wp2_with fail
  refine (leAC _).mono ?_
  rintro e w15 ⟨rfl, b15⟩
  clear nA0 nA1 nA2 nA3 nA4 nAf0 nAf1 nAf2 nAf3 nAf4 iA nC0 nC1 nC2 nC3 nC4 nCf0 nCf1 nCf2 nCf3 nCf4 iC
  replace hA := step_same hA b15
  replace hB := step_same hB b15
  replace hC := step_same hC b15
  replace hF := step_same hF b15
  replace hH := step_same hH b15
  replace hT := step_same hT b15
  replace hR := step_same hR b15
  have v15 := up_same v14 b15
  clear b15 v14
  obtain ⟨nA0, nA1, nA2, nA3, nA4, nAf0, nAf1, nAf2, nAf3, nAf4⟩ := facts5' hA
  have iA := hA.inside
  obtain ⟨nC0, nC1, nC2, nC3, nC4, nCf0, nCf1, nCf2, nCf3, nCf4⟩ := facts5' hC
  have iC := hC.inside
  go_wp2_with fail
  refine (leCA _).mono ?_
  rintro e w16 ⟨rfl, b16⟩
  clear nA0 nA1 nA2 nA3 nA4 nAf0 nAf1 nAf2 nAf3 nAf4 iA nC0 nC1 nC2 nC3 nC4 nCf0 nCf1 nCf2 nCf3 nCf4 iC
  replace hA := step_same hA b16
  replace hB := step_same hB b16
  replace hC := step_same hC b16
  replace hF := step_same hF b16
  replace hH := step_same hH b16
  replace hT := step_same hT b16
  replace hR := step_same hR b16
  have v16 := up_same v15 b16
  clear b16 v15
  obtain ⟨nA0, nA1, nA2, nA3, nA4, nAf0, nAf1, nAf2, nAf3, nAf4⟩ := facts5' hA
  have iA := hA.inside
  obtain ⟨nC0, nC1, nC2, nC3, nC4, nCf0, nCf1, nCf2, nCf3, nCf4⟩ := facts5' hC
  have iC := hC.inside
  go_wp2_with fail
  refine (compareAC _).mono ?_
  rintro e w17 ⟨rfl, b17⟩
  clear nA0 nA1 nA2 nA3 nA4 nAf0 nAf1 nAf2 nAf3 nAf4 iA nC0 nC1 nC2 nC3 nC4 nCf0 nCf1 nCf2 nCf3 nCf4 iC
  replace hA := step_same hA b17
  replace hB := step_same hB b17
  replace hC := step_same hC b17
  replace hF := step_same hF b17
  replace hH := step_same hH b17
  replace hT := step_same hT b17
  replace hR := step_same hR b17
  have v17 := up_same v16 b17
  clear b17 v16
  obtain ⟨nA0, nA1, nA2, nA3, nA4, nAf0, nAf1, nAf2, nAf3, nAf4⟩ := facts5' hA
  have iA := hA.inside
  obtain ⟨nB0, nB1, nB2, nB3, nB4, nBf0, nBf1, nBf2, nBf3, nBf4⟩ := facts5' hB
  have iB := hB.inside
  obtain ⟨nF0, nF1, nF2, nF3, nF4, nFf0, nFf1, nFf2, nFf3, nFf4⟩ := facts5' hF
  have iF := hF.inside
  obtain ⟨nH0, nH1, nH2, nH3, nH4, nHf0, nHf1, nHf2, nHf3, nHf4⟩ := facts5' hH
  have iH := hH.inside
  obtain ⟨nT0, nT1, nT2, nT3, nT4, nTf0, nTf1, nTf2, nTf3, nTf4⟩ := facts5' hT
  have iT := hT.inside
  obtain ⟨nR0, nR1, nR2, nR3, nR4, nRf0, nRf1, nRf2, nRf3, nRf4⟩ := facts5' hR
  have iR := hR.inside
  have qa := QA'.out
  have qb := QB'.out
  have qf := QF'.out
  go_wp2_with fail
  go_ret
  exact ⟨rfl, v17⟩
end Go.Proofs.YtilkdpobkcocoaaDoor.stamp
