/-
  The document's Read (by gen_hp10.py).
-/
import Derived.Test.YtkofocnifncagaaHp8
import Derived.Test.YtkofocnifncagaaHp9
import Derived.Test.YtkofocnifncagaaRdB2
set_option linter.unusedSimpArgs false
set_option linter.unusedVariables false
namespace Go.Proofs.Ytkofocnifncagaa.hop
open Go.ChangeShapes Go.WideShapes Go.ChangeAt Go.RowKit
open Go.Proofs.Ytkofocnifncagaa.opened Go.Proofs.Ytkofocnifncagaa.block Go.Proofs.Ytkofocnifncagaa.words Go.Proofs.Ytkofocnifncagaa.region Go.Proofs.Ytkofocnifncagaa.enc Go.Proofs.Ytkofocnifncagaa.code Go.Proofs.Ytkofocnifncagaa.crcm Go.Proofs.Ytkofocnifncagaa.crc
theorem infoFmR : (Try.prog.info? 56).map (·.size) = some 5 := by kernel_rfl
def p1 (t : Bs) : Nat := 0 + (q1 t).2.1
def p2 (t : Bs) : Nat := p1 t + (q2 t).2.1
def p3 (t : Bs) : Nat := p2 t + (q3 t).2.1
def p4 (t : Bs) : Nat := p3 t + (q4 t).2.1
theorem p_drop (t : Bs) : (t.drop (p1 t) = t1 t ∧ p1 t ≤ t.length) ∧ (t.drop (p2 t) = t2 t ∧ p2 t ≤ t.length) ∧ (t.drop (p3 t) = t3 t ∧ p3 t ≤ t.length) ∧ (t.drop (p4 t) = t4 t ∧ p4 t ≤ t.length) := by
  have h1 := rInt_bd t 0 2
  have h2 := rInt_bd (t1 t) (q1 t).2.2 1000
  have h3 := rInt_bd (t2 t) (q2 t).2.2 1073741824
  have h4 := rInt_bd (t3 t) (q3 t).2.2 1099511627776
  have e1 : (t1 t).length = t.length - (q1 t).2.1 := by unfold t1; rw [List.length_drop]
  have e2 : (t2 t).length = (t1 t).length - (q2 t).2.1 := by unfold t2; rw [List.length_drop]
  have e3 : (t3 t).length = (t2 t).length - (q3 t).2.1 := by unfold t3; rw [List.length_drop]
  have d1 : t.drop (p1 t) = t1 t := by unfold p1 t1; rw [Nat.zero_add]
  have d2 : t.drop (p2 t) = t2 t := by unfold p2 t2; rw [← d1, List.drop_drop]
  have d3 : t.drop (p3 t) = t3 t := by unfold p3 t3; rw [← d2, List.drop_drop]
  have d4 : t.drop (p4 t) = t4 t := by unfold p4 t4; rw [← d3, List.drop_drop]
  have l1 : p1 t ≤ t.length := by unfold p1 q1; omega
  have l2 : p2 t ≤ t.length := by unfold p2; unfold p1 at l1 ⊢; unfold q2; omega
  have l3 : p3 t ≤ t.length := by unfold p3; unfold p2 p1 at l2 ⊢; unfold p1 at l1; unfold q3; omega
  have l4 : p4 t ≤ t.length := by unfold p4; unfold p3 p2 p1 at l3 ⊢; unfold p2 p1 at l2; unfold p1 at l1; unfold q4; omega
  exact ⟨⟨d1, l1⟩, ⟨d2, l2⟩, ⟨d3, l3⟩, ⟨d4, l4⟩⟩
set_option maxRecDepth 100000 in
set_option maxHeartbeats 4000000 in
theorem readR_any (s : Bs) (hl : s.length ≤ 100000000) (w : World) : Calls Try.prog 32 #[sV s] w fun e w' => e = .returned (.tuple #[.agg (fmC (rdV s)), .int .i64 (rdE s)]) ∧ Below w.heap.size w w' := by
  have HO := Lib.hid (fun (w1 : World) => openR_any s (by omega) w1)
  have B1 : Hid (Below w.heap.size w (w.alloc (.cells zF 56))) := Lib.hid (fresh1 w _)
  have R1 : Hid (Whole (w.alloc (.cells zF 56)) w.heap.size 56 zF) := Lib.hid (Whole.fresh w 56 zF)
  have HV : Hid (rdV s = if rdE s = 0 then frm (openT s) else noF) := Lib.hid rfl
  have HE : Hid (rdE s = if isSeal s = true then if (q4 (openT s)).2.2 ≠ 0 ∨ chkF (frm (openT s)) ≠ 0 then 6 else 0 else 12) := Lib.hid rfl
  have htl : (openT s).length ≤ 100000000 := by
    unfold openT
    split
    · rw [List.length_drop]; omega
    · simp
  unfold opened at HO
  generalize rdV s = rv at HV ⊢
  generalize rdE s = re at HV HE ⊢
  generalize openT s = t at HO HV HE htl
  cases hs : isSeal s with
  | false =>
    rw [hs] at HO HE
    have he := HE.out
    rw [if_neg (by decide)] at he
    subst he
    have hv := HV.out
    rw [if_neg (by decide)] at hv
    subst hv
    clear HV HE hs
    go_enter Try.func32, Try.ntmps32
    go_upto_region 1 with fail
    change Code.wp _ _ _ _ (w.alloc (.cells zF 56))
    generalize w.alloc (.cells zF 56) = W1 at B1 R1 ⊢
    obtain ⟨g0, hg0⟩ : ∃ g, g = w.heap.size := ⟨_, rfl⟩
    have HG0 := Lib.hid hg0
    rw [← hg0] at R1 ⊢
    clear hg0
    go_wp2_with (first
      | (go_at_call 69; (with_reducible refine (HO.out W1).mono ?_); rintro e w2 ⟨rfl, b2⟩; have B2 := Lib.hid (then_below B1.out b2); have R2 := Lib.hid (R1.out.below b2 R1.out.inside); clear b2)
      | (refine put rfl 56 (.tmp 2) _ rfl (g := g0) rfl rfl R2.out (by kernel_rfl) rfl (by simp [Value.oneCell']) B2.out (by rw [HG0.out]; exact Nat.le_refl _) ?_; intro w9 hR9 hB9 hs9 ho9))
    exact bodyPost_ret (two_frame Try.results32 rfl rfl (f := noF) hR9 Try.underlying56 infoFmR) rfl ⟨rfl, hB9⟩
  | true =>
    rw [hs] at HO HE
    have he := HE.out
    rw [if_pos rfl] at he
    have HEE := Lib.hid he
    clear he HE hs
    obtain ⟨⟨k0, k1⟩, ⟨f0, f1⟩, ⟨e0, e1⟩, ⟨n0, n1⟩, hl4⟩ := q_bd t
    obtain ⟨⟨d1, j1⟩, ⟨d2, j2⟩, ⟨d3, j3⟩, ⟨d4, j4⟩⟩ := p_drop t
    have I1 : Hid (∀ g W, RdB W g ⟨t.toArray⟩ (0) 0 → Calls Try.prog 70 #[.pointer (some ⟨g, 0, none⟩), .int .i64 2] W fun e w' => e = .returned (.int .i64 (q1 t).1) ∧ RdB w' g ⟨t.toArray⟩ (p1 t) (q1 t).2.2 ∧ W.grownBy w' (some g)) := Lib.hid (fun g W h => by
      have := intB g ⟨t.toArray⟩ (0) 0 2 (by show t.toArray.size ≤ _; rw [List.size_toArray]; omega) (by show _ ≤ t.toArray.size; rw [List.size_toArray]; omega) (by omega) (by omega) W h
      rw [show (⟨t.toArray⟩ : ByteArray).data.toList = t by simp, List.drop_zero] at this
      exact this)
    have I2 : Hid (∀ g W, RdB W g ⟨t.toArray⟩ (p1 t) (q1 t).2.2 → Calls Try.prog 70 #[.pointer (some ⟨g, 0, none⟩), .int .i64 1000] W fun e w' => e = .returned (.int .i64 (q2 t).1) ∧ RdB w' g ⟨t.toArray⟩ (p2 t) (q2 t).2.2 ∧ W.grownBy w' (some g)) := Lib.hid (fun g W h => by
      have := intB g ⟨t.toArray⟩ (p1 t) (q1 t).2.2 1000 (by show t.toArray.size ≤ _; rw [List.size_toArray]; omega) (by show _ ≤ t.toArray.size; rw [List.size_toArray]; omega) (by omega) (by omega) W h
      rw [show (⟨t.toArray⟩ : ByteArray).data.toList = t by simp, d1] at this
      exact this)
    have I3 : Hid (∀ g W, RdB W g ⟨t.toArray⟩ (p2 t) (q2 t).2.2 → Calls Try.prog 70 #[.pointer (some ⟨g, 0, none⟩), .int .i64 1073741824] W fun e w' => e = .returned (.int .i64 (q3 t).1) ∧ RdB w' g ⟨t.toArray⟩ (p3 t) (q3 t).2.2 ∧ W.grownBy w' (some g)) := Lib.hid (fun g W h => by
      have := intB g ⟨t.toArray⟩ (p2 t) (q2 t).2.2 1073741824 (by show t.toArray.size ≤ _; rw [List.size_toArray]; omega) (by show _ ≤ t.toArray.size; rw [List.size_toArray]; omega) (by omega) (by omega) W h
      rw [show (⟨t.toArray⟩ : ByteArray).data.toList = t by simp, d2] at this
      exact this)
    have I4 : Hid (∀ g W, RdB W g ⟨t.toArray⟩ (p3 t) (q3 t).2.2 → Calls Try.prog 70 #[.pointer (some ⟨g, 0, none⟩), .int .i64 1099511627776] W fun e w' => e = .returned (.int .i64 (q4 t).1) ∧ RdB w' g ⟨t.toArray⟩ (p4 t) (q4 t).2.2 ∧ W.grownBy w' (some g)) := Lib.hid (fun g W h => by
      have := intB g ⟨t.toArray⟩ (p3 t) (q3 t).2.2 1099511627776 (by show t.toArray.size ≤ _; rw [List.size_toArray]; omega) (by show _ ≤ t.toArray.size; rw [List.size_toArray]; omega) (by omega) (by omega) W h
      rw [show (⟨t.toArray⟩ : ByteArray).data.toList = t by simp, d3] at this
      exact this)
    have HF : Hid (frm t = ⟨(q1 t).1, (q2 t).1, (q3 t).1, (q4 t).1, t4 t⟩) := Lib.hid rfl
    have hx : Hid ((⟨t.toArray⟩ : ByteArray).extract (p4 t) t.length = ⟨(t4 t).toArray⟩) := Lib.hid (by
      rw [extractF, d4, List.take_of_length_le (by rw [← d4, List.length_drop]; omega)])
    have hfl : (frm t).s.length ≤ 100000000 := by show (t4 t).length ≤ _; omega
    have HCk := Lib.hid (fun (w1 : World) => writeR_any (w := w1) (frm t) (by omega))
    have hj4 : p4 t ≤ t.length := j4
    clear d1 d2 d3 d4 j1 j2 j3 j4
    generalize hfr : frm t = fr at HEE HV HF hfl HCk
    generalize (q4 t).2.2 = er at HEE I4
    generalize (q4 t).1 = v4 at HF I4 n0 n1
    generalize (q3 t).2.2 = er3 at I3 I4
    generalize (q3 t).1 = v3 at HF I3 e0 e1
    generalize (q2 t).2.2 = er2 at I2 I3
    generalize (q2 t).1 = v2 at HF I2 f0 f1
    generalize (q1 t).2.2 = er1 at I1 I2
    generalize (q1 t).1 = v1 at HF I1 k0 k1
    generalize t4 t = x4 at HF hx hl4
    generalize p4 t = P4 at I4 hx hj4
    generalize p3 t = P3 at I3 I4
    generalize p2 t = P2 at I2 I3
    generalize p1 t = P1 at I1 I2
    generalize wrV fr = wv at HCk
    clear hl4 hfr
    go_enter Try.func32, Try.ntmps32
    go_upto_region 1 with fail
    change Code.wp _ _ _ _ (w.alloc (.cells zF 56))
    generalize w.alloc (.cells zF 56) = W1 at B1 R1 ⊢
    obtain ⟨g0, hg0⟩ : ∃ g, g = w.heap.size := ⟨_, rfl⟩
    have HG0 := Lib.hid hg0
    rw [← hg0] at R1 ⊢
    clear hg0
    go_upto_region 5 with (go_at_call 69; (with_reducible refine (HO.out W1).mono ?_); rintro e w2 ⟨rfl, b2⟩; have B2 := Lib.hid (then_below B1.out b2); have R2 := Lib.hid (R1.out.below b2 R1.out.inside); clear b2)
    change Code.wp _ _ _ _ (w2.alloc (.cells #[.string ⟨t.toArray⟩, .int .i64 0, .int .i64 0] 127))
    have B3 := Lib.hid (B2.out.alloc B2.out.size (.cells #[.string ⟨t.toArray⟩, .int .i64 0, .int .i64 0] 127))
    have R3 := Lib.hid (R2.out.alloc (.cells #[.string ⟨t.toArray⟩, .int .i64 0, .int .i64 0] 127))
    have D3 : Hid (RdB (w2.alloc (.cells #[.string ⟨t.toArray⟩, .int .i64 0, .int .i64 0] 127)) w2.heap.size ⟨t.toArray⟩ 0 0) := Lib.hid (Whole.fresh w2 _ _)
    have HLT : Hid (g0 < w2.heap.size) := Lib.hid R2.out.inside
    clear R2 B2 HO
    generalize w2.alloc (.cells #[.string ⟨t.toArray⟩, .int .i64 0, .int .i64 0] 127) = w3 at B3 R3 D3 ⊢
    generalize w2.heap.size = g at D3 HLT ⊢
    go_upto_region 6 with (go_at_call 70; refine (I1.out _ _ D3.out).mono ?_; rintro e w4 ⟨rfl, r4, k4⟩; have B4 := Lib.hid (below_own2 B3.out (by have := HG0.out; have := HLT.out; omega) k4); have R4 := Lib.hid (R3.out.grown k4 (by have := HLT.out; intro e; cases e; omega)); have D4 := Lib.hid r4; clear r4 k4)
    change Code.wp _ _ _ _ (w4.alloc (.cells #[.int .i64 v1, .int .i64 0, .int .i64 0, .int .i64 0, .string ByteArray.empty] 56))
    have B5 := Lib.hid (B4.out.alloc B4.out.size (.cells #[.int .i64 v1, .int .i64 0, .int .i64 0, .int .i64 0, .string ByteArray.empty] 56))
    have R5 := Lib.hid (R4.out.alloc (.cells #[.int .i64 v1, .int .i64 0, .int .i64 0, .int .i64 0, .string ByteArray.empty] 56))
    have D5 := Lib.hid (show RdB (w4.alloc (.cells #[.int .i64 v1, .int .i64 0, .int .i64 0, .int .i64 0, .string ByteArray.empty] 56)) g ⟨t.toArray⟩ P1 er1 from Whole.alloc D4.out _)
    have E5 := Lib.hid (Whole.fresh w4 56 #[.int .i64 v1, .int .i64 0, .int .i64 0, .int .i64 0, .string ByteArray.empty])
    have HLT2 : Hid (g < w4.heap.size) := Lib.hid (Whole.inside D4.out)
    clear R3 B3 D3 R4 B4 D4 I1
    generalize w4.alloc (.cells #[.int .i64 v1, .int .i64 0, .int .i64 0, .int .i64 0, .string ByteArray.empty] 56) = w5 at B5 R5 D5 E5 ⊢
    generalize w4.heap.size = gf at E5 HLT2 ⊢
    go_upto_region 7 with (go_at_call 70; refine (I2.out _ _ D5.out).mono ?_; rintro e w6 ⟨rfl, r6, k6⟩; have B6 := Lib.hid (below_own2 B5.out (by have := HG0.out; have := HLT.out; omega) k6); have R6 := Lib.hid (R5.out.grown k6 (by have := HLT.out; intro e; cases e; omega)); have E6 := Lib.hid (E5.out.grown k6 (by have := HLT2.out; intro e; cases e; omega)); have D6 := Lib.hid r6; have z6 := E6.out.read 1; have y6 : w6.frozen? ⟨gf, 1, none⟩ = false := E6.out.soft 1; clear r6 k6)
    have q7 : w6.grownBy (w6.setCell ⟨gf, 1, none⟩ (.int .i64 v2)) (some gf) := only_store (only_of_below (Below.refl _ w6) (some gf)) _
    have E7 : Hid (Whole (w6.setCell ⟨gf, 1, none⟩ (.int .i64 v2)) gf 56 #[.int .i64 v1, .int .i64 v2, .int .i64 0, .int .i64 0, .string ByteArray.empty]) := Lib.hid (E6.out.store 1 _)
    have D7 := Lib.hid (show RdB (w6.setCell ⟨gf, 1, none⟩ (.int .i64 v2)) g ⟨t.toArray⟩ P2 er2 from Whole.grown D6.out q7 (by have := HLT2.out; intro e; cases e; omega))
    have R7 := Lib.hid (R6.out.grown q7 (by have := HLT2.out; have := HLT.out; intro e; cases e; omega))
    have B7 := Lib.hid (below_own2 B6.out (by have := HLT2.out; have := HLT.out; have := HG0.out; omega) q7)
    clear q7 z6 y6 E6 D6 R6 B6 E5 D5 R5 B5 I2
    generalize w6.setCell ⟨gf, 1, none⟩ (.int .i64 v2) = w7 at E7 D7 R7 B7 ⊢
    go_upto_region 8 with (go_at_call 70; refine (I3.out _ _ D7.out).mono ?_; rintro e w8 ⟨rfl, r8, k8⟩; have B8 := Lib.hid (below_own2 B7.out (by have := HG0.out; have := HLT.out; omega) k8); have R8 := Lib.hid (R7.out.grown k8 (by have := HLT.out; intro e; cases e; omega)); have E8 := Lib.hid (E7.out.grown k8 (by have := HLT2.out; intro e; cases e; omega)); have D8 := Lib.hid r8; have z8 := E8.out.read 2; have y8 : w8.frozen? ⟨gf, 2, none⟩ = false := E8.out.soft 2; clear r8 k8)
    have q9 : w8.grownBy (w8.setCell ⟨gf, 2, none⟩ (.int .i64 v3)) (some gf) := only_store (only_of_below (Below.refl _ w8) (some gf)) _
    have E9 : Hid (Whole (w8.setCell ⟨gf, 2, none⟩ (.int .i64 v3)) gf 56 #[.int .i64 v1, .int .i64 v2, .int .i64 v3, .int .i64 0, .string ByteArray.empty]) := Lib.hid (E8.out.store 2 _)
    have D9 := Lib.hid (show RdB (w8.setCell ⟨gf, 2, none⟩ (.int .i64 v3)) g ⟨t.toArray⟩ P3 er3 from Whole.grown D8.out q9 (by have := HLT2.out; intro e; cases e; omega))
    have R9 := Lib.hid (R8.out.grown q9 (by have := HLT2.out; have := HLT.out; intro e; cases e; omega))
    have B9 := Lib.hid (below_own2 B8.out (by have := HLT2.out; have := HLT.out; have := HG0.out; omega) q9)
    clear q9 z8 y8 E8 D8 R8 B8 E7 D7 R7 B7 I3
    generalize w8.setCell ⟨gf, 2, none⟩ (.int .i64 v3) = w9 at E9 D9 R9 B9 ⊢
    go_upto_region 9 with (go_at_call 70; refine (I4.out _ _ D9.out).mono ?_; rintro e w10 ⟨rfl, r10, k10⟩; have B10 := Lib.hid (below_own2 B9.out (by have := HG0.out; have := HLT.out; omega) k10); have R10 := Lib.hid (R9.out.grown k10 (by have := HLT.out; intro e; cases e; omega)); have E10 := Lib.hid (E9.out.grown k10 (by have := HLT2.out; intro e; cases e; omega)); have D10 := Lib.hid r10; have z10 := E10.out.read 3; have y10 : w10.frozen? ⟨gf, 3, none⟩ = false := E10.out.soft 3; clear r10 k10)
    have q11 : w10.grownBy (w10.setCell ⟨gf, 3, none⟩ (.int .i64 v4)) (some gf) := only_store (only_of_below (Below.refl _ w10) (some gf)) _
    have E11 : Hid (Whole (w10.setCell ⟨gf, 3, none⟩ (.int .i64 v4)) gf 56 #[.int .i64 v1, .int .i64 v2, .int .i64 v3, .int .i64 v4, .string ByteArray.empty]) := Lib.hid (E10.out.store 3 _)
    have D11 := Lib.hid (show RdB (w10.setCell ⟨gf, 3, none⟩ (.int .i64 v4)) g ⟨t.toArray⟩ P4 er from Whole.grown D10.out q11 (by have := HLT2.out; intro e; cases e; omega))
    have R11 := Lib.hid (R10.out.grown q11 (by have := HLT2.out; have := HLT.out; intro e; cases e; omega))
    have B11 := Lib.hid (below_own2 B10.out (by have := HLT2.out; have := HLT.out; have := HG0.out; omega) q11)
    clear q11 z10 y10 E10 D10 R10 B10 E9 D9 R9 B9 I4
    generalize w10.setCell ⟨gf, 3, none⟩ (.int .i64 v4) = w11 at E11 D11 R11 B11 ⊢
    have z4 : w11.cell? ⟨gf, 4, none⟩ = some (.string ByteArray.empty) := E11.out.read 4
    have y4 : w11.frozen? ⟨gf, 4, none⟩ = false := E11.out.soft 4
    have z1 : w11.cell? ⟨g, 1, none⟩ = some (.int .i64 P4) := Whole.read D11.out 1
    have hj4i : (P4 : Int) ≤ (t.length : Int) := by omega
    have q12 : w11.grownBy (w11.setCell ⟨gf, 4, none⟩ (.string ⟨x4.toArray⟩)) (some gf) := only_store (only_of_below (Below.refl _ w11) (some gf)) _
    have E12 : Hid (Whole (w11.setCell ⟨gf, 4, none⟩ (.string ⟨x4.toArray⟩)) gf 56 (fmC fr)) := Lib.hid (by rw [HF.out]; exact E11.out.store 4 _)
    have D12 := Lib.hid (show RdB (w11.setCell ⟨gf, 4, none⟩ (.string ⟨x4.toArray⟩)) g ⟨t.toArray⟩ P4 er from Whole.grown D11.out q12 (by have := HLT2.out; intro e; cases e; omega))
    have R12 := Lib.hid (R11.out.grown q12 (by have := HLT2.out; have := HLT.out; intro e; cases e; omega))
    have B12 := Lib.hid (below_own2 B11.out (by have := HLT2.out; have := HLT.out; have := HG0.out; omega) q12)
    clear q12
    go_upto_region 10 with fail
    rw [hx.out]
    generalize w11.setCell ⟨gf, 4, none⟩ (.string ⟨x4.toArray⟩) = w12 at E12 D12 R12 B12 ⊢
    clear z4 y4 z1 hj4i hj4 hx R11 B11 D11 E11
    go_upto_region 11 with (first
      | (refine get rfl 56 (.tmp 7) rfl rfl E12.out Try.underlying56 rfl infoFmR ?_)
      | (go_at_call 30; (with_reducible refine (HCk.out w12).mono ?_); rintro e w13 ⟨rfl, b13⟩; have B13 := Lib.hid (then_below B12.out b13); have R13 := Lib.hid (R12.out.below b13 R12.out.inside); have E13 := Lib.hid (E12.out.below b13 E12.out.inside); have D13 := Lib.hid (show RdB w13 g ⟨t.toArray⟩ P4 er from Whole.below D12.out b13 (Whole.inside D12.out)); clear b13))
    have z2 : w13.cell? ⟨g, 2, none⟩ = some (.int .i64 er) := Whole.read D13.out 2
    clear R12 B12 D12 E12
    by_cases he : er = 0
    · subst he
      cases hck : decide (chkF fr = 0) with
      | true =>
        have hck0 := of_decide_eq_true hck
        rw [hck0] at HEE ⊢
        have hee := HEE.out
        rw [if_neg (by simp)] at hee
        subst hee
        have hv := HV.out
        rw [if_pos rfl] at hv
        subst hv
        clear hck hck0 HEE HV HF
        go_wp2_with (first
          | (refine put rfl 56 (.tmp 2) _ rfl (g := g0) rfl rfl R13.out (by kernel_rfl) rfl (by simp [Value.oneCell']) B13.out (by rw [HG0.out]; exact Nat.le_refl _) ?_; intro w9 hR9 hB9 hs9 ho9)
          | (refine get rfl 56 (.tmp 7) rfl rfl E13.out Try.underlying56 rfl infoFmR ?_))
        exact bodyPost_ret (two_frame Try.results32 rfl rfl (f := rv) hR9 Try.underlying56 infoFmR) rfl ⟨rfl, hB9⟩
      | false =>
        have hck0 := of_decide_eq_false hck
        have hckb : (chkF fr != 0) = true := by simpa using hck0
        have hee := HEE.out
        rw [if_pos (.inr hck0)] at hee
        subst hee
        have hv := HV.out
        rw [if_neg (by decide)] at hv
        subst hv
        generalize chkF fr = cf at hckb ⊢
        clear hck hck0 HEE HV HF
        go_wp2_with (refine put rfl 56 (.tmp 2) _ rfl (g := g0) rfl rfl R13.out (by kernel_rfl) rfl (by simp [Value.oneCell']) B13.out (by rw [HG0.out]; exact Nat.le_refl _) ?_; intro w9 hR9 hB9 hs9 ho9)
        exact bodyPost_ret (two_frame Try.results32 rfl rfl (f := noF) hR9 Try.underlying56 infoFmR) rfl ⟨rfl, hB9⟩
    · have heb : (er != 0) = true := by simpa using he
      have hee := HEE.out
      rw [if_pos (.inl he)] at hee
      subst hee
      have hv := HV.out
      rw [if_neg (by decide)] at hv
      subst hv
      clear he HEE HV HF
      go_wp2_with (refine put rfl 56 (.tmp 2) _ rfl (g := g0) rfl rfl R13.out (by kernel_rfl) rfl (by simp [Value.oneCell']) B13.out (by rw [HG0.out]; exact Nat.le_refl _) ?_; intro w9 hR9 hB9 hs9 ho9)
      exact bodyPost_ret (two_frame Try.results32 rfl rfl (f := noF) hR9 Try.underlying56 infoFmR) rfl ⟨rfl, hB9⟩
end Go.Proofs.Ytkofocnifncagaa.hop
