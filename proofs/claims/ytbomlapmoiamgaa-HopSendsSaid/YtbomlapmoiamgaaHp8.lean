/-
  hop.Read.
-/
import Derived.Test.YtbomlapmoiamgaaHp7
set_option linter.unusedSimpArgs false
set_option linter.unusedVariables false
namespace Go.Proofs.Ytbomlapmoiamgaa.hop
open Go.ChangeShapes Go.WideShapes Go.ChangeAt Go.RowKit
open Go.Proofs.Ytbomlapmoiamgaa.opened Go.Proofs.Ytbomlapmoiamgaa.block Go.Proofs.Ytbomlapmoiamgaa.words Go.Proofs.Ytbomlapmoiamgaa.region Go.Proofs.Ytbomlapmoiamgaa.enc Go.Proofs.Ytbomlapmoiamgaa.code Go.Proofs.Ytbomlapmoiamgaa.crcm Go.Proofs.Ytbomlapmoiamgaa.crc
def q1 (t : Bs) : Int × Nat × Int := rInt t 0 2
def t1 (t : Bs) : Bs := t.drop (q1 t).2.1
def q2 (t : Bs) : Int × Nat × Int := rInt (t1 t) (q1 t).2.2 1000
def t2 (t : Bs) : Bs := (t1 t).drop (q2 t).2.1
def q3 (t : Bs) : Int × Nat × Int := rInt (t2 t) (q2 t).2.2 1073741824
def t3 (t : Bs) : Bs := (t2 t).drop (q3 t).2.1
def q4 (t : Bs) : Int × Nat × Int := rInt (t3 t) (q3 t).2.2 1099511627776
def t4 (t : Bs) : Bs := (t3 t).drop (q4 t).2.1
def frm (t : Bs) : Fm := ⟨(q1 t).1, (q2 t).1, (q3 t).1, (q4 t).1, t4 t⟩
def noF : Fm := ⟨0, 0, 0, 0, []⟩
def rdE (s : Bs) : Int := if isSeal s = true then if (q4 (openT s)).2.2 ≠ 0 ∨ chkF (frm (openT s)) ≠ 0 then 6 else 0 else 12
def rdV (s : Bs) : Fm := if rdE s = 0 then frm (openT s) else noF
theorem t4_drop (t : Bs) : ∃ U : Nat, U ≤ t.length ∧ t.drop U = t4 t ∧ (t4 t).length + U = t.length := by
  have h1 : ∃ k, t4 t = t.drop k := by
    unfold t4 t3 t2 t1
    rw [List.drop_drop, List.drop_drop, List.drop_drop]
    exact ⟨_, rfl⟩
  obtain ⟨k, hk⟩ := h1
  refine ⟨min k t.length, by omega, ?_, ?_⟩
  · rw [hk]
    by_cases h : k ≤ t.length
    · rw [Nat.min_eq_left h]
    · rw [Nat.min_eq_right (by omega), List.drop_of_length_le (Nat.le_refl _), List.drop_of_length_le (by omega)]
  · rw [hk, List.length_drop]
    omega
theorem q_bd (t : Bs) : (0 ≤ (q1 t).1 ∧ (q1 t).1 ≤ 2) ∧ (0 ≤ (q2 t).1 ∧ (q2 t).1 ≤ 1000) ∧ (0 ≤ (q3 t).1 ∧ (q3 t).1 ≤ 1073741824) ∧ (0 ≤ (q4 t).1 ∧ (q4 t).1 ≤ 1099511627776) ∧ (t4 t).length ≤ t.length := by
  have h1 := rInt_bd t 0 2
  have h2 := rInt_bd (t1 t) (q1 t).2.2 1000
  have h3 := rInt_bd (t2 t) (q2 t).2.2 1073741824
  have h4 := rInt_bd (t3 t) (q3 t).2.2 1099511627776
  obtain ⟨U, hU, -, hl⟩ := t4_drop t
  unfold q4 q3 q2 q1 at *
  omega
theorem infoFm : (Try.prog.info? 88).map (·.size) = some 5 := by kernel_rfl
abbrev zF : Array Value := #[.int .i64 0, .int .i64 0, .int .i64 0, .int .i64 0, .string ByteArray.empty]
theorem extractF (s : Bs) (a b : Nat) : (⟨s.toArray⟩ : ByteArray).extract a b = ⟨((s.drop a).take (b - a)).toArray⟩ := by
  have := Lib.extract_eq (⟨s.toArray⟩ : ByteArray) a b
  simpa using this
theorem slice_dropF (s : Bs) (a : Nat) (ha : a ≤ s.length) (W : World) : (Instr.slice 9 (.string ⟨s.toArray⟩) (some (.int .i64 (a : Int))) none none).run Try.prog W = .ok (.string ⟨(s.drop a).toArray⟩) W := by
  have h := extractF s a s.length
  rw [List.take_of_length_le (by simp)] at h
  rw [← h]
  go_simp
theorem two_frame {fn : Func} {p q : Tmp} {tl : TypeId} {fs} (h : fn.results = #[.cell p tl, .tmp q]) {tmps : Array Value} {w : World} {g : Nat} {ty : TypeId} {f : Fm} {v : Value}
    (hp : tmps[p]?.getD undef = .pointer (some ⟨g, 0, none⟩)) (hq : tmps[q]?.getD undef = v) (hw : Whole w g ty (fmC f)) (hu : Try.prog.underlying tl = some (.struct fs)) (hi : (Try.prog.info? tl).map (·.size) = some 5) : (results fn tmps).run Try.prog w = .ok (.tuple #[.agg (fmC f), v]) w := by
  simp [results, h, hp, hq, asAddr, loaded hw hu rfl hi]
theorem below_own2 {w w1 w2 : World} {g : Nat} (h : Below w.heap.size w w1) (hg : w.heap.size ≤ g) (k : w1.grownBy w2 (some g)) : Below w.heap.size w w2 := h.grown k h.size fun j e => by cases e; exact hg
set_option maxRecDepth 100000 in
set_option maxHeartbeats 4000000 in
theorem read_any (s : Bs) (hl : s.length ≤ 100000000) (w : World) : Calls Try.prog 55 #[sV s] w fun e w' => e = .returned (.tuple #[.agg (fmC (rdV s)), .int .i64 (rdE s)]) ∧ Below w.heap.size w w' := by
  have HO := Lib.hid (fun (w1 : World) => open_any s (by omega) w1)
  have B1 : Hid (Below w.heap.size w (w.alloc (.cells zF 88))) := Lib.hid (fresh1 w _)
  have R1 : Hid (Whole (w.alloc (.cells zF 88)) w.heap.size 88 zF) := Lib.hid (Whole.fresh w 88 zF)
  have HV : Hid (rdV s = if rdE s = 0 then frm (openT s) else noF) := Lib.hid rfl
  have HE : Hid (rdE s = if isSeal s = true then if (q4 (openT s)).2.2 ≠ 0 ∨ chkF (frm (openT s)) ≠ 0 then 6 else 0 else 12) := Lib.hid rfl
  have htl : (openT s).length ≤ 100000000 := by
    unfold openT
    split
    · rw [List.length_drop]; omega
    · simp
  unfold opened at HO
  generalize rdV s = rv at HV ⊢
  generalize rdE s = re at HV HE ⊢
  generalize openT s = t at HO HV HE htl
  cases hs : isSeal s with
  | false =>
    rw [hs] at HO HE
    have he := HE.out
    rw [if_neg (by decide)] at he
    subst he
    have hv := HV.out
    rw [if_neg (by decide)] at hv
    subst hv
    clear HV HE hs
    go_enter Try.func55, Try.ntmps55
    go_upto_region 1 with fail
    change Code.wp _ _ _ _ (w.alloc (.cells zF 88))
    generalize w.alloc (.cells zF 88) = W1 at B1 R1 ⊢
    obtain ⟨g0, hg0⟩ : ∃ g, g = w.heap.size := ⟨_, rfl⟩
    have HG0 := Lib.hid hg0
    rw [← hg0] at R1 ⊢
    clear hg0
    go_wp2_with (first
      | (go_at_call 62; (with_reducible refine (HO.out W1).mono ?_); rintro e w2 ⟨rfl, b2⟩; have B2 := Lib.hid (then_below B1.out b2); have R2 := Lib.hid (R1.out.below b2 R1.out.inside); clear b2)
      | (refine put rfl 88 (.tmp 2) _ rfl (g := g0) rfl rfl R2.out (by kernel_rfl) rfl (by simp [Value.oneCell']) B2.out (by rw [HG0.out]; exact Nat.le_refl _) ?_; intro w9 hR9 hB9 hs9 ho9))
    exact bodyPost_ret (two_frame Try.results55 rfl rfl (f := noF) hR9 Try.underlying88 infoFm) rfl ⟨rfl, hB9⟩
  | true =>
    rw [hs] at HO HE
    have he := HE.out
    rw [if_pos rfl] at he
    have HEE := Lib.hid he
    clear he HE hs
    obtain ⟨⟨k0, k1⟩, ⟨f0, f1⟩, ⟨e0, e1⟩, ⟨n0, n1⟩, hl4⟩ := q_bd t
    obtain ⟨U, hU, hUd, hUl⟩ := t4_drop t
    have NW : Hid (∀ w1, Calls Try.prog 63 #[sV t] w1 fun e w' => e = .returned (.pointer (some ⟨w1.heap.size, 0, none⟩)) ∧ RdA w' w1.heap.size t 0 ∧ w1.grownBy w' none) := Lib.hid fun w1 => new_l t w1
    have I1 : Hid (∀ g W, RdA W g t 0 → Calls Try.prog 64 #[.pointer (some ⟨g, 0, none⟩), .int .i64 2] W fun e w' => e = .returned (.int .i64 (q1 t).1) ∧ RdA w' g (t1 t) (q1 t).2.2 ∧ W.grownBy w' (some g)) := Lib.hid (fun g W h => intA g t 0 2 (by omega) (by omega) (by omega) W h)
    have hl1 : (t1 t).length ≤ t.length := by unfold t1; rw [List.length_drop]; omega
    have hl2 : (t2 t).length ≤ t.length := by unfold t2; rw [List.length_drop]; omega
    have hl3 : (t3 t).length ≤ t.length := by unfold t3; rw [List.length_drop]; omega
    have I2 : Hid (∀ g W, RdA W g (t1 t) (q1 t).2.2 → Calls Try.prog 64 #[.pointer (some ⟨g, 0, none⟩), .int .i64 1000] W fun e w' => e = .returned (.int .i64 (q2 t).1) ∧ RdA w' g (t2 t) (q2 t).2.2 ∧ W.grownBy w' (some g)) := Lib.hid (fun g W h => intA g (t1 t) _ 1000 (by omega) (by omega) (by omega) W h)
    have I3 : Hid (∀ g W, RdA W g (t2 t) (q2 t).2.2 → Calls Try.prog 64 #[.pointer (some ⟨g, 0, none⟩), .int .i64 1073741824] W fun e w' => e = .returned (.int .i64 (q3 t).1) ∧ RdA w' g (t3 t) (q3 t).2.2 ∧ W.grownBy w' (some g)) := Lib.hid (fun g W h => intA g (t2 t) _ 1073741824 (by omega) (by omega) (by omega) W h)
    have I4 : Hid (∀ g W, RdA W g (t3 t) (q3 t).2.2 → Calls Try.prog 64 #[.pointer (some ⟨g, 0, none⟩), .int .i64 1099511627776] W fun e w' => e = .returned (.int .i64 (q4 t).1) ∧ RdA w' g (t4 t) (q4 t).2.2 ∧ W.grownBy w' (some g)) := Lib.hid (fun g W h => intA g (t3 t) _ 1099511627776 (by omega) (by omega) (by omega) W h)
    have ER := Lib.hid (fun g W (h : RdA W g (t4 t) (q4 t).2.2) => errA g _ _ W h)
    have LE := Lib.hid (fun g W (h : RdA W g (t4 t) (q4 t).2.2) => leftA g _ _ W h)
    have HF : Hid (frm t = ⟨(q1 t).1, (q2 t).1, (q3 t).1, (q4 t).1, t4 t⟩) := Lib.hid rfl
    have hx : Hid ((⟨t.toArray⟩ : ByteArray).extract (t.length - (t4 t).length) t.length = ⟨(t4 t).toArray⟩) := Lib.hid (by
      rw [extractF, show t.length - (t4 t).length = U by omega, hUd, List.take_of_length_le (by omega)])
    obtain ⟨m, hm⟩ : ∃ m, m = (t4 t).length := ⟨_, rfl⟩
    rw [← hm] at LE hUl hl4 hx
    have HM := Lib.hid hm
    have hfl : (frm t).s.length ≤ 100000000 := by show (t4 t).length ≤ _; omega
    have HCk := Lib.hid (fun (w1 : World) => check_any (w := w1) (frm t) (by omega))
    generalize frm t = fr at HEE HV HF hfl HCk
    generalize (q4 t).2.2 = er at HEE I4 ER LE
    generalize (q4 t).1 = v4 at HF I4 n0 n1
    generalize (q3 t).2.2 = er3 at I3 I4
    generalize (q3 t).1 = v3 at HF I3 e0 e1
    generalize (q2 t).2.2 = er2 at I2 I3
    generalize (q2 t).1 = v2 at HF I2 f0 f1
    generalize (q1 t).2.2 = er1 at I1 I2
    generalize (q1 t).1 = v1 at HF I1 k0 k1
    generalize t4 t = x4 at HF I4 ER LE hx HM hUd hm
    generalize t3 t = x3 at I3 I4 hl3
    generalize t2 t = x2 at I2 I3 hl2
    generalize t1 t = x1 at I1 I2 hl1
    clear hm hUd hl1 hl2 hl3 hl4
    go_enter Try.func55, Try.ntmps55
    go_upto_region 1 with fail
    change Code.wp _ _ _ _ (w.alloc (.cells zF 88))
    generalize w.alloc (.cells zF 88) = W1 at B1 R1 ⊢
    obtain ⟨g0, hg0⟩ : ∃ g, g = w.heap.size := ⟨_, rfl⟩
    have HG0 := Lib.hid hg0
    rw [← hg0] at R1 ⊢
    clear hg0
    go_upto_region 5 with (first
      | (go_at_call 63; refine (NW.out w2).mono ?_; rintro e w3 ⟨rfl, r3, k3⟩; have B3 := Lib.hid (B2.out.grown k3 B2.out.size (fun j e => by cases e)); have R3 := Lib.hid (R2.out.grown k3 (by intro e; cases e)); have D3 := Lib.hid r3; have hlt := R2.out.inside; obtain ⟨g, hg⟩ : ∃ g, w2.heap.size = g := ⟨_, rfl⟩; rw [hg] at D3 hlt ⊢; clear r3 k3 hg)
      | (go_at_call 62; (with_reducible refine (HO.out W1).mono ?_); rintro e w2 ⟨rfl, b2⟩; have B2 := Lib.hid (then_below B1.out b2); have R2 := Lib.hid (R1.out.below b2 R1.out.inside); clear b2))
    have HLT : Hid (g0 < g) := Lib.hid hlt
    go_upto_region 6 with (first
      | (go_at_call 64; refine (I4.out _ _ D6.out).mono ?_; rintro e w7 ⟨rfl, r7, k7⟩; have B7 := Lib.hid (below_own2 B6.out (by have := HG0.out; omega) k7); have R7 := Lib.hid (R6.out.grown k7 (by intro e; cases e; omega)); have D7 := Lib.hid r7; clear r7 k7)
      | (go_at_call 64; refine (I3.out _ _ D5.out).mono ?_; rintro e w6 ⟨rfl, r6, k6⟩; have B6 := Lib.hid (below_own2 B5.out (by have := HG0.out; omega) k6); have R6 := Lib.hid (R5.out.grown k6 (by intro e; cases e; omega)); have D6 := Lib.hid r6; clear r6 k6)
      | (go_at_call 64; refine (I2.out _ _ D4.out).mono ?_; rintro e w5 ⟨rfl, r5, k5⟩; have B5 := Lib.hid (below_own2 B4.out (by have := HG0.out; omega) k5); have R5 := Lib.hid (R4.out.grown k5 (by intro e; cases e; omega)); have D5 := Lib.hid r5; clear r5 k5)
      | (go_at_call 64; refine (I1.out _ _ D3.out).mono ?_; rintro e w4 ⟨rfl, r4, k4⟩; have B4 := Lib.hid (below_own2 B3.out (by have := HG0.out; omega) k4); have R4 := Lib.hid (R3.out.grown k4 (by intro e; cases e; omega)); have D4 := Lib.hid r4; clear r4 k4))
    change Code.wp _ _ _ _ (w7.alloc (.cells #[.int .i64 v1, .int .i64 v2, .int .i64 v3, .int .i64 v4, .string ByteArray.empty] 88))
    have B8 := Lib.hid (B7.out.alloc B7.out.size (.cells #[.int .i64 v1, .int .i64 v2, .int .i64 v3, .int .i64 v4, .string ByteArray.empty] 88))
    have R8 := Lib.hid (R7.out.alloc (.cells #[.int .i64 v1, .int .i64 v2, .int .i64 v3, .int .i64 v4, .string ByteArray.empty] 88))
    have D8 := Lib.hid (show RdA (w7.alloc (.cells #[.int .i64 v1, .int .i64 v2, .int .i64 v3, .int .i64 v4, .string ByteArray.empty] 88)) g x4 er from Whole.alloc D7.out _)
    have E8 := Lib.hid (Whole.fresh w7 88 #[.int .i64 v1, .int .i64 v2, .int .i64 v3, .int .i64 v4, .string ByteArray.empty])
    have HLT2 : Hid (g < w7.heap.size) := Lib.hid (Whole.inside D7.out)
    clear R7 B7 D7 R6 B6 D6 R5 B5 D5 R4 B4 D4 R3 B3 D3 R2 B2 hlt I1 I2 I3 I4 NW HO
    generalize w7.alloc (.cells #[.int .i64 v1, .int .i64 v2, .int .i64 v3, .int .i64 v4, .string ByteArray.empty] 88) = W8 at B8 R8 D8 E8 ⊢
    generalize w7.heap.size = gf at E8 HLT2 ⊢
    have z4 : W8.cell? ⟨gf, 4, none⟩ = some (.string ByteArray.empty) := E8.out.read 4
    have y4 : W8.frozen? ⟨gf, 4, none⟩ = false := E8.out.soft 4
    have E9 : Hid (Whole (W8.setCell ⟨gf, 4, none⟩ (.string ⟨x4.toArray⟩)) gf 88 (fmC fr)) := Lib.hid (by rw [HF.out]; exact E8.out.store 4 _)
    have hq9 : W8.grownBy (W8.setCell ⟨gf, 4, none⟩ (.string ⟨x4.toArray⟩)) (some gf) := only_store (only_of_below (Below.refl _ W8) (some gf)) _
    have D9 := Lib.hid (show RdA (W8.setCell ⟨gf, 4, none⟩ (.string ⟨x4.toArray⟩)) g x4 er from Whole.grown D8.out hq9 (by have := HLT2.out; intro e; cases e; omega))
    have R9 := Lib.hid (Whole.grown R8.out hq9 (by have := HLT2.out; have := HLT.out; intro e; cases e; omega))
    have B9 := Lib.hid (below_own2 B8.out (by have := HLT2.out; have := HLT.out; have := HG0.out; omega) hq9)
    clear hq9
    go_upto_region 7 with (go_at_call 65; refine (LE.out _ _ D8.out).mono ?_; rintro e w4 ⟨rfl, rfl⟩)
    rw [hx.out]
    generalize W8.setCell ⟨gf, 4, none⟩ (.string ⟨x4.toArray⟩) = W9 at E9 D9 R9 B9 ⊢
    clear z4 y4 R8 B8 D8 E8 LE hx
    by_cases he : er = 0
    · subst he
      have x0 : W9.cell? ⟨gf, 0, none⟩ = some (.int .i64 fr.k) := E9.out.read 0
      have x1 : W9.cell? ⟨gf, 1, none⟩ = some (.int .i64 fr.f) := E9.out.read 1
      have x2 : W9.cell? ⟨gf, 2, none⟩ = some (.int .i64 fr.e) := E9.out.read 2
      have x3 : W9.cell? ⟨gf, 3, none⟩ = some (.int .i64 fr.n) := E9.out.read 3
      have x4 : W9.cell? ⟨gf, 4, none⟩ = some (sV fr.s) := E9.out.read 4
      cases hck : decide (chkF fr = 0) with
      | true =>
        have hck0 := of_decide_eq_true hck
        rw [hck0] at HCk
        have hee := HEE.out
        rw [if_neg (by rw [hck0]; simp)] at hee
        subst hee
        have hv := HV.out
        rw [if_pos rfl] at hv
        subst hv
        clear hck hck0 HEE HV HF
        go_wp2_with (first
          | (refine put rfl 88 (.tmp 2) _ rfl (g := g0) rfl rfl R5.out (by kernel_rfl) rfl (by simp [Value.oneCell']) B5.out (by rw [HG0.out]; exact Nat.le_refl _) ?_; intro w9 hR9 hB9 hs9 ho9)
          | (refine get rfl 88 (.tmp 7) rfl rfl E5.out Try.underlying88 rfl infoFm ?_)
          | (go_at_call 59; go_loud (with_reducible refine (HCk.out W9).mono ?_); rintro e w5 ⟨rfl, b5⟩; have B5 := Lib.hid (then_below B9.out b5); have R5 := Lib.hid (R9.out.below b5 R9.out.inside); have E5 := Lib.hid (E9.out.below b5 E9.out.inside); clear b5)
          | (go_at_call 66; go_loud (refine (ER.out _ _ D9.out).mono ?_; rintro e w4 ⟨rfl, rfl⟩)))
        exact bodyPost_ret (two_frame Try.results55 rfl rfl (f := rv) hR9 Try.underlying88 infoFm) rfl ⟨rfl, hB9⟩
      | false =>
        have hck0 := of_decide_eq_false hck
        have hckb : (chkF fr != 0) = true := by simpa using hck0
        have hee := HEE.out
        rw [if_pos (.inr hck0)] at hee
        subst hee
        have hv := HV.out
        rw [if_neg (by decide)] at hv
        subst hv
        generalize chkF fr = cf at HCk hckb
        clear hck hck0 HEE HV HF
        go_wp2_with (first
          | (refine put rfl 88 (.tmp 2) _ rfl (g := g0) rfl rfl R5.out (by kernel_rfl) rfl (by simp [Value.oneCell']) B5.out (by rw [HG0.out]; exact Nat.le_refl _) ?_; intro w9 hR9 hB9 hs9 ho9)
          | (go_at_call 59; go_loud (with_reducible refine (HCk.out W9).mono ?_); rintro e w5 ⟨rfl, b5⟩; have B5 := Lib.hid (then_below B9.out b5); have R5 := Lib.hid (R9.out.below b5 R9.out.inside); clear b5)
          | (go_at_call 66; go_loud (refine (ER.out _ _ D9.out).mono ?_; rintro e w4 ⟨rfl, rfl⟩)))
        exact bodyPost_ret (two_frame Try.results55 rfl rfl (f := noF) hR9 Try.underlying88 infoFm) rfl ⟨rfl, hB9⟩
    · have heb : (er != 0) = true := by simpa using he
      have hee := HEE.out
      rw [if_pos (.inl he)] at hee
      subst hee
      have hv := HV.out
      rw [if_neg (by decide)] at hv
      subst hv
      clear he HEE HV HF
      go_wp2_with (first
        | (refine put rfl 88 (.tmp 2) _ rfl (g := g0) rfl rfl R9.out (by kernel_rfl) rfl (by simp [Value.oneCell']) B9.out (by rw [HG0.out]; exact Nat.le_refl _) ?_; intro w9 hR9 hB9 hs9 ho9)
        | (go_at_call 66; go_loud (refine (ER.out _ _ D9.out).mono ?_; rintro e w4 ⟨rfl, rfl⟩)))
      exact bodyPost_ret (two_frame Try.results55 rfl rfl (f := noF) hR9 Try.underlying88 infoFm) rfl ⟨rfl, hB9⟩
end Go.Proofs.Ytbomlapmoiamgaa.hop
