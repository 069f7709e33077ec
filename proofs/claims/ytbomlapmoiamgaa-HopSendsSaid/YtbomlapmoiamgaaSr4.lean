/-
  The document's sender: Out (by gen_sr4.py).
-/
import Derived.Test.YtbomlapmoiamgaaSr3
import Derived.Test.YtbomlapmoiamgaaHo1
import Derived.LoopTactic
import Derived.Maps.AppendAt
set_option linter.unusedSimpArgs false
set_option linter.unusedVariables false
namespace Go.Proofs.Ytbomlapmoiamgaa.hop
open Go.ChangeShapes Go.WideShapes Go.ChangeAt Go.RowKit
open Go.Proofs.Ytbomlapmoiamgaa.opened Go.Proofs.Ytbomlapmoiamgaa.block Go.Proofs.Ytbomlapmoiamgaa.words Go.Proofs.Ytbomlapmoiamgaa.region
open Go.Proofs.Ytbomlapmoiamgaa.wan (WB WObj not_wobj)
/-- What stands between the rounds of Out. -/
structure Ot (w : World) (S : Sn) (f : Nat) (wr : World) (k : Nat) (N : List It) (A9 : Option Addr) (c9 : Nat) : Prop where
  own : OwnG 101 2 cI wr w.heap.size (.slice A9 N.length c9) N
  n : N = (S.L.take k).drop f
  b : Below w.heap.size w wr
section
variable {w w' : World} {B g : Nat} {S : Sn} {v : Value}
set_option maxRecDepth 100000 in
set_option maxHeartbeats 8000000 in
theorem outR_any (h : RnE B w g S v) (G : GoodS S) : Calls Try.prog 36 #[.pointer (some ⟨g, 0, none⟩)] w fun e w' => ∃ A2 c2, e = .returned (.slice A2 (outL S).length c2) ∧ OwnG 101 2 cI w' w.heap.size (.slice A2 (outL S).length c2) (outL S) ∧ RnP B w' g (outV S) ∧ WR B w w' ∧ TurnS w w' (fun k => k = g) := by
  obtain ⟨A, c, hv⟩ := h.row.shape
  subst hv
  have HE := Lib.hid h
  have HG := Lib.hid G
  have hlen := outL_len G
  have g0 := G.s0; have g1 := G.s1; have g2 := G.s2; have g3 := G.a0; have g4 := G.m; have g5 := G.w1; have g6 := G.w0; have g7 := G.l
  obtain ⟨f, hf⟩ : ∃ f : Nat, S.s - S.a = f := ⟨(S.s - S.a).toNat, by omega⟩
  obtain ⟨t, ht⟩ : ∃ t : Nat, t = min S.L.length S.wd.toNat := ⟨_, rfl⟩
  have hft : f ≤ t ∧ t ≤ S.L.length ∧ t ≤ 16 ∧ (t : Int) ≤ S.wd ∧ (t = S.L.length ∨ (t : Int) = S.wd) := by omega
  obtain ⟨t1, t2, t3, t4, t5⟩ := hft
  have HO : Hid (outL S = (S.L.take t).drop f) := Lib.hid (by
    unfold outL
    rw [hf, Int.toNat_natCast]
    by_cases hx : S.L.length ≤ S.wd.toNat
    · rw [List.take_of_length_le hx, List.take_of_length_le (by omega)]
    · rw [show S.wd.toNat = t by omega])
  have HS : Hid (S.s = S.a + f) := Lib.hid (by omega)
  have HFT := Lib.hid t1
  have O0 : Hid (Ot w S f w 0 [] none 0) := Lib.hid ⟨ownG_nil _ _, by simp, Below.refl _ _⟩
  have HF := Lib.hid hf
  clear hlen g0 g1 g2 h G ht hf
  go_enter Try.func36, Try.ntmps36
  go_wp2_with fail
  go_loopw [3, 4] (fun s3 s4 wr => ∃ (k : Nat) (N : List It) (A9 : Option Addr) (c9 : Nat), k ≤ t ∧ s4 = .int .i64 (k : Int) ∧ s3 = .slice A9 N.length c9 ∧ Hid (Ot w S f wr k N A9 c9)) (fun _ s4 _ => t - (intOf s4).toNat)
  case atStart => exact ⟨0, [], none, 0, Nat.zero_le _, rfl, rfl, O0⟩
  case round =>
    obtain ⟨k, N, A9, c9, hk, rfl, rfl, HX⟩ := hrel
    clear O0
    have HB := Lib.hid (HE.out.below HX.out.b)
    have y3 : wr.cell? ⟨g, 3, none⟩ = some (.slice A S.L.length c) := HB.out.cell.read 3
    have y5 : wr.cell? ⟨g, 5, none⟩ = some (.int .i64 S.wd) := HB.out.cell.read 5
    have yf : wr.frozen? ⟨g, 3, none⟩ = false := HB.out.cell.soft 3
    have hli : (S.L.length : Int) ≤ 64 := by omega
    by_cases h1 : k < t
    · have h1i : (k : Int) < (S.L.length : Int) := by omega
      have h2i : (k : Int) < S.wd := by omega
      obtain ⟨x, hx⟩ : ∃ x, S.L[k]? = some x := ⟨_, List.getElem?_eq_getElem (by omega)⟩
      have hxn := HG.out.n k x hx
      obtain ⟨b, o, c', hv, -⟩ := HB.out.row.cells hx
      injection hv with hv1 hv2 hv3
      subst hv1 hv3
      have HCX : Hid (∀ w1, Below w.heap.size w w1 → w1.cell? ⟨b, o + k * 2, none⟩ = some (.int .i64 x.n) ∧ w1.cell? ⟨b, o + k * 2 + 1, none⟩ = some (sV x.s) ∧ w1.frozen? ⟨b, o + k * 2, none⟩ = false) := Lib.hid fun w1 hb => by
        obtain ⟨b', o', c', hv, r⟩ := (HE.out.below hb).row.cells hx
        injection hv with hv1 hv2 hv3
        injection hv1 with hv1
        injection hv1 with hb1 ho1
        subst hb1 ho1
        exact r
      obtain ⟨z0, z1, zf⟩ := HCX.out wr HX.out.b
      have y2 : wr.cell? ⟨g, 2, none⟩ = some (.int .i64 S.s) := HB.out.cell.read 2
      have hki : (k : Int) ≤ 16 := by omega
      have HXK := Lib.hid hx
      have HXN := Lib.hid hxn
      clear hx hxn
      go_upto_region 5 with fail
      go_quiet (fail)
      have b3 : Below w.heap.size w (wr.drewN nq) := HX.out.b.trans ((below_more wr nq).mono HX.out.b.size)
      have O3 : Hid (Ot w S f (wr.drewN nq) k N A9 c9) := Lib.hid ⟨HX.out.own.below (below_more wr nq), HX.out.n, b3⟩
      clear b3 y2 y3 y5 yf z0 z1 zf HX HB
      generalize wr.drewN nq = w3 at O3 ⊢
      have HB := Lib.hid (HE.out.below O3.out.b)
      have y3 : w3.cell? ⟨g, 3, none⟩ = some (.slice (some ⟨b, o, none⟩) S.L.length c) := HB.out.cell.read 3
      have yf : w3.frozen? ⟨g, 3, none⟩ = false := HB.out.cell.soft 3
      obtain ⟨z0, z1, zf⟩ := HCX.out w3 O3.out.b
      by_cases hp : f ≤ k
      · have hgt : S.s < x.n := by have := HS.out; have := HXN.out; omega
        have HN : Hid ((S.L.take (k + 1)).drop f = N ++ [x]) := Lib.hid (by
          have hkl : k < S.L.length := by omega
          have e : S.L[k] = x := by have := HXK.out; rw [List.getElem?_eq_getElem hkl] at this; exact Option.some.inj this
          rw [List.take_succ_eq_append_getElem hkl, e, List.drop_append_of_le_length (by rw [List.length_take]; omega), O3.out.n])
        obtain ⟨i0, hi0, hz0, hz1, hz2⟩ := infoIR
        have hN16 : N.length ≤ 16 := by rw [O3.out.n, List.length_drop, List.length_take]; omega
        have HOW := Lib.hid (O3.out.own.below (fresh1 w3 (.cells (cI x).toArray 101)))
        have HZW : Hid (w.heap.size ≤ (w3.alloc (.cells (cI x).toArray 101)).heap.size) := Lib.hid (Nat.le_trans O3.out.b.size (fresh1 w3 _).size)
        have HFX : Hid (∀ w9 g9 cap9, OwnG 101 2 cI w9 w.heap.size (.slice (some ⟨g9, 0, none⟩) (N.length + 1) cap9) (N ++ [x]) → (w3.alloc (.cells (cI x).toArray 101)).grownBy w9 (Value.slice A9 N.length c9).ownBlock → Ot w S f w9 (k + 1) (N ++ [x]) (some ⟨g9, 0, none⟩) cap9) := Lib.hid fun w9 g9 cap9 ho hg => by
          have hlen : (N ++ [x]).length = N.length + 1 := by simp
          refine ⟨by rw [hlen]; exact ho, HN.out.symm, (O3.out.b.trans ((fresh1 w3 (.cells (cI x).toArray 101)).mono O3.out.b.size)).grown hg HZW.out fun k e => OwnG.above HOW.out e⟩
        clear hp
        go_wp2_with (at_builtin; refine wpList_append_own_at _ rfl _ _ 67 rfl w.heap.size 101 i0 (.agg #[.int .i64 0, sV []]) 2 24 Try.underlying67 hi0 hz0 hz1 hz2 rfl (by decide) (.slice A9 N.length c9) N.length (N.flatMap cI) (by first | (rw [ev_ne (by decide)]; rfl) | (rw [ev_ne (by decide), ev_ne (by decide)]; rfl) | rfl | simp [Act.eval]) HOW.out ⟨w3.heap.size, 0, none⟩ 1 1 (cI x) (by first | rfl | exact ev_eq (by show 43 < 59; decide) | simp [Act.eval]) rfl (whole_cells (Whole.fresh w3 101 _)) (cellsI.one _) (by unfold maxLen; omega) (by omega) HZW.out ?_; intro v' w9 hown hgrow _ hblk; obtain ⟨g9, cap9, rfl⟩ := OwnG.succ hown; have C9 := Lib.hid (HFX.out w9 g9 cap9 (by unfold OwnG; simpa using hown) hgrow); clear hown hgrow hblk)
        go_roundw
        case rel => exact ⟨k + 1, N ++ [x], some ⟨g9, 0, none⟩, cap9, by omega, by go_num, by rw [List.length_append]; rfl, C9⟩
        case measure => simp [intOf]; omega
      · have hgt : ¬ S.s < x.n := by have := HS.out; have := HXN.out; omega
        have HN : Hid ((S.L.take (k + 1)).drop f = N) := Lib.hid (by
          rw [O3.out.n, List.drop_of_length_le (by rw [List.length_take]; omega), List.drop_of_length_le (by rw [List.length_take]; omega)])
        have C9 : Hid (Ot w S f w3 (k + 1) N A9 c9) := Lib.hid ⟨O3.out.own, HN.out.symm, O3.out.b⟩
        clear hp
        go_wp2_with fail
        go_roundw
        case rel => exact ⟨k + 1, N, A9, c9, by omega, by go_num, rfl, C9⟩
        case measure => simp [intOf]; omega
    · obtain rfl : k = t := by omega
      have hN : N = outL S := by rw [HX.out.n, HO.out]
      have HNN := Lib.hid hN
      have hNl : N.length = k - f := by rw [HX.out.n, List.length_drop, List.length_take]; omega
      have hN16 : (N.length : Int) ≤ 16 := by omega
      have HNl := Lib.hid hNl
      clear hNl
      have HR : Hid (∀ (w9 : World), RnP B w9 g (outV S) → OwnG 101 2 cI w9 w.heap.size (.slice A9 N.length c9) N → WR B w w9 → TurnS w w9 (fun k => k = g) → ∃ A2 c2, Ending.returned (.slice A9 N.length c9) = .returned (.slice A2 (outL S).length c2) ∧ OwnG 101 2 cI w9 w.heap.size (.slice A2 (outL S).length c2) (outL S) ∧ RnP B w9 g (outV S) ∧ WR B w w9 ∧ TurnS w w9 (fun k => k = g)) := Lib.hid fun w9 h1 h2 h3 h4 => by
        rw [← hN]
        exact ⟨A9, c9, rfl, h2, h1, h3, h4⟩
      have hoV : outV S = { S with s := S.s + (N.length : Int) } := by unfold outV; rw [hN]
      have HOV := Lib.hid hoV
      have WX : Hid (WR B w wr) := Lib.hid ⟨HX.out.b.mono HE.out.le, fun q ob ho _ => (HX.out.b.block q (Array.getElem?_eq_some_iff.1 ho).1).trans ho⟩
      have hcond : ¬ (k : Int) < (S.L.length : Int) ∨ ¬ (k : Int) < S.wd := by omega
      by_cases h0 : N.length = 0
      · have h0i : ¬ (0 : Int) < (N.length : Int) := by omega
        have hRR : RnP B wr g (outV S) := by
          rw [hoV, h0]
          exact ⟨_, by simpa using HB.out⟩
        have HRR := Lib.hid hRR
        clear hN hoV hRR h0
        rcases hcond with hc1 | hc1
        · go_wp2_with fail
          go_ret
          exact HR.out _ HRR.out HX.out.own WX.out (TurnS.of HX.out.b)
        · by_cases hc2 : (k : Int) < (S.L.length : Int)
          · go_wp2_with fail
            go_ret
            exact HR.out _ HRR.out HX.out.own WX.out (TurnS.of HX.out.b)
          · go_wp2_with fail
            go_ret
            exact HR.out _ HRR.out HX.out.own WX.out (TurnS.of HX.out.b)
      · have h0i : (0 : Int) < (N.length : Int) := by omega
        obtain ⟨b9, hb9⟩ := own_some HX.out.own (by omega)
        subst hb9
        obtain ⟨x, hx⟩ : ∃ x, N[N.length - 1]? = some x := ⟨_, List.getElem?_eq_getElem (by omega)⟩
        have hxn : x.n = S.s + (N.length : Int) := by
          have e1 : S.L[f + (N.length - 1)]? = some x := by
            have := hx
            rw [HX.out.n, List.getElem?_drop, List.getElem?_take] at this
            rw [← HX.out.n] at this
            split at this
            · exact this
            · cases this
          have := HG.out.n _ x e1
          have := HS.out
          have := HNl.out
          have := HFT.out
          omega
        have hcc := (own_flat HX.out.own).2.2.2.2 ((N.length - 1) * 2 + 0) _ ((flatG_at cellsI N (N.length - 1) x 0 hx (by omega)).trans rfl)
        have zq : wr.cell? ⟨b9, (N.length - 1) * 2, none⟩ = some (.int .i64 x.n) := hcc.1
        have hgB : some g ≠ (Value.slice (some ⟨b9, 0, none⟩) N.length c9).ownBlock := fun e => by
          have := OwnG.above HX.out.own e.symm
          have := HE.out.cell.inside
          omega
        have y2 : wr.cell? ⟨g, 2, none⟩ = some (.int .i64 S.s) := HB.out.cell.read 2
        have yf2 : wr.frozen? ⟨g, 2, none⟩ = false := HB.out.cell.soft 2
        have hp := HB.out.put 2 (.int .i64 x.n) (V := outV S) rfl (by rw [hoV, ← hxn]; rfl)
        have HP := Lib.hid hp.1
        have HW := Lib.hid (WX.out.trans hp.2)
        have hg2 : wr.grownBy (wr.setCell ⟨g, 2, none⟩ (.int .i64 x.n)) (some g) := only_store (only_of_below (Below.refl _ wr) (some g)) _
        have HOX := Lib.hid (HX.out.own.past hg2 fun k e => by cases e; exact hgB)
        have HTT : Hid (TurnS w (wr.setCell ⟨g, 2, none⟩ (.int .i64 x.n)) (fun k => k = g)) := Lib.hid ((TurnS.of HX.out.b).grown hg2 fun j e => .inl (Option.some.inj e).symm)
        obtain ⟨m, hm⟩ : ∃ m, N.length = m + 1 := ⟨N.length - 1, by omega⟩
        have hm1 : ((m + 1 : Nat) : Int) - 1 = (m : Int) := by omega
        rw [hm, Nat.add_sub_cancel] at zq
        have hmi : (m : Int) ≤ 16 := by omega
        have hmc : (m : Int) < ((m + 1 : Nat) : Int) := by omega
        rw [hm] at hN16 h0i ⊢
        have HM := Lib.hid hm
        clear hN hoV hcc hx hxn hp hg2 hgB hm
        rcases hcond with hc1 | hc1
        · go_wp2_with fail
          go_ret
          have := HR.out _ ⟨_, HP.out⟩ HOX.out HW.out HTT.out
          rwa [HM.out] at this
        · by_cases hc2 : (k : Int) < (S.L.length : Int)
          · go_wp2_with fail
            go_ret
            have := HR.out _ ⟨_, HP.out⟩ HOX.out HW.out HTT.out
            rwa [HM.out] at this
          · go_wp2_with fail
            go_ret
            have := HR.out _ ⟨_, HP.out⟩ HOX.out HW.out HTT.out
            rwa [HM.out] at this
end
end Go.Proofs.Ytbomlapmoiamgaa.hop
