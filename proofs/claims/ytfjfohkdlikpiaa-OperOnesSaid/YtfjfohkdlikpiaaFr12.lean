/-
  All records of a time by keys: the document's Fold of kind 12 (by gen_fr.py).
-/
import Derived.Test.YtfjfohkdlikpiaaFr0
namespace Go.Proofs.Ytfjfohkdlikpiaa.oper
open Go.ChangeShapes Go.WideShapes Go.ChangeAt Go.RowKit
open Go.Proofs.Ytfjfohkdlikpiaa.tm Go.Proofs.Ytfjfohkdlikpiaa.opened Go.Proofs.Ytfjfohkdlikpiaa.block Go.Proofs.Ytfjfohkdlikpiaa.region Go.Proofs.Ytfjfohkdlikpiaa.data

set_option maxRecDepth 100000 in
set_option maxHeartbeats 8000000 in
theorem foldR_12 (A : Option Addr) (c : Nat) (L : List Rc) (iL : InR L) (mL : L.length ≤ 4096) (w : World) (hL : Lr w A L) :
    Calls Try.prog 15 #[.int .i64 12, .slice A L.length c] w fun e W' => ∃ B c', e = .returned (.tuple #[.slice B (foldV 12 L).length c', .int .i64 0]) ∧ Lr W' B (foldV 12 L) ∧ Below w.heap.size w W' := by
  have KP := Lib.hid (fun w0 => keepsR_any 12 w0)
  rw [show keepsB 12 = true from rfl] at KP
  have OD := Lib.hid (fun w0 h => orderR_any A c L mL w0 h)
  have HL := Lib.hid hL
  have HNS := Lib.hid (srt_srt L)
  have HNP := Lib.hid (srt_perm L)
  have HI := Lib.hid (srt_in iL)
  have hnl : (srtR L).length ≤ 4096 := by rw [srt_len]; exact mL
  generalize srtR L = N at OD HNS HNP hnl HI
  clear hL mL iL
  obtain ⟨i0, hi0, hz0, hz1, hz2⟩ := infoR_parts
  go_enter Try.func15, Try.ntmps15
  go_wp2_with (first | (go_at_call 9; refine (KP.out _).mono ?_; rintro e w2 ⟨rfl, b2⟩; have HL2 := Lib.hid (HL.out.below b2); have B2 := Lib.hid b2; clear b2) | (go_at_call 23; refine (OD.out _ HL2.out).mono ?_; rintro e w4 ⟨B0, cB, rfl, l4, b4⟩; have HN4 := Lib.hid l4; have B4 := Lib.hid (B2.out.trans (b4.mono B2.out.size)); clear l4 b4))
  clear HL HL2 KP OD
  rename World => w1
  go_loopw [6, 7] (fun v6 s wr => ∃ (k : Nat) (out : List Rc) (D : Option Addr) (c' : Nat), k ≤ N.length ∧ v6 = .slice D out.length c' ∧ s = .int .i64 k ∧ Hid (IsF 12 (N.take k) out ∧ Rise out) ∧ Hid (OwnR wr w1.heap.size (.slice D out.length c') out) ∧ Hid (Below w1.heap.size w1 wr)) (fun _ s _ => N.length - (intOf s).toNat)
  case atStart => exact ⟨0, [], none, 0, Nat.zero_le _, rfl, rfl, Lib.hid ⟨by rw [List.take_zero]; exact isF_nil _, List.Pairwise.nil⟩, Lib.hid (ownG_nil _ _), Lib.hid (Below.refl _ _)⟩
  case round =>
    obtain ⟨k, out, D, c', hk, rfl, rfl, HF, HO, HB⟩ := hrel
    by_cases hlt : k < N.length
    · obtain ⟨x, hx, hxm⟩ := get_ltR hlt
      obtain ⟨b1, o1, hA, hb1, c0, c1⟩ := at_rc HN4.out hx
      subst hA
      have HC := Lib.hid (⟨fun w2 (h : Below w1.heap.size w1 w2) => (h.cell (p := ⟨b1, o1 + k * 2, none⟩) hb1).trans c0, fun w2 (h : Below w1.heap.size w1 w2) => (h.cell (p := ⟨b1, o1 + k * 2 + 1, none⟩) hb1).trans c1⟩ : (∀ w2, Below w1.heap.size w1 w2 → w2.cell? ⟨b1, o1 + k * 2, none⟩ = some (.int .i64 x.k)) ∧ (∀ w2, Below w1.heap.size w1 w2 → w2.cell? ⟨b1, o1 + k * 2 + 1, none⟩ = some (.int .i64 x.v)))
      have HX := Lib.hid hx
      have IXV := Lib.hid (HI.out x hxm).2
      have hol : out.length ≤ 4096 := by
        have := isF_len HF.out.1 HF.out.2
        rw [List.length_take] at this
        omega
      clear hx hxm c0 c1
      by_cases h0 : k = 0
      · have e0 : ((k : Int) == 0) = true := by rw [beq_iff_eq]; omega
        have HK0 := Lib.hid h0
        clear h0
        go_upto_region 8 with fail
        refine region_since wr (by kernel_rfl) (by kernel_rfl) (Below.refl _ _) ?_
        repeat (go_big_quiet_step (fail))
        refine wpQuiet_nil ?_
        rintro w3 ⟨xx, hw3⟩
        have b3 : Below wr.heap.size wr w3 := hw3 ▸ xx.2
        have HB3 := Lib.hid (HB.out.trans (b3.mono HB.out.size))
        have HO3 := Lib.hid (HO.out.below b3)
        have k0 := HC.out.1 _ HB3.out
        have k1 := HC.out.2 _ HB3.out
        clear hw3 xx b3 HO HB
        have HO4 := Lib.hid (HO3.out.below (fresh0 w3 (.cells #[.int .i64 x.k, .int .i64 0] 25)))
        have HOL := Lib.hid hol
        have hs2 : IntKind.i64.wrap (((out.length : Int) + 1) - 1) = (out.length : Int) := by rw [IntKind.wrap_i64]; omega
        have HMr : (out ++ [(⟨x.k, 0⟩ : Rc)])[out.length]? = some ⟨x.k, 0⟩ := by rw [List.getElem?_append_right (Nat.le_refl _), Nat.sub_self]; rfl
        go_wp2_with (at_builtin; refine wpList_append_own _ rfl _ _ 26 rfl w1.heap.size 25 i0 (.agg #[.int .i64 0, .int .i64 0]) 2 16 Try.underlying26 hi0 hz0 hz1 hz2 rfl (by decide) _ out.length (out.flatMap cR) rfl HO4.out ⟨w3.heap.size, 0, none⟩ 1 1 (cR ⟨x.k, 0⟩) rfl rfl (cell_newG _ _ _) (cellsR.one ⟨x.k, 0⟩) (by have := HOL.out; unfold maxLen; omega) (by have := HOL.out; omega) (by have := HB3.out.size; simp; omega) ?_; intro v' w5 hown' hgrow _; obtain ⟨g, cap', rfl⟩ := OwnG.succ hown'; have HO5 := Lib.hid (own_snoc (x := ⟨x.k, 0⟩) hown'); have HB5 := Lib.hid ((HB3.out.alloc HB3.out.size (.cells #[.int .i64 x.k, .int .i64 0] 25)).grown hgrow (by have := HB3.out.size; simp; omega) (fun q e => (HO4.out.lt q e).1)); clear hown' hgrow; have k1 := HC.out.2 _ HB5.out; obtain ⟨c5, f5⟩ := own_cell (by rw [List.length_append]; rfl) HO5.out HMr; obtain ⟨v1, v2⟩ := own_val (by rw [List.length_append]; rfl) HO5.out HMr (1); have HV1 := Lib.hid v1; have HV2 := Lib.hid (HB5.out.grown v2 HB5.out.size (fun j e => by cases e; exact (HO5.out.lt g rfl).1)); clear v1 v2)
        have HS := Lib.hid (step_new (u := 1) HNS.out HX.out HF.out.1 HF.out.2 (.inl HK0.out) (by rw [tot_one IXV.out]; rfl))
        clear c5 f5 k0 k1 HMr hs2
        go_roundw
        case rel => exact ⟨k + 1, _, some ⟨g, 0, none⟩, cap', by omega, by simp, by go_num, HS, HV1, HV2⟩
        case measure => simp [intOf]; omega
      · have e0 : ((k : Int) == 0) = false := by rw [beq_eq_false_iff_ne]; omega
        obtain ⟨kp, hkp⟩ : ∃ kp, kp = k - 1 := ⟨_, rfl⟩
        have hkl : kp < N.length := by omega
        have hsub : IntKind.i64.wrap ((k : Int) - 1) = (kp : Int) := by rw [IntKind.wrap_i64]; omega
        obtain ⟨y, hy, -⟩ := get_ltR hkl
        obtain ⟨b2, o2, hA2, hb2, d0, -⟩ := at_rc HN4.out hy
        injection (Option.some.inj hA2) with e1 e2
        subst e1 e2
        have HY := Lib.hid (show N[k - 1]? = some y by rw [← hkp]; exact hy)
        have HK0 : Hid (0 < k) := Lib.hid (by omega)
        have s1 : ∀ q : Since wr, q.1.cell? ⟨b1, o1 + kp * 2, none⟩ = some (.int .i64 y.k) := fun q => ((HB.out.trans (q.2.mono HB.out.size)).cell (p := ⟨b1, o1 + kp * 2, none⟩) hb1).trans d0
        have s0 : ∀ q : Since wr, q.1.cell? ⟨b1, o1 + k * 2, none⟩ = some (.int .i64 x.k) := fun q => HC.out.1 _ (HB.out.trans (q.2.mono HB.out.size))
        clear hA2 hb2 d0 hy hkp h0
        by_cases hyx : y.k = x.k
        · have HYX := Lib.hid hyx
          have hne : (x.k != y.k) = false := by simp [hyx]
          clear hyx
          go_upto_region 8 with fail
          refine region_since wr (by kernel_rfl) (by kernel_rfl) (Below.refl _ _) ?_
          repeat (go_big_quiet_step (fail))
          refine wpQuiet_nil ?_
          rintro w3 ⟨xx, hw3⟩
          have b3 : Below wr.heap.size wr w3 := hw3 ▸ xx.2
          have HB3 := Lib.hid (HB.out.trans (b3.mono HB.out.size))
          have HO3 := Lib.hid (HO.out.below b3)
          have k0 := HC.out.1 _ HB3.out
          have k1 := HC.out.2 _ HB3.out
          clear hw3 xx b3 s0 s1 HO HB
          obtain ⟨m, r, hm, HMr, h12⟩ := out_pos HF.out.1 HK0.out HY.out
          have H12 := Lib.hid h12
          have HM := Lib.hid hm
          rw [hm] at HO3 ⊢
          have hown : w3.ownsRow w1.heap.size 25 2 (.slice D (m + 1) c') (m + 1) (out.flatMap cR) := by
            have h := HO3.out
            unfold OwnR OwnG at h
            rw [hm] at h
            exact h
          obtain ⟨g, cap', eD⟩ := OwnG.succ hown
          injection eD with e1 e2 e3
          subst e1 e3
          have hs2 : wrap64 (m : Int) = (m : Int) := IntWalk.wrap64_in _ ⟨by omega, by omega⟩
          clear hm h12 e2 hown
          have hw : IntKind.i64.wrap (r.v + 1) = r.v + 1 := by have h9 := H12.out rfl; rw [IntKind.wrap_i64]; omega
          obtain ⟨c5, f5⟩ := own_cell HM.out HO3.out HMr
          obtain ⟨v1, v2⟩ := own_val HM.out HO3.out HMr ((r.v + 1))
          have HV1 := Lib.hid v1
          have HV2 := Lib.hid (HB3.out.grown v2 HB3.out.size (fun j e => by cases e; exact (HO3.out.lt g rfl).1))
          clear v1 v2
          have HS := Lib.hid (step_more (u := (r.v + 1)) HNS.out HX.out HF.out.1 HF.out.2 HK0.out HY.out HYX.out HM.out HMr (by simp [addV]))
          go_wp2_with fail
          clear c5 f5 k0 k1 hs2 hw
          go_roundw
          case rel => exact ⟨k + 1, out.set m ⟨r.k, (r.v + 1)⟩, some ⟨g, 0, none⟩, _, by omega, by rw [List.length_set, HM.out], by go_num, HS, HV1, HV2⟩
          case measure => simp [intOf]; omega
        · have HYX : Hid (y.k ≠ x.k) := Lib.hid hyx
          have hne : (x.k != y.k) = true := by simpa using fun e => hyx e.symm
          clear hyx
          go_upto_region 8 with fail
          refine region_since wr (by kernel_rfl) (by kernel_rfl) (Below.refl _ _) ?_
          repeat (go_big_quiet_step (fail))
          refine wpQuiet_nil ?_
          rintro w3 ⟨xx, hw3⟩
          have b3 : Below wr.heap.size wr w3 := hw3 ▸ xx.2
          have HB3 := Lib.hid (HB.out.trans (b3.mono HB.out.size))
          have HO3 := Lib.hid (HO.out.below b3)
          have k0 := HC.out.1 _ HB3.out
          have k1 := HC.out.2 _ HB3.out
          clear hw3 xx b3 s0 s1 HO HB
          have HO4 := Lib.hid (HO3.out.below (fresh0 w3 (.cells #[.int .i64 x.k, .int .i64 0] 25)))
          have HOL := Lib.hid hol
          have hs2 : IntKind.i64.wrap (((out.length : Int) + 1) - 1) = (out.length : Int) := by rw [IntKind.wrap_i64]; omega
          have HMr : (out ++ [(⟨x.k, 0⟩ : Rc)])[out.length]? = some ⟨x.k, 0⟩ := by rw [List.getElem?_append_right (Nat.le_refl _), Nat.sub_self]; rfl
          go_wp2_with (at_builtin; refine wpList_append_own _ rfl _ _ 26 rfl w1.heap.size 25 i0 (.agg #[.int .i64 0, .int .i64 0]) 2 16 Try.underlying26 hi0 hz0 hz1 hz2 rfl (by decide) _ out.length (out.flatMap cR) rfl HO4.out ⟨w3.heap.size, 0, none⟩ 1 1 (cR ⟨x.k, 0⟩) rfl rfl (cell_newG _ _ _) (cellsR.one ⟨x.k, 0⟩) (by have := HOL.out; unfold maxLen; omega) (by have := HOL.out; omega) (by have := HB3.out.size; simp; omega) ?_; intro v' w5 hown' hgrow _; obtain ⟨g, cap', rfl⟩ := OwnG.succ hown'; have HO5 := Lib.hid (own_snoc (x := ⟨x.k, 0⟩) hown'); have HB5 := Lib.hid ((HB3.out.alloc HB3.out.size (.cells #[.int .i64 x.k, .int .i64 0] 25)).grown hgrow (by have := HB3.out.size; simp; omega) (fun q e => (HO4.out.lt q e).1)); clear hown' hgrow; have k1 := HC.out.2 _ HB5.out; obtain ⟨c5, f5⟩ := own_cell (by rw [List.length_append]; rfl) HO5.out HMr; obtain ⟨v1, v2⟩ := own_val (by rw [List.length_append]; rfl) HO5.out HMr (1); have HV1 := Lib.hid v1; have HV2 := Lib.hid (HB5.out.grown v2 HB5.out.size (fun j e => by cases e; exact (HO5.out.lt g rfl).1)); clear v1 v2)
          have HS := Lib.hid (step_new (u := 1) HNS.out HX.out HF.out.1 HF.out.2 (.inr ⟨y, HY.out, HYX.out⟩) (by rw [tot_one IXV.out]; rfl))
          clear c5 f5 k0 k1 HMr hs2
          go_roundw
          case rel => exact ⟨k + 1, _, some ⟨g, 0, none⟩, cap', by omega, by simp, by go_num, HS, HV1, HV2⟩
          case measure => simp [intOf]; omega
    · obtain rfl : k = N.length := by omega
      rw [List.take_length] at HF
      have HE := Lib.hid (isF_rise HF.out.1 HF.out.2 HNP.out)
      go_wp2_with fail
      go_ret2
      rw [← HE.out]
      exact ⟨D, c', rfl, HO.out.lg cellsR, B4.out.trans (HB.out.mono B4.out.size)⟩
end Go.Proofs.Ytfjfohkdlikpiaa.oper
