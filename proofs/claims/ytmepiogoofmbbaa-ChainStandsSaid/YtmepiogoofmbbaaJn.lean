/-
  The contract of chain.Join.
-/
import Derived.Test.YtmepiogoofmbbaaJnE
import Derived.Test.YtmepiogoofmbbaaJoin
namespace Go.Proofs.Ytmepiogoofmbbaa.chain
open Go.ChangeShapes Go.WideShapes Go.ChangeAt Go.RowKit Go.Shelf Go.Sort
open Go.Proofs.Ytmepiogoofmbbaa.tm Go.Proofs.Ytmepiogoofmbbaa.opened Go.Proofs.Ytmepiogoofmbbaa.block Go.Proofs.Ytmepiogoofmbbaa.stamp

set_option maxRecDepth 100000 in
set_option maxHeartbeats 1000000 in
theorem join_chain (A B : Option Addr) (c d : Nat) (L M : List Tm) (iL : InL L) (iM : InL M) (mL : L.length ≤ 4611686018427387903) (mM : M.length ≤ 4611686018427387903) (w : World) (hL : Lt w A L) (hM : Lt w B M) :
    Calls Try.prog 22 #[.slice A L.length c, .slice B M.length d] w fun e W' => ∃ D c', e = .returned (.tuple #[.slice D (joinLV L M iL iM).length c', .int .i64 (joinLE L M iL iM)]) ∧ Lt W' D (joinLV L M iL iM) ∧ Below w.heap.size w W' := by
  have HL := Lib.hid hL
  have HM := Lib.hid hM
  have CB := Lib.hid (checkBoth_any A B c d L M iL iM mL mM)
  clear hL hM
  by_cases h : bothE L M iL iM = 0
  · obtain ⟨e1, e2⟩ := join_good2 h
    obtain ⟨f1, f2⟩ := both_few h
    have HB := Lib.hid (both_ok h).2.2
    have MK := Lib.hid (fun D c' => make_any D c' (joins L M) (in_joins iL iM) (by have := joins_few f1 f2; omega))
    have IL := Lib.hid iL
    have IM := Lib.hid iM
    rw [e1, e2]
    rw [h] at CB
    generalize makeE (joins L M) (in_joins iL iM) = m at MK ⊢
    generalize makeV (joins L M) (in_joins iL iM) = V at MK ⊢
    obtain ⟨i0, hi0, hz0, hz1, hz2⟩ := info_parts infoT
    clear e1 e2 h iL iM
    go_enter Try.func22, Try.ntmps22
    go_wp2_with fail
    refine (CB.out _ HL.out HM.out).mono ?_
    rintro e w1 ⟨rfl, b1⟩
    have HL1 := Lib.hid (HL.out.below b1)
    have HM1 := Lib.hid (HM.out.below b1)
    clear HL HM CB
    go_wp2_with fail
    go_loopw [7, 22] (fun l s wr => ∃ (i : Nat) (N : List Tm) (D : Option Addr) (c' : Nat), i ≤ L.length ∧ l = .slice D N.length c' ∧ s = .int .i64 i ∧ Hid (OwnT wr w1.heap.size (.slice D N.length c') N) ∧ Hid (joins (L.take i) M = N) ∧ Below w1.heap.size w1 wr) (fun _ s _ => L.length - (intOf s).toNat)
    case atStart => exact ⟨0, [], none, 0, Nat.zero_le _, rfl, rfl, Lib.hid (World.ownsRow_nil _ _ _ _), Lib.hid (by simp [joins]), Below.refl _ _⟩
    case round =>
      obtain ⟨i, N, D, c', hi, rfl, rfl, HO, HN, hb0⟩ := hrel
      rename World => W1
      by_cases hlt : i < L.length
      · obtain ⟨x, hx, hm⟩ := get_lt hlt
        obtain ⟨b, off, hA, hb, c0, c1, c2, c3, c4⟩ := (HL1.out.below hb0).at hx
        subst hA
        have HX := Lib.hid hx
        have IX := Lib.hid (IL.out x hm)
        have MX := Lib.hid hm
        have HO1 := Lib.hid (HO.out.below (fresh1 W1 (.cells #[.int .u32 x.e, .int .i64 x.d, .int .u32 x.a, .int .u32 x.b, .int .u32 x.c] 26)))
        have O := Whole.fresh W1 26 #[.int .u32 x.e, .int .i64 x.d, .int .u32 x.a, .int .u32 x.b, .int .u32 x.c]
        have hb1 := hb0.alloc hb0.size (.cells #[.int .u32 x.e, .int .i64 x.d, .int .u32 x.a, .int .u32 x.b, .int .u32 x.c] 26)
        have AW := Lib.hid (away_new HO.out)
        clear hx hm HO
        go_upto_region 8 with fail
        change Code.wp _ _ _ _ (W1.alloc (.cells #[.int .u32 x.e, .int .i64 x.d, .int .u32 x.a, .int .u32 x.b, .int .u32 x.c] 26))
        have hsz1 := hb0.size
        clear c0 c1 c2 c3 c4 hb hb0
        have hz : W1.heap.size < (W1.alloc (.cells #[.int .u32 x.e, .int .i64 x.d, .int .u32 x.a, .int .u32 x.b, .int .u32 x.c] 26)).heap.size := by simp
        generalize W1.alloc (.cells #[.int .u32 x.e, .int .i64 x.d, .int .u32 x.a, .int .u32 x.b, .int .u32 x.c] 26) = W2 at O HO1 hb1 hz ⊢
        generalize hgx : W1.heap.size = gx at O hz AW ⊢
        have hgx1 : w1.heap.size ≤ gx := by rw [← hgx]; exact hsz1
        have OX := Lib.hid O
        clear O
        go_wp2_with fail
        go_loopw [7, 28] (fun l s wr => ∃ (k : Nat) (D : Option Addr) (c' : Nat), k ≤ M.length ∧ l = .slice D (jo L M i x k).length c' ∧ s = .int .i64 k ∧ Hid (OwnT wr w1.heap.size (.slice D (jo L M i x k).length c') (jo L M i x k)) ∧ Hid (Whole wr gx 26 #[.int .u32 x.e, .int .i64 x.d, .int .u32 x.a, .int .u32 x.b, .int .u32 x.c]) ∧ Hid (Away D gx) ∧ Below w1.heap.size w1 wr) (fun _ s _ => M.length - (intOf s).toNat)
        case atStart => exact ⟨0, D, c', Nat.zero_le _, by rw [jo_zero, HN.out], rfl, by rw [jo_zero, HN.out]; exact HO1, OX, AW, hb1⟩
        case round =>
          obtain ⟨k, D, c', hk, rfl, rfl, HO, OX, AW, hb0⟩ := hrel
          by_cases hlk : k < M.length
          · rename World => W3
            obtain ⟨y, hy, hm⟩ := get_lt hlk
            obtain ⟨b2, off2, hB, hb2, d0, d1, d2, d3, d4⟩ := (HM1.out.below hb0).at hy
            subst hB
            have HE := HB.out x MX.out y hm
            have J := Lib.hid (join_any x y IX.out (IM.out y hm))
            rw [HE] at J
            have EJ := Lib.hid (jo_next (A := L) (i := i) (x := x) hy)
            generalize joinV x y = z at J EJ
            have HO2 := Lib.hid (HO.out.below (fresh1 W3 (.cells #[.int .u32 y.e, .int .i64 y.d, .int .u32 y.a, .int .u32 y.b, .int .u32 y.c] 26)))
            have OX2 := OX.out.alloc (.cells #[.int .u32 y.e, .int .i64 y.d, .int .u32 y.a, .int .u32 y.b, .int .u32 y.c] 26)
            have OY := Whole.fresh W3 26 #[.int .u32 y.e, .int .i64 y.d, .int .u32 y.a, .int .u32 y.b, .int .u32 y.c]
            have hb1 := hb0.alloc hb0.size (.cells #[.int .u32 y.e, .int .i64 y.d, .int .u32 y.a, .int .u32 y.b, .int .u32 y.c] 26)
            have jl := jo_len (i := i) (x := x) (k := k) f1 f2
            clear HE hy hm HO
            go_upto_region 11 with fail
            change Code.wp _ _ _ _ (W3.alloc (.cells #[.int .u32 y.e, .int .i64 y.d, .int .u32 y.a, .int .u32 y.b, .int .u32 y.c] 26))
            clear d0 d1 d2 d3 d4 hb2 hb0 OX
            generalize W3.alloc (.cells #[.int .u32 y.e, .int .i64 y.d, .int .u32 y.a, .int .u32 y.b, .int .u32 y.c] 26) = W4 at HO2 OX2 OY hb1 ⊢
            generalize W3.heap.size = gy at OY ⊢
            obtain ⟨xc, xf⟩ := path.all_of OX2
            obtain ⟨yc, yf⟩ := path.all_of OY
            have OX3 := Lib.hid OX2
            go_wp2_with fail
            refine (J.out _).mono ?_
            rintro e w5 ⟨rfl, b5⟩
            have HO5 := Lib.hid ((HO2.out.below b5).below (fresh1 w5 (.cells #[.int .u32 z.e, .int .i64 z.d, .int .u32 z.a, .int .u32 z.b, .int .u32 z.c] 26)))
            have OX5 := Lib.hid ((OX3.out.below b5 OX3.out.inside).alloc (.cells #[.int .u32 z.e, .int .i64 z.d, .int .u32 z.a, .int .u32 z.b, .int .u32 z.c] 26))
            have hb5 := (hb1.trans (b5.mono hb1.size))
            have hb6 := hb5.alloc hb5.size (.cells #[.int .u32 z.e, .int .i64 z.d, .int .u32 z.a, .int .u32 z.b, .int .u32 z.c] 26)
            have OZ := Whole.fresh w5 26 #[.int .u32 z.e, .int .i64 z.d, .int .u32 z.a, .int .u32 z.b, .int .u32 z.c]
            clear xc xf yc yf OX2 OX3 OY HO2 b5 hb1 J hb5
            go_upto_region 12 with fail
            change Code.wp _ _ _ _ (w5.alloc (.cells #[.int .u32 z.e, .int .i64 z.d, .int .u32 z.a, .int .u32 z.b, .int .u32 z.c] 26))
            generalize w5.alloc (.cells #[.int .u32 z.e, .int .i64 z.d, .int .u32 z.a, .int .u32 z.b, .int .u32 z.c] 26) = W6 at HO5 OX5 OZ hb6 ⊢
            generalize w5.heap.size = gz at OZ ⊢
            obtain ⟨zc, zf⟩ := path.all_of OZ
            clear OZ
            go_wp2_with (at_builtin; refine wpList_append_own_at _ rfl _ _ 22 rfl w1.heap.size 26 i0 (.agg #[.int .u32 T0.e, .int .i64 T0.d, .int .u32 T0.a, .int .u32 T0.b, .int .u32 T0.c]) 5 32 Try.underlying22 hi0 hz0 hz1 hz2 rfl (by decide) _ _ _ rfl (HO5.out.below (fresh1 W6 (.cells #[.int .u32 z.e, .int .i64 z.d, .int .u32 z.a, .int .u32 z.b, .int .u32 z.c] 26))) ⟨_, 0, none⟩ 1 1 (cT z) rfl rfl (cells_new _ _ _) (one_cT z) (by simp [maxLen]; omega) (by omega) (by have := hb6.size; simp; omega) ?_; intro v7 w7 hown' hgrow _ hat; have hb7 := hb6.trans (HO5.out.grown hb6.size hgrow); have OX7 := Lib.hid ((OX5.out.alloc (.cells #[.int .u32 z.e, .int .i64 z.d, .int .u32 z.a, .int .u32 z.b, .int .u32 z.c] 26)).grown hgrow (Ne.symm (AW.out _ _))); have HO7 : Hid (OwnT w7 w1.heap.size v7 (jo L M i x k ++ [z])) := Lib.hid (by unfold OwnT; rw [List.length_append, List.flatMap_append]; simpa using hown'); obtain ⟨D7, c7, hv7⟩ := HO7.out.shape; rw [List.length_append] at hv7; subst hv7; have AW7 := Lib.hid (away_next (AW.out _ _) (by have := OX5.out.inside; simp; omega) hat); clear hown' hgrow hat)
            go_roundw
            case rel => exact ⟨k + 1, D7, c7, by omega, by rw [EJ.out, List.length_append]; rfl, by go_num, by rw [EJ.out]; simpa using HO7, OX7, AW7, hb7⟩
            case measure => simp [intOf]; omega
          · have hkk : k = M.length := by omega
            subst hkk
            have E := Lib.hid (jo_all (B := M) HX.out)
            go_wp2_with fail
            go_roundw
            case rel => exact ⟨i + 1, jo L M i x M.length, D, c', by omega, rfl, by go_num, HO, Lib.hid E.out.symm, hb0⟩
            case measure => simp [intOf]; omega
      · have hii : i = L.length := by omega
        subst hii
        have HL2 := HO.out.lies
        obtain rfl : joins L M = N := by have := HN.out; rwa [List.take_length] at this
        go_wp2_with fail
        refine (MK.out _ _ _ HL2).mono ?_
        rintro e w6 ⟨E, c6, rfl, h6, b6⟩
        have H6 := Lib.hid h6
        clear h6
        go_wp2_with fail
        go_ret2
        exact ⟨E, c6, rfl, H6.out, b1.trans ((hb0.trans (b6.mono hb0.size)).mono b1.size)⟩
  · obtain ⟨e1, e2⟩ := join_bad2 h
    rw [e1, e2]
    generalize bothE L M iL iM = m at CB h ⊢
    go_enter Try.func22, Try.ntmps22
    go_wp2_with fail
    refine (CB.out _ HL.out HM.out).mono ?_
    rintro e w1 ⟨rfl, b1⟩
    go_wp2_with fail
    go_ret2
    exact ⟨none, 0, rfl, Lt.nil _ _, b1⟩
end Go.Proofs.Ytmepiogoofmbbaa.chain
