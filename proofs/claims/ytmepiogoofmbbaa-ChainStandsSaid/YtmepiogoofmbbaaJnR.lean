/-
  The contract of watershedref06.Join.
-/
import Derived.Test.YtmepiogoofmbbaaJnE
import Derived.Test.YtmepiogoofmbbaaJoinR
namespace Go.Proofs.Ytmepiogoofmbbaa.chain
open Go.ChangeShapes Go.WideShapes Go.ChangeAt Go.RowKit Go.Shelf Go.Sort
open Go.Proofs.Ytmepiogoofmbbaa.tm Go.Proofs.Ytmepiogoofmbbaa.opened Go.Proofs.Ytmepiogoofmbbaa.block Go.Proofs.Ytmepiogoofmbbaa.stamp
open Go.Proofs.Ytmepiogoofmbbaa.region

set_option maxRecDepth 100000 in
set_option maxHeartbeats 4000000 in
theorem joinR_chain (A B : Option Addr) (c d : Nat) (L M : List Tm) (iL : InL L) (iM : InL M) (mL : L.length ≤ 4611686018427387903) (mM : M.length ≤ 4611686018427387903) (w : World) (hL : Lt w A L) (hM : Lt w B M) :
    Calls Try.prog 23 #[.slice A L.length c, .slice B M.length d] w fun e W' => ∃ D c', e = .returned (.tuple #[.slice D (joinLV L M iL iM).length c', .int .i64 (joinLE L M iL iM)]) ∧ Lt W' D (joinLV L M iL iM) ∧ Below w.heap.size w W' := by
  have HL := Lib.hid hL
  have HM := Lib.hid hM
  have CB := Lib.hid (bothR_any A B c d L M iL iM mL mM)
  clear hL hM
  by_cases h : bothE L M iL iM = 0
  · obtain ⟨e1, e2⟩ := join_good2 h
    obtain ⟨f1, f2⟩ := both_few h
    have HB := Lib.hid (both_ok h).2.2
    have MK := Lib.hid (fun D c' => makeR_any D c' (joins L M) (in_joins iL iM) (by have := joins_few f1 f2; omega))
    have IL := Lib.hid iL
    have IM := Lib.hid iM
    rw [e1, e2]
    rw [h] at CB
    generalize makeE (joins L M) (in_joins iL iM) = m at MK ⊢
    generalize makeV (joins L M) (in_joins iL iM) = V at MK ⊢
    obtain ⟨i0, hi0, hz0, hz1, hz2⟩ := info_parts infoT
    clear e1 e2 h iL iM
    go_enter Try.func23, Try.ntmps23
    go_wp2_with fail
    refine (CB.out _ HL.out HM.out).mono ?_
    rintro e w1 ⟨rfl, b1⟩
    have HL1 := Lib.hid (HL.out.below b1)
    have HM1 := Lib.hid (HM.out.below b1)
    clear HL HM CB
    go_wp2_with fail
    go_loopw [7, 8] (fun l s wr => ∃ (i : Nat) (N : List Tm) (D : Option Addr) (c' : Nat), i ≤ L.length ∧ l = .slice D N.length c' ∧ s = .int .i64 i ∧ Hid (OwnT wr w1.heap.size (.slice D N.length c') N) ∧ Hid (joins (L.take i) M = N) ∧ Below w1.heap.size w1 wr) (fun _ s _ => L.length - (intOf s).toNat)
    case atStart => exact ⟨0, [], none, 0, Nat.zero_le _, rfl, rfl, Lib.hid (World.ownsRow_nil _ _ _ _), Lib.hid (by simp [joins]), Below.refl _ _⟩
    case round =>
      obtain ⟨i, N, D, c', hi, rfl, rfl, HO, HN, hb0⟩ := hrel
      rename World => W1
      by_cases hlt : i < L.length
      · obtain ⟨x, hx, hm⟩ := get_lt hlt
        have HX := Lib.hid hx
        have IX := Lib.hid (IL.out x hm)
        have MX := Lib.hid hm
        clear hx hm
        go_wp2_with fail
        go_loopw [7, 9] (fun l s wr => ∃ (k : Nat) (D : Option Addr) (c' : Nat), k ≤ M.length ∧ l = .slice D (jo L M i x k).length c' ∧ s = .int .i64 k ∧ Hid (OwnT wr w1.heap.size (.slice D (jo L M i x k).length c') (jo L M i x k)) ∧ Below w1.heap.size w1 wr) (fun _ s _ => M.length - (intOf s).toNat)
        case atStart => exact ⟨0, D, c', Nat.zero_le _, by rw [jo_zero, HN.out], rfl, by rw [jo_zero, HN.out]; exact HO, hb0⟩
        case round =>
          obtain ⟨k, D, c', hk, rfl, rfl, HO, hb0⟩ := hrel
          by_cases hlk : k < M.length
          · rename World => W3
            obtain ⟨y, hy, hm⟩ := get_lt hlk
            obtain ⟨b1', o1, hA, hb1, c0, c1, c2, c3, c4⟩ := (HL1.out.below hb0).at HX.out
            obtain ⟨b2', o2, hB, hb2, d0, d1, d2, d3, d4⟩ := (HM1.out.below hb0).at hy
            subst hA hB
            have HE := HB.out x MX.out y hm
            have J := Lib.hid (joinR_any x y IX.out (IM.out y hm))
            rw [HE] at J
            have EJ := Lib.hid (jo_next (A := L) (i := i) (x := x) hy)
            generalize joinV x y = z at J EJ
            have jl := jo_len (i := i) (x := x) (k := k) f1 f2
            have LX := Lib.hid (load_time (w := W3.drew) (x := x) (b := b1') (o := o1 + i * 5) hb1 c0 c1 c2 c3 c4)
            have LY := Lib.hid (load_time (w := W3.drew) (x := y) (b := b2') (o := o2 + k * 5) hb2 d0 d1 d2 d3 d4)
            clear HE hy hm c0 c1 c2 c3 c4 d0 d1 d2 d3 d4
            go_upto_region 11 with fail
            refine region_one2 12 13 50 26 #[.int .u32 0, .int .i64 0, .int .u32 0, .int .u32 0, .int .u32 0] #[.int .u32 z.e, .int .i64 z.d, .int .u32 z.a, .int .u32 z.b, .int .u32 z.c]
              [.slice (some ⟨b1', o1, none⟩) L.length c, .int .i64 i, .pointer (some ⟨b1', o1 + i * 5, none⟩), .agg #[.int .u32 x.e, .int .i64 x.d, .int .u32 x.a, .int .u32 x.b, .int .u32 x.c], .slice (some ⟨b2', o2, none⟩) M.length d, .int .i64 k, .pointer (some ⟨b2', o2 + k * 5, none⟩), .agg #[.int .u32 y.e, .int .i64 y.d, .int .u32 y.a, .int .u32 y.b, .int .u32 y.c], .tuple #[.agg #[.int .u32 z.e, .int .i64 z.d, .int .u32 z.a, .int .u32 z.b, .int .u32 z.c], .int .i64 0], .tuple #[.agg #[.int .u32 z.e, .int .i64 z.d, .int .u32 z.a, .int .u32 z.b, .int .u32 z.c], .int .i64 0], .agg #[.int .u32 z.e, .int .i64 z.d, .int .u32 z.a, .int .u32 z.b, .int .u32 z.c], .int .i64 0, undef, undef, .int .i64 0] (by kernel_rfl) rfl (by kernel_rfl) rfl rfl rfl rfl rfl rfl (by kernel_rfl) (by kernel_rfl) rfl (by simp [Value.oneCell']) (by kernel_rfl) ?_ ?_
            · intro w ρ
              simp [execOp, go_sem]
            intro fin hfin
            simp [lexPut, val, kind1, Act.put] at hfin
            refine ⟨fun n => by rw [hfin]; rfl, ⟨fun _ n => tells_move rfl (by rw [hfin]; rfl),
                fun _ n => tells_move rfl (by rw [hfin]; rfl),
                fun _ n => tells_index rfl (by rw [hfin]; rfl) (by rw [hfin]; rfl) hlt Try.underlying22 Try.sizeOf26,
                fun _ n => tells_time rfl (by rw [hfin]; rfl) LX.out,
                fun _ n => tells_move rfl (by rw [hfin]; rfl),
                fun _ n => tells_move rfl (by rw [hfin]; rfl),
                fun _ n => tells_index rfl (by rw [hfin]; rfl) (by rw [hfin]; rfl) hlk Try.underlying22 Try.sizeOf26,
                fun _ n => tells_time rfl (by rw [hfin]; rfl) LY.out,
                fun _ n => tells_call rfl (by rw [hfin]; simp [Act.eval]) rfl Try.func67 (by kernel_rfl) (by kernel_rfl) J.out,
                fun _ n => tells_move rfl (by rw [hfin]; rfl),
                fun _ n => tells_extract rfl (by rw [hfin]; rfl) rfl,
                fun _ n => tells_extract rfl (by rw [hfin]; rfl) rfl,
                (fun h => by simp [kind1] at h),
                (fun h => by simp [kind1] at h),
                fun _ n => tells_assign rfl (by rw [hfin]; rfl), trivial⟩, ?_⟩
            intro n W6 gz hm bb OZ hlt2
            rw [hfin, hm]
            clear hfin hm n fin LX LY J
            have hb6 := hb0.trans (bb.mono hb0.size)
            have HO6 := Lib.hid (HO.out.below bb)
            obtain ⟨zc, zf⟩ := path.all_of OZ
            clear bb HO hlt2 OZ
            go_wp2_with (at_builtin; refine wp_app rfl _ _ rfl w1.heap.size _ (jo L M i x k) rfl (HO6.out.below (fresh1 W6 (.cells #[.int .u32 z.e, .int .i64 z.d, .int .u32 z.a, .int .u32 z.b, .int .u32 z.c] 26))) (some ⟨W6.heap.size, 0, none⟩) 1 1 [z] rfl rfl (lt_one (Whole.fresh W6 26 #[.int .u32 z.e, .int .i64 z.d, .int .u32 z.a, .int .u32 z.b, .int .u32 z.c])) (by simp; omega) (by have := hb6.size; simp; omega) ?_; intro D7 c7 w7 h7 b7; have HO7 := Lib.hid h7; have hb7 := (hb6.alloc hb6.size (.cells #[.int .u32 z.e, .int .i64 z.d, .int .u32 z.a, .int .u32 z.b, .int .u32 z.c] 26)).trans b7; clear h7 b7)
            go_roundw
            case rel => exact ⟨k + 1, D7, c7, by omega, by rw [EJ.out, List.length_append]; rfl, by go_num, by rw [EJ.out]; simpa using HO7, hb7⟩
            case measure => simp [intOf]; omega
          · have hkk : k = M.length := by omega
            subst hkk
            have E := Lib.hid (jo_all (B := M) HX.out)
            go_wp2_with fail
            go_roundw
            case rel => exact ⟨i + 1, jo L M i x M.length, D, c', by omega, rfl, by go_num, HO, Lib.hid E.out.symm, hb0⟩
            case measure => simp [intOf]; omega
      · have hii : i = L.length := by omega
        subst hii
        have HL2 := HO.out.lies
        obtain rfl : joins L M = N := by have := HN.out; rwa [List.take_length] at this
        go_wp2_with fail
        refine (MK.out _ _ _ HL2).mono ?_
        rintro e w6 ⟨E, c6, rfl, h6, b6⟩
        have H6 := Lib.hid h6
        clear h6
        go_wp2_with fail
        go_ret2
        exact ⟨E, c6, rfl, H6.out, b1.trans ((hb0.trans (b6.mono hb0.size)).mono b1.size)⟩
  · obtain ⟨e1, e2⟩ := join_bad2 h
    rw [e1, e2]
    generalize bothE L M iL iM = m at CB h ⊢
    go_enter Try.func23, Try.ntmps23
    go_wp2_with fail
    refine (CB.out _ HL.out HM.out).mono ?_
    rintro e w1 ⟨rfl, b1⟩
    go_wp2_with fail
    go_ret2
    exact ⟨none, 0, rfl, Lt.nil _ _, b1⟩
end Go.Proofs.Ytmepiogoofmbbaa.chain
