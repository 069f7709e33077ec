/-
  The document's Moves.
  The program's without: slices.Index, slices.Contains over times.
-/
import Derived.Test.YtomekndinopoaaaJMuD
import Derived.Deep.RegionHeld3
namespace Go.Proofs.Ytomekndinopoaaa.multi
open Go.ChangeShapes Go.WideShapes Go.ChangeAt Go.RowKit Go.Maps Go.WideMaps
open Go.Proofs.Ytomekndinopoaaa.tm Go.Proofs.Ytomekndinopoaaa.opened Go.Proofs.Ytomekndinopoaaa.block Go.Proofs.Ytomekndinopoaaa.stamp Go.Proofs.Ytomekndinopoaaa.chain

set_option maxRecDepth 100000
theorem movesR_bad {g c e : Nat} {d : Int} {A B : Option Addr} {L : List Tm} {M : List TN} (G : GoodM d M) (mL : M.length ≤ 4096) (hE : makeE (present M) (inP G) ≠ 0) (w : World) (h : MulR w g d A c M B e L) :
    Calls Try.prog 13 #[.pointer (some ⟨g, 0, none⟩)] w fun e w' => e = .returned (.tuple #[.slice none 0 0, .slice none 0 0, .int .i64 (makeE (present M) (inP G))]) ∧ Below w.heap.size w w' := by
  have FC := Lib.hid (frontierR_any G mL w h)
  clear h
  generalize makeE (present M) (inP G) = E at FC hE ⊢
  generalize makeV (present M) (inP G) = F at FC ⊢
  go_enter Try.func13, Try.ntmps13
  go_wp2_with ((go_at_call 40; refine FC.out.mono ?_; rintro e w1 ⟨B1, c1, rfl, h1, b1⟩; have H1 := Lib.hid h1; have hb1 := Lib.hid b1; clear h1 b1))
  refine bodyPost_ret (v := .tuple #[.slice none 0 0, .slice none 0 0, .int .i64 E]) (by simp [results, Try.results13, go_sem]) rfl ⟨rfl, hb1.out⟩
end Go.Proofs.Ytomekndinopoaaa.multi
namespace Go.Proofs.Ytomekndinopoaaa.multi
open Go.ChangeShapes Go.WideShapes Go.ChangeAt Go.RowKit Go.Maps Go.WideMaps
open Go.Proofs.Ytomekndinopoaaa.tm Go.Proofs.Ytomekndinopoaaa.opened Go.Proofs.Ytomekndinopoaaa.block Go.Proofs.Ytomekndinopoaaa.stamp Go.Proofs.Ytomekndinopoaaa.chain

set_option maxRecDepth 100000
theorem index_any (A : Option Addr) (c : Nat) (L : List Tm) (x : Tm) (mL : L.length ≤ 4611686018427387903) (w : World) (hL : Lt w A L) :
    Calls Try.prog 87 #[.slice A L.length c, .agg #[.int .u32 x.e, .int .i64 x.d, .int .u32 x.a, .int .u32 x.b, .int .u32 x.c]] w fun e w' => ∃ i : Int, e = .returned (.int .i64 i) ∧ Hid (decide (0 ≤ i) = L.any fun y => eqT x y) ∧ Below w.heap.size w w' := by
  have HL := Lib.hid hL
  clear hL
  have h0 := Whole.fresh w 33 (#[.int .u32 x.e, .int .i64 x.d, .int .u32 x.a, .int .u32 x.b, .int .u32 x.c])
  have B0 := fresh1 w (.cells (#[.int .u32 x.e, .int .i64 x.d, .int .u32 x.a, .int .u32 x.b, .int .u32 x.c]) 33)
  go_enter Try.func87, Try.ntmps87
  go_wp2_with fail
  generalize w.alloc (.cells (#[.int .u32 x.e, .int .i64 x.d, .int .u32 x.a, .int .u32 x.b, .int .u32 x.c]) 33) = W0 at h0 B0 ⊢
  generalize hg : w.heap.size = gt at h0 ⊢
  have HG := Lib.hid hg
  go_loopw [8] (fun s wr => ∃ k : Nat, k ≤ L.length ∧ s = .int .i64 k ∧ Hid ((L.take k).any (fun y => eqT x y) = false) ∧ Whole wr gt 33 (#[.int .u32 x.e, .int .i64 x.d, .int .u32 x.a, .int .u32 x.b, .int .u32 x.c]) ∧ Below w.heap.size w wr) (fun s _ => L.length - (intOf s).toNat)
  case atStart => exact ⟨0, Nat.zero_le _, rfl, Lib.hid (by simp), h0, B0⟩
  case round =>
    clear h0 B0
    obtain ⟨k, hk, rfl, HN, O, BB⟩ := hrel
    by_cases hlt : k < L.length
    · obtain ⟨y, hy, -⟩ := get_lt hlt
      have HY := Lib.hid (any_more (p := fun y => eqT x y) hy)
      have HM := Lib.hid (List.mem_of_getElem? hy)
      obtain ⟨b, off, hA, hb, c0, c1, c2, c3, c4⟩ := (HL.out.below BB).at hy
      subst hA
      clear hy
      have HE := run_eqT x y
      obtain ⟨v, hv⟩ : ∃ v, eqT x y = v := ⟨_, rfl⟩
      rw [hv] at HE HY
      have HV := Lib.hid hv
      clear hv
      go_upto_region 4 with fail
      have s0 : ∀ z : Since wr, z.1.cell? ⟨b, off + k * 5, none⟩ = some (.int .u32 y.e) := fun z => (z.2.cell hb).trans c0
      have s1 : ∀ z : Since wr, z.1.cell? ⟨b, off + k * 5 + 1, none⟩ = some (.int .i64 y.d) := fun z => (z.2.cell hb).trans c1
      have s2 : ∀ z : Since wr, z.1.cell? ⟨b, off + k * 5 + 2, none⟩ = some (.int .u32 y.a) := fun z => (z.2.cell hb).trans c2
      have s3 : ∀ z : Since wr, z.1.cell? ⟨b, off + k * 5 + 3, none⟩ = some (.int .u32 y.b) := fun z => (z.2.cell hb).trans c3
      have s4 : ∀ z : Since wr, z.1.cell? ⟨b, off + k * 5 + 4, none⟩ = some (.int .u32 y.c) := fun z => (z.2.cell hb).trans c4
      have s5 : ∀ (z : Since wr) (i : Nat), z.1.cell? ⟨gt, i, none⟩ = (#[.int .u32 x.e, .int .i64 x.d, .int .u32 x.a, .int .u32 x.b, .int .u32 x.c] : Array Value)[i]? := fun z i => (O.below z.2 O.inside).read i
      clear c0 c1 c2 c3 c4
      refine region_since wr (by kernel_rfl) (by kernel_rfl) (Below.refl _ _) ?_
      repeat (go_big_quiet_step (fail))
      refine wpQuiet_nil ?_
      rintro w4 ⟨z, hw⟩
      have O4 := O.below (hw ▸ z.2) O.inside
      have B4 := BB.trans ((hw ▸ z.2 : Below wr.heap.size wr w4).mono BB.size)
      clear hw z s0 s1 s2 s3 s4 s5 O HE
      cases v
      · go_wp2_with fail
        go_roundw
        case rel => exact ⟨k + 1, by omega, by go_num, Lib.hid (by rw [HY.out, HN.out]; rfl), O4, B4⟩
        case measure => simp [intOf]; omega
      · have E : Hid (decide ((0 : Int) ≤ (k : Int)) = L.any fun y => eqT x y) := Lib.hid (by
          rw [decide_eq_true (by omega)]
          exact (List.any_eq_true.2 ⟨y, HM.out, HV.out⟩).symm)
        go_wp2_with fail
        go_ret
        exact ⟨_, rfl, E, B4⟩
    · have hkk : k = L.length := by omega
      subst hkk
      have E : Hid (decide ((0 : Int) ≤ -1) = L.any fun y => eqT x y) := Lib.hid (by
        have := HN.out
        rw [List.take_length] at this
        rw [this]
        rfl)
      go_wp2_with fail
      go_ret
      exact ⟨_, rfl, E, BB⟩
theorem contains_any (A : Option Addr) (c : Nat) (L : List Tm) (x : Tm) (mL : L.length ≤ 4611686018427387903) (w : World) (hL : Lt w A L) :
    Calls Try.prog 67 #[.slice A L.length c, .agg #[.int .u32 x.e, .int .i64 x.d, .int .u32 x.a, .int .u32 x.b, .int .u32 x.c]] w fun e w' => e = .returned (.bool (L.any fun y => eqT x y)) ∧ Below w.heap.size w w' := by
  have B0 := fresh1 w (.cells (#[.int .u32 x.e, .int .i64 x.d, .int .u32 x.a, .int .u32 x.b, .int .u32 x.c]) 33)
  have C := Lib.hid (index_any A c L x mL (w.alloc (.cells (#[.int .u32 x.e, .int .i64 x.d, .int .u32 x.a, .int .u32 x.b, .int .u32 x.c]) 33)) (hL.below B0))
  have HB := Lib.hid B0
  clear hL B0
  go_enter Try.func67, Try.ntmps67
  go_wp2_with ((go_at_call 87; refine C.out.mono ?_; rintro e w1 ⟨i, rfl, hi, b1⟩; have HI := Lib.hid hi.out; have HB1 := Lib.hid b1; clear hi b1))
  go_ret
  exact ⟨by rw [← HI.out]; rfl, then_below HB.out HB1.out⟩
theorem without_any (A B : Option Addr) (c d : Nat) (L M : List Tm) (mL : L.length ≤ 4096) (mM : M.length ≤ 4611686018427387903) (w : World) (hL : Lt w A L) (hM : Lt w B M) :
    Calls Try.prog 39 #[.slice A L.length c, .slice B M.length d] w fun e w' => ∃ (D : Option Addr) (c' : Nat), e = .returned (.slice D (withoutV L M).length c') ∧ OwnT w' w.heap.size (.slice D (withoutV L M).length c') (withoutV L M) ∧ Below w.heap.size w w' := by
  have HL := Lib.hid hL
  have HM := Lib.hid hM
  clear hL hM
  obtain ⟨i0, hi, hz0, hz1, hz2⟩ := info_parts infoT
  go_enter Try.func39, Try.ntmps39
  go_wp2_with fail
  go_loopw [5, 10] (fun v s wr => ∃ (k : Nat) (N : List Tm) (D : Option Addr) (c' : Nat), k ≤ L.length ∧ v = .slice D N.length c' ∧ s = .int .i64 k ∧ Hid (N = withoutV (L.take k) M) ∧ Hid (OwnT wr w.heap.size (.slice D N.length c') N) ∧ Below w.heap.size w wr) (fun _ s _ => L.length - (intOf s).toNat)
  case atStart => exact ⟨0, [], none, 0, Nat.zero_le _, rfl, rfl, Lib.hid (by simp [withoutV]), Lib.hid (World.ownsRow_nil _ _ _ _), Below.refl _ _⟩
  case round =>
    obtain ⟨k, N, D, c', hk, rfl, rfl, HN, HO, BB⟩ := hrel
    have hNl : N.length ≤ 4096 := by
      rw [HN.out]
      have := without_len (L.take k) M
      rw [List.length_take] at this
      omega
    by_cases hlt : k < L.length
    · obtain ⟨x, hx, -⟩ := get_lt hlt
      have HP := Lib.hid (without_more (M := M) hx)
      obtain ⟨b1, o1, hA, hb1, c0, c1, c2, c3, c4⟩ := (HL.out.below BB).at hx
      subst hA
      clear hx
      have bb := fresh1 wr (.cells (#[.int .u32 x.e, .int .i64 x.d, .int .u32 x.a, .int .u32 x.b, .int .u32 x.c]) 33)
      have BW := BB.trans (bb.mono BB.size)
      have HO2 := Lib.hid (HO.out.below bb)
      have C := Lib.hid (fun w2 (h2 : Below (wr.alloc (.cells (#[.int .u32 x.e, .int .i64 x.d, .int .u32 x.a, .int .u32 x.b, .int .u32 x.c]) 33)).heap.size (wr.alloc (.cells (#[.int .u32 x.e, .int .i64 x.d, .int .u32 x.a, .int .u32 x.b, .int .u32 x.c]) 33)) w2) => contains_any B d M x mM w2 ((HM.out.below BW).below h2))
      have OX := Whole.fresh wr 33 (#[.int .u32 x.e, .int .i64 x.d, .int .u32 x.a, .int .u32 x.b, .int .u32 x.c])
      have hBW := BW.size
      clear bb HO
      obtain ⟨q, hq⟩ : ∃ q, (M.any fun y => eqT x y) = q := ⟨_, rfl⟩
      rw [hq] at HP C
      clear hq
      go_upto_region 5 with fail
      change Code.wp _ _ _ _ (wr.alloc (.cells (#[.int .u32 x.e, .int .i64 x.d, .int .u32 x.a, .int .u32 x.b, .int .u32 x.c]) 33))
      generalize wr.alloc (.cells (#[.int .u32 x.e, .int .i64 x.d, .int .u32 x.a, .int .u32 x.b, .int .u32 x.c]) 33) = W6 at HO2 BW OX C hBW ⊢
      generalize wr.heap.size = gz at OX ⊢
      clear BB c0 c1 c2 c3 c4
      obtain ⟨zc, zf⟩ := path.all_of OX
      have HX := Lib.hid OX
      clear OX
      have CC := Lib.hid (C.out W6 (Below.refl _ _))
      clear C
      cases q
      · have HQ : Hid (N ++ [x] = withoutV (L.take (k + 1)) M) := Lib.hid (by have := HP.out; rw [if_neg (by simp), ← HN.out] at this; exact this.symm)
        clear HP HN
        go_upto_region 6 with ((go_at_call 67; refine CC.out.mono ?_; rintro e w7 ⟨rfl, b7⟩; have HO7 := Lib.hid (HO2.out.below b7); have B7 := Lib.hid (BW.trans (b7.mono hBW)); have hB7 := B7.out.size; have OX7 := Lib.hid (HX.out.below b7 HX.out.inside); clear b7))
        clear zc zf
        obtain ⟨zc, zf⟩ := path.all_of OX7.out
        go_wp2_with (at_builtin; refine wpList_append_own _ rfl _ _ 37 rfl w.heap.size 33 i0 (.agg #[.int .u32 T0.e, .int .i64 T0.d, .int .u32 T0.a, .int .u32 T0.b, .int .u32 T0.c]) 5 32 Try.underlying37 hi hz0 hz1 hz2 rfl (by decide) _ _ _ rfl (HO7.out.below (fresh1 w7 (.cells (#[.int .u32 x.e, .int .i64 x.d, .int .u32 x.a, .int .u32 x.b, .int .u32 x.c]) 33))) ⟨_, 0, none⟩ 1 1 (cT x) rfl rfl (cells_new _ _ _) (one_cT x) (by simp [maxLen]; omega) (by omega) (by simp; omega) ?_; intro v' w5 hown' hgrow _; obtain ⟨g', cap', rfl⟩ := ownsRow_succ hown'; have b5 := HO7.out.grown hB7 hgrow; have HO5 := Lib.hid hown'; clear hown' hgrow)
        go_roundw
        case rel => exact ⟨k + 1, N ++ [x], some ⟨g', 0, none⟩, cap', by omega, by rw [List.length_append]; rfl, by go_num, HQ, Lib.hid (by have := HO5.out; simpa [OwnT] using this), B7.out.trans b5⟩
        case measure => simp [intOf]; omega
      · have HQ : Hid (N = withoutV (L.take (k + 1)) M) := Lib.hid (by have := HP.out; rw [if_pos rfl, ← HN.out] at this; exact this.symm)
        clear HP HN
        go_wp2_with ((go_at_call 67; refine CC.out.mono ?_; rintro e w7 ⟨rfl, b7⟩; have HO7 := Lib.hid (HO2.out.below b7); have B7 := Lib.hid (BW.trans (b7.mono hBW)); clear b7))
        go_roundw
        case rel => exact ⟨k + 1, N, D, c', by omega, rfl, by go_num, HQ, HO7, B7.out⟩
        case measure => simp [intOf]; omega
    · have hkk : k = L.length := by omega
      subst hkk
      obtain rfl : N = withoutV L M := by have := HN.out; rwa [List.take_length] at this
      go_wp2_with fail
      go_ret
      exact ⟨D, c', rfl, HO.out, BB⟩
end Go.Proofs.Ytomekndinopoaaa.multi
