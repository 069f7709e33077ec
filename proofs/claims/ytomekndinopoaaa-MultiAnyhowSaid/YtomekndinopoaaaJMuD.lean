/-
  The document's Frontier of a Multi.
  The document's New and without.
-/
import Derived.Test.YtomekndinopoaaaJMuG
import Derived.Test.YtomekndinopoaaaJCmpR
namespace Go.Proofs.Ytomekndinopoaaa.multi
open Go.ChangeShapes Go.WideShapes Go.ChangeAt Go.RowKit Go.Maps Go.WideMaps
open Go.Proofs.Ytomekndinopoaaa.tm Go.Proofs.Ytomekndinopoaaa.opened Go.Proofs.Ytomekndinopoaaa.block Go.Proofs.Ytomekndinopoaaa.stamp Go.Proofs.Ytomekndinopoaaa.chain

theorem present_more {M : List TN} {k : Nat} {p : TN} (h : M[k]? = some p) : present (M.take (k + 1)) = if 0 < p.2 then present (M.take k) ++ [p.1] else present (M.take k) := by
  unfold present
  rw [List.take_add_one, h]
  by_cases hp : 0 < p.2 <;> simp [hp]
theorem present_len (M : List TN) : (present M).length ≤ M.length := by
  unfold present
  rw [List.length_map]
  exact List.length_filter_le _ _
set_option maxRecDepth 100000 in
theorem frontierR_any {g c e : Nat} {d : Int} {A B : Option Addr} {L : List Tm} {M : List TN} (G : GoodM d M) (mL : M.length ≤ 4096) (w : World) (h : MulR w g d A c M B e L) :
    Calls Try.prog 40 #[.pointer (some ⟨g, 0, none⟩)] w fun e w' => ∃ (B : Option Addr) (c' : Nat), e = .returned (.tuple #[.slice B (makeV (present M) (inP G)).length c', .int .i64 (makeE (present M) (inP G))]) ∧ Lt w' B (makeV (present M) (inP G)) ∧ Below w.heap.size w w' := by
  have H := Lib.hid h
  have hgl : Hid (g < w.heap.size) := Lib.hid h.cells.inside
  have hin := Lib.hid (inP G)
  clear h
  obtain ⟨i0, hi, hz0, hz1, hz2⟩ := info_parts infoT
  go_enter Try.func40, Try.ntmps40
  go_wp2_with fail
  go_loopw [4, 5] (fun v s wr => ∃ (k : Nat) (N : List Tm) (D : Option Addr) (c' : Nat), k ≤ M.length ∧ v = .slice D N.length c' ∧ s = .int .i64 k ∧ Hid (N = present (M.take k)) ∧ Hid (OwnT wr w.heap.size (.slice D N.length c') N) ∧ Below w.heap.size w wr) (fun _ s _ => M.length - (intOf s).toNat)
  case atStart => exact ⟨0, [], none, 0, Nat.zero_le _, rfl, rfl, Lib.hid (by simp [present]), Lib.hid (World.ownsRow_nil _ _ _ _), Below.refl _ _⟩
  case round =>
    obtain ⟨k, N, D, c', hk, rfl, rfl, HN, HO, BB⟩ := hrel
    have HR := Lib.hid (H.out.below BB)
    have cl : wr.cell? ⟨g, 1, none⟩ = some (.slice A M.length c) := HR.out.cells.read 1
    have fl : wr.frozen? ⟨g, 1, none⟩ = false := HR.out.cells.soft 1
    have hNl : N.length ≤ 4096 := by
      rw [HN.out]
      have := present_len (M.take k)
      rw [List.length_take] at this
      omega
    by_cases hlt : k < M.length
    · obtain ⟨⟨t, n⟩, hx, hm⟩ := pair_lt hlt
      obtain ⟨b, off, hA, hb, c0, c1, c2, c3, c4, c5⟩ := HR.out.pairs.at hx
      subst hA
      have HP := Lib.hid (present_more hx)
      clear hx hm
      by_cases hpos : 0 < n
      · have HQ : Hid (N ++ [t] = present (M.take (k + 1))) := Lib.hid (by have := HP.out; rw [if_pos hpos, ← HN.out] at this; exact this.symm)
        have hBs := BB.size
        go_wp2_with (at_builtin; refine wpList_append_own _ rfl _ _ 37 rfl w.heap.size 33 i0 (.agg #[.int .u32 T0.e, .int .i64 T0.d, .int .u32 T0.a, .int .u32 T0.b, .int .u32 T0.c]) 5 32 Try.underlying37 hi hz0 hz1 hz2 rfl (by decide) _ _ _ rfl (HO.out.below (fresh1 wr (.cells (#[.int .u32 t.e, .int .i64 t.d, .int .u32 t.a, .int .u32 t.b, .int .u32 t.c]) 33))) ⟨_, 0, none⟩ 1 1 (cT t) rfl rfl (cells_new _ _ _) (one_cT t) (by simp [maxLen]; omega) (by omega) (by simp; omega) ?_; intro v' w5 hown' hgrow _; obtain ⟨g', cap', rfl⟩ := ownsRow_succ hown'; have b5 := HO.out.grown hBs hgrow; have HO5 := Lib.hid hown'; clear hown' hgrow)
        go_roundw
        case rel => exact ⟨k + 1, N ++ [t], some ⟨g', 0, none⟩, cap', by omega, by rw [List.length_append]; rfl, by go_num, HQ, Lib.hid (by have := HO5.out; simpa [OwnT] using this), BB.trans b5⟩
        case measure => simp [intOf]; omega
      · have HQ : Hid (N = present (M.take (k + 1))) := Lib.hid (by have := HP.out; rw [if_neg hpos, ← HN.out] at this; exact this.symm)
        go_wp2_with fail
        go_roundw
        case rel => exact ⟨k + 1, N, D, c', by omega, rfl, by go_num, HQ, HO, BB⟩
        case measure => simp [intOf]; omega
    · have hkk : k = M.length := by omega
      subst hkk
      have E : Hid (N = present M) := Lib.hid (by have := HN.out; rwa [List.take_length] at this)
      clear HN
      obtain rfl : N = present M := E.out
      clear E
      have HL := HO.out.lies
      have C := Lib.hid (makeR_any D c' (present M) hin.out (by omega) wr HL)
      clear HL HO
      go_wp2_with ((go_at_call 68; refine C.out.mono ?_; rintro e w6 ⟨E6, c6, rfl, h6, b6⟩; have H6 := Lib.hid h6; have B6 := Lib.hid b6; clear h6 b6))
      go_ret2
      exact ⟨E6, c6, rfl, H6.out, BB.trans (B6.out.mono BB.size)⟩
end Go.Proofs.Ytomekndinopoaaa.multi
namespace Go.Proofs.Ytomekndinopoaaa.multi
open Go.ChangeShapes Go.WideShapes Go.ChangeAt Go.RowKit Go.Maps Go.WideMaps
open Go.Proofs.Ytomekndinopoaaa.tm Go.Proofs.Ytomekndinopoaaa.opened Go.Proofs.Ytomekndinopoaaa.block Go.Proofs.Ytomekndinopoaaa.stamp Go.Proofs.Ytomekndinopoaaa.chain

set_option maxRecDepth 100000
theorem newR_bad (d : Int) (h : d < 0 ∨ 3 < d) (w : World) : Calls Try.prog 9 #[.int .i64 d] w fun e w' => e = .returned (.tuple #[.pointer none, .int .i64 10]) ∧ Below w.heap.size w w' := by
  by_cases h0 : d < 0
  · clear h
    go_enter Try.func9, Try.ntmps9
    go_wp2_with fail
    go_ret2
    exact ⟨rfl, Below.refl _ _⟩
  · have h1 : 3 < d := by omega
    clear h
    go_enter Try.func9, Try.ntmps9
    go_wp2_with fail
    go_ret2
    exact ⟨rfl, Below.refl _ _⟩
theorem newR_good (d : Int) (h0 : 0 ≤ d) (h1 : d ≤ 3) (w : World) : Calls Try.prog 9 #[.int .i64 d] w fun e w' => e = .returned (.tuple #[.pointer (some ⟨w.heap.size, 0, none⟩), .int .i64 0]) ∧ MulR w' w.heap.size d none 0 [] none 0 [] ∧ Below w.heap.size w w' := by
  have a0 : ¬ d < 0 := by omega
  have a1 : ¬ 3 < d := by omega
  clear h0 h1
  go_enter Try.func9, Try.ntmps9
  go_wp2_with fail
  go_ret2
  exact ⟨rfl, ⟨Whole.fresh _ _ _, .inl rfl, .inl rfl⟩, fresh1 _ _⟩
/-- Those of a list that are not in another one. -/
def withoutV (L M : List Tm) : List Tm := L.filter fun x => !(M.any fun y => eqT x y)
theorem without_more {L M : List Tm} {k : Nat} {x : Tm} (h : L[k]? = some x) : withoutV (L.take (k + 1)) M = if (M.any fun y => eqT x y) = true then withoutV (L.take k) M else withoutV (L.take k) M ++ [x] := by
  unfold withoutV
  rw [List.take_add_one, h]
  by_cases hp : (M.any fun y => eqT x y) = true <;> simp [hp]
theorem without_len (L M : List Tm) : (withoutV L M).length ≤ L.length := List.length_filter_le _ _
theorem any_more {M : List Tm} {j : Nat} {y : Tm} {p : Tm → Bool} (h : M[j]? = some y) : (M.take (j + 1)).any p = ((M.take j).any p || p y) := by
  rw [List.take_add_one, h]
  simp
theorem withoutR_any (A B : Option Addr) (c d : Nat) (L M : List Tm) (mL : L.length ≤ 4096) (mM : M.length ≤ 4611686018427387903) (w : World) (hL : Lt w A L) (hM : Lt w B M) :
    Calls Try.prog 41 #[.slice A L.length c, .slice B M.length d] w fun e w' => ∃ (D : Option Addr) (c' : Nat), e = .returned (.slice D (withoutV L M).length c') ∧ OwnT w' w.heap.size (.slice D (withoutV L M).length c') (withoutV L M) ∧ Below w.heap.size w w' := by
  have HL := Lib.hid hL
  have HM := Lib.hid hM
  clear hL hM
  obtain ⟨i0, hi, hz0, hz1, hz2⟩ := info_parts infoT
  go_enter Try.func41, Try.ntmps41
  go_wp2_with fail
  go_loopw [5, 6] (fun v s wr => ∃ (k : Nat) (N : List Tm) (D : Option Addr) (c' : Nat), k ≤ L.length ∧ v = .slice D N.length c' ∧ s = .int .i64 k ∧ Hid (N = withoutV (L.take k) M) ∧ Hid (OwnT wr w.heap.size (.slice D N.length c') N) ∧ Below w.heap.size w wr) (fun _ s _ => L.length - (intOf s).toNat)
  case atStart => exact ⟨0, [], none, 0, Nat.zero_le _, rfl, rfl, Lib.hid (by simp [withoutV]), Lib.hid (World.ownsRow_nil _ _ _ _), Below.refl _ _⟩
  case round =>
    obtain ⟨k, N, D, c', hk, rfl, rfl, HN, HO, BB⟩ := hrel
    have hNl : N.length ≤ 4096 := by
      rw [HN.out]
      have := without_len (L.take k) M
      rw [List.length_take] at this
      omega
    by_cases hlt : k < L.length
    · obtain ⟨x, hx, -⟩ := get_lt hlt
      have HX := Lib.hid hx
      have HP := Lib.hid (without_more (M := M) hx)
      clear hx
      have mLk := hlt
      go_wp2_with fail
      go_loopw [7, 8] (fun q s w2 => ∃ j : Nat, j ≤ M.length ∧ q = .bool ((M.take j).any fun y => eqT x y) ∧ s = .int .i64 j ∧ Below wr.heap.size wr w2) (fun _ s _ => M.length - (intOf s).toNat)
      case atStart => exact ⟨0, Nat.zero_le _, by simp, rfl, Below.refl _ _⟩
      case round =>
        obtain ⟨j, hj, rfl, rfl, b2⟩ := hrel
        by_cases hlj : j < M.length
        · obtain ⟨y, hy, -⟩ := get_lt hlj
          have HY := Lib.hid (any_more (p := fun y => eqT x y) hy)
          have BW := BB.trans (b2.mono BB.size)
          obtain ⟨b1, o1, hA, hb1, c0, c1, c2, c3, c4⟩ := (HL.out.below BW).at HX.out
          obtain ⟨bb, o2, hB, hb2, d0, d1, d2, d3, d4⟩ := (HM.out.below BW).at hy
          subst hA hB
          clear hy
          have HE := run_eqT x y
          obtain ⟨v, hv⟩ : ∃ v, eqT x y = v := ⟨_, rfl⟩
          rw [hv] at HE HY
          clear hv
          obtain ⟨q, hq⟩ : ∃ q, ((M.take j).any fun y => eqT x y) = q := ⟨_, rfl⟩
          rw [hq] at HY ⊢
          clear hq
          go_upto_region 9 with fail
          have s0 : ∀ y : Since wr, y.1.cell? ⟨b1, o1 + k * 5, none⟩ = some (.int .u32 x.e) := fun y => (y.2.cell hb1).trans c0
          have s1 : ∀ y : Since wr, y.1.cell? ⟨b1, o1 + k * 5 + 1, none⟩ = some (.int .i64 x.d) := fun y => (y.2.cell hb1).trans c1
          have s2 : ∀ y : Since wr, y.1.cell? ⟨b1, o1 + k * 5 + 2, none⟩ = some (.int .u32 x.a) := fun y => (y.2.cell hb1).trans c2
          have s3 : ∀ y : Since wr, y.1.cell? ⟨b1, o1 + k * 5 + 3, none⟩ = some (.int .u32 x.b) := fun y => (y.2.cell hb1).trans c3
          have s4 : ∀ y : Since wr, y.1.cell? ⟨b1, o1 + k * 5 + 4, none⟩ = some (.int .u32 x.c) := fun y => (y.2.cell hb1).trans c4
          have t0 : ∀ z : Since wr, z.1.cell? ⟨bb, o2 + j * 5, none⟩ = some (.int .u32 y.e) := fun z => (z.2.cell hb2).trans d0
          have t1 : ∀ z : Since wr, z.1.cell? ⟨bb, o2 + j * 5 + 1, none⟩ = some (.int .i64 y.d) := fun z => (z.2.cell hb2).trans d1
          have t2 : ∀ z : Since wr, z.1.cell? ⟨bb, o2 + j * 5 + 2, none⟩ = some (.int .u32 y.a) := fun z => (z.2.cell hb2).trans d2
          have t3 : ∀ z : Since wr, z.1.cell? ⟨bb, o2 + j * 5 + 3, none⟩ = some (.int .u32 y.b) := fun z => (z.2.cell hb2).trans d3
          have t4 : ∀ z : Since wr, z.1.cell? ⟨bb, o2 + j * 5 + 4, none⟩ = some (.int .u32 y.c) := fun z => (z.2.cell hb2).trans d4
          clear c0 c1 c2 c3 c4 d0 d1 d2 d3 d4
          cases q
          · refine region_since wr (by kernel_rfl) (by kernel_rfl) (Below.refl _ _) ?_
            repeat (go_big_quiet_step (fail))
            refine wpQuiet_nil ?_
            rintro w4 ⟨z, hw⟩
            have B4 := b2.trans ((hw ▸ z.2 : Below wr.heap.size wr w4).mono b2.size)
            clear hw z s0 s1 s2 s3 s4 t0 t1 t2 t3 t4 HE
            go_wp2_with fail
            go_roundw
            case rel => exact ⟨j + 1, by omega, by rw [HY.out]; rfl, by go_num, B4⟩
            case measure => simp [intOf]; omega
          · refine region_since wr (by kernel_rfl) (by kernel_rfl) (Below.refl _ _) ?_
            repeat (go_big_quiet_step (fail))
            refine wpQuiet_nil ?_
            rintro w4 ⟨z, hw⟩
            have B4 := b2.trans ((hw ▸ z.2 : Below wr.heap.size wr w4).mono b2.size)
            clear hw z s0 s1 s2 s3 s4 t0 t1 t2 t3 t4 HE
            go_wp2_with fail
            go_roundw
            case rel => exact ⟨j + 1, by omega, by rw [HY.out]; rfl, by go_num, B4⟩
            case measure => simp [intOf]; omega
        · have hjj : j = M.length := by omega
          subst hjj
          rw [List.take_length]
          have hBs := BB.size
          have HO2 := Lib.hid (HO.out.below b2)
          have BW := BB.trans (b2.mono BB.size)
          obtain ⟨b1, o1, hA, hb1, c0, c1, c2, c3, c4⟩ := (HL.out.below BW).at HX.out
          subst hA
          have hBW := BW.size
          obtain ⟨q, hq⟩ : ∃ q, (M.any fun y => eqT x y) = q := ⟨_, rfl⟩
          rw [hq] at HP ⊢
          clear hq b2 BB HO
          cases q
          · have HQ : Hid (N ++ [x] = withoutV (L.take (k + 1)) M) := Lib.hid (by have := HP.out; rw [if_neg (by simp), ← HN.out] at this; exact this.symm)
            go_wp2_with (at_builtin; refine wpList_append_own _ rfl _ _ 37 rfl w.heap.size 33 i0 (.agg #[.int .u32 T0.e, .int .i64 T0.d, .int .u32 T0.a, .int .u32 T0.b, .int .u32 T0.c]) 5 32 Try.underlying37 hi hz0 hz1 hz2 rfl (by decide) _ _ _ rfl (HO2.out.below (fresh1 wr (.cells (#[.int .u32 x.e, .int .i64 x.d, .int .u32 x.a, .int .u32 x.b, .int .u32 x.c]) 33))) ⟨_, 0, none⟩ 1 1 (cT x) rfl rfl (cells_new _ _ _) (one_cT x) (by simp [maxLen]; omega) (by omega) (by simp; omega) ?_; intro v' w5 hown' hgrow _; obtain ⟨g', cap', rfl⟩ := ownsRow_succ hown'; have b5 := HO2.out.grown hBW hgrow; have HO5 := Lib.hid hown'; clear hown' hgrow)
            go_roundw
            case rel => exact ⟨k + 1, N ++ [x], some ⟨g', 0, none⟩, cap', by omega, by rw [List.length_append]; rfl, by go_num, HQ, Lib.hid (by have := HO5.out; simpa [OwnT] using this), BW.trans b5⟩
            case measure => simp [intOf]; omega
          · have HQ : Hid (N = withoutV (L.take (k + 1)) M) := Lib.hid (by have := HP.out; rw [if_pos rfl, ← HN.out] at this; exact this.symm)
            go_wp2_with fail
            go_roundw
            case rel => exact ⟨k + 1, N, D, c', by omega, rfl, by go_num, HQ, HO2, BW⟩
            case measure => simp [intOf]; omega
    · have hkk : k = L.length := by omega
      subst hkk
      obtain rfl : N = withoutV L M := by have := HN.out; rwa [List.take_length] at this
      go_wp2_with fail
      go_ret
      exact ⟨D, c', rfl, HO.out, BB⟩
end Go.Proofs.Ytomekndinopoaaa.multi
