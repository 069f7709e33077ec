/-
  The contract of chain.minimal.
  The contract of chain.Make.
-/
import Derived.Test.YtomekndinopoaaaJVb
import Derived.Test.YtomekndinopoaaaJOw
import Derived.WalkMore
namespace Go.Proofs.Ytomekndinopoaaa.chain
open Go.ChangeShapes Go.WideShapes Go.ChangeAt Go.RowKit Go.Shelf Go.Sort
open Go.Proofs.Ytomekndinopoaaa.tm Go.Proofs.Ytomekndinopoaaa.opened Go.Proofs.Ytomekndinopoaaa.block Go.Proofs.Ytomekndinopoaaa.stamp

/-- Those kept, and one time more: unless one of them is not behind it. -/
def keep (K : List Tm) (t : Tm) : List Tm := if K.any (fun k => leB k t) then K else K ++ [t]
/-- The minimal ones, up to the first one too many. -/
def minF : List Tm → List Tm → List Tm
  | [], K => K
  | t :: r, K => if 64 < (keep K t).length then keep K t else minF r (keep K t)
theorem drop_at {L : List Tm} {k : Nat} {t : Tm} (hk : L[k]? = some t) : L.drop k = t :: L.drop (k + 1) := by
  obtain ⟨h, rfl⟩ := List.getElem?_eq_some_iff.1 hk
  exact List.drop_eq_getElem_cons h
theorem min_skip {L K M : List Tm} {k : Nat} {t : Tm} (hk : L[k]? = some t) (h : K.any (fun k => leB k t) = true) (hK : K.length ≤ 64) (e : minF (L.drop k) K = M) : minF (L.drop (k + 1)) K = M := by
  rw [drop_at hk] at e
  simp only [minF, keep, h, if_true] at e
  rwa [if_neg (by omega)] at e
theorem min_add {L K M : List Tm} {k : Nat} {t : Tm} (hk : L[k]? = some t) (h : K.any (fun k => leB k t) = false) (hK : K.length + 1 ≤ 64) (e : minF (L.drop k) K = M) : minF (L.drop (k + 1)) (K ++ [t]) = M := by
  rw [drop_at hk] at e
  simp only [minF, keep, h] at e
  simp only [Bool.false_eq_true, if_false] at e
  rwa [if_neg (by simp; omega)] at e
theorem min_full {L K M : List Tm} {k : Nat} {t : Tm} (hk : L[k]? = some t) (h : K.any (fun k => leB k t) = false) (hK : 64 < K.length + 1) (e : minF (L.drop k) K = M) : K ++ [t] = M := by
  rw [drop_at hk] at e
  simp only [minF, keep, h] at e
  simp only [Bool.false_eq_true, if_false] at e
  rwa [if_pos (by simp; omega)] at e
theorem min_end {L K M : List Tm} (e : minF (L.drop L.length) K = M) : K = M := by
  rwa [List.drop_length] at e
theorem any_none {K : List Tm} {t : Tm} (h : ∀ y ∈ K, leB y t = false) : K.any (fun k => leB k t) = false := by
  rw [List.any_eq_false]
  exact fun y hy => by simp [h y hy]
theorem more_p {L : List Tm} {k : Nat} {t : Tm} {p : Tm → Prop} (hk : L[k]? = some t) (h : ∀ y ∈ L.take k, p y) (ht : p t) : ∀ y ∈ L.take (k + 1), p y := by
  rw [List.take_add_one, hk]
  intro y hy
  rcases List.mem_append.1 hy with h1 | h1
  · exact h y h1
  · simp at h1; subst h1; exact ht
theorem in_snoc {K : List Tm} {t : Tm} (h : InL K) (i : t.In) : InL (K ++ [t]) := by
  intro y hy
  rcases List.mem_append.1 hy with h1 | h1
  · exact h y h1
  · simp at h1; subst h1; exact i
/-- The function value that minimal makes: is a time that was kept not behind this one? -/
theorem below1 (x t : Tm) (ix : x.In) (i : t.In) (g : Nat) (W : World) (O : Whole W g 33 #[.int .u32 t.e, .int .i64 t.d, .int .u32 t.a, .int .u32 t.b, .int .u32 t.c]) : Calls Try.prog 98 #[.agg #[.int .u32 x.e, .int .i64 x.d, .int .u32 x.a, .int .u32 x.b, .int .u32 x.c], .pointer (some ⟨g, 0, none⟩)] W fun e w' => e = .returned (.bool (leB x t)) ∧ Below W.heap.size W w' := by
  have LE := Lib.hid (le_any x t ix i)
  have hB := (fresh1 W (.cells #[.int .u32 x.e, .int .i64 x.d, .int .u32 x.a, .int .u32 x.b, .int .u32 x.c] 33))
  have O := O.alloc (.cells #[.int .u32 x.e, .int .i64 x.d, .int .u32 x.a, .int .u32 x.b, .int .u32 x.c] 33)
  have O2 := Whole.fresh W 33 #[.int .u32 x.e, .int .i64 x.d, .int .u32 x.a, .int .u32 x.b, .int .u32 x.c]
  go_enter Try.func98, Try.ntmps98
  go_upto_region 1 with fail
  change Code.wp _ _ _ _ (W.alloc (.cells #[.int .u32 x.e, .int .i64 x.d, .int .u32 x.a, .int .u32 x.b, .int .u32 x.c] 33))
  have hz : W.heap.size ≤ (W.alloc (.cells #[.int .u32 x.e, .int .i64 x.d, .int .u32 x.a, .int .u32 x.b, .int .u32 x.c] 33)).heap.size := by simp
  generalize W.alloc (.cells #[.int .u32 x.e, .int .i64 x.d, .int .u32 x.a, .int .u32 x.b, .int .u32 x.c] 33) = W2 at O O2 hB hz ⊢
  generalize hm : W.heap.size = m at O2 hz hB ⊢
  obtain ⟨oc, of⟩ := path.all_of O
  obtain ⟨pc, pf⟩ := path.all_of O2
  go_wp2_with fail
  refine (LE.out _).mono ?_
  rintro e w4 ⟨rfl, b4⟩
  go_wp2_with fail
  go_ret
  exact ⟨rfl, by rw [hm]; exact hB.trans (b4.mono hz)⟩
set_option maxRecDepth 100000 in
theorem minimal_any (A : Option Addr) (c : Nat) (L : List Tm) (iL : InL L) (mL : L.length ≤ 4096) (w : World) (hL : Lt w A L) :
    Calls Try.prog 85 #[.slice A L.length c] w fun e W' => ∃ B c', e = .returned (.slice B (minF L []).length c') ∧ OwnT W' w.heap.size (.slice B (minF L []).length c') (minF L []) ∧ Below w.heap.size w W' := by
  have HL := Lib.hid hL
  obtain ⟨i0, hi, hz0, hz1, hz2⟩ := info_parts infoT
  go_enter Try.func85, Try.ntmps85
  go_wp2_with fail
  go_step3
  go_wp2_with fail
  go_step3
  go_wp2_with fail
  go_loopw [3, 11] (fun kp s wr => ∃ (k : Nat) (K : List Tm) (B : Option Addr) (c' : Nat), k ≤ L.length ∧ kp = .slice B K.length c' ∧ s = .int .i64 k ∧ Hid (OwnT wr w.heap.size (.slice B K.length c') K) ∧ Hid (minF (L.drop k) K = minF L []) ∧ K.length ≤ 64 ∧ Hid (InL K) ∧ Below w.heap.size w wr) (fun _ s _ => L.length - (intOf s).toNat)
  case atStart => exact ⟨0, [], none, 0, Nat.zero_le _, rfl, rfl, Lib.hid (World.ownsRow_nil _ _ _ _), Lib.hid rfl, by simp, Lib.hid (by intro t h; simp at h), Below.refl _ _⟩
  case round =>
    obtain ⟨k, K, B, c', hk, rfl, rfl, HO, HN, hK, IK, hb0⟩ := hrel
    by_cases hlt : k < L.length
    · obtain ⟨x, hx, hm⟩ := get_lt hlt
      obtain ⟨b, off, hA, hb, c0, c1, c2, c3, c4⟩ := (HL.out.below hb0).at hx
      subst hA
      have HX := Lib.hid hx
      have ix := Lib.hid (iL x hm)
      have O := Whole.fresh wr 33 #[.int .u32 x.e, .int .i64 x.d, .int .u32 x.a, .int .u32 x.b, .int .u32 x.c]
      have HO1 := Lib.hid (HO.out.below (fresh1 wr (.cells #[.int .u32 x.e, .int .i64 x.d, .int .u32 x.a, .int .u32 x.b, .int .u32 x.c] 33)))
      have hb1 := hb0.alloc hb0.size (.cells #[.int .u32 x.e, .int .i64 x.d, .int .u32 x.a, .int .u32 x.b, .int .u32 x.c] 33)
      clear hx hm HO
      go_wp2_with fail
      clear c0 c1 c2 c3 c4 hb hb0
      have hz : wr.heap.size < (wr.alloc (.cells #[.int .u32 x.e, .int .i64 x.d, .int .u32 x.a, .int .u32 x.b, .int .u32 x.c] 33)).heap.size := by simp
      generalize wr.alloc (.cells #[.int .u32 x.e, .int .i64 x.d, .int .u32 x.a, .int .u32 x.b, .int .u32 x.c] 33) = W1 at O HO1 hb1 hz ⊢
      generalize wr.heap.size = g at O hz ⊢
      have HKL := Lib.hid HO1.out.lies
      have HOx := Lib.hid O
      clear O
      go_loopw [18] (fun s w2 => ∃ j : Nat, j ≤ K.length ∧ s = .int .i64 j ∧ Hid (∀ y ∈ K.take j, leB y x = false) ∧ Below W1.heap.size W1 w2) (fun s _ => K.length - (intOf s).toNat)
      case atStart => exact ⟨0, Nat.zero_le _, rfl, Lib.hid (by simp), Below.refl _ _⟩
      case round =>
        obtain ⟨j, hj, rfl, HJ, b2⟩ := hrel
        by_cases hlj : j < K.length
        · obtain ⟨y, hy, hm⟩ := get_lt hlj
          obtain ⟨b', off', hA, hb', d0, d1, d2, d3, d4⟩ := (HKL.out.below b2).at hy
          subst hA
          have HY := Lib.hid hy
          have C := Lib.hid (below1 y x (IK.out y hm) ix.out g)
          obtain ⟨v, hv⟩ : ∃ v, leB y x = v := ⟨_, rfl⟩
          rw [hv] at C
          have HV := Lib.hid hv
          clear hv hy hm
          have B2 := b2.alloc b2.size (.cells #[.int .u32 y.e, .int .i64 y.d, .int .u32 y.a, .int .u32 y.b, .int .u32 y.c] 33)
          go_wp2_with fail
          refine (C.out _ (HOx.out.below B2 hz)).mono ?_
          rintro e w4 ⟨rfl, b4⟩
          have B4 : Below W1.heap.size W1 w4 := B2.trans (b4.mono B2.size)
          clear b4 d0 d1 d2 d3 d4 hb' b2 B2
          cases v
          · go_wp2_with fail
            go_roundw
            case rel => exact ⟨j + 1, by omega, by go_num, Lib.hid (more_p HY.out HJ.out HV.out), B4⟩
            case measure => simp [intOf]; omega
          · go_wp2_with fail
            go_roundw
            case rel => exact ⟨k + 1, K, _, c', by omega, rfl, by go_num, Lib.hid (HO1.out.below B4), Lib.hid (min_skip HX.out (any_at HY.out HV.out) hK HN.out), hK, IK, hb1.trans (B4.mono hb1.size)⟩
            case measure => simp [intOf]; omega
        · have hjj : j = K.length := by omega
          have HF : Hid (∀ y ∈ K, leB y x = false) := Lib.hid (by have := HJ.out; rwa [hjj, List.take_length] at this)
          subst hjj
          have HO2 := Lib.hid (HO1.out.below b2)
          have hb2 := hb1.trans (b2.mono hb1.size)
          obtain ⟨xc, xf⟩ := path.all_of (HOx.out.below b2 hz)
          clear HJ HO1 HKL b2 hb1 HOx
          by_cases hfull : K.length + 1 ≤ 64
          · go_wp2_with (at_builtin; refine wpList_append_own _ rfl _ _ 37 rfl w.heap.size 33 i0 (.agg #[.int .u32 T0.e, .int .i64 T0.d, .int .u32 T0.a, .int .u32 T0.b, .int .u32 T0.c]) 5 32 Try.underlying37 hi hz0 hz1 hz2 rfl (by decide) _ _ _ rfl (HO2.out.alloc _) ⟨_, 0, none⟩ 1 1 (cT x) rfl rfl (cells_new _ _ _) (one_cT x) (by simp [maxLen]; omega) (by omega) (by have := hb2.size; simp; omega) ?_; intro v' w5 hown' hgrow _; obtain ⟨g', cap', rfl⟩ := ownsRow_succ hown'; have b5 := HO2.out.grown hb2.size hgrow; have HO5 := Lib.hid hown'; clear hown' hgrow)
            go_roundw
            case rel => exact ⟨k + 1, K ++ [x], some ⟨g', 0, none⟩, cap', by omega, by simp, by go_num, Lib.hid (by have := HO5.out; simpa [OwnT] using this), Lib.hid (min_add HX.out (any_none HF.out) hfull HN.out), by simp; omega, Lib.hid (in_snoc IK.out ix.out), hb2.trans b5⟩
            case measure => simp [intOf]; omega
          · go_wp2_with (at_builtin; refine wpList_append_own _ rfl _ _ 37 rfl w.heap.size 33 i0 (.agg #[.int .u32 T0.e, .int .i64 T0.d, .int .u32 T0.a, .int .u32 T0.b, .int .u32 T0.c]) 5 32 Try.underlying37 hi hz0 hz1 hz2 rfl (by decide) _ _ _ rfl (HO2.out.alloc _) ⟨_, 0, none⟩ 1 1 (cT x) rfl rfl (cells_new _ _ _) (one_cT x) (by simp [maxLen]; omega) (by omega) (by have := hb2.size; simp; omega) ?_; intro v' w5 hown' hgrow _; obtain ⟨g', cap', rfl⟩ := ownsRow_succ hown'; have b5 := HO2.out.grown hb2.size hgrow; have HO5 := Lib.hid hown'; clear hown' hgrow)
            have E := Lib.hid (min_full HX.out (any_none HF.out) (by omega) HN.out)
            rw [Exit.noGoto_ret]
            go_ret
            exact ⟨some ⟨g', 0, none⟩, cap', by rw [← E.out]; simp, by rw [← E.out]; have := HO5.out; simpa [OwnT] using this, hb2.trans b5⟩
    · have hkk : k = L.length := by omega
      subst hkk
      have E := Lib.hid (min_end HN.out)
      clear HN
      go_wp2_with fail
      rw [Exit.noGoto_ret]
      go_ret
      exact ⟨B, c', by rw [← E.out]; rfl, by rw [← E.out]; exact HO.out, hb0⟩
end Go.Proofs.Ytomekndinopoaaa.chain
namespace Go.Proofs.Ytomekndinopoaaa.chain
open Go.ChangeShapes Go.WideShapes Go.ChangeAt Go.RowKit Go.Shelf Go.Sort
open Go.Proofs.Ytomekndinopoaaa.tm Go.Proofs.Ytomekndinopoaaa.opened Go.Proofs.Ytomekndinopoaaa.block Go.Proofs.Ytomekndinopoaaa.stamp

theorem in_srt (L : List Tm) (h : InL L) : InL (srtL L h) := by
  intro t ht
  unfold srtL at ht
  obtain ⟨x, -, rfl⟩ := List.mem_map.1 ht
  exact x.2
/-- What Make keeps, if nothing is wrong. -/
def makeS (L : List Tm) (h : InL L) : List Tm := minF (srtL L h) []
/-- What Make says is wrong. -/
def makeE (L : List Tm) (h : InL L) : Int := if 4096 < L.length then 7 else if timesE L ≠ 0 then timesE L else if 64 < (makeS L h).length then 7 else 0
/-- What Make answers. -/
def makeV (L : List Tm) (h : InL L) : List Tm := if makeE L h = 0 then makeS L h else []
theorem make_long {L : List Tm} (h : InL L) (hl : 4096 < L.length) : makeE L h = 7 ∧ makeV L h = [] := by
  have e : makeE L h = 7 := by unfold makeE; rw [if_pos hl]
  exact ⟨e, by unfold makeV; rw [if_neg (by rw [e]; decide)]⟩
theorem make_bad {L : List Tm} (h : InL L) (hl : ¬ 4096 < L.length) (ht : timesE L ≠ 0) : makeE L h = timesE L ∧ makeV L h = [] := by
  have e : makeE L h = timesE L := by unfold makeE; rw [if_neg hl, if_pos ht]
  exact ⟨e, by unfold makeV; rw [if_neg (by rw [e]; exact ht)]⟩
theorem make_many {L : List Tm} (h : InL L) (hl : ¬ 4096 < L.length) (ht : timesE L = 0) (hs : 64 < (makeS L h).length) : makeE L h = 7 ∧ makeV L h = [] := by
  have e : makeE L h = 7 := by unfold makeE; rw [if_neg hl, if_neg (by rw [ht]; simp), if_pos hs]
  exact ⟨e, by unfold makeV; rw [if_neg (by rw [e]; decide)]⟩
theorem make_ok {L : List Tm} (h : InL L) (hl : ¬ 4096 < L.length) (ht : timesE L = 0) (hs : ¬ 64 < (makeS L h).length) : makeE L h = 0 ∧ makeV L h = makeS L h := by
  have e : makeE L h = 0 := by unfold makeE; rw [if_neg hl, if_neg (by rw [ht]; simp), if_neg hs]
  exact ⟨e, by unfold makeV; rw [if_pos e]⟩
set_option maxRecDepth 100000 in
theorem make_any (A : Option Addr) (c : Nat) (L : List Tm) (iL : InL L) (mL : L.length ≤ 4611686018427387903) (w : World) (hL : Lt w A L) :
    Calls Try.prog 63 #[.slice A L.length c] w fun e W' => ∃ B c', e = .returned (.tuple #[.slice B (makeV L iL).length c', .int .i64 (makeE L iL)]) ∧ Lt W' B (makeV L iL) ∧ Below w.heap.size w W' := by
  have HL := Lib.hid hL
  have CT := Lib.hid (checkTimes_any A c L iL mL)
  by_cases hl : 4096 < L.length
  · obtain ⟨e1, e2⟩ := make_long iL hl
    rw [e1, e2]
    clear e1 e2 hL
    go_enter Try.func63, Try.ntmps63
    go_wp2
    go_ret2
    exact ⟨none, 0, rfl, Lt.nil _ _, Below.refl _ _⟩
  · by_cases ht : timesE L = 0
    · have SF := Lib.hid (fun (W : World) (hW : Lt W A L) => sortedFunc_any W.heap.size A c L iL (by omega) (W.alloc (.cells #[.slice A L.length c] 37)) (by simp) (Boxed.new W 37 _).cell (hW.below (fresh1 W _)))
      have MI := Lib.hid (fun B c' => minimal_any B c' (srtL L iL) (in_srt L iL) (by rw [srtL_len]; omega))
      rw [srtL_len] at MI
      change Hid (∀ (B : Option Addr) (c' : Nat) (W : World), _ → Calls _ _ _ _ fun e W' => ∃ D d, e = .returned (.slice D (makeS L iL).length d) ∧ OwnT W' W.heap.size (.slice D (makeS L iL).length d) (makeS L iL) ∧ _) at MI
      rw [ht] at CT
      by_cases hs : 64 < (makeS L iL).length
      · obtain ⟨e1, e2⟩ := make_many iL hl ht hs
        rw [e1, e2]
        clear e1 e2 hL ht
        go_enter Try.func63, Try.ntmps63
        go_wp2_with fail
        refine (CT.out _ HL.out).mono ?_
        rintro e w1 ⟨rfl, b1⟩
        go_wp2_with fail
        refine (values_call _ _ _ _).mono ?_
        rintro e w2 ⟨rfl, rfl⟩
        go_wp2_with fail
        refine (SF.out w1 (HL.out.below b1)).mono ?_
        rintro e w3 ⟨B, c3, rfl, h3, b3⟩
        have h3 := Lib.hid h3
        go_wp2_with fail
        refine (MI.out B c3 w3 h3.out).mono ?_
        rintro e w4 ⟨D, d, rfl, h4, b4⟩
        have h4 := Lib.hid h4
        go_wp2_with fail
        go_ret2
        exact ⟨none, 0, rfl, Lt.nil _ _, b1.trans (((fresh1 w1 (.cells #[.slice A L.length c] 37)).trans ((b3.trans (b4.mono b3.size)).mono (by simp))).mono b1.size)⟩
      · obtain ⟨e1, e2⟩ := make_ok iL hl ht hs
        rw [e1, e2]
        clear e1 e2 hL ht
        go_enter Try.func63, Try.ntmps63
        go_wp2_with fail
        refine (CT.out _ HL.out).mono ?_
        rintro e w1 ⟨rfl, b1⟩
        go_wp2_with fail
        refine (values_call _ _ _ _).mono ?_
        rintro e w2 ⟨rfl, rfl⟩
        go_wp2_with fail
        refine (SF.out w1 (HL.out.below b1)).mono ?_
        rintro e w3 ⟨B, c3, rfl, h3, b3⟩
        have h3 := Lib.hid h3
        go_wp2_with fail
        refine (MI.out B c3 w3 h3.out).mono ?_
        rintro e w4 ⟨D, d, rfl, h4, b4⟩
        have h4 := Lib.hid h4
        go_wp2_with fail
        go_ret2
        exact ⟨D, d, rfl, h4.out.lies, b1.trans (((fresh1 w1 (.cells #[.slice A L.length c] 37)).trans ((b3.trans (b4.mono b3.size)).mono (by simp))).mono b1.size)⟩
    · obtain ⟨e1, e2⟩ := make_bad iL hl ht
      rw [e1, e2]
      clear e1 e2 hL
      generalize timesE L = t at CT ht ⊢
      go_enter Try.func63, Try.ntmps63
      go_wp2_with fail
      refine (CT.out _ HL.out).mono ?_
      rintro e w1 ⟨rfl, b1⟩
      go_wp2_with fail
      go_ret2
      exact ⟨none, 0, rfl, Lt.nil _ _, b1⟩
end Go.Proofs.Ytomekndinopoaaa.chain
