/-
  The contract of multi.New.
  made: a Multi of what acts add.
  works: what a Multi tells of two times.
  Rows of acts that are one's own; what acts come to does not hang on their order.
-/
import Derived.Test.YtomekndinopoaaaJMu1
import Derived.Test.YtomekndinopoaaaJOpen
import Derived.Test.YtomekndinopoaaaJMuX
import Derived.Test.YtomekndinopoaaaJMuP
import Derived.Test.YtomekndinopoaaaJMuS
import Derived.Test.YtomekndinopoaaaJMuV
import Derived.StillTailTactics
namespace Go.Proofs.Ytomekndinopoaaa.multi
open Go.ChangeShapes Go.WideShapes Go.ChangeAt Go.RowKit Go.Maps Go.WideMaps
open Go.Proofs.Ytomekndinopoaaa.tm Go.Proofs.Ytomekndinopoaaa.opened Go.Proofs.Ytomekndinopoaaa.block Go.Proofs.Ytomekndinopoaaa.stamp Go.Proofs.Ytomekndinopoaaa.chain

theorem size_alloc (w : World) (o : Obj) : (w.alloc o).heap.size = w.heap.size + 1 := Array.size_push o
theorem new_lies (w : World) (o : Obj) (d : Int) : MulP (((w.alloc o).alloc (.map #[] 0)).alloc (.cells #[.int .i64 d, .map (some (w.heap.size + 1)), .slice none 0 0] 74)) (w.heap.size + 1 + 1) d (w.heap.size + 1) none 0 [] [] := by
  have m := own_made (w.alloc o)
  have W := Whole.fresh ((w.alloc o).alloc (.map #[] 0)) 74 #[.int .i64 d, .map (some (w.heap.size + 1)), .slice none 0 0]
  rw [size_alloc] at m
  rw [size_alloc, size_alloc] at W
  exact ⟨W, m.below (fresh1 _ _) m.lt, .nil _ _, by omega, fun h0 => absurd rfl h0⟩
theorem zero_bad (d : Int) (h : d < 0 ∨ 3 < d) (w : World) : Calls Try.prog 34 #[.int .i64 d] w fun e w' => e = .returned (.tuple #[.agg #[.int .u32 0, .int .i64 0, .int .u32 0, .int .u32 0, .int .u32 0], .int .i64 10]) ∧ Below w.heap.size w w' := by
  go_enter Try.func34, Try.ntmps34
  go_wp2_with ((go_at_call 64; refine (isDepth_no _ h _).mono ?_; rintro e w' ⟨rfl, rfl⟩))
  refine bodyPost_ret (v := .tuple #[.agg #[.int .u32 0, .int .i64 0, .int .u32 0, .int .u32 0, .int .u32 0], .int .i64 10]) (by simp [results, Try.results34, go_sem]) rfl ⟨rfl, ?_⟩
  exact fresh1 _ _
theorem zero_good (d : Int) (h0 : 0 ≤ d) (h1 : d ≤ 3) (w : World) : Calls Try.prog 34 #[.int .i64 d] w fun e w' => e = .returned (.tuple #[.agg #[.int .u32 0, .int .i64 d, .int .u32 0, .int .u32 0, .int .u32 0], .int .i64 0]) ∧ Below w.heap.size w w' := by
  go_enter Try.func34, Try.ntmps34
  go_wp2_with ((go_at_call 64; refine (isDepth_yes _ (by omega) (by omega) _).mono ?_; rintro e w' ⟨rfl, rfl⟩))
  refine bodyPost_ret (v := .tuple #[.agg #[.int .u32 0, .int .i64 d, .int .u32 0, .int .u32 0, .int .u32 0], .int .i64 0]) (by simp [results, Try.results34, go_sem]) rfl ⟨rfl, ?_⟩
  exact fresh1 _ _
set_option maxRecDepth 100000 in
theorem new_bad (d : Int) (h : d < 0 ∨ 3 < d) (w : World) : Calls Try.prog 8 #[.int .i64 d] w fun e w' => e = .returned (.tuple #[.pointer none, .int .i64 10]) ∧ Below w.heap.size w w' := by
  go_enter Try.func8, Try.ntmps8
  go_wp2_with ((go_at_call 34; refine (zero_bad d h _).mono ?_; rintro e w1 ⟨rfl, b1⟩; have hb1 := Lib.hid b1; clear b1))
  refine bodyPost_ret (v := .tuple #[.pointer none, .int .i64 10]) (by simp [results, Try.results8, go_sem]) rfl ⟨rfl, ?_⟩
  exact hb1.out.alloc hb1.out.size _
set_option maxRecDepth 100000 in
theorem new_good (d : Int) (h0 : 0 ≤ d) (h1 : d ≤ 3) (w : World) : Calls Try.prog 8 #[.int .i64 d] w fun e w' => ∃ g b, e = .returned (.tuple #[.pointer (some ⟨g, 0, none⟩), .int .i64 0]) ∧ MulP w' g d b none 0 [] [] ∧ Below w.heap.size w w' ∧ w.heap.size ≤ g ∧ w.heap.size ≤ b := by
  have hmm := @run_makeMap Try.prog
  go_enter Try.func8, Try.ntmps8
  go_wp2_with ((go_at_call 34; refine (zero_good d h0 h1 _).mono ?_; rintro e w1 ⟨rfl, b1⟩; have hb1 := Lib.hid b1; clear b1))
  refine bodyPost_ret (v := .tuple #[.pointer (some ⟨w1.heap.size + 1 + 1, 0, none⟩), .int .i64 0]) (by simp [results, Try.results8, go_sem]) rfl ⟨_, w1.heap.size + 1, rfl, ?_, ?_, ?_, ?_⟩
  · exact new_lies w1 _ d
  · have := hb1.out.size
    exact ((hb1.out.alloc this _).alloc (by rw [size_alloc]; omega) _).alloc (by rw [size_alloc, size_alloc]; omega) _
  · have := hb1.out.size
    omega
  · have := hb1.out.size
    omega
end Go.Proofs.Ytomekndinopoaaa.multi
namespace Go.Proofs.Ytomekndinopoaaa.multi
open Go.ChangeShapes Go.WideShapes Go.ChangeAt Go.RowKit
open Go.Proofs.Ytomekndinopoaaa.tm Go.Proofs.Ytomekndinopoaaa.opened Go.Proofs.Ytomekndinopoaaa.block Go.Proofs.Ytomekndinopoaaa.stamp Go.Proofs.Ytomekndinopoaaa.chain

/-- The depth that acts name. -/
def depA (L : List Ac) : Int := match L with
  | [] => 0
  | a :: _ => a.t.d % 4
theorem depA_le (L : List Ac) : 0 ≤ depA L ∧ depA L ≤ 3 := by
  unfold depA
  split <;> omega
/-- What they come to. -/
def sumA (d : Int) (L : List Ac) : List TN := L.foldl (fun M a => addV d M a.t a.n) []
theorem sumA_snoc (d : Int) (L : List Ac) (a : Ac) : sumA d (L ++ [a]) = addV d (sumA d L) a.t a.n := by simp [sumA, List.foldl_append]
theorem sumA_good {d : Int} : ∀ {L : List Ac}, (∀ a ∈ L, a.In) → GoodM d (sumA d L) ∧ (sumA d L).length ≤ 4096 := by
  intro L h
  unfold sumA
  suffices ∀ (L : List Ac) (M : List TN), (∀ a ∈ L, a.In) → GoodM d M ∧ M.length ≤ 4096 → GoodM d (L.foldl (fun M a => addV d M a.t a.n) M) ∧ (L.foldl (fun M a => addV d M a.t a.n) M).length ≤ 4096 from this L [] h ⟨GoodM.nil d, by simp⟩
  intro L
  induction L with
  | nil => intro M _ h; exact h
  | cons a r ih =>
    intro M hi h
    exact ih _ (fun x hx => hi x (List.mem_cons_of_mem _ hx)) (add_good h.1 h.2 (hi a (List.mem_cons_self ..)).t a.n)
theorem add_below {w w' : World} {n₀ b : Nat} (h : w.grownBy w' (some b)) (hn : n₀ ≤ w.heap.size) (hb : n₀ ≤ b) : Below n₀ w w' := (Below.refl n₀ w).grown h hn (fun k e => by cases e; exact hb)
theorem dep_wrap (d : Int) : wrap64 ((IntKind.u64.wrap d).tmod 4) = d % 4 := by
  rw [Int.tmod_eq_emod_of_nonneg (by rw [IntKind.wrap_u64]; omega)]
  have : IntKind.u64.wrap d % 4 = d % 4 := by rw [IntKind.wrap_u64]; omega
  rw [this]
  unfold wrap64
  omega
set_option maxRecDepth 100000 in
set_option maxHeartbeats 4000000 in
theorem made_any (A : Option Addr) (c : Nat) (L : List Ac) (iL : ∀ a ∈ L, a.In) (mL : L.length ≤ 4611686018427387903) (w : World) (h : La w A L) :
    Calls Try.prog 29 #[.slice A L.length c] w fun e w' => ∃ g b, e = .returned (.pointer (some ⟨g, 0, none⟩)) ∧ MulP w' g (depA L) b none 0 [] (sumA (depA L) (L.take 60)) ∧ Below w.heap.size w w' := by
  have H := Lib.hid h
  have hdep := depA_le L
  have hN := Lib.hid (fun W => new_good (depA L) hdep.1 hdep.2 W)
  clear h
  cases L with
  | nil =>
    change Hid (∀ W, Calls _ _ #[.int .i64 0] _ _) at hN
    clear hdep H
    go_enter Try.func29, Try.ntmps29
    go_wp2_with ((go_at_call 8; refine (hN.out _).mono ?_; rintro e w1 ⟨g, b, rfl, h1, b1, -, -⟩; have H1 := Lib.hid h1; have B1 := Lib.hid b1; clear h1 b1))
    go_loopw [6] (fun v wr => v = .int .i64 0 ∧ wr = w1) (fun _ _ => 0)
    case atStart => exact ⟨rfl, rfl⟩
    case round =>
      obtain ⟨rfl, rfl⟩ := hrel
      go_wp2_with fail
      go_ret
      exact ⟨g, b, rfl, H1.out, B1.out⟩
  | cons a r =>
    generalize hL : a :: r = L at *
    have h0 : L[0]? = some a := by rw [← hL]; rfl
    have hl0 : 0 < L.length := by rw [← hL]; simp
    have hdp : Hid (depA L = a.t.d % 4) := Lib.hid (by rw [← hL]; rfl)
    clear hL
    generalize depA L = dp at *
    have ia := iL a (List.mem_of_getElem? h0)
    obtain ⟨b0, o0, hA, hb0, c0, c1, c2, c3, c4, c5, c6⟩ := H.out.at h0
    subst hA
    clear h0 c0 c1 c3 c4 c5 c6
    have i1 := ia.t.d0
    have i2 := ia.t.d1
    clear ia
    go_enter Try.func29, Try.ntmps29
    go_upto_region 4 with fail
    rw [dep_wrap, ← hdp.out]
    clear c2
    go_wp2_with ((go_at_call 8; refine (hN.out _).mono ?_; rintro e w1 ⟨g, b, rfl, h1, b1, hg1, hb1⟩; have H1 := Lib.hid h1; have B1 := Lib.hid b1; have HG := Lib.hid (And.intro hg1 hb1); clear h1 b1 hg1 hb1))
    go_loopw [6] (fun v wr => ∃ k : Nat, k ≤ L.length ∧ k ≤ 60 ∧ v = .int .i64 k ∧ Hid (MulP wr g dp b none 0 [] (sumA dp (L.take k))) ∧ Below w.heap.size w wr) (fun v _ => 60 - (intOf v).toNat)
    case atStart => exact ⟨0, Nat.zero_le _, Nat.zero_le _, rfl, Lib.hid (by simpa [sumA] using H1.out), B1.out⟩
    case round =>
      obtain ⟨k, hk, hk6, rfl, HM, BB⟩ := hrel
      by_cases hlt : k < L.length
      · by_cases h6 : k < 60
        · obtain ⟨x, hx⟩ : ∃ x, L[k]? = some x := ⟨L[k], List.getElem?_eq_getElem hlt⟩
          have hs : Hid (sumA dp (L.take (k + 1)) = addV dp (sumA dp (L.take k)) x.t x.n) := Lib.hid (by rw [List.take_add_one, hx]; exact sumA_snoc dp (L.take k) x)
          have HGD := Lib.hid (sumA_good (d := dp) (L := L.take k) (fun y hy => iL y (List.mem_of_mem_take hy)))
          have ix := (iL x (List.mem_of_getElem? hx)).t
          have hbd : Below w.heap.size w wr.drew := BB.drew
          obtain ⟨b2, o2, hA2, hb2, d0, d1, d2, d3, d4, d5, d6⟩ := (H.out.below hbd).at hx
          simp only [Option.some.injEq, Addr.mk.injEq, and_true] at hA2
          obtain ⟨rfl, rfl⟩ := hA2
          have HMD := Lib.hid (HM.out.below (Below.refl _ wr).drew)
          have CA := Lib.hid (add_any x.t ix x.n HGD.out.1 HGD.out.2 wr.drew HMD.out)
          have hss := BB.size
          go_upto_region 8 with fail
          go_still_tail 11, (by kernel_rfl)
          change wpList _ _ _ _ _ wr.drew
          go_wp2_with ((go_at_call 10; refine CA.out.mono ?_; rintro e w7 ⟨rfl, h7, g7⟩; have H7 := Lib.hid h7; have B7 := Lib.hid (hbd.trans (add_below g7 hss HG.out.2)); clear h7 g7))
          go_roundw
          case rel => exact ⟨k + 1, by omega, by omega, by go_num, by rw [hs.out]; exact H7, B7.out⟩
          case measure => simp [intOf]; omega
        · obtain rfl : k = 60 := by omega
          go_wp2_with fail
          go_ret
          exact ⟨g, b, rfl, HM.out, BB⟩
      · obtain rfl : k = L.length := by omega
        go_wp2_with fail
        go_ret
        refine ⟨g, b, rfl, ?_, BB⟩
        have := HM.out
        rw [List.take_length] at this
        rw [List.take_of_length_le hk6]
        exact this
end Go.Proofs.Ytomekndinopoaaa.multi
namespace Go.Proofs.Ytomekndinopoaaa.multi
open Go.ChangeShapes Go.WideShapes Go.ChangeAt Go.RowKit
open Go.Proofs.Ytomekndinopoaaa.tm Go.Proofs.Ytomekndinopoaaa.opened Go.Proofs.Ytomekndinopoaaa.block Go.Proofs.Ytomekndinopoaaa.stamp Go.Proofs.Ytomekndinopoaaa.chain

abbrev t1 : Tm := ⟨1, 0, 0, 0, 0⟩
abbrev tz : Tm := ⟨0, 0, 0, 0, 0⟩
abbrev tq : Tm := ⟨0, 1, 0, 0, 0⟩
theorem i1 : t1.In := by constructor <;> decide
theorem iz : tz.In := by constructor <;> decide
theorem iq : tq.In := by constructor <;> decide
theorem g0 : GoodM 0 [] := GoodM.nil 0
theorem v1 : addV 0 [] t1 1 = [(t1, 1)] := by decide
theorem v2 : addV 0 [(t1, 1)] tz 2 = [(tz, 2), (t1, 1)] := by decide
theorem v3 : addV 0 [(tz, 2), (t1, 1)] tz (-2) = [(t1, 1)] := by decide
theorem v4 : addV 0 [(t1, 1)] tq 1 = [(t1, 1)] := by decide
theorem e1 : addE 0 [] t1 1 = 0 := by decide
theorem e2 : addE 0 [(t1, 1)] tz 2 = 0 := by decide
theorem e3 : addE 0 [(tz, 2), (t1, 1)] tz (-2) = 0 := by decide
theorem e4 : addE 0 [(t1, 1)] tq 1 = 10 := by decide
theorem g1 : GoodM 0 [(t1, 1)] := by rw [← v1]; exact (add_good g0 (by decide) i1 1).1
theorem g2 : GoodM 0 [(tz, 2), (t1, 1)] := by rw [← v2]; exact (add_good g1 (by decide) iz 2).1
theorem me2 : makeE (present [(tz, 2), (t1, 1)]) (inP g2) = 0 := by rw [← (ref_make _ _).1]; decide
theorem mv2 : makeV (present [(tz, 2), (t1, 1)]) (inP g2) = [tz] := by rw [← (ref_make _ _).2]; decide
theorem me1 : makeE (present [(t1, 1)]) (inP g1) = 0 := by rw [← (ref_make _ _).1]; decide
theorem mv1 : makeV (present [(t1, 1)]) (inP g1) = [t1] := by rw [← (ref_make _ _).2]; decide
theorem w1 : withoutV [] [tz] = [] := by decide
theorem w2 : withoutV [tz] [] = [tz] := by decide
theorem w3 : withoutV [tz] [t1] = [tz] := by decide
theorem w4 : withoutV [t1] [tz] = [t1] := by decide
theorem c1 {g b c : Nat} {A : Option Addr} {L : List Tm} (W : World) (h : MulP W g 0 b A c L []) : Calls Try.prog 10 #[.pointer (some ⟨g, 0, none⟩), .agg #[.int .u32 t1.e, .int .i64 t1.d, .int .u32 t1.a, .int .u32 t1.b, .int .u32 t1.c], .int .i64 (1)] W fun e w' => e = .returned (.int .i64 0) ∧ MulP w' g 0 b A c L [(t1, 1)] ∧ W.grownBy w' (some b) := by
  have := add_any t1 i1 (1) g0 (by decide) W h
  rwa [e1, v1] at this
theorem c2 {g b c : Nat} {A : Option Addr} {L : List Tm} (W : World) (h : MulP W g 0 b A c L [(t1, 1)]) : Calls Try.prog 10 #[.pointer (some ⟨g, 0, none⟩), .agg #[.int .u32 tz.e, .int .i64 tz.d, .int .u32 tz.a, .int .u32 tz.b, .int .u32 tz.c], .int .i64 (2)] W fun e w' => e = .returned (.int .i64 0) ∧ MulP w' g 0 b A c L [(tz, 2), (t1, 1)] ∧ W.grownBy w' (some b) := by
  have := add_any tz iz (2) g1 (by decide) W h
  rwa [e2, v2] at this
theorem c3 {g b c : Nat} {A : Option Addr} {L : List Tm} (W : World) (h : MulP W g 0 b A c L [(tz, 2), (t1, 1)]) : Calls Try.prog 10 #[.pointer (some ⟨g, 0, none⟩), .agg #[.int .u32 tz.e, .int .i64 tz.d, .int .u32 tz.a, .int .u32 tz.b, .int .u32 tz.c], .int .i64 (-2)] W fun e w' => e = .returned (.int .i64 0) ∧ MulP w' g 0 b A c L [(t1, 1)] ∧ W.grownBy w' (some b) := by
  have := add_any tz iz (-2) g2 (by decide) W h
  rwa [e3, v3] at this
theorem c4 {g b c : Nat} {A : Option Addr} {L : List Tm} (W : World) (h : MulP W g 0 b A c L [(t1, 1)]) : Calls Try.prog 10 #[.pointer (some ⟨g, 0, none⟩), .agg #[.int .u32 tq.e, .int .i64 tq.d, .int .u32 tq.a, .int .u32 tq.b, .int .u32 tq.c], .int .i64 (1)] W fun e w' => e = .returned (.int .i64 10) ∧ MulP w' g 0 b A c L [(t1, 1)] ∧ W.grownBy w' (some b) := by
  have := add_any tq iq (1) g1 (by decide) W h
  rwa [e4, v4] at this
theorem lt_shape {W : World} {D : Option Addr} {t : Tm} (h : Lt W D [t]) : ∃ b o, D = some ⟨b, o, none⟩ := by
  obtain ⟨b, o, h, -⟩ := h.at (k := 0) (t := t) rfl
  exact ⟨b, o, h⟩
theorem m1 {g b c : Nat} {A : Option Addr} (W : World) (h : MulP W g 0 b A c [] [(tz, 2), (t1, 1)]) : Calls Try.prog 12 #[.pointer (some ⟨g, 0, none⟩)] W fun e w' => ∃ D1 c1 p q c2 B c', e = .returned (.tuple #[.slice D1 0 c1, .slice (some ⟨p, q, none⟩) 1 c2, .int .i64 0]) ∧ Lt w' (some ⟨p, q, none⟩) [tz] ∧ MulP w' g 0 b B c' [tz] [(tz, 2), (t1, 1)] ∧ W.grownBy w' (some g) := by
  have := moves_good g2 (by decide) (by decide) me2 W h
  rw [mv2, w1, w2] at this
  refine this.mono ?_
  rintro e w' ⟨D1, c1, D2, c2, B, c', he, -, h2, h3, h4⟩
  obtain ⟨p, q, rfl⟩ := lt_shape h2
  exact ⟨D1, c1, p, q, c2, B, c', he, h2, h3, h4⟩
theorem m2 {g b c : Nat} {A : Option Addr} (W : World) (h : MulP W g 0 b A c [tz] [(t1, 1)]) : Calls Try.prog 12 #[.pointer (some ⟨g, 0, none⟩)] W fun e w' => ∃ p1 q1 c1 p q c2 B c', e = .returned (.tuple #[.slice (some ⟨p1, q1, none⟩) 1 c1, .slice (some ⟨p, q, none⟩) 1 c2, .int .i64 0]) ∧ Lt w' (some ⟨p1, q1, none⟩) [tz] ∧ Lt w' (some ⟨p, q, none⟩) [t1] ∧ MulP w' g 0 b B c' [t1] [(t1, 1)] ∧ W.grownBy w' (some g) := by
  have := moves_good g1 (by decide) (by decide) me1 W h
  rw [mv1, w3, w4] at this
  refine this.mono ?_
  rintro e w' ⟨D1, c1, D2, c2, B, c', he, h1, h2, h3, h4⟩
  obtain ⟨p, q, rfl⟩ := lt_shape h2
  obtain ⟨p1, q1, rfl⟩ := lt_shape h1
  exact ⟨p1, q1, c1, p, q, c2, B, c', he, h1, h2, h3, h4⟩
theorem k1 {g b c : Nat} {A : Option Addr} {L : List Tm} (W : World) (h : MulP W g 0 b A c L [(t1, 1)]) : Calls Try.prog 17 #[.pointer (some ⟨g, 0, none⟩), .agg #[.int .u32 t1.e, .int .i64 t1.d, .int .u32 t1.a, .int .u32 t1.b, .int .u32 t1.c]] W fun e w' => e = .returned (.int .i64 1) ∧ Below W.heap.size W w' := count_any t1 i1 g1 W h
theorem k2 {g b c : Nat} {A : Option Addr} {L : List Tm} (W : World) (h : MulP W g 0 b A c L [(t1, 1)]) : Calls Try.prog 17 #[.pointer (some ⟨g, 0, none⟩), .agg #[.int .u32 tz.e, .int .i64 tz.d, .int .u32 tz.a, .int .u32 tz.b, .int .u32 tz.c]] W fun e w' => e = .returned (.int .i64 0) ∧ Below W.heap.size W w' := count_any tz iz g1 W h
theorem l1 {g b c : Nat} {A : Option Addr} {L : List Tm} (W : World) (h : MulP W g 0 b A c L [(t1, 1)]) : Calls Try.prog 32 #[.pointer (some ⟨g, 0, none⟩)] W fun e w' => ∃ B c', e = .returned (.slice B 1 c') ∧ Below W.heap.size W w' := by
  refine (all_any g1 (by decide) W h).mono ?_
  rintro e w' ⟨B, c', he, -, hb⟩
  exact ⟨B, c', he, hb⟩
theorem lt_cells {W : World} {p q : Nat} {t : Tm} (h : Lt W (some ⟨p, q, none⟩) [t]) : W.cell? ⟨p, q, none⟩ = some (.int .u32 t.e) ∧ W.cell? ⟨p, q + 1, none⟩ = some (.int .i64 t.d) ∧ W.cell? ⟨p, q + 2, none⟩ = some (.int .u32 t.a) ∧ W.cell? ⟨p, q + 3, none⟩ = some (.int .u32 t.b) ∧ W.cell? ⟨p, q + 4, none⟩ = some (.int .u32 t.c) := by
  obtain ⟨b, o, hA, -, h⟩ := h.at (k := 0) (t := t) rfl
  simp only [Option.some.injEq, Addr.mk.injEq, and_true] at hA
  obtain ⟨rfl, rfl⟩ := hA
  simpa using h
/-- Where the walk stands. -/
structure Sta (w W : World) (g b z c : Nat) (A : Option Addr) (L : List Tm) (M : List TN) : Prop where
  m : MulP W g 0 b A c L M
  zz : Whole W z 33 #[.int .u32 tz.e, .int .i64 tz.d, .int .u32 tz.a, .int .u32 tz.b, .int .u32 tz.c]
  oo : Whole W (z + 1) 33 #[.int .u32 t1.e, .int .i64 t1.d, .int .u32 t1.a, .int .u32 t1.b, .int .u32 t1.c]
  below : Below w.heap.size w W
  hg : w.heap.size ≤ g
  hb : w.heap.size ≤ b
  gz : g < z
  bz : b < z
section
variable {w W W' : World} {g b z c c' : Nat} {A B : Option Addr} {L F : List Tm} {M N : List TN}
theorem Sta.turned (h : Sta w W g b z c A L M) (m : MulP W' g 0 b B c' F N) {k : Nat} (hk : W.grownBy W' (some k)) (hw : w.heap.size ≤ k) (hz : k < z) : Sta w W' g b z c' B F N :=
  ⟨m, h.zz.grown hk (by simp; omega), h.oo.grown hk (by simp; omega), h.below.trans (add_below hk h.below.size hw), h.hg, h.hb, h.gz, h.bz⟩
theorem Sta.add (h : Sta w W g b z c A L M) (m : MulP W' g 0 b B c' F N) (hk : W.grownBy W' (some b)) : Sta w W' g b z c' B F N := h.turned m hk h.hb h.bz
theorem Sta.moves (h : Sta w W g b z c A L M) (m : MulP W' g 0 b B c' F N) (hk : W.grownBy W' (some g)) : Sta w W' g b z c' B F N := h.turned m hk h.hg h.gz
theorem Sta.later (h : Sta w W g b z c A L M) (hb : Below W.heap.size W W') : Sta w W' g b z c A L M :=
  ⟨h.m.below hb, h.zz.below hb h.zz.inside, h.oo.below hb h.oo.inside, h.below.trans (hb.mono h.below.size), h.hg, h.hb, h.gz, h.bz⟩
theorem Sta.rowA (h : Sta w W g b z c A L M) {D : Option Addr} {R : List Tm} (l : Lt W D R) (hk : W.grownBy W' (some b)) : Lt W' D R := lt_turned l hk fun h0 ad e => (far_of h.m.cells h.m.own l h0 ad e).1
theorem Sta.rowM (h : Sta w W g b z c A L M) {D : Option Addr} {R : List Tm} (l : Lt W D R) (hk : W.grownBy W' (some g)) : Lt W' D R := lt_turned l hk fun h0 ad e => (far_of h.m.cells h.m.own l h0 ad e).2
end
theorem add_deep {g b c : Nat} {d : Int} {A : Option Addr} {L : List Tm} {M : List TN} (t : Tm) (i : t.In) (n : Int) (hk : chk t = 0) (hd : t.d ≠ d) (w : World) (h : MulP w g d b A c L M) :
    Calls Try.prog 10 #[.pointer (some ⟨g, 0, none⟩), .agg #[.int .u32 t.e, .int .i64 t.d, .int .u32 t.a, .int .u32 t.b, .int .u32 t.c], .int .i64 n] w fun e w' => e = .returned (.int .i64 10) ∧ Below w.heap.size w w' := by
  have H := Lib.hid h
  clear h
  have hC := Lib.hid (check_any t i)
  rw [hk] at hC
  have hT := Lib.hid (Whole.fresh w 33 (#[.int .u32 t.e, .int .i64 t.d, .int .u32 t.a, .int .u32 t.b, .int .u32 t.c]))
  go_enter Try.func10, Try.ntmps10
  go_upto_region 4 with ((go_at_call 35; refine (hC.out _).mono ?_; rintro e w1 ⟨rfl, b1⟩; have hb1 := Lib.hid b1; have hB := Lib.hid (Below.trans (fresh1 w (.cells (#[.int .u32 t.e, .int .i64 t.d, .int .u32 t.a, .int .u32 t.b, .int .u32 t.c]) 33)) (b1.mono (fresh1 w _).size)); have hT1 := Lib.hid (hT.out.below b1 hT.out.inside); clear b1))
  have hH := Lib.hid (H.out.below hB.out)
  have t1 : w1.drew.cell? ⟨w.heap.size, 1, none⟩ = some (.int .i64 t.d) := hT1.out.read 1
  have u1 : w1.drew.frozen? ⟨w.heap.size, 1, none⟩ = false := hT1.out.soft 1
  have c0 : w1.drew.cell? ⟨g, 0, none⟩ = some (.int .i64 d) := hH.out.cells.read 0
  have f0 : w1.drew.frozen? ⟨g, 0, none⟩ = false := hH.out.cells.soft 0
  go_region
  go_wp2_with fail
  go_ret
  exact ⟨rfl, hB.out.drew⟩
theorem c4b {g b c : Nat} {A : Option Addr} {L : List Tm} {M : List TN} (W : World) (h : MulP W g 0 b A c L M) : Calls Try.prog 10 #[.pointer (some ⟨g, 0, none⟩), .agg #[.int .u32 tq.e, .int .i64 tq.d, .int .u32 tq.a, .int .u32 tq.b, .int .u32 tq.c], .int .i64 1] W fun e w' => e = .returned (.int .i64 10) ∧ Below W.heap.size W w' := add_deep tq iq 1 (by decide) (by decide) W h
end Go.Proofs.Ytomekndinopoaaa.multi
namespace Go.Proofs.Ytomekndinopoaaa.multi
open Go.ChangeShapes Go.WideShapes Go.ChangeAt Go.RowKit Go.Maps Go.WideMaps
open Go.Proofs.Ytomekndinopoaaa.tm Go.Proofs.Ytomekndinopoaaa.opened Go.Proofs.Ytomekndinopoaaa.block Go.Proofs.Ytomekndinopoaaa.stamp Go.Proofs.Ytomekndinopoaaa.chain

abbrev A0 : Ac := ⟨0, T0, 0⟩
theorem infoA (T : TypeId) (h : (Try.prog.info? T).map (fun i => (i.zero, i.size, i.bytes)) = some (some (.agg (cA A0).toArray), 7, 48)) : ∃ i, Try.prog.info? T = some i ∧ i.zero = some (.agg (cA A0).toArray) ∧ i.size = 7 ∧ i.bytes = 48 := by
  rw [Option.map_eq_some_iff] at h
  obtain ⟨i, hi, he⟩ := h
  simp only [Prod.mk.injEq] at he
  exact ⟨i, hi, he.1, he.2.1, he.2.2⟩
theorem infoA1 : (Try.prog.info? 35).map (fun i => (i.zero, i.size, i.bytes)) = some (some (.agg (cA A0).toArray), 7, 48) := by kernel_rfl
/-- A slice of pairs that is one's own. -/
abbrev OwnA (T : TypeId) (w : World) (base : Nat) (v : Value) (N : List Ac) : Prop := w.ownsRow base T 7 v N.length (N.flatMap cA)
theorem flatA_len (N : List Ac) : (N.flatMap cA).length = N.length * 7 := by
  induction N with
  | nil => rfl
  | cons x r ih => rw [List.flatMap_cons, List.length_append, ih, List.length_cons]; have : (cA x).length = 7 := rfl; omega
theorem flatA_at (N : List Ac) : ∀ (i : Nat) (y : Ac) (j : Nat), N[i]? = some y → j < 7 → (N.flatMap cA)[i * 7 + j]? = (cA y)[j]? := by
  induction N with
  | nil => intro i y j h; simp at h
  | cons x r ih =>
    intro i y j h hj
    have h5 : (cA x).length = 7 := rfl
    rw [List.flatMap_cons]
    cases i with
    | zero =>
      simp at h
      subst h
      rw [List.getElem?_append_left (by rw [h5]; omega)]
      simp
    | succ i =>
      rw [List.getElem?_append_right (by rw [h5]; omega), h5, show (i + 1) * 7 + j - 7 = i * 7 + j by omega]
      exact ih i y j (by simpa using h) hj
theorem one_cA (p : Ac) : ∀ v ∈ cA p, v.oneCell' = true := by
  intro v hv
  simp [cA] at hv
  rcases hv with rfl | rfl | rfl | rfl | rfl | rfl | rfl <;> rfl
theorem one_flatA (N : List Ac) : ∀ v ∈ N.flatMap cA, v.oneCell' = true := by
  intro v hv
  obtain ⟨t, -, h⟩ := List.mem_flatMap.1 hv
  exact one_cA t v h
section
variable {T : TypeId}
theorem OwnA.lies {w : World} {base : Nat} {A : Option Addr} {n c : Nat} {N : List Ac} (h : OwnA T w base (.slice A n c) N) : La w A N := by
  rcases h.2 with ⟨-, hn⟩ | ⟨g, cap, cur, hv, hb, hg, hc, hcm, hs, ht⟩
  · rw [List.eq_nil_of_length_eq_zero hn]; exact .inl rfl
  · injection hv with h1 h2 h3
    subst h1
    refine .inr ⟨g, 0, rfl, (Array.getElem?_eq_some_iff.1 hg).1, fun i x hx => ?_⟩
    rw [List.getElem?_map, Option.map_eq_some_iff] at hx
    obtain ⟨y, hy, rfl⟩ := hx
    refine ⟨rfl, fun j hj => ?_⟩
    have e := flatA_at N i y j hy hj
    have hi := (List.getElem?_eq_some_iff.1 hy).1
    rw [← ht, List.getElem?_take, if_pos (by omega), Array.getElem?_toList] at e
    rw [← e]
    simp [World.cell?, hg]
theorem OwnA.below {w w' : World} {base : Nat} {v : Value} {N : List Ac} (h : OwnA T w base v N) (hb : Below w.heap.size w w') : OwnA T w' base v N := by
  refine ⟨h.1, ?_⟩
  rcases h.2 with hn | ⟨g, cap, cur, hv, hg0, hg, rest⟩
  · exact .inl hn
  · exact .inr ⟨g, cap, cur, hv, hg0, (hb.block g (Array.getElem?_eq_some_iff.1 hg).1).trans hg, rest⟩
theorem OwnA.grown {W w1 : World} {base : Nat} {v : Value} {N : List Ac} {tmp : Obj} (h : OwnA T W base v N) (hb0 : base ≤ W.heap.size) (hg : (W.alloc tmp).grownBy w1 v.ownBlock) : Below base W w1 :=
  ((Below.refl base W).alloc hb0 tmp).grown hg (by simp; omega) fun j ej => by
    rcases h.2 with ⟨rfl, _⟩ | ⟨g, cap, cur, rfl, hb, _, _⟩
    · simp [Value.ownBlock] at ej
    · obtain rfl : g = j := by simpa [Value.ownBlock] using ej
      exact hb
/-- Its block is none that is newer. -/
theorem OwnA.away {w : World} {base gz : Nat} {v : Value} {N : List Ac} (h : OwnA T w base v N) (hz : w.heap.size ≤ gz) : some gz ≠ v.ownBlock := by
  rcases h.2 with ⟨rfl, _⟩ | ⟨g, cap, cur, rfl, hb, hg, _⟩
  · simp [Value.ownBlock]
  · have := (Array.getElem?_eq_some_iff.1 hg).1
    simp [Value.ownBlock]
    omega
theorem OwnA.succ {W : World} {base k : Nat} {v : Value} {xs : List Value} (h : W.ownsRow base T 7 v (k + 1) xs) : ∃ g cap, v = .slice (some ⟨g, 0, none⟩) (k + 1) cap := by
  rcases h.2 with ⟨-, h0⟩ | ⟨g, cap, cur, hv, -⟩
  · omega
  · exact ⟨g, cap, hv⟩
theorem ownA_nil (w : World) (base : Nat) : OwnA T w base (.slice none 0 0) [] := World.ownsRow_nil _ _ _ _
end
/-! ### The order does not matter -/
theorem pairs_ext : ∀ {M N : List TN}, M.Pairwise (fun p q => numT p.1 < numT q.1) → N.Pairwise (fun p q => numT p.1 < numT q.1) → (∀ p, p ∈ M ↔ p ∈ N) → M = N
  | [], [], _, _, _ => rfl
  | [], q :: s, _, _, h => by have := (h q).2 (by simp); simp at this
  | p :: r, [], _, _, h => by have := (h p).1 (by simp); simp at this
  | p :: r, q :: s, h1, h2, h => by
    have a1 := List.pairwise_cons.1 h1
    have a2 := List.pairwise_cons.1 h2
    have e : p = q := by
      have u := (h p).1 (by simp)
      have v := (h q).2 (by simp)
      rcases List.mem_cons.1 u with e | u
      · exact e
      rcases List.mem_cons.1 v with e | v
      · exact e.symm
      have := a1.1 q v
      have := a2.1 p u
      omega
    subst e
    rw [pairs_ext a1.2 a2.2 fun x => ?_]
    have hx := h x
    have n1 : x ∈ r → x ≠ p := fun hm e => by have := a1.1 x hm; rw [e] at this; omega
    have n2 : x ∈ s → x ≠ p := fun hm e => by have := a2.1 x hm; rw [e] at this; omega
    constructor
    · intro hm
      rcases List.mem_cons.1 (hx.1 (List.mem_cons_of_mem _ hm)) with e | u
      · exact absurd e (n1 hm)
      · exact u
    · intro hm
      rcases List.mem_cons.1 (hx.2 (List.mem_cons_of_mem _ hm)) with e | u
      · exact absurd e (n2 hm)
      · exact u
theorem good_ext {d : Int} {M N : List TN} (G : GoodM d M) (H : GoodM d N) (h : ∀ t, countM M t = countM N t) : M = N := by
  refine pairs_ext G.srt H.srt fun p => ?_
  constructor
  · intro hm
    have e := count_mem G.srt hm
    have n := (G.num p hm).1
    rw [h] at e
    have := count_at H p.1 (by rw [e]; exact n)
    rw [e] at this
    exact this
  · intro hm
    have e := count_mem H.srt hm
    have n := (H.num p hm).1
    rw [← h] at e
    have := count_at G p.1 (by rw [e]; exact n)
    rw [e] at this
    exact this
/-- What an act adds to a time's number. -/
def oneA (d : Int) (t : Tm) (a : Ac) : Int := if a.t = t ∧ chk t = 0 ∧ t.d = d then a.n else 0
def totA (d : Int) (t : Tm) : List Ac → Int
  | [] => 0
  | a :: r => oneA d t a + totA d t r
theorem tot_append (d : Int) (t : Tm) : ∀ L K : List Ac, totA d t (L ++ K) = totA d t L + totA d t K
  | [], K => by simp [totA]
  | a :: r, K => by rw [List.cons_append, totA, totA, tot_append d t r K]; omega
theorem tot_reverse (d : Int) (t : Tm) : ∀ L : List Ac, totA d t L.reverse = totA d t L
  | [] => rfl
  | a :: r => by rw [List.reverse_cons, tot_append, tot_reverse d t r, totA, totA, totA]; omega
theorem tot_bound (d : Int) (t : Tm) : ∀ L : List Ac, (∀ a ∈ L, -1073741824 ≤ a.n ∧ a.n ≤ 1073741824) → -(1073741824 * (L.length : Int)) ≤ totA d t L ∧ totA d t L ≤ 1073741824 * (L.length : Int)
  | [], _ => by simp [totA]
  | a :: r, h => by
    have h1 := tot_bound d t r fun x hx => h x (List.mem_cons_of_mem _ hx)
    have h2 := h a (List.mem_cons_self ..)
    rw [totA, List.length_cons]
    unfold oneA
    split <;> omega
/-- Acts whose numbers are small are never refused: each time's number is their sum. -/
theorem sum_tot {d : Int} : ∀ (n : Nat) (L : List Ac), L.length = n → n ≤ 100 → (∀ a ∈ L, a.In) → (∀ a ∈ L, -1073741824 ≤ a.n ∧ a.n ≤ 1073741824) → GoodM d (sumA d L) ∧ (sumA d L).length ≤ n ∧ ∀ t, countM (sumA d L) t = totA d t L
  | 0, L, hl, _, _, _ => by
    obtain rfl := List.eq_nil_of_length_eq_zero hl
    exact ⟨GoodM.nil d, by simp [sumA], fun t => rfl⟩
  | n + 1, L, hl, hn, hi, hb => by
    rcases List.eq_nil_or_concat L with rfl | ⟨K, a, rfl⟩
    · simp at hl
    have hl' : K.length = n := by simpa using hl
    obtain ⟨G, hk, hc⟩ := sum_tot (d := d) n K hl' (by omega) (fun x hx => hi x (by simp [hx])) (fun x hx => hb x (by simp [hx]))
    have hK := tot_bound d a.t K fun x hx => hb x (by simp [hx])
    have ha := hb a (by simp)
    have ia := (hi a (by simp)).t
    have hlen : (K.length : Int) ≤ 99 := by omega
    have hct := hc a.t
    rw [List.concat_eq_append, sumA_snoc]
    have key : ∀ t, totA d t (K ++ [a]) = totA d t K + oneA d t a := fun t => by rw [tot_append]; simp [totA]
    by_cases h1 : chk a.t ≠ 0
    · have e : addV d (sumA d K) a.t a.n = sumA d K := by unfold addV; rw [if_pos h1]
      rw [e]
      refine ⟨G, by omega, fun t => ?_⟩
      rw [key, hc]
      unfold oneA
      rw [if_neg (by rintro ⟨rfl, h, -⟩; exact h1 h)]
      omega
    by_cases h2 : a.t.d ≠ d
    · have e : addV d (sumA d K) a.t a.n = sumA d K := by unfold addV; rw [if_neg h1, if_pos h2]
      rw [e]
      refine ⟨G, by omega, fun t => ?_⟩
      rw [key, hc]
      unfold oneA
      rw [if_neg (by rintro ⟨rfl, -, h⟩; exact h2 h)]
      omega
    have h1' : chk a.t = 0 := by omega
    have h2' : a.t.d = d := by omega
    have e : addV d (sumA d K) a.t a.n = putM (sumA d K) a.t (countM (sumA d K) a.t + a.n) := by
      unfold addV setV
      rw [if_neg h1, if_neg h2, if_neg (by omega), if_neg (by omega)]
    rw [e]
    have G' := put_good G ia h1' h2' (n := countM (sumA d K) a.t + a.n) (by omega) (by omega)
    refine ⟨G', ?_, fun t => ?_⟩
    · by_cases hz : countM (sumA d K) a.t + a.n = 0
      · rw [hz, (putM_zero G.inn ia).length_eq]
        have := List.length_filter_le (fun p : TN => !decide (p.1 = a.t)) (sumA d K)
        omega
      · rw [put_len G ia hz]
        split <;> omega
    · rw [count_put G ia _ t G', key]
      unfold oneA
      by_cases ht : t = a.t
      · subst ht
        rw [if_pos rfl, if_pos ⟨rfl, h1', h2'⟩, hc]
      · rw [if_neg ht, if_neg (fun h => ht h.1.symm), hc]
        omega
/-- What is asked the other way round. -/
def backA (m : List Ac) : List Ac := (match m with | [] => [] | a :: _ => [⟨0, a.t, 0⟩]) ++ m.reverse
theorem dep_back (m : List Ac) : depA (backA m) = depA m := by
  cases m with
  | nil => rfl
  | cons a r => rfl
theorem back_in {m : List Ac} (h : ∀ a ∈ m, a.In) : ∀ a ∈ backA m, a.In := by
  intro x hx
  unfold backA at hx
  rcases List.mem_append.1 hx with h1 | h1
  · cases m with
    | nil => simp at h1
    | cons a r =>
      obtain rfl : x = ⟨0, a.t, 0⟩ := by simpa using h1
      have := h a (List.mem_cons_self ..)
      exact ⟨by simp, by simp, this.t, by simp, by simp⟩
  · exact h x (List.mem_reverse.1 h1)
theorem back_len (m : List Ac) : (backA m).length ≤ m.length + 1 := by
  cases m <;> simp [backA]
theorem any_how {m : List Ac} (hl : m.length ≤ 60) (hi : ∀ a ∈ m, a.In) (hb : ∀ a ∈ m, -1073741824 ≤ a.n ∧ a.n ≤ 1073741824) : sumA (depA m) (backA m) = sumA (depA m) m := by
  have hB : ∀ a ∈ backA m, -1073741824 ≤ a.n ∧ a.n ≤ 1073741824 := by
    intro x hx
    unfold backA at hx
    rcases List.mem_append.1 hx with h1 | h1
    · cases m with
      | nil => simp at h1
      | cons a r =>
        obtain rfl : x = ⟨0, a.t, 0⟩ := by simpa using h1
        simp
    · exact hb x (List.mem_reverse.1 h1)
  obtain ⟨G1, -, c1⟩ := sum_tot (d := depA m) _ m rfl (by omega) hi hb
  obtain ⟨G2, -, c2⟩ := sum_tot (d := depA m) _ (backA m) rfl (by have := back_len m; omega) (back_in hi) hB
  refine good_ext G2 G1 fun t => ?_
  rw [c1, c2]
  unfold backA
  rw [tot_append, tot_reverse]
  cases m with
  | nil => simp [totA]
  | cons a r => simp [totA, oneA]
end Go.Proofs.Ytomekndinopoaaa.multi
