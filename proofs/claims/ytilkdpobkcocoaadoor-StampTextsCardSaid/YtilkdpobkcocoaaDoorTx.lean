/-
  Any time in writing, and the time of any writing: the program's answers are the document's, where the listed variables of the library start as they are laid.
-/
import Derived.Test.YtilkdpobkcocoaaDoorLift
import Derived.Test.YtilkdpobkcocoaaDoorPrR
import Derived.Test.YtilkdpobkcocoaaDoorEq
import Derived.Test.YtilkdpobkcocoaaDoorOpenT
import Derived.Test.YtilkdpobkcocoaaDoorTie
import Derived.Test.YtilkdpobkcocoaaDoorCards
import Derived.Deep.RegionHeld3
namespace Go.Proofs.YtilkdpobkcocoaaDoor.stampTexts
open Go.ChangeShapes Go.WideShapes Go.ChangeAt Go.RowKit
open Go.Proofs.YtilkdpobkcocoaaDoor.tm Go.Proofs.YtilkdpobkcocoaaDoor.opened Go.Proofs.YtilkdpobkcocoaaDoor.block Go.Proofs.YtilkdpobkcocoaaDoor.stamp

theorem parseB_any (s : ByteArray) (hs : s.size ≤ 5000) (w : World) (hE : Env w) : Calls Tryd.prog 11 #[.string s] w (GivesT (parseV s.data.toList) (parseE s.data.toList) w) := by
  have h := parse_any s.data.toList hs w hE
  rw [← str_list] at h
  exact h
set_option maxRecDepth 100000 in
set_option maxHeartbeats 2000000 in
theorem walkT (t : Tm) (s : ByteArray) (i : t.In) (_ : s.size ≤ 140737488351232) (w : World) (hE : Env w) : Calls Tryd.prog 3 #[.agg #[.int .u32 t.e, .int .i64 t.d, .int .u32 t.a, .int .u32 t.b, .int .u32 t.c], .string s] w fun e w' => e = .returned (.bool true) ∧ Below w.heap.size w w' := by
  by_cases hs : s.size ≤ 5000
  · have P := Lib.hid (parseB_any s hs)
    have PR := Lib.hid (parseR_any s hs)
    generalize parseV s.data.toList = V at P PR
    generalize parseE s.data.toList = E at P PR
    have T := Lib.hid (text_any t i)
    have TR := Lib.hid (textR_any t i)
    generalize txtV t = x at T TR
    generalize chk t = c at T TR
    clear i
    have EV := Lib.hid hE
    clear hE
    go_enter Tryd.func3, Tryd.ntmps3
    go_wp2_with fail
    refine (T.out _ (by exact EV.out.below (fresh1 _ _))).mono ?_
    rintro e w1 ⟨rfl, b1⟩
    have h1 : Whole w1 w.heap.size 25 #[.int .u32 t.e, .int .i64 t.d, .int .u32 t.a, .int .u32 t.b, .int .u32 t.c] := (Whole.fresh w _ _).below b1 (by simp)
    have v1 := over1 b1
    clear b1
    obtain ⟨tc, tf⟩ := all_of h1
    go_wp2_with fail
    refine (TR.out _).mono ?_
    rintro e w2 ⟨rfl, b2⟩
    have v2 := v1.trans (b2.mono v1.size)
    clear b2 tc tf h1 v1
    go_wp2_with fail
    refine (P.out _ (EV.out.below v2)).mono ?_
    rintro e w3 ⟨rfl, b3⟩
    have v3 := v2.trans (b3.mono v2.size)
    clear b3 v2
    go_wp2_with fail
    refine (PR.out _).mono ?_
    rintro e w4 ⟨rfl, b4⟩
    have O4 : Whole w4 w3.heap.size 25 #[.int .u32 V.e, .int .i64 V.d, .int .u32 V.a, .int .u32 V.b, .int .u32 V.c] := (Whole.fresh w3 _ _).below b4 (by simp)
    have v4 := v3.trans ((over1 b4).mono v3.size)
    clear b4 v3
    generalize w3.heap.size = m at O4 ⊢
    go_upto_region 7 with fail
    have OA := O4.alloc (.cells #[.int .u32 V.e, .int .i64 V.d, .int .u32 V.a, .int .u32 V.b, .int .u32 V.c] 25)
    have OB := Whole.fresh w4 25 #[.int .u32 V.e, .int .i64 V.d, .int .u32 V.a, .int .u32 V.b, .int .u32 V.c]
    have v5 := v4.alloc v4.size (.cells #[.int .u32 V.e, .int .i64 V.d, .int .u32 V.a, .int .u32 V.b, .int .u32 V.c] 25)
    change Code.wp _ _ _ _ (w4.alloc (.cells #[.int .u32 V.e, .int .i64 V.d, .int .u32 V.a, .int .u32 V.b, .int .u32 V.c] 25))
    clear O4 v4
    generalize w4.alloc (.cells #[.int .u32 V.e, .int .i64 V.d, .int .u32 V.a, .int .u32 V.b, .int .u32 V.c] 25) = W at OA OB v5 ⊢
    generalize w4.heap.size = m2 at OB ⊢
    have eq2 := fun W => (run_eqT V V W).trans (by rw [eqT_self])
    obtain ⟨ac, ad⟩ := all_of OA
    obtain ⟨bc, bd⟩ := all_of OB
    go_wp2_with fail
    go_ret
    exact ⟨by first | rfl | simp, v5⟩
  · clear hE i
    go_enter Tryd.func3, Tryd.ntmps3
    go_wp2_with fail
    go_ret
    exact ⟨rfl, fresh1 _ _⟩
set_option maxRecDepth 100000 in
theorem told (W : World) (args : Array Value) (hE : Env W) (h : Fed Tryd.prog W [25, 9] args) : Calls Tryd.prog 3 args W fun e W' => e = .returned (.bool true) ∧ Below W.heap.size W W' := by
  obtain ⟨v0, v1, rfl⟩ := args2 h.count
  obtain ⟨⟨_, o0⟩, r0⟩ := h.each 0 25 v0 rfl rfl
  obtain ⟨⟨_, o1⟩, r1⟩ := h.each 1 9 v1 rfl rfl
  obtain ⟨a0, q0⟩ := r0 opens_time
  obtain ⟨t0, i0, rfl⟩ := top_time o0 q0
  obtain ⟨a1, q1⟩ := r1 (opens_str Tryd.underlying9)
  obtain ⟨rfl, w1⟩ := top_str Tryd.underlying9 o1 q1
  exact walkT t0 a1 i0 w1 W hE

/-! ### The row and the card -/
set_option maxRecDepth 100000 in
theorem lifted (os : Os) (started : os.Started) (H : Type) (enc : TypeId × Value → H) :
    ReturnsInHanded {} Tryd.checked os 3 .any (fun w args => (Rows.stampTextsSpec.pre enc Tryd.prog Tryd.f3 Rows.stampTextsRow.domain false w args ∧ laidMetH Tryd.prog Rows.stampTextsRow.laid w) ∧ sizedMet enc Tryd.prog Tryd.f3 (OpenSpec.ofChange Rows.stampTextsSpec) false w args) (Rows.stampTextsSpec.post enc Tryd.prog Tryd.f3 false true false false) :=
  liftL (ts := [25, 9]) rfl started (by kernel_rfl) Tryd.func3 (by kernel_rfl) (by kernel_rfl) (by kernel_rfl) rfl
    (fun ds h => by
      match ds, h with
      | [_, _], _ => rfl)
    (ChangeSpec.witness_shaped (enc := enc) (C := Tryd.checked) (os := os) (X := fun w _ => laidMetH Tryd.prog laid7 w) false (Go.Proofs.YtilkdpobkcocoaaDoor.stamp.start os) #[.agg #[.int .u32 0, .int .i64 0, .int .u32 0, .int .u32 0, .int .u32 0], .string ByteArray.empty] 8 (World.laidAll_os _ _ _)
      (World.shaped_of_ZipB (by kernel_rfl) (by kernel_rfl)) (by kernel_rfl) (by kernel_rfl) (by kernel_rfl) (start_met os _)) told

theorem over : Rows.StampTextsSaid :=
  OpenClaim.holds_of_wide 3 Tryd.f3 rfl rfl rfl rfl rfl rfl rfl ⟨rfl, rfl, rfl, rfl, rfl⟩ rfl rfl rfl rfl rfl (by kernel_rfl) Tryd.func3 (by kernel_rfl)
    (of_decide_eq_true (by kernel_rfl)) (by unfold Func.isWrapper; first | (rw [if_pos (by decide +kernel)]; kernel_rfl) | (rw [if_neg (by decide +kernel)]; exact ⟨rfl, rfl⟩))
    (fun os started H enc _ => lifted os started H enc)

theorem proved : Rows.StampTextsCardSaid :=
  Claim7.holds_tied_plain_at .later [] [.data, .data, .data, .data, .sentinel, .sentinel, .pinned] true (true, "61b3af2180a6fdbd4a36587fcba9f14d69e69bf192a80ea1c907718273211d0a") true
    over (fun _ h => by cases h) (by kernel_rfl) (fun _ h => by cases h) stampTexts_row_tie rfl ⟨rfl, rfl⟩ (by kernel_rfl) rfl
    (fun f fn hf hfn => by
      obtain rfl : f = 3 := Option.some.inj ((show Tryd.prog.funcNamed "watershed/watershedlaw04.StampTexts" = some 3 by kernel_rfl).symm.trans hf) |>.symm
      obtain rfl : fn = Tryd.f3 := (Option.some.inj (Tryd.func3.symm.trans hfn)).symm
      exact ⟨by kernel_rfl, fun j t ht => by
        rw [Tryd.params3] at ht
        have hm : t ∈ [25, 9] := by simpa using Array.mem_of_getElem? ht
        have hall : ([25, 9].all fun u => !Tryd.prog.wantsStandIn u) = true := by kernel_rfl
        exact (show Tryd.prog.wantsStandIn t = false by simpa using List.all_eq_true.1 hall t hm)⟩)
    (by kernel_rfl)
#print axioms proved

end Go.Proofs.YtilkdpobkcocoaaDoor.stampTexts
