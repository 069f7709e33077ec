/-
  The frontier of any times, what is wrong with any list, whether it holds any time: the program's answers are the document's, and the list stays as it is; no condition.
-/
import Derived.Test.YtmepiogoofmbbaaCkR
import Derived.Test.YtmepiogoofmbbaaOnw
import Derived.Test.YtmepiogoofmbbaaLeC
import Derived.Test.YtmepiogoofmbbaaOpL
import Derived.Test.YtmepiogoofmbbaaRows
namespace Go.Proofs.Ytmepiogoofmbbaa.chainMakes
open Go.ChangeShapes Go.WideShapes Go.ChangeAt Go.RowKit
open Go.Proofs.Ytmepiogoofmbbaa.tm Go.Proofs.Ytmepiogoofmbbaa.opened Go.Proofs.Ytmepiogoofmbbaa.block Go.Proofs.Ytmepiogoofmbbaa.stamp Go.Proofs.Ytmepiogoofmbbaa.chain

set_option maxRecDepth 100000 in
set_option maxHeartbeats 1000000 in
theorem walk (A : Option Addr) (c : Nat) (L : List Tm) (iL : InL L) (mL : L.length ≤ 4611686018427387903) (hc : L.length ≤ c) (t : Tm) (it : t.In) (w : World) (hL : Lt w A L) :
    Calls Try.prog 3 #[.slice A L.length c, .agg #[.int .u32 t.e, .int .i64 t.d, .int .u32 t.a, .int .u32 t.b, .int .u32 t.c]] w fun e W' => e = .returned (.bool true) ∧ Below w.heap.size w W' := by
  have h0 := fresh1 w (.cells #[.int .u32 t.e, .int .i64 t.d, .int .u32 t.a, .int .u32 t.b, .int .u32 t.c] 26)
  have O := Whole.fresh w 26 #[.int .u32 t.e, .int .i64 t.d, .int .u32 t.a, .int .u32 t.b, .int .u32 t.c]
  have HL := Lib.hid (hL.below h0)
  have GR := great_any A c L.length mL
  by_cases hg : 200 < L.length
  · rw [decide_eq_true hg] at GR
    have GR := Lib.hid GR
    clear hL hg
    go_enter Try.func3, Try.ntmps3
    go_wp2_with fail
    refine (GR.out _).mono ?_
    rintro e w1 ⟨rfl, rfl⟩
    go_wp2_with fail
    go_ret
    exact ⟨rfl, h0⟩
  · rw [decide_eq_false hg] at GR
    have GR := Lib.hid GR
    have CO := Lib.hid (own_any A c L (by omega) hc)
    have CM := Lib.hid (fun B c' => make_any B c' L iL mL)
    have CR := Lib.hid (makeR_any A c L iL mL)
    have mV := makeV_len L iL
    have S1 := Lib.hid (fun B c' D d w => same_self B D c' d (makeV L iL) (by omega) w)
    have K1 := Lib.hid (fun B c' => check_chain B c' L iL mL)
    have K2 := Lib.hid (checkR_any A c L iL mL)
    have H1 := Lib.hid (fun B c' => holds_any B c' L t it iL mL)
    have H2 := Lib.hid (holdsR_any A c L t it iL mL)
    have S2 := Lib.hid (fun B c' w => same_self B A c' c L mL w)
    generalize makeE L iL = m at CM CR
    generalize makeV L iL = V at CM CR S1 mV
    generalize checkE L iL = k at K1 K2
    generalize holdsB L t = hb at H1 H2
    clear hL hg iL it mV
    go_enter Try.func3, Try.ntmps3
    go_upto_region 1 with fail
    change Code.wp _ _ _ _ (w.alloc (.cells #[.int .u32 t.e, .int .i64 t.d, .int .u32 t.a, .int .u32 t.b, .int .u32 t.c] 26))
    generalize w.alloc (.cells #[.int .u32 t.e, .int .i64 t.d, .int .u32 t.a, .int .u32 t.b, .int .u32 t.c] 26) = W at h0 O HL ⊢
    have hz : w.heap.size ≤ W.heap.size := h0.size
    generalize hgw : w.heap.size = g at h0 O hz ⊢
    go_wp2_with fail
    refine (GR.out _).mono ?_
    rintro e w1 ⟨rfl, rfl⟩
    go_wp2_with fail
    refine (CO.out _ HL.out).mono ?_
    rintro e w2 ⟨B, c2, rfl, h2, b2⟩
    have HM := Lib.hid h2.lies
    clear h2
    go_wp2_with fail
    refine (CM.out _ _ _ HM.out).mono ?_
    rintro e w3 ⟨D, c3, rfl, h3, b3⟩
    have HD := Lib.hid h3
    clear h3
    go_wp2_with fail
    refine (CR.out _ ((HL.out.below b2).below b3)).mono ?_
    rintro e w4 ⟨D2, c4, rfl, h4, b4⟩
    have HD2 := Lib.hid h4
    clear h4
    have b23 := b2.trans (b3.mono b2.size)
    have b24 := b23.trans (b4.mono b23.size)
    have HL4 := Lib.hid (HL.out.below b24)
    have HM4 := Lib.hid ((HM.out.below b3).below b4)
    have HD4 := Lib.hid (HD.out.below b4)
    have O4 := O.below b24 O.inside
    have hB := h0.trans (b24.mono hz)
    have hz4 : g ≤ w4.heap.size := Nat.le_trans hz b24.size
    clear HL HM HD h0 b2 b3 b4 b23 b24 O CO CM CR GR
    go_wp2_with fail
    have c1 : ∀ (x : Since w4) (i : Nat), x.1.cell? ⟨g, i, none⟩ = _ := fun x i => (O4.below x.2 O4.inside).read i
    have F1 := fun x : Since w4 => S1.out D c3 D2 c4 x.1 (HD4.out.below x.2) (HD2.out.below x.2)
    have F2 := fun x : Since w4 => S2.out B c2 x.1 (HM4.out.below x.2) (HL4.out.below x.2)
    have F3 := fun x : Since w4 => K1.out B c2 x.1 (HM4.out.below x.2)
    have F4 := fun x : Since w4 => K2.out x.1 (HL4.out.below x.2)
    have F5 := fun x : Since w4 => H1.out B c2 x.1 (HM4.out.below x.2)
    have F6 := fun x : Since w4 => H2.out x.1 (HL4.out.below x.2)
    refine region_since w4 (by kernel_rfl) (by kernel_rfl) (Below.refl _ _) ?_
    repeat (go_big_quiet_step (first
      | (go_at_call 15; first | with_reducible exact since_callS F1 _ | with_reducible exact since_callS F2 _)
      | (go_at_call 16; with_reducible exact since_callS F3 _)
      | (go_at_call 17; with_reducible exact since_callS F4 _)
      | (go_at_call 18; with_reducible exact since_callS F5 _)
      | (go_at_call 19; with_reducible exact since_callS F6 _)))
    refine wpQuiet_nil ?_
    rintro w5 ⟨x, hw⟩
    have B5 : Below w4.heap.size w4 w5 := hw ▸ x.2
    clear hw x c1
    go_wp2_with fail
    go_ret
    exact ⟨by first | rfl | simp, by rw [hgw]; exact hB.trans (B5.mono hz4)⟩
set_option maxRecDepth 100000 in
theorem told (W : World) (args : Array Value) (h : Fed Try.prog W [22, 26] args) : Calls Try.prog 3 args W fun e W' => e = .returned (.bool true) ∧ Below W.heap.size W W' := by
  obtain ⟨v0, v1, rfl⟩ := args2 h.count
  obtain ⟨⟨_, o0⟩, r0⟩ := h.each 0 22 v0 rfl rfl
  obtain ⟨⟨_, o1⟩, r1⟩ := h.each 1 26 v1 rfl rfl
  obtain ⟨a0, q0⟩ := r0 opens_times
  obtain ⟨A0, c0, L0, rfl, iL0, hL0, hc0, mL0⟩ := top_times o0 q0
  obtain ⟨a1, q1⟩ := r1 opens_time
  obtain ⟨t1, i1, rfl⟩ := top_time o1 q1
  exact walk A0 c0 L0 iL0 mL0 hc0 t1 i1 W hL0

/-! ### The row -/
theorem own : ownKnob Try.prog.godebug = none := by kernel_rfl
theorem laidOut : laidOutB Try.prog = true := by kernel_rfl
set_option maxRecDepth 100000 in
theorem lifted (os : Os) (started : os.Started) (H : Type) (enc : TypeId × Value → H) :
    ReturnsInHanded {} Try.checked os 3 .any (Rows.chainMakesSpec.pre6 enc Try.prog Try.f3 Rows.chainMakesRow.domain false) (Rows.chainMakesSpec.post enc Try.prog Try.f3 false true false false) :=
  lift (C := Try.checked) (fn := Try.f3) (tb := 4) (ts := [22, 26]) own started (by kernel_rfl) Try.func3 laidOut (by kernel_rfl) (by kernel_rfl) (by kernel_rfl) Try.underlying4 rfl
    (fun ds h => by
      match ds, h with
      | [_, _], _ => rfl)
    (ChangeSpec.witness6 (enc := enc) (C := Try.checked) false ⟨#[], #[.slice none 0 0, .agg #[.int .u32 0, .int .i64 0, .int .u32 0, .int .u32 0, .int .u32 0]], []⟩ 8 (by kernel_rfl) (by kernel_rfl) (by kernel_rfl) (by kernel_rfl)) told

theorem over : Rows.chainMakesRow.holds Try.pinned (OpenSpec.ofChange Rows.chainMakesSpec) :=
  OpenClaim.holds_of_wide 3 Try.f3 rfl rfl rfl rfl rfl rfl rfl ⟨rfl, rfl, rfl, rfl, rfl⟩ rfl rfl rfl rfl rfl (by kernel_rfl) Try.func3 (by kernel_rfl)
    (of_decide_eq_true (by kernel_rfl)) (by unfold Func.isWrapper; first | (rw [if_pos (by decide +kernel)]; kernel_rfl) | (rw [if_neg (by decide +kernel)]; exact ⟨rfl, rfl⟩))
    (fun os started H enc _ => lifted os started H enc)

theorem proved : Rows.ChainMakesSaid := over
#print axioms proved
end Go.Proofs.Ytmepiogoofmbbaa.chainMakes

