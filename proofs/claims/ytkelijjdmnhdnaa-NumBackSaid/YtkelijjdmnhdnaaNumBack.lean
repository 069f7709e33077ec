/-
  For every two 32-bit numbers a sum does not hang on the order, is not less than its parts, and is taken back by Sub; no condition.
-/
import Derived.Test.YtkelijjdmnhdnaaRows
import Derived.WalkKit
import Derived.ProofKit
import Derived.OpenShut
import Derived.Test.YtkelijjdmnhdnaaNum
import Derived.Test.YtkelijjdmnhdnaaWorks
namespace Go.Proofs.Ytkelijjdmnhdnaa.numBack
open Go.Proofs.Ytkelijjdmnhdnaa.num
open Go.ChangeShapes Go.WideShapes Go.ChangeAt Go.RowKit
set_option linter.unusedVariables false      -- a walk need not use every 'w<i>' (that an integer argument fits its kind)

theorem own : ownKnob Try.prog.godebug = none := by kernel_rfl

/-! ### STEP 1: THE WALK: the Go text returns true. 'Grown w w'': the world has at most new blocks (Derived/RowKit3.lean). Part the cases AHEAD of 'go_enter' where a test parts the walk; take each callee by a contract of your own. -/
theorem addV_comm (a b : Int) : addV a b = addV b a := by unfold addV; split <;> split <;> omega
theorem addE_comm (a b : Int) : addE a b = addE b a := by unfold addE; split <;> split <;> (try split) <;> (try split) <;> omega
theorem add_ok (a b : Int) (la : 0 ≤ a) (ha : a ≤ 4294967295) (lb : 0 ≤ b) (hb : b ≤ 4294967295) (ca : a ≤ 1048576) (cb : b ≤ 1048576) (cc : a + b ≤ 1048576) (w : World) :
    Calls Try.prog 9 #[.int .u32 a, .int .u32 b] w fun e w' => e = .returned (.tuple #[.int .u32 (a + b), .int .i64 0]) ∧ w = w' := by
  have h := add_any a b la ha lb hb w
  have e1 : addV a b = a + b := by simp [addV, ca, cb, cc]
  have e2 : addE a b = 0 := by simp [addE, ca, cb, cc]
  rw [e1, e2] at h
  exact h
theorem add_okS (a b : Int) (la : 0 ≤ a) (ha : a ≤ 4294967295) (lb : 0 ≤ b) (hb : b ≤ 4294967295) (ca : a ≤ 1048576) (cb : b ≤ 1048576) (cc : a + b ≤ 1048576) (w : World) :
    Calls Try.prog 9 #[.int .u32 b, .int .u32 a] w fun e w' => e = .returned (.tuple #[.int .u32 (a + b), .int .i64 0]) ∧ w = w' := by
  have h := add_ok b a lb hb la ha cb ca (by omega) w
  rw [Int.add_comm b a] at h
  exact h
theorem sub_ok (a b : Int) (la : 0 ≤ a) (lb : 0 ≤ b) (cc : a + b ≤ 1048576) (w : World) :
    Calls Try.prog 11 #[.int .u32 (a + b), .int .u32 b] w fun e w' => e = .returned (.tuple #[.int .u32 a, .int .i64 0]) ∧ w = w' := by
  have h := sub_any (a + b) b (by omega) (by omega) (by omega) (by omega) w
  have e1 : subV (a + b) b = a := by unfold subV; rw [if_pos (by omega)]; omega
  have e2 : subE (a + b) b = 0 := by unfold subE; rw [if_pos (by omega), if_pos (by omega)]
  rw [e1, e2] at h
  exact h
theorem walk (a0 : Int) (a1 : Int) (w0 : (Lit.int .u32 a0).wf = true) (w1 : (Lit.int .u32 a1).wf = true) (w : World) :
    Calls Try.prog 7 #[.int .u32 a0, .int .u32 a1] w fun e w' => e = .returned (.bool true) ∧ Grown w w' := by
  obtain ⟨l0, h0⟩ := bounds_u32 w0
  obtain ⟨l1, h1⟩ := bounds_u32 w1
  clear w0 w1
  by_cases c : a0 ≤ 1048576 ∧ a1 ≤ 1048576 ∧ a0 + a1 ≤ 1048576
  · obtain ⟨ca, cb, cc⟩ := c
    go_enter Try.func7, Try.ntmps7
    go_wp2_with fail
    refine (works_any _).mono ?_
    rintro e wa ⟨rfl, ga⟩
    go_wp2_with fail
    refine (add_ok a0 a1 l0 h0 l1 h1 ca cb cc _).mono ?_
    rintro e w' ⟨rfl, rfl⟩
    go_wp2_with fail
    refine (add_okS a0 a1 l0 h0 l1 h1 ca cb cc _).mono ?_
    rintro e w' ⟨rfl, rfl⟩
    go_wp2_with fail
    refine (sub_ok a0 a1 l0 l1 cc _).mono ?_
    rintro e w' ⟨rfl, rfl⟩
    go_wp2
    go_ret
    exact ⟨rfl, ga⟩
  · have hz : addV a0 a1 = 0 := by simp only [addV, if_neg c]
    have hn : (addE a0 a1 != 0) = true := by
      simp only [addE]
      split
      · rw [if_neg (by omega)]; decide
      · decide
    have hz' : addV a1 a0 = 0 := by rw [addV_comm]; exact hz
    have he' : addE a1 a0 = addE a0 a1 := addE_comm a1 a0
    have H1 := add_any a0 a1 l0 h0 l1 h1
    have H2 := add_any a1 a0 l1 h1 l0 h0
    rw [hz] at H1
    rw [hz', he'] at H2
    clear c hz hz' he'
    generalize addE a0 a1 = E at hn H1 H2
    have K1 := Lib.hid H1
    have K2 := Lib.hid H2
    clear H1 H2
    go_enter Try.func7, Try.ntmps7
    go_wp2_with fail
    refine (works_any _).mono ?_
    rintro e wa ⟨rfl, ga⟩
    go_wp2_with fail
    refine (K1.out _).mono ?_
    rintro e w' ⟨rfl, rfl⟩
    go_wp2_with fail
    refine (K2.out _).mono ?_
    rintro e w' ⟨rfl, rfl⟩
    go_wp2
    go_ret
    exact ⟨rfl, ga⟩

/-! ### THE ROW's STEP: WRITTEN OUT: LEAVE IT -/
set_option maxRecDepth 100000 in
theorem lifted (os : Os) (started : os.Started) (H : Type) (enc : TypeId × Value → H) :
    ReturnsInHanded {} Try.checked os 7 .any (Rows.numBackSpec.pre6 enc Try.prog Try.f7 Rows.numBackRow.domain false) (Rows.numBackSpec.post enc Try.prog Try.f7 false true false false) := by
  refine returnsInHanded_of_change (C := Try.checked) own started (by kernel_rfl) Try.func7
    (ChangeSpec.witness6 (enc := enc) (C := Try.checked) false ⟨#[], #[.int .u32 0, .int .u32 0], []⟩ 8 (by kernel_rfl) (by kernel_rfl) (by kernel_rfl) (by kernel_rfl)) ?_
  intro W base args ds gs before hval0 hW hcnd _
  have hval : ∀ (j : Nat) t v, Try.f7.params[j]? = some t → args[j]? = some v → Value.okWide Try.prog W .any base t v := hval0
  have hW' := hW
  obtain ⟨p, q, hA0, hV, rfl, hfz, hnd⟩ := hW
  have hA : DataW.TrodAll enc Try.prog W 0 (fun _ => true) true Try.f7.params.toList args.toList ds p := hA0
  rw [Try.params7] at hA hval
  obtain ⟨v0, vs0, d0, ds0, p0, q0, hargs, rfl, rfl, h0, r0⟩ := trodAll_cons hA
  obtain ⟨v1, vs1, d1, ds1, p1, q1, rfl, rfl, rfl, h1, r1⟩ := trodAll_cons r0
  obtain ⟨rfl, rfl, rfl⟩ := trodAll_nil r1
  obtain rfl : args = #[v0, v1] := by cases args; simp_all
  obtain ⟨rfl, rfl⟩ := trodVars_none hV
  obtain ⟨a0, rfl, rfl, rfl, w0⟩ := open_int Try.underlying22 (hval 0 22 v0 rfl rfl) h0
  obtain ⟨a1, rfl, rfl, rfl, w1⟩ := open_int Try.underlying22 (hval 1 22 v1 rfl rfl) h1
  clear hA0 hval0
  simp only [List.append_nil] at hW'
  refine (walk a0 a1 w0 w1 W).mono fun e W' ⟨he, hg⟩ => ?_
  subst he
  exact ⟨_, rfl, post_of_same (pa := []) (pv := []) hW' (fun _ _ _ => (trodAll_cons_mk (shut_bool Try.underlying4 _) trodAll_mk0)) (fun sp _ => (trodAll_cons_mk (shut_int Try.underlying22 w0) (trodAll_cons_mk (shut_int Try.underlying22 w1) trodAll_mk0))) (fun _ _ => rfl) rfl
    (hg.frame _) hg.2.1 (ok_one (by kernel_rfl) rfl (okWide_bool_mk Try.underlying4 _))⟩

theorem over : Rows.numBackRow.holds Try.pinned (OpenSpec.ofChange Rows.numBackSpec) :=
  OpenClaim.holds_of_wide 7 Try.f7 rfl rfl rfl rfl rfl rfl rfl ⟨rfl, rfl, rfl, rfl, rfl⟩ rfl rfl rfl rfl rfl (by kernel_rfl) Try.func7 (by kernel_rfl)
    (of_decide_eq_true (by kernel_rfl)) (by unfold Func.isWrapper; first | (rw [if_pos (by decide +kernel)]; kernel_rfl) | (rw [if_neg (by decide +kernel)]; exact ⟨rfl, rfl⟩))
    (fun os started H enc _ => lifted os started H enc)

/-- ████ THE STATEMENT ████ -/
theorem proved : Rows.NumBackSaid :=
  over
#print axioms proved
end Go.Proofs.Ytkelijjdmnhdnaa.numBack
