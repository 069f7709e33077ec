/-
  Of two numbers the greater one never has fewer bytes in code.Num, a number has one to ten bytes, and at most seven bits more are at most a byte more; no condition.
-/
import Derived.Test.YtmbjnoikfleioaaWorks
namespace Go.Proofs.Ytmbjnoikfleioaa.codeOrder
open Go.Proofs.Ytmbjnoikfleioaa.code Go.Proofs.Ytmbjnoikfleioaa.opened Go.Proofs.Ytmbjnoikfleioaa.enc
open Go.ChangeShapes Go.WideShapes Go.ChangeAt Go.RowKit

theorem ret_true {b : Bool} (h : b = true) : Ending.returned (.bool b) = .returned (.bool true) := by rw [h]
theorem walkN (a b : Nat) (ha : a ≤ 18446744073709551615) (hb : b ≤ 18446744073709551615) (w : World) :
    Calls Try.prog 7 #[.int .u64 a, .int .u64 b] w fun e w' => e = .returned (.bool true) ∧ Below w.heap.size w w' := by
  have la := len_enc a
  have lb := len_enc b
  have pa := pos_enc a
  have pb := pos_enc b
  by_cases hab : b < a
  · have hm := len_enc_mono (Nat.le_of_lt hab)
    by_cases hq : b < a / 128
    · have HA := num_any a (by omega)
      have HB := num_any b (by omega)
      generalize enc a = x at la pa hm HA
      generalize enc b = y at lb pb hm HB
      have KA := Lib.hid HA; have KB := Lib.hid HB; clear HA HB
      go_enter Try.func7, Try.ntmps7
      go_wp2_with fail
      refine (works_any _).mono ?_
      rintro e w1 ⟨rfl, b1⟩
      go_wp2_with fail
      refine (KA.out _).mono ?_
      rintro e w2 ⟨rfl, b2⟩
      go_wp2_with fail
      refine (KB.out _).mono ?_
      rintro e w3 ⟨rfl, b3⟩
      go_wp2
      go_ret
      exact ⟨rfl, then_below (then_below b1 b2) b3⟩
    · have hk := len_enc_next (Nat.le_of_not_lt hq)
      have HA := num_any a (by omega)
      have HB := num_any b (by omega)
      generalize enc a = x at la pa hm HA hk
      generalize enc b = y at lb pb hm HB hk
      have KA := Lib.hid HA; have KB := Lib.hid HB; clear HA HB
      go_enter Try.func7, Try.ntmps7
      go_wp2_with fail
      refine (works_any _).mono ?_
      rintro e w1 ⟨rfl, b1⟩
      go_wp2_with fail
      refine (KA.out _).mono ?_
      rintro e w2 ⟨rfl, b2⟩
      go_wp2_with fail
      refine (KB.out _).mono ?_
      rintro e w3 ⟨rfl, b3⟩
      go_wp2
      go_ret
      exact ⟨ret_true (by simp; omega), then_below (then_below b1 b2) b3⟩
  · have hm := len_enc_mono (Nat.le_of_not_lt hab)
    by_cases hq : a < b / 128
    · have HA := num_any a (by omega)
      have HB := num_any b (by omega)
      generalize enc a = x at la pa hm HA
      generalize enc b = y at lb pb hm HB
      have KA := Lib.hid HA; have KB := Lib.hid HB; clear HA HB
      go_enter Try.func7, Try.ntmps7
      go_wp2_with fail
      refine (works_any _).mono ?_
      rintro e w1 ⟨rfl, b1⟩
      go_wp2_with fail
      refine (KA.out _).mono ?_
      rintro e w2 ⟨rfl, b2⟩
      go_wp2_with fail
      refine (KB.out _).mono ?_
      rintro e w3 ⟨rfl, b3⟩
      go_wp2
      go_ret
      exact ⟨rfl, then_below (then_below b1 b2) b3⟩
    · have hk := len_enc_next (Nat.le_of_not_lt hq)
      have HA := num_any a (by omega)
      have HB := num_any b (by omega)
      generalize enc a = x at la pa hm HA hk
      generalize enc b = y at lb pb hm HB hk
      have KA := Lib.hid HA; have KB := Lib.hid HB; clear HA HB
      go_enter Try.func7, Try.ntmps7
      go_wp2_with fail
      refine (works_any _).mono ?_
      rintro e w1 ⟨rfl, b1⟩
      go_wp2_with fail
      refine (KA.out _).mono ?_
      rintro e w2 ⟨rfl, b2⟩
      go_wp2_with fail
      refine (KB.out _).mono ?_
      rintro e w3 ⟨rfl, b3⟩
      go_wp2
      go_ret
      exact ⟨ret_true (by simp; omega), then_below (then_below b1 b2) b3⟩
theorem walk (a b : Int) (wa : (Lit.int .u64 a).wf = true) (wb : (Lit.int .u64 b).wf = true) (w : World) :
    Calls Try.prog 7 #[.int .u64 a, .int .u64 b] w fun e w' => e = .returned (.bool true) ∧ Below w.heap.size w w' := by
  obtain ⟨l0, h0⟩ := bounds_u64 wa
  obtain ⟨l1, h1⟩ := bounds_u64 wb
  obtain ⟨n, rfl⟩ := Int.eq_ofNat_of_zero_le l0
  obtain ⟨m, rfl⟩ := Int.eq_ofNat_of_zero_le l1
  exact walkN n m (by omega) (by omega) w

theorem told (W : World) (args : Array Value) (h : Fed Try.prog W [22, 22] args) : Calls Try.prog 7 args W fun e W' => e = .returned (.bool true) ∧ Below W.heap.size W W' := by
  obtain ⟨v0, v1, rfl⟩ := args2 h.count
  obtain ⟨⟨_, o0⟩, r0⟩ := h.each 0 22 v0 rfl rfl
  obtain ⟨⟨_, o1⟩, r1⟩ := h.each 1 22 v1 rfl rfl
  obtain ⟨a0, q0⟩ := r0 (opens_int Try.underlying22)
  obtain ⟨rfl, w0⟩ := top_int Try.underlying22 o0 q0
  obtain ⟨a1, q1⟩ := r1 (opens_int Try.underlying22)
  obtain ⟨rfl, w1⟩ := top_int Try.underlying22 o1 q1
  exact walk a0 a1 w0 w1 W

/-! ### The row -/
theorem own : ownKnob Try.prog.godebug = none := by kernel_rfl
theorem laidOut : laidOutB Try.prog = true := by kernel_rfl
set_option maxRecDepth 100000 in
theorem lifted (os : Os) (started : os.Started) (H : Type) (enc : TypeId × Value → H) :
    ReturnsInHanded {} Try.checked os 7 .any (Rows.codeOrderSpec.pre6 enc Try.prog Try.f7 Rows.codeOrderRow.domain false) (Rows.codeOrderSpec.post enc Try.prog Try.f7 false true false false) :=
  lift (C := Try.checked) (fn := Try.f7) (tb := 4) (ts := [22, 22]) own started (by kernel_rfl) Try.func7 laidOut (by kernel_rfl) (by kernel_rfl) (by kernel_rfl) Try.underlying4 rfl
    (fun ds h => by
      match ds, h with
      | [_, _], _ => rfl)
    (ChangeSpec.witness6 (enc := enc) (C := Try.checked) false ⟨#[], #[.int .u64 0, .int .u64 0], []⟩ 8 (by kernel_rfl) (by kernel_rfl) (by kernel_rfl) (by kernel_rfl)) told

theorem over : Rows.codeOrderRow.holds Try.pinned (OpenSpec.ofChange Rows.codeOrderSpec) :=
  OpenClaim.holds_of_wide 7 Try.f7 rfl rfl rfl rfl rfl rfl rfl ⟨rfl, rfl, rfl, rfl, rfl⟩ rfl rfl rfl rfl rfl (by kernel_rfl) Try.func7 (by kernel_rfl)
    (of_decide_eq_true (by kernel_rfl)) (by unfold Func.isWrapper; first | (rw [if_pos (by decide +kernel)]; kernel_rfl) | (rw [if_neg (by decide +kernel)]; exact ⟨rfl, rfl⟩))
    (fun os started H enc _ => lifted os started H enc)

theorem proved : Rows.CodeOrderSaid := over
#print axioms proved
end Go.Proofs.Ytmbjnoikfleioaa.codeOrder
