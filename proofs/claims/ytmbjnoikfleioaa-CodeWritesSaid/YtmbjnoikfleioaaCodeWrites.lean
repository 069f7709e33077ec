/-
  code.Num, code.Signed and code.Text give, for every number, every signed number and every text, the bytes that the document gives; no condition.
-/
import Derived.Test.YtmbjnoikfleioaaOpen
import Derived.Test.YtmbjnoikfleioaaWrite
namespace Go.Proofs.Ytmbjnoikfleioaa.codeWrites
open Go.Proofs.Ytmbjnoikfleioaa.code Go.Proofs.Ytmbjnoikfleioaa.opened
open Go.ChangeShapes Go.WideShapes Go.ChangeAt Go.RowKit

theorem walk (v n : Int) (s : ByteArray) (wv : (Lit.int .u64 v).wf = true) (wn : (Lit.int .i64 n).wf = true) (hs : s.size ≤ 140737488351232) (w : World) :
    Calls Try.prog 3 #[.int .u64 v, .int .i64 n, .string s] w fun e w' => e = .returned (.bool true) ∧ Below w.heap.size w w' := by
  obtain ⟨l0, h0⟩ := bounds_u64 wv
  obtain ⟨l1, h1⟩ := bounds_i64 wn
  clear wv wn
  by_cases hc : 10000 < s.size
  · go_enter Try.func3, Try.ntmps3
    go_wp2
    go_ret
    exact ⟨rfl, Below.refl _ _⟩
  · go_enter Try.func3, Try.ntmps3
    go_wp2_with fail
    refine (numI_any v l0 h0 _).mono ?_
    rintro e w1 ⟨rfl, b1⟩
    go_wp2_with fail
    refine (numRI_any v l0 h0 _).mono ?_
    rintro e w2 ⟨rfl, b2⟩
    go_wp2_with fail
    refine (signed_any n l1 h1 _).mono ?_
    rintro e w3 ⟨rfl, b3⟩
    go_wp2_with fail
    refine (signedR_any n l1 h1 _).mono ?_
    rintro e w4 ⟨rfl, b4⟩
    go_wp2_with fail
    refine (text_any s hs _).mono ?_
    rintro e w5 ⟨rfl, b5⟩
    go_wp2_with fail
    refine (textR_any s hs _).mono ?_
    rintro e w6 ⟨rfl, b6⟩
    go_wp2
    go_ret
    exact ⟨rfl, then_below (then_below (then_below (then_below (then_below b1 b2) b3) b4) b5) b6⟩

theorem told (W : World) (args : Array Value) (h : Fed Try.prog W [22, 2, 9] args) : Calls Try.prog 3 args W fun e W' => e = .returned (.bool true) ∧ Below W.heap.size W W' := by
  obtain ⟨v0, v1, v2, rfl⟩ := args3 h.count
  obtain ⟨⟨_, o0⟩, r0⟩ := h.each 0 22 v0 rfl rfl
  obtain ⟨⟨_, o1⟩, r1⟩ := h.each 1 2 v1 rfl rfl
  obtain ⟨⟨_, o2⟩, r2⟩ := h.each 2 9 v2 rfl rfl
  obtain ⟨a0, q0⟩ := r0 (opens_int Try.underlying22)
  obtain ⟨a1, q1⟩ := r1 (opens_int Try.underlying2)
  obtain ⟨a2, q2⟩ := r2 (opens_str Try.underlying9)
  obtain ⟨rfl, w0⟩ := top_int Try.underlying22 o0 q0
  obtain ⟨rfl, w1⟩ := top_int Try.underlying2 o1 q1
  obtain ⟨rfl, w2⟩ := top_str Try.underlying9 o2 q2
  exact walk a0 a1 a2 w0 w1 w2 W

/-! ### The row -/
theorem own : ownKnob Try.prog.godebug = none := by kernel_rfl
theorem laidOut : laidOutB Try.prog = true := by kernel_rfl
set_option maxRecDepth 100000 in
theorem lifted (os : Os) (started : os.Started) (H : Type) (enc : TypeId × Value → H) :
    ReturnsInHanded {} Try.checked os 3 .any (Rows.codeWritesSpec.pre6 enc Try.prog Try.f3 Rows.codeWritesRow.domain false) (Rows.codeWritesSpec.post enc Try.prog Try.f3 false true false false) :=
  lift (C := Try.checked) (fn := Try.f3) (tb := 4) (ts := [22, 2, 9]) own started (by kernel_rfl) Try.func3 laidOut (by kernel_rfl) (by kernel_rfl) (by kernel_rfl) Try.underlying4 rfl
    (fun ds h => by
      match ds, h with
      | [_, _, _], _ => rfl)
    (ChangeSpec.witness6 (enc := enc) (C := Try.checked) false ⟨#[], #[.int .u64 0, .int .i64 0, .string ByteArray.empty], []⟩ 8 (by kernel_rfl) (by kernel_rfl) (by kernel_rfl) (by kernel_rfl)) told

theorem over : Rows.codeWritesRow.holds Try.pinned (OpenSpec.ofChange Rows.codeWritesSpec) :=
  OpenClaim.holds_of_wide 3 Try.f3 rfl rfl rfl rfl rfl rfl rfl ⟨rfl, rfl, rfl, rfl, rfl⟩ rfl rfl rfl rfl rfl (by kernel_rfl) Try.func3 (by kernel_rfl)
    (of_decide_eq_true (by kernel_rfl)) (by unfold Func.isWrapper; first | (rw [if_pos (by decide +kernel)]; kernel_rfl) | (rw [if_neg (by decide +kernel)]; exact ⟨rfl, rfl⟩))
    (fun os started H enc _ => lifted os started H enc)

theorem proved : Rows.CodeWritesSaid := over
#print axioms proved
end Go.Proofs.Ytmbjnoikfleioaa.codeWrites
