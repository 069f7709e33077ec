/-
  Bytes that code.Reader.Num reads as a number are just those that code.Num writes of it, and fewer of them are too short; for every text and every place of a cut; no condition.
-/
import Derived.Test.YtmbjnoikfleioaaWorks
import Derived.Test.YtmbjnoikfleioaaMath
namespace Go.Proofs.Ytmbjnoikfleioaa.codeOne
open Go.Proofs.Ytmbjnoikfleioaa.code Go.Proofs.Ytmbjnoikfleioaa.opened Go.Proofs.Ytmbjnoikfleioaa.enc Go.Proofs.Ytmbjnoikfleioaa.block
open Go.ChangeShapes Go.WideShapes Go.ChangeAt Go.RowKit

theorem rest_of (c : Int) {n : Nat} (h : 1 ≤ n) : ∃ m : Nat, (IntKind.u64.wrap c).tmod (n : Int) = (m : Int) ∧ m < n := by
  have hu := (wrap_u64_bd c).1
  have h0 := Int.emod_nonneg (IntKind.u64.wrap c) (show (n : Int) ≠ 0 by omega)
  have h1 := Int.emod_lt_of_pos (IntKind.u64.wrap c) (show (0 : Int) < (n : Int) by omega)
  rw [Int.tmod_eq_emod_of_nonneg hu]
  exact ⟨(IntKind.u64.wrap c % (n : Int)).toNat, by omega, by omega⟩

set_option maxRecDepth 100000 in
set_option maxHeartbeats 400000 in
theorem walkL (l : List UInt8) (c : Int) (hl : l.length ≤ 140737488351232) (w : World) :
    Calls Try.prog 6 #[.string ⟨l.toArray⟩, .int .i64 c] w fun e w' => e = .returned (.bool true) ∧ Below w.heap.size w w' := by
  by_cases h1000 : 1000 < l.length
  · go_enter Try.func6, Try.ntmps6
    go_wp2_with fail
    refine (works_any _).mono ?_
    rintro e w1 ⟨rfl, b1⟩
    go_wp2
    go_ret
    exact ⟨rfl, b1⟩
  · by_cases he : (dec l).2.2 = 0
    · obtain ⟨v, n, e1, e2, e3, e4, e5, e6⟩ := dec_ok he
      have HN := fun (g : Nat) (W : World) (h : RdA W g l 0) => numA g l 0 (by omega) W h
      have hv : v ≤ 18446744073709551615 := by have := (dec_bd l).2.1; rw [e1] at this; simp at this; omega
      simp only [show ∀ l : List UInt8, rNum l 0 = dec l from fun l => by simp [rNum], e1] at HN
      have HW := num_any v (by omega)
      rw [e2] at HW
      have KN := Lib.hid HN; have KW := Lib.hid HW; have K6 := Lib.hid e6
      clear HN HW e6 e1 e2 he
      go_enter Try.func6, Try.ntmps6
      go_wp2_with fail
      refine (works_any _).mono ?_
      rintro e w1 ⟨rfl, b1⟩
      go_wp2_with fail
      refine (new_l l _).mono ?_
      rintro e w2 ⟨rfl, r2, g2⟩
      go_wp2_with fail
      refine (KN.out _ _ r2).mono ?_
      rintro e w3 ⟨rfl, r3, g3⟩
      go_wp2_with fail
      refine (errA _ _ _ _ r3).mono ?_
      rintro e w' ⟨rfl, rfl⟩
      go_wp2_with fail
      refine (leftA _ _ _ _ r3).mono ?_
      rintro e w' ⟨rfl, rfl⟩
      go_wp2_with fail
      have hq : (l.length : Int) - ((l.length - n : Nat) : Int) = (n : Int) := by omega
      rw [hq]
      clear hq
      have hd1 : decide ((n : Int) < 1) = false := by simp; omega
      have hd2 : decide ((10 : Int) < (n : Int)) = false := by simp; omega
      have b3 : Below w.heap.size w w3 := below_only (b1.grown g2 b1.size (by simp)) g3 (Nat.le_trans b1.size g2.size) b1.size
      clear r2 g2 g3 r3
      have hx := rest_take (l := l) (n := n)
      refine region_since w (by kernel_rfl) (by kernel_rfl) b3 ?_
      repeat (go_big_quiet_step ((exact since_call KW.out _)))
      refine wpQuiet_nil ?_
      rintro w4 ⟨x, hw⟩
      have b4 : Below w.heap.size w w4 := hw ▸ x.2
      clear hw x
      clear b3 hx hd1 hd2 KW
      obtain ⟨m, hm, hmn⟩ := rest_of c e3
      go_wp2_with fail
      rw [rest_take]
      refine (new_l (l.take m) _).mono ?_
      rintro e w5 ⟨rfl, r5, g5⟩
      have HM := K6.out m hmn
      have KM := numA w4.heap.size (l.take m) 0 (by simp; omega) w5 r5
      simp only [show ∀ l : List UInt8, rNum l 0 = dec l from fun l => by simp [rNum], HM] at KM
      have KM' := Lib.hid KM; clear KM HM K6 hm
      go_wp2_with fail
      refine KM'.out.mono ?_
      rintro e w6 ⟨rfl, r6, g6⟩
      go_wp2_with fail
      refine (errA _ _ _ _ r6).mono ?_
      rintro e w' ⟨rfl, rfl⟩
      go_wp2
      go_ret
      exact ⟨rfl, below_only (b4.grown g5 b4.size (by simp)) g6 (Nat.le_trans b4.size g5.size) b4.size⟩
    · obtain ⟨z1, z2⟩ := dec_err he
      have HN := fun (g : Nat) (W : World) (h : RdA W g l 0) => numA g l 0 (by omega) W h
      have hne : ((dec l).2.2 != 0) = true := by simpa using he
      simp only [show ∀ l : List UInt8, rNum l 0 = dec l from fun l => by simp [rNum], z1, z2, List.drop_zero] at HN
      have KN := Lib.hid HN
      clear HN z1 z2 he
      generalize (dec l).2.2 = E at KN hne
      go_enter Try.func6, Try.ntmps6
      go_wp2_with fail
      refine (works_any _).mono ?_
      rintro e w1 ⟨rfl, b1⟩
      go_wp2_with fail
      refine (new_l l _).mono ?_
      rintro e w2 ⟨rfl, r2, g2⟩
      go_wp2_with fail
      refine (KN.out _ _ r2).mono ?_
      rintro e w3 ⟨rfl, r3, g3⟩
      go_wp2_with fail
      refine (errA _ _ _ _ r3).mono ?_
      rintro e w' ⟨rfl, rfl⟩
      go_wp2_with fail
      refine (leftA _ _ _ _ r3).mono ?_
      rintro e w' ⟨rfl, rfl⟩
      go_wp2
      go_ret
      exact ⟨rfl, below_only (b1.grown g2 b1.size (by simp)) g3 (Nat.le_trans b1.size g2.size) b1.size⟩

theorem walk (s : ByteArray) (c : Int) (hs : s.size ≤ 140737488351232) (_ : (Lit.int .i64 c).wf = true) (w : World) :
    Calls Try.prog 6 #[.string s, .int .i64 c] w fun e w' => e = .returned (.bool true) ∧ Below w.heap.size w w' := by
  obtain ⟨⟨l⟩⟩ := s
  exact walkL l c hs w

theorem told (W : World) (args : Array Value) (h : Fed Try.prog W [9, 3] args) : Calls Try.prog 6 args W fun e W' => e = .returned (.bool true) ∧ Below W.heap.size W W' := by
  obtain ⟨v0, v1, rfl⟩ := args2 h.count
  obtain ⟨⟨_, o0⟩, r0⟩ := h.each 0 9 v0 rfl rfl
  obtain ⟨⟨_, o1⟩, r1⟩ := h.each 1 3 v1 rfl rfl
  obtain ⟨a0, q0⟩ := r0 (opens_str Try.underlying9)
  obtain ⟨rfl, w0⟩ := top_str Try.underlying9 o0 q0
  obtain ⟨a1, q1⟩ := r1 (opens_int Try.underlying3)
  obtain ⟨rfl, w1⟩ := top_int Try.underlying3 o1 q1
  exact walk a0 a1 w0 w1 W

/-! ### The row -/
theorem own : ownKnob Try.prog.godebug = none := by kernel_rfl
theorem laidOut : laidOutB Try.prog = true := by kernel_rfl
set_option maxRecDepth 100000 in
theorem lifted (os : Os) (started : os.Started) (H : Type) (enc : TypeId × Value → H) :
    ReturnsInHanded {} Try.checked os 6 .any (Rows.codeOneSpec.pre6 enc Try.prog Try.f6 Rows.codeOneRow.domain false) (Rows.codeOneSpec.post enc Try.prog Try.f6 false true false false) :=
  lift (C := Try.checked) (fn := Try.f6) (tb := 4) (ts := [9, 3]) own started (by kernel_rfl) Try.func6 laidOut (by kernel_rfl) (by kernel_rfl) (by kernel_rfl) Try.underlying4 rfl
    (fun ds h => by
      match ds, h with
      | [_, _], _ => rfl)
    (ChangeSpec.witness6 (enc := enc) (C := Try.checked) false ⟨#[], #[.string ByteArray.empty, .int .i64 0], []⟩ 8 (by kernel_rfl) (by kernel_rfl) (by kernel_rfl) (by kernel_rfl)) told

theorem over : Rows.codeOneRow.holds Try.pinned (OpenSpec.ofChange Rows.codeOneSpec) :=
  OpenClaim.holds_of_wide 6 Try.f6 rfl rfl rfl rfl rfl rfl rfl ⟨rfl, rfl, rfl, rfl, rfl⟩ rfl rfl rfl rfl rfl (by kernel_rfl) Try.func6 (by kernel_rfl)
    (of_decide_eq_true (by kernel_rfl)) (by unfold Func.isWrapper; first | (rw [if_pos (by decide +kernel)]; kernel_rfl) | (rw [if_neg (by decide +kernel)]; exact ⟨rfl, rfl⟩))
    (fun os started H enc _ => lifted os started H enc)

theorem proved : Rows.CodeOneSaid := over
#print axioms proved
end Go.Proofs.Ytmbjnoikfleioaa.codeOne
