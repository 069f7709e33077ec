/-
  WordsCut: any text's lines are the document's, so are any line's words, and whether it is a name. No condition.
-/
import Derived.Test.YtpjlefdigpejdaaWa
namespace Go.Proofs.Ytpjlefdigpejdaa.words
open Go.ChangeShapes Go.WideShapes Go.ChangeAt Go.RowKit
open Go.Proofs.Ytpjlefdigpejdaa.opened Go.Proofs.Ytpjlefdigpejdaa.block

theorem lines_len : ∀ (r w : Bs), (linesC w r).length ≤ r.length + 1
  | [], w => by unfold linesC; split <;> simp
  | c :: r, w => by
    unfold linesC
    split
    · have := lines_len r []
      simp
      omega
    · have := lines_len r (w ++ [c])
      simp
      omega
theorem split_len : ∀ (r w : Bs), (splitC w r).length ≤ r.length + 1
  | [], w => by unfold splitC; split <;> simp
  | c :: r, w => by
    unfold splitC
    split
    · have := split_len r []
      split
      · simp; omega
      · simp; omega
    · split
      · simp
      · have := split_len r (w ++ [c])
        simp
        omega
set_option maxRecDepth 100000 in
set_option maxHeartbeats 1000000 in
theorem walkC (s : Bs) (W : World) (hM : MaxIs W) :
    Calls Try.prog 9 #[.string ⟨s.toArray⟩] W fun e w' => e = .returned (.bool true) ∧ Below W.heap.size W w' := by
  have M0 := Lib.hid hM
  clear hM
  by_cases hs : s.length ≤ 5000
  · have l1 := lines_len s []
    have l2 := split_len s []
    have l1 : (linesL s).length ≤ 1000000 := by unfold linesL; omega
    have l2 : (splitL s).length ≤ 1000000 := by unfold splitL; omega
    have hs' : ¬ (5000 : Int) < (s.length : Int) := by omega
    have C1 := Lib.hid (fun w hw => lines_any s (by omega) w hw)
    have C2 := Lib.hid (fun w => linesR_any s (by omega) w)
    have C3 := Lib.hid (fun w hw => split_any s (by omega) w hw)
    have C4 := Lib.hid (fun w => splitR_any s (by omega) w)
    have C5 := Lib.hid (fun w => name_any s (by omega) w)
    have C6 := Lib.hid (fun w => nameR_any s w)
    clear hs
    generalize linesL s = N at l1 C1 C2
    generalize splitL s = M at l2 C3 C4
    generalize nameB s = q at C5 C6
    go_enter Try.func9, Try.ntmps9
    go_wp2_with fail
    refine (C1.out _ M0.out).mono ?_
    rintro e w1 ⟨A1, c1, rfl, h1, b1⟩
    have L1 := Lib.hid h1.lies
    have B1 := Lib.hid b1
    clear h1 b1
    go_wp2_with fail
    refine (C2.out _).mono ?_
    rintro e w2 ⟨A2, c2, rfl, h2, b2⟩
    have L2 := Lib.hid h2.lies
    have L12 := Lib.hid (L1.out.below b2)
    have B2 := Lib.hid (then_below B1.out b2)
    clear h2 b2 L1 B1
    go_wp2_with fail
    refine (same_any _ _ _ _ N N l1 _ L12.out L2.out).mono ?_
    rw [decide_eq_true rfl]
    rintro e w3 ⟨rfl, b3⟩
    have B3 := Lib.hid (then_below B2.out b3)
    clear b3 L2 L12 B2
    go_wp2_with fail
    refine (C3.out _ (M0.out.below B3.out)).mono ?_
    rintro e w4 ⟨A4, c4, rfl, h4, b4⟩
    have L4 := Lib.hid h4.lies
    have B4 := Lib.hid (then_below B3.out b4)
    clear h4 b4 B3
    go_wp2_with fail
    refine (C4.out _).mono ?_
    rintro e w5 ⟨A5, c5, rfl, h5, b5⟩
    have L5 := Lib.hid h5.lies
    have L45 := Lib.hid (L4.out.below b5)
    have B5 := Lib.hid (then_below B4.out b5)
    clear h5 b5 L4 B4
    go_wp2_with fail
    refine (same_any _ _ _ _ M M l2 _ L45.out L5.out).mono ?_
    rw [decide_eq_true rfl]
    rintro e w6 ⟨rfl, b6⟩
    have B6 := Lib.hid (then_below B5.out b6)
    clear b6 L5 L45 B5
    go_wp2_with fail
    refine (C5.out _).mono ?_
    rintro e w7 ⟨rfl, b7⟩
    have B7 := Lib.hid (then_below B6.out b7)
    clear b7 B6
    go_wp2_with fail
    refine (C6.out _).mono ?_
    rintro e w8 ⟨rfl, b8⟩
    have B8 := Lib.hid (then_below B7.out b8)
    clear b8 B7
    cases q
    all_goals
      go_wp2_with fail
      go_ret
      exact ⟨rfl, B8.out⟩
  · have hs' : (5000 : Int) < (s.length : Int) := by omega
    go_enter Try.func9, Try.ntmps9
    go_wp2_with fail
    go_ret
    exact ⟨rfl, Below.refl _ _⟩
set_option maxRecDepth 100000 in
theorem told (W : World) (args : Array Value) (hE : MaxIs W) (h : Fed Try.prog W [9] args) : Calls Try.prog 9 args W fun e W' => e = .returned (.bool true) ∧ Below W.heap.size W W' := by
  obtain ⟨v0, rfl⟩ := args1 h.count
  obtain ⟨⟨_, o0⟩, r0⟩ := h.each 0 9 v0 rfl rfl
  obtain ⟨a0, q0⟩ := r0 (opens_str Try.underlying9)
  obtain ⟨rfl, -⟩ := top_str Try.underlying9 o0 q0
  obtain ⟨s0, rfl⟩ : ∃ s : Bs, a0 = ⟨s.toArray⟩ := ⟨a0.data.toList, (Lib.mk_data a0).symm⟩
  exact walkC s0 W hE

/-! ### The row -/
set_option maxRecDepth 100000 in
theorem lifted (os : Os) (started : os.Started) (H : Type) (enc : TypeId × Value → H) :
    ReturnsInHanded {} Try.checked os 9 .any (Rows.wordsCutSpec.pre6 enc Try.prog Try.f9 Rows.wordsCutRow.domain false) (Rows.wordsCutSpec.post enc Try.prog Try.f9 false true false false) :=
  liftM (ts := [9]) started (by kernel_rfl) Try.func9 (by kernel_rfl) (by kernel_rfl) (by kernel_rfl) rfl
    (fun ds h => by
      match ds, h with
      | [_], _ => rfl)
    (ChangeSpec.witness6 (enc := enc) (C := Try.checked) false ⟨#[], #[.string ByteArray.empty], []⟩ 8 (by kernel_rfl) (by kernel_rfl) (by kernel_rfl) (by kernel_rfl)) told

theorem over : Rows.wordsCutRow.holds Try.pinned (OpenSpec.ofChange Rows.wordsCutSpec) :=
  OpenClaim.holds_of_wide 9 Try.f9 rfl rfl rfl rfl rfl rfl rfl ⟨rfl, rfl, rfl, rfl, rfl⟩ rfl rfl rfl rfl rfl (by kernel_rfl) Try.func9 (by kernel_rfl)
    (of_decide_eq_true (by kernel_rfl)) (by unfold Func.isWrapper; first | (rw [if_pos (by decide +kernel)]; kernel_rfl) | (rw [if_neg (by decide +kernel)]; exact ⟨rfl, rfl⟩))
    (fun os started H enc _ => lifted os started H enc)

theorem proved : Rows.WordsCutSaid := over
#print axioms proved
end Go.Proofs.Ytpjlefdigpejdaa.words
