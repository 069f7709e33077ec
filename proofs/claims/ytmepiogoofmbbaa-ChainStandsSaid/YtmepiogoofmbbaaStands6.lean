/-
  How any two lists stand, and what both have, in either way: the program's answers are the document's; no condition.
-/
import Derived.Test.YtmepiogoofmbbaaJn
import Derived.Test.YtmepiogoofmbbaaJnR
import Derived.Test.YtmepiogoofmbbaaLeC
import Derived.Test.YtmepiogoofmbbaaOpL
import Derived.Test.YtmepiogoofmbbaaRows
namespace Go.Proofs.Ytmepiogoofmbbaa.chainStands
open Go.ChangeShapes Go.WideShapes Go.ChangeAt Go.RowKit
open Go.Proofs.Ytmepiogoofmbbaa.tm Go.Proofs.Ytmepiogoofmbbaa.opened Go.Proofs.Ytmepiogoofmbbaa.block Go.Proofs.Ytmepiogoofmbbaa.stamp Go.Proofs.Ytmepiogoofmbbaa.chain

theorem meet_len (L M : List Tm) (iL : InL L) (iM : InL M) : (meetLV L M iL iM).length ≤ L.length + M.length := by
  unfold meetLV
  split
  · simp
  · have := makeV_len (L ++ M) (in_app iL iM)
    rwa [List.length_append] at this
theorem join_len (L M : List Tm) (iL : InL L) (iM : InL M) : (joinLV L M iL iM).length ≤ L.length * M.length := by
  unfold joinLV
  split
  · simp
  · have := makeV_len (joins L M) (in_joins iL iM)
    rwa [joins_len] at this
set_option maxRecDepth 100000 in
set_option maxHeartbeats 1000000 in
theorem walk (A : Option Addr) (c : Nat) (L : List Tm) (iL : InL L) (mL : L.length ≤ 4611686018427387903) (hc : L.length ≤ c) (B : Option Addr) (d : Nat) (M : List Tm) (iM : InL M) (mM : M.length ≤ 4611686018427387903) (hd : M.length ≤ d) (w : World) (hL : Lt w A L) (hM : Lt w B M) :
    Calls Try.prog 4 #[.slice A L.length c, .slice B M.length d] w fun e W' => e = .returned (.bool true) ∧ Below w.heap.size w W' := by
  have HL := Lib.hid hL
  have HM := Lib.hid hM
  have GL := great_any A c L.length mL
  have GM := great_any B d M.length mM
  by_cases hg : 200 < L.length
  · rw [decide_eq_true hg] at GL
    have GL := Lib.hid GL
    clear hL hM hg
    go_enter Try.func4, Try.ntmps4
    go_wp2_with fail
    refine (GL.out _).mono ?_
    rintro e w1 ⟨rfl, rfl⟩
    go_wp2_with fail
    go_ret
    exact ⟨rfl, Below.refl _ _⟩
  · rw [decide_eq_false hg] at GL
    have GL := Lib.hid GL
    by_cases hg2 : 200 < M.length
    · rw [decide_eq_true hg2] at GM
      have GM := Lib.hid GM
      clear hL hM hg
      go_enter Try.func4, Try.ntmps4
      go_wp2_with fail
      refine (GL.out _).mono ?_
      rintro e w1 ⟨rfl, rfl⟩
      go_wp2_with fail
      refine (GM.out _).mono ?_
      rintro e w1 ⟨rfl, rfl⟩
      go_wp2_with fail
      go_ret
      exact ⟨rfl, Below.refl _ _⟩
    · rw [decide_eq_false hg2] at GM
      have GM := Lib.hid GM
      have OL := Lib.hid (own_any A c L (by omega) hc)
      have OM := Lib.hid (own_any B d M (by omega) hd)
      have ME := Lib.hid (fun A' c' B' d' => meet_chain A' B' c' d' L M iL iM mL mM)
      have MR := Lib.hid (meetR_chain A B c d L M iL iM mL mM)
      have JO := Lib.hid (fun A' c' B' d' => join_chain A' B' c' d' L M iL iM mL mM)
      have JR := Lib.hid (joinR_chain A B c d L M iL iM mL mM)
      have LE := Lib.hid (fun A' c' B' d' => lists_any A' B' c' d' L M iL iM mL mM)
      have LR := Lib.hid (listsR_any A B c d L M iL iM mL mM)
      have l1 := meet_len L M iL iM
      have l2 := join_len L M iL iM
      have l3 : L.length * M.length ≤ 200 * 200 := Nat.mul_le_mul (by omega) (by omega)
      have S1 := Lib.hid (fun B c' D d w => same_self B D c' d (meetLV L M iL iM) (by omega) w)
      have S2 := Lib.hid (fun B c' D d w => same_self B D c' d (joinLV L M iL iM) (by omega) w)
      clear l1 l2 l3
      generalize meetLE L M iL iM = me at ME MR
      generalize meetLV L M iL iM = mv at ME MR S1
      generalize joinLE L M iL iM = je at JO JR
      generalize joinLV L M iL iM = jv at JO JR S2
      generalize leL L M = lv at LE LR
      clear hL hM hg hg2 iL iM hc hd
      have lvv : (lv == lv) = true := by simp
      go_enter Try.func4, Try.ntmps4
      go_wp2_with fail
      refine (GL.out _).mono ?_
      rintro e w1 ⟨rfl, rfl⟩
      go_wp2_with fail
      refine (GM.out _).mono ?_
      rintro e w1 ⟨rfl, rfl⟩
      clear GL GM
      go_wp2_with fail
      refine (OL.out _ HL.out).mono ?_
      rintro e w2 ⟨A2, c2, rfl, h2, b2⟩
      have HL := Lib.hid (HL.out.below b2)
      have HM := Lib.hid (HM.out.below b2)
      have B2 := b2
      clear b2
      have H2 := Lib.hid h2.lies
      clear h2
      go_wp2_with fail
      refine (OM.out _ HM.out).mono ?_
      rintro e w3 ⟨A3, c3, rfl, h3, b3⟩
      have HL := Lib.hid (HL.out.below b3)
      have HM := Lib.hid (HM.out.below b3)
      have H2 := Lib.hid (H2.out.below b3)
      have B3 := B2.trans (b3.mono B2.size)
      clear b3 B2
      have H3 := Lib.hid h3.lies
      clear h3
      go_wp2_with fail
      refine (ME.out _ _ _ _ _ H2.out H3.out).mono ?_
      rintro e w4 ⟨A4, c4, rfl, h4, b4⟩
      have HL := Lib.hid (HL.out.below b4)
      have HM := Lib.hid (HM.out.below b4)
      have H2 := Lib.hid (H2.out.below b4)
      have H3 := Lib.hid (H3.out.below b4)
      have B4 := B3.trans (b4.mono B3.size)
      clear b4 B3
      have H4 := Lib.hid h4
      clear h4
      clear H2 H3
      go_wp2_with fail
      refine (MR.out _ HL.out HM.out).mono ?_
      rintro e w5 ⟨A5, c5, rfl, h5, b5⟩
      have HL := Lib.hid (HL.out.below b5)
      have HM := Lib.hid (HM.out.below b5)
      have H4 := Lib.hid (H4.out.below b5)
      have B5 := B4.trans (b5.mono B4.size)
      clear b5 B4
      have H5 := Lib.hid h5
      clear h5
      go_wp2_with fail
      refine (OL.out _ HL.out).mono ?_
      rintro e w6 ⟨A6, c6, rfl, h6, b6⟩
      have HL := Lib.hid (HL.out.below b6)
      have HM := Lib.hid (HM.out.below b6)
      have H4 := Lib.hid (H4.out.below b6)
      have H5 := Lib.hid (H5.out.below b6)
      have B6 := B5.trans (b6.mono B5.size)
      clear b6 B5
      have H6 := Lib.hid h6.lies
      clear h6
      go_wp2_with fail
      refine (OM.out _ HM.out).mono ?_
      rintro e w7 ⟨A7, c7, rfl, h7, b7⟩
      have HL := Lib.hid (HL.out.below b7)
      have HM := Lib.hid (HM.out.below b7)
      have H4 := Lib.hid (H4.out.below b7)
      have H5 := Lib.hid (H5.out.below b7)
      have H6 := Lib.hid (H6.out.below b7)
      have B7 := B6.trans (b7.mono B6.size)
      clear b7 B6
      have H7 := Lib.hid h7.lies
      clear h7
      go_wp2_with fail
      refine (JO.out _ _ _ _ _ H6.out H7.out).mono ?_
      rintro e w8 ⟨A8, c8, rfl, h8, b8⟩
      have HL := Lib.hid (HL.out.below b8)
      have HM := Lib.hid (HM.out.below b8)
      have H4 := Lib.hid (H4.out.below b8)
      have H5 := Lib.hid (H5.out.below b8)
      have H6 := Lib.hid (H6.out.below b8)
      have H7 := Lib.hid (H7.out.below b8)
      have B8 := B7.trans (b8.mono B7.size)
      clear b8 B7
      have H8 := Lib.hid h8
      clear h8
      clear H6 H7
      go_wp2_with fail
      refine (JR.out _ HL.out HM.out).mono ?_
      rintro e w9 ⟨A9, c9, rfl, h9, b9⟩
      have HL := Lib.hid (HL.out.below b9)
      have HM := Lib.hid (HM.out.below b9)
      have H4 := Lib.hid (H4.out.below b9)
      have H5 := Lib.hid (H5.out.below b9)
      have H8 := Lib.hid (H8.out.below b9)
      have B9 := B8.trans (b9.mono B8.size)
      clear b9 B8
      have H9 := Lib.hid h9
      clear h9
      go_wp2_with fail
      refine (OL.out _ HL.out).mono ?_
      rintro e w10 ⟨A10, c10, rfl, h10, b10⟩
      have HL := Lib.hid (HL.out.below b10)
      have HM := Lib.hid (HM.out.below b10)
      have H4 := Lib.hid (H4.out.below b10)
      have H5 := Lib.hid (H5.out.below b10)
      have H8 := Lib.hid (H8.out.below b10)
      have H9 := Lib.hid (H9.out.below b10)
      have B10 := B9.trans (b10.mono B9.size)
      clear b10 B9
      have H10 := Lib.hid h10.lies
      clear h10
      go_wp2_with fail
      refine (OM.out _ HM.out).mono ?_
      rintro e w11 ⟨A11, c11, rfl, h11, b11⟩
      have HL := Lib.hid (HL.out.below b11)
      have HM := Lib.hid (HM.out.below b11)
      have H4 := Lib.hid (H4.out.below b11)
      have H5 := Lib.hid (H5.out.below b11)
      have H8 := Lib.hid (H8.out.below b11)
      have H9 := Lib.hid (H9.out.below b11)
      have H10 := Lib.hid (H10.out.below b11)
      have B11 := B10.trans (b11.mono B10.size)
      clear b11 B10
      have H11 := Lib.hid h11.lies
      clear h11
      go_wp2_with fail
      refine (LE.out _ _ _ _ _ H10.out H11.out).mono ?_
      rintro e w12 ⟨rfl, b12⟩
      have HL := Lib.hid (HL.out.below b12)
      have HM := Lib.hid (HM.out.below b12)
      have H4 := Lib.hid (H4.out.below b12)
      have H5 := Lib.hid (H5.out.below b12)
      have H8 := Lib.hid (H8.out.below b12)
      have H9 := Lib.hid (H9.out.below b12)
      have H10 := Lib.hid (H10.out.below b12)
      have H11 := Lib.hid (H11.out.below b12)
      have B12 := B11.trans (b12.mono B11.size)
      clear b12 B11
      clear H10 H11
      go_wp2_with fail
      refine (LR.out _ HL.out HM.out).mono ?_
      rintro e w13 ⟨rfl, b13⟩
      have HL := Lib.hid (HL.out.below b13)
      have HM := Lib.hid (HM.out.below b13)
      have H4 := Lib.hid (H4.out.below b13)
      have H5 := Lib.hid (H5.out.below b13)
      have H8 := Lib.hid (H8.out.below b13)
      have H9 := Lib.hid (H9.out.below b13)
      have B13 := B12.trans (b13.mono B12.size)
      clear b13 B12
      go_wp2_with fail
      refine (S1.out A4 c4 A5 c5 _ H4.out H5.out).mono ?_
      rintro e w14 ⟨rfl, b14⟩
      have HL := Lib.hid (HL.out.below b14)
      have HM := Lib.hid (HM.out.below b14)
      have H4 := Lib.hid (H4.out.below b14)
      have H5 := Lib.hid (H5.out.below b14)
      have H8 := Lib.hid (H8.out.below b14)
      have H9 := Lib.hid (H9.out.below b14)
      have B14 := B13.trans (b14.mono B13.size)
      clear b14 B13
      go_wp2_with fail
      refine (S2.out A8 c8 A9 c9 _ H8.out H9.out).mono ?_
      rintro e w15 ⟨rfl, b15⟩
      have HL := Lib.hid (HL.out.below b15)
      have HM := Lib.hid (HM.out.below b15)
      have H4 := Lib.hid (H4.out.below b15)
      have H5 := Lib.hid (H5.out.below b15)
      have H8 := Lib.hid (H8.out.below b15)
      have H9 := Lib.hid (H9.out.below b15)
      have B15 := B14.trans (b15.mono B14.size)
      clear b15 B14
      go_wp2_with fail
      go_ret
      exact ⟨by first | rfl | simp, B15⟩
set_option maxRecDepth 100000 in
theorem told (W : World) (args : Array Value) (h : Fed Try.prog W [22, 22] args) : Calls Try.prog 4 args W fun e W' => e = .returned (.bool true) ∧ Below W.heap.size W W' := by
  obtain ⟨v0, v1, rfl⟩ := args2 h.count
  obtain ⟨⟨_, o0⟩, r0⟩ := h.each 0 22 v0 rfl rfl
  obtain ⟨⟨_, o1⟩, r1⟩ := h.each 1 22 v1 rfl rfl
  obtain ⟨a0, q0⟩ := r0 opens_times
  obtain ⟨A0, c0, L0, rfl, iL0, hL0, hc0, mL0⟩ := top_times o0 q0
  obtain ⟨a1, q1⟩ := r1 opens_times
  obtain ⟨A1, c1, L1, rfl, iL1, hL1, hc1, mL1⟩ := top_times o1 q1
  exact walk A0 c0 L0 iL0 mL0 hc0 A1 c1 L1 iL1 mL1 hc1 W hL0 hL1

/-! ### The row -/
theorem own : ownKnob Try.prog.godebug = none := by kernel_rfl
theorem laidOut : laidOutB Try.prog = true := by kernel_rfl
set_option maxRecDepth 100000 in
theorem lifted (os : Os) (started : os.Started) (H : Type) (enc : TypeId × Value → H) :
    ReturnsInHanded {} Try.checked os 4 .any (Rows.chainStandsSpec.pre6 enc Try.prog Try.f4 Rows.chainStandsRow.domain false) (Rows.chainStandsSpec.post enc Try.prog Try.f4 false true false false) :=
  lift (C := Try.checked) (fn := Try.f4) (tb := 4) (ts := [22, 22]) own started (by kernel_rfl) Try.func4 laidOut (by kernel_rfl) (by kernel_rfl) (by kernel_rfl) Try.underlying4 rfl
    (fun ds h => by
      match ds, h with
      | [_, _], _ => rfl)
    (ChangeSpec.witness6 (enc := enc) (C := Try.checked) false ⟨#[], #[.slice none 0 0, .slice none 0 0], []⟩ 8 (by kernel_rfl) (by kernel_rfl) (by kernel_rfl) (by kernel_rfl)) told

theorem over : Rows.chainStandsRow.holds Try.pinned (OpenSpec.ofChange Rows.chainStandsSpec) :=
  OpenClaim.holds_of_wide 4 Try.f4 rfl rfl rfl rfl rfl rfl rfl ⟨rfl, rfl, rfl, rfl, rfl⟩ rfl rfl rfl rfl rfl (by kernel_rfl) Try.func4 (by kernel_rfl)
    (of_decide_eq_true (by kernel_rfl)) (by unfold Func.isWrapper; first | (rw [if_pos (by decide +kernel)]; kernel_rfl) | (rw [if_neg (by decide +kernel)]; exact ⟨rfl, rfl⟩))
    (fun os started H enc _ => lifted os started H enc)

theorem proved : Rows.ChainStandsSaid := over
#print axioms proved
end Go.Proofs.Ytmepiogoofmbbaa.chainStands

