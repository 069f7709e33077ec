/-
  WordsBack: a number in digits says that number; what a word says has just that word, and a word that says none gives the error and 0. No condition.
-/
import Derived.Test.YtpjlefdigpejdaaDoorWl
import Derived.Test.YtpjlefdigpejdaaDoorTie
import Derived.Test.YtpjlefdigpejdaaDoorCards
namespace Go.Proofs.YtpjlefdigpejdaaDoor.words
open Go.ChangeShapes Go.WideShapes Go.ChangeAt Go.RowKit
open Go.Proofs.YtpjlefdigpejdaaDoor.opened Go.Proofs.YtpjlefdigpejdaaDoor.block

theorem sg_twice (s : Bs) : (sgE s = 0 ∧ Lib.itoa (sgV s) = s) ∨ (sgE s = 6 ∧ sgV s = 0) := by
  cases h : sgP s with
  | none => exact .inr (sgE_none h)
  | some v =>
    obtain ⟨e1, e2⟩ := sgE_some h
    exact .inl ⟨e1, by rw [e2]; exact (sg_some h).1⟩
set_option maxRecDepth 100000 in
set_option maxHeartbeats 1000000 in
theorem walkB (v : Int) (h0 : -9223372036854775808 ≤ v) (h1 : v ≤ 9223372036854775807) (s : Bs) (W : World) (hE : Env W) :
    Calls Tryd.prog 5 #[.int .i64 v, .string ⟨s.toArray⟩] W fun e w' => e = .returned (.bool true) ∧ Below W.heap.size W w' := by
  have E0 := Lib.hid hE
  have CW := Lib.hid (works_any W hE)
  clear hE
  by_cases hs : s.length ≤ 5000
  · have CA := Lib.hid (fun w2 h2 => number_any v h0 h1 w2 h2)
    have hlen : (Lib.itoa v).length ≤ 20 := (itoa_shape v h0 h1).1
    have CB := Lib.hid (fun w2 h2 => signed_any (Lib.itoa v) (by omega) w2 h2)
    rw [(sgE_some (sg_itoa v h0 h1)).1, (sgE_some (sg_itoa v h0 h1)).2] at CB
    have CC := Lib.hid (fun w2 h2 => signed_any s (by omega) w2 h2)
    have hb := sg_bounds s
    have CD := Lib.hid (fun w2 h2 => number_any (sgV s) hb.1 hb.2 w2 h2)
    have hs' : ¬ (5000 : Int) < (s.length : Int) := by omega
    have hz := sg_twice s
    clear hs h0 h1 hb hlen
    generalize Lib.itoa v = t at CA CB
    rcases hz with ⟨z1, z2⟩ | ⟨z1, z2⟩
    · rw [z2] at CD
      rw [z1] at CC
      clear z1 z2
      generalize sgV s = n at CC CD
      go_enter Tryd.func5, Tryd.ntmps5
      go_wp2_with fail
      refine CW.out.mono ?_
      rintro e w1 ⟨rfl, b1⟩
      have E1 := Lib.hid (E0.out.below b1)
      have B1 := Lib.hid b1
      clear b1 CW
      go_wp2_with fail
      refine (CA.out _ E1.out).mono ?_
      rintro e w2 ⟨rfl, b2⟩
      have E2 := Lib.hid (E1.out.below b2)
      have B2 := Lib.hid (then_below B1.out b2)
      clear b2 CA E1 B1
      go_wp2_with fail
      refine (CB.out _ E2.out).mono ?_
      rintro e w3 ⟨rfl, b3⟩
      have E3 := Lib.hid (E2.out.below b3)
      have B3 := Lib.hid (then_below B2.out b3)
      clear b3 CB E2 B2
      go_wp2_with fail
      refine (CC.out _ E3.out).mono ?_
      rintro e w4 ⟨rfl, b4⟩
      have E4 := Lib.hid (E3.out.below b4)
      have B4 := Lib.hid (then_below B3.out b4)
      clear b4 CC E3 B3
      go_wp2_with fail
      refine (CD.out _ E4.out).mono ?_
      rintro e w5 ⟨rfl, b5⟩
      have B5 := Lib.hid (then_below B4.out b5)
      clear b5 CD E4 B4
      go_wp2_with fail
      go_ret
      exact ⟨by first | rfl | simp, B5.out⟩
    · rw [z1, z2] at CC
      clear z1 z2 CD
      go_enter Tryd.func5, Tryd.ntmps5
      go_wp2_with fail
      refine CW.out.mono ?_
      rintro e w1 ⟨rfl, b1⟩
      have E1 := Lib.hid (E0.out.below b1)
      have B1 := Lib.hid b1
      clear b1 CW
      go_wp2_with fail
      refine (CA.out _ E1.out).mono ?_
      rintro e w2 ⟨rfl, b2⟩
      have E2 := Lib.hid (E1.out.below b2)
      have B2 := Lib.hid (then_below B1.out b2)
      clear b2 CA E1 B1
      go_wp2_with fail
      refine (CB.out _ E2.out).mono ?_
      rintro e w3 ⟨rfl, b3⟩
      have E3 := Lib.hid (E2.out.below b3)
      have B3 := Lib.hid (then_below B2.out b3)
      clear b3 CB E2 B2
      go_wp2_with fail
      refine (CC.out _ E3.out).mono ?_
      rintro e w4 ⟨rfl, b4⟩
      have B4 := Lib.hid (then_below B3.out b4)
      clear b4 CC E3 B3
      go_wp2_with fail
      go_ret
      exact ⟨by first | rfl | simp, B4.out⟩
  · have hs' : (5000 : Int) < (s.length : Int) := by omega
    go_enter Tryd.func5, Tryd.ntmps5
    go_wp2_with fail
    refine CW.out.mono ?_
    rintro e w1 ⟨rfl, b1⟩
    have B1 := Lib.hid b1
    clear b1 CW
    go_wp2_with fail
    go_ret
    exact ⟨rfl, B1.out⟩
set_option maxRecDepth 100000 in
theorem told (W : World) (args : Array Value) (hE : Env W) (h : Fed Tryd.prog W [2, 9] args) : Calls Tryd.prog 5 args W fun e W' => e = .returned (.bool true) ∧ Below W.heap.size W W' := by
  obtain ⟨v0, v1, rfl⟩ := args2 h.count
  obtain ⟨⟨_, o0⟩, r0⟩ := h.each 0 2 v0 rfl rfl
  obtain ⟨⟨_, o1⟩, r1⟩ := h.each 1 9 v1 rfl rfl
  obtain ⟨a0, q0⟩ := r0 (opens_int Tryd.underlying2)
  obtain ⟨rfl, w0⟩ := top_int Tryd.underlying2 o0 q0
  have u0 := bounds_i64 w0
  obtain ⟨a1, q1⟩ := r1 (opens_str Tryd.underlying9)
  obtain ⟨rfl, -⟩ := top_str Tryd.underlying9 o1 q1
  obtain ⟨s1, rfl⟩ : ∃ s : Bs, a1 = ⟨s.toArray⟩ := ⟨a1.data.toList, (Lib.mk_data a1).symm⟩
  exact walkB a0 u0.1 (by omega) s1 W hE

/-! ### The row and the card -/
set_option maxRecDepth 100000 in
theorem lifted (os : Os) (started : os.Started) (H : Type) (enc : TypeId × Value → H) :
    ReturnsInHanded {} Tryd.checked os 5 .any (fun w args => (Rows.wordsBackSpec.pre enc Tryd.prog Tryd.f5 Rows.wordsBackRow.domain false w args ∧ laidMetH Tryd.prog Rows.wordsBackRow.laid w) ∧ sizedMet enc Tryd.prog Tryd.f5 (OpenSpec.ofChange Rows.wordsBackSpec) false w args) (Rows.wordsBackSpec.post enc Tryd.prog Tryd.f5 false true false false) :=
  liftL (ts := [2, 9]) rfl started (by kernel_rfl) Tryd.func5 (by kernel_rfl) (by kernel_rfl) (by kernel_rfl) rfl
    (fun ds h => by
      match ds, h with
      | [_, _], _ => rfl)
    (ChangeSpec.witness_shaped (enc := enc) (C := Tryd.checked) (os := os) (X := fun w _ => laidMetH Tryd.prog laid7 w) false (start os) #[.int .i64 0, .string ByteArray.empty] 8 (World.laidAll_os _ _ _)
      (World.shaped_of_ZipB (by kernel_rfl) (by kernel_rfl)) (by kernel_rfl) (by kernel_rfl) (by kernel_rfl) (start_met os _)) told

theorem over : Rows.WordsBackSaid :=
  OpenClaim.holds_of_wide 5 Tryd.f5 rfl rfl rfl rfl rfl rfl rfl ⟨rfl, rfl, rfl, rfl, rfl⟩ rfl rfl rfl rfl rfl (by kernel_rfl) Tryd.func5 (by kernel_rfl)
    (of_decide_eq_true (by kernel_rfl)) (by unfold Func.isWrapper; first | (rw [if_pos (by decide +kernel)]; kernel_rfl) | (rw [if_neg (by decide +kernel)]; exact ⟨rfl, rfl⟩))
    (fun os started H enc _ => lifted os started H enc)

theorem proved : Rows.WordsBackCardSaid :=
  Claim7.holds_tied_plain_at .later [] [.data, .data, .data, .sentinel, .sentinel] true (true, "d97da756dc9a7339d1fcfcf0344af9df7f8a4f6543b6eaac3464ce5d63d6995c") true
    over (fun _ h => by cases h) (by kernel_rfl) (fun _ h => by cases h) wordsBack_row_tie rfl ⟨rfl, rfl⟩ (by kernel_rfl) rfl
    (fun f fn hf hfn => by
      obtain rfl : f = 5 := Option.some.inj ((show Tryd.prog.funcNamed "watershed/watershedlaw08.WordsBack" = some 5 by kernel_rfl).symm.trans hf) |>.symm
      obtain rfl : fn = Tryd.f5 := (Option.some.inj (Tryd.func5.symm.trans hfn)).symm
      exact ⟨by kernel_rfl, fun j t ht => by
        rw [Tryd.params5] at ht
        have hm : t ∈ [2, 9] := by simpa using Array.mem_of_getElem? ht
        have hall : ([2, 9].all fun u => !Tryd.prog.wantsStandIn u) = true := by kernel_rfl
        exact (show Tryd.prog.wantsStandIn t = false by simpa using List.all_eq_true.1 hall t hm)⟩)
    (by kernel_rfl)
#print axioms proved
end Go.Proofs.YtpjlefdigpejdaaDoor.words
