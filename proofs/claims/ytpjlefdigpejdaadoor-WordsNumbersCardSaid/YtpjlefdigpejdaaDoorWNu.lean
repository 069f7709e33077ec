/-
  WordsNumbers: any number in digits is the document's; what number any word says, within any bounds, is the document's answer. No condition.
-/
import Derived.Test.YtpjlefdigpejdaaDoorWl
import Derived.Test.YtpjlefdigpejdaaDoorTie
import Derived.Test.YtpjlefdigpejdaaDoorCards
namespace Go.Proofs.YtpjlefdigpejdaaDoor.words
open Go.ChangeShapes Go.WideShapes Go.ChangeAt Go.RowKit
open Go.Proofs.YtpjlefdigpejdaaDoor.opened Go.Proofs.YtpjlefdigpejdaaDoor.block

set_option maxRecDepth 100000 in
set_option maxHeartbeats 1000000 in
theorem walkN (v : Int) (h0 : -9223372036854775808 ≤ v) (h1 : v ≤ 9223372036854775807) (s : Bs) (low high : Int) (W : World) (hE : Env W) :
    Calls Tryd.prog 3 #[.int .i64 v, .string ⟨s.toArray⟩, .int .i64 low, .int .i64 high] W fun e w' => e = .returned (.bool true) ∧ Below W.heap.size W w' := by
  by_cases hs : s.length ≤ 5000
  · have E0 := Lib.hid hE
    have CA := Lib.hid (fun w2 h2 => signed_any s (by omega) w2 h2)
    have CB := Lib.hid (fun w2 => signedR_any s (by omega) w2)
    have CC := Lib.hid (fun w2 h2 => int_any s (by omega) low high w2 h2)
    have CD := Lib.hid (fun w2 => intR_any s (by omega) low high w2)
    have CE := Lib.hid (fun w2 h2 => number_any v h0 h1 w2 h2)
    have CF := Lib.hid (fun w2 => numberR_any v h0 h1 w2)
    have hs' : ¬ (5000 : Int) < (s.length : Int) := by omega
    clear hE hs h0 h1
    generalize sgV s = n1 at CA CB
    generalize sgE s = n2 at CA CB
    generalize inV s low high = n3 at CC CD
    generalize inE s low high = n4 at CC CD
    generalize Lib.itoa v = t at CE CF
    go_enter Tryd.func3, Tryd.ntmps3
    go_wp2_with fail
    refine (CA.out _ E0.out).mono ?_
    rintro e w1 ⟨rfl, b1⟩
    have E1 := Lib.hid (E0.out.below b1)
    have B1 := Lib.hid b1
    clear b1 CA
    go_wp2_with fail
    refine (CB.out _).mono ?_
    rintro e w2 ⟨rfl, b2⟩
    have E2 := Lib.hid (E1.out.below b2)
    have B2 := Lib.hid (then_below B1.out b2)
    clear b2 CB E1 B1
    go_wp2_with fail
    refine (CC.out _ E2.out).mono ?_
    rintro e w3 ⟨rfl, b3⟩
    have E3 := Lib.hid (E2.out.below b3)
    have B3 := Lib.hid (then_below B2.out b3)
    clear b3 CC E2 B2
    go_wp2_with fail
    refine (CD.out _).mono ?_
    rintro e w4 ⟨rfl, b4⟩
    have E4 := Lib.hid (E3.out.below b4)
    have B4 := Lib.hid (then_below B3.out b4)
    clear b4 CD E3 B3
    go_wp2_with fail
    refine (CE.out _ E4.out).mono ?_
    rintro e w5 ⟨rfl, b5⟩
    have B5 := Lib.hid (then_below B4.out b5)
    clear b5 CE E4 B4
    go_wp2_with fail
    refine (CF.out _).mono ?_
    rintro e w6 ⟨rfl, b6⟩
    have B6 := Lib.hid (then_below B5.out b6)
    clear b6 CF B5
    go_wp2_with fail
    go_ret
    exact ⟨by first | rfl | simp, B6.out⟩
  · have hs' : (5000 : Int) < (s.length : Int) := by omega
    go_enter Tryd.func3, Tryd.ntmps3
    go_wp2_with fail
    go_ret
    exact ⟨rfl, Below.refl _ _⟩
set_option maxRecDepth 100000 in
theorem told (W : World) (args : Array Value) (hE : Env W) (h : Fed Tryd.prog W [2, 9, 3, 3] args) : Calls Tryd.prog 3 args W fun e W' => e = .returned (.bool true) ∧ Below W.heap.size W W' := by
  obtain ⟨v0, v1, v2, v3, rfl⟩ := args4 h.count
  obtain ⟨⟨_, o0⟩, r0⟩ := h.each 0 2 v0 rfl rfl
  obtain ⟨⟨_, o1⟩, r1⟩ := h.each 1 9 v1 rfl rfl
  obtain ⟨⟨_, o2⟩, r2⟩ := h.each 2 3 v2 rfl rfl
  obtain ⟨⟨_, o3⟩, r3⟩ := h.each 3 3 v3 rfl rfl
  obtain ⟨a0, q0⟩ := r0 (opens_int Tryd.underlying2)
  obtain ⟨rfl, w0⟩ := top_int Tryd.underlying2 o0 q0
  have u0 := bounds_i64 w0
  obtain ⟨a1, q1⟩ := r1 (opens_str Tryd.underlying9)
  obtain ⟨rfl, -⟩ := top_str Tryd.underlying9 o1 q1
  obtain ⟨s1, rfl⟩ : ∃ s : Bs, a1 = ⟨s.toArray⟩ := ⟨a1.data.toList, (Lib.mk_data a1).symm⟩
  obtain ⟨a2, q2⟩ := r2 (opens_int Tryd.underlying3)
  obtain ⟨rfl, -⟩ := top_int Tryd.underlying3 o2 q2
  obtain ⟨a3, q3⟩ := r3 (opens_int Tryd.underlying3)
  obtain ⟨rfl, -⟩ := top_int Tryd.underlying3 o3 q3
  exact walkN a0 u0.1 (by omega) s1 a2 a3 W hE

/-! ### The row and the card -/
set_option maxRecDepth 100000 in
theorem lifted (os : Os) (started : os.Started) (H : Type) (enc : TypeId × Value → H) :
    ReturnsInHanded {} Tryd.checked os 3 .any (fun w args => (Rows.wordsNumbersSpec.pre enc Tryd.prog Tryd.f3 Rows.wordsNumbersRow.domain false w args ∧ laidMetH Tryd.prog Rows.wordsNumbersRow.laid w) ∧ sizedMet enc Tryd.prog Tryd.f3 (OpenSpec.ofChange Rows.wordsNumbersSpec) false w args) (Rows.wordsNumbersSpec.post enc Tryd.prog Tryd.f3 false true false false) :=
  liftL (ts := [2, 9, 3, 3]) rfl started (by kernel_rfl) Tryd.func3 (by kernel_rfl) (by kernel_rfl) (by kernel_rfl) rfl
    (fun ds h => by
      match ds, h with
      | [_, _, _, _], _ => rfl)
    (ChangeSpec.witness_shaped (enc := enc) (C := Tryd.checked) (os := os) (X := fun w _ => laidMetH Tryd.prog laid7 w) false (start os) #[.int .i64 0, .string ByteArray.empty, .int .i64 0, .int .i64 0] 8 (World.laidAll_os _ _ _)
      (World.shaped_of_ZipB (by kernel_rfl) (by kernel_rfl)) (by kernel_rfl) (by kernel_rfl) (by kernel_rfl) (start_met os _)) told

theorem over : Rows.WordsNumbersSaid :=
  OpenClaim.holds_of_wide 3 Tryd.f3 rfl rfl rfl rfl rfl rfl rfl ⟨rfl, rfl, rfl, rfl, rfl⟩ rfl rfl rfl rfl rfl (by kernel_rfl) Tryd.func3 (by kernel_rfl)
    (of_decide_eq_true (by kernel_rfl)) (by unfold Func.isWrapper; first | (rw [if_pos (by decide +kernel)]; kernel_rfl) | (rw [if_neg (by decide +kernel)]; exact ⟨rfl, rfl⟩))
    (fun os started H enc _ => lifted os started H enc)

theorem proved : Rows.WordsNumbersCardSaid :=
  Claim7.holds_tied_plain_at .later [] [.data, .data, .data, .sentinel, .sentinel] true (true, "d97da756dc9a7339d1fcfcf0344af9df7f8a4f6543b6eaac3464ce5d63d6995c") true
    over (fun _ h => by cases h) (by kernel_rfl) (fun _ h => by cases h) wordsNumbers_row_tie rfl ⟨rfl, rfl⟩ (by kernel_rfl) rfl
    (fun f fn hf hfn => by
      obtain rfl : f = 3 := Option.some.inj ((show Tryd.prog.funcNamed "watershed/watershedlaw08.WordsNumbers" = some 3 by kernel_rfl).symm.trans hf) |>.symm
      obtain rfl : fn = Tryd.f3 := (Option.some.inj (Tryd.func3.symm.trans hfn)).symm
      exact ⟨by kernel_rfl, fun j t ht => by
        rw [Tryd.params3] at ht
        have hm : t ∈ [2, 9, 3, 3] := by simpa using Array.mem_of_getElem? ht
        have hall : ([2, 9, 3, 3].all fun u => !Tryd.prog.wantsStandIn u) = true := by kernel_rfl
        exact (show Tryd.prog.wantsStandIn t = false by simpa using List.all_eq_true.1 hall t hm)⟩)
    (by kernel_rfl)
#print axioms proved
end Go.Proofs.YtpjlefdigpejdaaDoor.words
