/-
  A frontier's bytes are read as it was, whatever follows; no condition.
-/
import Derived.Test.YtmepiogoofmbbaaDoorLw6
import Derived.Test.YtmepiogoofmbbaaDoorBkM6
namespace Go.Proofs.YtmepiogoofmbbaaDoor.chainBack
open Go.ChangeShapes Go.WideShapes Go.ChangeAt Go.RowKit
open Go.Proofs.YtmepiogoofmbbaaDoor.tm Go.Proofs.YtmepiogoofmbbaaDoor.opened Go.Proofs.YtmepiogoofmbbaaDoor.block Go.Proofs.YtmepiogoofmbbaaDoor.stamp Go.Proofs.YtmepiogoofmbbaaDoor.chain Go.Proofs.YtmepiogoofmbbaaDoor.code

theorem cat_str (x : List UInt8) (a : ByteArray) : (⟨x.toArray⟩ : ByteArray) ++ a = ⟨(x ++ a.data.toList).toArray⟩ := ByteArray.ext (by simp)
theorem flat_wrt_len : ∀ V : List Tm, (∀ x ∈ V, Ok x) → (V.map wrtL).flatten.length ≤ 60 * V.length
  | [], _ => by simp
  | x :: r, ok => by
    have h4 := len_wrtL (ok x (by simp)).2
    have h5 := flat_wrt_len r (fun y hy => ok y (by simp [hy]))
    simp only [List.map_cons, List.flatten_cons, List.length_append, List.length_cons]
    omega
set_option maxRecDepth 100000 in
set_option maxHeartbeats 4000000 in
theorem walkT (A : Option Addr) (c : Nat) (L : List Tm) (iL : InL L) (mL : L.length ≤ 4611686018427387903) (a : ByteArray) (wa : a.size ≤ 140737488351232) (w : World) (hE : Env w) (hL : Lt w A L) :
    Calls Tryd.prog 6 #[.slice A L.length c, .string a] w fun r W' => r = .returned (.bool true) ∧ Below w.heap.size w W' := by
  have HE := Lib.hid hE
  have HL := Lib.hid hL
  have B0 : Below w.heap.size w w := Below.refl _ _
  clear hE hL
  go_enter Tryd.func6, Tryd.ntmps6
  go_wp2_with fail
  refine (works6 _ HE.out).mono ?_
  rintro e w1 ⟨rfl, b1⟩
  have HE := Lib.hid (HE.out.below b1)
  have HL := Lib.hid (HL.out.below b1)
  have B1 := B0.trans (b1.mono B0.size)
  clear b1 B0
  clear HE
  by_cases gL : 200 < L.length
  · go_wp2_with fail
    refine (great_yes A c mL gL _).mono ?_
    rintro e w2 ⟨rfl, b2⟩
    have HL := Lib.hid (HL.out.below b2)
    have B2 := B1.trans (b2.mono B1.size)
    clear b2 B1
    go_wp2_with fail
    go_ret
    exact ⟨by first | rfl | simp, B2⟩
  · go_wp2_with fail
    refine (great_no A c mL gL _).mono ?_
    rintro e w2 ⟨rfl, b2⟩
    have HL := Lib.hid (HL.out.below b2)
    have B2 := B1.trans (b2.mono B1.size)
    clear b2 B1
    by_cases gA : 1000 < a.size
    · have gA2 : (1000 : Int) < (a.size : Int) := by omega
      go_wp2_with fail
      go_ret
      exact ⟨by first | rfl | simp, B2⟩
    · have gA2 : ¬ (1000 : Int) < (a.size : Int) := by omega
      go_wp2_with fail
      refine (own_lies A c L (by omega) _ HL.out).mono ?_
      rintro e w3 ⟨A3, c3, rfl, h3, b3⟩
      have HL := Lib.hid (HL.out.below b3)
      have B3 := B2.trans (b3.mono B2.size)
      clear b3 B2
      have KL := Lib.hid h3
      clear h3
      have MK := Lib.hid (make_any A3 c3 L iL mL)
      have FL := Lib.hid (fun h => (make_zero (L := L) (h := iL) h).2.1)
      generalize makeE L iL = eL at FL MK
      generalize makeV L iL = V at FL MK
      go_wp2_with fail
      refine (MK.out _ KL.out).mono ?_
      rintro e w4 ⟨A4, c4, rfl, h4, b4⟩
      have HL := Lib.hid (HL.out.below b4)
      have KL := Lib.hid (KL.out.below b4)
      have B4 := B3.trans (b4.mono B3.size)
      clear b4 B3
      have R := Lib.hid h4
      clear h4
      clear MK
      clear KL HL
      by_cases zL : eL = 0
      · subst zL
        have f := FL.out rfl
        have j := front_in f
        have few := f.few
        have EW := check_front f j
        obtain ⟨rv, re, rq⟩ := read_wrt f j a.data.toList
        have hX : (chWrt V j).length ≤ 3850 := by
          unfold chWrt
          rw [if_pos EW, join_flat, List.length_append]
          have h2 := len_encI (V.length : Int)
          have h3 := flat_wrt_len V f.ok
          omega
        have h2 : a.data.toList.length = a.size := by rw [Array.length_toList]; rfl
        have hlen : (chWrt V j ++ a.data.toList).length ≤ 9223372036854775807 := by
          rw [List.length_append, h2]
          omega
        have la : a.data.toList.length = a.size := by rw [Array.length_toList]; rfl
        go_wp2_with fail
        refine (own_lies A4 c4 V (by omega) _ R.out).mono ?_
        rintro e w5 ⟨A5, c5, rfl, h5, b5⟩
        have R := Lib.hid (R.out.below b5)
        have B5 := B4.trans (b5.mono B4.size)
        clear b5 B4
        have KV := Lib.hid h5
        clear h5
        have CW := Lib.hid (chWrite A5 c5 V j (by omega))
        rw [EW] at CW
        have SA := cat_str (chWrt V j) a
        generalize chWrt V j = X at CW SA rv re rq hlen hX
        clear EW
        go_wp2_with fail
        refine (CW.out _ KV.out).mono ?_
        rintro e w6 ⟨rfl, b6⟩
        have R := Lib.hid (R.out.below b6)
        have KV := Lib.hid (KV.out.below b6)
        have B6 := B5.trans (b6.mono B5.size)
        clear b6 B5
        clear KV
        go_wp2_with fail
        clear SA
        refine (new_l (X ++ a.data.toList) _).mono ?_
        rintro e w7 ⟨rfl, hq, gb⟩
        have b7 : Below w6.heap.size w6 w7 := (Below.refl _ _).grown gb (Nat.le_refl _) (fun j ej => by cases ej)
        have HQ : Hid (QA w7 w6.heap.size (X ++ a.data.toList, 0)) := Lib.hid hq
        have RA := Lib.hid (chRead_any w6.heap.size (X ++ a.data.toList, 0) hlen _ HQ.out)
        rw [rv, re, rq] at RA
        go_wp2_with fail
        refine RA.out.mono ?_
        rintro e w8 ⟨D, cD, rfl, hD, hQ, gr⟩
        have b8 : Below w6.heap.size w6 w8 := b7.grown gr b7.size (fun j ej => by have := Option.some.inj ej; omega)
        have R := Lib.hid (R.out.below b8)
        have B8 := B6.trans (b8.mono B6.size)
        have HD := Lib.hid hD
        have H1 := Lib.hid hQ
        clear hD hQ gb gr hq HQ RA b7 b8 B6
        generalize w6.heap.size = gq at H1 ⊢
        go_wp2_with fail
        refine (same_self D A4 cD c4 V (by omega) _ HD.out R.out).mono ?_
        rintro e w9 ⟨rfl, b9⟩
        have R := Lib.hid (R.out.below b9)
        have B9 := B8.trans (b9.mono B8.size)
        have bb := b9
        clear b9 B8
        have H1 : Hid (QA w9 gq (a.data.toList, 0)) := Lib.hid (Whole.below H1.out bb (Whole.inside H1.out))
        have LF := left6 gq a.data.toList 0 _ H1.out
        rw [la] at LF
        have LF := Lib.hid LF
        have ER := Lib.hid (errQA gq (a.data.toList, 0) _ H1.out)
        go_wp2_with fail
        refine LF.out.mono ?_
        rintro e w10 ⟨rfl, rfl⟩
        go_wp2_with fail
        refine ER.out.mono ?_
        rintro e w11 ⟨rfl, rfl⟩
        go_wp2_with fail
        go_ret
        exact ⟨by first | rfl | simp, by first | exact B9⟩
      · go_wp2_with fail
        go_ret
        exact ⟨by first | rfl | simp, B4⟩
set_option maxRecDepth 100000 in
theorem told (W : World) (args : Array Value) (hE : Env W) (h : Fed Tryd.prog W [22, 9] args) : Calls Tryd.prog 6 args W fun e W' => e = .returned (.bool true) ∧ Below W.heap.size W W' := by
  obtain ⟨v0, v1, rfl⟩ := args2 h.count
  obtain ⟨⟨_, o0⟩, r0⟩ := h.each 0 22 v0 rfl rfl
  obtain ⟨⟨_, o1⟩, r1⟩ := h.each 1 9 v1 rfl rfl
  obtain ⟨a0, q0⟩ := r0 opens_times
  obtain ⟨A0, c0, L0, rfl, iL0, hL0, hc0, mL0⟩ := top_times o0 q0
  obtain ⟨a1, q1⟩ := r1 (opens_str Tryd.underlying9)
  obtain ⟨rfl, w1⟩ := top_str Tryd.underlying9 o1 q1
  exact walkT A0 c0 L0 iL0 mL0 a1 w1 W hE hL0

/-! ### The row and the card -/
set_option maxRecDepth 100000 in
theorem lifted (os : Os) (started : os.Started) (H : Type) (enc : TypeId × Value → H) :
    ReturnsInHanded {} Tryd.checked os 6 .any (fun w args => (Rows.chainBackSpec.pre enc Tryd.prog Tryd.f6 Rows.chainBackRow.domain false w args ∧ laidMetH Tryd.prog Rows.chainBackRow.laid w) ∧ sizedMet enc Tryd.prog Tryd.f6 (OpenSpec.ofChange Rows.chainBackSpec) false w args) (Rows.chainBackSpec.post enc Tryd.prog Tryd.f6 false true false false) :=
  liftL (ts := [22, 9]) rfl started (by kernel_rfl) Tryd.func6 (by kernel_rfl) (by kernel_rfl) (by kernel_rfl) rfl
    (fun ds h => by
      match ds, h with
      | [_, _], _ => rfl)
    (ChangeSpec.witness_shaped (enc := enc) (C := Tryd.checked) (os := os) (X := fun w _ => laidMetH Tryd.prog laid7 w) false (Go.Proofs.YtmepiogoofmbbaaDoor.stamp.start os) #[.slice none 0 0, .string ByteArray.empty] 8 (World.laidAll_os _ _ _)
      (World.shaped_of_ZipB (by kernel_rfl) (by kernel_rfl)) (by kernel_rfl) (by kernel_rfl) (by kernel_rfl) (start_met os _)) told

theorem over : Rows.ChainBackSaid :=
  OpenClaim.holds_of_wide 6 Tryd.f6 rfl rfl rfl rfl rfl rfl rfl ⟨rfl, rfl, rfl, rfl, rfl⟩ rfl rfl rfl rfl rfl (by kernel_rfl) Tryd.func6 (by kernel_rfl)
    (of_decide_eq_true (by kernel_rfl)) (by unfold Func.isWrapper; first | (rw [if_pos (by decide +kernel)]; kernel_rfl) | (rw [if_neg (by decide +kernel)]; exact ⟨rfl, rfl⟩))
    (fun os started H enc _ => lifted os started H enc)

theorem proved : Rows.ChainBackCardSaid :=
  Claim7.holds_tied_plain_at .later [] [.data, .data, .data] true (true, "f827beb75ba331ec15cc7265a1360425f7692638d53d3e072fa10e4f98849f90") false
    over (fun _ h => by cases h) (by kernel_rfl) (fun _ h => by cases h) chainBack_row_tie rfl ⟨rfl, rfl⟩ (by kernel_rfl) rfl
    (fun f fn hf hfn => by
      obtain rfl : f = 6 := Option.some.inj ((show Tryd.prog.funcNamed "watershed/watershedlaw06.ChainBack" = some 6 by kernel_rfl).symm.trans hf) |>.symm
      obtain rfl : fn = Tryd.f6 := (Option.some.inj (Tryd.func6.symm.trans hfn)).symm
      exact ⟨by kernel_rfl, fun j t ht => by
        rw [Tryd.params6] at ht
        have hm : t ∈ [22, 9] := by simpa using Array.mem_of_getElem? ht
        have hall : ([22, 9].all fun u => !Tryd.prog.wantsStandIn u) = true := by kernel_rfl
        exact (show Tryd.prog.wantsStandIn t = false by simpa using List.all_eq_true.1 hall t hm)⟩)
    (by kernel_rfl)
#print axioms proved

end Go.Proofs.YtmepiogoofmbbaaDoor.chainBack
