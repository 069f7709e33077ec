/-
  The contracts of chain.Meet and watershedref06.Meet.
-/
import Derived.Test.YtmepiogoofmbbaaBth
import Derived.Test.YtmepiogoofmbbaaCat
namespace Go.Proofs.Ytmepiogoofmbbaa.chain
open Go.ChangeShapes Go.WideShapes Go.ChangeAt Go.RowKit Go.Shelf Go.Sort
open Go.Proofs.Ytmepiogoofmbbaa.tm Go.Proofs.Ytmepiogoofmbbaa.opened Go.Proofs.Ytmepiogoofmbbaa.block Go.Proofs.Ytmepiogoofmbbaa.stamp

theorem meet_bad {A B : List Tm} {iA : InL A} {iB : InL B} (h : bothE A B iA iB ≠ 0) : meetLE A B iA iB = bothE A B iA iB ∧ meetLV A B iA iB = [] :=
  ⟨by unfold meetLE; rw [if_pos h], by unfold meetLV; rw [if_pos h]⟩
theorem meet_good {A B : List Tm} {iA : InL A} {iB : InL B} (h : bothE A B iA iB = 0) : meetLE A B iA iB = makeE (A ++ B) (in_app iA iB) ∧ meetLV A B iA iB = makeV (A ++ B) (in_app iA iB) := by
  have n : ¬ bothE A B iA iB ≠ 0 := fun q => q h
  exact ⟨by unfold meetLE; rw [if_neg n], by unfold meetLV; rw [if_neg n]⟩
theorem both_few {A B : List Tm} {iA : InL A} {iB : InL B} (h : bothE A B iA iB = 0) : A.length ≤ 64 ∧ B.length ≤ 64 := ⟨(both_ok h).1.few, (both_ok h).2.1.few⟩
set_option maxRecDepth 100000 in
theorem meet_chain (A B : Option Addr) (c d : Nat) (L M : List Tm) (iL : InL L) (iM : InL M) (mL : L.length ≤ 4611686018427387903) (mM : M.length ≤ 4611686018427387903) (w : World) (hL : Lt w A L) (hM : Lt w B M) :
    Calls Try.prog 20 #[.slice A L.length c, .slice B M.length d] w fun e W' => ∃ D c', e = .returned (.tuple #[.slice D (meetLV L M iL iM).length c', .int .i64 (meetLE L M iL iM)]) ∧ Lt W' D (meetLV L M iL iM) ∧ Below w.heap.size w W' := by
  have HL := Lib.hid hL
  have HM := Lib.hid hM
  have CB := Lib.hid (checkBoth_any A B c d L M iL iM mL mM)
  clear hL hM
  by_cases h : bothE L M iL iM = 0
  · obtain ⟨e1, e2⟩ := meet_good h
    obtain ⟨f1, f2⟩ := both_few h
    have CC := Lib.hid (fun (g : Nat) (W : World) => concat_any g A B c d L M (by omega) (by omega) W)
    have MK := fun D c' => make_any D c' (L ++ M) (in_app iL iM) (by rw [List.length_append]; omega)
    simp only [List.length_append] at MK
    have MK := Lib.hid MK
    rw [e1, e2]
    rw [h] at CB
    generalize makeE (L ++ M) (in_app iL iM) = m at MK ⊢
    generalize makeV (L ++ M) (in_app iL iM) = V at MK ⊢
    clear e1 e2 h
    go_enter Try.func20, Try.ntmps20
    go_wp2_with fail
    refine (CB.out _ HL.out HM.out).mono ?_
    rintro e w1 ⟨rfl, b1⟩
    have h2 := fresh1 w1 (.cells #[.slice A L.length c, .slice B M.length d] 22)
    have O := Lib.hid (Whole.fresh w1 22 #[.slice A L.length c, .slice B M.length d])
    have CC := Lib.hid (CC.out w1.heap.size _ ((HL.out.below b1).below h2) ((HM.out.below b1).below h2) O.out)
    clear O
    go_wp2_with fail
    refine CC.out.mono ?_
    rintro e w3 ⟨D, c3, rfl, h3, b3⟩
    have H3 := Lib.hid h3.lies
    clear h3 CC
    go_wp2_with fail
    refine (MK.out _ _ _ H3.out).mono ?_
    rintro e w4 ⟨E, c4, rfl, h4, b4⟩
    have H4 := Lib.hid h4
    clear h4
    go_wp2_with fail
    go_ret2
    exact ⟨E, c4, rfl, H4.out, b1.trans ((h2.trans ((b3.trans (b4.mono b3.size)).mono h2.size)).mono b1.size)⟩
  · obtain ⟨e1, e2⟩ := meet_bad h
    rw [e1, e2]
    generalize bothE L M iL iM = m at CB h ⊢
    go_enter Try.func20, Try.ntmps20
    go_wp2_with fail
    refine (CB.out _ HL.out HM.out).mono ?_
    rintro e w1 ⟨rfl, b1⟩
    go_wp2_with fail
    go_ret2
    exact ⟨none, 0, rfl, Lt.nil _ _, b1⟩
set_option maxRecDepth 100000 in
theorem meetR_chain (A B : Option Addr) (c d : Nat) (L M : List Tm) (iL : InL L) (iM : InL M) (mL : L.length ≤ 4611686018427387903) (mM : M.length ≤ 4611686018427387903) (w : World) (hL : Lt w A L) (hM : Lt w B M) :
    Calls Try.prog 21 #[.slice A L.length c, .slice B M.length d] w fun e W' => ∃ D c', e = .returned (.tuple #[.slice D (meetLV L M iL iM).length c', .int .i64 (meetLE L M iL iM)]) ∧ Lt W' D (meetLV L M iL iM) ∧ Below w.heap.size w W' := by
  have HL := Lib.hid hL
  have HM := Lib.hid hM
  have CB := Lib.hid (bothR_any A B c d L M iL iM mL mM)
  clear hL hM
  by_cases h : bothE L M iL iM = 0
  · obtain ⟨e1, e2⟩ := meet_good h
    obtain ⟨f1, f2⟩ := both_few h
    have MK := fun D c' => makeR_any D c' (L ++ M) (in_app iL iM) (by rw [List.length_append]; omega)
    simp only [List.length_append] at MK
    have MK := Lib.hid MK
    rw [e1, e2]
    rw [h] at CB
    generalize makeE (L ++ M) (in_app iL iM) = m at MK ⊢
    generalize makeV (L ++ M) (in_app iL iM) = V at MK ⊢
    clear e1 e2 h
    go_enter Try.func21, Try.ntmps21
    go_wp2_with fail
    refine (CB.out _ HL.out HM.out).mono ?_
    rintro e w1 ⟨rfl, b1⟩
    have h2 := fresh1 w1 (.cells #[] 26)
    have HL2 := Lib.hid ((HL.out.below b1).below h2)
    have HM1 := Lib.hid (HM.out.below b1)
    have O := Lib.hid (own0 w1)
    go_upto_region 4 with fail
    go_wp2_with (first
      | (at_builtin; refine wp_app rfl _ _ rfl w1.heap.size _ [] rfl O.out A _ c L rfl rfl HL2.out (by simp; omega) h2.size ?_; intro B3 c3 w3 h3 b3; have H3 := Lib.hid h3; have B3' := h2.trans b3; have HM3 := Lib.hid (HM1.out.below B3'); clear h3)
      | (at_builtin; refine wp_app rfl _ _ rfl w1.heap.size _ ([] ++ L) rfl H3.out B _ d M rfl rfl HM3.out (by simp; omega) B3'.size ?_; intro B5 c5 w5 h5 b5; have H5 := Lib.hid h5.lies; have B5' := B3'.trans b5; clear h5)
      | fail)
    refine (MK.out _ _ _ H5.out).mono ?_
    rintro e w6 ⟨E, c6, rfl, h6, b6⟩
    have H6 := Lib.hid h6
    clear h6
    go_wp2_with fail
    go_ret2
    exact ⟨E, c6, rfl, H6.out, b1.trans ((B5'.trans (b6.mono B5'.size)).mono b1.size)⟩
  · obtain ⟨e1, e2⟩ := meet_bad h
    rw [e1, e2]
    generalize bothE L M iL iM = m at CB h ⊢
    go_enter Try.func21, Try.ntmps21
    go_wp2_with fail
    refine (CB.out _ HL.out HM.out).mono ?_
    rintro e w1 ⟨rfl, b1⟩
    go_wp2_with fail
    go_ret2
    exact ⟨none, 0, rfl, Lt.nil _ _, b1⟩
end Go.Proofs.Ytmepiogoofmbbaa.chain
