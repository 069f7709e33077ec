/-
  The contracts of watershedref06.Check and watershedlaw06.own.
-/
import Derived.Test.YtmepiogoofmbbaaMaRn
import Derived.Test.YtmepiogoofmbbaaFr2
namespace Go.Proofs.Ytmepiogoofmbbaa.chain
open Go.ChangeShapes Go.WideShapes Go.ChangeAt Go.RowKit Go.Shelf Go.Sort
open Go.Proofs.Ytmepiogoofmbbaa.tm Go.Proofs.Ytmepiogoofmbbaa.opened Go.Proofs.Ytmepiogoofmbbaa.block Go.Proofs.Ytmepiogoofmbbaa.stamp

theorem check_long {L : List Tm} {h : InL L} (hl : 64 < L.length) : checkE L h = 7 := by unfold checkE; rw [if_pos hl]
theorem check_bad {L : List Tm} {h : InL L} (hl : ¬ 64 < L.length) (ht : timesE L ≠ 0) : checkE L h = timesE L := by
  have e : makeE L h = timesE L := by unfold makeE; rw [if_neg (by omega), if_pos ht]
  unfold checkE
  rw [if_neg hl, e, if_pos ht]
theorem check_good {L : List Tm} {h : InL L} (hl : ¬ 64 < L.length) (ht : timesE L = 0) : checkE L h = if makeV L h = L then 0 else 6 := by
  have e : makeE L h = 0 := by
    have := refF_len L L.length
    rw [← (ref_make L h).1]
    unfold refE
    rw [if_neg (by omega), if_neg (by simp [ht]), if_neg (by omega)]
  unfold checkE
  rw [if_neg hl, e, if_neg (by simp)]
set_option maxRecDepth 100000 in
theorem checkR_any (A : Option Addr) (c : Nat) (L : List Tm) (iL : InL L) (mL : L.length ≤ 4611686018427387903) (w : World) (hL : Lt w A L) :
    Calls Try.prog 17 #[.slice A L.length c] w fun e W' => e = .returned (.int .i64 (checkE L iL)) ∧ Below w.heap.size w W' := by
  have HL := Lib.hid hL
  by_cases hl : 64 < L.length
  · rw [check_long hl]
    clear hL
    go_enter Try.func17, Try.ntmps17
    go_wp2
    go_ret
    exact ⟨rfl, Below.refl _ _⟩
  · have CT := Lib.hid (timesR_any A c L iL mL)
    by_cases ht : timesE L = 0
    · have HM := Lib.hid (makeR_any A c L iL mL)
      have EQ := Lib.hid (fun (B : Option Addr) (c' : Nat) (W : World) => same_any A B c c' L (makeV L iL) mL (by have := makeV_len L iL; omega) W)
      rw [check_good hl ht]
      rw [ht] at CT
      clear hL ht
      generalize makeE L iL = m at HM
      generalize makeV L iL = V at HM EQ ⊢
      by_cases hv : V = L
      · rw [if_pos hv]
        rw [show decide (L = V) = true by simpa using hv.symm] at EQ
        clear hv
        go_enter Try.func17, Try.ntmps17
        go_wp2_with fail
        refine (CT.out _ HL.out).mono ?_
        rintro e w1 ⟨rfl, b1⟩
        go_wp2_with fail
        refine (HM.out _ (HL.out.below b1)).mono ?_
        rintro e w2 ⟨B, c1, rfl, h1, b2⟩
        have h1 := Lib.hid h1
        go_wp2_with fail
        refine (EQ.out B c1 w2 ((HL.out.below b1).below b2) h1.out).mono ?_
        rintro e w3 ⟨rfl, b3⟩
        go_wp2_with fail
        go_ret
        exact ⟨rfl, b1.trans ((b2.trans (b3.mono b2.size)).mono b1.size)⟩
      · rw [if_neg hv]
        rw [show decide (L = V) = false by simpa using (fun e => hv (Eq.symm e) : ¬ L = V)] at EQ
        clear hv
        go_enter Try.func17, Try.ntmps17
        go_wp2_with fail
        refine (CT.out _ HL.out).mono ?_
        rintro e w1 ⟨rfl, b1⟩
        go_wp2_with fail
        refine (HM.out _ (HL.out.below b1)).mono ?_
        rintro e w2 ⟨B, c1, rfl, h1, b2⟩
        have h1 := Lib.hid h1
        go_wp2_with fail
        refine (EQ.out B c1 w2 ((HL.out.below b1).below b2) h1.out).mono ?_
        rintro e w3 ⟨rfl, b3⟩
        go_wp2_with fail
        go_ret
        exact ⟨rfl, b1.trans ((b2.trans (b3.mono b2.size)).mono b1.size)⟩
    · rw [check_bad hl ht]
      clear hL
      generalize timesE L = t at CT ht ⊢
      go_enter Try.func17, Try.ntmps17
      go_wp2_with fail
      refine (CT.out _ HL.out).mono ?_
      rintro e w1 ⟨rfl, b1⟩
      go_wp2_with fail
      go_ret
      exact ⟨rfl, b1⟩
end Go.Proofs.Ytmepiogoofmbbaa.chain
