/-
  The contract of chain.Make.
-/
import Derived.Test.YtpjlefdigpejdaaMi
namespace Go.Proofs.Ytpjlefdigpejdaa.chain
open Go.ChangeShapes Go.WideShapes Go.ChangeAt Go.RowKit Go.Shelf Go.Sort
open Go.Proofs.Ytpjlefdigpejdaa.tm Go.Proofs.Ytpjlefdigpejdaa.opened Go.Proofs.Ytpjlefdigpejdaa.block Go.Proofs.Ytpjlefdigpejdaa.stamp

theorem in_srt (L : List Tm) (h : InL L) : InL (srtL L h) := by
  intro t ht
  unfold srtL at ht
  obtain ⟨x, -, rfl⟩ := List.mem_map.1 ht
  exact x.2
/-- What Make keeps, if nothing is wrong. -/
def makeS (L : List Tm) (h : InL L) : List Tm := minF (srtL L h) []
/-- What Make says is wrong. -/
def makeE (L : List Tm) (h : InL L) : Int := if 4096 < L.length then 7 else if timesE L ≠ 0 then timesE L else if 64 < (makeS L h).length then 7 else 0
/-- What Make answers. -/
def makeV (L : List Tm) (h : InL L) : List Tm := if makeE L h = 0 then makeS L h else []
theorem make_long {L : List Tm} (h : InL L) (hl : 4096 < L.length) : makeE L h = 7 ∧ makeV L h = [] := by
  have e : makeE L h = 7 := by unfold makeE; rw [if_pos hl]
  exact ⟨e, by unfold makeV; rw [if_neg (by rw [e]; decide)]⟩
theorem make_bad {L : List Tm} (h : InL L) (hl : ¬ 4096 < L.length) (ht : timesE L ≠ 0) : makeE L h = timesE L ∧ makeV L h = [] := by
  have e : makeE L h = timesE L := by unfold makeE; rw [if_neg hl, if_pos ht]
  exact ⟨e, by unfold makeV; rw [if_neg (by rw [e]; exact ht)]⟩
theorem make_many {L : List Tm} (h : InL L) (hl : ¬ 4096 < L.length) (ht : timesE L = 0) (hs : 64 < (makeS L h).length) : makeE L h = 7 ∧ makeV L h = [] := by
  have e : makeE L h = 7 := by unfold makeE; rw [if_neg hl, if_neg (by rw [ht]; simp), if_pos hs]
  exact ⟨e, by unfold makeV; rw [if_neg (by rw [e]; decide)]⟩
theorem make_ok {L : List Tm} (h : InL L) (hl : ¬ 4096 < L.length) (ht : timesE L = 0) (hs : ¬ 64 < (makeS L h).length) : makeE L h = 0 ∧ makeV L h = makeS L h := by
  have e : makeE L h = 0 := by unfold makeE; rw [if_neg hl, if_neg (by rw [ht]; simp), if_neg hs]
  exact ⟨e, by unfold makeV; rw [if_pos e]⟩
set_option maxRecDepth 100000 in
theorem make_any (A : Option Addr) (c : Nat) (L : List Tm) (iL : InL L) (mL : L.length ≤ 4611686018427387903) (w : World) (hL : Lt w A L) :
    Calls Try.prog 77 #[.slice A L.length c] w fun e W' => ∃ B c', e = .returned (.tuple #[.slice B (makeV L iL).length c', .int .i64 (makeE L iL)]) ∧ Lt W' B (makeV L iL) ∧ Below w.heap.size w W' := by
  have HL := Lib.hid hL
  have CT := Lib.hid (checkTimes_any A c L iL mL)
  by_cases hl : 4096 < L.length
  · obtain ⟨e1, e2⟩ := make_long iL hl
    rw [e1, e2]
    clear e1 e2 hL
    go_enter Try.func77, Try.ntmps77
    go_wp2
    go_ret2
    exact ⟨none, 0, rfl, Lt.nil _ _, Below.refl _ _⟩
  · by_cases ht : timesE L = 0
    · have SF := Lib.hid (fun (W : World) (hW : Lt W A L) => sortedFunc_any W.heap.size A c L iL (by omega) (W.alloc (.cells #[.slice A L.length c] 37)) (by simp) (Boxed.new W 37 _).cell (hW.below (fresh1 W _)))
      have MI := Lib.hid (fun B c' => minimal_any B c' (srtL L iL) (in_srt L iL) (by rw [srtL_len]; omega))
      rw [srtL_len] at MI
      change Hid (∀ (B : Option Addr) (c' : Nat) (W : World), _ → Calls _ _ _ _ fun e W' => ∃ D d, e = .returned (.slice D (makeS L iL).length d) ∧ OwnT W' W.heap.size (.slice D (makeS L iL).length d) (makeS L iL) ∧ _) at MI
      rw [ht] at CT
      by_cases hs : 64 < (makeS L iL).length
      · obtain ⟨e1, e2⟩ := make_many iL hl ht hs
        rw [e1, e2]
        clear e1 e2 hL ht
        go_enter Try.func77, Try.ntmps77
        go_wp2_with fail
        refine (CT.out _ HL.out).mono ?_
        rintro e w1 ⟨rfl, b1⟩
        go_wp2_with fail
        refine (values_call _ _ _ _).mono ?_
        rintro e w2 ⟨rfl, rfl⟩
        go_wp2_with fail
        refine (SF.out w1 (HL.out.below b1)).mono ?_
        rintro e w3 ⟨B, c3, rfl, h3, b3⟩
        have h3 := Lib.hid h3
        go_wp2_with fail
        refine (MI.out B c3 w3 h3.out).mono ?_
        rintro e w4 ⟨D, d, rfl, h4, b4⟩
        have h4 := Lib.hid h4
        go_wp2_with fail
        go_ret2
        exact ⟨none, 0, rfl, Lt.nil _ _, b1.trans (((fresh1 w1 (.cells #[.slice A L.length c] 37)).trans ((b3.trans (b4.mono b3.size)).mono (by simp))).mono b1.size)⟩
      · obtain ⟨e1, e2⟩ := make_ok iL hl ht hs
        rw [e1, e2]
        clear e1 e2 hL ht
        go_enter Try.func77, Try.ntmps77
        go_wp2_with fail
        refine (CT.out _ HL.out).mono ?_
        rintro e w1 ⟨rfl, b1⟩
        go_wp2_with fail
        refine (values_call _ _ _ _).mono ?_
        rintro e w2 ⟨rfl, rfl⟩
        go_wp2_with fail
        refine (SF.out w1 (HL.out.below b1)).mono ?_
        rintro e w3 ⟨B, c3, rfl, h3, b3⟩
        have h3 := Lib.hid h3
        go_wp2_with fail
        refine (MI.out B c3 w3 h3.out).mono ?_
        rintro e w4 ⟨D, d, rfl, h4, b4⟩
        have h4 := Lib.hid h4
        go_wp2_with fail
        go_ret2
        exact ⟨D, d, rfl, h4.out.lies, b1.trans (((fresh1 w1 (.cells #[.slice A L.length c] 37)).trans ((b3.trans (b4.mono b3.size)).mono (by simp))).mono b1.size)⟩
    · obtain ⟨e1, e2⟩ := make_bad iL hl ht
      rw [e1, e2]
      clear e1 e2 hL
      generalize timesE L = t at CT ht ⊢
      go_enter Try.func77, Try.ntmps77
      go_wp2_with fail
      refine (CT.out _ HL.out).mono ?_
      rintro e w1 ⟨rfl, b1⟩
      go_wp2_with fail
      go_ret2
      exact ⟨none, 0, rfl, Lt.nil _ _, b1⟩
end Go.Proofs.Ytpjlefdigpejdaa.chain
