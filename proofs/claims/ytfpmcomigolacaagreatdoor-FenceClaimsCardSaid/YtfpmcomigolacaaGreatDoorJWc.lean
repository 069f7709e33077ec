/-
  The contracts of words.Lines, words.Split and words.Option, and of the comparison of two lists of texts.
  The contract of words.Name.
-/
import Derived.Test.YtfpmcomigolacaaGreatDoorJBlock
import Derived.Test.YtfpmcomigolacaaGreatDoorJLayW
import Derived.Deep.QuietTactic
import Derived.BigQuiet
import Derived.WalkKit
import Derived.Laws.RangeAny
set_option linter.unusedSimpArgs false
set_option linter.unusedVariables false
namespace Go.Proofs.YtfpmcomigolacaaGreatDoor.words
open Go.ChangeShapes Go.WideShapes Go.ChangeAt Go.RowKit
open Go.Proofs.YtfpmcomigolacaaGreatDoor.opened Go.Proofs.YtfpmcomigolacaaGreatDoor.block

theorem opt_drop {name x : Bs} (h : optF name x = true) : Lib.trimPrefix x (name ++ [61]) = x.drop (name.length + 1) := by
  unfold Lib.trimPrefix
  rw [show Lib.hasPrefix x (name ++ [61]) = true from h, if_pos rfl]
  simp
theorem str_app (a b : Bs) : ({ data := a.toArray } : ByteArray) ++ { data := b.toArray } = ⟨(a ++ b).toArray⟩ := ByteArray.ext (by simp)
end Go.Proofs.YtfpmcomigolacaaGreatDoor.words
set_option linter.unusedSimpArgs false
set_option linter.unusedVariables false
namespace Go.Proofs.YtfpmcomigolacaaGreatDoor.words
open Go.ChangeShapes Go.WideShapes Go.ChangeAt Go.RowKit
open Go.Proofs.YtfpmcomigolacaaGreatDoor.opened Go.Proofs.YtfpmcomigolacaaGreatDoor.block

theorem letter_any (c : Int) (w : World) : Calls Tryz.prog 82 #[.int .i32 c] w fun e w' => e = .returned (.bool (decide (97 ≤ c ∧ c ≤ 122))) ∧ w = w' := by
  by_cases h1 : 97 ≤ c
  · by_cases h2 : c ≤ 122
    · rw [decide_eq_true (And.intro h1 h2)]
      go_enter Tryz.func82, Tryz.ntmps82
      go_wp2
      go_ret
      exact ⟨rfl, rfl⟩
    · rw [decide_eq_false (fun h => h2 h.2)]
      go_enter Tryz.func82, Tryz.ntmps82
      go_wp2
      go_ret
      exact ⟨rfl, rfl⟩
  · rw [decide_eq_false (fun h => h1 h.1)]
    go_enter Tryz.func82, Tryz.ntmps82
    go_wp2
    go_ret
    exact ⟨rfl, rfl⟩
theorem digit_any (c : Int) (w : World) : Calls Tryz.prog 83 #[.int .i32 c] w fun e w' => e = .returned (.bool (decide (48 ≤ c ∧ c ≤ 57))) ∧ w = w' := by
  by_cases h1 : 48 ≤ c
  · by_cases h2 : c ≤ 57
    · rw [decide_eq_true (And.intro h1 h2)]
      go_enter Tryz.func83, Tryz.ntmps83
      go_wp2
      go_ret
      exact ⟨rfl, rfl⟩
    · rw [decide_eq_false (fun h => h2 h.2)]
      go_enter Tryz.func83, Tryz.ntmps83
      go_wp2
      go_ret
      exact ⟨rfl, rfl⟩
  · rw [decide_eq_false (fun h => h1 h.1)]
    go_enter Tryz.func83, Tryz.ntmps83
    go_wp2
    go_ret
    exact ⟨rfl, rfl⟩
def okB (j : Nat) (c : UInt8) : Bool := isA c || (decide (j ≠ 0) && isD c)
theorem name_yes {s : Bs} (h1 : 1 ≤ s.length) (h2 : s.length ≤ 12) (h : ∀ j c, s[j]? = some c → okB j c = true) : nameB s = true := by
  cases s with
  | nil => simp at h1
  | cons c r =>
    have h0 := h 0 c rfl
    unfold nameB
    rw [decide_eq_true h2, Bool.true_and]
    simp only [Bool.and_eq_true, List.all_eq_true]
    refine ⟨by simpa [okB] using h0, fun x hx => ?_⟩
    obtain ⟨i, hi⟩ := List.getElem?_of_mem hx
    have := h (i + 1) x (by simpa using hi)
    simpa [okB] using this
theorem name_not {s : Bs} {j : Nat} {c : UInt8} (hj : s[j]? = some c) (h : okB j c = false) : nameB s = false := by
  cases s with
  | nil => simp at hj
  | cons x r =>
    unfold nameB
    cases j with
    | zero =>
      simp at hj
      subst hj
      have : isA x = false := by simpa [okB] using h
      simp [this]
    | succ j =>
      have hm : c ∈ r := List.mem_of_getElem? (by simpa using hj)
      have : (r.all fun x => isA x || isD x) = false := by
        rw [List.all_eq_false]
        exact ⟨c, hm, by simp [okB] at h; simp [h]⟩
      simp [this]
theorem ok_int (j : Nat) (c : UInt8) : okB j c = (decide (97 ≤ (c.toNat : Int) ∧ (c.toNat : Int) ≤ 122) || (decide (j ≠ 0) && decide (48 ≤ (c.toNat : Int) ∧ (c.toNat : Int) ≤ 57))) := by
  have e1 : isA c = decide (97 ≤ (c.toNat : Int) ∧ (c.toNat : Int) ≤ 122) := by
    unfold isA
    rw [Bool.eq_iff_iff, decide_eq_true_iff, decide_eq_true_iff]
    omega
  have e2 : isD c = decide (48 ≤ (c.toNat : Int) ∧ (c.toNat : Int) ≤ 57) := by
    unfold isD
    rw [Bool.eq_iff_iff, decide_eq_true_iff, decide_eq_true_iff]
    omega
  unfold okB
  rw [e1, e2]
theorem name_at {s : Bs} {j : Nat} (h : j < s.length) : s[j]? = some ((⟨s.toArray⟩ : ByteArray)[j]'(by show j < s.toArray.size; simpa using h)) := by
  rw [List.getElem?_eq_getElem h]
  rfl
theorem name_off {s : Bs} {j : Nat} (h : j < s.length) (hk : 128 ≤ ((⟨s.toArray⟩ : ByteArray)[j]'(by show j < s.toArray.size; simpa using h)).toNat) : nameB s = false := by
  refine name_not (name_at h) ?_
  rw [ok_int]
  rw [decide_eq_false (by omega), decide_eq_false (p := 48 ≤ _ ∧ _) (by omega)]
  simp
set_option maxRecDepth 100000 in
theorem name_any (s : Bs) (hs : s.length ≤ 100000) (w : World) : Calls Tryz.prog 52 #[.string ⟨s.toArray⟩] w fun e w' => e = .returned (.bool (nameB s)) ∧ Below w.heap.size w w' := by
  have hsz : (⟨s.toArray⟩ : ByteArray).size = s.length := by show s.toArray.size = _; simp
  cases hs0 : s with
  | nil =>
    have e : nameB [] = false := rfl
    rw [e]
    go_enter Tryz.func52, Tryz.ntmps52
    go_wp2
    go_ret
    exact ⟨rfl, Below.refl _ _⟩
  | cons x q =>
    rw [← hs0]
    have hpos : 1 ≤ s.length := by rw [hs0]; simp
    have hne : s.isEmpty = false := by rw [hs0]; rfl
    have hne2 : ¬ s = [] := by rw [hs0]; simp
    clear hs0
    by_cases h12 : s.length ≤ 12
    · have h12' : (s.length : Int) ≤ 12 := by omega
      go_enter Tryz.func52, Tryz.ntmps52
      go_wp2_with fail
      clear hne hne2
      go_loopw [3] (fun _ wr => ∃ k : Nat, k ≤ s.length ∧ wr = w.iter ⟨s.toArray⟩ k ∧ Hid (∀ j c, j < k → s[j]? = some c → okB j c = true)) (fun _ wr => s.length - wr.iterPos w.heap.size)
      case atStart => exact ⟨0, Nat.zero_le _, rfl, Lib.hid (fun j c h => absurd h (Nat.not_lt_zero _))⟩
      case round =>
        obtain ⟨k, hk, rfl, HN⟩ := hrel
        by_cases hlt : k < s.length
        · have hkS : k < (⟨s.toArray⟩ : ByteArray).size := by rw [hsz]; exact hlt
          have hnx := fun ty => run_next_any (P := Tryz.prog) w ⟨s.toArray⟩ k ty hkS
          have HA := Lib.hid (name_at hlt)
          have HO := Lib.hid (name_off hlt)
          have hdec : (((⟨s.toArray⟩ : ByteArray)[k]'hkS).toNat < 128 ∧ Utf8.decode ⟨s.toArray⟩ k = (((⟨s.toArray⟩ : ByteArray)[k]'hkS).toNat, 1)) ∨ (128 ≤ ((⟨s.toArray⟩ : ByteArray)[k]'hkS).toNat ∧ 128 ≤ (Utf8.decode ⟨s.toArray⟩ k).1) := by
            by_cases h : ((⟨s.toArray⟩ : ByteArray)[k]'hkS).toNat < 128
            · exact .inl ⟨h, decode_ascii _ _ hkS h⟩
            · exact .inr ⟨by omega, (decode_high _ _ hkS (by omega)).1⟩
          generalize ((⟨s.toArray⟩ : ByteArray)[k]'hkS) = c at HA HO hdec
          generalize Utf8.decode ⟨s.toArray⟩ k = dd at hnx hdec
          obtain ⟨R, wd⟩ := dd
          dsimp only at hnx hdec
          rcases hdec with ⟨h1, h2⟩ | ⟨h1, h2⟩
          · obtain ⟨rfl, rfl⟩ : R = c.toNat ∧ wd = 1 := by simpa using h2
            have HK := Lib.hid (ok_int k c)
            have HL := Lib.hid (fun W => letter_any (c.toNat : Int) W)
            have HD := Lib.hid (fun W => digit_any (c.toNat : Int) W)
            obtain ⟨p, hp⟩ : ∃ p, decide (97 ≤ (c.toNat : Int) ∧ (c.toNat : Int) ≤ 122) = p := ⟨_, rfl⟩
            obtain ⟨q', hq⟩ : ∃ q', decide (48 ≤ (c.toNat : Int) ∧ (c.toNat : Int) ≤ 57) = q' := ⟨_, rfl⟩
            rw [hp, hq] at HK
            rw [hp] at HL
            rw [hq] at HD
            clear hp hq h2 h1 hsz
            have HM : okB k c = true → Hid (∀ j d, j < k + 1 → s[j]? = some d → okB j d = true) := fun ho => Lib.hid (fun j d hj hd => by
              by_cases hjk : j = k
              · subst hjk
                rw [HA.out] at hd
                cases hd
                exact ho
              · exact HN.out j d (by omega) hd)
            cases p
            · cases q'
              · replace HK : Hid (okB k c = false) := Lib.hid (by have := HK.out; simpa using this)
                clear HM
                by_cases hk0 : k = 0
                · subst hk0
                  have HF : Hid (nameB s = false) := Lib.hid (name_not HA.out HK.out)
                  go_wp2_with (first | (go_at_call 82; refine (HL.out _).mono ?_; rintro e w4 ⟨rfl, rfl⟩) | (go_at_call 83; refine (HD.out _).mono ?_; rintro e w4 ⟨rfl, rfl⟩))
                  go_ret
                  rw [HF.out]
                  exact ⟨rfl, fresh1 w _⟩
                · have hk1 : ((k : Int) == 0) = false := by simp; omega
                  have HF : Hid (nameB s = false) := Lib.hid (name_not HA.out HK.out)
                  go_wp2_with (first | (go_at_call 82; refine (HL.out _).mono ?_; rintro e w4 ⟨rfl, rfl⟩) | (go_at_call 83; refine (HD.out _).mono ?_; rintro e w4 ⟨rfl, rfl⟩))
                  go_ret
                  rw [HF.out]
                  exact ⟨rfl, fresh1 w _⟩
              · by_cases hk0 : k = 0
                · subst hk0
                  replace HK : Hid (okB 0 c = false) := Lib.hid (by have := HK.out; simpa using this)
                  clear HM
                  have HF : Hid (nameB s = false) := Lib.hid (name_not HA.out HK.out)
                  go_wp2_with (first | (go_at_call 82; refine (HL.out _).mono ?_; rintro e w4 ⟨rfl, rfl⟩) | (go_at_call 83; refine (HD.out _).mono ?_; rintro e w4 ⟨rfl, rfl⟩))
                  go_ret
                  rw [HF.out]
                  exact ⟨rfl, fresh1 w _⟩
                · have hk1 : ((k : Int) == 0) = false := by simp; omega
                  replace HM := HM (by have := HK.out; simpa [hk0] using this)
                  go_wp2_with (first | (go_at_call 82; refine (HL.out _).mono ?_; rintro e w4 ⟨rfl, rfl⟩) | (go_at_call 83; refine (HD.out _).mono ?_; rintro e w4 ⟨rfl, rfl⟩))
                  go_roundw
                  case rel => exact ⟨k + 1, by omega, rfl, HM⟩
                  case measure => simp; omega
            · replace HM := HM (by have := HK.out; simpa using this)
              go_wp2_with (first | (go_at_call 82; refine (HL.out _).mono ?_; rintro e w4 ⟨rfl, rfl⟩) | (go_at_call 83; refine (HD.out _).mono ?_; rintro e w4 ⟨rfl, rfl⟩))
              go_roundw
              case rel => exact ⟨k + 1, by omega, rfl, HM⟩
              case measure => simp; omega
          · have HL := Lib.hid (fun W => letter_any (R : Int) W)
            have HD := Lib.hid (fun W => digit_any (R : Int) W)
            rw [decide_eq_false (by omega)] at HL
            rw [decide_eq_false (by omega)] at HD
            have HF0 := Lib.hid (HO.out h1)
            clear h1 h2 hsz
            by_cases hk0 : k = 0
            · subst hk0
              have HF : Hid (nameB s = false) := Lib.hid (HF0.out)
              go_wp2_with (first | (go_at_call 82; refine (HL.out _).mono ?_; rintro e w4 ⟨rfl, rfl⟩) | (go_at_call 83; refine (HD.out _).mono ?_; rintro e w4 ⟨rfl, rfl⟩))
              go_ret
              rw [HF.out]
              exact ⟨rfl, fresh1 w _⟩
            · have hk1 : ((k : Int) == 0) = false := by simp; omega
              have HF : Hid (nameB s = false) := Lib.hid (HF0.out)
              go_wp2_with (first | (go_at_call 82; refine (HL.out _).mono ?_; rintro e w4 ⟨rfl, rfl⟩) | (go_at_call 83; refine (HD.out _).mono ?_; rintro e w4 ⟨rfl, rfl⟩))
              go_ret
              rw [HF.out]
              exact ⟨rfl, fresh1 w _⟩
        · have hkk : k = s.length := by omega
          subst hkk
          have HY : Hid (nameB s = true) := Lib.hid (name_yes hpos h12 (fun j c hj => HN.out j c (List.getElem?_eq_some_iff.1 hj).1 hj))
          have hnx := fun ty => run_next_end (P := Tryz.prog) w ⟨s.toArray⟩ s.length ty (by rw [hsz]; omega)
          clear hsz
          go_wp2_with fail
          go_ret
          rw [HY.out]
          exact ⟨rfl, fresh1 w _⟩
    · have e : nameB s = false := by unfold nameB; rw [decide_eq_false h12, Bool.false_and]
      rw [e]
      go_enter Tryz.func52, Tryz.ntmps52
      go_wp2
      go_ret
      exact ⟨rfl, Below.refl _ _⟩
end Go.Proofs.YtfpmcomigolacaaGreatDoor.words
