/-
  The contracts of the document's Lines and Split.
  The contract of the document's Split.
  The contracts of the document's Name and Option.
-/
import Derived.Test.YtkfjgmfokpgcbaaJWc
import Derived.Test.YtkfjgmfokpgcbaaJWn
namespace Go.Proofs.Ytkfjgmfokpgcbaa.words
open Go.ChangeShapes Go.WideShapes Go.ChangeAt Go.RowKit
open Go.Proofs.Ytkfjgmfokpgcbaa.opened Go.Proofs.Ytkfjgmfokpgcbaa.block

theorem size_str (s : Bs) : (⟨s.toArray⟩ : ByteArray).size = s.length := by show s.toArray.size = _; simp
theorem byteU {s : Bs} {k : Nat} (h : k < (⟨s.toArray⟩ : ByteArray).size) : s[k]? = some ((⟨s.toArray⟩ : ByteArray)[k]'h) := by
  have h' : k < s.length := by rw [size_str] at h; exact h
  rw [List.getElem?_eq_getElem h']
  rfl
theorem extractU (s : Bs) (a b : Nat) : (⟨s.toArray⟩ : ByteArray).extract a b = ⟨((s.drop a).take (b - a)).toArray⟩ := by
  have := Lib.extract_eq (⟨s.toArray⟩ : ByteArray) a b
  simpa using this
theorem drop_at {s : Bs} {k : Nat} {c : UInt8} (h : s[k]? = some c) : s.drop k = c :: s.drop (k + 1) := by
  obtain ⟨hl, e⟩ := List.getElem?_eq_some_iff.1 h
  rw [List.drop_eq_getElem_cons hl, e]
theorem piece_more {s : Bs} {a k : Nat} {c : UInt8} (h : s[k]? = some c) (ha : a ≤ k) : (s.drop a).take (k + 1 - a) = (s.drop a).take (k - a) ++ [c] := by
  rw [show k + 1 - a = (k - a) + 1 by omega, List.take_add_one, List.getElem?_drop, show a + (k - a) = k by omega, h]
  rfl
end Go.Proofs.Ytkfjgmfokpgcbaa.words
namespace Go.Proofs.Ytkfjgmfokpgcbaa.words
open Go.ChangeShapes Go.WideShapes Go.ChangeAt Go.RowKit
open Go.Proofs.Ytkfjgmfokpgcbaa.opened Go.Proofs.Ytkfjgmfokpgcbaa.block

theorem slice_str (s : Bs) (a b : Nat) (h : a ≤ b) (hb : b ≤ s.length) (W : World) : (Instr.slice 9 (.string ⟨s.toArray⟩) (some (.int .i64 (a : Int))) (some (.int .i64 (b : Int))) none).run Try.prog W = .ok (.string ((⟨s.toArray⟩ : ByteArray).extract a b)) W := by
  go_simp
theorem u8_is {c : UInt8} {n : Nat} (hn : n < 256) {z : Bool} (h : ((c.toNat : Int) == (n : Int)) = z) : c = UInt8.ofNat n ↔ z = true := by
  rw [← h, beq_iff_eq]
  constructor
  · rintro rfl
    simp
    omega
  · intro h
    refine UInt8.toNat_inj.1 ?_
    simp
    omega
theorem u8_not {c : UInt8} {n : Nat} (hn : n < 256) {z : Bool} (h : ((c.toNat : Int) != (n : Int)) = z) : c = UInt8.ofNat n ↔ z = false := by
  have := u8_is (c := c) hn (z := !z) (by rw [← h]; simp [bne])
  rw [this]
  cases z <;> simp
end Go.Proofs.Ytkfjgmfokpgcbaa.words
namespace Go.Proofs.Ytkfjgmfokpgcbaa.words
open Go.ChangeShapes Go.WideShapes Go.ChangeAt Go.RowKit
open Go.Proofs.Ytkfjgmfokpgcbaa.opened Go.Proofs.Ytkfjgmfokpgcbaa.block

theorem nameR_yes {s : Bs} {c : UInt8} (h0 : s[0]? = some c) (h1 : isA c = true) (h2 : s.length ≤ 12) (h : ∀ (j : Nat) c, s[j]? = some c → (isA c || isD c) = true) : nameB s = true := by
  refine name_yes (List.length_pos_iff.2 (by rintro rfl; simp at h0)) h2 fun j d hj => ?_
  unfold okB
  by_cases hj0 : j = 0
  · subst hj0
    rw [h0] at hj
    cases hj
    rw [h1]
    rfl
  · have := h j d hj
    simpa [hj0] using this
theorem nameR_not {s : Bs} {j : Nat} {c : UInt8} (hj : s[j]? = some c) (h : (isA c || isD c) = false) : nameB s = false := by
  refine name_not hj ?_
  unfold okB
  rw [Bool.or_eq_false_iff] at h
  rw [h.1, h.2]
  simp
theorem isA_int (c : UInt8) : isA c = decide (97 ≤ (c.toNat : Int) ∧ (c.toNat : Int) ≤ 122) := by
  unfold isA
  rw [Bool.eq_iff_iff, decide_eq_true_iff, decide_eq_true_iff]
  omega
theorem isD_int (c : UInt8) : isD c = decide (48 ≤ (c.toNat : Int) ∧ (c.toNat : Int) ≤ 57) := by
  unfold isD
  rw [Bool.eq_iff_iff, decide_eq_true_iff, decide_eq_true_iff]
  omega
set_option maxRecDepth 100000 in
set_option maxHeartbeats 1000000 in
theorem nameR_any (s : Bs) (w : World) : Calls Try.prog 44 #[.string ⟨s.toArray⟩] w fun e w' => e = .returned (.bool (nameB s)) ∧ Below w.heap.size w w' := by
  have hsz := size_str s
  by_cases h1 : s.length < 1
  · have hs : s = [] := List.length_eq_zero_iff.1 (by omega)
    rw [show nameB s = false by rw [hs]; rfl]
    have h1' : (s.length : Int) < 1 := by omega
    clear hs
    go_enter Try.func44, Try.ntmps44
    go_wp2_with fail
    go_ret
    exact ⟨rfl, Below.refl _ _⟩
  · have h1' : ¬ (s.length : Int) < 1 := by omega
    by_cases h12 : s.length ≤ 12
    · have h12' : ¬ (12 : Int) < (s.length : Int) := by omega
      have h0S : 0 < (⟨s.toArray⟩ : ByteArray).size := by rw [hsz]; omega
      have HC0 := Lib.hid (byteU h0S)
      have HA0 := Lib.hid (isA_int ((⟨s.toArray⟩ : ByteArray)[0]'h0S))
      by_cases hA : isA ((⟨s.toArray⟩ : ByteArray)[0]'h0S) = true
      · have HA1 := Lib.hid hA
        have hr : (97 : Int) ≤ (((⟨s.toArray⟩ : ByteArray)[0]'h0S).toNat : Int) ∧ (((⟨s.toArray⟩ : ByteArray)[0]'h0S).toNat : Int) ≤ 122 := by
          have := HA0.out
          rw [hA] at this
          exact of_decide_eq_true this.symm
        obtain ⟨hr1, hr2⟩ := hr
        have hr1' : ¬ (((⟨s.toArray⟩ : ByteArray)[0]'h0S).toNat : Int) < 97 := by omega
        have hr2' : ¬ (122 : Int) < (((⟨s.toArray⟩ : ByteArray)[0]'h0S).toNat : Int) := by omega
        clear hA
        go_enter Try.func44, Try.ntmps44
        go_wp2_with fail
        go_loop [3] (fun iv => ∃ k : Nat, k ≤ s.length ∧ iv = .int .i64 k ∧ Hid (∀ (j : Nat) c, j < k → s[j]? = some c → (isA c || isD c) = true)) (fun iv => s.length - (intOf iv).toNat)
        case atStart => exact ⟨0, Nat.zero_le _, rfl, Lib.hid (fun j c h => absurd h (Nat.not_lt_zero _))⟩
        case round =>
          obtain ⟨k, hk, rfl, HN⟩ := hrel
          by_cases hlt : k < s.length
          · have hkS : k < (⟨s.toArray⟩ : ByteArray).size := by rw [hsz]; exact hlt
            have HC := Lib.hid (byteU hkS)
            have HA := Lib.hid (isA_int ((⟨s.toArray⟩ : ByteArray)[k]'hkS))
            have HD := Lib.hid (isD_int ((⟨s.toArray⟩ : ByteArray)[k]'hkS))
            have HM : (isA ((⟨s.toArray⟩ : ByteArray)[k]'hkS) || isD ((⟨s.toArray⟩ : ByteArray)[k]'hkS)) = true → Hid (∀ (j : Nat) d, j < k + 1 → s[j]? = some d → (isA d || isD d) = true) := fun ho => Lib.hid (fun j d hj hd => by
              by_cases hjk : j = k
              · subst hjk
                rw [HC.out] at hd
                cases hd
                exact ho
              · exact HN.out j d (by omega) hd)
            have HF : (isA ((⟨s.toArray⟩ : ByteArray)[k]'hkS) || isD ((⟨s.toArray⟩ : ByteArray)[k]'hkS)) = false → Hid (nameB s = false) := fun ho => Lib.hid (nameR_not HC.out ho)
            rw [HA.out, HD.out] at HM HF
            clear HA HD HC
            by_cases p1 : (97 : Int) ≤ (((⟨s.toArray⟩ : ByteArray)[k]'hkS).toNat : Int)
            · by_cases p2 : (((⟨s.toArray⟩ : ByteArray)[k]'hkS).toNat : Int) ≤ 122
              · replace HM := HM (by rw [decide_eq_true (And.intro p1 p2), Bool.true_or])
                clear HF
                go_wp2_with fail
                go_round
                case rel => exact ⟨k + 1, by omega, by go_num, HM⟩
                case measure => simp [intOf]; omega
              · replace HF := HF (by rw [decide_eq_false (fun h => p2 h.2), decide_eq_false (by omega)]; rfl)
                have p3 : (48 : Int) ≤ (((⟨s.toArray⟩ : ByteArray)[k]'hkS).toNat : Int) := by omega
                have p4 : ¬ (((⟨s.toArray⟩ : ByteArray)[k]'hkS).toNat : Int) ≤ 57 := by omega
                clear HM
                go_wp2_with fail
                go_ret
                rw [HF.out]
                exact ⟨rfl, Below.refl _ _⟩
            · by_cases p3 : (48 : Int) ≤ (((⟨s.toArray⟩ : ByteArray)[k]'hkS).toNat : Int)
              · by_cases p4 : (((⟨s.toArray⟩ : ByteArray)[k]'hkS).toNat : Int) ≤ 57
                · replace HM := HM (by rw [decide_eq_true (And.intro p3 p4), Bool.or_true])
                  clear HF
                  go_wp2_with fail
                  go_round
                  case rel => exact ⟨k + 1, by omega, by go_num, HM⟩
                  case measure => simp [intOf]; omega
                · replace HF := HF (by rw [decide_eq_false (fun h => p1 h.1), decide_eq_false (fun h => p4 h.2)]; rfl)
                  clear HM
                  go_wp2_with fail
                  go_ret
                  rw [HF.out]
                  exact ⟨rfl, Below.refl _ _⟩
              · replace HF := HF (by rw [decide_eq_false (fun h => p1 h.1), decide_eq_false (fun h => p3 h.1)]; rfl)
                clear HM
                go_wp2_with fail
                go_ret
                rw [HF.out]
                exact ⟨rfl, Below.refl _ _⟩
          · have hkk : k = s.length := by omega
            subst hkk
            have HY : Hid (nameB s = true) := Lib.hid (nameR_yes HC0.out HA1.out h12 (fun j c hj => HN.out j c (List.getElem?_eq_some_iff.1 hj).1 hj))
            go_wp2_with fail
            go_ret
            rw [HY.out]
            exact ⟨rfl, Below.refl _ _⟩
      · have HY : Hid (nameB s = false) := Lib.hid (name_not HC0.out (by unfold okB; simp at hA; rw [hA]; simp))
        have hr : ¬ ((97 : Int) ≤ (((⟨s.toArray⟩ : ByteArray)[0]'h0S).toNat : Int) ∧ (((⟨s.toArray⟩ : ByteArray)[0]'h0S).toNat : Int) ≤ 122) := by
          have := HA0.out
          simp only [Bool.not_eq_true] at hA
          rw [hA] at this
          exact of_decide_eq_false this.symm
        clear hA
        by_cases q1 : (((⟨s.toArray⟩ : ByteArray)[0]'h0S).toNat : Int) < 97
        · clear hr
          go_enter Try.func44, Try.ntmps44
          go_wp2_with fail
          go_ret
          rw [HY.out]
          exact ⟨rfl, Below.refl _ _⟩
        · have q2 : (122 : Int) < (((⟨s.toArray⟩ : ByteArray)[0]'h0S).toNat : Int) := by omega
          clear hr
          go_enter Try.func44, Try.ntmps44
          go_wp2_with fail
          go_ret
          rw [HY.out]
          exact ⟨rfl, Below.refl _ _⟩
    · have e : nameB s = false := by unfold nameB; rw [decide_eq_false h12, Bool.false_and]
      rw [e]
      have h12' : (12 : Int) < (s.length : Int) := by omega
      clear e
      go_enter Try.func44, Try.ntmps44
      go_wp2_with fail
      go_ret
      exact ⟨rfl, Below.refl _ _⟩

theorem optF_parts (name x : Bs) : optF name x = (decide (name.length < x.length) && ((x.take name.length == name) && (x[name.length]?.getD 0 == 61))) := by
  unfold optF
  rw [← Lib.hasPrefix_of_take]
  by_cases h : name.length < x.length
  · have h1 : (name ++ [61]).length ≤ x.length := by simp; omega
    rw [decide_eq_true h, decide_eq_true h1, Bool.true_and, Bool.true_and]
    have hx : x[name.length]? = some x[name.length] := List.getElem?_eq_getElem h
    rw [show (name ++ [(61 : UInt8)]).length = name.length + 1 from by simp, List.take_add_one, hx]
    rw [Bool.eq_iff_iff]
    simp only [beq_iff_eq, Bool.and_eq_true, Option.toList_some, Option.getD_some]
    constructor
    · intro e
      have := List.append_inj e (by simp; omega)
      exact ⟨this.1, by simpa using this.2⟩
    · rintro ⟨e1, e2⟩
      rw [e1, e2]
  · have h1 : ¬ (name ++ [61]).length ≤ x.length := by simp; omega
    rw [decide_eq_false h, decide_eq_false h1]
    rfl
theorem opt_rest {name x : Bs} (h : optF name x = true) : name.length + 1 ≤ x.length := by
  rw [optF_parts] at h
  simp at h
  omega
theorem slice_str0 (s : Bs) (b : Nat) (hb : b ≤ s.length) (W : World) : (Instr.slice 9 (.string ⟨s.toArray⟩) none (some (.int .i64 (b : Int))) none).run Try.prog W = .ok (.string ⟨(s.take b).toArray⟩) W := by
  have := extractU s 0 b
  simp only [List.drop_zero, Nat.sub_zero] at this
  rw [← this]
  go_simp
theorem slice_str1 (s : Bs) (a : Nat) (ha : a ≤ s.length) (W : World) : (Instr.slice 9 (.string ⟨s.toArray⟩) (some (.int .i64 (a : Int))) none none).run Try.prog W = .ok (.string ⟨(s.drop a).toArray⟩) W := by
  have := extractU s a s.length
  rw [List.take_of_length_le (by simp)] at this
  rw [← this]
  go_simp
end Go.Proofs.Ytkfjgmfokpgcbaa.words
