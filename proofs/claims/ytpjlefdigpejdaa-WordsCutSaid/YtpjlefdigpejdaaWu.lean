/-
  The contracts of the document's Lines and Split.
-/
import Derived.Test.YtpjlefdigpejdaaWc
namespace Go.Proofs.Ytpjlefdigpejdaa.words
open Go.ChangeShapes Go.WideShapes Go.ChangeAt Go.RowKit
open Go.Proofs.Ytpjlefdigpejdaa.opened Go.Proofs.Ytpjlefdigpejdaa.block

theorem size_str (s : Bs) : (⟨s.toArray⟩ : ByteArray).size = s.length := by show s.toArray.size = _; simp
theorem byteU {s : Bs} {k : Nat} (h : k < (⟨s.toArray⟩ : ByteArray).size) : s[k]? = some ((⟨s.toArray⟩ : ByteArray)[k]'h) := by
  have h' : k < s.length := by rw [size_str] at h; exact h
  rw [List.getElem?_eq_getElem h']
  rfl
theorem extractU (s : Bs) (a b : Nat) : (⟨s.toArray⟩ : ByteArray).extract a b = ⟨((s.drop a).take (b - a)).toArray⟩ := by
  have := Lib.extract_eq (⟨s.toArray⟩ : ByteArray) a b
  simpa using this
theorem drop_at {s : Bs} {k : Nat} {c : UInt8} (h : s[k]? = some c) : s.drop k = c :: s.drop (k + 1) := by
  obtain ⟨hl, e⟩ := List.getElem?_eq_some_iff.1 h
  rw [List.drop_eq_getElem_cons hl, e]
theorem piece_more {s : Bs} {a k : Nat} {c : UInt8} (h : s[k]? = some c) (ha : a ≤ k) : (s.drop a).take (k + 1 - a) = (s.drop a).take (k - a) ++ [c] := by
  rw [show k + 1 - a = (k - a) + 1 by omega, List.take_add_one, List.getElem?_drop, show a + (k - a) = k by omega, h]
  rfl
set_option maxRecDepth 100000 in
set_option maxHeartbeats 1000000 in
theorem linesR_any (s : Bs) (hs : s.length ≤ 100000) (w : World) :
    Calls Try.prog 41 #[.string ⟨s.toArray⟩] w fun e w' => ∃ A c, e = .returned (.slice A (linesL s).length c) ∧ OwnS w' w.heap.size (.slice A (linesL s).length c) (linesL s) ∧ Below w.heap.size w w' := by
  obtain ⟨i0, hi, hz0, hz1, hz2⟩ := infoS_parts
  have hsz := size_str s
  go_enter Try.func41, Try.ntmps41
  go_wp2_with fail
  go_loopw [3, 4, 5] (fun v av iv wr => ∃ (a k : Nat) (N : List Bs) (D : Option Addr) (d : Nat), a ≤ k ∧ k ≤ s.length ∧ N.length ≤ k ∧ av = .int .i64 a ∧ iv = .int .i64 k ∧ v = .slice D N.length d ∧ Hid (linesL s = N ++ linesC ((s.drop a).take (k - a)) (s.drop k)) ∧ Hid (OwnS wr w.heap.size (.slice D N.length d) N) ∧ Below w.heap.size w wr) (fun _ _ iv _ => s.length - (intOf iv).toNat)
  case atStart => exact ⟨0, 0, [], none, 0, Nat.le_refl _, Nat.zero_le _, Nat.le_refl _, rfl, rfl, rfl, Lib.hid rfl, Lib.hid (ownS_nil _ _), Below.refl _ _⟩
  case round =>
    obtain ⟨a, k, N, D, d, ha, hk, hN, rfl, rfl, rfl, HN, HO, hb⟩ := hrel
    have hbs := hb.size
    by_cases hlt : k < s.length
    · have hkS : k < (⟨s.toArray⟩ : ByteArray).size := by rw [hsz]; exact hlt
      have HC := Lib.hid (byteU hkS)
      obtain ⟨z, hz⟩ : ∃ z, ((((⟨s.toArray⟩ : ByteArray)[k]'hkS).toNat : Int) == 10) = z := ⟨_, rfl⟩
      have HZ : Hid (((⟨s.toArray⟩ : ByteArray)[k]'hkS) = 10 ↔ z = true) := Lib.hid (by
        rw [← hz, beq_iff_eq]
        constructor
        · intro h; rw [h]; rfl
        · intro h; exact UInt8.toNat_inj.1 (by show _ = 10; omega))
      cases z
      · have HQ : Hid (linesL s = N ++ linesC ((s.drop a).take (k + 1 - a)) (s.drop (k + 1))) := Lib.hid (by
          rw [HN.out, drop_at HC.out, linesC, if_neg (fun h => by have := HZ.out.1 h; cases this), piece_more HC.out ha])
        clear HC HZ HN
        go_wp2_with fail
        go_roundw
        case rel => exact ⟨a, k + 1, N, D, d, by omega, by omega, by omega, rfl, by go_num, rfl, HQ, HO, hb⟩
        case measure => simp [intOf]; omega
      · have HQ : Hid (linesL s = (N ++ [(s.drop a).take (k - a)]) ++ linesC ((s.drop (k + 1)).take (k + 1 - (k + 1))) (s.drop (k + 1))) := Lib.hid (by
          rw [HN.out, drop_at HC.out, linesC, if_pos (HZ.out.2 rfl), Nat.sub_self, List.take_zero]
          simp)
        have hex := extractU s a k
        clear HC HZ HN
        generalize (s.drop a).take (k - a) = x at hex HQ
        go_wp2_with (at_builtin; refine wpList_append_own _ rfl _ _ 75 rfl w.heap.size 9 i0 (.string ByteArray.empty) 1 16 Try.underlying75 hi hz0 hz1 hz2 rfl (by decide) _ _ _ rfl (HO.out.below (fresh1 wr (.cells #[sV x] 9))) ⟨_, 0, none⟩ 1 1 [sV x] rfl rfl (cell_new1 _ _ _) (oneS _) (by unfold maxLen; omega) (by omega) (by simp; omega) ?_; intro v' w5 hown' hgrow _; obtain ⟨g', cap', rfl⟩ := ownS_succ hown'; have b5 := HO.out.grown hbs hgrow; have HO5 := Lib.hid hown'; clear hown' hgrow)
        go_roundw
        case rel => exact ⟨k + 1, k + 1, N ++ [x], some ⟨g', 0, none⟩, cap', by omega, by omega, by simp; omega, by go_num, by go_num, by rw [List.length_append]; rfl, HQ, Lib.hid (by have := HO5.out; simpa [OwnS] using this), hb.trans b5⟩
        case measure => simp [intOf]; omega
    · obtain rfl : k = s.length := by omega
      by_cases hal : a < s.length
      · have HQ : Hid (linesL s = N ++ [s.drop a]) := Lib.hid (by
          have := HN.out
          rw [List.drop_length, List.take_of_length_le (by simp), linesC, if_neg (by simpa using hal)] at this
          exact this)
        have hex := extractU s a s.length
        rw [List.take_of_length_le (by simp)] at hex
        clear HN
        generalize s.drop a = x at hex HQ
        go_wp2_with (at_builtin; refine wpList_append_own _ rfl _ _ 75 rfl w.heap.size 9 i0 (.string ByteArray.empty) 1 16 Try.underlying75 hi hz0 hz1 hz2 rfl (by decide) _ _ _ rfl (HO.out.below (fresh1 wr (.cells #[sV x] 9))) ⟨_, 0, none⟩ 1 1 [sV x] rfl rfl (cell_new1 _ _ _) (oneS _) (by unfold maxLen; omega) (by omega) (by simp; omega) ?_; intro v' w5 hown' hgrow _; obtain ⟨g', cap', rfl⟩ := ownS_succ hown'; have b5 := HO.out.grown hbs hgrow; have HO5 := Lib.hid hown'; clear hown' hgrow)
        go_ret
        rw [HQ.out]
        exact ⟨_, cap', by rw [List.length_append]; rfl, by have := HO5.out; simpa [OwnS] using this, hb.trans b5⟩
      · obtain rfl : linesL s = N := by
          have := HN.out
          rw [List.drop_length, List.take_of_length_le (by simp), List.drop_eq_nil_of_le (by omega), linesC, if_pos rfl, List.append_nil] at this
          exact this
        clear HN
        go_wp2_with fail
        go_ret
        exact ⟨D, d, rfl, HO.out, hb⟩
end Go.Proofs.Ytpjlefdigpejdaa.words
