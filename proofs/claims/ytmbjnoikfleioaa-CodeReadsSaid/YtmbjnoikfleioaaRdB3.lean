/-
  The contract of the document's own Reader.Text, at any reader.
-/
import Derived.Test.YtmbjnoikfleioaaRdB2
namespace Go.Proofs.Ytmbjnoikfleioaa.code
open Go.ChangeShapes Go.WideShapes Go.ChangeAt Go.RowKit
open Go.Proofs.Ytmbjnoikfleioaa.enc Go.Proofs.Ytmbjnoikfleioaa.block


theorem cut_mid {s : ByteArray} {p k : Nat} : s.extract p (p + k) = ⟨((s.data.toList.drop p).take k).toArray⟩ := by
  apply ByteArray.ext
  apply Array.ext'
  simp [ByteArray.data_extract, List.extract_eq_take_drop]
set_option maxHeartbeats 400000 in
theorem txtB (g : Nat) (s : ByteArray) (n : Nat) (e m : Int) (hs : s.size ≤ 140737488351232) (hn : n ≤ s.size) (hm0 : -9223372036854775808 ≤ m) (hm1 : m ≤ 9223372036854775807) (w : World) (h : RdB w g s n e) :
    Calls Try.prog 22 #[.pointer (some ⟨g, 0, none⟩), .int .i64 m] w fun r w' => r = .returned (.string ⟨(rTxt (s.data.toList.drop n) e m).1.toArray⟩) ∧ RdB w' g s (n + (rTxt (s.data.toList.drop n) e m).2.1) (rTxt (s.data.toList.drop n) e m).2.2 ∧ w.grownBy w' (some g) := by
  obtain ⟨b0, b1, b2⟩ := rInt_bd (s.data.toList.drop n) e m
  have hN := intB g s n e m hs hn hm0 hm1 w h
  have hL : (s.data.toList.drop n).length = s.size - n := by simp
  rw [hL] at b2
  by_cases he : (rInt (s.data.toList.drop n) e m).2.2 = 0
  · by_cases hc : ((s.size - n - (rInt (s.data.toList.drop n) e m).2.1 : Nat) : Int) < (rInt (s.data.toList.drop n) e m).1
    · have hr : rTxt (s.data.toList.drop n) e m = ([], (rInt (s.data.toList.drop n) e m).2.1, 11) := by simp only [rTxt, he, if_true, hL, if_pos hc]
      rw [hr]; clear hr
      rw [he] at hN
      generalize rInt (s.data.toList.drop n) e m = r at hN b0 b1 b2 hc
      have hp : n + r.2.1 ≤ s.size := by omega
      have hc1 : (s.size : Int) - ((n + r.2.1 : Nat) : Int) < r.1 := by omega
      have HN := Lib.hid hN; clear hN he hc hL
      generalize n + r.2.1 = p at HN hp hc1
      go_enter Try.func22, Try.ntmps22
      go_wp2_with fail
      refine HN.out.mono ?_
      rintro e w' ⟨rfl, h1, g1⟩
      obtain ⟨c0, c1, c2, f0, f1, f2⟩ := h1.facts
      go_wp2
      have q1 : IntKind.i64.wrap ((s.size : Int) - (p : Int)) = (s.size : Int) - (p : Int) := IntWalk.i64_in _ (by omega)
      go_quiet (fail)
      clear q1
      go_wp2
      go_ret
      exact ⟨rfl, h1.err _, only_store (only_drewN g1 _) _⟩
    · have hr : rTxt (s.data.toList.drop n) e m = (((s.data.toList.drop n).drop (rInt (s.data.toList.drop n) e m).2.1).take (rInt (s.data.toList.drop n) e m).1.toNat, (rInt (s.data.toList.drop n) e m).2.1 + (rInt (s.data.toList.drop n) e m).1.toNat, 0) := by simp only [rTxt, he, if_true, hL, if_neg hc]
      rw [hr]; clear hr
      rw [he] at hN
      generalize rInt (s.data.toList.drop n) e m = r at hN b0 b1 b2 hc
      obtain ⟨rv, rn, rr⟩ := r
      obtain ⟨k, rfl⟩ := Int.eq_ofNat_of_zero_le b0
      simp only [Int.toNat_natCast, List.drop_drop] at hc b2 hN ⊢
      have hp : n + rn + k ≤ s.size := by omega
      rw [← Nat.add_assoc]
      have HN := Lib.hid hN; clear hN he hc b0 b1 b2 hL
      generalize n + rn = p at HN hp
      go_enter Try.func22, Try.ntmps22
      go_wp2_with fail
      refine HN.out.mono ?_
      rintro e w' ⟨rfl, h1, g1⟩
      obtain ⟨c0, c1, c2, f0, f1, f2⟩ := h1.facts
      go_wp2
      have q1 : IntKind.i64.wrap ((s.size : Int) - (p : Int)) = (s.size : Int) - (p : Int) := IntWalk.i64_in _ (by omega)
      have q2 : (k : Int) ≤ (s.size : Int) - (p : Int) := by omega
      go_quiet (fail)
      clear q1
      go_wp2
      have q1 : IntKind.i64.wrap ((p : Int) + (k : Int) - (k : Int)) = (p : Int) := by rw [show ((p : Int) + (k : Int) - (k : Int)) = (p : Int) from by omega]; exact IntWalk.i64_in _ (by omega)
      have q3 : ((p : Int) + (k : Int)).toNat = p + k := by omega
      have q4 : (0 : Int) ≤ (p : Int) + (k : Int) := by omega
      go_quiet (fail)
      clear q1
      go_wp2
      go_ret
      exact ⟨ret_str cut_mid, h1.eat (by omega), only_drewN (only_store (only_drewN g1 _) _) _⟩
  · have hr : rTxt (s.data.toList.drop n) e m = ([], (rInt (s.data.toList.drop n) e m).2.1, (rInt (s.data.toList.drop n) e m).2.2) := by simp only [rTxt, if_neg he]
    rw [hr]; clear hr
    have he' : ((rInt (s.data.toList.drop n) e m).2.2 != 0) = true := by simpa using he
    generalize rInt (s.data.toList.drop n) e m = r at hN b0 b1 b2 he'
    have HN := Lib.hid hN; clear hN he
    go_enter Try.func22, Try.ntmps22
    go_wp2_with fail
    refine HN.out.mono ?_
    rintro e w' ⟨rfl, h1, g1⟩
    obtain ⟨c0, c1, c2, f0, f1, f2⟩ := h1.facts
    go_wp2
    go_ret
    exact ⟨rfl, h1, g1⟩
end Go.Proofs.Ytmbjnoikfleioaa.code
