/-
  The contracts of the other methods of the document's own reader, but Text.
-/
import Derived.Test.YtkofocnifncagaaRdB
set_option linter.unusedSimpArgs false
set_option linter.unusedVariables false
namespace Go.Proofs.Ytkofocnifncagaa.code
open Go.ChangeShapes Go.WideShapes Go.ChangeAt Go.RowKit
open Go.Proofs.Ytkofocnifncagaa.enc Go.Proofs.Ytkofocnifncagaa.block

theorem intB (g : Nat) (s : ByteArray) (n : Nat) (e m : Int) (hs : s.size ≤ 140737488351232) (hn : n ≤ s.size) (hm0 : -9223372036854775808 ≤ m) (hm1 : m ≤ 9223372036854775807) (w : World) (h : RdB w g s n e) :
    Calls Try.prog 70 #[.pointer (some ⟨g, 0, none⟩), .int .i64 m] w fun r w' => r = .returned (.int .i64 (rInt (s.data.toList.drop n) e m).1) ∧ RdB w' g s (n + (rInt (s.data.toList.drop n) e m).2.1) (rInt (s.data.toList.drop n) e m).2.2 ∧ w.grownBy w' (some g) := by
  obtain ⟨b0, b1, b2⟩ := rNum_bd (s.data.toList.drop n) e
  have hN := numB g s n e hs hn w h
  by_cases he : (rNum (s.data.toList.drop n) e).2.2 = 0
  · by_cases hc : m < 0 ∨ m < (rNum (s.data.toList.drop n) e).1
    · have hr : rInt (s.data.toList.drop n) e m = (0, (rNum (s.data.toList.drop n) e).2.1, 1) := by simp [rInt, he, hc]
      rw [hr]; clear hr
      rw [he] at hN
      generalize rNum (s.data.toList.drop n) e = r at hN b0 b1 b2 hc
      have HN := Lib.hid hN; clear hN he
      by_cases hc0 : m < 0
      · clear hc
        go_enter Try.func70, Try.ntmps70
        go_wp2_with fail
        refine HN.out.mono ?_
        rintro e w' ⟨rfl, h1, g1⟩
        obtain ⟨c0, c1, c2, f0, f1, f2⟩ := h1.facts
        go_wp2
        go_ret
        exact ⟨rfl, h1.err _, only_store g1 _⟩
      · have hc1 : m < r.1 := by omega
        clear hc
        go_enter Try.func70, Try.ntmps70
        go_wp2_with fail
        refine HN.out.mono ?_
        rintro e w' ⟨rfl, h1, g1⟩
        obtain ⟨c0, c1, c2, f0, f1, f2⟩ := h1.facts
        go_wp2
        go_ret
        exact ⟨rfl, h1.err _, only_store g1 _⟩
    · have hr : rInt (s.data.toList.drop n) e m = rNum (s.data.toList.drop n) e := by simp only [rInt, he, if_true, if_neg hc]
      rw [hr]; clear hr
      rw [he] at hN
      rw [he]
      generalize rNum (s.data.toList.drop n) e = r at hN b0 b1 b2 hc
      have HN := Lib.hid hN; clear hN he
      have hc0 : 0 ≤ m := by omega
      have hc1 : r.1 ≤ m := by omega
      clear hc
      go_enter Try.func70, Try.ntmps70
      go_wp2_with fail
      refine HN.out.mono ?_
      rintro e w' ⟨rfl, h1, g1⟩
      obtain ⟨c0, c1, c2, f0, f1, f2⟩ := h1.facts
      go_wp2
      go_ret
      exact ⟨rfl, h1, g1⟩
  · have hr : rInt (s.data.toList.drop n) e m = (0, (rNum (s.data.toList.drop n) e).2.1, (rNum (s.data.toList.drop n) e).2.2) := by simp only [rInt, if_neg he]
    rw [hr]; clear hr
    have he' : ((rNum (s.data.toList.drop n) e).2.2 != 0) = true := by simpa using he
    have he2 : ((rNum (s.data.toList.drop n) e).2.2 == 0) = false := by simpa using he
    generalize rNum (s.data.toList.drop n) e = r at hN b0 b1 b2 he' he2
    have HN := Lib.hid hN; clear hN he
    go_enter Try.func70, Try.ntmps70
    go_wp2_with fail
    refine HN.out.mono ?_
    rintro e w' ⟨rfl, h1, g1⟩
    obtain ⟨c0, c1, c2, f0, f1, f2⟩ := h1.facts
    go_wp2
    go_ret
    exact ⟨rfl, h1, g1⟩

end Go.Proofs.Ytkofocnifncagaa.code
