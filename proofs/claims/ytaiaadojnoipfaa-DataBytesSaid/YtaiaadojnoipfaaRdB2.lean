/-
  The contracts of the other methods of the document's own reader, but Text.
-/
import Derived.Test.YtaiaadojnoipfaaRdB
namespace Go.Proofs.Ytaiaadojnoipfaa.code
open Go.ChangeShapes Go.WideShapes Go.ChangeAt Go.RowKit
open Go.Proofs.Ytaiaadojnoipfaa.enc Go.Proofs.Ytaiaadojnoipfaa.block

theorem failB (g : Nat) (s : ByteArray) (n : Nat) (e x : Int) (w : World) (h : RdB w g s n e) :
    Calls Try.prog 53 #[.pointer (some ⟨g, 0, none⟩), .int .i64 x] w fun r w' => r = .returned (.tuple #[]) ∧ RdB w' g s n (rFail e x) ∧ w.grownBy w' (some g) := by
  obtain ⟨c0, c1, c2, f0, f1, f2⟩ := h.facts
  have H := Lib.hid h; clear h
  by_cases he : e = 0
  · subst he
    have hr : rFail 0 x = x := by simp [rFail]
    rw [hr]; clear hr
    go_enter Try.func53, Try.ntmps53
    go_wp2
    go_end0
    exact ⟨rfl, H.out.err _, only_store (World.grownBy.refl w _) _⟩
  · have hr : rFail e x = e := by simp [rFail, he]
    rw [hr]; clear hr
    have he' : (e == 0) = false := by simpa using he
    clear he
    go_enter Try.func53, Try.ntmps53
    go_wp2
    go_end0
    exact ⟨rfl, H.out, World.grownBy.refl w _⟩
theorem leftB (g : Nat) (s : ByteArray) (n : Nat) (e : Int) (hs : s.size ≤ 140737488351232) (hn : n ≤ s.size) (w : World) (h : RdB w g s n e) :
    Calls Try.prog 27 #[.pointer (some ⟨g, 0, none⟩)] w fun r w' => r = .returned (.int .i64 (s.data.toList.drop n).length) ∧ RdB w' g s n e ∧ w.grownBy w' (some g) := by
  obtain ⟨c0, c1, c2, f0, f1, f2⟩ := h.facts
  have H := Lib.hid h; clear h
  go_enter Try.func27, Try.ntmps27
  go_wp2
  go_quiet (fail)
  go_wp2
  go_ret
  exact ⟨ret_i64 (by simp; omega), H.out, only_drewN (World.grownBy.refl w _) _⟩
theorem signedB (g : Nat) (s : ByteArray) (n : Nat) (e : Int) (hs : s.size ≤ 140737488351232) (hn : n ≤ s.size) (w : World) (h : RdB w g s n e) :
    Calls Try.prog 52 #[.pointer (some ⟨g, 0, none⟩)] w fun r w' => r = .returned (.int .i64 (unzig (rNum (s.data.toList.drop n) e).1)) ∧ RdB w' g s (n + (rNum (s.data.toList.drop n) e).2.1) (rNum (s.data.toList.drop n) e).2.2 ∧ w.grownBy w' (some g) := by
  obtain ⟨b0, b1, b2⟩ := rNum_bd (s.data.toList.drop n) e
  by_cases hz : (rNum (s.data.toList.drop n) e).1 % 2 = 0
  · have hr : unzig (rNum (s.data.toList.drop n) e).1 = (rNum (s.data.toList.drop n) e).1 / 2 := by unfold unzig; rw [if_pos hz]
    rw [hr]; clear hr
    have hz' : ((rNum (s.data.toList.drop n) e).1 % 2 == 1) = false := by simp; omega
    clear hz
    go_enter Try.func52, Try.ntmps52
    go_wp2_with fail
    refine (numB g s n e hs hn _ h).mono ?_
    rintro e w' ⟨rfl, h1, g1⟩
    go_wp2
    go_ret
    exact ⟨rfl, h1, g1⟩
  · have hr : unzig (rNum (s.data.toList.drop n) e).1 = -((rNum (s.data.toList.drop n) e).1 / 2) - 1 := by unfold unzig; rw [if_neg hz]
    rw [hr]; clear hr
    have hz' : ((rNum (s.data.toList.drop n) e).1 % 2 == 1) = true := by simp; omega
    clear hz
    go_enter Try.func52, Try.ntmps52
    go_wp2_with fail
    refine (numB g s n e hs hn _ h).mono ?_
    rintro e w' ⟨rfl, h1, g1⟩
    go_wp2
    go_ret
    exact ⟨rfl, h1, g1⟩
theorem intB (g : Nat) (s : ByteArray) (n : Nat) (e m : Int) (hs : s.size ≤ 140737488351232) (hn : n ≤ s.size) (hm0 : -9223372036854775808 ≤ m) (hm1 : m ≤ 9223372036854775807) (w : World) (h : RdB w g s n e) :
    Calls Try.prog 50 #[.pointer (some ⟨g, 0, none⟩), .int .i64 m] w fun r w' => r = .returned (.int .i64 (rInt (s.data.toList.drop n) e m).1) ∧ RdB w' g s (n + (rInt (s.data.toList.drop n) e m).2.1) (rInt (s.data.toList.drop n) e m).2.2 ∧ w.grownBy w' (some g) := by
  obtain ⟨b0, b1, b2⟩ := rNum_bd (s.data.toList.drop n) e
  have hN := numB g s n e hs hn w h
  by_cases he : (rNum (s.data.toList.drop n) e).2.2 = 0
  · by_cases hc : m < 0 ∨ m < (rNum (s.data.toList.drop n) e).1
    · have hr : rInt (s.data.toList.drop n) e m = (0, (rNum (s.data.toList.drop n) e).2.1, 1) := by simp [rInt, he, hc]
      rw [hr]; clear hr
      rw [he] at hN
      generalize rNum (s.data.toList.drop n) e = r at hN b0 b1 b2 hc
      have HN := Lib.hid hN; clear hN he
      by_cases hc0 : m < 0
      · clear hc
        go_enter Try.func50, Try.ntmps50
        go_wp2_with fail
        refine HN.out.mono ?_
        rintro e w' ⟨rfl, h1, g1⟩
        obtain ⟨c0, c1, c2, f0, f1, f2⟩ := h1.facts
        go_wp2
        go_ret
        exact ⟨rfl, h1.err _, only_store g1 _⟩
      · have hc1 : m < r.1 := by omega
        clear hc
        go_enter Try.func50, Try.ntmps50
        go_wp2_with fail
        refine HN.out.mono ?_
        rintro e w' ⟨rfl, h1, g1⟩
        obtain ⟨c0, c1, c2, f0, f1, f2⟩ := h1.facts
        go_wp2
        go_ret
        exact ⟨rfl, h1.err _, only_store g1 _⟩
    · have hr : rInt (s.data.toList.drop n) e m = rNum (s.data.toList.drop n) e := by simp only [rInt, he, if_true, if_neg hc]
      rw [hr]; clear hr
      rw [he] at hN
      rw [he]
      generalize rNum (s.data.toList.drop n) e = r at hN b0 b1 b2 hc
      have HN := Lib.hid hN; clear hN he
      have hc0 : 0 ≤ m := by omega
      have hc1 : r.1 ≤ m := by omega
      clear hc
      go_enter Try.func50, Try.ntmps50
      go_wp2_with fail
      refine HN.out.mono ?_
      rintro e w' ⟨rfl, h1, g1⟩
      obtain ⟨c0, c1, c2, f0, f1, f2⟩ := h1.facts
      go_wp2
      go_ret
      exact ⟨rfl, h1, g1⟩
  · have hr : rInt (s.data.toList.drop n) e m = (0, (rNum (s.data.toList.drop n) e).2.1, (rNum (s.data.toList.drop n) e).2.2) := by simp only [rInt, if_neg he]
    rw [hr]; clear hr
    have he' : ((rNum (s.data.toList.drop n) e).2.2 != 0) = true := by simpa using he
    have he2 : ((rNum (s.data.toList.drop n) e).2.2 == 0) = false := by simpa using he
    generalize rNum (s.data.toList.drop n) e = r at hN b0 b1 b2 he' he2
    have HN := Lib.hid hN; clear hN he
    go_enter Try.func50, Try.ntmps50
    go_wp2_with fail
    refine HN.out.mono ?_
    rintro e w' ⟨rfl, h1, g1⟩
    obtain ⟨c0, c1, c2, f0, f1, f2⟩ := h1.facts
    go_wp2
    go_ret
    exact ⟨rfl, h1, g1⟩

end Go.Proofs.Ytaiaadojnoipfaa.code
