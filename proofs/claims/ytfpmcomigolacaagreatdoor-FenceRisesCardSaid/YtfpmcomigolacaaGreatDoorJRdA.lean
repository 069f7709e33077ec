/-
  The contracts of code.New and of the methods of code.Reader, at any reader.
  The contracts of code.Reader.Int, End and Text, at any reader.
-/
import Derived.Test.YtfpmcomigolacaaGreatDoorJDec
import Derived.Test.YtfpmcomigolacaaGreatDoorJBlock
set_option linter.unusedSimpArgs false
set_option linter.unusedVariables false
namespace Go.Proofs.YtfpmcomigolacaaGreatDoor.code
open Go.ChangeShapes Go.WideShapes Go.ChangeAt Go.RowKit
open Go.Proofs.YtfpmcomigolacaaGreatDoor.enc Go.Proofs.YtfpmcomigolacaaGreatDoor.block

/-- A reader of the program: what is left, and what is wrong. -/
def RdA (w : World) (g : Nat) (l : List UInt8) (e : Int) : Prop := Whole w g 126 #[.string ⟨l.toArray⟩, .int .i64 e]
section
variable {w : World} {g : Nat} {l l' : List UInt8} {e e' : Int} {n : Nat}
theorem RdA.facts (h : RdA w g l e) :
    w.cell? ⟨g, 0, none⟩ = some (.string ⟨l.toArray⟩) ∧ w.cell? ⟨g, 1, none⟩ = some (.int .i64 e) ∧ w.frozen? ⟨g, 0, none⟩ = false ∧ w.frozen? ⟨g, 1, none⟩ = false :=
  ⟨h.read 0, h.read 1, h.soft 0, h.soft 1⟩
theorem rest_drop : (⟨l.toArray⟩ : ByteArray).extract n l.length = ⟨(l.drop n).toArray⟩ := by
  apply ByteArray.ext
  simp
  rw [List.take_of_length_le (by simp)]
theorem RdA.err (h : RdA w g l e) (e' : Int) : RdA (w.setCell ⟨g, 1, none⟩ (.int .i64 e')) g l e' := h.store 1 _
theorem RdA.rest (h : RdA w g l e) (n : Nat) : RdA (w.setCell ⟨g, 0, none⟩ (.string ((⟨l.toArray⟩ : ByteArray).extract n l.length))) g (l.drop n) e := by
  rw [rest_drop]; exact h.store 0 _
end
theorem decode_l (l : List UInt8) (hl : l.length ≤ 9223372036854775807) (w : World) :
    Calls Tryz.prog 119 #[.string ⟨l.toArray⟩] w fun e w' => e = .returned (.tuple #[.int .u64 (dec l).1, .int .i64 (dec l).2.1, .int .i64 (dec l).2.2]) ∧ w = w' := decode_any ⟨l.toArray⟩ hl w

theorem new_any (s : ByteArray) (w : World) : Calls Tryz.prog 77 #[.string s] w fun e w' => e = .returned (.pointer (some ⟨w.heap.size, 0, none⟩)) ∧ w.alloc (.cells #[.string s, .int .i64 0] 126) = w' := by
  go_enter Tryz.func77, Tryz.ntmps77
  go_wp2
  go_ret
  exact ⟨rfl, rfl⟩
theorem new_l (l : List UInt8) (w : World) : Calls Tryz.prog 77 #[.string ⟨l.toArray⟩] w fun e w' => e = .returned (.pointer (some ⟨w.heap.size, 0, none⟩)) ∧ RdA w' w.heap.size l 0 ∧ w.grownBy w' none :=
  (new_any _ w).mono fun _ _ ⟨he, hw⟩ => ⟨he, by subst hw; exact ⟨Whole.fresh w 126 _, only_alloc (World.grownBy.refl w _) _⟩⟩

theorem numA (g : Nat) (l : List UInt8) (e : Int) (hl : l.length ≤ 9223372036854775807) (w : World) (h : RdA w g l e) :
    Calls Tryz.prog 98 #[.pointer (some ⟨g, 0, none⟩)] w fun r w' => r = .returned (.int .u64 (rNum l e).1) ∧ RdA w' g (l.drop (rNum l e).2.1) (rNum l e).2.2 ∧ w.grownBy w' (some g) := by
  obtain ⟨c0, c1, f0, f1⟩ := h.facts
  have H := Lib.hid h; clear h
  by_cases he : e = 0
  · subst he
    have hr : rNum l 0 = dec l := by simp [rNum]
    rw [hr]; clear hr
    obtain ⟨b0, b1, b2, b3⟩ := dec_bd l
    clear b3
    go_enter Tryz.func98, Tryz.ntmps98
    go_wp2_with fail
    refine (decode_l l hl _).mono ?_
    rintro e w' ⟨rfl, rfl⟩
    go_wp2
    go_ret
    exact ⟨rfl, (H.out.rest _).err _, only_store (only_store (World.grownBy.refl w _) _) _⟩
  · have hr : rNum l e = (0, 0, e) := by simp [rNum, he]
    rw [hr]; clear hr
    have he' : (e != 0) = true := by simpa using he
    clear he
    go_enter Tryz.func98, Tryz.ntmps98
    go_wp2
    go_ret
    exact ⟨rfl, H.out, World.grownBy.refl w _⟩

theorem failA (g : Nat) (l : List UInt8) (e x : Int) (w : World) (h : RdA w g l e) :
    Calls Tryz.prog 114 #[.pointer (some ⟨g, 0, none⟩), .int .i64 x] w fun r w' => r = .returned (.tuple #[]) ∧ RdA w' g l (rFail e x) ∧ w.grownBy w' (some g) := by
  obtain ⟨c0, c1, f0, f1⟩ := h.facts
  have H := Lib.hid h; clear h
  by_cases he : e = 0
  · subst he
    have hr : rFail 0 x = x := by simp [rFail]
    rw [hr]; clear hr
    go_enter Tryz.func114, Tryz.ntmps114
    go_wp2
    go_end0
    exact ⟨rfl, H.out.err _, only_store (World.grownBy.refl w _) _⟩
  · have hr : rFail e x = e := by simp [rFail, he]
    rw [hr]; clear hr
    have he' : (e == 0) = false := by simpa using he
    clear he
    go_enter Tryz.func114, Tryz.ntmps114
    go_wp2
    go_end0
    exact ⟨rfl, H.out, World.grownBy.refl w _⟩

theorem leftA (g : Nat) (l : List UInt8) (e : Int) (w : World) (h : RdA w g l e) :
    Calls Tryz.prog 80 #[.pointer (some ⟨g, 0, none⟩)] w fun r w' => r = .returned (.int .i64 l.length) ∧ w = w' := by
  obtain ⟨c0, c1, f0, f1⟩ := h.facts
  clear h
  go_enter Tryz.func80, Tryz.ntmps80
  go_wp2
  go_ret
  exact ⟨rfl, rfl⟩
theorem errA (g : Nat) (l : List UInt8) (e : Int) (w : World) (h : RdA w g l e) :
    Calls Tryz.prog 79 #[.pointer (some ⟨g, 0, none⟩)] w fun r w' => r = .returned (.int .i64 e) ∧ w = w' := by
  obtain ⟨c0, c1, f0, f1⟩ := h.facts
  clear h
  go_enter Tryz.func79, Tryz.ntmps79
  go_wp2
  go_ret
  exact ⟨rfl, rfl⟩
end Go.Proofs.YtfpmcomigolacaaGreatDoor.code
set_option linter.unusedSimpArgs false
set_option linter.unusedVariables false
namespace Go.Proofs.YtfpmcomigolacaaGreatDoor.code
open Go.ChangeShapes Go.WideShapes Go.ChangeAt Go.RowKit
open Go.Proofs.YtfpmcomigolacaaGreatDoor.enc Go.Proofs.YtfpmcomigolacaaGreatDoor.block

theorem intA (g : Nat) (l : List UInt8) (e m : Int) (hl : l.length ≤ 9223372036854775807) (hm0 : -9223372036854775808 ≤ m) (hm1 : m ≤ 9223372036854775807) (w : World) (h : RdA w g l e) :
    Calls Tryz.prog 78 #[.pointer (some ⟨g, 0, none⟩), .int .i64 m] w fun r w' => r = .returned (.int .i64 (rInt l e m).1) ∧ RdA w' g (l.drop (rInt l e m).2.1) (rInt l e m).2.2 ∧ w.grownBy w' (some g) := by
  obtain ⟨b0, b1, b2⟩ := rNum_bd l e
  have hN := numA g l e hl w h
  by_cases he : (rNum l e).2.2 = 0
  · by_cases hc : m < 0 ∨ m < (rNum l e).1
    · have hr : rInt l e m = (0, (rNum l e).2.1, 1) := by simp [rInt, he, hc]
      rw [hr]; clear hr
      rw [he] at hN
      generalize rNum l e = r at hN b0 b1 b2 hc
      have HN := Lib.hid hN; clear hN he
      by_cases hc0 : m < 0
      · clear hc
        go_enter Tryz.func78, Tryz.ntmps78
        go_wp2_with fail
        refine HN.out.mono ?_
        rintro e w' ⟨rfl, h1, g1⟩
        obtain ⟨c0, c1, f0, f1⟩ := h1.facts
        go_wp2
        go_ret
        exact ⟨rfl, h1.err _, only_store g1 _⟩
      · have hc1 : m < r.1 := by omega
        clear hc
        go_enter Tryz.func78, Tryz.ntmps78
        go_wp2_with fail
        refine HN.out.mono ?_
        rintro e w' ⟨rfl, h1, g1⟩
        obtain ⟨c0, c1, f0, f1⟩ := h1.facts
        go_wp2
        go_ret
        exact ⟨rfl, h1.err _, only_store g1 _⟩
    · have hr : rInt l e m = rNum l e := by simp only [rInt, he, if_true, if_neg hc]
      rw [hr]; clear hr
      rw [he] at hN
      rw [he]
      generalize rNum l e = r at hN b0 b1 b2 hc
      have HN := Lib.hid hN; clear hN he
      have hc0 : 0 ≤ m := by omega
      have hc1 : r.1 ≤ m := by omega
      clear hc
      go_enter Tryz.func78, Tryz.ntmps78
      go_wp2_with fail
      refine HN.out.mono ?_
      rintro e w' ⟨rfl, h1, g1⟩
      obtain ⟨c0, c1, f0, f1⟩ := h1.facts
      go_wp2
      go_ret
      exact ⟨rfl, h1, g1⟩
  · have hr : rInt l e m = (0, (rNum l e).2.1, (rNum l e).2.2) := by simp only [rInt, if_neg he]
    rw [hr]; clear hr
    have he' : ((rNum l e).2.2 != 0) = true := by simpa using he
    generalize rNum l e = r at hN b0 b1 b2 he'
    have HN := Lib.hid hN; clear hN he
    go_enter Tryz.func78, Tryz.ntmps78
    go_wp2_with fail
    refine HN.out.mono ?_
    rintro e w' ⟨rfl, h1, g1⟩
    obtain ⟨c0, c1, f0, f1⟩ := h1.facts
    go_wp2
    go_ret
    exact ⟨rfl, h1, g1⟩

theorem endA (g : Nat) (l : List UInt8) (e : Int) (w : World) (h : RdA w g l e) :
    Calls Tryz.prog 89 #[.pointer (some ⟨g, 0, none⟩)] w fun r w' => r = .returned (.int .i64 (rEnd l e)) ∧ RdA w' g l (rEnd l e) ∧ w.grownBy w' (some g) := by
  obtain ⟨c0, c1, f0, f1⟩ := h.facts
  have H := Lib.hid h; clear h
  by_cases hl : l.length = 0
  · have hr : rEnd l e = e := by simp [rEnd, hl]
    rw [hr]; clear hr
    obtain rfl : l = [] := List.eq_nil_of_length_eq_zero hl
    clear hl
    go_enter Tryz.func89, Tryz.ntmps89
    go_wp2
    go_ret
    exact ⟨rfl, H.out, World.grownBy.refl w _⟩
  · have hr : rEnd l e = rFail e 7 := by simp [rEnd, hl]
    rw [hr]; clear hr
    have hn : l.isEmpty = false := by cases l <;> simp at hl ⊢
    clear hl
    go_enter Tryz.func89, Tryz.ntmps89
    go_wp2_with fail
    refine (failA g l e 7 _ H.out).mono ?_
    rintro e w' ⟨rfl, h1, g1⟩
    obtain ⟨d0, d1, e0, e1⟩ := h1.facts
    clear c0 c1 f0 f1
    go_wp2
    go_ret
    exact ⟨rfl, h1, g1⟩
theorem rest_take {l : List UInt8} {n : Nat} : (⟨l.toArray⟩ : ByteArray).extract 0 n = ⟨(l.take n).toArray⟩ := by
  apply ByteArray.ext
  simp
end Go.Proofs.YtfpmcomigolacaaGreatDoor.code
