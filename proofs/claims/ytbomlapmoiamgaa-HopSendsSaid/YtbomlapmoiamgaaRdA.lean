/-
  The contracts of code.New and of the methods of code.Reader, at any reader.
-/
import Derived.Test.YtbomlapmoiamgaaRd
import Derived.Test.YtbomlapmoiamgaaBlock
set_option linter.unusedSimpArgs false
set_option linter.unusedVariables false
namespace Go.Proofs.Ytbomlapmoiamgaa.code
open Go.ChangeShapes Go.WideShapes Go.ChangeAt Go.RowKit
open Go.Proofs.Ytbomlapmoiamgaa.enc Go.Proofs.Ytbomlapmoiamgaa.block

/-- A reader of the program: what is left, and what is wrong. -/
def RdA (w : World) (g : Nat) (l : List UInt8) (e : Int) : Prop := Whole w g 127 #[.string ⟨l.toArray⟩, .int .i64 e]
section
variable {w : World} {g : Nat} {l l' : List UInt8} {e e' : Int} {n : Nat}
theorem RdA.facts (h : RdA w g l e) :
    w.cell? ⟨g, 0, none⟩ = some (.string ⟨l.toArray⟩) ∧ w.cell? ⟨g, 1, none⟩ = some (.int .i64 e) ∧ w.frozen? ⟨g, 0, none⟩ = false ∧ w.frozen? ⟨g, 1, none⟩ = false :=
  ⟨h.read 0, h.read 1, h.soft 0, h.soft 1⟩
theorem rest_drop : (⟨l.toArray⟩ : ByteArray).extract n l.length = ⟨(l.drop n).toArray⟩ := by
  apply ByteArray.ext
  simp
  rw [List.take_of_length_le (by simp)]
theorem RdA.err (h : RdA w g l e) (e' : Int) : RdA (w.setCell ⟨g, 1, none⟩ (.int .i64 e')) g l e' := h.store 1 _
theorem RdA.rest (h : RdA w g l e) (n : Nat) : RdA (w.setCell ⟨g, 0, none⟩ (.string ((⟨l.toArray⟩ : ByteArray).extract n l.length))) g (l.drop n) e := by
  rw [rest_drop]; exact h.store 0 _
end
theorem decode_l (l : List UInt8) (hl : l.length ≤ 9223372036854775807) (w : World) :
    Calls Try.prog 72 #[.string ⟨l.toArray⟩] w fun e w' => e = .returned (.tuple #[.int .u64 (dec l).1, .int .i64 (dec l).2.1, .int .i64 (dec l).2.2]) ∧ w = w' := decode_any ⟨l.toArray⟩ hl w

theorem new_any (s : ByteArray) (w : World) : Calls Try.prog 63 #[.string s] w fun e w' => e = .returned (.pointer (some ⟨w.heap.size, 0, none⟩)) ∧ w.alloc (.cells #[.string s, .int .i64 0] 127) = w' := by
  go_enter Try.func63, Try.ntmps63
  go_wp2
  go_ret
  exact ⟨rfl, rfl⟩
theorem new_l (l : List UInt8) (w : World) : Calls Try.prog 63 #[.string ⟨l.toArray⟩] w fun e w' => e = .returned (.pointer (some ⟨w.heap.size, 0, none⟩)) ∧ RdA w' w.heap.size l 0 ∧ w.grownBy w' none :=
  (new_any _ w).mono fun _ _ ⟨he, hw⟩ => ⟨he, by subst hw; exact ⟨Whole.fresh w 127 _, only_alloc (World.grownBy.refl w _) _⟩⟩

theorem numA (g : Nat) (l : List UInt8) (e : Int) (hl : l.length ≤ 9223372036854775807) (w : World) (h : RdA w g l e) :
    Calls Try.prog 70 #[.pointer (some ⟨g, 0, none⟩)] w fun r w' => r = .returned (.int .u64 (rNum l e).1) ∧ RdA w' g (l.drop (rNum l e).2.1) (rNum l e).2.2 ∧ w.grownBy w' (some g) := by
  obtain ⟨c0, c1, f0, f1⟩ := h.facts
  have H := Lib.hid h; clear h
  by_cases he : e = 0
  · subst he
    have hr : rNum l 0 = dec l := by simp [rNum]
    rw [hr]; clear hr
    obtain ⟨b0, b1, b2, b3⟩ := dec_bd l
    clear b3
    go_enter Try.func70, Try.ntmps70
    go_wp2_with fail
    refine (decode_l l hl _).mono ?_
    rintro e w' ⟨rfl, rfl⟩
    go_wp2
    go_ret
    exact ⟨rfl, (H.out.rest _).err _, only_store (only_store (World.grownBy.refl w _) _) _⟩
  · have hr : rNum l e = (0, 0, e) := by simp [rNum, he]
    rw [hr]; clear hr
    have he' : (e != 0) = true := by simpa using he
    clear he
    go_enter Try.func70, Try.ntmps70
    go_wp2
    go_ret
    exact ⟨rfl, H.out, World.grownBy.refl w _⟩

theorem leftA (g : Nat) (l : List UInt8) (e : Int) (w : World) (h : RdA w g l e) :
    Calls Try.prog 65 #[.pointer (some ⟨g, 0, none⟩)] w fun r w' => r = .returned (.int .i64 l.length) ∧ w = w' := by
  obtain ⟨c0, c1, f0, f1⟩ := h.facts
  clear h
  go_enter Try.func65, Try.ntmps65
  go_wp2
  go_ret
  exact ⟨rfl, rfl⟩
theorem errA (g : Nat) (l : List UInt8) (e : Int) (w : World) (h : RdA w g l e) :
    Calls Try.prog 66 #[.pointer (some ⟨g, 0, none⟩)] w fun r w' => r = .returned (.int .i64 e) ∧ w = w' := by
  obtain ⟨c0, c1, f0, f1⟩ := h.facts
  clear h
  go_enter Try.func66, Try.ntmps66
  go_wp2
  go_ret
  exact ⟨rfl, rfl⟩
end Go.Proofs.Ytbomlapmoiamgaa.code
