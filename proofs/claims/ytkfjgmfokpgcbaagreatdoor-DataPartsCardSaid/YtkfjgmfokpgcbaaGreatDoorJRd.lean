/-
  Plain: what each method of a reader gives, of the bytes that are left and of the error: (what is answered, how many bytes are eaten, the error).
  The contracts of code.New and of the methods of code.Reader, at any reader.
-/
import Derived.Test.YtkfjgmfokpgcbaaGreatDoorJDec
import Derived.Test.YtkfjgmfokpgcbaaGreatDoorJBlock
namespace Go.Proofs.YtkfjgmfokpgcbaaGreatDoor.code
open Go.Proofs.YtkfjgmfokpgcbaaGreatDoor.enc

theorem wrap_u64_bd (n : Int) : 0 ≤ IntKind.u64.wrap n ∧ IntKind.u64.wrap n ≤ 18446744073709551615 := by
  have : IntKind.u64.wrap n = n % 18446744073709551616 := by simp [IntKind.wrap, IntKind.bits, IntKind.signed]
  omega
theorem stp_bd (acc : Int) (b : UInt8) (i : Nat) : 0 ≤ stp acc b i ∧ stp acc b i ≤ 18446744073709551615 := by
  unfold stp
  exact wrap_u64_bd _
theorem decL_bd : ∀ (l : List UInt8) (i : Nat) (acc : Int), 0 ≤ (decL l i acc).1 ∧ (decL l i acc).1 ≤ 18446744073709551615 ∧ (decL l i acc).2.1 ≤ i + l.length ∧ ((decL l i acc).2.2 = 0 ∨ (decL l i acc).2.2 = 6 ∨ (decL l i acc).2.2 = 11)
  | [], _, _ => by simp [decL]
  | b :: t, i, acc => by
    rw [decL]
    by_cases h1 : 9 ≤ i ∧ 1 < b.toNat
    · rw [if_pos h1]; simp
    · rw [if_neg h1]
      by_cases h2 : 0 < i ∧ b.toNat < 1
      · rw [if_pos h2]; simp
      · rw [if_neg h2]
        by_cases h3 : b.toNat < 128
        · rw [if_pos h3]
          have := stp_bd acc b i
          simp; omega
        · rw [if_neg h3]
          have := decL_bd t (i + 1) (stp acc b i)
          simp only [List.length_cons]
          omega
theorem dec_bd (l : List UInt8) : 0 ≤ (dec l).1 ∧ (dec l).1 ≤ 18446744073709551615 ∧ (dec l).2.1 ≤ l.length ∧ ((dec l).2.2 = 0 ∨ (dec l).2.2 = 6 ∨ (dec l).2.2 = 11) := by
  have := decL_bd l 0 0
  unfold dec
  omega

def rNum (l : List UInt8) (e : Int) : Int × Nat × Int := if e = 0 then dec l else (0, 0, e)
def rInt (l : List UInt8) (e most : Int) : Int × Nat × Int :=
  if (rNum l e).2.2 = 0 then (if most < 0 ∨ most < (rNum l e).1 then (0, (rNum l e).2.1, 1) else rNum l e) else (0, (rNum l e).2.1, (rNum l e).2.2)
def unzig (v : Int) : Int := if v % 2 = 0 then v / 2 else -(v / 2) - 1
def rTxt (l : List UInt8) (e most : Int) : List UInt8 × Nat × Int :=
  if (rInt l e most).2.2 = 0 then
    (if ((l.length - (rInt l e most).2.1 : Nat) : Int) < (rInt l e most).1 then ([], (rInt l e most).2.1, 11)
     else ((l.drop (rInt l e most).2.1).take (rInt l e most).1.toNat, (rInt l e most).2.1 + (rInt l e most).1.toNat, 0))
  else ([], (rInt l e most).2.1, (rInt l e most).2.2)
def rFail (e x : Int) : Int := if e = 0 then x else e
def rEnd (l : List UInt8) (e : Int) : Int := if l.length = 0 then e else rFail e 7

theorem rNum_bd (l : List UInt8) (e : Int) : 0 ≤ (rNum l e).1 ∧ (rNum l e).1 ≤ 18446744073709551615 ∧ (rNum l e).2.1 ≤ l.length := by
  have := dec_bd l
  unfold rNum
  by_cases h : e = 0
  · rw [if_pos h]; omega
  · rw [if_neg h]; simp
theorem rInt_bd (l : List UInt8) (e most : Int) : 0 ≤ (rInt l e most).1 ∧ ((rInt l e most).1 ≤ most ∨ (rInt l e most).1 = 0) ∧ (rInt l e most).2.1 ≤ l.length := by
  have := rNum_bd l e
  unfold rInt
  split
  · split
    · simp; omega
    · omega
  · simp; omega
theorem rTxt_bd (l : List UInt8) (e most : Int) : (rTxt l e most).2.1 ≤ l.length := by
  have := rInt_bd l e most
  unfold rTxt
  split
  · split
    · simp; omega
    · simp; omega
  · simp; omega
end Go.Proofs.YtkfjgmfokpgcbaaGreatDoor.code
namespace Go.Proofs.YtkfjgmfokpgcbaaGreatDoor.code
open Go.ChangeShapes Go.WideShapes Go.ChangeAt Go.RowKit
open Go.Proofs.YtkfjgmfokpgcbaaGreatDoor.enc Go.Proofs.YtkfjgmfokpgcbaaGreatDoor.block

/-- A reader of the program: what is left, and what is wrong. -/
def RdA (w : World) (g : Nat) (l : List UInt8) (e : Int) : Prop := Whole w g 73 #[.string ⟨l.toArray⟩, .int .i64 e]
section
variable {w : World} {g : Nat} {l l' : List UInt8} {e e' : Int} {n : Nat}
theorem RdA.facts (h : RdA w g l e) :
    w.cell? ⟨g, 0, none⟩ = some (.string ⟨l.toArray⟩) ∧ w.cell? ⟨g, 1, none⟩ = some (.int .i64 e) ∧ w.frozen? ⟨g, 0, none⟩ = false ∧ w.frozen? ⟨g, 1, none⟩ = false :=
  ⟨h.read 0, h.read 1, h.soft 0, h.soft 1⟩
theorem rest_drop : (⟨l.toArray⟩ : ByteArray).extract n l.length = ⟨(l.drop n).toArray⟩ := by
  apply ByteArray.ext
  simp
  rw [List.take_of_length_le (by simp)]
theorem RdA.err (h : RdA w g l e) (e' : Int) : RdA (w.setCell ⟨g, 1, none⟩ (.int .i64 e')) g l e' := h.store 1 _
theorem RdA.rest (h : RdA w g l e) (n : Nat) : RdA (w.setCell ⟨g, 0, none⟩ (.string ((⟨l.toArray⟩ : ByteArray).extract n l.length))) g (l.drop n) e := by
  rw [rest_drop]; exact h.store 0 _
end
theorem decode_l (l : List UInt8) (hl : l.length ≤ 9223372036854775807) (w : World) :
    Calls Tryz.prog 61 #[.string ⟨l.toArray⟩] w fun e w' => e = .returned (.tuple #[.int .u64 (dec l).1, .int .i64 (dec l).2.1, .int .i64 (dec l).2.2]) ∧ w = w' := decode_any ⟨l.toArray⟩ hl w

theorem new_any (s : ByteArray) (w : World) : Calls Tryz.prog 15 #[.string s] w fun e w' => e = .returned (.pointer (some ⟨w.heap.size, 0, none⟩)) ∧ w.alloc (.cells #[.string s, .int .i64 0] 73) = w' := by
  go_enter Tryz.func15, Tryz.ntmps15
  go_wp2
  go_ret
  exact ⟨rfl, rfl⟩
theorem new_l (l : List UInt8) (w : World) : Calls Tryz.prog 15 #[.string ⟨l.toArray⟩] w fun e w' => e = .returned (.pointer (some ⟨w.heap.size, 0, none⟩)) ∧ RdA w' w.heap.size l 0 ∧ w.grownBy w' none :=
  (new_any _ w).mono fun _ _ ⟨he, hw⟩ => ⟨he, by subst hw; exact ⟨Whole.fresh w 73 _, only_alloc (World.grownBy.refl w _) _⟩⟩

theorem numA (g : Nat) (l : List UInt8) (e : Int) (hl : l.length ≤ 9223372036854775807) (w : World) (h : RdA w g l e) :
    Calls Tryz.prog 47 #[.pointer (some ⟨g, 0, none⟩)] w fun r w' => r = .returned (.int .u64 (rNum l e).1) ∧ RdA w' g (l.drop (rNum l e).2.1) (rNum l e).2.2 ∧ w.grownBy w' (some g) := by
  obtain ⟨c0, c1, f0, f1⟩ := h.facts
  have H := Lib.hid h; clear h
  by_cases he : e = 0
  · subst he
    have hr : rNum l 0 = dec l := by simp [rNum]
    rw [hr]; clear hr
    obtain ⟨b0, b1, b2, b3⟩ := dec_bd l
    clear b3
    go_enter Tryz.func47, Tryz.ntmps47
    go_wp2_with fail
    refine (decode_l l hl _).mono ?_
    rintro e w' ⟨rfl, rfl⟩
    go_wp2
    go_ret
    exact ⟨rfl, (H.out.rest _).err _, only_store (only_store (World.grownBy.refl w _) _) _⟩
  · have hr : rNum l e = (0, 0, e) := by simp [rNum, he]
    rw [hr]; clear hr
    have he' : (e != 0) = true := by simpa using he
    clear he
    go_enter Tryz.func47, Tryz.ntmps47
    go_wp2
    go_ret
    exact ⟨rfl, H.out, World.grownBy.refl w _⟩

theorem failA (g : Nat) (l : List UInt8) (e x : Int) (w : World) (h : RdA w g l e) :
    Calls Tryz.prog 34 #[.pointer (some ⟨g, 0, none⟩), .int .i64 x] w fun r w' => r = .returned (.tuple #[]) ∧ RdA w' g l (rFail e x) ∧ w.grownBy w' (some g) := by
  obtain ⟨c0, c1, f0, f1⟩ := h.facts
  have H := Lib.hid h; clear h
  by_cases he : e = 0
  · subst he
    have hr : rFail 0 x = x := by simp [rFail]
    rw [hr]; clear hr
    go_enter Tryz.func34, Tryz.ntmps34
    go_wp2
    go_end0
    exact ⟨rfl, H.out.err _, only_store (World.grownBy.refl w _) _⟩
  · have hr : rFail e x = e := by simp [rFail, he]
    rw [hr]; clear hr
    have he' : (e == 0) = false := by simpa using he
    clear he
    go_enter Tryz.func34, Tryz.ntmps34
    go_wp2
    go_end0
    exact ⟨rfl, H.out, World.grownBy.refl w _⟩

theorem leftA (g : Nat) (l : List UInt8) (e : Int) (w : World) (h : RdA w g l e) :
    Calls Tryz.prog 18 #[.pointer (some ⟨g, 0, none⟩)] w fun r w' => r = .returned (.int .i64 l.length) ∧ w = w' := by
  obtain ⟨c0, c1, f0, f1⟩ := h.facts
  clear h
  go_enter Tryz.func18, Tryz.ntmps18
  go_wp2
  go_ret
  exact ⟨rfl, rfl⟩
theorem errA (g : Nat) (l : List UInt8) (e : Int) (w : World) (h : RdA w g l e) :
    Calls Tryz.prog 35 #[.pointer (some ⟨g, 0, none⟩)] w fun r w' => r = .returned (.int .i64 e) ∧ w = w' := by
  obtain ⟨c0, c1, f0, f1⟩ := h.facts
  clear h
  go_enter Tryz.func35, Tryz.ntmps35
  go_wp2
  go_ret
  exact ⟨rfl, rfl⟩
theorem signedA (g : Nat) (l : List UInt8) (e : Int) (hl : l.length ≤ 9223372036854775807) (w : World) (h : RdA w g l e) :
    Calls Tryz.prog 33 #[.pointer (some ⟨g, 0, none⟩)] w fun r w' => r = .returned (.int .i64 (unzig (rNum l e).1)) ∧ RdA w' g (l.drop (rNum l e).2.1) (rNum l e).2.2 ∧ w.grownBy w' (some g) := by
  obtain ⟨b0, b1, b2⟩ := rNum_bd l e
  by_cases hz : (rNum l e).1 % 2 = 0
  · have hr : unzig (rNum l e).1 = (rNum l e).1 / 2 := by unfold unzig; rw [if_pos hz]
    rw [hr]; clear hr
    have hz' : ((rNum l e).1 % 2 == 0) = true := by simpa using hz
    clear hz
    go_enter Tryz.func33, Tryz.ntmps33
    go_wp2_with fail
    refine (numA g l e hl _ h).mono ?_
    rintro e w' ⟨rfl, h1, g1⟩
    go_wp2
    go_ret
    exact ⟨rfl, h1, g1⟩
  · have hr : unzig (rNum l e).1 = -((rNum l e).1 / 2) - 1 := by unfold unzig; rw [if_neg hz]
    rw [hr]; clear hr
    have hz' : ((rNum l e).1 % 2 == 0) = false := by simpa using hz
    clear hz
    go_enter Tryz.func33, Tryz.ntmps33
    go_wp2_with fail
    refine (numA g l e hl _ h).mono ?_
    rintro e w' ⟨rfl, h1, g1⟩
    go_wp2
    go_ret
    exact ⟨rfl, h1, g1⟩
end Go.Proofs.YtkfjgmfokpgcbaaGreatDoor.code
