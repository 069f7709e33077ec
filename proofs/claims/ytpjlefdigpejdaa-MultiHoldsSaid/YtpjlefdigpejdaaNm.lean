/-
  A time as one number.
-/
import Derived.Test.YtpjlefdigpejdaaTm
namespace Go.Proofs.Ytpjlefdigpejdaa.chain
open Go.Proofs.Ytpjlefdigpejdaa.tm

/-- A time as one number: the order of times is that of the numbers. -/
def numT (t : Tm) : Int := t.d * 340282366920938463463374607431768211456 + t.e * 79228162514264337593543950336 + t.a * 18446744073709551616 + t.b * 4294967296 + t.c
theorem orI_at {x y p : Int} (h : p ≠ 0) (hx : x = p) : orI x y = p := by subst hx; unfold orI; rw [if_neg h]
theorem orI_skip {x y : Int} (hx : x = 0) : orI x y = y := by unfold orI; rw [if_pos hx]
theorem cmpI_eq {x y : Int} (h : x = y) : cmpI x y = 0 := by subst h; exact cmpI_self x
theorem orI_cmp (x y r : Int) : orI (cmpI x y) r = if x < y then -1 else if y < x then 1 else r := by
  by_cases h : x < y
  · rw [if_pos h, cmpI_lt h]; rfl
  · rw [if_neg h]
    by_cases k : y < x
    · rw [if_pos k, cmpI_gt k]; rfl
    · rw [if_neg k, cmpI_eq (by omega)]; rfl
theorem cmpT_num {s t : Tm} (i : s.In) (j : t.In) : cmpT s t < 0 ↔ numT s < numT t := by
  obtain ⟨i0, i1, -, -, i2, i3, i4, i5, i6, i7⟩ := i
  obtain ⟨j0, j1, -, -, j2, j3, j4, j5, j6, j7⟩ := j
  unfold cmpT numT
  simp only [orI_cmp]
  unfold cmpI
  split
  · constructor <;> intro <;> omega
  · split
    · constructor <;> intro <;> omega
    · split
      · constructor <;> intro <;> omega
      · split
        · constructor <;> intro <;> omega
        · split
          · constructor <;> intro <;> omega
          · split
            · constructor <;> intro <;> omega
            · split
              · constructor <;> intro <;> omega
              · split
                · constructor <;> intro <;> omega
                · split
                  · constructor <;> intro <;> omega
                  · split
                    · constructor <;> intro <;> omega
                    · constructor <;> intro <;> omega
theorem num_eq {s t : Tm} (i : s.In) (j : t.In) (h : numT s = numT t) : s = t := by
  obtain ⟨i0, i1, -, -, i2, i3, i4, i5, i6, i7⟩ := i
  obtain ⟨j0, j1, -, -, j2, j3, j4, j5, j6, j7⟩ := j
  cases s; cases t
  simp only [numT] at *
  congr 1 <;> omega
end Go.Proofs.Ytpjlefdigpejdaa.chain
