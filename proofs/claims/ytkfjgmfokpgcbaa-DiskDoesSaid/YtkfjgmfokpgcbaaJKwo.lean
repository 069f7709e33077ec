/-
  The contract of works.
-/
import Derived.Test.YtkfjgmfokpgcbaaJKwk
namespace Go.Proofs.Ytkfjgmfokpgcbaa.disk
open Go.ChangeShapes Go.WideShapes Go.ChangeAt Go.RowKit Go.Maps Go.WideMaps
open Go.Proofs.Ytkfjgmfokpgcbaa.words Go.Proofs.Ytkfjgmfokpgcbaa.opened Go.Proofs.Ytkfjgmfokpgcbaa.block

section
variable {w0 w : World} {g : Nat}
theorem wa1 (b : Below w0.heap.size w0 w) (h : DiskB w w0.heap.size g K0) : Calls Try.prog 9 #[.pointer (some ⟨g, 0, none⟩), sV [97], sV [120, 121, 122]] w fun e w' => e = .returned (.int .i64 0) ∧ DiskB w' w0.heap.size g K1 ∧ Below w0.heap.size w0 w' := by
  have := appendB g0 (by decide) [97] [120, 121, 122] (by decide) (by decide) b.size h
  rw [k1.1, k1.2] at this
  exact this.mono fun _ _ ⟨e1, e2, e3⟩ => ⟨e1, e2, b.trans e3⟩
theorem ws1 (b : Below w0.heap.size w0 w) (h : DiskB w w0.heap.size g K1) : Calls Try.prog 11 #[.pointer (some ⟨g, 0, none⟩), sV [97]] w fun e w' => e = .returned (.int .i64 0) ∧ DiskB w' w0.heap.size g K2 ∧ Below w0.heap.size w0 w' := by
  have := syncB g1 (by decide) [97] (by decide) b.size h
  rw [k2.1, k2.2] at this
  exact this.mono fun _ _ ⟨e1, e2, e3⟩ => ⟨e1, e2, b.trans e3⟩
theorem wa2 (b : Below w0.heap.size w0 w) (h : DiskB w w0.heap.size g K2) : Calls Try.prog 9 #[.pointer (some ⟨g, 0, none⟩), sV [97], sV [117, 118]] w fun e w' => e = .returned (.int .i64 0) ∧ DiskB w' w0.heap.size g K3 ∧ Below w0.heap.size w0 w' := by
  have := appendB g2 (by decide) [97] [117, 118] (by decide) (by decide) b.size h
  rw [k3.1, k3.2] at this
  exact this.mono fun _ _ ⟨e1, e2, e3⟩ => ⟨e1, e2, b.trans e3⟩
theorem wr1 (b : Below w0.heap.size w0 w) (h : DiskB w w0.heap.size g K3) : Calls Try.prog 15 #[.pointer (some ⟨g, 0, none⟩), .int .i64 1] w fun e w' => e = .returned (.tuple #[]) ∧ DiskB w' w0.heap.size g K4 ∧ Below w0.heap.size w0 w' := by
  have := armB 1 b.size h
  rw [k4] at this
  exact this.mono fun _ _ ⟨e1, e2, e3⟩ => ⟨e1, e2, b.trans e3⟩
theorem wa3 (b : Below w0.heap.size w0 w) (h : DiskB w w0.heap.size g K4) : Calls Try.prog 9 #[.pointer (some ⟨g, 0, none⟩), sV [98], sV [119]] w fun e w' => e = .returned (.int .i64 0) ∧ DiskB w' w0.heap.size g K5 ∧ Below w0.heap.size w0 w' := by
  have := appendB g4 (by decide) [98] [119] (by decide) (by decide) b.size h
  rw [k5.1, k5.2] at this
  exact this.mono fun _ _ ⟨e1, e2, e3⟩ => ⟨e1, e2, b.trans e3⟩
theorem ws2 (b : Below w0.heap.size w0 w) (h : DiskB w w0.heap.size g K5) : Calls Try.prog 11 #[.pointer (some ⟨g, 0, none⟩), sV [98]] w fun e w' => e = .returned (.int .i64 14) ∧ DiskB w' w0.heap.size g K6 ∧ Below w0.heap.size w0 w' := by
  have := syncB g5 (by decide) [98] (by decide) b.size h
  rw [k6.1, k6.2] at this
  exact this.mono fun _ _ ⟨e1, e2, e3⟩ => ⟨e1, e2, b.trans e3⟩
theorem wd1 (h : DiskB w w0.heap.size g K6) : Calls Try.prog 28 #[.pointer (some ⟨g, 0, none⟩)] w fun e w' => e = .returned (.bool true) ∧ w = w' := downB h
theorem we1 (b : Below w0.heap.size w0 w) (h : DiskB w w0.heap.size g K6) : Calls Try.prog 21 #[.pointer (some ⟨g, 0, none⟩), sV [97]] w fun e w' => e = .returned (.tuple #[sV [], .int .i64 14]) ∧ DiskB w' w0.heap.size g K6 ∧ Below w0.heap.size w0 w' := by
  have := readB' [97] (by decide) h
  rw [k8.1, k8.2] at this
  exact this.mono fun _ _ ⟨e1, e2⟩ => ⟨e1, h.below e2, then_below b e2⟩
theorem wm1 (b : Below w0.heap.size w0 w) (h : DiskB w w0.heap.size g K6) : Calls Try.prog 17 #[.pointer (some ⟨g, 0, none⟩), .slice (some ⟨w.heap.size, 0, none⟩) 1 1] (w.alloc (.cells #[.int .i64 1] 3)) fun e w' => e = .returned (.tuple #[]) ∧ DiskB w' w0.heap.size g K7 ∧ Below w0.heap.size w0 w' := by
  have b1 := fresh1' w (.cells #[.int .i64 1] 3)
  have hc := (Whole.fresh w 3 #[.int .i64 1]).read 0
  have := mendB g6 (by decide) (some ⟨w.heap.size, 0, none⟩) 1 [1] (by simp) (by decide) b.size h b1 (.inr ⟨w.heap.size, 0, rfl, by simp, fun i x hx => by
    cases i with
    | zero =>
      obtain rfl : Value.int .i64 1 = x := by simpa using hx
      exact hc
    | succ i => simp at hx⟩) (fun a ha => by cases ha; exact Nat.le_refl _)
  rw [k7] at this
  exact this.mono fun _ _ ⟨e1, e2, e3⟩ => ⟨e1, e2, (then_below b b1).trans e3⟩
theorem we2 (b : Below w0.heap.size w0 w) (h : DiskB w w0.heap.size g K7) : Calls Try.prog 21 #[.pointer (some ⟨g, 0, none⟩), sV [97]] w fun e w' => e = .returned (.tuple #[sV [120, 121, 122, 117], .int .i64 0]) ∧ DiskB w' w0.heap.size g K7 ∧ Below w0.heap.size w0 w' := by
  have := readB' [97] (by decide) h
  rw [k9.1, k9.2.1] at this
  exact this.mono fun _ _ ⟨e1, e2⟩ => ⟨e1, h.below e2, then_below b e2⟩
theorem wd2 (h : DiskB w w0.heap.size g K7) : Calls Try.prog 28 #[.pointer (some ⟨g, 0, none⟩)] w fun e w' => e = .returned (.bool false) ∧ w = w' := downB h
theorem wn2 (b : Below w0.heap.size w0 w) (h : DiskB w w0.heap.size g K7) : Calls Try.prog 29 #[.pointer (some ⟨g, 0, none⟩)] w fun e w' => ∃ A c, e = .returned (.slice A 1 c) ∧ DiskB w' w0.heap.size g K7 ∧ Below w0.heap.size w0 w' :=
  (namesB g7 (by decide) h).mono fun _ _ ⟨A, c, e1, _, e2⟩ => ⟨A, c, e1, h.below e2, then_below b e2⟩
theorem wl2 (h : DiskB w w0.heap.size g K7) : Calls Try.prog 23 #[.pointer (some ⟨g, 0, none⟩), sV [97]] w fun e w' => e = .returned (.int .i64 4) ∧ w = w' := by
  have := lastsB [97] (by decide) h
  rw [k9.2.2] at this
  exact this
theorem wa4 (b : Below w0.heap.size w0 w) (h : DiskB w w0.heap.size g K7) : Calls Try.prog 9 #[.pointer (some ⟨g, 0, none⟩), sV [], sV [120]] w fun e w' => e = .returned (.int .i64 6) ∧ DiskB w' w0.heap.size g K7 ∧ Below w0.heap.size w0 w' := by
  have := appendB g7 (by decide) [] [120] (by decide) (by decide) b.size h
  rw [k10.1, k10.2.1] at this
  exact this.mono fun _ _ ⟨e1, e2, e3⟩ => ⟨e1, e2, b.trans e3⟩
theorem ws4 (b : Below w0.heap.size w0 w) (h : DiskB w w0.heap.size g K7) : Calls Try.prog 11 #[.pointer (some ⟨g, 0, none⟩), sV [98]] w fun e w' => e = .returned (.int .i64 3) ∧ Below w0.heap.size w0 w' := by
  have := syncB g7 (by decide) [98] (by decide) b.size h
  rw [k10.2.2] at this
  exact this.mono fun _ _ ⟨e1, e2, e3⟩ => ⟨e1, b.trans e3⟩
end
set_option maxRecDepth 100000 in
theorem works_any (w : World) : Calls Try.prog 26 #[] w fun e w' => e = .returned (.bool true) ∧ Below w.heap.size w w' := by
  have HN := Lib.hid (newB w w.heap.size (Nat.le_refl _))
  go_enter Try.func26, Try.ntmps26
  go_upto_region 4 with (first
    | (go_at_call 9; (with_reducible refine (wa2 C2.out D2.out).mono ?_); rintro e w3 ⟨rfl, d3, b3⟩; have D3 := Lib.hid d3; have C3 := Lib.hid b3; clear d3 b3)
    | (go_at_call 11; (with_reducible refine (ws1 C1.out D1.out).mono ?_); rintro e w2 ⟨rfl, d2, b2⟩; have D2 := Lib.hid d2; have C2 := Lib.hid b2; clear d2 b2)
    | (go_at_call 9; (with_reducible refine (wa1 C0.out D0.out).mono ?_); rintro e w1 ⟨rfl, d1, b1⟩; have D1 := Lib.hid d1; have C1 := Lib.hid b1; clear d1 b1)
    | (go_at_call 7; refine HN.out.mono ?_; rintro e w0 ⟨rfl, d0, b0⟩; have D0 := Lib.hid d0; have C0 := Lib.hid b0; clear d0 b0))
  clear HN D0 C0 D1 C1 D2 C2
  go_upto_region 7 with (first
    | (go_at_call 28; (with_reducible refine (wd1 D6.out).mono ?_); rintro e w7 ⟨rfl, rfl⟩)
    | (go_at_call 11; (with_reducible refine (ws2 C5.out D5.out).mono ?_); rintro e w6 ⟨rfl, d6, b6⟩; have D6 := Lib.hid d6; have C6 := Lib.hid b6; clear d6 b6)
    | (go_at_call 9; (with_reducible refine (wa3 C4.out D4.out).mono ?_); rintro e w5 ⟨rfl, d5, b5⟩; have D5 := Lib.hid d5; have C5 := Lib.hid b5; clear d5 b5)
    | (go_at_call 15; (with_reducible refine (wr1 C3.out D3.out).mono ?_); rintro e w4 ⟨rfl, d4, b4⟩; have D4 := Lib.hid d4; have C4 := Lib.hid b4; clear d4 b4))
  clear D3 C3 D4 C4 D5 C5
  go_upto_region 10 with (first
    | (go_at_call 21; (with_reducible refine (we2 C9.out D9.out).mono ?_); rintro e w10 ⟨rfl, d10, b10⟩; have D10 := Lib.hid d10; have C10 := Lib.hid b10; clear d10 b10)
    | (go_at_call 17; (with_reducible refine (wm1 C8.out D8.out).mono ?_); rintro e w9 ⟨rfl, d9, b9⟩; have D9 := Lib.hid d9; have C9 := Lib.hid b9; clear d9 b9)
    | (go_at_call 21; (with_reducible refine (we1 C6.out D6.out).mono ?_); rintro e w8 ⟨rfl, d8, b8⟩; have D8 := Lib.hid d8; have C8 := Lib.hid b8; clear d8 b8))
  clear D6 C6 D8 C8 D9 C9
  go_wp2_with (first
    | (go_at_call 11; (with_reducible refine (ws4 C12.out D12.out).mono ?_); rintro e w13 ⟨rfl, b13⟩; have C13 := Lib.hid b13; clear b13)
    | (go_at_call 9; (with_reducible refine (wa4 C11.out D11.out).mono ?_); rintro e w12 ⟨rfl, d12, b12⟩; have D12 := Lib.hid d12; have C12 := Lib.hid b12; clear d12 b12)
    | (go_at_call 23; (with_reducible refine (wl2 D11.out).mono ?_); rintro e w14 ⟨rfl, rfl⟩)
    | (go_at_call 29; (with_reducible refine (wn2 C10.out D10.out).mono ?_); rintro e w11 ⟨NA, nc, rfl, d11, b11⟩; have D11 := Lib.hid d11; have C11 := Lib.hid b11; clear d11 b11)
    | (go_at_call 28; (with_reducible refine (wd2 D10.out).mono ?_); rintro e w15 ⟨rfl, rfl⟩))
  go_ret
  exact ⟨rfl, C13.out⟩
end Go.Proofs.Ytkfjgmfokpgcbaa.disk
