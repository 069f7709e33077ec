/-
  Contracts of package graph: sizes, places, depths.
  What is wrong with a name, by the document.
-/
import Derived.Test.YtpblpjopinllcaaGreatDoorJWn
import Derived.WalkKit
import Derived.WalkMore
import Derived.Lib.Hide
import Derived.Deep.CutRange
import Derived.Test.YtpblpjopinllcaaGreatDoorJWu
namespace Go.Proofs.YtpblpjopinllcaaGreatDoor.graph
open Go.ChangeShapes Go.WideShapes Go.ChangeAt Go.RowKit
open Go.Proofs.YtpblpjopinllcaaGreatDoor.opened Go.Proofs.YtpblpjopinllcaaGreatDoor.block Go.Proofs.YtpblpjopinllcaaGreatDoor.words

set_option maxRecDepth 100000 in
theorem sizes_any (v : Gv) (g : Gr) (w : World) : Calls Tryz.prog 86 #[gV v g] w fun e w' => e = .returned (.int .i64 (sizesE g)) ∧ Below w.heap.size w w' := by
  unfold sizesE gV
  by_cases a1 : 4 < g.c.length
  · rw [if_pos (.inl a1)]
    go_enter Tryz.func86, Tryz.ntmps86
    go_wp2
    go_ret
    exact ⟨rfl, fresh1 _ _⟩
  by_cases a2 : 6 < g.l.length
  · rw [if_pos (.inr (.inl a2))]
    go_enter Tryz.func86, Tryz.ntmps86
    go_wp2
    go_ret
    exact ⟨rfl, fresh1 _ _⟩
  by_cases a3 : 24 < g.o.length
  · rw [if_pos (.inr (.inr (.inl a3)))]
    go_enter Tryz.func86, Tryz.ntmps86
    go_wp2
    go_ret
    exact ⟨rfl, fresh1 _ _⟩
  by_cases a4 : 48 < g.h.length
  · rw [if_pos (.inr (.inr (.inr a4)))]
    go_enter Tryz.func86, Tryz.ntmps86
    go_wp2
    go_ret
    exact ⟨rfl, fresh1 _ _⟩
  rw [if_neg (by omega)]
  by_cases b1 : g.c.length = 0
  · rw [if_pos (.inl b1)]
    have b2 : ((g.c.length : Int) == 0) = true := by rw [beq_iff_eq]; omega
    go_enter Tryz.func86, Tryz.ntmps86
    go_wp2
    go_ret
    exact ⟨rfl, fresh1 _ _⟩
  by_cases b2 : g.o.length = 0
  · rw [if_pos (.inr b2)]
    have b3 : ((g.o.length : Int) == 0) = true := by rw [beq_iff_eq]; omega
    have b4 : ((g.c.length : Int) == 0) = false := by rw [beq_eq_false_iff_ne]; omega
    go_enter Tryz.func86, Tryz.ntmps86
    go_wp2
    go_ret
    exact ⟨rfl, fresh1 _ _⟩
  rw [if_neg (by omega)]
  have b3 : ((g.o.length : Int) == 0) = false := by rw [beq_eq_false_iff_ne]; omega
  have b4 : ((g.c.length : Int) == 0) = false := by rw [beq_eq_false_iff_ne]; omega
  go_enter Tryz.func86, Tryz.ntmps86
  go_wp2
  go_ret
  exact ⟨rfl, fresh1 _ _⟩
theorem isOp_any (v : Gv) (g : Gr) (i : Int) (w : World) : Calls Tryz.prog 91 #[gV v g, .int .i64 i] w fun e w' => e = .returned (.bool (decide (0 ≤ i ∧ i < g.o.length))) ∧ Below w.heap.size w w' := by
  unfold gV
  by_cases a1 : 0 ≤ i
  · by_cases a2 : i < g.o.length
    · rw [decide_eq_true (And.intro a1 a2)]
      go_enter Tryz.func91, Tryz.ntmps91
      go_wp2
      go_ret
      exact ⟨rfl, fresh1 _ _⟩
    · rw [decide_eq_false (fun h => a2 h.2)]
      go_enter Tryz.func91, Tryz.ntmps91
      go_wp2
      go_ret
      exact ⟨rfl, fresh1 _ _⟩
  · rw [decide_eq_false (fun h => a1 h.1)]
    go_enter Tryz.func91, Tryz.ntmps91
    go_wp2
    go_ret
    exact ⟨rfl, fresh1 _ _⟩
theorem input_any (i : Nat) (hi : i ≤ 1000) (w : World) : Calls Tryz.prog 94 #[.int .i64 i] w fun e w' => e = .returned (.int .i64 (2 * (i : Int))) ∧ w = w' := by
  go_enter Tryz.func94, Tryz.ntmps94
  go_wp2
  go_ret
  exact ⟨rfl, rfl⟩
theorem output_any (i : Nat) (hi : i ≤ 1000) (w : World) : Calls Tryz.prog 163 #[.int .i64 i] w fun e w' => e = .returned (.int .i64 (2 * (i : Int) + 1)) ∧ w = w' := by
  go_enter Tryz.func163, Tryz.ntmps163
  go_wp2
  go_ret
  exact ⟨rfl, rfl⟩
theorem isPlace_any (v : Gv) (g : Gr) (i : Int) (h24 : g.o.length ≤ 24) (w : World) : Calls Tryz.prog 100 #[gV v g, .int .i64 i] w fun e w' => e = .returned (.bool (decide (0 ≤ i ∧ i < 2 * g.o.length))) ∧ Below w.heap.size w w' := by
  unfold gV
  have C := Lib.hid (input_any g.o.length (by omega))
  by_cases a1 : 0 ≤ i
  · by_cases a2 : i < 2 * (g.o.length : Int)
    · rw [decide_eq_true (And.intro a1 a2)]
      go_enter Tryz.func100, Tryz.ntmps100
      go_wp2_with (go_at_call 94; refine (C.out _).mono ?_; rintro e w1 ⟨rfl, rfl⟩)
      go_ret
      exact ⟨rfl, fresh1 _ _⟩
    · rw [decide_eq_false (fun h => a2 h.2)]
      go_enter Tryz.func100, Tryz.ntmps100
      go_wp2_with (go_at_call 94; refine (C.out _).mono ?_; rintro e w1 ⟨rfl, rfl⟩)
      go_ret
      exact ⟨by simp; omega, fresh1 _ _⟩
  · rw [decide_eq_false (fun h => a1 h.1)]
    go_enter Tryz.func100, Tryz.ntmps100
    go_wp2
    go_ret
    exact ⟨rfl, fresh1 _ _⟩
/-- How deep a loop is, where the Ups ahead are as they must be. -/
theorem depth_any (v : Gv) (g : Gr) (n : Nat) (hn : n ≤ g.l.length) (hu : UpOk g.l n) (i : Int) (h0 : -1 ≤ i) (h1 : i < n) (h6 : g.l.length ≤ 6) (w : World) (h : Lies4 w v g) :
    Calls Tryz.prog 92 #[gV v g, .int .i64 i] w fun e w' => e = .returned (.int .i64 (deepL g.l i)) ∧ Below w.heap.size w w' := by
  unfold gV
  have H := Lib.hid h
  have HU := Lib.hid hu
  have hd : deepL g.l i ≤ 7 := by
    have := deep_le hu (i + 1).toNat i h1 (by omega)
    unfold deepL
    omega
  obtain ⟨D, hD⟩ : ∃ D, deepL g.l i = D := ⟨_, rfl⟩
  rw [hD] at hd ⊢
  have HD := Lib.hid hD
  have hF := Lib.hid (fresh1 w (.cells #[.slice v.a g.c.length v.i, .slice v.b g.l.length v.j, .slice v.d g.o.length v.k, .slice v.e g.h.length v.m] 27))
  have OX := Lib.hid (Whole.fresh w 27 #[.slice v.a g.c.length v.i, .slice v.b g.l.length v.j, .slice v.d g.o.length v.k, .slice v.e g.h.length v.m])
  clear h hu hD
  go_enter Tryz.func92, Tryz.ntmps92
  go_upto_region 1 with fail
  change Code.wp _ _ _ _ (w.alloc (.cells #[.slice v.a g.c.length v.i, .slice v.b g.l.length v.j, .slice v.d g.o.length v.k, .slice v.e g.h.length v.m] 27))
  generalize w.alloc (.cells #[.slice v.a g.c.length v.i, .slice v.b g.l.length v.j, .slice v.d g.o.length v.k, .slice v.e g.h.length v.m] 27) = w1 at OX hF ⊢
  have hF2 := Lib.hid hF.out
  obtain ⟨gg, hgg⟩ : ∃ gg, w.heap.size = gg := ⟨_, rfl⟩
  rw [hgg] at OX ⊢
  clear hgg hF
  have k1 : w1.cell? ⟨gg, 1, none⟩ = some (.slice v.b g.l.length v.j) := OX.out.read 1
  go_wp2_with fail
  go_loopw [1, 5] (fun a b wr => ∃ (x : Int) (y : Nat), -1 ≤ x ∧ x < n ∧ a = .int .i64 x ∧ b = .int .i64 y ∧ Hid (y + deepL g.l x = D) ∧ wr = w1) (fun a _ _ => (intOf a + 1).toNat)
  case atStart => exact ⟨i, 0, h0, h1, rfl, rfl, Lib.hid (by rw [HD.out]; omega), rfl⟩
  case round =>
    obtain ⟨x, y, hx0, hx1, rfl, rfl, HS, rfl⟩ := hrel
    by_cases hx : x = -1
    · subst hx
      have hy : y = D := by have := HS.out; rw [deep_neg (by omega)] at this; omega
      subst hy
      go_wp2_with fail
      go_ret
      exact ⟨rfl, hF2.out⟩
    · obtain ⟨k, rfl⟩ : ∃ k : Nat, x = k := ⟨x.toNat, by omega⟩
      have hkn : k < n := by omega
      have hkl : k < g.l.length := by omega
      obtain ⟨z, hz⟩ : ∃ z, g.l[k]? = some z := ⟨g.l[k]'(by omega), List.getElem?_eq_getElem (by omega)⟩
      have hzu := HU.out k z hkn hz
      have HS2 : Hid (y + 1 + deepL g.l z.u = D) := Lib.hid (by have := HS.out; rw [deep_step HU.out hkn hz] at this; omega)
      have hy7 : y ≤ 7 := by have := HS.out; omega
      obtain ⟨b1, o1, hA, hb1, c0, c1, c2⟩ := at_lo (H.out.l.below hF2.out) hz
      rw [hA] at k1
      clear c0 c2
      go_wp2_with fail
      go_roundw
      case rel => exact ⟨z.u, y + 1, by omega, by omega, rfl, by go_num, HS2, by first | rfl | trivial⟩
      case measure => simp [intOf]; omega
end Go.Proofs.YtpblpjopinllcaaGreatDoor.graph
namespace Go.Proofs.YtpblpjopinllcaaGreatDoor.graph
open Go.ChangeShapes Go.WideShapes Go.ChangeAt Go.RowKit
open Go.Proofs.YtpblpjopinllcaaGreatDoor.opened Go.Proofs.YtpblpjopinllcaaGreatDoor.block Go.Proofs.YtpblpjopinllcaaGreatDoor.words
def cSt (s : Bs) : List Value := [sV s]
theorem at_st {w : World} {A : Option Addr} {M : List Bs} (h : Lg 1 cSt w A M) {k : Nat} {p : Bs} (hk : M[k]? = some p) :
    ∃ b off, A = some ⟨b, off, none⟩ ∧ b < w.heap.size ∧ w.cell? ⟨b, off + k, none⟩ = some (sV p) := by
  obtain ⟨b, off, hA, hb, hc⟩ := h.cells hk
  exact ⟨b, off, hA, hb, by simpa [cSt, Nat.add_assoc] using hc 0 (by omega)⟩
set_option maxRecDepth 100000 in
theorem nameR9_any (n : Bs) (A : Option Addr) (c : Nat) (M : List Bs) (h5 : M.length ≤ 100000) (w : World) (h : Lg 1 cSt w A M) :
    Calls Tryz.prog 151 #[sV n, .slice A M.length c] w fun e w' => e = .returned (.int .i64 (nameE M n)) ∧ Below w.heap.size w w' := by
  have N := fun w => nameR_any n w
  have H := Lib.hid h
  obtain ⟨E, hE⟩ : ∃ E, nameE M n = E := ⟨_, rfl⟩
  rw [hE]
  unfold nameE at hE
  replace hE := Lib.hid hE
  clear h
  cases hb : nameB n
  · rw [hb] at N
    replace N := Lib.hid N
    obtain rfl : 6 = E := by rw [← hE.out, if_pos hb]
    clear hE
    go_enter Tryz.func151, Tryz.ntmps151
    go_wp2_with (go_at_call 231; refine (N.out _).mono ?_; rintro e w1 ⟨rfl, b1⟩)
    go_ret
    exact ⟨rfl, b1⟩
  rw [hb] at N
  replace N := Lib.hid N
  replace hE := Lib.hid ((if_neg (by rw [hb]; decide)).symm.trans hE.out)
  clear hb
  go_enter Tryz.func151, Tryz.ntmps151
  go_upto_region 3 with (go_at_call 231; refine (N.out _).mono ?_; rintro e w1 ⟨rfl, b1⟩)
  replace H := Lib.hid (H.out.below b1)
  replace b1 := Lib.hid b1
  go_wp2_with fail
  go_loopw [5] (fun a wr => ∃ i : Nat, i ≤ M.length ∧ a = .int .i64 i ∧ Hid (n ∉ M.take i) ∧ wr = w1) (fun a _ => (M.length - intOf a).toNat)
  case atStart => exact ⟨0, by omega, rfl, Lib.hid (by simp), rfl⟩
  case round =>
    obtain ⟨i, hi, rfl, Z, rfl⟩ := hrel
    by_cases hin : i = M.length
    · obtain rfl : 0 = E := by rw [← hE.out, if_neg]; have := Z.out; rwa [hin, List.take_length] at this
      clear hE Z
      have hlt : ¬ ((i : Int) < M.length) := by omega
      go_wp2_with fail
      go_ret
      exact ⟨rfl, b1.out⟩
    · have hlt : i < M.length := by omega
      obtain ⟨x, hx⟩ : ∃ x, M[i]? = some x := ⟨M[i], List.getElem?_eq_getElem hlt⟩
      obtain ⟨b, o, hA, hb, c0⟩ := at_st H.out hx
      subst hA
      by_cases hxn : x = n
      · subst hxn
        obtain rfl : 4 = E := by rw [← hE.out, if_pos (List.mem_of_getElem? hx)]
        clear hE Z hx
        go_wp2_with fail
        go_ret
        exact ⟨rfl, b1.out⟩
      · have hne : (x == n) = false := by rw [beq_eq_false_iff_ne]; exact hxn
        have Z2 := Lib.hid (show n ∉ M.take (i + 1) by
          rw [List.take_add_one, hx]
          simp only [Option.toList, List.mem_append, List.mem_singleton, not_or]
          exact ⟨Z.out, fun h => hxn h.symm⟩)
        clear hE Z hx hxn
        go_wp2_with fail
        go_roundw
        case rel => exact ⟨i + 1, hlt, by go_num, Z2, by first | rfl | trivial⟩
        case measure => simp [intOf]; omega
end Go.Proofs.YtpblpjopinllcaaGreatDoor.graph
