/-
  The document's Deep, loopOf, numbers, Word (by gen_gd.py).
  What is wrong with an operator, by the document.
-/
import Derived.Test.YtpblpjopinllcaaGreatDoorJGc
namespace Go.Proofs.YtpblpjopinllcaaGreatDoor.graph
open Go.ChangeShapes Go.WideShapes Go.ChangeAt Go.RowKit
open Go.Proofs.YtpblpjopinllcaaGreatDoor.opened Go.Proofs.YtpblpjopinllcaaGreatDoor.block Go.Proofs.YtpblpjopinllcaaGreatDoor.words
set_option maxRecDepth 100000 in
/-- How deep a loop is, by the document, where the Ups ahead are as they must be. -/
theorem deepR_any (v : Gv) (g : Gr) (n : Nat) (hn : n ≤ g.l.length) (hu : UpOk g.l n) (i : Int) (h0 : -1 ≤ i) (h1 : i < n) (h6 : g.l.length ≤ 6) (w : World) (h : Lies4 w v g) :
    Calls Tryz.prog 152 #[gV v g, .int .i64 i] w fun e w' => e = .returned (.int .i64 (deepL g.l i)) ∧ Below w.heap.size w w' := by
  unfold gV
  have H := Lib.hid h
  have HU := Lib.hid hu
  have hd : deepL g.l i ≤ 7 := by
    have := deep_le hu (i + 1).toNat i h1 (by omega)
    unfold deepL
    omega
  obtain ⟨D, hD⟩ : ∃ D, deepL g.l i = D := ⟨_, rfl⟩
  rw [hD] at hd ⊢
  have HD := Lib.hid hD
  have hF := Lib.hid (fresh1 w (.cells #[.slice v.a g.c.length v.i, .slice v.b g.l.length v.j, .slice v.d g.o.length v.k, .slice v.e g.h.length v.m] 36))
  have OX := Lib.hid (Whole.fresh w 36 #[.slice v.a g.c.length v.i, .slice v.b g.l.length v.j, .slice v.d g.o.length v.k, .slice v.e g.h.length v.m])
  clear h hu hD
  go_enter Tryz.func152, Tryz.ntmps152
  go_upto_region 1 with fail
  change Code.wp _ _ _ _ (w.alloc (.cells #[.slice v.a g.c.length v.i, .slice v.b g.l.length v.j, .slice v.d g.o.length v.k, .slice v.e g.h.length v.m] 36))
  generalize w.alloc (.cells #[.slice v.a g.c.length v.i, .slice v.b g.l.length v.j, .slice v.d g.o.length v.k, .slice v.e g.h.length v.m] 36) = w1 at OX hF ⊢
  have hF2 := Lib.hid hF.out
  obtain ⟨gg, hgg⟩ : ∃ gg, w.heap.size = gg := ⟨_, rfl⟩
  rw [hgg] at OX ⊢
  clear hgg hF
  have k1 : w1.cell? ⟨gg, 1, none⟩ = some (.slice v.b g.l.length v.j) := OX.out.read 1
  go_wp2_with fail
  go_loopw [1, 5] (fun a b wr => ∃ (x : Int) (y : Nat), -1 ≤ x ∧ x < n ∧ a = .int .i64 x ∧ b = .int .i64 y ∧ Hid (y + deepL g.l x = D) ∧ wr = w1) (fun a _ _ => (intOf a + 1).toNat)
  case atStart => exact ⟨i, 0, h0, h1, rfl, rfl, Lib.hid (by rw [HD.out]; omega), rfl⟩
  case round =>
    obtain ⟨x, y, hx0, hx1, rfl, rfl, HS, rfl⟩ := hrel
    by_cases hx : x = -1
    · subst hx
      have hy : y = D := by have := HS.out; rw [deep_neg (by omega)] at this; omega
      subst hy
      go_wp2_with fail
      go_ret
      exact ⟨rfl, hF2.out⟩
    · obtain ⟨k, rfl⟩ : ∃ k : Nat, x = k := ⟨x.toNat, by omega⟩
      have hkn : k < n := by omega
      have hkl : k < g.l.length := by omega
      obtain ⟨z, hz⟩ : ∃ z, g.l[k]? = some z := ⟨g.l[k]'(by omega), List.getElem?_eq_getElem (by omega)⟩
      have hzu := HU.out k z hkn hz
      have HS2 : Hid (y + 1 + deepL g.l z.u = D) := Lib.hid (by have := HS.out; rw [deep_step HU.out hkn hz] at this; omega)
      have hy7 : y ≤ 7 := by have := HS.out; omega
      obtain ⟨b1, o1, hA, hb1, c0, c1, c2⟩ := at_lo (H.out.l.below hF2.out) hz
      rw [hA] at k1
      clear c0 c2
      go_wp2_with fail
      go_roundw
      case rel => exact ⟨z.u, y + 1, by omega, by omega, rfl, by go_num, HS2, by first | rfl | trivial⟩
      case measure => simp [intOf]; omega
set_option maxRecDepth 100000 in
theorem loopOf_walk (v : Gv) (g : Gr) (i : Nat) (x : Oq) (hx : g.o[i]? = some x) (h24 : g.o.length ≤ 24) (hl : x.k = 7 ∨ x.k = 8 → 0 ≤ x.l ∧ x.l < g.l.length) (p : Int) (out : Bool) (hp : p = 2 * (i : Int) + (if out then 1 else 0)) (w : World) (h : Lies4 w v g) :
    Calls Tryz.prog 177 #[gV v g, .int .i64 p] w fun e w' => e = .returned (.int .i64 (loopV g i out)) ∧ Below w.heap.size w w' := by
  have hi : i < 24 := by have := (List.getElem?_eq_some_iff.1 hx).1; omega
  have hil := (List.getElem?_eq_some_iff.1 hx).1
  have hq : Int.tdiv p 2 = i := by rw [hp, Int.tdiv_eq_ediv_of_nonneg (by split <;> omega)]; split <;> omega
  have hq2 : p / 2 = (i : Int) := by rw [hp]; split <;> omega
  have hp0 : 0 ≤ p := by rw [hp]; split <;> omega
  have hp9 : p ≤ 1000 := by rw [hp]; split <;> omega
  replace hp := Lib.hid hp
  obtain ⟨va, vb, vd, ve, vi, vj, vk, vm⟩ := v
  unfold gV
  have H := Lib.hid h
  dsimp only
  have hB := Lib.hid (fresh1 w (.cells #[.slice va g.c.length vi, .slice vb g.l.length vj, .slice vd g.o.length vk, .slice ve g.h.length vm] 36))
  have OX := Lib.hid (Whole.fresh w 36 #[.slice va g.c.length vi, .slice vb g.l.length vj, .slice vd g.o.length vk, .slice ve g.h.length vm])
  have HR := Lib.hid (h.below hB.out)
  obtain ⟨b1, o1, hA, hb1, c0, c1, c2, c3, c4, c5⟩ := at_oq HR.out.o hx
  change vd = _ at hA
  subst hA
  have hv : loopV g i out = if (x.k = 7 ∧ out = false) ∨ (x.k = 8 ∧ out = true) then (match g.l[x.l.toNat]? with | none => -1 | some y => y.u) else x.l := by unfold loopV; rw [hx]; rfl
  rw [hv]
  clear h H hv
  obtain ⟨R, hR⟩ : ∃ R, (if (x.k = 7 ∧ out = false) ∨ (x.k = 8 ∧ out = true) then (match g.l[x.l.toNat]? with | none => -1 | some y => y.u) else x.l) = R := ⟨_, rfl⟩
  rw [hR]
  replace hR := Lib.hid hR
  go_enter Tryz.func177, Tryz.ntmps177
  go_upto_region 1 with fail
  change Code.wp _ _ _ _ (w.alloc (.cells #[.slice va g.c.length vi, .slice vb g.l.length vj, .slice (some ⟨b1, o1, none⟩) g.o.length vk, .slice ve g.h.length vm] 36))
  generalize w.alloc (.cells #[.slice va g.c.length vi, .slice vb g.l.length vj, .slice (some ⟨b1, o1, none⟩) g.o.length vk, .slice ve g.h.length vm] 36) = w1 at OX hB HR hb1 c0 c1 c2 c3 c4 c5 ⊢
  obtain ⟨gg, hgg⟩ : ∃ gg, w.heap.size = gg := ⟨_, rfl⟩
  rw [hgg] at OX ⊢
  clear hgg
  have k2 : w1.cell? ⟨gg, 2, none⟩ = some (.slice (some ⟨b1, o1, none⟩) g.o.length vk) := OX.out.read 2
  go_upto_region 2 with fail
  change Code.wp _ _ _ _ (w1.alloc (.cells #[sV x.n, .int .i64 x.k, .int .i64 x.l, .int .i64 x.a, .int .i64 x.x, .int .i64 x.y] 141))
  have hW := fresh1 w1 (.cells #[sV x.n, .int .i64 x.k, .int .i64 x.l, .int .i64 x.a, .int .i64 x.x, .int .i64 x.y] 141)
  have OW := Lib.hid (Whole.fresh w1 141 #[sV x.n, .int .i64 x.k, .int .i64 x.l, .int .i64 x.a, .int .i64 x.x, .int .i64 x.y])
  have OG := OX.out.below hW OX.out.inside
  have H2 := Lib.hid (HR.out.below hW)
  have B2 := Lib.hid (hB.out.trans (hW.mono hB.out.size))
  clear OX HR hB hW c0 c1 c2 c3 c4 c5 hb1 k2
  generalize w1.alloc (.cells #[sV x.n, .int .i64 x.k, .int .i64 x.l, .int .i64 x.a, .int .i64 x.x, .int .i64 x.y] 141) = w2 at OW OG H2 B2 ⊢
  generalize w1.heap.size = r at OW ⊢
  have d1 : w2.cell? ⟨r, 1, none⟩ = some (.int .i64 x.k) := OW.out.read 1
  have d2 : w2.cell? ⟨r, 2, none⟩ = some (.int .i64 x.l) := OW.out.read 2
  have k1 : w2.cell? ⟨gg, 1, none⟩ = some (.slice vb g.l.length vj) := OG.read 1
  clear OG OW hx hq hq2
  cases out
  · replace hp : p = 2 * (i : Int) := by simpa using hp.out
    have hr : Int.tmod p 2 = 0 := by rw [hp, Int.tmod_eq_emod_of_nonneg (by omega)]; omega
    have hr2 : p % 2 = 0 := by omega
    clear hp
    by_cases hk : x.k = 7
    · have hl2 := hl (.inl hk)
      obtain ⟨m, hm⟩ : ∃ m : Nat, x.l = m := ⟨x.l.toNat, by omega⟩
      obtain ⟨y, hy⟩ : ∃ y, g.l[m]? = some y := ⟨g.l[m]'(by omega), List.getElem?_eq_getElem (by omega)⟩
      obtain rfl : y.u = R := by rw [← hR.out, if_pos (by simp [hk]), hm, Int.toNat_natCast, hy]
      obtain ⟨b3, o3, hA3, hb3, e0, e1, e2⟩ := at_lo H2.out.l hy
      change vb = _ at hA3
      subst hA3
      rw [hm] at d2
      rw [hk] at d1
      have hml : m < g.l.length := by omega
      clear e0 e2 H2 hR hy hl
      go_wp2_with fail
      go_ret
      exact ⟨rfl, B2.out⟩
    by_cases hk8 : x.k = 8
    · have hk := hk8
      have hl2 := hl (.inr hk)
      obtain rfl : x.l = R := by rw [← hR.out, if_neg (by simp [hk])]
      clear H2 hR hl
      rw [hk] at d1
      go_wp2_with fail
      go_ret
      exact ⟨rfl, B2.out⟩
    · have f1 : (x.k == 7) = false := by rw [beq_eq_false_iff_ne]; exact hk
      have f2 : (x.k == 8) = false := by rw [beq_eq_false_iff_ne]; exact hk8
      obtain rfl : x.l = R := by rw [← hR.out, if_neg (by simp [hk, hk8])]
      clear H2 hR hl
      go_wp2_with fail
      go_ret
      exact ⟨rfl, B2.out⟩
  · replace hp : p = 2 * (i : Int) + 1 := by simpa using hp.out
    have hr : Int.tmod p 2 = 1 := by rw [hp, Int.tmod_eq_emod_of_nonneg (by omega)]; omega
    have hr2 : p % 2 = 1 := by omega
    clear hp
    by_cases hk : x.k = 7
    · have hl2 := hl (.inl hk)
      obtain rfl : x.l = R := by rw [← hR.out, if_neg (by simp [hk])]
      clear H2 hR hl
      rw [hk] at d1
      go_wp2_with fail
      go_ret
      exact ⟨rfl, B2.out⟩
    by_cases hk8 : x.k = 8
    · have hk := hk8
      have hl2 := hl (.inr hk)
      obtain ⟨m, hm⟩ : ∃ m : Nat, x.l = m := ⟨x.l.toNat, by omega⟩
      obtain ⟨y, hy⟩ : ∃ y, g.l[m]? = some y := ⟨g.l[m]'(by omega), List.getElem?_eq_getElem (by omega)⟩
      obtain rfl : y.u = R := by rw [← hR.out, if_pos (by simp [hk]), hm, Int.toNat_natCast, hy]
      obtain ⟨b3, o3, hA3, hb3, e0, e1, e2⟩ := at_lo H2.out.l hy
      change vb = _ at hA3
      subst hA3
      rw [hm] at d2
      rw [hk] at d1
      have hml : m < g.l.length := by omega
      clear e0 e2 H2 hR hy hl
      go_wp2_with fail
      go_ret
      exact ⟨rfl, B2.out⟩
    · have f1 : (x.k == 7) = false := by rw [beq_eq_false_iff_ne]; exact hk
      have f2 : (x.k == 8) = false := by rw [beq_eq_false_iff_ne]; exact hk8
      obtain rfl : x.l = R := by rw [← hR.out, if_neg (by simp [hk, hk8])]
      clear H2 hR hl
      go_wp2_with fail
      go_ret
      exact ⟨rfl, B2.out⟩
/-- The word for a kind; empty where there is none. -/
def wordB (k : Int) : Bs := if k = 1 then [105, 110, 112, 117, 116] else if k = 2 then [99, 97, 112, 116, 117, 114, 101] else if k = 3 then [109, 97, 112] else if k = 4 then [102, 105, 108, 116, 101, 114] else if k = 5 then [115, 119, 97, 112] else if k = 6 then [114, 101, 107, 101, 121] else if k = 7 then [101, 110, 116, 101, 114] else if k = 8 then [108, 101, 97, 118, 101] else if k = 9 then [110, 101, 120, 116] else if k = 10 then [100, 101, 108, 97, 121] else if k = 11 then [115, 117, 109] else if k = 12 then [99, 111, 117, 110, 116] else if k = 13 then [108, 101, 97, 115, 116] else if k = 14 then [109, 111, 115, 116] else []
theorem word_any (k : Int) (w : World) : Calls Tryz.prog 228 #[.int .i64 k] w fun e w' => e = .returned (sV (wordB k)) ∧ w' = w := by
  by_cases a1 : k = 1
  · subst a1
    go_enter Tryz.func228, Tryz.ntmps228
    go_wp2
    go_ret
    exact ⟨rfl, rfl⟩
  by_cases a2 : k = 2
  · subst a2
    go_enter Tryz.func228, Tryz.ntmps228
    go_wp2
    go_ret
    exact ⟨rfl, rfl⟩
  by_cases a3 : k = 3
  · subst a3
    go_enter Tryz.func228, Tryz.ntmps228
    go_wp2
    go_ret
    exact ⟨rfl, rfl⟩
  by_cases a4 : k = 4
  · subst a4
    go_enter Tryz.func228, Tryz.ntmps228
    go_wp2
    go_ret
    exact ⟨rfl, rfl⟩
  by_cases a5 : k = 5
  · subst a5
    go_enter Tryz.func228, Tryz.ntmps228
    go_wp2
    go_ret
    exact ⟨rfl, rfl⟩
  by_cases a6 : k = 6
  · subst a6
    go_enter Tryz.func228, Tryz.ntmps228
    go_wp2
    go_ret
    exact ⟨rfl, rfl⟩
  by_cases a7 : k = 7
  · subst a7
    go_enter Tryz.func228, Tryz.ntmps228
    go_wp2
    go_ret
    exact ⟨rfl, rfl⟩
  by_cases a8 : k = 8
  · subst a8
    go_enter Tryz.func228, Tryz.ntmps228
    go_wp2
    go_ret
    exact ⟨rfl, rfl⟩
  by_cases a9 : k = 9
  · subst a9
    go_enter Tryz.func228, Tryz.ntmps228
    go_wp2
    go_ret
    exact ⟨rfl, rfl⟩
  by_cases a10 : k = 10
  · subst a10
    go_enter Tryz.func228, Tryz.ntmps228
    go_wp2
    go_ret
    exact ⟨rfl, rfl⟩
  by_cases a11 : k = 11
  · subst a11
    go_enter Tryz.func228, Tryz.ntmps228
    go_wp2
    go_ret
    exact ⟨rfl, rfl⟩
  by_cases a12 : k = 12
  · subst a12
    go_enter Tryz.func228, Tryz.ntmps228
    go_wp2
    go_ret
    exact ⟨rfl, rfl⟩
  by_cases a13 : k = 13
  · subst a13
    go_enter Tryz.func228, Tryz.ntmps228
    go_wp2
    go_ret
    exact ⟨rfl, rfl⟩
  by_cases a14 : k = 14
  · subst a14
    go_enter Tryz.func228, Tryz.ntmps228
    go_wp2
    go_ret
    exact ⟨rfl, rfl⟩
  have f1 : (k == 1) = false := by rw [beq_eq_false_iff_ne]; exact a1
  have f2 : (k == 2) = false := by rw [beq_eq_false_iff_ne]; exact a2
  have f3 : (k == 3) = false := by rw [beq_eq_false_iff_ne]; exact a3
  have f4 : (k == 4) = false := by rw [beq_eq_false_iff_ne]; exact a4
  have f5 : (k == 5) = false := by rw [beq_eq_false_iff_ne]; exact a5
  have f6 : (k == 6) = false := by rw [beq_eq_false_iff_ne]; exact a6
  have f7 : (k == 7) = false := by rw [beq_eq_false_iff_ne]; exact a7
  have f8 : (k == 8) = false := by rw [beq_eq_false_iff_ne]; exact a8
  have f9 : (k == 9) = false := by rw [beq_eq_false_iff_ne]; exact a9
  have f10 : (k == 10) = false := by rw [beq_eq_false_iff_ne]; exact a10
  have f11 : (k == 11) = false := by rw [beq_eq_false_iff_ne]; exact a11
  have f12 : (k == 12) = false := by rw [beq_eq_false_iff_ne]; exact a12
  have f13 : (k == 13) = false := by rw [beq_eq_false_iff_ne]; exact a13
  have f14 : (k == 14) = false := by rw [beq_eq_false_iff_ne]; exact a14
  have e : wordB k = [] := by simp [wordB, a1, a2, a3, a4, a5, a6, a7, a8, a9, a10, a11, a12, a13, a14]
  rw [e]
  clear e a1 a2 a3 a4 a5 a6 a7 a8 a9 a10 a11 a12 a13 a14
  go_enter Tryz.func228, Tryz.ntmps228
  go_wp2
  go_ret
  exact ⟨rfl, rfl⟩
set_option maxRecDepth 100000 in
set_option maxHeartbeats 1000000 in
theorem numbers_any (n : Bs) (k l a x y : Int) (w : World) : Calls Tryz.prog 232 #[.agg #[sV n, .int .i64 k, .int .i64 l, .int .i64 a, .int .i64 x, .int .i64 y]] w fun e w' => e = .returned (.bool (numsB k x y)) ∧ Below w.heap.size w w' := by
  by_cases a3 : k = 3
  · subst a3
    have e : numsB 3 x y = true := by simp [numsB] <;> omega
    rw [e]
    clear e
    go_enter Tryz.func232, Tryz.ntmps232
    go_wp2
    go_ret
    exact ⟨rfl, fresh1 _ _⟩
  by_cases a4 : k = 4
  · subst a4
    by_cases c0 : 1 ≤ x
    case neg =>
      have e : numsB 4 x y = false := by simp [numsB] <;> omega
      rw [e]
      clear e
      go_enter Tryz.func232, Tryz.ntmps232
      go_wp2
      go_ret
      exact ⟨rfl, fresh1 _ _⟩
    by_cases c1 : x ≤ 1000
    case neg =>
      have e : numsB 4 x y = false := by simp [numsB] <;> omega
      rw [e]
      clear e
      go_enter Tryz.func232, Tryz.ntmps232
      go_wp2
      go_ret
      exact ⟨rfl, fresh1 _ _⟩
    by_cases c2 : 0 ≤ y
    case neg =>
      have e : numsB 4 x y = false := by simp [numsB] <;> omega
      rw [e]
      clear e
      go_enter Tryz.func232, Tryz.ntmps232
      go_wp2
      go_ret
      exact ⟨rfl, fresh1 _ _⟩
    by_cases c3 : y < x
    case neg =>
      have e : numsB 4 x y = false := by simp [numsB] <;> omega
      rw [e]
      clear e
      go_enter Tryz.func232, Tryz.ntmps232
      go_wp2
      go_ret
      exact ⟨rfl, fresh1 _ _⟩
    have e : numsB 4 x y = true := by simp [numsB] <;> omega
    rw [e]
    clear e
    go_enter Tryz.func232, Tryz.ntmps232
    go_wp2
    go_ret
    exact ⟨rfl, fresh1 _ _⟩
  by_cases a6 : k = 6
  · subst a6
    by_cases c0 : 1 ≤ x
    case neg =>
      have e : numsB 6 x y = false := by simp [numsB] <;> omega
      rw [e]
      clear e
      go_enter Tryz.func232, Tryz.ntmps232
      go_wp2
      go_ret
      exact ⟨rfl, fresh1 _ _⟩
    by_cases c1 : x ≤ 1000
    case neg =>
      have e : numsB 6 x y = false := by simp [numsB] <;> omega
      rw [e]
      clear e
      go_enter Tryz.func232, Tryz.ntmps232
      go_wp2
      go_ret
      exact ⟨rfl, fresh1 _ _⟩
    by_cases c2 : y = 0
    · subst c2
      have e : numsB 6 x 0 = true := by simp [numsB] <;> omega
      rw [e]
      clear e
      go_enter Tryz.func232, Tryz.ntmps232
      go_wp2
      go_ret
      exact ⟨rfl, fresh1 _ _⟩
    · have fy : (y == 0) = false := by rw [beq_eq_false_iff_ne]; exact c2
      have e : numsB 6 x y = false := by simp [numsB] <;> omega
      rw [e]
      clear e
      go_enter Tryz.func232, Tryz.ntmps232
      go_wp2
      go_ret
      exact ⟨rfl, fresh1 _ _⟩
  by_cases a10 : k = 10
  · subst a10
    by_cases c0 : 0 ≤ x
    case neg =>
      have e : numsB 10 x y = false := by simp [numsB] <;> omega
      rw [e]
      clear e
      go_enter Tryz.func232, Tryz.ntmps232
      go_wp2
      go_ret
      exact ⟨rfl, fresh1 _ _⟩
    by_cases c1 : x ≤ 1000
    case neg =>
      have e : numsB 10 x y = false := by simp [numsB] <;> omega
      rw [e]
      clear e
      go_enter Tryz.func232, Tryz.ntmps232
      go_wp2
      go_ret
      exact ⟨rfl, fresh1 _ _⟩
    by_cases c2 : y = 0
    · subst c2
      have e : numsB 10 x 0 = true := by simp [numsB] <;> omega
      rw [e]
      clear e
      go_enter Tryz.func232, Tryz.ntmps232
      go_wp2
      go_ret
      exact ⟨rfl, fresh1 _ _⟩
    · have fy : (y == 0) = false := by rw [beq_eq_false_iff_ne]; exact c2
      have e : numsB 10 x y = false := by simp [numsB] <;> omega
      rw [e]
      clear e
      go_enter Tryz.func232, Tryz.ntmps232
      go_wp2
      go_ret
      exact ⟨rfl, fresh1 _ _⟩
  have hn : numsB k x y = decide (x = 0 ∧ y = 0) := by simp [numsB, a3, a4, a6, a10]
  rw [hn]
  clear hn
  have f3 : (k == 3) = false := by rw [beq_eq_false_iff_ne]; exact a3
  have f4 : (k == 4) = false := by rw [beq_eq_false_iff_ne]; exact a4
  have f6 : (k == 6) = false := by rw [beq_eq_false_iff_ne]; exact a6
  have f10 : (k == 10) = false := by rw [beq_eq_false_iff_ne]; exact a10
  clear a3 a4 a6 a10
  by_cases cx : x = 0
  · subst cx
    by_cases cy : y = 0
    · subst cy
      go_enter Tryz.func232, Tryz.ntmps232
      go_wp2
      go_ret
      exact ⟨rfl, fresh1 _ _⟩
    · have fy : (y == 0) = false := by rw [beq_eq_false_iff_ne]; exact cy
      rw [decide_eq_false (fun h => cy h.2)]
      go_enter Tryz.func232, Tryz.ntmps232
      go_wp2
      go_ret
      exact ⟨rfl, fresh1 _ _⟩
  · have fx : (x == 0) = false := by rw [beq_eq_false_iff_ne]; exact cx
    rw [decide_eq_false (fun h => cx h.1)]
    go_enter Tryz.func232, Tryz.ntmps232
    go_wp2
    go_ret
    exact ⟨rfl, fresh1 _ _⟩
end Go.Proofs.YtpblpjopinllcaaGreatDoor.graph
namespace Go.Proofs.YtpblpjopinllcaaGreatDoor.graph
open Go.ChangeShapes Go.WideShapes Go.ChangeAt Go.RowKit
open Go.Proofs.YtpblpjopinllcaaGreatDoor.opened Go.Proofs.YtpblpjopinllcaaGreatDoor.block Go.Proofs.YtpblpjopinllcaaGreatDoor.words
theorem word_none (k : Int) : wordB k = [] ↔ (k < 1 ∨ 14 < k) := by
  constructor
  · intro h
    apply Classical.byContradiction
    intro hk
    obtain ⟨m, rfl⟩ : ∃ m : Nat, k = m := ⟨k.toNat, by omega⟩
    rcases (show m = 1 ∨ m = 2 ∨ m = 3 ∨ m = 4 ∨ m = 5 ∨ m = 6 ∨ m = 7 ∨ m = 8 ∨ m = 9 ∨ m = 10 ∨ m = 11 ∨ m = 12 ∨ m = 13 ∨ m = 14 by omega) with rfl | rfl | rfl | rfl | rfl | rfl | rfl | rfl | rfl | rfl | rfl | rfl | rfl | rfl
    all_goals exact absurd h (by decide)
  · intro h
    unfold wordB
    repeat rw [if_neg (by omega)]
set_option maxRecDepth 100000 in
set_option maxHeartbeats 1000000 in
theorem opR_any (v : Gv) (g : Gr) (n : Bs) (k l a x y : Int) (w : World) :
    Calls Tryz.prog 153 #[gV v g, .agg #[sV n, .int .i64 k, .int .i64 l, .int .i64 a, .int .i64 x, .int .i64 y]] w fun e w' => e = .returned (.int .i64 (opE g ⟨n, k, l, a, x, y⟩)) ∧ Below w.heap.size w w' := by
  have NA := numbers_any n k l a x y
  have WD := word_any k
  obtain ⟨va, vb, vd, ve, vi, vj, vk, vm⟩ := v
  unfold gV
  dsimp only
  obtain ⟨E, hE⟩ : ∃ E, opE g ⟨n, k, l, a, x, y⟩ = E := ⟨_, rfl⟩
  rw [hE]
  unfold opE at hE
  dsimp only at hE
  replace hE := Lib.hid hE
  by_cases ak : k < 1 ∨ 14 < k
  · obtain rfl : 70 = E := by rw [← hE.out, if_pos ak]
    rw [(word_none k).2 ak] at WD
    replace WD := Lib.hid WD
    clear hE ak NA
    go_enter Tryz.func153, Tryz.ntmps153
    go_wp2_with (go_at_call 228; refine (WD.out _).mono ?_; rintro e w3 ⟨rfl, rfl⟩)
    go_ret
    exact ⟨rfl, (fresh1 _ _).trans ((fresh1 _ _).mono (by simp))⟩
  have wn : wordB k ≠ [] := fun h => ak ((word_none k).1 h)
  obtain ⟨c, r, hw⟩ : ∃ c r, wordB k = c :: r := List.exists_cons_of_ne_nil wn
  rw [hw] at WD
  replace WD := Lib.hid WD
  replace hE := Lib.hid ((if_neg ak).symm.trans hE.out)
  have k1 : 1 ≤ k := by omega
  have k14 : k ≤ 14 := by omega
  clear wn hw ak
  by_cases al : l < -1 ∨ (g.l.length : Int) ≤ l ∨ a < 0 ∨ (g.c.length : Int) ≤ a
  · obtain rfl : 1 = E := by rw [← hE.out, if_pos al]
    clear hE NA
    rcases Classical.em (l < -1) with a1 | a1
    · clear al
      go_enter Tryz.func153, Tryz.ntmps153
      go_wp2_with (first | (go_at_call 228; refine (WD.out _).mono ?_; rintro e w3 ⟨rfl, rfl⟩) | (go_at_call 232; refine (NA.out _).mono ?_; rintro e w4 ⟨rfl, b4⟩))
      go_ret
      exact ⟨rfl, (fresh1 _ _).trans ((fresh1 _ _).mono (by simp))⟩
    rcases Classical.em ((g.l.length : Int) ≤ l) with a2 | a2
    · clear al
      go_enter Tryz.func153, Tryz.ntmps153
      go_wp2_with (first | (go_at_call 228; refine (WD.out _).mono ?_; rintro e w3 ⟨rfl, rfl⟩) | (go_at_call 232; refine (NA.out _).mono ?_; rintro e w4 ⟨rfl, b4⟩))
      go_ret
      exact ⟨rfl, (fresh1 _ _).trans ((fresh1 _ _).mono (by simp))⟩
    rcases Classical.em (a < 0) with a3 | a3
    · clear al
      go_enter Tryz.func153, Tryz.ntmps153
      go_wp2_with (first | (go_at_call 228; refine (WD.out _).mono ?_; rintro e w3 ⟨rfl, rfl⟩) | (go_at_call 232; refine (NA.out _).mono ?_; rintro e w4 ⟨rfl, b4⟩))
      go_ret
      exact ⟨rfl, (fresh1 _ _).trans ((fresh1 _ _).mono (by simp))⟩
    have a4 : (g.c.length : Int) ≤ a := by omega
    clear al
    go_enter Tryz.func153, Tryz.ntmps153
    go_wp2_with (first | (go_at_call 228; refine (WD.out _).mono ?_; rintro e w3 ⟨rfl, rfl⟩) | (go_at_call 232; refine (NA.out _).mono ?_; rintro e w4 ⟨rfl, b4⟩))
    go_ret
    exact ⟨rfl, (fresh1 _ _).trans ((fresh1 _ _).mono (by simp))⟩
  replace hE := Lib.hid ((if_neg al).symm.trans hE.out)
  have a1 : ¬ l < -1 := by omega
  have a2 : ¬ (g.l.length : Int) ≤ l := by omega
  have a3 : ¬ a < 0 := by omega
  have a4 : ¬ (g.c.length : Int) ≤ a := by omega
  clear al
  by_cases e1 : whereB k l = false
  · obtain rfl : 10 = E := by rw [← hE.out, if_pos e1]
    clear hE NA
    unfold whereB at e1
    by_cases b1 : k ≤ 2
    · rw [if_pos b1] at e1
      have hl := of_decide_eq_false e1
      have hl2 : (l == -1) = false := by rw [beq_eq_false_iff_ne]; exact hl
      clear e1
      go_enter Tryz.func153, Tryz.ntmps153
      go_wp2_with (first | (go_at_call 228; refine (WD.out _).mono ?_; rintro e w3 ⟨rfl, rfl⟩) | (go_at_call 232; refine (NA.out _).mono ?_; rintro e w4 ⟨rfl, b4⟩))
      go_ret
      exact ⟨rfl, (fresh1 _ _).trans ((fresh1 _ _).mono (by simp))⟩
    rw [if_neg b1] at e1
    by_cases b2 : 7 ≤ k ∧ k ≤ 9
    · rw [if_pos b2] at e1
      have hl : l = -1 := by simpa using e1
      obtain ⟨b2, b3⟩ := b2
      subst hl
      clear e1 a1
      go_enter Tryz.func153, Tryz.ntmps153
      go_wp2_with (first | (go_at_call 228; refine (WD.out _).mono ?_; rintro e w3 ⟨rfl, rfl⟩) | (go_at_call 232; refine (NA.out _).mono ?_; rintro e w4 ⟨rfl, b4⟩))
      go_ret
      exact ⟨rfl, (fresh1 _ _).trans ((fresh1 _ _).mono (by simp))⟩
    · rw [if_neg b2] at e1
      cases e1
  replace hE := Lib.hid ((if_neg e1).symm.trans hE.out)
  have W : ∀ R : Int, E = R → (numsB k x y = false ∧ R = 1 ∨ numsB k x y = true ∧ R = 0) →
      Calls Tryz.prog 153 #[.agg #[.slice va g.c.length vi, .slice vb g.l.length vj, .slice vd g.o.length vk, .slice ve g.h.length vm], .agg #[sV n, .int .i64 k, .int .i64 l, .int .i64 a, .int .i64 x, .int .i64 y]] w fun e w' => e = .returned (.int .i64 R) ∧ Below w.heap.size w w' := fun R _ hR => by
    clear hE
    unfold whereB at e1
    rcases hR with ⟨hv, rfl⟩ | ⟨hv, rfl⟩
    all_goals
      rw [hv] at NA
      replace NA := Lib.hid NA
      clear hv
      by_cases b1 : k ≤ 2
      · rw [if_pos b1] at e1
        have hl : l = -1 := by simpa using e1
        subst hl
        clear e1 a1
        go_enter Tryz.func153, Tryz.ntmps153
        go_wp2_with (first | (go_at_call 228; refine (WD.out _).mono ?_; rintro e w3 ⟨rfl, rfl⟩) | (go_at_call 232; refine (NA.out _).mono ?_; rintro e w4 ⟨rfl, b4⟩))
        go_ret
        exact ⟨rfl, (fresh1 _ _).trans (((fresh1 _ _).trans (b4.mono (by simp))).mono (by simp))⟩
      rw [if_neg b1] at e1
      by_cases b2 : 7 ≤ k ∧ k ≤ 9
      · rw [if_pos b2] at e1
        have hl : l ≠ -1 := by simpa using e1
        have hl2 : (l == -1) = false := by rw [beq_eq_false_iff_ne]; exact hl
        obtain ⟨b2, b3⟩ := b2
        clear e1 hl
        go_enter Tryz.func153, Tryz.ntmps153
        go_wp2_with (first | (go_at_call 228; refine (WD.out _).mono ?_; rintro e w3 ⟨rfl, rfl⟩) | (go_at_call 232; refine (NA.out _).mono ?_; rintro e w4 ⟨rfl, b4⟩))
        go_ret
        exact ⟨rfl, (fresh1 _ _).trans (((fresh1 _ _).trans (b4.mono (by simp))).mono (by simp))⟩
      clear e1
      by_cases b3 : 7 ≤ k
      · have b4' : ¬ k ≤ 9 := by omega
        clear b2
        go_enter Tryz.func153, Tryz.ntmps153
        go_wp2_with (first | (go_at_call 228; refine (WD.out _).mono ?_; rintro e w3 ⟨rfl, rfl⟩) | (go_at_call 232; refine (NA.out _).mono ?_; rintro e w4 ⟨rfl, b4⟩))
        go_ret
        exact ⟨rfl, (fresh1 _ _).trans (((fresh1 _ _).trans (b4.mono (by simp))).mono (by simp))⟩
      · clear b2
        go_enter Tryz.func153, Tryz.ntmps153
        go_wp2_with (first | (go_at_call 228; refine (WD.out _).mono ?_; rintro e w3 ⟨rfl, rfl⟩) | (go_at_call 232; refine (NA.out _).mono ?_; rintro e w4 ⟨rfl, b4⟩))
        go_ret
        exact ⟨rfl, (fresh1 _ _).trans (((fresh1 _ _).trans (b4.mono (by simp))).mono (by simp))⟩
  by_cases e2 : numsB k x y = false
  · exact W E rfl (.inl ⟨e2, by rw [← hE.out, if_pos e2]⟩)
  · exact W E rfl (.inr ⟨by simpa using e2, by rw [← hE.out, if_neg e2]⟩)
end Go.Proofs.YtpblpjopinllcaaGreatDoor.graph
