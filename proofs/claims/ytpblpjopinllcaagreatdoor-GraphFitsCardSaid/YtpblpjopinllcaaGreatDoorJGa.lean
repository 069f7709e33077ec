/-
  The loop of a place, as the program tells it (by gen_ga.py).
  What is wrong with a graph's channels, as the program tells it.
-/
import Derived.Test.YtpblpjopinllcaaGreatDoorJGc
import Derived.Test.YtpblpjopinllcaaGreatDoorJGx
import Derived.Test.YtpblpjopinllcaaGreatDoorJLayC
namespace Go.Proofs.YtpblpjopinllcaaGreatDoor.graph
open Go.ChangeShapes Go.WideShapes Go.ChangeAt Go.RowKit Go.Shelf
open Go.Proofs.YtpblpjopinllcaaGreatDoor.opened Go.Proofs.YtpblpjopinllcaaGreatDoor.block Go.Proofs.YtpblpjopinllcaaGreatDoor.words
set_option maxRecDepth 100000 in
theorem loopAt_walk (v : Gv) (g : Gr) (i : Nat) (x : Oq) (hx : g.o[i]? = some x) (h24 : g.o.length ≤ 24) (hl : x.k = 7 ∨ x.k = 8 → 0 ≤ x.l ∧ x.l < g.l.length) (p : Int) (out : Bool) (hp : p = 2 * (i : Int) + (if out then 1 else 0)) (w : World) (h : Lies4 w v g) :
    Calls Tryz.prog 93 #[gV v g, .int .i64 p] w fun e w' => e = .returned (.int .i64 (loopV g i out)) ∧ Below w.heap.size w w' := by
  have hi : i < 24 := by have := (List.getElem?_eq_some_iff.1 hx).1; omega
  have hil := (List.getElem?_eq_some_iff.1 hx).1
  have hq : Int.tdiv p 2 = i := by rw [hp, Int.tdiv_eq_ediv_of_nonneg (by split <;> omega)]; split <;> omega
  have hq2 : p / 2 = (i : Int) := by rw [hp]; split <;> omega
  have hp0 : 0 ≤ p := by rw [hp]; split <;> omega
  have hp9 : p ≤ 1000 := by rw [hp]; split <;> omega
  replace hp := Lib.hid hp
  obtain ⟨va, vb, vd, ve, vi, vj, vk, vm⟩ := v
  have IN := Lib.hid (input_any i (by omega))
  have OU := Lib.hid (output_any i (by omega))
  unfold gV
  have H := Lib.hid h
  dsimp only
  have hB := Lib.hid (fresh1 w (.cells #[.slice va g.c.length vi, .slice vb g.l.length vj, .slice vd g.o.length vk, .slice ve g.h.length vm] 27))
  have OX := Lib.hid (Whole.fresh w 27 #[.slice va g.c.length vi, .slice vb g.l.length vj, .slice vd g.o.length vk, .slice ve g.h.length vm])
  have HR := Lib.hid (h.below hB.out)
  obtain ⟨b1, o1, hA, hb1, c0, c1, c2, c3, c4, c5⟩ := at_oq HR.out.o hx
  change vd = _ at hA
  subst hA
  have hv : loopV g i out = if (x.k = 7 ∧ out = false) ∨ (x.k = 8 ∧ out = true) then (match g.l[x.l.toNat]? with | none => -1 | some y => y.u) else x.l := by unfold loopV; rw [hx]; rfl
  rw [hv]
  clear h H hv
  obtain ⟨R, hR⟩ : ∃ R, (if (x.k = 7 ∧ out = false) ∨ (x.k = 8 ∧ out = true) then (match g.l[x.l.toNat]? with | none => -1 | some y => y.u) else x.l) = R := ⟨_, rfl⟩
  rw [hR]
  replace hR := Lib.hid hR
  go_enter Tryz.func93, Tryz.ntmps93
  go_upto_region 1 with fail
  change Code.wp _ _ _ _ (w.alloc (.cells #[.slice va g.c.length vi, .slice vb g.l.length vj, .slice (some ⟨b1, o1, none⟩) g.o.length vk, .slice ve g.h.length vm] 27))
  generalize w.alloc (.cells #[.slice va g.c.length vi, .slice vb g.l.length vj, .slice (some ⟨b1, o1, none⟩) g.o.length vk, .slice ve g.h.length vm] 27) = w1 at OX hB HR hb1 c0 c1 c2 c3 c4 c5 ⊢
  obtain ⟨gg, hgg⟩ : ∃ gg, w.heap.size = gg := ⟨_, rfl⟩
  rw [hgg] at OX ⊢
  clear hgg
  have k2 : w1.cell? ⟨gg, 2, none⟩ = some (.slice (some ⟨b1, o1, none⟩) g.o.length vk) := OX.out.read 2
  go_upto_region 3 with fail
  change Code.wp _ _ _ _ (w1.alloc (.cells #[sV x.n, .int .i64 x.k, .int .i64 x.l, .int .i64 x.a, .int .i64 x.x, .int .i64 x.y] 145))
  have hW := fresh1 w1 (.cells #[sV x.n, .int .i64 x.k, .int .i64 x.l, .int .i64 x.a, .int .i64 x.x, .int .i64 x.y] 145)
  have OW := Lib.hid (Whole.fresh w1 145 #[sV x.n, .int .i64 x.k, .int .i64 x.l, .int .i64 x.a, .int .i64 x.x, .int .i64 x.y])
  have OG := OX.out.below hW OX.out.inside
  have H2 := Lib.hid (HR.out.below hW)
  have B2 := Lib.hid (hB.out.trans (hW.mono hB.out.size))
  clear OX HR hB hW c0 c1 c2 c3 c4 c5 hb1 k2
  generalize w1.alloc (.cells #[sV x.n, .int .i64 x.k, .int .i64 x.l, .int .i64 x.a, .int .i64 x.x, .int .i64 x.y] 145) = w2 at OW OG H2 B2 ⊢
  generalize w1.heap.size = r at OW ⊢
  have d1 : w2.cell? ⟨r, 1, none⟩ = some (.int .i64 x.k) := OW.out.read 1
  have d2 : w2.cell? ⟨r, 2, none⟩ = some (.int .i64 x.l) := OW.out.read 2
  have k1 : w2.cell? ⟨gg, 1, none⟩ = some (.slice vb g.l.length vj) := OG.read 1
  clear OG OW hx hq hq2
  cases out
  · replace hp : p = 2 * (i : Int) := by simpa using hp.out
    have hp1 : (p == 2 * (i : Int)) = true := by rw [hp]; simp
    have hp2 : (p == 2 * (i : Int) + 1) = false := by rw [beq_eq_false_iff_ne]; omega
    clear hp
    by_cases hk : x.k = 7
    · have hl2 := hl (.inl hk)
      obtain ⟨m, hm⟩ : ∃ m : Nat, x.l = m := ⟨x.l.toNat, by omega⟩
      obtain ⟨y, hy⟩ : ∃ y, g.l[m]? = some y := ⟨g.l[m]'(by omega), List.getElem?_eq_getElem (by omega)⟩
      obtain rfl : y.u = R := by rw [← hR.out, if_pos (by simp [hk]), hm, Int.toNat_natCast, hy]
      obtain ⟨b3, o3, hA3, hb3, e0, e1, e2⟩ := at_lo H2.out.l hy
      change vb = _ at hA3
      subst hA3
      rw [hm] at d2
      rw [hk] at d1
      have hml : m < g.l.length := by omega
      clear e0 e2 H2 hR hy hl
      go_wp2_with (first | (go_at_call 94; refine (IN.out _).mono ?_; rintro e w4 ⟨rfl, rfl⟩) | (go_at_call 163; refine (OU.out _).mono ?_; rintro e w4 ⟨rfl, rfl⟩))
      go_ret
      exact ⟨rfl, B2.out⟩
    by_cases hk8 : x.k = 8
    · have hk := hk8
      have hl2 := hl (.inr hk)
      obtain rfl : x.l = R := by rw [← hR.out, if_neg (by simp [hk])]
      clear H2 hR hl
      rw [hk] at d1
      go_wp2_with (first | (go_at_call 94; refine (IN.out _).mono ?_; rintro e w4 ⟨rfl, rfl⟩) | (go_at_call 163; refine (OU.out _).mono ?_; rintro e w4 ⟨rfl, rfl⟩))
      go_ret
      exact ⟨rfl, B2.out⟩
    · have f1 : (x.k == 7) = false := by rw [beq_eq_false_iff_ne]; exact hk
      have f2 : (x.k == 8) = false := by rw [beq_eq_false_iff_ne]; exact hk8
      obtain rfl : x.l = R := by rw [← hR.out, if_neg (by simp [hk, hk8])]
      clear H2 hR hl
      go_wp2_with (first | (go_at_call 94; refine (IN.out _).mono ?_; rintro e w4 ⟨rfl, rfl⟩) | (go_at_call 163; refine (OU.out _).mono ?_; rintro e w4 ⟨rfl, rfl⟩))
      go_ret
      exact ⟨rfl, B2.out⟩
  · replace hp : p = 2 * (i : Int) + 1 := by simpa using hp.out
    have hp1 : (p == 2 * (i : Int)) = false := by rw [beq_eq_false_iff_ne]; omega
    have hp2 : (p == 2 * (i : Int) + 1) = true := by rw [hp]; simp
    clear hp
    by_cases hk : x.k = 7
    · have hl2 := hl (.inl hk)
      obtain rfl : x.l = R := by rw [← hR.out, if_neg (by simp [hk])]
      clear H2 hR hl
      rw [hk] at d1
      go_wp2_with (first | (go_at_call 94; refine (IN.out _).mono ?_; rintro e w4 ⟨rfl, rfl⟩) | (go_at_call 163; refine (OU.out _).mono ?_; rintro e w4 ⟨rfl, rfl⟩))
      go_ret
      exact ⟨rfl, B2.out⟩
    by_cases hk8 : x.k = 8
    · have hk := hk8
      have hl2 := hl (.inr hk)
      obtain ⟨m, hm⟩ : ∃ m : Nat, x.l = m := ⟨x.l.toNat, by omega⟩
      obtain ⟨y, hy⟩ : ∃ y, g.l[m]? = some y := ⟨g.l[m]'(by omega), List.getElem?_eq_getElem (by omega)⟩
      obtain rfl : y.u = R := by rw [← hR.out, if_pos (by simp [hk]), hm, Int.toNat_natCast, hy]
      obtain ⟨b3, o3, hA3, hb3, e0, e1, e2⟩ := at_lo H2.out.l hy
      change vb = _ at hA3
      subst hA3
      rw [hm] at d2
      rw [hk] at d1
      have hml : m < g.l.length := by omega
      clear e0 e2 H2 hR hy hl
      go_wp2_with (first | (go_at_call 94; refine (IN.out _).mono ?_; rintro e w4 ⟨rfl, rfl⟩) | (go_at_call 163; refine (OU.out _).mono ?_; rintro e w4 ⟨rfl, rfl⟩))
      go_ret
      exact ⟨rfl, B2.out⟩
    · have f1 : (x.k == 7) = false := by rw [beq_eq_false_iff_ne]; exact hk
      have f2 : (x.k == 8) = false := by rw [beq_eq_false_iff_ne]; exact hk8
      obtain rfl : x.l = R := by rw [← hR.out, if_neg (by simp [hk, hk8])]
      clear H2 hR hl
      go_wp2_with (first | (go_at_call 94; refine (IN.out _).mono ?_; rintro e w4 ⟨rfl, rfl⟩) | (go_at_call 163; refine (OU.out _).mono ?_; rintro e w4 ⟨rfl, rfl⟩))
      go_ret
      exact ⟨rfl, B2.out⟩
end Go.Proofs.YtpblpjopinllcaaGreatDoor.graph
namespace Go.Proofs.YtpblpjopinllcaaGreatDoor.graph
open Go.ChangeShapes Go.WideShapes Go.ChangeAt Go.RowKit Go.Shelf
open Go.Proofs.YtpblpjopinllcaaGreatDoor.opened Go.Proofs.YtpblpjopinllcaaGreatDoor.block Go.Proofs.YtpblpjopinllcaaGreatDoor.words
/-- Operators that enter or leave are in a loop that there is. -/
def InLoops (g : Gr) : Prop := ∀ x ∈ g.o, x.k = 7 ∨ x.k = 8 → 0 ≤ x.l ∧ x.l < g.l.length
theorem since_same {P : Program} {f : FuncId} {args : Array Value} {v : Value} {w0 : World} (h : ∀ w, Calls P f args w fun e w' => e = .returned v ∧ w = w') (x : Since w0) :
    Calls P f args x.1 fun e w' => e = .returned v ∧ ∃ y : Since w0, w' = y.1 := (h x.1).mono fun _ _ ⟨he, hb⟩ => ⟨he, x, hb.symm⟩
theorem since_at {P : Program} {f : FuncId} {args : Array Value} {v : Value} {w0 : World} (x : Since w0) (h : Calls P f args x.1 fun e w' => e = .returned v ∧ Below x.1.heap.size x.1 w') :
    Calls P f args x.1 fun e w' => e = .returned v ∧ ∃ y : Since w0, w' = y.1 := h.mono fun _ w' ⟨he, hb⟩ => ⟨he, ⟨w', then_below x.2 hb⟩, rfl⟩
set_option maxRecDepth 100000 in
theorem channels_any (v : Gv) (g : Gr) (F : Fit v g) (h24 : g.o.length ≤ 24) (h48 : g.h.length ≤ 48) (IL : InLoops g) (w : World) (h : Lies4 w v g) :
    Calls Tryz.prog 90 #[gV v g] w fun e w' => e = .returned (.int .i64 (firstE (chE g) g.h.length)) ∧ Below w.heap.size w w' := by
  have hm := F.m
  obtain ⟨va, vb, vd, ve, vi, vj, vk, vm⟩ := v
  unfold gV
  dsimp only at hm ⊢
  have H := Lib.hid h
  have IH := Lib.hid IL
  obtain ⟨E, hE⟩ : ∃ E, firstE (chE g) g.h.length = E := ⟨_, rfl⟩
  rw [hE]
  replace hE := Lib.hid hE
  have hB := Lib.hid (fresh1 w (.cells #[.slice va g.c.length vi, .slice vb g.l.length vj, .slice vd g.o.length vk, .slice ve g.h.length vm] 27))
  have OX := Lib.hid (Whole.fresh w 27 #[.slice va g.c.length vi, .slice vb g.l.length vj, .slice vd g.o.length vk, .slice ve g.h.length vm])
  clear h F IL
  go_enter Tryz.func90, Tryz.ntmps90
  go_upto_region 1 with fail
  change Code.wp _ _ _ _ (w.alloc (.cells #[.slice va g.c.length vi, .slice vb g.l.length vj, .slice vd g.o.length vk, .slice ve g.h.length vm] 27))
  generalize w.alloc (.cells #[.slice va g.c.length vi, .slice vb g.l.length vj, .slice vd g.o.length vk, .slice ve g.h.length vm] 27) = w1 at OX hB ⊢
  obtain ⟨gg, hgg⟩ : ∃ gg, w.heap.size = gg := ⟨_, rfl⟩
  rw [hgg] at OX ⊢
  clear hgg
  have k0 : w1.cell? ⟨gg, 3, none⟩ = some (.slice ve g.h.length vm) := OX.out.read 3
  go_wp2_with fail
  clear k0
  go_loopw [8] (fun a wr => ∃ i : Nat, i ≤ g.h.length ∧ a = .int .i64 i ∧ Hid (firstE (chE g) i = 0) ∧ Hid (Below w1.heap.size w1 wr)) (fun a _ => (g.h.length - intOf a).toNat)
  case atStart => exact ⟨0, by omega, rfl, Lib.hid rfl, Lib.hid (Below.refl _ _)⟩
  case round =>
    obtain ⟨i, hi, rfl, Z, Br⟩ := hrel
    have BB := Lib.hid (hB.out.trans (Br.out.mono hB.out.size))
    have OG := Lib.hid (OX.out.below Br.out OX.out.inside)
    have HR := Lib.hid (H.out.below BB.out)
    by_cases hin : i = g.h.length
    · have e0 : E = 0 := by rw [← hE.out, ← Z.out, hin]
      subst e0
      clear Z
      have hlt : ¬ ((i : Int) < g.h.length) := by omega
      go_wp2_with fail
      go_ret
      exact ⟨rfl, BB.out⟩
    have hlt : i < g.h.length := by omega
    obtain ⟨x, hx⟩ : ∃ x, g.h[i]? = some x := ⟨g.h[i], List.getElem?_eq_getElem hlt⟩
    obtain ⟨b1, o1, hA, hb1, c0, c1⟩ := at_ch HR.out.h hx
    change ve = _ at hA
    subst hA
    obtain ⟨f, t⟩ := x
    dsimp only at c0 c1
    have hcl : chE g i = if f < 0 ∨ (g.o.length : Int) ≤ f ∨ t < 0 ∨ (g.o.length : Int) ≤ t then 1 else if kindAt g f = 2 ∨ kindAt g t = 1 then 5 else if loopV g f.toNat true ≠ loopV g t.toNat false then 10 else if (⟨f, t⟩ : Ch) ∈ g.h.take i then 4 else 0 := by unfold chE; rw [hx]
    replace hcl := Lib.hid hcl
    have P1 := isOp_any ⟨va, vb, vd, some ⟨b1, o1, none⟩, vi, vj, vk, vm⟩ g f
    have P2 := isOp_any ⟨va, vb, vd, some ⟨b1, o1, none⟩, vi, vj, vk, vm⟩ g t
    unfold gV at P1 P2
    dsimp only at P1 P2
    go_upto_region 4 with fail
    change Code.wp _ _ _ _ (wr.alloc (.cells #[.int .i64 f, .int .i64 t] 61))
    have hW := fresh1 wr (.cells #[.int .i64 f, .int .i64 t] 61)
    have OW := Lib.hid (Whole.fresh wr 61 #[.int .i64 f, .int .i64 t])
    have OG2 := Lib.hid (OG.out.below hW OG.out.inside)
    have H2 := Lib.hid (HR.out.below hW)
    have B2 := Lib.hid (BB.out.trans (hW.mono BB.out.size))
    have D2 := Lib.hid (Br.out.trans (hW.mono Br.out.size))
    clear OG HR BB Br hW c0 c1 hb1 H
    generalize wr.alloc (.cells #[.int .i64 f, .int .i64 t] 61) = w2 at OW OG2 H2 B2 D2 ⊢
    generalize wr.heap.size = r at OW ⊢
    have g0 : w2.cell? ⟨gg, 0, none⟩ = some (.slice va g.c.length vi) := OG2.out.read 0
    have g1 : w2.cell? ⟨gg, 1, none⟩ = some (.slice vb g.l.length vj) := OG2.out.read 1
    have g2 : w2.cell? ⟨gg, 2, none⟩ = some (.slice vd g.o.length vk) := OG2.out.read 2
    have g3 : w2.cell? ⟨gg, 3, none⟩ = some (.slice (some ⟨b1, o1, none⟩) g.h.length vm) := OG2.out.read 3
    have r0 : w2.cell? ⟨r, 0, none⟩ = some (.int .i64 f) := OW.out.read 0
    have r1 : w2.cell? ⟨r, 1, none⟩ = some (.int .i64 t) := OW.out.read 1
    by_cases hf : 0 ≤ f ∧ f < g.o.length
    case neg =>
      rw [decide_eq_false hf] at P1
      obtain rfl : 1 = E := by rw [← hE.out, first_stop Z.out (by rw [hcl.out, if_pos (by omega)]; decide) _ hlt, hcl.out, if_pos (by omega)]
      replace P1 := Lib.hid P1
      clear P2 hcl Z hf
      go_wp2_with (go_at_call 91; refine (P1.out _).mono ?_; rintro e w3 ⟨rfl, b3⟩)
      go_ret
      exact ⟨rfl, B2.out.trans (b3.mono B2.out.size)⟩
    rw [decide_eq_true hf] at P1
    replace P1 := Lib.hid P1
    by_cases ht : 0 ≤ t ∧ t < g.o.length
    case neg =>
      rw [decide_eq_false ht] at P2
      obtain rfl : 1 = E := by rw [← hE.out, first_stop Z.out (by rw [hcl.out, if_pos (by omega)]; decide) _ hlt, hcl.out, if_pos (by omega)]
      replace P2 := Lib.hid P2
      clear hcl Z hf ht
      go_wp2_with (go_at_call 91; first
        | (with_reducible refine (P1.out _).mono ?_; rintro e w3 ⟨rfl, b3⟩; have G3 := (OG2.out.below b3 OG2.out.inside).read; have X3 := (OW.out.below b3 OW.out.inside).read)
        | (with_reducible refine (P2.out _).mono ?_; rintro e w4 ⟨rfl, b4⟩))
      go_ret
      exact ⟨rfl, B2.out.trans ((b3.trans (b4.mono b3.size)).mono B2.out.size)⟩
    rw [decide_eq_true ht] at P2
    replace P2 := Lib.hid P2
    replace hcl := Lib.hid (hcl.out.trans (if_neg (by omega)))
    go_upto_region 6 with (go_at_call 91; first
        | (with_reducible refine (P1.out _).mono ?_; rintro e w3 ⟨rfl, b3⟩; have G3 := (OG2.out.below b3 OG2.out.inside).read; have X3 := (OW.out.below b3 OW.out.inside).read)
        | (with_reducible refine (P2.out _).mono ?_; rintro e w4 ⟨rfl, b4⟩))
    have b24 := b3.trans (b4.mono b3.size)
    have B4 := Lib.hid (B2.out.trans (b24.mono B2.out.size))
    have D4 := Lib.hid (D2.out.trans (b24.mono D2.out.size))
    have OG4 := Lib.hid (OG2.out.below b24 OG2.out.inside)
    have OW4 := Lib.hid (OW.out.below b24 OW.out.inside)
    have H4 := Lib.hid (H2.out.below b24)
    clear b24 b3 b4 B2 D2 OG2 OW H2 G3 X3 g0 g1 g2 g3 r0 r1 P1 P2
    obtain ⟨m, rfl⟩ : ∃ m : Nat, f = m := ⟨f.toNat, by omega⟩
    obtain ⟨n, rfl⟩ : ∃ n : Nat, t = n := ⟨t.toNat, by omega⟩
    have hm1 : m < g.o.length := by omega
    have hn1 : n < g.o.length := by omega
    obtain ⟨x1, hx1⟩ : ∃ x, g.o[m]? = some x := ⟨g.o[m], List.getElem?_eq_getElem hm1⟩
    obtain ⟨x2, hx2⟩ : ∃ x, g.o[n]? = some x := ⟨g.o[n], List.getElem?_eq_getElem hn1⟩
    obtain ⟨bo, oo, hA2, hbo, -, e1, -⟩ := at_oq H4.out.o hx1
    change vd = _ at hA2
    subst hA2
    obtain ⟨bo2, oo2, hA3, -, -, e2, -⟩ := at_oq H4.out.o hx2
    injection (Option.some.inj hA3) with hb2 ho2
    subst hb2 ho2
    clear hA3
    have y0 : w4.cell? ⟨r, 0, none⟩ = some (.int .i64 m) := OW4.out.read 0
    have y1 : w4.cell? ⟨r, 1, none⟩ = some (.int .i64 n) := OW4.out.read 1
    have y2 : w4.cell? ⟨gg, 2, none⟩ = some (.slice (some ⟨bo, oo, none⟩) g.o.length vk) := OG4.out.read 2
    have hkm : kindAt g m = x1.k := by simp [kindAt, hx1]
    have hkn : kindAt g n = x2.k := by simp [kindAt, hx2]
    rw [hkm, hkn, Int.toNat_natCast, Int.toNat_natCast] at hcl
    clear hkm hkn hf ht
    by_cases k1 : x1.k = 2
    · obtain rfl : 5 = E := by rw [← hE.out, first_stop Z.out (by rw [hcl.out, if_pos (.inl k1)]; decide) _ hlt, hcl.out, if_pos (.inl k1)]
      rw [k1] at e1
      clear hcl Z k1
      go_wp2_with fail
      go_ret
      exact ⟨rfl, B4.out⟩
    have f1 : (x1.k == 2) = false := by rw [beq_eq_false_iff_ne]; exact k1
    by_cases k2 : x2.k = 1
    · obtain rfl : 5 = E := by rw [← hE.out, first_stop Z.out (by rw [hcl.out, if_pos (.inr k2)]; decide) _ hlt, hcl.out, if_pos (.inr k2)]
      rw [k2] at e2
      clear hcl Z k1 k2
      go_wp2_with fail
      go_ret
      exact ⟨rfl, B4.out⟩
    have f2 : (x2.k == 1) = false := by rw [beq_eq_false_iff_ne]; exact k2
    replace hcl := Lib.hid (hcl.out.trans (if_neg (by omega)))
    clear k1 k2
    go_upto_region 8 with fail
    clear e1 e2 y0 y1 y2 f1 f2
    have IN := fun w => output_any m (by omega) w
    have OU := fun w => input_any n (by omega) w
    replace IN := Lib.hid IN
    replace OU := Lib.hid OU
    have L1 : ∀ y : Since w4, Calls Tryz.prog 93 #[.agg #[.slice va g.c.length vi, .slice vb g.l.length vj, .slice (some ⟨bo, oo, none⟩) g.o.length vk, .slice (some ⟨b1, o1, none⟩) g.h.length vm], .int .i64 (2 * (m : Int) + 1)] y.1 fun e w' => e = .returned (.int .i64 (loopV g m true)) ∧ ∃ z : Since w4, w' = z.1 := fun y => since_at y (loopAt_walk ⟨va, vb, some ⟨bo, oo, none⟩, some ⟨b1, o1, none⟩, vi, vj, vk, vm⟩ g m x1 hx1 h24 (IH.out x1 (List.mem_of_getElem? hx1)) _ true rfl y.1 (H4.out.below y.2))
    have L2 : ∀ y : Since w4, Calls Tryz.prog 93 #[.agg #[.slice va g.c.length vi, .slice vb g.l.length vj, .slice (some ⟨bo, oo, none⟩) g.o.length vk, .slice (some ⟨b1, o1, none⟩) g.h.length vm], .int .i64 (2 * (n : Int))] y.1 fun e w' => e = .returned (.int .i64 (loopV g n false)) ∧ ∃ z : Since w4, w' = z.1 := fun y => since_at y (loopAt_walk ⟨va, vb, some ⟨bo, oo, none⟩, some ⟨b1, o1, none⟩, vi, vj, vk, vm⟩ g n x2 hx2 h24 (IH.out x2 (List.mem_of_getElem? hx2)) _ false (by simp) y.1 (H4.out.below y.2))
    generalize loopV g m true = l1 at L1 hcl
    generalize loopV g n false = l2 at L2 hcl
    replace L1 := Lib.hid L1
    replace L2 := Lib.hid L2
    have s0 : ∀ y : Since w4, y.1.cell? ⟨r, 0, none⟩ = some (.int .i64 m) := fun y => (OW4.out.below y.2 OW4.out.inside).read 0
    have s1 : ∀ y : Since w4, y.1.cell? ⟨r, 1, none⟩ = some (.int .i64 n) := fun y => (OW4.out.below y.2 OW4.out.inside).read 1
    have t0 : ∀ y : Since w4, y.1.cell? ⟨gg, 0, none⟩ = some (.slice va g.c.length vi) := fun y => (OG4.out.below y.2 OG4.out.inside).read 0
    have t1 : ∀ y : Since w4, y.1.cell? ⟨gg, 1, none⟩ = some (.slice vb g.l.length vj) := fun y => (OG4.out.below y.2 OG4.out.inside).read 1
    have t2 : ∀ y : Since w4, y.1.cell? ⟨gg, 2, none⟩ = some (.slice (some ⟨bo, oo, none⟩) g.o.length vk) := fun y => (OG4.out.below y.2 OG4.out.inside).read 2
    have t3 : ∀ y : Since w4, y.1.cell? ⟨gg, 3, none⟩ = some (.slice (some ⟨b1, o1, none⟩) g.h.length vm) := fun y => (OG4.out.below y.2 OG4.out.inside).read 3
    clear hx1 hx2
    refine region_since w4 (by kernel_rfl) (by kernel_rfl) (Below.refl _ _) ?_
    repeat (go_big_quiet_step ((first
      | (go_at_call 163; with_reducible exact since_same IN.out _)
      | (go_at_call 94; with_reducible exact since_same OU.out _)
      | (go_at_call 93; first | with_reducible exact L1.out _ | with_reducible exact L2.out _))))
    refine wpQuiet_nil ?_
    rintro w5 ⟨z, hz⟩
    have b5 : Below w4.heap.size w4 w5 := hz ▸ z.2
    have B5 := Lib.hid (B4.out.trans (b5.mono B4.out.size))
    have D5 := Lib.hid (D4.out.trans (b5.mono D4.out.size))
    have OG5 := Lib.hid (OG4.out.below b5 OG4.out.inside)
    have OW5 := Lib.hid (OW4.out.below b5 OW4.out.inside)
    have H5 := Lib.hid (H4.out.below b5)
    clear hz z s0 s1 t0 t1 t2 t3 L1 L2 IN OU b5 B4 D4 OG4 OW4 H4
    by_cases hl : l1 = l2
    case neg =>
      obtain rfl : 10 = E := by rw [← hE.out, first_stop Z.out (by rw [hcl.out, if_pos hl]; decide) _ hlt, hcl.out, if_pos hl]
      have hl2 : (l1 == l2) = false := by rw [beq_eq_false_iff_ne]; exact hl
      clear hcl Z
      go_wp2_with fail
      go_ret
      exact ⟨rfl, B5.out⟩
    subst hl
    replace hcl := Lib.hid (hcl.out.trans (if_neg (by simp)))
    go_upto_region 10 with fail
    have C : ∀ y : Since w5, Calls Tryz.prog 164 #[.slice (some ⟨b1, o1, none⟩) i vm, .agg #[.int .i64 m, .int .i64 n]] y.1 fun e w' => e = .returned (.bool (decide ((⟨m, n⟩ : Ch) ∈ g.h.take i))) ∧ ∃ z : Since w5, w' = z.1 := fun y => since_at y (has_any b1 o1 vm i g.h ⟨m, n⟩ y.1 hi h48 (H5.out.below y.2).h)
    have s0 : ∀ y : Since w5, y.1.cell? ⟨r, 0, none⟩ = some (.int .i64 m) := fun y => (OW5.out.below y.2 OW5.out.inside).read 0
    have s1 : ∀ y : Since w5, y.1.cell? ⟨r, 1, none⟩ = some (.int .i64 n) := fun y => (OW5.out.below y.2 OW5.out.inside).read 1
    have t3 : ∀ y : Since w5, y.1.cell? ⟨gg, 3, none⟩ = some (.slice (some ⟨b1, o1, none⟩) g.h.length vm) := fun y => (OG5.out.below y.2 OG5.out.inside).read 3
    have him : i ≤ vm := by omega
    by_cases hh : (⟨m, n⟩ : Ch) ∈ g.h.take i
    · obtain rfl : 4 = E := by rw [← hE.out, first_stop Z.out (by rw [hcl.out, if_pos hh]; decide) _ hlt, hcl.out, if_pos hh]
      rw [decide_eq_true hh] at C
      replace C := Lib.hid C
      clear hcl Z hh
      refine region_since w5 (by kernel_rfl) (by kernel_rfl) (Below.refl _ _) ?_
      repeat (go_big_quiet_step ((go_at_call 164; with_reducible exact C.out _)))
      refine wpQuiet_nil ?_
      rintro w6 ⟨z, hz⟩
      have b6 : Below w5.heap.size w5 w6 := hz ▸ z.2
      clear hz z s0 s1 t3 C
      go_wp2_with fail
      go_ret
      exact ⟨rfl, B5.out.trans (b6.mono B5.out.size)⟩
    · have Z2 := Lib.hid ((first_next Z.out).trans (hcl.out.trans (if_neg hh)))
      rw [decide_eq_false hh] at C
      replace C := Lib.hid C
      clear hcl Z hE hh
      refine region_since w5 (by kernel_rfl) (by kernel_rfl) (Below.refl _ _) ?_
      repeat (go_big_quiet_step ((go_at_call 164; with_reducible exact C.out _)))
      refine wpQuiet_nil ?_
      rintro w6 ⟨z, hz⟩
      have b6 : Below w5.heap.size w5 w6 := hz ▸ z.2
      clear hz z s0 s1 t3 C
      go_wp2_with fail
      go_roundw
      case rel => exact ⟨i + 1, hlt, by go_num, Z2, Lib.hid (D5.out.trans (b6.mono D5.out.size))⟩
      case measure => simp [intOf]; omega
end Go.Proofs.YtpblpjopinllcaaGreatDoor.graph
