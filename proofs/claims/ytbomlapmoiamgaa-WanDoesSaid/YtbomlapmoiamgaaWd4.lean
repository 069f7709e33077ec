/-
  A cell of a network is stored; Send, Double.
-/
import Derived.Test.YtbomlapmoiamgaaWd3
set_option linter.unusedSimpArgs false
set_option linter.unusedVariables false
namespace Go.Proofs.Ytbomlapmoiamgaa.wan
open Go.ChangeShapes Go.WideShapes Go.ChangeAt Go.RowKit
open Go.Proofs.Ytbomlapmoiamgaa.opened Go.Proofs.Ytbomlapmoiamgaa.block Go.Proofs.Ytbomlapmoiamgaa.words Go.Proofs.Ytbomlapmoiamgaa.region
theorem wanC_lost {n : Int} {v : Value} {O : List Bool} {x y : Int} (ho : O.length = 256) : (wanC n v O x).setIfInBounds 258 (.int .i64 y) = wanC n v O y := by
  apply Array.toList_inj.1
  unfold wanC
  rw [Array.toList_setIfInBounds]
  simp only [List.cons_append, List.nil_append]
  rw [show (258 : Nat) = 257 + 1 by rfl, List.set_cons_succ, show (257 : Nat) = 256 + 1 by rfl, List.set_cons_succ, List.set_append_right _ _ (by rw [List.length_map]; omega)]
  simp [ho]
theorem wanC_out {n : Int} {v : Value} {O : List Bool} {x : Int} {k : Nat} {b : Bool} (hk : k < O.length) : (wanC n v O x).setIfInBounds (2 + k) (.bool b) = wanC n v (O.set k b) x := by
  apply Array.toList_inj.1
  unfold wanC
  rw [Array.toList_setIfInBounds]
  simp only [List.cons_append, List.nil_append]
  rw [show 2 + k = (k + 1) + 1 by omega, List.set_cons_succ, List.set_cons_succ, List.set_append_left _ _ (by rw [List.length_map]; omega), List.map_set]
theorem wanC_row {n : Int} {v u : Value} {O : List Bool} {x : Int} : (wanC n v O x).setIfInBounds 1 u = wanC n u O x := by
  apply Array.toList_inj.1
  unfold wanC
  rw [Array.toList_setIfInBounds]
  simp only [List.cons_append, List.nil_append]
  rw [show (1 : Nat) = 0 + 1 by rfl, List.set_cons_succ, List.set_cons_zero]
section
variable {tw tl : TypeId} {B g : Nat} {W : Wn} {A : Option Addr} {c : Nat} {w : World}
theorem WanE.only (h : WanE tw tl B w g W A c) (hne : tl ≠ tw) {w' : World} (hg : w.grownBy w' (some g)) {V : Wn} (hv : V.L = W.L) (hc : Whole w' g tw (wanC V.n (.slice A V.L.length c) V.O V.c)) : WanE tw tl B w' g V A c ∧ WB tw tl B w w' := by
  have hn := rowS_ne h.row h.cell hne
  refine ⟨⟨hc, ?_, h.low⟩, WB.laid h.cell h.row ?_ h.low (turnS_grown hg fun k e => by cases e; exact .inl rfl)⟩
  · rw [hv]
    exact h.row.past hg fun k e => by cases e; exact hn
  · exact (show WanP tw tl B w g W from ⟨A, c, h⟩).le
theorem lost_put (h : WanE tw tl B w g W A c) (G : GoodW W) (hne : tl ≠ tw) (x : Int) : WanE tw tl B (w.setCell ⟨g, 258, none⟩ (.int .i64 x)) g { W with c := x } A c ∧ WB tw tl B w (w.setCell ⟨g, 258, none⟩ (.int .i64 x)) :=
  h.only hne (only_store (only_of_below (Below.refl _ w) (some g)) _) rfl (by have := h.cell.store 258 (.int .i64 x); rwa [wanC_lost G.o] at this)
theorem out_put (h : WanE tw tl B w g W A c) (G : GoodW W) (hne : tl ≠ tw) (k : Nat) (hk : k < 256) (b : Bool) : WanE tw tl B (w.setCell ⟨g, 2 + k, none⟩ (.bool b)) g { W with O := W.O.set k b } A c ∧ WB tw tl B w (w.setCell ⟨g, 2 + k, none⟩ (.bool b)) :=
  h.only hne (only_store (only_of_below (Below.refl _ w) (some g)) _) rfl (by have := h.cell.store (2 + k) (.bool b); rwa [wanC_out (by rw [G.o]; exact hk)] at this)
end
def sendE (W : Wn) (l : Lt) : Int := if linkB W l.f l.t = true then if 8192 < l.s.length then 7 else if outB W l.f l.t = true then 14 else layE W else 1
def sendV (W : Wn) (l : Lt) : Wn := if linkB W l.f l.t = true then if 8192 < l.s.length then W else if outB W l.f l.t = true then { W with c := W.c + 1 } else if 96 ≤ W.L.length then { W with c := W.c + 1 } else layV W l else W
section
variable {B g : Nat} {W : Wn} {A : Option Addr} {c : Nat} {w : World}
set_option maxRecDepth 100000 in
theorem send_any (h : WanE 94 34 B w g W A c) (G : GoodW W) (hc : W.c < 1000000) (l : Lt) (hl : l.s.length ≤ 100000000) : Calls Try.prog 9 #[.pointer (some ⟨g, 0, none⟩), l.val] w fun e w' => e = .returned (.int .i64 (sendE W l)) ∧ WanP 94 34 B w' g (sendV W l) ∧ WB 94 34 B w w' := by
  have hBw : B ≤ w.heap.size := (show WanP 94 34 B w g W from ⟨A, c, h⟩).le
  have B0 : Hid (Below w.heap.size w (w.alloc (.cells (cL l).toArray 34))) := Lib.hid (fresh1 w _)
  have R0 : Hid (Whole (w.alloc (.cells (cL l).toArray 34)) w.heap.size 34 (cL l).toArray) := Lib.hid (Whole.fresh w 34 _)
  have HE := Lib.hid (h.below (fresh1 w (.cells (cL l).toArray 34)))
  have HBw := Lib.hid hBw
  have HG := Lib.hid G
  have hc0 := G.c0
  have hc1 : W.c < 1000000 := hc
  have hg0 : g < w.heap.size := h.cell.inside
  have HEE : Hid (sendE W l = if linkB W l.f l.t = true then if 8192 < l.s.length then 7 else if outB W l.f l.t = true then 14 else layE W else 1) := Lib.hid rfl
  have HVV : Hid (sendV W l = if linkB W l.f l.t = true then if 8192 < l.s.length then W else if outB W l.f l.t = true then { W with c := W.c + 1 } else if 96 ≤ W.L.length then { W with c := W.c + 1 } else layV W l else W) := Lib.hid rfl
  generalize sendE W l = se at HEE ⊢
  generalize sendV W l = sv at HVV ⊢
  clear h G hBw hc
  go_enter Try.func9, Try.ntmps9
  go_upto_region 1 with fail
  change Code.wp _ _ _ _ (w.alloc (.cells (cL l).toArray 34))
  generalize w.alloc (.cells (cL l).toArray 34) = w0 at B0 R0 HE ⊢
  obtain ⟨gb, hgb⟩ : ∃ g, g = w.heap.size := ⟨_, rfl⟩
  have HGB := Lib.hid hgb
  rw [← hgb] at R0 hg0 ⊢
  clear hgb
  have HLk := Lib.hid (isLink_any HE.out l.f l.t)
  have k0 : w0.cell? ⟨gb, 0, none⟩ = some (.int .i64 l.f) := R0.out.read 0
  have k1 : w0.cell? ⟨gb, 1, none⟩ = some (.int .i64 l.t) := R0.out.read 1
  have HK : Hid (∀ w1, Below w0.heap.size w0 w1 → w1.cell? ⟨gb, 0, none⟩ = some (.int .i64 l.f) ∧ w1.cell? ⟨gb, 1, none⟩ = some (.int .i64 l.t) ∧ w1.cell? ⟨gb, 2, none⟩ = some (sV l.s)) := Lib.hid fun w1 b => by
    have := R0.out.below b R0.out.inside
    exact ⟨this.read 0, this.read 1, this.read 2⟩
  cases hlk : linkB W l.f l.t with
  | false =>
    rw [hlk] at HLk
    have he := HEE.out
    rw [hlk, if_neg (by decide)] at he
    have hv := HVV.out
    rw [hlk, if_neg (by decide)] at hv
    subst he hv
    clear hlk HEE HVV
    go_wp2_with (go_at_call 43; (with_reducible refine HLk.out.mono ?_); rintro e w1 ⟨rfl, b1⟩; have B1 := Lib.hid b1; clear b1)
    go_ret
    exact ⟨rfl, ⟨_, _, HE.out.below B1.out⟩, WB.of (then_below B0.out B1.out) HBw.out⟩
  | true =>
    rw [hlk] at HLk
    have he := HEE.out
    rw [hlk, if_pos rfl] at he
    have hv := HVV.out
    rw [hlk, if_pos rfl] at hv
    clear hlk HEE HVV
    by_cases h8 : 8192 < l.s.length
    · rw [if_pos h8] at he hv
      subst he hv
      have h9 : (8192 : Int) < l.s.length := by omega
      go_wp2_with (go_at_call 43; (with_reducible refine HLk.out.mono ?_); rintro e w1 ⟨rfl, b1⟩; have B1 := Lib.hid b1; obtain ⟨x0, x1, x2⟩ := HK.out w1 b1; clear b1)
      go_ret
      exact ⟨rfl, ⟨_, _, HE.out.below B1.out⟩, WB.of (then_below B0.out B1.out) HBw.out⟩
    · rw [if_neg h8] at he hv
      have h9 : (l.s.length : Int) ≤ 8192 := by omega
      have HO := Lib.hid fun w1 (b : Below w0.heap.size w0 w1) => out_any (HE.out.below b) HG.out l.f l.t
      clear h8
      cases ho : outB W l.f l.t with
      | true =>
        rw [ho] at HO
        rw [ho, if_pos rfl] at he hv
        subst he hv
        clear ho
        go_upto_region 9 with (first
          | (go_at_call 20; (with_reducible refine (HO.out _ B1.out).mono ?_); rintro e w2 ⟨rfl, b2⟩; have B2 := Lib.hid (then_below B1.out b2); clear b2; clear x0 x1 x2)
          | (go_at_call 43; (with_reducible refine HLk.out.mono ?_); rintro e w1 ⟨rfl, b1⟩; have B1 := Lib.hid b1; obtain ⟨x0, x1, x2⟩ := HK.out w1 b1; clear b1))
        have H2 := Lib.hid (HE.out.below B2.out)
        have m0 : w2.cell? ⟨g, 258, none⟩ = some (.int .i64 W.c) := wan_c H2.out HG.out
        have m1 : w2.frozen? ⟨g, 258, none⟩ = false := H2.out.cell.soft 258
        go_wp2_with fail
        go_ret
        have hx := lost_put H2.out HG.out (by decide) (W.c + 1)
        exact ⟨rfl, ⟨_, _, hx.1⟩, (WB.of (then_below B0.out B2.out) HBw.out).trans hx.2⟩
      | false =>
        rw [ho] at HO
        rw [ho, if_neg (by decide)] at he hv
        clear ho
        have HLy := Lib.hid fun w1 (b : Below w0.heap.size w0 w1) => lay_any (HE.out.below b) HG.out l
        unfold layE layV at HLy
        unfold layE at he
        unfold layV at hv
        by_cases h96 : 96 ≤ W.L.length
        · rw [if_pos h96] at he hv HLy
          rw [if_pos h96] at HLy
          subst he hv
          clear h96
          go_upto_region 7 with (first
            | (go_at_call 20; (with_reducible refine (HO.out _ B1.out).mono ?_); rintro e w2 ⟨rfl, b2⟩; have B2 := Lib.hid (then_below B1.out b2); clear b2; obtain ⟨y0, y1, y2⟩ := HK.out w2 B2.out; clear x0 x1 x2)
            | (go_at_call 43; (with_reducible refine HLk.out.mono ?_); rintro e w1 ⟨rfl, b1⟩; have B1 := Lib.hid b1; obtain ⟨x0, x1, x2⟩ := HK.out w1 b1; clear b1))
          clear k0 k1
          go_upto_region 9 with (go_at_call 44; (with_reducible refine (HLy.out _ B2.out).mono ?_); rintro e w3 ⟨rfl, p3, b3⟩; have P3 := Lib.hid p3; have B3 := Lib.hid b3; clear p3 b3 y0 y1 y2)
          obtain ⟨A3, c3, h3⟩ := P3.out
          have H3 := Lib.hid h3
          have m0 : w3.cell? ⟨g, 258, none⟩ = some (.int .i64 W.c) := wan_c h3 HG.out
          have m1 : w3.frozen? ⟨g, 258, none⟩ = false := h3.cell.soft 258
          clear h3
          go_wp2_with fail
          go_ret
          have hx := lost_put H3.out HG.out (by decide) (W.c + 1)
          exact ⟨rfl, ⟨_, _, hx.1⟩, ((WB.of (then_below B0.out B2.out) HBw.out).trans B3.out).trans hx.2⟩
        · rw [if_neg h96] at he hv HLy
          rw [if_neg h96] at HLy hv
          subst he hv
          clear h96
          go_upto_region 7 with (first
            | (go_at_call 20; (with_reducible refine (HO.out _ B1.out).mono ?_); rintro e w2 ⟨rfl, b2⟩; have B2 := Lib.hid (then_below B1.out b2); clear b2; obtain ⟨y0, y1, y2⟩ := HK.out w2 B2.out; clear x0 x1 x2)
            | (go_at_call 43; (with_reducible refine HLk.out.mono ?_); rintro e w1 ⟨rfl, b1⟩; have B1 := Lib.hid b1; obtain ⟨x0, x1, x2⟩ := HK.out w1 b1; clear b1))
          clear k0 k1
          go_wp2_with (go_at_call 44; (with_reducible refine (HLy.out _ B2.out).mono ?_); rintro e w3 ⟨rfl, p3, b3⟩; have P3 := Lib.hid p3; have B3 := Lib.hid b3; clear p3 b3 y0 y1 y2)
          go_ret
          exact ⟨rfl, P3.out, (WB.of (then_below B0.out B2.out) HBw.out).trans B3.out⟩
end
end Go.Proofs.Ytbomlapmoiamgaa.wan
