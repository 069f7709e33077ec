/-
  The document's Send, Double (by gen_xs.py).
-/
import Derived.Test.YtbomlapmoiamgaaXw0
import Derived.Test.YtbomlapmoiamgaaWd5
import Derived.Test.YtbomlapmoiamgaaWk1
import Derived.StillTailTactics
set_option linter.unusedSimpArgs false
set_option linter.unusedVariables false
namespace Go.Proofs.Ytbomlapmoiamgaa.wan
open Go.ChangeShapes Go.WideShapes Go.ChangeAt Go.RowKit
open Go.Proofs.Ytbomlapmoiamgaa.opened Go.Proofs.Ytbomlapmoiamgaa.block Go.Proofs.Ytbomlapmoiamgaa.words Go.Proofs.Ytbomlapmoiamgaa.region
section
variable {B g : Nat} {W : Wn} {A : Option Addr} {c : Nat} {w : World}
set_option maxRecDepth 100000 in
set_option maxHeartbeats 8000000 in
theorem sendR_any (h : WanE 49 36 B w g W A c) (G : GoodW W) (hc : W.c < 1000000) (l : Lt) (hl : l.s.length ≤ 100000000) : Calls Try.prog 10 #[.pointer (some ⟨g, 0, none⟩), l.val] w fun e w' => e = .returned (.int .i64 (sendE W l)) ∧ WanP 49 36 B w' g (sendV W l) ∧ WB 49 36 B w w' := by
  have hBw : B ≤ w.heap.size := (show WanP 49 36 B w g W from ⟨A, c, h⟩).le
  have B0 : Hid (Below w.heap.size w (w.alloc (.cells (cL l).toArray 36))) := Lib.hid (fresh1 w _)
  have R0 : Hid (Whole (w.alloc (.cells (cL l).toArray 36)) w.heap.size 36 (cL l).toArray) := Lib.hid (Whole.fresh w 36 _)
  have HBN0 : Hid (¬ RowS g (.slice A W.L.length c) w.heap.size) := Lib.hid (by
    rintro (e | e)
    · have := h.cell.inside
      omega
    · obtain ⟨cur, hc⟩ := OwnG.shapeT h.row e
      have := (Array.getElem?_eq_some_iff.1 hc).1
      omega)
  have HE := Lib.hid (h.below (fresh1 w (.cells (cL l).toArray 36)))
  have HBw := Lib.hid hBw
  have HG := Lib.hid G
  have hc0 := G.c0
  have hc1 : W.c < 1000000 := hc
  have hg0 : g < w.heap.size := h.cell.inside
  have HEE : Hid (sendE W l = if linkB W l.f l.t = true then if 8192 < l.s.length then 7 else if outB W l.f l.t = true then 14 else layE W else 1) := Lib.hid rfl
  have HVV : Hid (sendV W l = if linkB W l.f l.t = true then if 8192 < l.s.length then W else if outB W l.f l.t = true then { W with c := W.c + 1 } else if 96 ≤ W.L.length then { W with c := W.c + 1 } else layV W l else W) := Lib.hid rfl
  generalize sendE W l = se at HEE ⊢
  generalize sendV W l = sv at HVV ⊢
  clear h G hBw hc
  go_enter Try.func10, Try.ntmps10
  go_upto_region 1 with fail
  change Code.wp _ _ _ _ (w.alloc (.cells (cL l).toArray 36))
  generalize w.alloc (.cells (cL l).toArray 36) = w0 at B0 R0 HE ⊢
  obtain ⟨gb, hgb⟩ : ∃ g, g = w.heap.size := ⟨_, rfl⟩
  have HGB := Lib.hid hgb
  rw [← hgb] at R0 hg0 HBN0 ⊢
  clear hgb
  have HLk := Lib.hid (linkR_any HE.out l.f l.t)
  have k0 : w0.cell? ⟨gb, 0, none⟩ = some (.int .i64 l.f) := R0.out.read 0
  have k1 : w0.cell? ⟨gb, 1, none⟩ = some (.int .i64 l.t) := R0.out.read 1
  cases hlk : linkB W l.f l.t with
  | false =>
    rw [hlk] at HLk
    have he := HEE.out
    rw [hlk, if_neg (by decide)] at he
    have hv := HVV.out
    rw [hlk, if_neg (by decide)] at hv
    subst he hv
    clear hlk HEE HVV
    go_wp2_with (go_at_call 45; (with_reducible refine HLk.out.mono ?_); rintro e w1 ⟨rfl, b1⟩; have B1 := Lib.hid b1; clear b1)
    go_ret
    exact ⟨rfl, ⟨_, _, HE.out.below B1.out⟩, WB.of (then_below B0.out B1.out) HBw.out⟩
  | true =>
    rw [hlk] at HLk
    have he := HEE.out
    rw [hlk, if_pos rfl] at he
    have hv := HVV.out
    rw [hlk, if_pos rfl] at hv
    have HKK : Hid (∀ w1, Below w0.heap.size w0 w1 → w1.cell? ⟨gb, 0, none⟩ = some (.int .i64 l.f) ∧ w1.cell? ⟨gb, 1, none⟩ = some (.int .i64 l.t) ∧ w1.cell? ⟨gb, 2, none⟩ = some (sV l.s)) := Lib.hid fun w1 b => by
      have := R0.out.below b R0.out.inside
      exact ⟨this.read 0, this.read 1, this.read 2⟩
    by_cases h8 : 8192 < l.s.length
    · rw [if_pos h8] at he hv
      subst he hv
      have h9 : (8192 : Int) < l.s.length := by omega
      clear hlk HEE HVV
      go_wp2_with (go_at_call 45; (with_reducible refine HLk.out.mono ?_); rintro e w1 ⟨rfl, b1⟩; have B1 := Lib.hid b1; obtain ⟨x0, x1, x2⟩ := HKK.out w1 b1; clear b1)
      go_ret
      exact ⟨rfl, ⟨_, _, HE.out.below B1.out⟩, WB.of (then_below B0.out B1.out) HBw.out⟩
    · rw [if_neg h8] at he hv
      have h9 : (l.s.length : Int) ≤ 8192 := by omega
      obtain ⟨a0, a1, b0, b1, hne⟩ := link_of hlk
      have hn := HG.out.n1
      obtain ⟨i, hi⟩ : ∃ i : Nat, l.f = i := ⟨l.f.toNat, by omega⟩
      obtain ⟨j, hj⟩ : ∃ j : Nat, l.t = j := ⟨l.t.toNat, by omega⟩
      have hi16 : i < 16 := by omega
      have hj16 : j < 16 := by omega
      have hi2 : (i : Int) < 16 := by omega
      have hj2 : (j : Int) < 16 := by omega
      have hoo : outB W l.f l.t = (W.O[i * 16 + j]?).getD false := by
        unfold outB
        rw [hlk, Bool.true_and, hi, hj, Int.toNat_natCast, Int.toNat_natCast]
      rw [hoo] at he hv
      rw [hi] at k0
      rw [hj] at k1
      have HCC : Hid (∀ w1, Below w0.heap.size w0 w1 → w1.cell? ⟨g, 2 + i * 16 + j, none⟩ = some (.bool ((W.O[i * 16 + j]?).getD false)) ∧ w1.frozen? ⟨g, 2 + i * 16 + j, none⟩ = false) := Lib.hid fun w1 hb => by
        have := wan_o (HE.out.below hb) HG.out (k := i * 16 + j) (by omega)
        rw [← Nat.add_assoc] at this
        exact ⟨this, (HE.out.below hb).cell.soft _⟩
      have HK3 : Hid (∀ w1, Below w0.heap.size w0 w1 → w1.cell? ⟨gb, 0, none⟩ = some (.int .i64 (i : Int)) ∧ w1.cell? ⟨gb, 1, none⟩ = some (.int .i64 (j : Int)) ∧ w1.cell? ⟨gb, 2, none⟩ = some (sV l.s)) := Lib.hid fun w1 b => by
        have := HKK.out w1 b
        rwa [hi, hj] at this
      rw [hi, hj] at HLk
      clear hlk HEE HVV h8 a0 a1 b0 b1 hne hn hi16 hj16 hoo HKK
      generalize (W.O[i * 16 + j]?).getD false = x at HCC he hv
      go_upto_region 5 with (go_at_call 45; (with_reducible refine HLk.out.mono ?_); rintro e w1 ⟨rfl, b1⟩; have B1 := Lib.hid b1; obtain ⟨x0, x1, x2⟩ := HK3.out w1 b1; obtain ⟨z, y⟩ := HCC.out w1 b1; clear b1)
      clear k0 k1
      go_quiet (fail)
      have B2 : Hid (Below w0.heap.size w0 (w1.drewN nq)) := Lib.hid (then_below B1.out (below_more w1 nq))
      clear x0 x1 x2 z y
      generalize w1.drewN nq = w2 at B2 ⊢
      have H2 := Lib.hid (HE.out.below B2.out)
      have m0 : w2.cell? ⟨g, 258, none⟩ = some (.int .i64 W.c) := wan_c H2.out HG.out
      have m1 : w2.frozen? ⟨g, 258, none⟩ = false := H2.out.cell.soft 258
      cases x with
      | true =>
        rw [if_pos rfl] at he hv
        subst he hv
        go_wp2_with fail
        go_ret
        have hx := lost_put H2.out HG.out (by decide) (W.c + 1)
        exact ⟨rfl, ⟨_, _, hx.1⟩, (WB.of (then_below B0.out B2.out) HBw.out).trans hx.2⟩
      | false =>
        rw [if_neg (by decide)] at he hv
        have k3 : w2.cell? ⟨g, 1, none⟩ = some (.slice A W.L.length c) := wan_l H2.out
        have k4 : w2.frozen? ⟨g, 1, none⟩ = false := H2.out.cell.soft 1
        have hl96 := HG.out.l
        unfold layE at he
        by_cases h96 : 96 ≤ W.L.length
        · rw [if_pos h96] at he hv
          subst he hv
          have h97 : (96 : Int) ≤ W.L.length := by omega
          go_wp2_with fail
          go_ret
          have hx := lost_put H2.out HG.out (by decide) (W.c + 1)
          exact ⟨rfl, ⟨_, _, hx.1⟩, (WB.of (then_below B0.out B2.out) HBw.out).trans hx.2⟩
        · rw [if_neg h96] at he hv
          unfold layV at hv
          rw [if_neg h96] at hv
          subst he hv
          have h97 : (W.L.length : Int) < 96 := by omega
          have hl0 : (0 : Int) ≤ W.L.length := by omega
          clear h96
          go_upto_region 11 with fail
          have HL : Hid (W.L.length ≤ 96) := Lib.hid hl96
          clear k3 k4 m0 m1 h97 hl0 hl96
          obtain ⟨i0, hi0, hz0, hz1, hz2⟩ := infoR
          have OX := Lib.hid H2.out.cell
          have OR := Lib.hid H2.out.row
          have GN := Lib.hid (rowS_ne H2.out.row H2.out.cell (by decide))
          have GI := Lib.hid H2.out.cell.inside
          have HB0 : Hid (B ≤ w2.heap.size) := Lib.hid (Nat.le_trans HBw.out (then_below B0.out B2.out).size)
          have HBX := Lib.hid (R0.out.below B2.out R0.out.inside)
          have HBN := Lib.hid HBN0.out
          clear R0 HBN0
          refine region_full 60 [(7, 10)] [(7, 4), (10, 4), (10, 7)] (fun k => k == 4 || k == 7 || k == 10) (fun w7 => TurnS w2 w7 (RowS g (.slice A W.L.length c))) ?hR ?r0 [pdOne 0 (Is (.pointer (some ⟨g, 0, none⟩))), pdOne 1 (Is (.pointer (some ⟨g, 0, none⟩))), pdOne 2 (Is (.pointer (some ⟨g, 0, none⟩))), pdOne 3 (Is (.pointer (some ⟨g, 1, none⟩))), pdOne 4 (Is (.slice A W.L.length c)), pdOne 5 (Is (.agg (cL l).toArray)), pdOne 6 (LoneG 36 cL w2.heap.size l), pdOne 7 (NewG 36 3 cL B (W.L ++ [l])), pdOne 8 (Is (.pointer (some ⟨g, 0, none⟩))), pdOne 9 (Is (.pointer (some ⟨g, 1, none⟩))), pdOne 10 (LaidG 36 3 cL g 49 (fun uq => wanC W.n uq W.O W.c) B (W.L ++ [l]))] (fun k w7 => (k = 4 → Whole w7 g 49 ((fun uq => wanC W.n uq W.O W.c) (.slice A W.L.length c))) ∧ (k = 7 → OwnG 36 3 cL w7 B (.slice A W.L.length c) W.L) ∧ (k = 10 → ∃ u, Whole w7 g 49 ((fun uq => wanC W.n uq W.O W.c) u))) (by kernel_rfl) rfl (by kernel_rfl) (by kernel_rfl) (by kernel_rfl) (by kernel_rfl) ?keep ?hO ?h0 ?tell
          case hR => exact fun w7 w8 hb h1 => h1.later hb
          case r0 => exact TurnS.refl _ _
          case keep => exact ⟨keep_one (keeps_is _), keep_one (keeps_is _), keep_one (keeps_is _), keep_one (keeps_is _), keep_one (keeps_is _), keep_one (keeps_is _), keep_one (keeps_loneG _ _), keep_one (keeps_newG _ _), keep_one (keeps_is _), keep_one (keeps_is _), keep_one (keeps_laidG _ _ _ _ _), trivial⟩
          case hO => exact fun k w7 w8 hb ⟨h1, h2, h3⟩ => ⟨fun e => (h1 e).below hb (h1 e).inside, fun e => (h2 e).below hb, fun e => (h3 e).imp fun u hx => hx.below hb hx.inside⟩
          case h0 => exact fun k _ => ⟨fun _ => OX.out, fun _ => OR.out, fun _ => ⟨_, OX.out⟩⟩
          case tell =>
            intro fin hfin
            simp [lexPut, Act.put] at hfin
            simp only [TellF]
            refine ⟨⟨?_, ?_, ?_, ?_, ?_, ?_, ?_, ?_, ?_, ?_, ?_, trivial⟩, ?_⟩
            · intro v2 w7 hr hd
              refine yields_run (u := .pointer (some ⟨g, 0, none⟩)) (w' := w7) ?_ (Below.refl _ _) rfl
              unfold execOp
              simp [go_sem, Act.eval, Act.put]
            · intro v2 w7 hr hd
              refine yields_run (u := .pointer (some ⟨g, 0, none⟩)) (w' := w7) ?_ (Below.refl _ _) rfl
              unfold execOp
              simp [go_sem, Act.eval, Act.put]
            · intro v2 w7 hr hd
              have h1 : v2 1 = .pointer (some ⟨g, 0, none⟩) := hd 1 (by kernel_rfl)
              refine yields_run (u := .pointer (some ⟨g, 0, none⟩)) (w' := w7) ?_ (Below.refl _ _) rfl
              unfold execOp
              simp [go_sem, Act.eval, Act.put, h1]
            · intro v2 w7 hr hd
              have h2 : v2 2 = .pointer (some ⟨g, 0, none⟩) := hd 2 (by kernel_rfl)
              refine yields_run (u := .pointer (some ⟨g, 1, none⟩)) (w' := w7) ?_ (Below.refl _ _) rfl
              unfold execOp
              simp [go_sem, Act.eval, Act.put, h2]
            · intro v2 w7 hr ho hd
              have h3 : v2 3 = .pointer (some ⟨g, 1, none⟩) := hd 3 (by kernel_rfl)
              have hc : w7.cell? ⟨g, 1, none⟩ = some (.slice A W.L.length c) := (ho.1 trivial).read 1
              refine .inl (.inl ⟨.slice A W.L.length c, w7, ?_, hr, fun _ _ _ _ hu => hu, fun _ _ _ _ hu => hu, rfl⟩)
              unfold execOp
              simp [go_sem, Act.eval, Act.put, h3, hc]
            · intro v2 w7 hr hd
              have hbx : Whole w7 gb 36 (cL l).toArray := (hr.block gb HBX.out.inside HBN.out).trans HBX.out
              have e0 : w7.cell? ⟨gb, 0, none⟩ = some (.int .i64 l.f) := hbx.read 0
              have e1 : w7.cell? ⟨gb, 1, none⟩ = some (.int .i64 l.t) := hbx.read 1
              have e2 : w7.cell? ⟨gb, 2, none⟩ = some (sV l.s) := hbx.read 2
              refine yields_run (u := .agg (cL l).toArray) (w' := w7) ?_ (Below.refl _ _) rfl
              unfold execOp
              simp [go_sem, Act.eval, Act.put, e0, e1, e2, cL]
            · intro v2 w7 hr hd
              have h5 : v2 5 = .agg (cL l).toArray := hd 5 (by kernel_rfl)
              refine yields_run (u := .slice (some ⟨w7.heap.size, 0, none⟩) 1 1) (w' := w7.alloc (.cells (cL l).toArray 36)) ?_ (fresh1 w7 _) ⟨w7.heap.size, rfl, hr.size, Whole.fresh w7 _ _⟩
              unfold execOp
              simp [go_sem, Act.eval, Act.put, h5, cL]
            · intro v2 w7 hr ho hd
              have h4 : v2 4 = .slice A W.L.length c := hd 4 (by kernel_rfl)
              obtain ⟨gy, hz, hyl, hw⟩ : LoneG 36 cL w2.heap.size l (v2 6) w7 := hd 6 (by kernel_rfl)
              have ho7 := ho.2.1 trivial
              refine .inl (yields_append (.tmp 54) (.tmp 56) 45 rfl B 36 i0 (.agg #[.int .i64 0, .int .i64 0, sV []]) 3 32 Try.underlying45 hi0 hz0 hz1 hz2 rfl (by decide) (.slice A W.L.length c) W.L.length (W.L.flatMap cL) (by simp [Act.eval, Act.put, h4]) ho7 ⟨gy, 0, none⟩ 1 1 (cL l) (by simp [Act.eval, Act.put, hz]) rfl (whole_cells hw) (cellsL.one l) (by decide) (by have := HL.out; unfold maxLen; omega) (by have := HL.out; omega) (Nat.le_trans HB0.out hr.size) ?_)
              intro g8 cap8 w8 hown hgrow
              have hxn : some g ≠ (Value.slice A W.L.length c).ownBlock := GN.out
              refine ⟨hr.grown hgrow (fun j e => .inl (.inr e)), ?_, ?_, (show NewG 36 3 cL B (W.L ++ [l]) (.slice (some ⟨g8, 0, none⟩) (W.L.length + 1) cap8) w8 from ⟨g8, cap8, by simp, by unfold OwnG; simpa using hown⟩)⟩
              · intro k2 v' hk2 hc hu
                exact match k2, hk2, hc, hu with
                  | 0, _, _, hu => hu
                  | 1, _, _, hu => hu
                  | 2, _, _, hu => hu
                  | 3, _, _, hu => hu
                  | 4, _, _, hu => hu
                  | 5, _, _, hu => hu
                  | 6, _, _, ⟨gy, h1, h2, h3⟩ => ⟨gy, h1, h2, h3.grown hgrow (OR.out.away h2)⟩
                  | 7, hk2, _, _ => absurd rfl hk2
                  | 8, _, _, hu => hu
                  | 9, _, _, hu => hu
                  | 10, _, hc, _ => absurd hc (by decide)
                  | _ + 11, _, _, _ => trivial
              · intro k2 hk2 hn hc2 ⟨h1, h2, h3⟩
                exact ⟨fun e => by subst e; exact absurd hc2 (by decide), fun e => absurd e hk2, fun e => (h3 e).imp fun u hx => hx.grown hgrow hxn⟩
            · intro v2 w7 hr hd
              have h0 : v2 0 = .pointer (some ⟨g, 0, none⟩) := hd 0 (by kernel_rfl)
              refine yields_run (u := .pointer (some ⟨g, 0, none⟩)) (w' := w7) ?_ (Below.refl _ _) rfl
              unfold execOp
              simp [go_sem, Act.eval, Act.put, h0]
            · intro v2 w7 hr hd
              have h8 : v2 8 = .pointer (some ⟨g, 0, none⟩) := hd 8 (by kernel_rfl)
              refine yields_run (u := .pointer (some ⟨g, 1, none⟩)) (w' := w7) ?_ (Below.refl _ _) rfl
              unfold execOp
              simp [go_sem, Act.eval, Act.put, h8]
            · intro v2 w7 hr ho hd
              have h9 : v2 9 = .pointer (some ⟨g, 1, none⟩) := hd 9 (by kernel_rfl)
              obtain ⟨g', c2, h7, hn7⟩ : NewG 36 3 cL B (W.L ++ [l]) (v2 7) w7 := hd 7 (by kernel_rfl)
              obtain ⟨uq, hu0⟩ := ho.2.2 trivial
              rw [h7] at hn7
              have hc : w7.cell? ⟨g, 1, none⟩ = some uq := hu0.read 1
              have hf : w7.frozen? ⟨g, 1, none⟩ = false := hu0.soft 1
              have hg : w7.grownBy (w7.setCell ⟨g, 1, none⟩ (.slice (some ⟨g', 0, none⟩) (W.L ++ [l]).length c2)) (some g) := only_store (only_of_below (Below.refl _ w7) (some g)) _
              refine .inr ⟨w7.setCell ⟨g, 1, none⟩ (.slice (some ⟨g', 0, none⟩) (W.L ++ [l]).length c2), ?_, hr.grown hg (fun j e => .inl (.inl (by cases e; rfl))), ?_, ?_, some ⟨g', 0, none⟩, c2, hu0.store 1 _, hn7.past hg (fun k e => by cases e; exact rowS_ne hn7 hu0 (by decide))⟩
              · unfold execOp
                simp [go_sem, Act.eval, Act.put, h9, h7, hc, hf]
              · intro k2 v' hk2 hc hu
                exact match k2, hk2, hc, hu with
                  | 0, _, _, hu => hu
                  | 1, _, _, hu => hu
                  | 2, _, _, hu => hu
                  | 3, _, _, hu => hu
                  | 4, _, _, hu => hu
                  | 5, _, _, hu => hu
                  | 6, _, _, ⟨gy, h1, h2, h3⟩ => ⟨gy, h1, h2, h3.grown hg (by have := GI.out; intro e; cases e; omega)⟩
                  | 7, _, _, ⟨g', c', h1, h2⟩ => ⟨g', c', h1, h2.past hg (fun k e => by cases e; exact rowS_ne h2 hu0 (by decide))⟩
                  | 8, _, _, hu => hu
                  | 9, _, _, hu => hu
                  | 10, hk2, _, _ => absurd rfl hk2
                  | _ + 11, _, _, _ => trivial
              · intro k2 hk2 hn hc2 ⟨h1, h2, h3⟩
                exact ⟨fun e => by subst e; exact absurd hc2 (by decide), fun e => by subst e; exact absurd hc2 (by decide), fun e => absurd e hk2⟩
            · intro v2 w7 hr hv
              obtain ⟨D, c2, hl1, hl2⟩ : LaidG 36 3 cL g 49 (fun uq => wanC W.n uq W.O W.c) B (W.L ++ [l]) (v2 10) w7 := hv 10 (by decide)
              have X10 := Lib.hid hl1
              have O10 := Lib.hid hl2
              have R10 := Lib.hid hr
              rw [hfin]
              clear hfin hv hl1 hl2 hr
              generalize v2 7 = v7
              generalize v2 6 = v6
              have WE := Lib.hid ((WB.of (then_below B0.out B2.out) HBw.out).trans (WB.laid OX.out OR.out HB0.out H2.out.low R10.out))
              have PE : Hid (WanP 49 36 B w7 g { W with L := W.L ++ [l] }) := Lib.hid ⟨D, c2, ⟨X10.out, O10.out, H2.out.low⟩⟩
              clear X10 O10 R10 OX OR GN GI HB0 HE H2 HBX HBN
              go_wp2_with fail
              go_ret
              exact ⟨rfl, PE.out, WE.out⟩
set_option maxRecDepth 100000 in
set_option maxHeartbeats 8000000 in
theorem doubleR_any (h : WanE 49 36 B w g W A c) (G : GoodW W) (i : Int) : Calls Try.prog 15 #[.pointer (some ⟨g, 0, none⟩), .int .i64 i] w fun e w' => e = .returned (.int .i64 (dblE W i)) ∧ WanP 49 36 B w' g (dblV W i) ∧ WB 49 36 B w w' := by
  have hBw : B ≤ w.heap.size := (show WanP 49 36 B w g W from ⟨A, c, h⟩).le
  have HBw := Lib.hid hBw
  have HE := Lib.hid h
  have HG := Lib.hid G
  have HA := Lib.hid (atR_any h G i)
  have HEE : Hid (dblE W i = if atE W i ≠ 0 then atE W i else layE W) := Lib.hid rfl
  have HVV : Hid (dblV W i = if atE W i ≠ 0 then W else layV W (atV W i)) := Lib.hid rfl
  generalize dblE W i = de at HEE ⊢
  generalize dblV W i = dv at HVV ⊢
  generalize atE W i = ae at HA HEE HVV
  generalize atV W i = l at HA HVV
  clear h G hBw
  go_enter Try.func15, Try.ntmps15
  go_upto_region 2 with (go_at_call 23; (with_reducible refine HA.out.mono ?_); rintro e w1 ⟨rfl, b1⟩; have B1 := Lib.hid b1; clear b1)
  change Code.wp _ _ _ _ (w1.alloc (.cells (cL l).toArray 36))
  have B2 : Hid (Below w.heap.size w (w1.alloc (.cells (cL l).toArray 36))) := Lib.hid (then_below B1.out (fresh1 w1 _))
  have HBX : Hid (Whole (w1.alloc (.cells (cL l).toArray 36)) w1.heap.size 36 (cL l).toArray) := Lib.hid (Whole.fresh w1 36 _)
  have HBN : Hid (¬ RowS g (.slice A W.L.length c) w1.heap.size) := Lib.hid (by
    have h1 := HE.out.below B1.out
    rintro (e | e)
    · have := h1.cell.inside
      omega
    · obtain ⟨cur, hc⟩ := OwnG.shapeT h1.row e
      have := (Array.getElem?_eq_some_iff.1 hc).1
      omega)
  generalize w1.alloc (.cells (cL l).toArray 36) = w2 at B2 HBX ⊢
  generalize w1.heap.size = gb at HBX HBN ⊢
  clear HA B1
  have H2 := Lib.hid (HE.out.below B2.out)
  by_cases h0 : ae = 0
  · subst h0
    have he := HEE.out
    rw [if_neg (by simp)] at he
    have hv := HVV.out
    rw [if_neg (by simp)] at hv
    have k3 : w2.cell? ⟨g, 1, none⟩ = some (.slice A W.L.length c) := wan_l H2.out
    have k4 : w2.frozen? ⟨g, 1, none⟩ = false := H2.out.cell.soft 1
    have hl96 := HG.out.l
    unfold layE at he
    unfold layV at hv
    by_cases h96 : 96 ≤ W.L.length
    · rw [if_pos h96] at he hv
      subst he
      have hv := hv.symm
      subst hv
      have h97 : (96 : Int) ≤ W.L.length := by omega
      go_wp2_with fail
      go_ret
      exact ⟨rfl, ⟨_, _, H2.out⟩, WB.of B2.out HBw.out⟩
    · rw [if_neg h96] at he hv
      subst he hv
      have h97 : (W.L.length : Int) < 96 := by omega
      have hl0 : (0 : Int) ≤ W.L.length := by omega
      clear h96 HEE HVV
      go_upto_region 6 with fail
      have HL : Hid (W.L.length ≤ 96) := Lib.hid hl96
      clear k3 k4 h97 hl0 hl96
      obtain ⟨i0, hi0, hz0, hz1, hz2⟩ := infoR
      have OX := Lib.hid H2.out.cell
      have OR := Lib.hid H2.out.row
      have GN := Lib.hid (rowS_ne H2.out.row H2.out.cell (by decide))
      have GI := Lib.hid H2.out.cell.inside
      have HB0 : Hid (B ≤ w2.heap.size) := Lib.hid (Nat.le_trans HBw.out B2.out.size)
      refine region_full 34 [(7, 10)] [(7, 4), (10, 4), (10, 7)] (fun k => k == 4 || k == 7 || k == 10) (fun w7 => TurnS w2 w7 (RowS g (.slice A W.L.length c))) ?hR ?r0 [pdOne 0 (Is (.pointer (some ⟨g, 0, none⟩))), pdOne 1 (Is (.pointer (some ⟨g, 0, none⟩))), pdOne 2 (Is (.pointer (some ⟨g, 0, none⟩))), pdOne 3 (Is (.pointer (some ⟨g, 1, none⟩))), pdOne 4 (Is (.slice A W.L.length c)), pdOne 5 (Is (.agg (cL l).toArray)), pdOne 6 (LoneG 36 cL w2.heap.size l), pdOne 7 (NewG 36 3 cL B (W.L ++ [l])), pdOne 8 (Is (.pointer (some ⟨g, 0, none⟩))), pdOne 9 (Is (.pointer (some ⟨g, 1, none⟩))), pdOne 10 (LaidG 36 3 cL g 49 (fun uq => wanC W.n uq W.O W.c) B (W.L ++ [l]))] (fun k w7 => (k = 4 → Whole w7 g 49 ((fun uq => wanC W.n uq W.O W.c) (.slice A W.L.length c))) ∧ (k = 7 → OwnG 36 3 cL w7 B (.slice A W.L.length c) W.L) ∧ (k = 10 → ∃ u, Whole w7 g 49 ((fun uq => wanC W.n uq W.O W.c) u))) (by kernel_rfl) rfl (by kernel_rfl) (by kernel_rfl) (by kernel_rfl) (by kernel_rfl) ?keep ?hO ?h0 ?tell
      case hR => exact fun w7 w8 hb h1 => h1.later hb
      case r0 => exact TurnS.refl _ _
      case keep => exact ⟨keep_one (keeps_is _), keep_one (keeps_is _), keep_one (keeps_is _), keep_one (keeps_is _), keep_one (keeps_is _), keep_one (keeps_is _), keep_one (keeps_loneG _ _), keep_one (keeps_newG _ _), keep_one (keeps_is _), keep_one (keeps_is _), keep_one (keeps_laidG _ _ _ _ _), trivial⟩
      case hO => exact fun k w7 w8 hb ⟨h1, h2, h3⟩ => ⟨fun e => (h1 e).below hb (h1 e).inside, fun e => (h2 e).below hb, fun e => (h3 e).imp fun u hx => hx.below hb hx.inside⟩
      case h0 => exact fun k _ => ⟨fun _ => OX.out, fun _ => OR.out, fun _ => ⟨_, OX.out⟩⟩
      case tell =>
        intro fin hfin
        simp [lexPut, Act.put] at hfin
        simp only [TellF]
        refine ⟨⟨?_, ?_, ?_, ?_, ?_, ?_, ?_, ?_, ?_, ?_, ?_, trivial⟩, ?_⟩
        · intro v2 w7 hr hd
          refine yields_run (u := .pointer (some ⟨g, 0, none⟩)) (w' := w7) ?_ (Below.refl _ _) rfl
          unfold execOp
          simp [go_sem, Act.eval, Act.put]
        · intro v2 w7 hr hd
          refine yields_run (u := .pointer (some ⟨g, 0, none⟩)) (w' := w7) ?_ (Below.refl _ _) rfl
          unfold execOp
          simp [go_sem, Act.eval, Act.put]
        · intro v2 w7 hr hd
          have h1 : v2 1 = .pointer (some ⟨g, 0, none⟩) := hd 1 (by kernel_rfl)
          refine yields_run (u := .pointer (some ⟨g, 0, none⟩)) (w' := w7) ?_ (Below.refl _ _) rfl
          unfold execOp
          simp [go_sem, Act.eval, Act.put, h1]
        · intro v2 w7 hr hd
          have h2 : v2 2 = .pointer (some ⟨g, 0, none⟩) := hd 2 (by kernel_rfl)
          refine yields_run (u := .pointer (some ⟨g, 1, none⟩)) (w' := w7) ?_ (Below.refl _ _) rfl
          unfold execOp
          simp [go_sem, Act.eval, Act.put, h2]
        · intro v2 w7 hr ho hd
          have h3 : v2 3 = .pointer (some ⟨g, 1, none⟩) := hd 3 (by kernel_rfl)
          have hc : w7.cell? ⟨g, 1, none⟩ = some (.slice A W.L.length c) := (ho.1 trivial).read 1
          refine .inl (.inl ⟨.slice A W.L.length c, w7, ?_, hr, fun _ _ _ _ hu => hu, fun _ _ _ _ hu => hu, rfl⟩)
          unfold execOp
          simp [go_sem, Act.eval, Act.put, h3, hc]
        · intro v2 w7 hr hd
          have hbx : Whole w7 gb 36 (cL l).toArray := (hr.block gb HBX.out.inside HBN.out).trans HBX.out
          have e0 : w7.cell? ⟨gb, 0, none⟩ = some (.int .i64 l.f) := hbx.read 0
          have e1 : w7.cell? ⟨gb, 1, none⟩ = some (.int .i64 l.t) := hbx.read 1
          have e2 : w7.cell? ⟨gb, 2, none⟩ = some (sV l.s) := hbx.read 2
          refine yields_run (u := .agg (cL l).toArray) (w' := w7) ?_ (Below.refl _ _) rfl
          unfold execOp
          simp [go_sem, Act.eval, Act.put, e0, e1, e2, cL]
        · intro v2 w7 hr hd
          have h5 : v2 5 = .agg (cL l).toArray := hd 5 (by kernel_rfl)
          refine yields_run (u := .slice (some ⟨w7.heap.size, 0, none⟩) 1 1) (w' := w7.alloc (.cells (cL l).toArray 36)) ?_ (fresh1 w7 _) ⟨w7.heap.size, rfl, hr.size, Whole.fresh w7 _ _⟩
          unfold execOp
          simp [go_sem, Act.eval, Act.put, h5, cL]
        · intro v2 w7 hr ho hd
          have h4 : v2 4 = .slice A W.L.length c := hd 4 (by kernel_rfl)
          obtain ⟨gy, hz, hyl, hw⟩ : LoneG 36 cL w2.heap.size l (v2 6) w7 := hd 6 (by kernel_rfl)
          have ho7 := ho.2.1 trivial
          refine .inl (yields_append (.tmp 28) (.tmp 30) 45 rfl B 36 i0 (.agg #[.int .i64 0, .int .i64 0, sV []]) 3 32 Try.underlying45 hi0 hz0 hz1 hz2 rfl (by decide) (.slice A W.L.length c) W.L.length (W.L.flatMap cL) (by simp [Act.eval, Act.put, h4]) ho7 ⟨gy, 0, none⟩ 1 1 (cL l) (by simp [Act.eval, Act.put, hz]) rfl (whole_cells hw) (cellsL.one l) (by decide) (by have := HL.out; unfold maxLen; omega) (by have := HL.out; omega) (Nat.le_trans HB0.out hr.size) ?_)
          intro g8 cap8 w8 hown hgrow
          have hxn : some g ≠ (Value.slice A W.L.length c).ownBlock := GN.out
          refine ⟨hr.grown hgrow (fun j e => .inl (.inr e)), ?_, ?_, (show NewG 36 3 cL B (W.L ++ [l]) (.slice (some ⟨g8, 0, none⟩) (W.L.length + 1) cap8) w8 from ⟨g8, cap8, by simp, by unfold OwnG; simpa using hown⟩)⟩
          · intro k2 v' hk2 hc hu
            exact match k2, hk2, hc, hu with
              | 0, _, _, hu => hu
              | 1, _, _, hu => hu
              | 2, _, _, hu => hu
              | 3, _, _, hu => hu
              | 4, _, _, hu => hu
              | 5, _, _, hu => hu
              | 6, _, _, ⟨gy, h1, h2, h3⟩ => ⟨gy, h1, h2, h3.grown hgrow (OR.out.away h2)⟩
              | 7, hk2, _, _ => absurd rfl hk2
              | 8, _, _, hu => hu
              | 9, _, _, hu => hu
              | 10, _, hc, _ => absurd hc (by decide)
              | _ + 11, _, _, _ => trivial
          · intro k2 hk2 hn hc2 ⟨h1, h2, h3⟩
            exact ⟨fun e => by subst e; exact absurd hc2 (by decide), fun e => absurd e hk2, fun e => (h3 e).imp fun u hx => hx.grown hgrow hxn⟩
        · intro v2 w7 hr hd
          have h0 : v2 0 = .pointer (some ⟨g, 0, none⟩) := hd 0 (by kernel_rfl)
          refine yields_run (u := .pointer (some ⟨g, 0, none⟩)) (w' := w7) ?_ (Below.refl _ _) rfl
          unfold execOp
          simp [go_sem, Act.eval, Act.put, h0]
        · intro v2 w7 hr hd
          have h8 : v2 8 = .pointer (some ⟨g, 0, none⟩) := hd 8 (by kernel_rfl)
          refine yields_run (u := .pointer (some ⟨g, 1, none⟩)) (w' := w7) ?_ (Below.refl _ _) rfl
          unfold execOp
          simp [go_sem, Act.eval, Act.put, h8]
        · intro v2 w7 hr ho hd
          have h9 : v2 9 = .pointer (some ⟨g, 1, none⟩) := hd 9 (by kernel_rfl)
          obtain ⟨g', c2, h7, hn7⟩ : NewG 36 3 cL B (W.L ++ [l]) (v2 7) w7 := hd 7 (by kernel_rfl)
          obtain ⟨uq, hu0⟩ := ho.2.2 trivial
          rw [h7] at hn7
          have hc : w7.cell? ⟨g, 1, none⟩ = some uq := hu0.read 1
          have hf : w7.frozen? ⟨g, 1, none⟩ = false := hu0.soft 1
          have hg : w7.grownBy (w7.setCell ⟨g, 1, none⟩ (.slice (some ⟨g', 0, none⟩) (W.L ++ [l]).length c2)) (some g) := only_store (only_of_below (Below.refl _ w7) (some g)) _
          refine .inr ⟨w7.setCell ⟨g, 1, none⟩ (.slice (some ⟨g', 0, none⟩) (W.L ++ [l]).length c2), ?_, hr.grown hg (fun j e => .inl (.inl (by cases e; rfl))), ?_, ?_, some ⟨g', 0, none⟩, c2, hu0.store 1 _, hn7.past hg (fun k e => by cases e; exact rowS_ne hn7 hu0 (by decide))⟩
          · unfold execOp
            simp [go_sem, Act.eval, Act.put, h9, h7, hc, hf]
          · intro k2 v' hk2 hc hu
            exact match k2, hk2, hc, hu with
              | 0, _, _, hu => hu
              | 1, _, _, hu => hu
              | 2, _, _, hu => hu
              | 3, _, _, hu => hu
              | 4, _, _, hu => hu
              | 5, _, _, hu => hu
              | 6, _, _, ⟨gy, h1, h2, h3⟩ => ⟨gy, h1, h2, h3.grown hg (by have := GI.out; intro e; cases e; omega)⟩
              | 7, _, _, ⟨g', c', h1, h2⟩ => ⟨g', c', h1, h2.past hg (fun k e => by cases e; exact rowS_ne h2 hu0 (by decide))⟩
              | 8, _, _, hu => hu
              | 9, _, _, hu => hu
              | 10, hk2, _, _ => absurd rfl hk2
              | _ + 11, _, _, _ => trivial
          · intro k2 hk2 hn hc2 ⟨h1, h2, h3⟩
            exact ⟨fun e => by subst e; exact absurd hc2 (by decide), fun e => by subst e; exact absurd hc2 (by decide), fun e => absurd e hk2⟩
        · intro v2 w7 hr hv
          obtain ⟨D, c2, hl1, hl2⟩ : LaidG 36 3 cL g 49 (fun uq => wanC W.n uq W.O W.c) B (W.L ++ [l]) (v2 10) w7 := hv 10 (by decide)
          have X10 := Lib.hid hl1
          have O10 := Lib.hid hl2
          have R10 := Lib.hid hr
          rw [hfin]
          clear hfin hv hl1 hl2 hr
          generalize v2 7 = v7
          generalize v2 6 = v6
          have WE := Lib.hid ((WB.of B2.out HBw.out).trans (WB.laid OX.out OR.out HB0.out H2.out.low R10.out))
          have PE : Hid (WanP 49 36 B w7 g { W with L := W.L ++ [l] }) := Lib.hid ⟨D, c2, ⟨X10.out, O10.out, H2.out.low⟩⟩
          clear X10 O10 R10 OX OR GN GI HB0 HE H2 HBX HBN
          go_wp2_with fail
          go_ret
          exact ⟨rfl, PE.out, WE.out⟩
  · have he := HEE.out
    rw [if_pos h0] at he
    have hv := HVV.out
    rw [if_pos h0] at hv
    have hv := hv.symm
    subst he hv
    have h01 : (de != 0) = true := by simpa using h0
    clear HEE HVV h0
    go_wp2_with fail
    go_ret
    exact ⟨rfl, ⟨_, _, H2.out⟩, WB.of B2.out HBw.out⟩
end
end Go.Proofs.Ytbomlapmoiamgaa.wan
