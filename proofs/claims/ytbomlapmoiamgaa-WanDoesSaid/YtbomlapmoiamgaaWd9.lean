/-
  lose; Cut.
-/
import Derived.Test.YtbomlapmoiamgaaWd8
import Derived.StillTailTactics
set_option linter.unusedSimpArgs false
set_option linter.unusedVariables false
namespace Go.Proofs.Ytbomlapmoiamgaa.wan
open Go.ChangeShapes Go.WideShapes Go.ChangeAt Go.RowKit
open Go.Proofs.Ytbomlapmoiamgaa.opened Go.Proofs.Ytbomlapmoiamgaa.block Go.Proofs.Ytbomlapmoiamgaa.words Go.Proofs.Ytbomlapmoiamgaa.region
theorem ownBlock_slice (A : Option Addr) (n c m d : Nat) : (Value.slice A n c).ownBlock = (Value.slice A m d).ownBlock := by cases A <;> rfl
theorem row_laid {tw tl : TypeId} {B g : Nat} {W : Wn} {A : Option Addr} {c : Nat} {w w3 : World} {L' : List Lt} (h : WanE tw tl B w g W A c) (hne : tl ≠ tw) (hg : w.grownBy w3 (Value.slice A W.L.length c).ownBlock) (ho : OwnG tl 3 cL w3 B (.slice A L'.length c) L') :
    WanE tw tl B (w3.setCell ⟨g, 1, none⟩ (.slice A L'.length c)) g { W with L := L' } A c ∧ WB tw tl B w (w3.setCell ⟨g, 1, none⟩ (.slice A L'.length c)) := by
  have hn := rowS_ne h.row h.cell hne
  have hc3 : Whole w3 g tw _ := h.cell.grown hg hn
  have hg2 : w3.grownBy (w3.setCell ⟨g, 1, none⟩ (.slice A L'.length c)) (some g) := only_store (only_of_below (Below.refl _ w3) (some g)) _
  refine ⟨⟨?_, ho.past hg2 fun k e => by cases e; rw [ownBlock_slice A L'.length c W.L.length c]; exact hn, h.low⟩, WB.laid h.cell h.row (show WanP tw tl B w g W from ⟨_, c, h⟩).le h.low ((turnS_grown hg fun k e => .inr e).grown hg2 fun j e => by cases e; exact .inl (.inl rfl))⟩
  have := hc3.store 1 (.slice A L'.length c)
  rwa [wanC_row] at this
def lostN (W : Wn) (a b : Int) : Nat := W.L.length - (notP (pL a b) W.L).length
def loseV (W : Wn) (a b : Int) : Wn := { W with L := notP (pL a b) W.L, c := W.c + lostN W a b }
section
variable {B g : Nat} {W : Wn} {A : Option Addr} {c : Nat} {w : World}
set_option maxRecDepth 100000 in
set_option maxHeartbeats 2000000 in
theorem lose_any (h : WanE 94 34 B w g W A c) (G : GoodW W) (hc : W.c + 96 ≤ 1000000) (a b : Int) : Calls Try.prog 47 #[.pointer (some ⟨g, 0, none⟩), .int .i64 a, .int .i64 b] w fun e w' => e = .returned (.tuple #[]) ∧ WanP 94 34 B w' g (loseV W a b) ∧ WB 94 34 B w w' := by
  have hBw : B ≤ w.heap.size := (show WanP 94 34 B w g W from ⟨A, c, h⟩).le
  have hb2 : Below w.heap.size w ((w.alloc (.cells #[.int .i64 a] 3)).alloc (.cells #[.int .i64 b] 3)) := then_below (fresh1 w _) (fresh1 _ _)
  have B2 := Lib.hid hb2
  have HE := Lib.hid (h.below hb2)
  have RX : Hid (Whole ((w.alloc (.cells #[.int .i64 a] 3)).alloc (.cells #[.int .i64 b] 3)) w.heap.size 3 #[.int .i64 a]) := Lib.hid ((Whole.fresh w 3 #[.int .i64 a]).alloc _)
  have RY : Hid (Whole ((w.alloc (.cells #[.int .i64 a] 3)).alloc (.cells #[.int .i64 b] 3)) (w.heap.size + 1) 3 #[.int .i64 b]) := Lib.hid (by
    have := Whole.fresh (w.alloc (.cells #[.int .i64 a] 3)) 3 #[.int .i64 b]
    rwa [show (w.alloc (.cells #[.int .i64 a] 3)).heap.size = w.heap.size + 1 from Array.size_push ..] at this)
  have HG := Lib.hid G
  have HBw := Lib.hid hBw
  have HC := Lib.hid hc
  clear h G hBw hb2 hc
  go_enter Try.func47, Try.ntmps47
  go_upto_region 1 with fail
  change Code.wp _ _ _ _ ((w.alloc (.cells #[.int .i64 a] 3)).alloc (.cells #[.int .i64 b] 3))
  generalize (w.alloc (.cells #[.int .i64 a] 3)).alloc (.cells #[.int .i64 b] 3) = w2 at B2 HE RX RY ⊢
  have HL96 : Hid (W.L.length ≤ 96) := Lib.hid HG.out.l
  have hxi : Hid (w.heap.size < w2.heap.size ∧ w.heap.size + 1 < w2.heap.size) := Lib.hid ⟨RX.out.inside, RY.out.inside⟩
  have hxb : ∀ k, (Value.slice A W.L.length c).ownBlock = some k → w.heap.size ≠ k ∧ w.heap.size + 1 ≠ k := fun k e => by
    obtain ⟨cur, hcur⟩ := OwnG.shapeT HE.out.row e
    exact ⟨obj_ne RX.out hcur (ty_ne (by decide)), obj_ne RY.out hcur (ty_ne (by decide))⟩
  have HP : Gives w2 (Value.slice A W.L.length c).ownBlock (.pointer (some ⟨w.heap.size, 0, none⟩)) (.pointer (some ⟨w.heap.size + 1, 0, none⟩)) (pL a b) := fun l w' hg =>
    lose1_any a b l _ _ ((RX.out.grown hg fun e => (hxb _ e.symm).1 rfl).read 0) ((RY.out.grown hg fun e => (hxb _ e.symm).2 rfl).read 0)
  have HD := Lib.hid (deleteFunc_any HE.out.row HL96.out HP)
  have HGI := Lib.hid (rowS_ne HE.out.row HE.out.cell (show 34 ≠ 94 by decide))
  have k1 : w2.cell? ⟨g, 1, none⟩ = some (.slice A W.L.length c) := wan_l HE.out
  have f1 : w2.frozen? ⟨g, 1, none⟩ = false := HE.out.cell.soft 1
  obtain ⟨nl, hnl⟩ : ∃ nl, nl = notP (pL a b) W.L := ⟨_, rfl⟩
  have HNL := Lib.hid hnl
  have hle : nl.length ≤ W.L.length := by rw [hnl]; exact List.length_filter_le _ _
  have HLO : Hid (lostN W a b = W.L.length - nl.length) := Lib.hid (by rw [hnl]; rfl)
  rw [← hnl] at HD
  have hl96 := HL96.out
  clear HP hxb hnl
  go_upto_region 3 with (go_at_call 57; (with_reducible refine HD.out.mono ?_); rintro e w3 ⟨rfl, ho3, hg3⟩; have O3 := Lib.hid ho3; have G3 := Lib.hid hg3; have x0 : w3.cell? ⟨g, 1, none⟩ = some (.slice A W.L.length c) := (HE.out.cell.grown hg3 HGI.out).read 1; have x1 : w3.frozen? ⟨g, 1, none⟩ = false := (HE.out.cell.grown hg3 HGI.out).soft 1; clear ho3 hg3 k1 f1)
  change Code.wp _ _ _ _ (w3.setCell ⟨g, 1, none⟩ (.slice A nl.length c))
  have hx := row_laid HE.out (by decide) G3.out O3.out
  have X4 := Lib.hid hx.1
  have X5 := Lib.hid hx.2
  clear hx x0 x1
  generalize w3.setCell ⟨g, 1, none⟩ (.slice A nl.length c) = w4 at X4 X5 ⊢
  have HG4 : Hid (GoodW { W with L := nl }) := Lib.hid ⟨HG.out.n0, HG.out.n1, HG.out.o, by show nl.length ≤ 96; omega, HG.out.c0, HG.out.c1⟩
  have m1 : w4.cell? ⟨g, 1, none⟩ = some (.slice A nl.length c) := wan_l X4.out
  have m2 : w4.cell? ⟨g, 258, none⟩ = some (.int .i64 W.c) := wan_c (W := { W with L := nl }) X4.out HG4.out
  have m3 : w4.frozen? ⟨g, 258, none⟩ = false := X4.out.cell.soft 258
  have hc := HC.out
  have hc0 := HG.out.c0
  go_still_tail 14, (by kernel_rfl)
  go_wp2_with fail
  go_end0
  have e : W.c + ((W.L.length : Int) - nl.length) = W.c + (lostN W a b : Nat) := by
    rw [HLO.out]
    omega
  have hy := lost_put (X4.out.below (Below.refl _ w4).drew) HG4.out (by decide) (W.c + (lostN W a b : Nat))
  rw [← e] at hy
  refine ⟨rfl, ⟨A, c, ?_⟩, (((WB.of B2.out HBw.out).trans X5.out).trans (WB.of (Below.refl _ w4).drew ?_)).trans hy.2⟩
  · unfold loseV
    rw [← HNL.out, ← e]
    exact hy.1
  · exact (show WanP 94 34 B w4 g { W with L := nl } from ⟨A, c, X4.out⟩).le
end
def cutE (W : Wn) (a b : Int) : Int := if linkB W a b = true then 0 else 1
def cutV (W : Wn) (a b : Int) (o : Bool) : Wn := if linkB W a b = true then (if o = true then loseV { W with O := W.O.set (a.toNat * 16 + b.toNat) o } a b else { W with O := W.O.set (a.toNat * 16 + b.toNat) o }) else W
section
variable {B g : Nat} {W : Wn} {A : Option Addr} {c : Nat} {w : World}
set_option maxRecDepth 100000 in
set_option maxHeartbeats 2000000 in
theorem cut_any (h : WanE 94 34 B w g W A c) (G : GoodW W) (hc : W.c + 96 ≤ 1000000) (a b : Int) (o : Bool) : Calls Try.prog 16 #[.pointer (some ⟨g, 0, none⟩), .int .i64 a, .int .i64 b, .bool o] w fun e w' => e = .returned (.int .i64 (cutE W a b)) ∧ WanP 94 34 B w' g (cutV W a b o) ∧ WB 94 34 B w w' := by
  have hBw : B ≤ w.heap.size := (show WanP 94 34 B w g W from ⟨A, c, h⟩).le
  have HBw := Lib.hid hBw
  have HE := Lib.hid h
  have HG := Lib.hid G
  have HC := Lib.hid hc
  have HL := Lib.hid (isLink_any h a b)
  have HEE : Hid (cutE W a b = if linkB W a b = true then 0 else 1) := Lib.hid rfl
  have HVV : Hid (cutV W a b o = if linkB W a b = true then (if o = true then loseV { W with O := W.O.set (a.toNat * 16 + b.toNat) o } a b else { W with O := W.O.set (a.toNat * 16 + b.toNat) o }) else W) := Lib.hid rfl
  generalize cutE W a b = ce at HEE ⊢
  generalize cutV W a b o = cv at HVV ⊢
  clear h G hBw hc
  cases hl : linkB W a b with
  | false =>
    rw [hl] at HL
    have he := HEE.out
    rw [hl, if_neg (by decide)] at he
    have hv := HVV.out
    rw [hl, if_neg (by decide)] at hv
    subst he hv
    clear hl HEE HVV
    go_enter Try.func16, Try.ntmps16
    go_wp2_with (go_at_call 43; (with_reducible refine HL.out.mono ?_); rintro e w1 ⟨rfl, b1⟩; have B1 := Lib.hid b1; clear b1)
    go_ret
    exact ⟨rfl, ⟨A, c, HE.out.below B1.out⟩, WB.of B1.out HBw.out⟩
  | true =>
    rw [hl] at HL
    have he := HEE.out
    rw [hl, if_pos rfl] at he
    have hv := HVV.out
    rw [hl, if_pos rfl] at hv
    subst he
    obtain ⟨a0, a1, b0, b1, hne⟩ := link_of hl
    have hn := HG.out.n1
    obtain ⟨i, rfl⟩ : ∃ i : Nat, a = i := ⟨a.toNat, by omega⟩
    obtain ⟨j, rfl⟩ : ∃ j : Nat, b = j := ⟨b.toNat, by omega⟩
    have hi : i < 16 := by omega
    have hj : j < 16 := by omega
    have HI := Lib.hid (show i * 16 + j < 256 by omega)
    simp only [Int.toNat_natCast] at hv
    have HK : Hid (∀ w1, Below w.heap.size w w1 → w1.cell? ⟨g, 2 + i * 16 + j, none⟩ = some (.bool ((W.O[i * 16 + j]?).getD false)) ∧ w1.frozen? ⟨g, 2 + i * 16 + j, none⟩ = false) := Lib.hid fun w1 hb => by
      have := wan_o (HE.out.below hb) HG.out (k := i * 16 + j) (by omega)
      rw [← Nat.add_assoc] at this
      exact ⟨this, (HE.out.below hb).cell.soft _⟩
    have HO : Hid (∀ w1, Below w.heap.size w w1 → WanE 94 34 B (w1.setCell ⟨g, 2 + i * 16 + j, none⟩ (.bool o)) g { W with O := W.O.set (i * 16 + j) o } A c ∧ WB 94 34 B w (w1.setCell ⟨g, 2 + i * 16 + j, none⟩ (.bool o))) := Lib.hid fun w1 hb => by
      have := out_put (HE.out.below hb) HG.out (by decide) (i * 16 + j) HI.out o
      rw [← Nat.add_assoc] at this
      exact ⟨this.1, (WB.of hb HBw.out).trans this.2⟩
    have HG2 : Hid (GoodW { W with O := W.O.set (i * 16 + j) o }) := Lib.hid ⟨HG.out.n0, HG.out.n1, by show (W.O.set _ _).length = 256; rw [List.length_set]; exact HG.out.o, HG.out.l, HG.out.c0, HG.out.c1⟩
    generalize (W.O[i * 16 + j]?).getD false = old at HK
    clear hl a0 a1 b0 b1 hne hn HEE HVV
    have hi2 : (i : Int) < 16 := by omega
    have hj2 : (j : Int) < 16 := by omega
    cases o with
    | true =>
      rw [if_pos rfl] at hv
      subst hv
      go_enter Try.func16, Try.ntmps16
      go_upto_region 4 with (go_at_call 43; (with_reducible refine HL.out.mono ?_); rintro e w1 ⟨rfl, b1⟩; have B1 := Lib.hid b1; obtain ⟨z, y⟩ := HK.out w1 b1; clear b1)
      change Code.wp _ _ _ _ (w1.setCell ⟨g, 2 + i * 16 + j, none⟩ (.bool true))
      have hx := HO.out _ B1.out
      have X1 := Lib.hid hx.1
      have X2 := Lib.hid hx.2
      clear hx z y
      generalize w1.setCell ⟨g, 2 + i * 16 + j, none⟩ (.bool true) = w2 at X1 X2 ⊢
      have HLo := Lib.hid (lose_any X1.out HG2.out HC.out i j)
      go_wp2_with (go_at_call 47; (with_reducible refine HLo.out.mono ?_); rintro e w3 ⟨rfl, p3, b3⟩; have P3 := Lib.hid p3; have B3 := Lib.hid b3; clear p3 b3)
      go_ret
      exact ⟨rfl, P3.out, X2.out.trans B3.out⟩
    | false =>
      rw [if_neg (by decide)] at hv
      subst hv
      go_enter Try.func16, Try.ntmps16
      go_wp2_with (go_at_call 43; (with_reducible refine HL.out.mono ?_); rintro e w1 ⟨rfl, b1⟩; have B1 := Lib.hid b1; obtain ⟨z, y⟩ := HK.out w1 b1; clear b1)
      go_ret
      have hx := HO.out _ B1.out
      exact ⟨rfl, ⟨A, c, hx.1⟩, hx.2⟩
end
end Go.Proofs.Ytbomlapmoiamgaa.wan
