/-
  Take.
-/
import Derived.Test.YtbomlapmoiamgaaWd5
set_option linter.unusedSimpArgs false
set_option linter.unusedVariables false
namespace Go.Proofs.Ytbomlapmoiamgaa.wan
open Go.ChangeShapes Go.WideShapes Go.ChangeAt Go.RowKit
open Go.Proofs.Ytbomlapmoiamgaa.opened Go.Proofs.Ytbomlapmoiamgaa.block Go.Proofs.Ytbomlapmoiamgaa.words Go.Proofs.Ytbomlapmoiamgaa.region
theorem row_put {tw tl : TypeId} {B g b : Nat} {W : Wn} {A : Option Addr} {c : Nat} {w w3 : World} {L' : List Lt} (h : WanE tw tl B w g W A c) (hne : tl ≠ tw) (hA : A = some ⟨b, 0, none⟩) (hg : w.grownBy w3 (some b)) (ho : OwnG tl 3 cL w3 B (.slice A L'.length c) L') :
    WanE tw tl B (w3.setCell ⟨g, 1, none⟩ (.slice A L'.length c)) g { W with L := L' } A c ∧ WB tw tl B w (w3.setCell ⟨g, 1, none⟩ (.slice A L'.length c)) := by
  subst hA
  have hn := rowS_ne h.row h.cell hne
  have hc3 : Whole w3 g tw _ := h.cell.grown hg hn
  have hg2 : w3.grownBy (w3.setCell ⟨g, 1, none⟩ (.slice (some ⟨b, 0, none⟩) L'.length c)) (some g) := only_store (only_of_below (Below.refl _ w3) (some g)) _
  refine ⟨⟨?_, ho.past hg2 fun k e => by cases e; exact hn, h.low⟩, WB.laid h.cell h.row (show WanP tw tl B w g W from ⟨_, c, h⟩).le h.low ((turnS_grown hg fun k e => by cases e; exact .inr rfl).grown hg2 fun j e => by cases e; exact .inl (.inl rfl))⟩
  have := hc3.store 1 (.slice (some ⟨b, 0, none⟩) L'.length c)
  rwa [wanC_row] at this
theorem WanE.keep {tw tl : TypeId} {B g : Nat} {W : Wn} {A : Option Addr} {c : Nat} {w w' : World} (h : WanE tw tl B w g W A c) (hg : w'.heap[g]? = w.heap[g]?) (hb : ∀ b, A = some ⟨b, 0, none⟩ → w'.heap[b]? = w.heap[b]?) : WanE tw tl B w' g W A c := by
  refine ⟨hg.trans h.cell, ⟨h.row.1, ?_⟩, h.low⟩
  rcases h.row.2 with hn | ⟨b, cap, cur, hv, hg0, hx, rest⟩
  · exact .inl hn
  · exact .inr ⟨b, cap, cur, hv, hg0, (hb b (by injection hv)).trans hx, rest⟩
theorem WB.after {tw tl : TypeId} {B : Nat} {w w4 w9 : World} (h : WB tw tl B w w4) (hb : Below w.heap.size w4 w9) (hB : B ≤ w.heap.size) : WB tw tl B w w9 :=
  ⟨h.below.trans (hb.mono hB), fun k o ho hn => (hb.block k (Array.getElem?_eq_some_iff.1 ho).1).trans (h.keep k o ho hn)⟩
def takeV (W : Wn) (i : Int) : Wn := if atE W i ≠ 0 then W else { W with L := W.L.eraseIdx i.toNat }
theorem atV_bad {W : Wn} {i : Int} (h : atE W i ≠ 0) : atV W i = ⟨0, 0, []⟩ := by
  unfold atE at h
  unfold atV
  split
  · rename_i h0
    rw [List.getElem?_eq_none]
    · rfl
    · by_cases h1 : i < W.L.length
      · exact absurd (if_pos ⟨h0, h1⟩) h
      · omega
  · rfl
section
variable {B g : Nat} {W : Wn} {A : Option Addr} {c : Nat} {w : World}
set_option maxRecDepth 100000 in
set_option maxHeartbeats 2000000 in
theorem take_any (h : WanE 94 34 B w g W A c) (G : GoodW W) (i : Int) : Calls Try.prog 11 #[.pointer (some ⟨g, 0, none⟩), .int .i64 i] w fun e w' => e = .returned (.tuple #[(atV W i).val, .int .i64 (atE W i)]) ∧ WanP 94 34 B w' g (takeV W i) ∧ WB 94 34 B w w' := by
  have hBw : B ≤ w.heap.size := (show WanP 94 34 B w g W from ⟨A, c, h⟩).le
  have HBw := Lib.hid hBw
  have B0 : Hid (Below w.heap.size w (w.alloc (.cells zL 34))) := Lib.hid (fresh1 w _)
  have R0 : Hid (Whole (w.alloc (.cells zL 34)) w.heap.size 34 zL) := Lib.hid (Whole.fresh w 34 zL)
  have HE := Lib.hid (h.below (fresh1 w (.cells zL 34)))
  have HGd := Lib.hid G
  have hgi := h.cell.inside
  have hai : ∀ b, A = some ⟨b, 0, none⟩ → b < w.heap.size := fun b e => by
    subst e
    obtain ⟨cur, hc⟩ := OwnG.shapeT h.row (k := b) rfl
    exact (Array.getElem?_eq_some_iff.1 hc).1
  have HGI := Lib.hid hgi
  have HAI := Lib.hid hai
  have HA := Lib.hid (at_any HE.out HGd.out i)
  have HVV : Hid (takeV W i = if atE W i ≠ 0 then W else { W with L := W.L.eraseIdx i.toNat }) := Lib.hid rfl
  have HIn : Hid (atE W i = 0 → 0 ≤ i ∧ i < W.L.length) := Lib.hid fun h0 => by
    unfold atE at h0
    split at h0
    · assumption
    · cases h0
  have HNo : Hid (atE W i ≠ 0 → atV W i = ⟨0, 0, []⟩) := Lib.hid atV_bad
  generalize takeV W i = tv at HVV ⊢
  generalize atE W i = ae at HA HVV HIn HNo ⊢
  generalize atV W i = l at HA HNo ⊢
  have HCe := Lib.hid h.cell
  have HRo := Lib.hid h.row
  have HLo := Lib.hid h.low
  clear h G hBw hgi hai
  go_enter Try.func11, Try.ntmps11
  go_upto_region 1 with fail
  change Code.wp _ _ _ _ (w.alloc (.cells zL 34))
  generalize w.alloc (.cells zL 34) = w0 at B0 R0 HE HA ⊢
  obtain ⟨g0, hg0⟩ : ∃ g, g = w.heap.size := ⟨_, rfl⟩
  have HG0 := Lib.hid hg0
  rw [← hg0] at R0 ⊢
  clear hg0
  by_cases h0 : ae = 0
  · subst h0
    have hv := HVV.out
    rw [if_neg (by simp)] at hv
    have hb := HIn.out rfl
    obtain ⟨j, rfl⟩ : ∃ j : Nat, i = j := ⟨i.toNat, by omega⟩
    rw [Int.toNat_natCast] at hv
    subst hv
    have hj : j < W.L.length := by omega
    clear hb HVV HIn HNo
    go_upto_region 2 with (go_at_call 22; (with_reducible refine HA.out.mono ?_); rintro e w1 ⟨rfl, b1⟩; have B1 := Lib.hid b1; clear b1)
    change Code.wp _ _ _ _ (w1.alloc (.cells (cL l).toArray 34))
    have B2 := Lib.hid (then_below B1.out (fresh1 w1 (.cells (cL l).toArray 34)))
    have R2 : Hid (Whole (w1.alloc (.cells (cL l).toArray 34)) w1.heap.size 34 (cL l).toArray) := Lib.hid (Whole.fresh w1 34 (cL l).toArray)
    have HS1 : Hid (w0.heap.size ≤ w1.heap.size) := Lib.hid B1.out.size
    generalize w1.alloc (.cells (cL l).toArray 34) = w2 at B2 R2 ⊢
    obtain ⟨g2, hg2⟩ : ∃ g, g = w1.heap.size := ⟨_, rfl⟩
    have HG2 := Lib.hid hg2
    rw [← hg2] at R2 ⊢
    clear hg2
    have H2 := Lib.hid (HE.out.below B2.out)
    have Z2 := Lib.hid (R0.out.below B2.out R0.out.inside)
    have HD := Lib.hid (delete_any H2.out.row HGd.out.l j (j + 1) rfl hj)
    have hcast : ((j + 1 : Nat) : Int) = (j : Int) + 1 := by omega
    rw [hcast] at HD
    have hle : (W.L.eraseIdx j).length = W.L.length - 1 := List.length_eraseIdx_of_lt hj
    rw [← hle] at HD
    have HLE := Lib.hid hle
    have y0 : w2.cell? ⟨g, 1, none⟩ = some (.slice A W.L.length c) := wan_l H2.out
    have y1 : w2.frozen? ⟨g, 1, none⟩ = false := H2.out.cell.soft 1
    have hl96 : W.L.length ≤ 96 := HGd.out.l
    clear hcast hle HA
    go_upto_region 5 with (go_at_call 46; (with_reducible refine HD.out.mono ?_); rintro e w3 ⟨rfl, ho3, b, hA3, hg3⟩; have O3 := Lib.hid ho3; have G3 := Lib.hid hg3; have HA3 := Lib.hid hA3; have N3 : Hid (some g ≠ some b) := Lib.hid (by have := rowS_ne H2.out.row H2.out.cell (by decide); rw [hA3] at this; exact this); have x0 : w3.cell? ⟨g, 1, none⟩ = some (.slice A W.L.length c) := (H2.out.cell.grown hg3 N3.out).read 1; have x1 : w3.frozen? ⟨g, 1, none⟩ = false := (H2.out.cell.grown hg3 N3.out).soft 1; clear ho3 hg3 hA3 y0 y1)
    change Code.wp _ _ _ _ (w3.setCell ⟨g, 1, none⟩ (.slice A (W.L.eraseIdx j).length c))
    have hx := row_put H2.out (by decide) HA3.out G3.out O3.out
    have X4 := Lib.hid hx.1
    have X5 := Lib.hid hx.2
    have hbi := HAI.out b HA3.out
    have hgi := HGI.out
    have e0 := HG0.out
    have e2 := HG2.out
    have s1 := HS1.out
    have sB := B0.out.size
    have sR := R0.out.inside
    have Z4 : Hid (Whole (w3.setCell ⟨g, 1, none⟩ (.slice A (W.L.eraseIdx j).length c)) g0 34 zL) := Lib.hid ((Z2.out.grown G3.out (by intro e; cases e; omega)).aside (by show g0 ≠ g; omega) _)
    have R4 : Hid (Whole (w3.setCell ⟨g, 1, none⟩ (.slice A (W.L.eraseIdx j).length c)) g2 34 (cL l).toArray) := Lib.hid ((R2.out.grown G3.out (by intro e; cases e; omega)).aside (by show g2 ≠ g; omega) _)
    have W4 : Hid (WB 94 34 B w (w3.setCell ⟨g, 1, none⟩ (.slice A (W.L.eraseIdx j).length c))) := Lib.hid ((WB.of (then_below B0.out B2.out) HBw.out).trans X5.out)
    have hgn : g0 ≠ g := by omega
    have HGN := Lib.hid hgn
    have N4 : Hid (some g0 ≠ (Value.slice A (W.L.eraseIdx j).length c).ownBlock) := Lib.hid (by rw [HA3.out]; intro e; have := Option.some.inj e; simp at this; omega)
    clear hx x0 x1 hbi hgi e0 e2 s1 sB sR hgn X5 hl96
    generalize w3.setCell ⟨g, 1, none⟩ (.slice A (W.L.eraseIdx j).length c) = w4 at X4 Z4 R4 W4 ⊢
    go_wp2_with (first
      | (refine get rfl 34 (.tmp 6) rfl rfl R4.out Try.underlying34 rfl infoP3 ?_)
      | (refine put rfl 34 (.tmp 4) _ rfl (g := g0) rfl rfl Z4.out (by kernel_rfl) rfl (by simp [Value.oneCell', cL]) (Below.refl (B := w.heap.size) w4) (by rw [HG0.out]; exact Nat.le_refl _) ?_; intro w9 hR9 hB9 hs9 ho9))
    refine bodyPost_ret (two_letter Try.results11 rfl rfl (e := l) hR9 Try.underlying34 infoP3) rfl ⟨rfl, ?_, ?_⟩
    · exact ⟨_, _, X4.out.keep (hB9.block _ HGI.out) fun b e => hB9.block _ (HAI.out b e)⟩
    · exact W4.out.after hB9 HBw.out
  · have hv := HVV.out
    rw [if_pos h0] at hv
    have hv := hv.symm
    subst hv
    have hab := HNo.out h0
    subst hab
    have h01 : (ae != 0) = true := by simpa using h0
    clear h0 HVV HIn HNo
    go_wp2_with (first
      | (go_at_call 22; (with_reducible refine HA.out.mono ?_); rintro e w1 ⟨rfl, b1⟩; have B2 := Lib.hid (then_below b1 (fresh1 w1 (.cells (cL ⟨0, 0, []⟩).toArray 34))); have R2 := Lib.hid (R0.out.below B2.out R0.out.inside); clear b1)
      | (refine put rfl 34 (.tmp 4) _ rfl (g := g0) rfl rfl R2.out (by kernel_rfl) rfl (by simp [Value.oneCell']) (then_below B0.out B2.out) (by rw [HG0.out]; exact Nat.le_refl _) ?_; intro w9 hR9 hB9 hs9 ho9))
    refine bodyPost_ret (two_letter Try.results11 rfl rfl (e := ⟨0, 0, []⟩) hR9 Try.underlying34 infoP3) rfl ⟨rfl, ?_, ?_⟩
    · exact ⟨_, _, WanE.keep (w := w) ⟨HCe.out, HRo.out, HLo.out⟩ (hB9.block _ HGI.out) fun b e => hB9.block _ (HAI.out b e)⟩
    · exact WB.of hB9 HBw.out
end
end Go.Proofs.Ytbomlapmoiamgaa.wan
