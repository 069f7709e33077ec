/-
  A letter is laid behind the others (by gen_wd3.py).
-/
import Derived.Test.YtbomlapmoiamgaaWd2
import Derived.StillTailTactics
set_option linter.unusedSimpArgs false
set_option linter.unusedVariables false
namespace Go.Proofs.Ytbomlapmoiamgaa.wan
open Go.ChangeShapes Go.WideShapes Go.ChangeAt Go.RowKit
open Go.Proofs.Ytbomlapmoiamgaa.opened Go.Proofs.Ytbomlapmoiamgaa.block Go.Proofs.Ytbomlapmoiamgaa.words Go.Proofs.Ytbomlapmoiamgaa.region
section
variable {B g : Nat} {W : Wn} {A : Option Addr} {c : Nat} {w : World}
set_option maxRecDepth 100000 in
set_option maxHeartbeats 4000000 in
theorem lay_any (h : WanE 94 34 B w g W A c) (G : GoodW W) (l : Lt) : Calls Try.prog 44 #[.pointer (some ⟨g, 0, none⟩), l.val] w fun e w' => e = .returned (.int .i64 (layE W)) ∧ WanP 94 34 B w' g (layV W l) ∧ WB 94 34 B w w' := by
  have hBw : B ≤ w.heap.size := (show WanP 94 34 B w g W from ⟨A, c, h⟩).le
  have B1 : Hid (Below w.heap.size w (w.alloc (.cells (cL l).toArray 34))) := Lib.hid (fresh1 w _)
  have HBX : Hid (Whole (w.alloc (.cells (cL l).toArray 34)) w.heap.size 34 (cL l).toArray) := Lib.hid (Whole.fresh w 34 _)
  have hE := h.below (fresh1 w (.cells (cL l).toArray 34))
  have HBN : Hid (¬ RowS g (.slice A W.L.length c) w.heap.size) := Lib.hid (by
    rintro (e | e)
    · have := h.cell.inside
      omega
    · obtain ⟨cur, hc⟩ := OwnG.shapeT h.row e
      have := (Array.getElem?_eq_some_iff.1 hc).1
      omega)
  have k1 : (w.alloc (.cells (cL l).toArray 34)).cell? ⟨g, 1, none⟩ = some (.slice A W.L.length c) := wan_l hE
  have f1 : (w.alloc (.cells (cL l).toArray 34)).frozen? ⟨g, 1, none⟩ = false := hE.cell.soft 1
  have HE := Lib.hid hE
  have HBw := Lib.hid hBw
  have HL : Hid (W.L.length ≤ 96) := Lib.hid G.l
  have HLE : Hid (layE W = if 96 ≤ W.L.length then 2 else 0) := Lib.hid rfl
  have HLV : Hid (layV W l = if 96 ≤ W.L.length then W else { W with L := W.L ++ [l] }) := Lib.hid rfl
  generalize layE W = le at HLE ⊢
  generalize layV W l = lv at HLV ⊢
  clear h G hE hBw
  go_enter Try.func44, Try.ntmps44
  go_upto_region 1 with fail
  change Code.wp _ _ _ _ (w.alloc (.cells (cL l).toArray 34))
  generalize w.alloc (.cells (cL l).toArray 34) = w0 at B1 HBX k1 f1 HE ⊢
  obtain ⟨gb, hgb⟩ : ∃ g, g = w.heap.size := ⟨_, rfl⟩
  rw [← hgb] at HBX HBN ⊢
  clear hgb
  by_cases h96 : 96 ≤ W.L.length
  · have he := HLE.out
    rw [if_pos h96] at he
    have hv := HLV.out
    rw [if_pos h96] at hv
    subst he
    have hv := hv.symm
    subst hv
    have h97 : (96 : Int) ≤ W.L.length := by omega
    have hll := HL.out
    have HP : Hid (WanP 94 34 B w0 g W) := Lib.hid ⟨A, c, HE.out⟩
    clear HE HLE HLV HBX HBN h96 HL
    generalize W.L.length = n at k1 h97 hll
    go_wp2_with fail
    go_ret
    exact ⟨rfl, HP.out, WB.of B1.out HBw.out⟩
  · have he := HLE.out
    rw [if_neg h96] at he
    have hv := HLV.out
    rw [if_neg h96] at hv
    subst he hv
    have h97 : (W.L.length : Int) < 96 := by omega
    have hl0 : (0 : Int) ≤ W.L.length := by omega
    clear HLE HLV h96
    go_upto_region 3 with fail
    clear k1 f1 h97 hl0
    obtain ⟨i0, hi0, hz0, hz1, hz2⟩ := infoP
    have OX := Lib.hid HE.out.cell
    have OR := Lib.hid HE.out.row
    have GN := Lib.hid (rowS_ne HE.out.row HE.out.cell (by decide))
    have GI := Lib.hid HE.out.cell.inside
    have HB0 : Hid (B ≤ w0.heap.size) := Lib.hid (Nat.le_trans HBw.out B1.out.size)
    refine region_full 21 [(7, 10)] [(7, 4), (10, 4), (10, 7)] (fun k => k == 4 || k == 7 || k == 10) (fun w7 => TurnS w0 w7 (RowS g (.slice A W.L.length c))) ?hR ?r0 [pdOne 0 (Is (.pointer (some ⟨g, 0, none⟩))), pdOne 1 (Is (.pointer (some ⟨g, 0, none⟩))), pdOne 2 (Is (.pointer (some ⟨g, 0, none⟩))), pdOne 3 (Is (.pointer (some ⟨g, 1, none⟩))), pdOne 4 (Is (.slice A W.L.length c)), pdOne 5 (Is (.agg (cL l).toArray)), pdOne 6 (LoneG 34 cL w0.heap.size l), pdOne 7 (NewG 34 3 cL B (W.L ++ [l])), pdOne 8 (Is (.pointer (some ⟨g, 0, none⟩))), pdOne 9 (Is (.pointer (some ⟨g, 1, none⟩))), pdOne 10 (LaidG 34 3 cL g 94 (fun uq => wanC W.n uq W.O W.c) B (W.L ++ [l]))] (fun k w7 => (k = 4 → Whole w7 g 94 ((fun uq => wanC W.n uq W.O W.c) (.slice A W.L.length c))) ∧ (k = 7 → OwnG 34 3 cL w7 B (.slice A W.L.length c) W.L) ∧ (k = 10 → ∃ u, Whole w7 g 94 ((fun uq => wanC W.n uq W.O W.c) u))) (by kernel_rfl) rfl (by kernel_rfl) (by kernel_rfl) (by kernel_rfl) (by kernel_rfl) ?keep ?hO ?h0 ?tell
    case hR => exact fun w7 w8 hb h1 => h1.later hb
    case r0 => exact TurnS.refl _ _
    case keep => exact ⟨keep_one (keeps_is _), keep_one (keeps_is _), keep_one (keeps_is _), keep_one (keeps_is _), keep_one (keeps_is _), keep_one (keeps_is _), keep_one (keeps_loneG _ _), keep_one (keeps_newG _ _), keep_one (keeps_is _), keep_one (keeps_is _), keep_one (keeps_laidG _ _ _ _ _), trivial⟩
    case hO => exact fun k w7 w8 hb ⟨h1, h2, h3⟩ => ⟨fun e => (h1 e).below hb (h1 e).inside, fun e => (h2 e).below hb, fun e => (h3 e).imp fun u hx => hx.below hb hx.inside⟩
    case h0 => exact fun k _ => ⟨fun _ => OX.out, fun _ => OR.out, fun _ => ⟨_, OX.out⟩⟩
    case tell =>
      intro fin hfin
      simp [lexPut, Act.put] at hfin
      simp only [TellF]
      refine ⟨⟨?_, ?_, ?_, ?_, ?_, ?_, ?_, ?_, ?_, ?_, ?_, trivial⟩, ?_⟩
      · intro v2 w7 hr hd
        refine yields_run (u := .pointer (some ⟨g, 0, none⟩)) (w' := w7) ?_ (Below.refl _ _) rfl
        unfold execOp
        simp [go_sem, Act.eval, Act.put]
      · intro v2 w7 hr hd
        refine yields_run (u := .pointer (some ⟨g, 0, none⟩)) (w' := w7) ?_ (Below.refl _ _) rfl
        unfold execOp
        simp [go_sem, Act.eval, Act.put]
      · intro v2 w7 hr hd
        have h1 : v2 1 = .pointer (some ⟨g, 0, none⟩) := hd 1 (by kernel_rfl)
        refine yields_run (u := .pointer (some ⟨g, 0, none⟩)) (w' := w7) ?_ (Below.refl _ _) rfl
        unfold execOp
        simp [go_sem, Act.eval, Act.put, h1]
      · intro v2 w7 hr hd
        have h2 : v2 2 = .pointer (some ⟨g, 0, none⟩) := hd 2 (by kernel_rfl)
        refine yields_run (u := .pointer (some ⟨g, 1, none⟩)) (w' := w7) ?_ (Below.refl _ _) rfl
        unfold execOp
        simp [go_sem, Act.eval, Act.put, h2]
      · intro v2 w7 hr ho hd
        have h3 : v2 3 = .pointer (some ⟨g, 1, none⟩) := hd 3 (by kernel_rfl)
        have hc : w7.cell? ⟨g, 1, none⟩ = some (.slice A W.L.length c) := (ho.1 trivial).read 1
        refine .inl (.inl ⟨.slice A W.L.length c, w7, ?_, hr, fun _ _ _ _ hu => hu, fun _ _ _ _ hu => hu, rfl⟩)
        unfold execOp
        simp [go_sem, Act.eval, Act.put, h3, hc]
      · intro v2 w7 hr hd
        have hbx : Whole w7 gb 34 (cL l).toArray := (hr.block gb HBX.out.inside HBN.out).trans HBX.out
        have e0 : w7.cell? ⟨gb, 0, none⟩ = some (.int .i64 l.f) := hbx.read 0
        have e1 : w7.cell? ⟨gb, 1, none⟩ = some (.int .i64 l.t) := hbx.read 1
        have e2 : w7.cell? ⟨gb, 2, none⟩ = some (sV l.s) := hbx.read 2
        refine yields_run (u := .agg (cL l).toArray) (w' := w7) ?_ (Below.refl _ _) rfl
        unfold execOp
        simp [go_sem, Act.eval, Act.put, e0, e1, e2, cL]
      · intro v2 w7 hr hd
        have h5 : v2 5 = .agg (cL l).toArray := hd 5 (by kernel_rfl)
        refine yields_run (u := .slice (some ⟨w7.heap.size, 0, none⟩) 1 1) (w' := w7.alloc (.cells (cL l).toArray 34)) ?_ (fresh1 w7 _) ⟨w7.heap.size, rfl, hr.size, Whole.fresh w7 _ _⟩
        unfold execOp
        simp [go_sem, Act.eval, Act.put, h5, cL]
      · intro v2 w7 hr ho hd
        have h4 : v2 4 = .slice A W.L.length c := hd 4 (by kernel_rfl)
        obtain ⟨gy, hz, hyl, hw⟩ : LoneG 34 cL w0.heap.size l (v2 6) w7 := hd 6 (by kernel_rfl)
        have ho7 := ho.2.1 trivial
        refine .inl (yields_append (.tmp 15) (.tmp 17) 92 rfl B 34 i0 (.agg #[.int .i64 0, .int .i64 0, sV []]) 3 32 Try.underlying92 hi0 hz0 hz1 hz2 rfl (by decide) (.slice A W.L.length c) W.L.length (W.L.flatMap cL) (by simp [Act.eval, Act.put, h4]) ho7 ⟨gy, 0, none⟩ 1 1 (cL l) (by simp [Act.eval, Act.put, hz]) rfl (whole_cells hw) (cellsL.one l) (by decide) (by have := HL.out; unfold maxLen; omega) (by have := HL.out; omega) (Nat.le_trans HB0.out hr.size) ?_)
        intro g8 cap8 w8 hown hgrow
        have hxn : some g ≠ (Value.slice A W.L.length c).ownBlock := GN.out
        refine ⟨hr.grown hgrow (fun j e => .inl (.inr e)), ?_, ?_, (show NewG 34 3 cL B (W.L ++ [l]) (.slice (some ⟨g8, 0, none⟩) (W.L.length + 1) cap8) w8 from ⟨g8, cap8, by simp, by unfold OwnG; simpa using hown⟩)⟩
        · intro k2 v' hk2 hc hu
          exact match k2, hk2, hc, hu with
            | 0, _, _, hu => hu
            | 1, _, _, hu => hu
            | 2, _, _, hu => hu
            | 3, _, _, hu => hu
            | 4, _, _, hu => hu
            | 5, _, _, hu => hu
            | 6, _, _, ⟨gy, h1, h2, h3⟩ => ⟨gy, h1, h2, h3.grown hgrow (OR.out.away h2)⟩
            | 7, hk2, _, _ => absurd rfl hk2
            | 8, _, _, hu => hu
            | 9, _, _, hu => hu
            | 10, _, hc, _ => absurd hc (by decide)
            | _ + 11, _, _, _ => trivial
        · intro k2 hk2 hn hc2 ⟨h1, h2, h3⟩
          exact ⟨fun e => by subst e; exact absurd hc2 (by decide), fun e => absurd e hk2, fun e => (h3 e).imp fun u hx => hx.grown hgrow hxn⟩
      · intro v2 w7 hr hd
        have h0 : v2 0 = .pointer (some ⟨g, 0, none⟩) := hd 0 (by kernel_rfl)
        refine yields_run (u := .pointer (some ⟨g, 0, none⟩)) (w' := w7) ?_ (Below.refl _ _) rfl
        unfold execOp
        simp [go_sem, Act.eval, Act.put, h0]
      · intro v2 w7 hr hd
        have h8 : v2 8 = .pointer (some ⟨g, 0, none⟩) := hd 8 (by kernel_rfl)
        refine yields_run (u := .pointer (some ⟨g, 1, none⟩)) (w' := w7) ?_ (Below.refl _ _) rfl
        unfold execOp
        simp [go_sem, Act.eval, Act.put, h8]
      · intro v2 w7 hr ho hd
        have h9 : v2 9 = .pointer (some ⟨g, 1, none⟩) := hd 9 (by kernel_rfl)
        obtain ⟨g', c2, h7, hn7⟩ : NewG 34 3 cL B (W.L ++ [l]) (v2 7) w7 := hd 7 (by kernel_rfl)
        obtain ⟨uq, hu0⟩ := ho.2.2 trivial
        rw [h7] at hn7
        have hc : w7.cell? ⟨g, 1, none⟩ = some uq := hu0.read 1
        have hf : w7.frozen? ⟨g, 1, none⟩ = false := hu0.soft 1
        have hg : w7.grownBy (w7.setCell ⟨g, 1, none⟩ (.slice (some ⟨g', 0, none⟩) (W.L ++ [l]).length c2)) (some g) := only_store (only_of_below (Below.refl _ w7) (some g)) _
        refine .inr ⟨w7.setCell ⟨g, 1, none⟩ (.slice (some ⟨g', 0, none⟩) (W.L ++ [l]).length c2), ?_, hr.grown hg (fun j e => .inl (.inl (by cases e; rfl))), ?_, ?_, some ⟨g', 0, none⟩, c2, hu0.store 1 _, hn7.past hg (fun k e => by cases e; exact rowS_ne hn7 hu0 (by decide))⟩
        · unfold execOp
          simp [go_sem, Act.eval, Act.put, h9, h7, hc, hf]
        · intro k2 v' hk2 hc hu
          exact match k2, hk2, hc, hu with
            | 0, _, _, hu => hu
            | 1, _, _, hu => hu
            | 2, _, _, hu => hu
            | 3, _, _, hu => hu
            | 4, _, _, hu => hu
            | 5, _, _, hu => hu
            | 6, _, _, ⟨gy, h1, h2, h3⟩ => ⟨gy, h1, h2, h3.grown hg (by have := GI.out; intro e; cases e; omega)⟩
            | 7, _, _, ⟨g', c', h1, h2⟩ => ⟨g', c', h1, h2.past hg (fun k e => by cases e; exact rowS_ne h2 hu0 (by decide))⟩
            | 8, _, _, hu => hu
            | 9, _, _, hu => hu
            | 10, hk2, _, _ => absurd rfl hk2
            | _ + 11, _, _, _ => trivial
        · intro k2 hk2 hn hc2 ⟨h1, h2, h3⟩
          exact ⟨fun e => by subst e; exact absurd hc2 (by decide), fun e => by subst e; exact absurd hc2 (by decide), fun e => absurd e hk2⟩
      · intro v2 w7 hr hv
        obtain ⟨D, c2, hl1, hl2⟩ : LaidG 34 3 cL g 94 (fun uq => wanC W.n uq W.O W.c) B (W.L ++ [l]) (v2 10) w7 := hv 10 (by decide)
        have X10 := Lib.hid hl1
        have O10 := Lib.hid hl2
        have R10 := Lib.hid hr
        rw [hfin]
        clear hfin hv hl1 hl2 hr
        generalize v2 7 = v7
        generalize v2 6 = v6
        have WE := Lib.hid ((WB.of B1.out HBw.out).trans (WB.laid OX.out OR.out HB0.out HE.out.low R10.out))
        have PE : Hid (WanP 94 34 B w7 g { W with L := W.L ++ [l] }) := Lib.hid ⟨D, c2, ⟨X10.out, O10.out, HE.out.low⟩⟩
        clear X10 O10 R10 OX OR GN GI HB0 HE HBX HBN
        go_wp2_with fail
        go_ret
        exact ⟨rfl, PE.out, WE.out⟩
end
end Go.Proofs.Ytbomlapmoiamgaa.wan
