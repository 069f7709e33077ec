/-
  The laws' own copy of the program's graph to the document's kind (by gen_to.py).
  The walk of GraphBack (by gen_gwb.py).
  The walk of GraphParses (by gen_gwp.py).
-/
import Derived.Test.YtpblpjopinllcaaGreatDoorJOg
import Derived.Test.YtpblpjopinllcaaGreatDoorJGgr
import Derived.Test.YtpblpjopinllcaaGreatDoorJGflR
import Derived.Test.YtpblpjopinllcaaGreatDoorJRt3
import Derived.Test.YtpblpjopinllcaaGreatDoorJGr4l
namespace Go.Proofs.YtpblpjopinllcaaGreatDoor.graph
open Go.ChangeShapes Go.WideShapes Go.ChangeAt Go.RowKit
open Go.Proofs.YtpblpjopinllcaaGreatDoor.opened Go.Proofs.YtpblpjopinllcaaGreatDoor.block Go.Proofs.YtpblpjopinllcaaGreatDoor.words Go.Proofs.YtpblpjopinllcaaGreatDoor.region
set_option maxRecDepth 100000 in
set_option maxHeartbeats 8000000 in
theorem fromG_any (v : Gv) (g : Gr) (lc : g.c.length ≤ 100000) (ll : g.l.length ≤ 100000) (lo : g.o.length ≤ 100000) (lh : g.h.length ≤ 100000) (w : World) (h : Lies4 w v g) :
    Calls Tryz.prog 18 #[gV v g] w fun e w' => ∃ v' : Gv, e = .returned (gV v' g) ∧ Lies4 w' v' g ∧ Rooms v' g ∧ Below w.heap.size w w' := by
  obtain ⟨va, vb, vd, ve, vi, vj, vk, vm⟩ := v
  unfold gV
  dsimp only
  have H := Lib.hid h
  clear h
  obtain ⟨i0, hi0, hz00, hz01, hz02⟩ := infoD_ref09_Cl
  obtain ⟨i1, hi1, hz10, hz11, hz12⟩ := infoD_ref09_Lo
  obtain ⟨i2, hi2, hz20, hz21, hz22⟩ := infoD_ref09_Oq
  obtain ⟨i3, hi3, hz30, hz31, hz32⟩ := infoD_ref09_Ch
  go_enter Tryz.func18, Tryz.ntmps18
  go_upto_region 2 with fail
  change Code.wp _ _ _ _ (((w.alloc (.cells #[.slice va g.c.length vi, .slice vb g.l.length vj, .slice vd g.o.length vk, .slice ve g.h.length vm] 27)).alloc (.cells #[.slice none 0 0, .slice none 0 0, .slice none 0 0, .slice none 0 0] 36)).alloc (.cells #[.slice none 0 0, .slice none 0 0, .slice none 0 0, .slice none 0 0] 36))
  have b1 := fresh1 w (.cells #[.slice va g.c.length vi, .slice vb g.l.length vj, .slice vd g.o.length vk, .slice ve g.h.length vm] 27)
  have OG := Whole.fresh w 27 #[.slice va g.c.length vi, .slice vb g.l.length vj, .slice vd g.o.length vk, .slice ve g.h.length vm]
  have e1 : (w.alloc (.cells #[.slice va g.c.length vi, .slice vb g.l.length vj, .slice vd g.o.length vk, .slice ve g.h.length vm] 27)).heap.size = w.heap.size + 1 := by rw [size_alloc]
  generalize w.alloc (.cells #[.slice va g.c.length vi, .slice vb g.l.length vj, .slice vd g.o.length vk, .slice ve g.h.length vm] 27) = w1 at b1 OG e1 ⊢
  have b2 := fresh1 w1 (.cells #[.slice none 0 0, .slice none 0 0, .slice none 0 0, .slice none 0 0] 36)
  have OR := Whole.fresh w1 36 #[.slice none 0 0, .slice none 0 0, .slice none 0 0, .slice none 0 0]
  rw [e1] at OR
  have OG2 := OG.below b2 OG.inside
  have e2 : (w1.alloc (.cells #[.slice none 0 0, .slice none 0 0, .slice none 0 0, .slice none 0 0] 36)).heap.size = w.heap.size + 1 + 1 := by rw [size_alloc, e1]
  generalize w1.alloc (.cells #[.slice none 0 0, .slice none 0 0, .slice none 0 0, .slice none 0 0] 36) = w2 at b2 OR OG2 e2 ⊢
  have b3 := fresh1 w2 (.cells #[.slice none 0 0, .slice none 0 0, .slice none 0 0, .slice none 0 0] 36)
  have OX := Whole.fresh w2 36 #[.slice none 0 0, .slice none 0 0, .slice none 0 0, .slice none 0 0]
  rw [e2] at OX
  have OG3 := OG2.below b3 OG2.inside
  have OR3 := OR.below b3 OR.inside
  generalize w2.alloc (.cells #[.slice none 0 0, .slice none 0 0, .slice none 0 0, .slice none 0 0] 36) = w4 at b3 OX OG3 OR3 ⊢
  have B4 := Lib.hid (b1.trans ((b2.mono b1.size).trans (b3.mono (Nat.le_trans b1.size b2.size))))
  have hgx4 := OX.inside
  clear OG OG2 OR b1 b2 b3 e1 e2
  obtain ⟨gg, hgg⟩ : ∃ gg, w.heap.size = gg := ⟨_, rfl⟩
  have hg0 := Nat.le_of_eq hgg
  rw [hgg] at OG3 OR3 OX hgx4 ⊢
  obtain ⟨gr, hgr'⟩ : ∃ gr, gg + 1 = gr := ⟨_, rfl⟩
  have hgr : gg < gr := by omega
  rw [hgr'] at OR3 OX hgx4 ⊢
  obtain ⟨gx, hgx'⟩ : ∃ gx, gr + 1 = gx := ⟨_, rfl⟩
  have hrx : gr < gx := by omega
  rw [hgx'] at OX hgx4 ⊢
  clear hgg hgr' hgx'
  replace OG3 := Lib.hid OG3
  replace OR3 := Lib.hid OR3
  have GX := Lib.hid hgx4
  have hGR := Lib.hid (And.intro hgr hrx)
  have hG0 := Lib.hid hg0
  have X0 := Lib.hid OX
  clear OX hgx4 hgr hrx hg0
  go_wp2_with fail
  go_loopw [4] (fun a wr => ∃ (i : Nat) (N : List Cl) (A0 : Option Addr) (C0 : Nat), i ≤ g.c.length ∧ Hid (N.length = i) ∧ a = .int .i64 i ∧ Hid (N = g.c.take i) ∧ Hid (Whole wr gx 36 #[(.slice A0 i C0), .slice none 0 0, .slice none 0 0, .slice none 0 0]) ∧ Hid (OwnG 137 2 cCl wr w4.heap.size (.slice A0 i C0) N) ∧ Hid (w4.grownBy wr (some gx))) (fun a _ => (g.c.length - intOf a).toNat)
  case atStart => exact ⟨0, [], none, 0, by omega, Lib.hid rfl, rfl, Lib.hid rfl, X0, Lib.hid (ownG_nil _ _), Lib.hid (World.grownBy.refl _ _)⟩
  case round =>
    obtain ⟨i, N, A0, C0, hil, hNi, rfl, HN, X9, HO9, G9⟩ := hrel
    have S9 := Lib.hid G9.out.size
    have k0 : wr.cell? ⟨gg, 0, none⟩ = some (.slice va g.c.length vi) := (OG3.out.grown G9.out (by have := hGR.out; simp; omega)).read 0
    by_cases hin : i = g.c.length
    case neg =>
      have hlt : i < g.c.length := by omega
      obtain ⟨x, hx⟩ : ∃ x, g.c[i]? = some x := ⟨g.c[i], List.getElem?_eq_getElem hlt⟩
      obtain ⟨b1, o1, hA, hb1, c0, c1⟩ := at_cl H.out.c hx
      change va = _ at hA
      subst hA
      have HN2 : Hid (N ++ [x] = g.c.take (i + 1)) := Lib.hid (by rw [List.take_add_one, hx, HN.out]; rfl)
      have BW : ∀ w7, w4.grownBy w7 (some gx) → Below w.heap.size w w7 := fun w7 h7 => below_only B4.out h7 B4.out.size (by have := hGR.out; have := hG0.out; omega)
      have SR : ∀ w7, w4.grownBy w7 (some gx) → w7.cell? ⟨gg, 0, none⟩ = some (.slice (some ⟨b1, o1, none⟩) g.c.length vi) := fun w7 h7 => (OG3.out.grown h7 (by have := hGR.out; simp; omega)).read 0
      have E0 : ∀ w7, w4.grownBy w7 (some gx) → w7.cell? ⟨b1, o1 + i * 2, none⟩ = some (sV x.n) := fun w7 h7 => ((BW w7 h7).cell (p := ⟨b1, o1 + i * 2, none⟩) hb1).trans c0
      have E1 : ∀ w7, w4.grownBy w7 (some gx) → w7.cell? ⟨b1, o1 + i * 2 + 1, none⟩ = some (.int .i64 x.w) := fun w7 h7 => ((BW w7 h7).cell (p := ⟨b1, o1 + i * 2 + 1, none⟩) hb1).trans c1
      clear c0 c1 hx
      go_upto_region 5 with fail
      clear k0
      refine region_full 121 [(16, 18)] [(16, 1), (18, 1), (18, 16)] (fun k => k == 1 || k == 16 || k == 18) (fun w7 => w4.grownBy w7 (some gx) ∧ wr.heap.size ≤ w7.heap.size) ?hR ?r0 [pdOne 0 (Is (.pointer (some ⟨gx, 0, none⟩))), pdOne 1 (Is (.slice A0 i C0)), pdOne 2 (Is (.pointer (some ⟨gg, 0, none⟩))), pdOne 3 (Is (.slice (some ⟨b1, o1, none⟩) g.c.length vi)), pdOne 4 (Is (.int .i64 i)), pdOne 5 (Is (.pointer (some ⟨b1, o1 + i * 2, none⟩))), pdOne 6 (Is (.pointer (some ⟨b1, o1 + i * 2, none⟩))), pdOne 7 (Is (sV x.n)), pdOne 8 (Is (.pointer (some ⟨gg, 0, none⟩))), pdOne 9 (Is (.slice (some ⟨b1, o1, none⟩) g.c.length vi)), pdOne 10 (Is (.int .i64 i)), pdOne 11 (Is (.pointer (some ⟨b1, o1 + i * 2, none⟩))), pdOne 12 (Is (.pointer (some ⟨b1, o1 + i * 2 + 1, none⟩))), pdOne 13 (Is (.int .i64 x.w)), pdOne 14 (Is (.agg (cCl x).toArray)), pdOne 15 (LoneG 137 cCl wr.heap.size x), pdOne 16 (NewG 137 2 cCl w4.heap.size (N ++ [x])), pdOne 17 (Is (.pointer (some ⟨gx, 0, none⟩))), pdOne 18 (LaidG 137 2 cCl gx 36 (fun u => #[u, .slice none 0 0, .slice none 0 0, .slice none 0 0]) w4.heap.size (N ++ [x]))] (fun k w7 => (k = 1 → Whole w7 gx 36 ((fun u => #[u, .slice none 0 0, .slice none 0 0, .slice none 0 0]) (.slice A0 i C0))) ∧ (k = 16 → OwnG 137 2 cCl w7 w4.heap.size (.slice A0 i C0) N) ∧ (k = 18 → ∃ u, Whole w7 gx 36 ((fun u => #[u, .slice none 0 0, .slice none 0 0, .slice none 0 0]) u))) (by kernel_rfl) rfl (by kernel_rfl) (by kernel_rfl) (by kernel_rfl) (by kernel_rfl) ?keep ?hO ?h0 ?tell
      case hR => exact fun w7 w8 hb ⟨h1, h2⟩ => ⟨grown_own h1 (grown_below hb (row := none)) (fun j e => by cases e), Nat.le_trans h2 hb.size⟩
      case r0 => exact ⟨G9.out, Nat.le_refl _⟩
      case keep => exact ⟨keep_one (keeps_is _), keep_one (keeps_is _), keep_one (keeps_is _), keep_one (keeps_is _), keep_one (keeps_is _), keep_one (keeps_is _), keep_one (keeps_is _), keep_one (keeps_is _), keep_one (keeps_is _), keep_one (keeps_is _), keep_one (keeps_is _), keep_one (keeps_is _), keep_one (keeps_is _), keep_one (keeps_is _), keep_one (keeps_is _), keep_one (keeps_loneG _ _), keep_one (keeps_newG _ _), keep_one (keeps_is _), keep_one (keeps_laidG _ _ _ _ _), trivial⟩
      case hO => exact fun k w7 w8 hb ⟨h1, h2, h3⟩ => ⟨fun e => (h1 e).below hb (h1 e).inside, fun e => (h2 e).below hb, fun e => (h3 e).imp fun u hx => hx.below hb hx.inside⟩
      case h0 => exact fun k _ => ⟨fun _ => X9.out, fun _ => HO9.out, fun _ => ⟨_, X9.out⟩⟩
      case tell =>
        intro fin hfin
        simp [lexPut, Act.put] at hfin
        simp only [TellF]
        refine ⟨⟨?_, ?_, ?_, ?_, ?_, ?_, ?_, ?_, ?_, ?_, ?_, ?_, ?_, ?_, ?_, ?_, ?_, ?_, ?_, trivial⟩, ?_⟩
        · intro v2 w7 hr hd
          refine yields_run (u := .pointer (some ⟨gx, 0, none⟩)) (w' := w7) ?_ (Below.refl _ _) rfl
          unfold execOp
          simp [go_sem, Act.eval]
        · intro v2 w7 hr ho hd
          have h0 : v2 0 = _ := hd 0 (by kernel_rfl)
          have hc : w7.cell? ⟨gx, 0, none⟩ = some (.slice A0 i C0) := (ho.1 trivial).read 0
          refine .inl (.inl ⟨.slice A0 i C0, w7, ?_, hr, fun _ _ _ _ hu => hu, fun _ _ _ _ hu => hu, rfl⟩)
          unfold execOp
          simp [go_sem, Act.eval, Act.put, h0, hc]
        · intro v2 w7 hr hd
          refine yields_run (u := .pointer (some ⟨gg, 0, none⟩)) (w' := w7) ?_ (Below.refl _ _) rfl
          unfold execOp
          simp [go_sem, Act.eval, Act.put]
        · intro v2 w7 hr hd
          have h2 : v2 2 = _ := hd 2 (by kernel_rfl)
          have hc := SR w7 hr.1
          refine yields_run (u := .slice (some ⟨b1, o1, none⟩) g.c.length vi) (w' := w7) ?_ (Below.refl _ _) rfl
          unfold execOp
          simp [go_sem, Act.eval, Act.put, h2, hc]
        · intro v2 w7 hr hd
          refine yields_run (u := .int .i64 i) (w' := w7) ?_ (Below.refl _ _) rfl
          unfold execOp
          simp [go_sem, Act.eval, Act.put]
        · intro v2 w7 hr hd
          have h3 : v2 3 = _ := hd 3 (by kernel_rfl)
          have h4 : v2 4 = _ := hd 4 (by kernel_rfl)
          exact yields_index (b := b1) (off := o1) (n := g.c.length) (c := vi) (i := i) (m := 2) rfl (by simp [Act.eval, Act.put, h3]) (by simp [Act.eval, Act.put, h4]) hlt Tryz.underlying22 (by intro w; simp [Tryz.sizeOf143])
        · intro v2 w7 hr hd
          have h5 : v2 5 = _ := hd 5 (by kernel_rfl)
          refine yields_run (u := .pointer (some ⟨b1, o1 + i * 2, none⟩)) (w' := w7) ?_ (Below.refl _ _) rfl
          unfold execOp
          simp [go_sem, Act.eval, Act.put, h5]
        · intro v2 w7 hr hd
          have h6 : v2 6 = _ := hd 6 (by kernel_rfl)
          have hc := E0 w7 hr.1
          refine yields_run (u := sV x.n) (w' := w7) ?_ (Below.refl _ _) rfl
          unfold execOp
          simp [go_sem, Act.eval, Act.put, h6, hc]
        · intro v2 w7 hr hd
          refine yields_run (u := .pointer (some ⟨gg, 0, none⟩)) (w' := w7) ?_ (Below.refl _ _) rfl
          unfold execOp
          simp [go_sem, Act.eval, Act.put]
        · intro v2 w7 hr hd
          have h8 : v2 8 = _ := hd 8 (by kernel_rfl)
          have hc := SR w7 hr.1
          refine yields_run (u := .slice (some ⟨b1, o1, none⟩) g.c.length vi) (w' := w7) ?_ (Below.refl _ _) rfl
          unfold execOp
          simp [go_sem, Act.eval, Act.put, h8, hc]
        · intro v2 w7 hr hd
          refine yields_run (u := .int .i64 i) (w' := w7) ?_ (Below.refl _ _) rfl
          unfold execOp
          simp [go_sem, Act.eval, Act.put]
        · intro v2 w7 hr hd
          have h9 : v2 9 = _ := hd 9 (by kernel_rfl)
          have h10 : v2 10 = _ := hd 10 (by kernel_rfl)
          exact yields_index (b := b1) (off := o1) (n := g.c.length) (c := vi) (i := i) (m := 2) rfl (by simp [Act.eval, Act.put, h9]) (by simp [Act.eval, Act.put, h10]) hlt Tryz.underlying22 (by intro w; simp [Tryz.sizeOf143])
        · intro v2 w7 hr hd
          have h11 : v2 11 = _ := hd 11 (by kernel_rfl)
          refine yields_run (u := .pointer (some ⟨b1, o1 + i * 2 + 1, none⟩)) (w' := w7) ?_ (Below.refl _ _) rfl
          unfold execOp
          simp [go_sem, Act.eval, Act.put, h11]
        · intro v2 w7 hr hd
          have h12 : v2 12 = _ := hd 12 (by kernel_rfl)
          have hc := E1 w7 hr.1
          refine yields_run (u := .int .i64 x.w) (w' := w7) ?_ (Below.refl _ _) rfl
          unfold execOp
          simp [go_sem, Act.eval, Act.put, h12, hc]
        · intro v2 w7 hr hd
          have h7 : v2 7 = _ := hd 7 (by kernel_rfl)
          have h13 : v2 13 = _ := hd 13 (by kernel_rfl)
          refine yields_run (u := .agg (cCl x).toArray) (w' := w7) ?_ (Below.refl _ _) rfl
          unfold execOp
          simp [go_sem, Act.eval, Act.put, h7, h13, cCl]
        · intro v2 w7 hr hd
          have h14 : v2 14 = _ := hd 14 (by kernel_rfl)
          refine yields_run (u := .slice (some ⟨w7.heap.size, 0, none⟩) 1 1) (w' := w7.alloc (.cells (cCl x).toArray 137)) ?_ (fresh1 w7 _) ⟨w7.heap.size, rfl, hr.2, Whole.fresh w7 _ _⟩
          unfold execOp
          simp [go_sem, Act.eval, Act.put, h14, cCl]
        · intro v2 w7 hr ho hd
          have h1 : v2 1 = _ := hd 1 (by kernel_rfl)
          obtain ⟨gy, hz, hyl, hw⟩ : LoneG 137 cCl wr.heap.size x (v2 15) w7 := hd 15 (by kernel_rfl)
          have ho7 := ho.2.1 trivial
          refine .inl (yields_append (.tmp 17) (.tmp 31) 31 rfl w4.heap.size 137 i0 (.agg #[sV [], .int .i64 0]) 2 24 Tryz.underlying31 hi0 hz00 hz01 hz02 rfl (by decide) (.slice A0 i C0) N.length (N.flatMap cCl) (by simp [Act.eval, Act.put, h1]) ho7 ⟨gy, 0, none⟩ 1 1 (cCl x) (by simp [Act.eval, Act.put, hz]) rfl (whole_cells hw) (CELLS_cCl.one x) (by decide) (by have := hNi.out; unfold maxLen; omega) (by have := hNi.out; omega) (by have := hr.2; have := S9.out; omega) ?_)
          intro g8 cap8 w8 hown hgrow
          have hab : ∀ j, (Value.slice A0 i C0).ownBlock = some j → w4.heap.size ≤ j := fun j e => OwnG.above ho7 e
          have hxn : some gx ≠ (Value.slice A0 i C0).ownBlock := fun e => by have := hab gx e.symm; have := GX.out; omega
          refine ⟨⟨grown_own hr.1 hgrow (fun j e => hab j e), Nat.le_trans hr.2 hgrow.size⟩, ?_, ?_, (show NewG 137 2 cCl w4.heap.size (N ++ [x]) (.slice (some ⟨g8, 0, none⟩) (N.length + 1) cap8) w8 from ⟨g8, cap8, by simp, by unfold OwnG; simpa using hown⟩)⟩
          · intro k2 v' hk2 hc hu
            exact match k2, hk2, hc, hu with
              | 0, _, _, hu => hu
              | 1, _, _, hu => hu
              | 2, _, _, hu => hu
              | 3, _, _, hu => hu
              | 4, _, _, hu => hu
              | 5, _, _, hu => hu
              | 6, _, _, hu => hu
              | 7, _, _, hu => hu
              | 8, _, _, hu => hu
              | 9, _, _, hu => hu
              | 10, _, _, hu => hu
              | 11, _, _, hu => hu
              | 12, _, _, hu => hu
              | 13, _, _, hu => hu
              | 14, _, _, hu => hu
              | 15, _, _, ⟨gy, h1, h2, h3⟩ => ⟨gy, h1, h2, h3.grown hgrow (HO9.out.away h2)⟩
              | 16, hk2, _, _ => absurd rfl hk2
              | 17, _, _, hu => hu
              | 18, _, hc, _ => absurd hc (by decide)
              | _ + 19, _, _, _ => trivial
          · intro k2 hk2 hn hc2 ⟨h1, h2, h3⟩
            exact ⟨fun e => by subst e; exact absurd hc2 (by decide), fun e => absurd e hk2, fun e => (h3 e).imp fun u hx => hx.grown hgrow hxn⟩
        · intro v2 w7 hr hd
          refine yields_run (u := .pointer (some ⟨gx, 0, none⟩)) (w' := w7) ?_ (Below.refl _ _) rfl
          unfold execOp
          simp [go_sem, Act.eval, Act.put]
        · intro v2 w7 hr ho hd
          have h17 : v2 17 = _ := hd 17 (by kernel_rfl)
          obtain ⟨g', c2, h7, hn7⟩ : NewG 137 2 cCl w4.heap.size (N ++ [x]) (v2 16) w7 := hd 16 (by kernel_rfl)
          obtain ⟨u, hu⟩ := ho.2.2 trivial
          rw [h7] at hn7
          have hc : w7.cell? ⟨gx, 0, none⟩ = some u := hu.read 0
          have hf : w7.frozen? ⟨gx, 0, none⟩ = false := hu.soft 0
          have hg : w7.grownBy (w7.setCell ⟨gx, 0, none⟩ (.slice (some ⟨g', 0, none⟩) (N ++ [x]).length c2)) (some gx) := only_store (only_of_below (Below.refl _ w7) (some gx)) _
          refine .inr ⟨w7.setCell ⟨gx, 0, none⟩ (.slice (some ⟨g', 0, none⟩) (N ++ [x]).length c2), ?_, ⟨only_trans hr.1 hg, Nat.le_trans hr.2 hg.size⟩, ?_, ?_, some ⟨g', 0, none⟩, c2, hu.store 0 _, hn7.keptG hg GX.out⟩
          · unfold execOp
            simp [go_sem, Act.eval, Act.put, h17, h7, hc, hf]
          · intro k2 v' hk2 hc hu
            exact match k2, hk2, hc, hu with
              | 0, _, _, hu => hu
              | 1, _, _, hu => hu
              | 2, _, _, hu => hu
              | 3, _, _, hu => hu
              | 4, _, _, hu => hu
              | 5, _, _, hu => hu
              | 6, _, _, hu => hu
              | 7, _, _, hu => hu
              | 8, _, _, hu => hu
              | 9, _, _, hu => hu
              | 10, _, _, hu => hu
              | 11, _, _, hu => hu
              | 12, _, _, hu => hu
              | 13, _, _, hu => hu
              | 14, _, _, hu => hu
              | 15, _, _, ⟨gy, h1, h2, h3⟩ => ⟨gy, h1, h2, h3.grown hg (by have := GX.out; have := S9.out; simp; omega)⟩
              | 16, _, _, ⟨g', c', h1, h2⟩ => ⟨g', c', h1, h2.keptG hg GX.out⟩
              | 17, _, _, hu => hu
              | 18, hk2, _, _ => absurd rfl hk2
              | _ + 19, _, _, _ => trivial
          · intro k2 hk2 hn hc2 ⟨h1, h2, h3⟩
            exact ⟨fun e => by subst e; exact absurd hc2 (by decide), fun e => by subst e; exact absurd hc2 (by decide), fun e => absurd e hk2⟩
        · intro v2 w7 hr hv
          obtain ⟨D, c2, hl1, hl2⟩ : LaidG 137 2 cCl gx 36 (fun u => #[u, .slice none 0 0, .slice none 0 0, .slice none 0 0]) w4.heap.size (N ++ [x]) (v2 18) w7 := hv 18 (by decide)
          have X10 := Lib.hid hl1
          have O10 := Lib.hid hl2
          have R10 := Lib.hid hr
          rw [hfin]
          clear hfin hv hl1 hl2 hr
          generalize v2 16 = v7
          generalize v2 15 = v6
          go_wp2_with fail
          go_roundw
          case rel => exact ⟨i + 1, N ++ [x], D, c2, hlt, Lib.hid (by simp [hNi.out]), by go_num, HN2, (by have := X10.out; rw [List.length_append, hNi.out] at this; exact Lib.hid this), (by have := O10.out; rw [List.length_append, hNi.out] at this; exact Lib.hid this), Lib.hid R10.out.1⟩
          case measure => simp [intOf]; omega
    obtain rfl : N = g.c := by rw [HN.out, hin, List.take_length]
    subst hin
    clear hNi HN
    have hlt : ¬ ((g.c.length : Int) < g.c.length) := by omega
    have RM0 := Lib.hid HO9.out.room
    have LG0 := Lib.hid (OwnG.lg CELLS_cCl HO9.out)
    have GP0 : Hid (∀ a, A0 = some a → gx < a.block) := Lib.hid fun a e => by have := HO9.out.gap a e; have := GX.out; omega
    go_upto_region 6 with fail
    replace OR3 := Lib.hid (OR3.out.grown G9.out (by have := hGR.out; simp; omega))
    replace OG3 := Lib.hid (OG3.out.grown G9.out (by have := hGR.out; simp; omega))
    replace B4 := Lib.hid (below_only B4.out G9.out B4.out.size (by have := hGR.out; have := hG0.out; omega))
    replace GX := Lib.hid X9.out.inside
    replace X0 := X9
    clear X9 G9 S9 HO9 k0 hlt
    obtain ⟨u1, hnw⟩ : ∃ u1, u1 = wr := ⟨_, rfl⟩
    subst hnw
    go_wp2_with fail
    go_loopw [5] (fun a wr => ∃ (i : Nat) (N : List Lo) (A1 : Option Addr) (C1 : Nat), i ≤ g.l.length ∧ Hid (N.length = i) ∧ a = .int .i64 i ∧ Hid (N = g.l.take i) ∧ Hid (Whole wr gx 36 #[.slice A0 g.c.length C0, (.slice A1 i C1), .slice none 0 0, .slice none 0 0]) ∧ Hid (OwnG 139 3 cLo wr u1.heap.size (.slice A1 i C1) N) ∧ Hid (u1.grownBy wr (some gx))) (fun a _ => (g.l.length - intOf a).toNat)
    case atStart => exact ⟨0, [], none, 0, by omega, Lib.hid rfl, rfl, Lib.hid rfl, X0, Lib.hid (ownG_nil _ _), Lib.hid (World.grownBy.refl _ _)⟩
    case round =>
      obtain ⟨i, N, A1, C1, hil, hNi, rfl, HN, X9, HO9, G9⟩ := hrel
      have S9 := Lib.hid G9.out.size
      have k0 : wr.cell? ⟨gg, 1, none⟩ = some (.slice vb g.l.length vj) := (OG3.out.grown G9.out (by have := hGR.out; simp; omega)).read 1
      by_cases hin : i = g.l.length
      case neg =>
        have hlt : i < g.l.length := by omega
        obtain ⟨x, hx⟩ : ∃ x, g.l[i]? = some x := ⟨g.l[i], List.getElem?_eq_getElem hlt⟩
        obtain ⟨b1, o1, hA, hb1, c0, c1, c2⟩ := at_lo H.out.l hx
        change vb = _ at hA
        subst hA
        have HN2 : Hid (N ++ [x] = g.l.take (i + 1)) := Lib.hid (by rw [List.take_add_one, hx, HN.out]; rfl)
        have BW : ∀ w7, u1.grownBy w7 (some gx) → Below w.heap.size w w7 := fun w7 h7 => below_only B4.out h7 B4.out.size (by have := hGR.out; have := hG0.out; omega)
        have SR : ∀ w7, u1.grownBy w7 (some gx) → w7.cell? ⟨gg, 1, none⟩ = some (.slice (some ⟨b1, o1, none⟩) g.l.length vj) := fun w7 h7 => (OG3.out.grown h7 (by have := hGR.out; simp; omega)).read 1
        have E0 : ∀ w7, u1.grownBy w7 (some gx) → w7.cell? ⟨b1, o1 + i * 3, none⟩ = some (sV x.n) := fun w7 h7 => ((BW w7 h7).cell (p := ⟨b1, o1 + i * 3, none⟩) hb1).trans c0
        have E1 : ∀ w7, u1.grownBy w7 (some gx) → w7.cell? ⟨b1, o1 + i * 3 + 1, none⟩ = some (.int .i64 x.u) := fun w7 h7 => ((BW w7 h7).cell (p := ⟨b1, o1 + i * 3 + 1, none⟩) hb1).trans c1
        have E2 : ∀ w7, u1.grownBy w7 (some gx) → w7.cell? ⟨b1, o1 + i * 3 + 2, none⟩ = some (.int .i64 x.r) := fun w7 h7 => ((BW w7 h7).cell (p := ⟨b1, o1 + i * 3 + 2, none⟩) hb1).trans c2
        clear c0 c1 c2 hx
        go_upto_region 9 with fail
        clear k0
        refine region_full 121 [(22, 24)] [(22, 1), (24, 1), (24, 22)] (fun k => k == 1 || k == 22 || k == 24) (fun w7 => u1.grownBy w7 (some gx) ∧ wr.heap.size ≤ w7.heap.size) ?hR ?r0 [pdOne 0 (Is (.pointer (some ⟨gx, 1, none⟩))), pdOne 1 (Is (.slice A1 i C1)), pdOne 2 (Is (.pointer (some ⟨gg, 1, none⟩))), pdOne 3 (Is (.slice (some ⟨b1, o1, none⟩) g.l.length vj)), pdOne 4 (Is (.int .i64 i)), pdOne 5 (Is (.pointer (some ⟨b1, o1 + i * 3, none⟩))), pdOne 6 (Is (.pointer (some ⟨b1, o1 + i * 3, none⟩))), pdOne 7 (Is (sV x.n)), pdOne 8 (Is (.pointer (some ⟨gg, 1, none⟩))), pdOne 9 (Is (.slice (some ⟨b1, o1, none⟩) g.l.length vj)), pdOne 10 (Is (.int .i64 i)), pdOne 11 (Is (.pointer (some ⟨b1, o1 + i * 3, none⟩))), pdOne 12 (Is (.pointer (some ⟨b1, o1 + i * 3 + 1, none⟩))), pdOne 13 (Is (.int .i64 x.u)), pdOne 14 (Is (.pointer (some ⟨gg, 1, none⟩))), pdOne 15 (Is (.slice (some ⟨b1, o1, none⟩) g.l.length vj)), pdOne 16 (Is (.int .i64 i)), pdOne 17 (Is (.pointer (some ⟨b1, o1 + i * 3, none⟩))), pdOne 18 (Is (.pointer (some ⟨b1, o1 + i * 3 + 2, none⟩))), pdOne 19 (Is (.int .i64 x.r)), pdOne 20 (Is (.agg (cLo x).toArray)), pdOne 21 (LoneG 139 cLo wr.heap.size x), pdOne 22 (NewG 139 3 cLo u1.heap.size (N ++ [x])), pdOne 23 (Is (.pointer (some ⟨gx, 1, none⟩))), pdOne 24 (LaidG 139 3 cLo gx 36 (fun u => #[.slice A0 g.c.length C0, u, .slice none 0 0, .slice none 0 0]) u1.heap.size (N ++ [x]))] (fun k w7 => (k = 1 → Whole w7 gx 36 ((fun u => #[.slice A0 g.c.length C0, u, .slice none 0 0, .slice none 0 0]) (.slice A1 i C1))) ∧ (k = 22 → OwnG 139 3 cLo w7 u1.heap.size (.slice A1 i C1) N) ∧ (k = 24 → ∃ u, Whole w7 gx 36 ((fun u => #[.slice A0 g.c.length C0, u, .slice none 0 0, .slice none 0 0]) u))) (by kernel_rfl) rfl (by kernel_rfl) (by kernel_rfl) (by kernel_rfl) (by kernel_rfl) ?keep ?hO ?h0 ?tell
        case hR => exact fun w7 w8 hb ⟨h1, h2⟩ => ⟨grown_own h1 (grown_below hb (row := none)) (fun j e => by cases e), Nat.le_trans h2 hb.size⟩
        case r0 => exact ⟨G9.out, Nat.le_refl _⟩
        case keep => exact ⟨keep_one (keeps_is _), keep_one (keeps_is _), keep_one (keeps_is _), keep_one (keeps_is _), keep_one (keeps_is _), keep_one (keeps_is _), keep_one (keeps_is _), keep_one (keeps_is _), keep_one (keeps_is _), keep_one (keeps_is _), keep_one (keeps_is _), keep_one (keeps_is _), keep_one (keeps_is _), keep_one (keeps_is _), keep_one (keeps_is _), keep_one (keeps_is _), keep_one (keeps_is _), keep_one (keeps_is _), keep_one (keeps_is _), keep_one (keeps_is _), keep_one (keeps_is _), keep_one (keeps_loneG _ _), keep_one (keeps_newG _ _), keep_one (keeps_is _), keep_one (keeps_laidG _ _ _ _ _), trivial⟩
        case hO => exact fun k w7 w8 hb ⟨h1, h2, h3⟩ => ⟨fun e => (h1 e).below hb (h1 e).inside, fun e => (h2 e).below hb, fun e => (h3 e).imp fun u hx => hx.below hb hx.inside⟩
        case h0 => exact fun k _ => ⟨fun _ => X9.out, fun _ => HO9.out, fun _ => ⟨_, X9.out⟩⟩
        case tell =>
          intro fin hfin
          simp [lexPut, Act.put] at hfin
          simp only [TellF]
          refine ⟨⟨?_, ?_, ?_, ?_, ?_, ?_, ?_, ?_, ?_, ?_, ?_, ?_, ?_, ?_, ?_, ?_, ?_, ?_, ?_, ?_, ?_, ?_, ?_, ?_, ?_, trivial⟩, ?_⟩
          · intro v2 w7 hr hd
            refine yields_run (u := .pointer (some ⟨gx, 1, none⟩)) (w' := w7) ?_ (Below.refl _ _) rfl
            unfold execOp
            simp [go_sem, Act.eval]
          · intro v2 w7 hr ho hd
            have h0 : v2 0 = _ := hd 0 (by kernel_rfl)
            have hc : w7.cell? ⟨gx, 1, none⟩ = some (.slice A1 i C1) := (ho.1 trivial).read 1
            refine .inl (.inl ⟨.slice A1 i C1, w7, ?_, hr, fun _ _ _ _ hu => hu, fun _ _ _ _ hu => hu, rfl⟩)
            unfold execOp
            simp [go_sem, Act.eval, Act.put, h0, hc]
          · intro v2 w7 hr hd
            refine yields_run (u := .pointer (some ⟨gg, 1, none⟩)) (w' := w7) ?_ (Below.refl _ _) rfl
            unfold execOp
            simp [go_sem, Act.eval, Act.put]
          · intro v2 w7 hr hd
            have h2 : v2 2 = _ := hd 2 (by kernel_rfl)
            have hc := SR w7 hr.1
            refine yields_run (u := .slice (some ⟨b1, o1, none⟩) g.l.length vj) (w' := w7) ?_ (Below.refl _ _) rfl
            unfold execOp
            simp [go_sem, Act.eval, Act.put, h2, hc]
          · intro v2 w7 hr hd
            refine yields_run (u := .int .i64 i) (w' := w7) ?_ (Below.refl _ _) rfl
            unfold execOp
            simp [go_sem, Act.eval, Act.put]
          · intro v2 w7 hr hd
            have h3 : v2 3 = _ := hd 3 (by kernel_rfl)
            have h4 : v2 4 = _ := hd 4 (by kernel_rfl)
            exact yields_index (b := b1) (off := o1) (n := g.l.length) (c := vj) (i := i) (m := 3) rfl (by simp [Act.eval, Act.put, h3]) (by simp [Act.eval, Act.put, h4]) hlt Tryz.underlying23 (by intro w; simp [Tryz.sizeOf144])
          · intro v2 w7 hr hd
            have h5 : v2 5 = _ := hd 5 (by kernel_rfl)
            refine yields_run (u := .pointer (some ⟨b1, o1 + i * 3, none⟩)) (w' := w7) ?_ (Below.refl _ _) rfl
            unfold execOp
            simp [go_sem, Act.eval, Act.put, h5]
          · intro v2 w7 hr hd
            have h6 : v2 6 = _ := hd 6 (by kernel_rfl)
            have hc := E0 w7 hr.1
            refine yields_run (u := sV x.n) (w' := w7) ?_ (Below.refl _ _) rfl
            unfold execOp
            simp [go_sem, Act.eval, Act.put, h6, hc]
          · intro v2 w7 hr hd
            refine yields_run (u := .pointer (some ⟨gg, 1, none⟩)) (w' := w7) ?_ (Below.refl _ _) rfl
            unfold execOp
            simp [go_sem, Act.eval, Act.put]
          · intro v2 w7 hr hd
            have h8 : v2 8 = _ := hd 8 (by kernel_rfl)
            have hc := SR w7 hr.1
            refine yields_run (u := .slice (some ⟨b1, o1, none⟩) g.l.length vj) (w' := w7) ?_ (Below.refl _ _) rfl
            unfold execOp
            simp [go_sem, Act.eval, Act.put, h8, hc]
          · intro v2 w7 hr hd
            refine yields_run (u := .int .i64 i) (w' := w7) ?_ (Below.refl _ _) rfl
            unfold execOp
            simp [go_sem, Act.eval, Act.put]
          · intro v2 w7 hr hd
            have h9 : v2 9 = _ := hd 9 (by kernel_rfl)
            have h10 : v2 10 = _ := hd 10 (by kernel_rfl)
            exact yields_index (b := b1) (off := o1) (n := g.l.length) (c := vj) (i := i) (m := 3) rfl (by simp [Act.eval, Act.put, h9]) (by simp [Act.eval, Act.put, h10]) hlt Tryz.underlying23 (by intro w; simp [Tryz.sizeOf144])
          · intro v2 w7 hr hd
            have h11 : v2 11 = _ := hd 11 (by kernel_rfl)
            refine yields_run (u := .pointer (some ⟨b1, o1 + i * 3 + 1, none⟩)) (w' := w7) ?_ (Below.refl _ _) rfl
            unfold execOp
            simp [go_sem, Act.eval, Act.put, h11]
          · intro v2 w7 hr hd
            have h12 : v2 12 = _ := hd 12 (by kernel_rfl)
            have hc := E1 w7 hr.1
            refine yields_run (u := .int .i64 x.u) (w' := w7) ?_ (Below.refl _ _) rfl
            unfold execOp
            simp [go_sem, Act.eval, Act.put, h12, hc]
          · intro v2 w7 hr hd
            refine yields_run (u := .pointer (some ⟨gg, 1, none⟩)) (w' := w7) ?_ (Below.refl _ _) rfl
            unfold execOp
            simp [go_sem, Act.eval, Act.put]
          · intro v2 w7 hr hd
            have h14 : v2 14 = _ := hd 14 (by kernel_rfl)
            have hc := SR w7 hr.1
            refine yields_run (u := .slice (some ⟨b1, o1, none⟩) g.l.length vj) (w' := w7) ?_ (Below.refl _ _) rfl
            unfold execOp
            simp [go_sem, Act.eval, Act.put, h14, hc]
          · intro v2 w7 hr hd
            refine yields_run (u := .int .i64 i) (w' := w7) ?_ (Below.refl _ _) rfl
            unfold execOp
            simp [go_sem, Act.eval, Act.put]
          · intro v2 w7 hr hd
            have h15 : v2 15 = _ := hd 15 (by kernel_rfl)
            have h16 : v2 16 = _ := hd 16 (by kernel_rfl)
            exact yields_index (b := b1) (off := o1) (n := g.l.length) (c := vj) (i := i) (m := 3) rfl (by simp [Act.eval, Act.put, h15]) (by simp [Act.eval, Act.put, h16]) hlt Tryz.underlying23 (by intro w; simp [Tryz.sizeOf144])
          · intro v2 w7 hr hd
            have h17 : v2 17 = _ := hd 17 (by kernel_rfl)
            refine yields_run (u := .pointer (some ⟨b1, o1 + i * 3 + 2, none⟩)) (w' := w7) ?_ (Below.refl _ _) rfl
            unfold execOp
            simp [go_sem, Act.eval, Act.put, h17]
          · intro v2 w7 hr hd
            have h18 : v2 18 = _ := hd 18 (by kernel_rfl)
            have hc := E2 w7 hr.1
            refine yields_run (u := .int .i64 x.r) (w' := w7) ?_ (Below.refl _ _) rfl
            unfold execOp
            simp [go_sem, Act.eval, Act.put, h18, hc]
          · intro v2 w7 hr hd
            have h7 : v2 7 = _ := hd 7 (by kernel_rfl)
            have h13 : v2 13 = _ := hd 13 (by kernel_rfl)
            have h19 : v2 19 = _ := hd 19 (by kernel_rfl)
            refine yields_run (u := .agg (cLo x).toArray) (w' := w7) ?_ (Below.refl _ _) rfl
            unfold execOp
            simp [go_sem, Act.eval, Act.put, h7, h13, h19, cLo]
          · intro v2 w7 hr hd
            have h20 : v2 20 = _ := hd 20 (by kernel_rfl)
            refine yields_run (u := .slice (some ⟨w7.heap.size, 0, none⟩) 1 1) (w' := w7.alloc (.cells (cLo x).toArray 139)) ?_ (fresh1 w7 _) ⟨w7.heap.size, rfl, hr.2, Whole.fresh w7 _ _⟩
            unfold execOp
            simp [go_sem, Act.eval, Act.put, h20, cLo]
          · intro v2 w7 hr ho hd
            have h1 : v2 1 = _ := hd 1 (by kernel_rfl)
            obtain ⟨gy, hz, hyl, hw⟩ : LoneG 139 cLo wr.heap.size x (v2 21) w7 := hd 21 (by kernel_rfl)
            have ho7 := ho.2.1 trivial
            refine .inl (yields_append (.tmp 42) (.tmp 62) 32 rfl u1.heap.size 139 i1 (.agg #[sV [], .int .i64 0, .int .i64 0]) 3 32 Tryz.underlying32 hi1 hz10 hz11 hz12 rfl (by decide) (.slice A1 i C1) N.length (N.flatMap cLo) (by simp [Act.eval, Act.put, h1]) ho7 ⟨gy, 0, none⟩ 1 1 (cLo x) (by simp [Act.eval, Act.put, hz]) rfl (whole_cells hw) (CELLS_cLo.one x) (by decide) (by have := hNi.out; unfold maxLen; omega) (by have := hNi.out; omega) (by have := hr.2; have := S9.out; omega) ?_)
            intro g8 cap8 w8 hown hgrow
            have hab : ∀ j, (Value.slice A1 i C1).ownBlock = some j → u1.heap.size ≤ j := fun j e => OwnG.above ho7 e
            have hxn : some gx ≠ (Value.slice A1 i C1).ownBlock := fun e => by have := hab gx e.symm; have := GX.out; omega
            refine ⟨⟨grown_own hr.1 hgrow (fun j e => hab j e), Nat.le_trans hr.2 hgrow.size⟩, ?_, ?_, (show NewG 139 3 cLo u1.heap.size (N ++ [x]) (.slice (some ⟨g8, 0, none⟩) (N.length + 1) cap8) w8 from ⟨g8, cap8, by simp, by unfold OwnG; simpa using hown⟩)⟩
            · intro k2 v' hk2 hc hu
              exact match k2, hk2, hc, hu with
                | 0, _, _, hu => hu
                | 1, _, _, hu => hu
                | 2, _, _, hu => hu
                | 3, _, _, hu => hu
                | 4, _, _, hu => hu
                | 5, _, _, hu => hu
                | 6, _, _, hu => hu
                | 7, _, _, hu => hu
                | 8, _, _, hu => hu
                | 9, _, _, hu => hu
                | 10, _, _, hu => hu
                | 11, _, _, hu => hu
                | 12, _, _, hu => hu
                | 13, _, _, hu => hu
                | 14, _, _, hu => hu
                | 15, _, _, hu => hu
                | 16, _, _, hu => hu
                | 17, _, _, hu => hu
                | 18, _, _, hu => hu
                | 19, _, _, hu => hu
                | 20, _, _, hu => hu
                | 21, _, _, ⟨gy, h1, h2, h3⟩ => ⟨gy, h1, h2, h3.grown hgrow (HO9.out.away h2)⟩
                | 22, hk2, _, _ => absurd rfl hk2
                | 23, _, _, hu => hu
                | 24, _, hc, _ => absurd hc (by decide)
                | _ + 25, _, _, _ => trivial
            · intro k2 hk2 hn hc2 ⟨h1, h2, h3⟩
              exact ⟨fun e => by subst e; exact absurd hc2 (by decide), fun e => absurd e hk2, fun e => (h3 e).imp fun u hx => hx.grown hgrow hxn⟩
          · intro v2 w7 hr hd
            refine yields_run (u := .pointer (some ⟨gx, 1, none⟩)) (w' := w7) ?_ (Below.refl _ _) rfl
            unfold execOp
            simp [go_sem, Act.eval, Act.put]
          · intro v2 w7 hr ho hd
            have h23 : v2 23 = _ := hd 23 (by kernel_rfl)
            obtain ⟨g', c2, h7, hn7⟩ : NewG 139 3 cLo u1.heap.size (N ++ [x]) (v2 22) w7 := hd 22 (by kernel_rfl)
            obtain ⟨u, hu⟩ := ho.2.2 trivial
            rw [h7] at hn7
            have hc : w7.cell? ⟨gx, 1, none⟩ = some u := hu.read 1
            have hf : w7.frozen? ⟨gx, 1, none⟩ = false := hu.soft 1
            have hg : w7.grownBy (w7.setCell ⟨gx, 1, none⟩ (.slice (some ⟨g', 0, none⟩) (N ++ [x]).length c2)) (some gx) := only_store (only_of_below (Below.refl _ w7) (some gx)) _
            refine .inr ⟨w7.setCell ⟨gx, 1, none⟩ (.slice (some ⟨g', 0, none⟩) (N ++ [x]).length c2), ?_, ⟨only_trans hr.1 hg, Nat.le_trans hr.2 hg.size⟩, ?_, ?_, some ⟨g', 0, none⟩, c2, hu.store 1 _, hn7.keptG hg GX.out⟩
            · unfold execOp
              simp [go_sem, Act.eval, Act.put, h23, h7, hc, hf]
            · intro k2 v' hk2 hc hu
              exact match k2, hk2, hc, hu with
                | 0, _, _, hu => hu
                | 1, _, _, hu => hu
                | 2, _, _, hu => hu
                | 3, _, _, hu => hu
                | 4, _, _, hu => hu
                | 5, _, _, hu => hu
                | 6, _, _, hu => hu
                | 7, _, _, hu => hu
                | 8, _, _, hu => hu
                | 9, _, _, hu => hu
                | 10, _, _, hu => hu
                | 11, _, _, hu => hu
                | 12, _, _, hu => hu
                | 13, _, _, hu => hu
                | 14, _, _, hu => hu
                | 15, _, _, hu => hu
                | 16, _, _, hu => hu
                | 17, _, _, hu => hu
                | 18, _, _, hu => hu
                | 19, _, _, hu => hu
                | 20, _, _, hu => hu
                | 21, _, _, ⟨gy, h1, h2, h3⟩ => ⟨gy, h1, h2, h3.grown hg (by have := GX.out; have := S9.out; simp; omega)⟩
                | 22, _, _, ⟨g', c', h1, h2⟩ => ⟨g', c', h1, h2.keptG hg GX.out⟩
                | 23, _, _, hu => hu
                | 24, hk2, _, _ => absurd rfl hk2
                | _ + 25, _, _, _ => trivial
            · intro k2 hk2 hn hc2 ⟨h1, h2, h3⟩
              exact ⟨fun e => by subst e; exact absurd hc2 (by decide), fun e => by subst e; exact absurd hc2 (by decide), fun e => absurd e hk2⟩
          · intro v2 w7 hr hv
            obtain ⟨D, c2, hl1, hl2⟩ : LaidG 139 3 cLo gx 36 (fun u => #[.slice A0 g.c.length C0, u, .slice none 0 0, .slice none 0 0]) u1.heap.size (N ++ [x]) (v2 24) w7 := hv 24 (by decide)
            have X10 := Lib.hid hl1
            have O10 := Lib.hid hl2
            have R10 := Lib.hid hr
            rw [hfin]
            clear hfin hv hl1 hl2 hr
            generalize v2 22 = v7
            generalize v2 21 = v6
            go_wp2_with fail
            go_roundw
            case rel => exact ⟨i + 1, N ++ [x], D, c2, hlt, Lib.hid (by simp [hNi.out]), by go_num, HN2, (by have := X10.out; rw [List.length_append, hNi.out] at this; exact Lib.hid this), (by have := O10.out; rw [List.length_append, hNi.out] at this; exact Lib.hid this), Lib.hid R10.out.1⟩
            case measure => simp [intOf]; omega
      obtain rfl : N = g.l := by rw [HN.out, hin, List.take_length]
      subst hin
      clear hNi HN
      have hlt : ¬ ((g.l.length : Int) < g.l.length) := by omega
      have RM1 := Lib.hid HO9.out.room
      have LG1 := Lib.hid (OwnG.lg CELLS_cLo HO9.out)
      have GP1 : Hid (∀ a, A1 = some a → gx < a.block) := Lib.hid fun a e => by have := HO9.out.gap a e; have := GX.out; omega
      replace LG0 := Lib.hid (lg_past LG0.out G9.out (fun a e => by have := GP0.out a e; omega))
      go_upto_region 10 with fail
      replace OR3 := Lib.hid (OR3.out.grown G9.out (by have := hGR.out; simp; omega))
      replace OG3 := Lib.hid (OG3.out.grown G9.out (by have := hGR.out; simp; omega))
      replace B4 := Lib.hid (below_only B4.out G9.out B4.out.size (by have := hGR.out; have := hG0.out; omega))
      replace GX := Lib.hid X9.out.inside
      replace X0 := X9
      clear X9 G9 S9 HO9 k0 hlt
      obtain ⟨u2, hnw⟩ : ∃ u2, u2 = wr := ⟨_, rfl⟩
      subst hnw
      go_wp2_with fail
      go_loopw [6] (fun a wr => ∃ (i : Nat) (N : List Oq) (A2 : Option Addr) (C2 : Nat), i ≤ g.o.length ∧ Hid (N.length = i) ∧ a = .int .i64 i ∧ Hid (N = g.o.take i) ∧ Hid (Whole wr gx 36 #[.slice A0 g.c.length C0, .slice A1 g.l.length C1, (.slice A2 i C2), .slice none 0 0]) ∧ Hid (OwnG 141 6 cOq wr u2.heap.size (.slice A2 i C2) N) ∧ Hid (u2.grownBy wr (some gx))) (fun a _ => (g.o.length - intOf a).toNat)
      case atStart => exact ⟨0, [], none, 0, by omega, Lib.hid rfl, rfl, Lib.hid rfl, X0, Lib.hid (ownG_nil _ _), Lib.hid (World.grownBy.refl _ _)⟩
      case round =>
        obtain ⟨i, N, A2, C2, hil, hNi, rfl, HN, X9, HO9, G9⟩ := hrel
        have S9 := Lib.hid G9.out.size
        have k0 : wr.cell? ⟨gg, 2, none⟩ = some (.slice vd g.o.length vk) := (OG3.out.grown G9.out (by have := hGR.out; simp; omega)).read 2
        by_cases hin : i = g.o.length
        case neg =>
          have hlt : i < g.o.length := by omega
          obtain ⟨x, hx⟩ : ∃ x, g.o[i]? = some x := ⟨g.o[i], List.getElem?_eq_getElem hlt⟩
          obtain ⟨b1, o1, hA, hb1, c0, c1, c2, c3, c4, c5⟩ := at_oq H.out.o hx
          change vd = _ at hA
          subst hA
          have HN2 : Hid (N ++ [x] = g.o.take (i + 1)) := Lib.hid (by rw [List.take_add_one, hx, HN.out]; rfl)
          have BW : ∀ w7, u2.grownBy w7 (some gx) → Below w.heap.size w w7 := fun w7 h7 => below_only B4.out h7 B4.out.size (by have := hGR.out; have := hG0.out; omega)
          have SR : ∀ w7, u2.grownBy w7 (some gx) → w7.cell? ⟨gg, 2, none⟩ = some (.slice (some ⟨b1, o1, none⟩) g.o.length vk) := fun w7 h7 => (OG3.out.grown h7 (by have := hGR.out; simp; omega)).read 2
          have E0 : ∀ w7, u2.grownBy w7 (some gx) → w7.cell? ⟨b1, o1 + i * 6, none⟩ = some (sV x.n) := fun w7 h7 => ((BW w7 h7).cell (p := ⟨b1, o1 + i * 6, none⟩) hb1).trans c0
          have E1 : ∀ w7, u2.grownBy w7 (some gx) → w7.cell? ⟨b1, o1 + i * 6 + 1, none⟩ = some (.int .i64 x.k) := fun w7 h7 => ((BW w7 h7).cell (p := ⟨b1, o1 + i * 6 + 1, none⟩) hb1).trans c1
          have E2 : ∀ w7, u2.grownBy w7 (some gx) → w7.cell? ⟨b1, o1 + i * 6 + 2, none⟩ = some (.int .i64 x.l) := fun w7 h7 => ((BW w7 h7).cell (p := ⟨b1, o1 + i * 6 + 2, none⟩) hb1).trans c2
          have E3 : ∀ w7, u2.grownBy w7 (some gx) → w7.cell? ⟨b1, o1 + i * 6 + 3, none⟩ = some (.int .i64 x.a) := fun w7 h7 => ((BW w7 h7).cell (p := ⟨b1, o1 + i * 6 + 3, none⟩) hb1).trans c3
          have E4 : ∀ w7, u2.grownBy w7 (some gx) → w7.cell? ⟨b1, o1 + i * 6 + 4, none⟩ = some (.int .i64 x.x) := fun w7 h7 => ((BW w7 h7).cell (p := ⟨b1, o1 + i * 6 + 4, none⟩) hb1).trans c4
          have E5 : ∀ w7, u2.grownBy w7 (some gx) → w7.cell? ⟨b1, o1 + i * 6 + 5, none⟩ = some (.int .i64 x.y) := fun w7 h7 => ((BW w7 h7).cell (p := ⟨b1, o1 + i * 6 + 5, none⟩) hb1).trans c5
          clear c0 c1 c2 c3 c4 c5 hx
          have F0 := E0 wr G9.out
          have F1 := E1 wr G9.out
          have F2 := E2 wr G9.out
          have F3 := E3 wr G9.out
          have F4 := E4 wr G9.out
          have F5 := E5 wr G9.out
          go_upto_region 14 with fail
          clear k0 F0 F1 F2 F3 F4 F5
          change Code.wp _ _ _ _ (wr.alloc (.cells #[sV x.n, .int .i64 x.k, .int .i64 x.l, .int .i64 x.a, .int .i64 x.x, .int .i64 x.y] 145))
          have hW := fresh1 wr (.cells #[sV x.n, .int .i64 x.k, .int .i64 x.l, .int .i64 x.a, .int .i64 x.x, .int .i64 x.y] 145)
          have OW := Whole.fresh wr 145 #[sV x.n, .int .i64 x.k, .int .i64 x.l, .int .i64 x.a, .int .i64 x.x, .int .i64 x.y]
          have X1 := Lib.hid (X9.out.below hW X9.out.inside)
          have O1 := Lib.hid (HO9.out.below hW)
          have G1 := Lib.hid (grown_own G9.out (grown_below hW (row := none)) (fun j e => by cases e))
          have AW := Lib.hid (OwnG.away HO9.out (Nat.le_refl _))
          have hS1 := Nat.le_trans S9.out hW.size
          have hxr : gx < wr.heap.size := X9.out.inside
          clear hW X9 HO9 G9 S9
          generalize wr.alloc (.cells #[sV x.n, .int .i64 x.k, .int .i64 x.l, .int .i64 x.a, .int .i64 x.x, .int .i64 x.y] 145) = w5 at OW X1 O1 G1 hS1 ⊢
          generalize wr.heap.size = r at OW AW hxr ⊢
          have r0 := OW.read 0
          have r1 := OW.read 1
          have r2 := OW.read 2
          have r3 := OW.read 3
          have r4 := OW.read 4
          have r5 := OW.read 5
          have x2 : w5.cell? ⟨gx, 2, none⟩ = some (.slice A2 i C2) := X1.out.read 2
          have hS1' := Lib.hid hS1
          clear OW
          go_wp2_with (at_builtin; refine wpList_append_own _ rfl _ _ 33 rfl u2.heap.size 141 i2 (.agg #[sV [], .int .i64 0, .int .i64 0, .int .i64 0, .int .i64 0, .int .i64 0]) 6 56 Tryz.underlying33 hi2 hz20 hz21 hz22 rfl (by decide) _ _ _ rfl (O1.out.below (fresh1 _ (.cells (cOq x).toArray 141))) ⟨_, 0, none⟩ 1 1 (cOq x) rfl rfl (whole_cells (Whole.fresh _ _ _)) (CELLS_cOq.one x) (by have := hNi.out; unfold maxLen; omega) (by have := hNi.out; omega) (by have := hS1'.out; simp; omega) ?_; intro v' w6 hown' hgrow _; obtain ⟨g', cap', rfl⟩ := OwnG.succ hown'; have hxo : some gx ≠ (Value.slice A2 i C2).ownBlock := fun e => by { have := OwnG.above O1.out e.symm; have := GX.out; omega }; have hgw := Lib.hid (grown_own G1.out (grown_below (fresh1 w5 (.cells (cOq x).toArray 141)) (row := none)) (fun j e => by cases e)); have G6 := Lib.hid (grown_own hgw.out hgrow (fun j e => OwnG.above O1.out e)); have X6 := Lib.hid ((X1.out.alloc (.cells (cOq x).toArray 141)).grown hgrow hxo); have O6 := Lib.hid (show OwnG 141 6 cOq w6 u2.heap.size (.slice (some ⟨g', 0, none⟩) (N ++ [x]).length cap') (N ++ [x]) by have := hown'; simpa [OwnG] using this); clear hown' hgrow hxo hgw; have y2 : w6.cell? ⟨gx, 2, none⟩ = some (.slice A2 i C2) := X6.out.read 2; have y3 : w6.frozen? ⟨gx, 2, none⟩ = false := X6.out.soft 2)
          go_roundw
          case rel => exact ⟨i + 1, N ++ [x], some ⟨g', 0, none⟩, cap', hlt, Lib.hid (by simp [hNi.out]), by go_num, HN2, (by have := X6.out.store 2 (.slice (some ⟨g', 0, none⟩) (N.length + 1) cap'); rw [← hNi.out]; exact Lib.hid this), (by have := O6.out.keptG (only_store (only_of_below (Below.refl _ w6) (some gx)) (i := 2) (.slice (some ⟨g', 0, none⟩) (N.length + 1) cap')) GX.out; rw [List.length_append] at this; rw [← hNi.out]; exact Lib.hid this), Lib.hid (only_store G6.out _)⟩
          case measure => simp [intOf]; omega
        obtain rfl : N = g.o := by rw [HN.out, hin, List.take_length]
        subst hin
        clear hNi HN
        have hlt : ¬ ((g.o.length : Int) < g.o.length) := by omega
        have RM2 := Lib.hid HO9.out.room
        have LG2 := Lib.hid (OwnG.lg CELLS_cOq HO9.out)
        have GP2 : Hid (∀ a, A2 = some a → gx < a.block) := Lib.hid fun a e => by have := HO9.out.gap a e; have := GX.out; omega
        replace LG0 := Lib.hid (lg_past LG0.out G9.out (fun a e => by have := GP0.out a e; omega))
        replace LG1 := Lib.hid (lg_past LG1.out G9.out (fun a e => by have := GP1.out a e; omega))
        go_upto_region 15 with fail
        replace OR3 := Lib.hid (OR3.out.grown G9.out (by have := hGR.out; simp; omega))
        replace OG3 := Lib.hid (OG3.out.grown G9.out (by have := hGR.out; simp; omega))
        replace B4 := Lib.hid (below_only B4.out G9.out B4.out.size (by have := hGR.out; have := hG0.out; omega))
        replace GX := Lib.hid X9.out.inside
        replace X0 := X9
        clear X9 G9 S9 HO9 k0 hlt
        obtain ⟨u3, hnw⟩ : ∃ u3, u3 = wr := ⟨_, rfl⟩
        subst hnw
        go_wp2_with fail
        go_loopw [8] (fun a wr => ∃ (i : Nat) (N : List Ch) (A3 : Option Addr) (C3 : Nat), i ≤ g.h.length ∧ Hid (N.length = i) ∧ a = .int .i64 i ∧ Hid (N = g.h.take i) ∧ Hid (Whole wr gx 36 #[.slice A0 g.c.length C0, .slice A1 g.l.length C1, .slice A2 g.o.length C2, (.slice A3 i C3)]) ∧ Hid (OwnG 142 2 cCh wr u3.heap.size (.slice A3 i C3) N) ∧ Hid (u3.grownBy wr (some gx))) (fun a _ => (g.h.length - intOf a).toNat)
        case atStart => exact ⟨0, [], none, 0, by omega, Lib.hid rfl, rfl, Lib.hid rfl, X0, Lib.hid (ownG_nil _ _), Lib.hid (World.grownBy.refl _ _)⟩
        case round =>
          obtain ⟨i, N, A3, C3, hil, hNi, rfl, HN, X9, HO9, G9⟩ := hrel
          have S9 := Lib.hid G9.out.size
          have k0 : wr.cell? ⟨gg, 3, none⟩ = some (.slice ve g.h.length vm) := (OG3.out.grown G9.out (by have := hGR.out; simp; omega)).read 3
          by_cases hin : i = g.h.length
          case neg =>
            have hlt : i < g.h.length := by omega
            obtain ⟨x, hx⟩ : ∃ x, g.h[i]? = some x := ⟨g.h[i], List.getElem?_eq_getElem hlt⟩
            obtain ⟨b1, o1, hA, hb1, c0, c1⟩ := at_ch H.out.h hx
            change ve = _ at hA
            subst hA
            have HN2 : Hid (N ++ [x] = g.h.take (i + 1)) := Lib.hid (by rw [List.take_add_one, hx, HN.out]; rfl)
            have BW : ∀ w7, u3.grownBy w7 (some gx) → Below w.heap.size w w7 := fun w7 h7 => below_only B4.out h7 B4.out.size (by have := hGR.out; have := hG0.out; omega)
            have SR : ∀ w7, u3.grownBy w7 (some gx) → w7.cell? ⟨gg, 3, none⟩ = some (.slice (some ⟨b1, o1, none⟩) g.h.length vm) := fun w7 h7 => (OG3.out.grown h7 (by have := hGR.out; simp; omega)).read 3
            have E0 : ∀ w7, u3.grownBy w7 (some gx) → w7.cell? ⟨b1, o1 + i * 2, none⟩ = some (.int .i64 x.f) := fun w7 h7 => ((BW w7 h7).cell (p := ⟨b1, o1 + i * 2, none⟩) hb1).trans c0
            have E1 : ∀ w7, u3.grownBy w7 (some gx) → w7.cell? ⟨b1, o1 + i * 2 + 1, none⟩ = some (.int .i64 x.t) := fun w7 h7 => ((BW w7 h7).cell (p := ⟨b1, o1 + i * 2 + 1, none⟩) hb1).trans c1
            clear c0 c1 hx
            go_upto_region 18 with fail
            clear k0
            refine region_full 121 [(16, 18)] [(16, 1), (18, 1), (18, 16)] (fun k => k == 1 || k == 16 || k == 18) (fun w7 => u3.grownBy w7 (some gx) ∧ wr.heap.size ≤ w7.heap.size) ?hR ?r0 [pdOne 0 (Is (.pointer (some ⟨gx, 3, none⟩))), pdOne 1 (Is (.slice A3 i C3)), pdOne 2 (Is (.pointer (some ⟨gg, 3, none⟩))), pdOne 3 (Is (.slice (some ⟨b1, o1, none⟩) g.h.length vm)), pdOne 4 (Is (.int .i64 i)), pdOne 5 (Is (.pointer (some ⟨b1, o1 + i * 2, none⟩))), pdOne 6 (Is (.pointer (some ⟨b1, o1 + i * 2, none⟩))), pdOne 7 (Is (.int .i64 x.f)), pdOne 8 (Is (.pointer (some ⟨gg, 3, none⟩))), pdOne 9 (Is (.slice (some ⟨b1, o1, none⟩) g.h.length vm)), pdOne 10 (Is (.int .i64 i)), pdOne 11 (Is (.pointer (some ⟨b1, o1 + i * 2, none⟩))), pdOne 12 (Is (.pointer (some ⟨b1, o1 + i * 2 + 1, none⟩))), pdOne 13 (Is (.int .i64 x.t)), pdOne 14 (Is (.agg (cCh x).toArray)), pdOne 15 (LoneG 142 cCh wr.heap.size x), pdOne 16 (NewG 142 2 cCh u3.heap.size (N ++ [x])), pdOne 17 (Is (.pointer (some ⟨gx, 3, none⟩))), pdOne 18 (LaidG 142 2 cCh gx 36 (fun u => #[.slice A0 g.c.length C0, .slice A1 g.l.length C1, .slice A2 g.o.length C2, u]) u3.heap.size (N ++ [x]))] (fun k w7 => (k = 1 → Whole w7 gx 36 ((fun u => #[.slice A0 g.c.length C0, .slice A1 g.l.length C1, .slice A2 g.o.length C2, u]) (.slice A3 i C3))) ∧ (k = 16 → OwnG 142 2 cCh w7 u3.heap.size (.slice A3 i C3) N) ∧ (k = 18 → ∃ u, Whole w7 gx 36 ((fun u => #[.slice A0 g.c.length C0, .slice A1 g.l.length C1, .slice A2 g.o.length C2, u]) u))) (by kernel_rfl) rfl (by kernel_rfl) (by kernel_rfl) (by kernel_rfl) (by kernel_rfl) ?keep ?hO ?h0 ?tell
            case hR => exact fun w7 w8 hb ⟨h1, h2⟩ => ⟨grown_own h1 (grown_below hb (row := none)) (fun j e => by cases e), Nat.le_trans h2 hb.size⟩
            case r0 => exact ⟨G9.out, Nat.le_refl _⟩
            case keep => exact ⟨keep_one (keeps_is _), keep_one (keeps_is _), keep_one (keeps_is _), keep_one (keeps_is _), keep_one (keeps_is _), keep_one (keeps_is _), keep_one (keeps_is _), keep_one (keeps_is _), keep_one (keeps_is _), keep_one (keeps_is _), keep_one (keeps_is _), keep_one (keeps_is _), keep_one (keeps_is _), keep_one (keeps_is _), keep_one (keeps_is _), keep_one (keeps_loneG _ _), keep_one (keeps_newG _ _), keep_one (keeps_is _), keep_one (keeps_laidG _ _ _ _ _), trivial⟩
            case hO => exact fun k w7 w8 hb ⟨h1, h2, h3⟩ => ⟨fun e => (h1 e).below hb (h1 e).inside, fun e => (h2 e).below hb, fun e => (h3 e).imp fun u hx => hx.below hb hx.inside⟩
            case h0 => exact fun k _ => ⟨fun _ => X9.out, fun _ => HO9.out, fun _ => ⟨_, X9.out⟩⟩
            case tell =>
              intro fin hfin
              simp [lexPut, Act.put] at hfin
              simp only [TellF]
              refine ⟨⟨?_, ?_, ?_, ?_, ?_, ?_, ?_, ?_, ?_, ?_, ?_, ?_, ?_, ?_, ?_, ?_, ?_, ?_, ?_, trivial⟩, ?_⟩
              · intro v2 w7 hr hd
                refine yields_run (u := .pointer (some ⟨gx, 3, none⟩)) (w' := w7) ?_ (Below.refl _ _) rfl
                unfold execOp
                simp [go_sem, Act.eval]
              · intro v2 w7 hr ho hd
                have h0 : v2 0 = _ := hd 0 (by kernel_rfl)
                have hc : w7.cell? ⟨gx, 3, none⟩ = some (.slice A3 i C3) := (ho.1 trivial).read 3
                refine .inl (.inl ⟨.slice A3 i C3, w7, ?_, hr, fun _ _ _ _ hu => hu, fun _ _ _ _ hu => hu, rfl⟩)
                unfold execOp
                simp [go_sem, Act.eval, Act.put, h0, hc]
              · intro v2 w7 hr hd
                refine yields_run (u := .pointer (some ⟨gg, 3, none⟩)) (w' := w7) ?_ (Below.refl _ _) rfl
                unfold execOp
                simp [go_sem, Act.eval, Act.put]
              · intro v2 w7 hr hd
                have h2 : v2 2 = _ := hd 2 (by kernel_rfl)
                have hc := SR w7 hr.1
                refine yields_run (u := .slice (some ⟨b1, o1, none⟩) g.h.length vm) (w' := w7) ?_ (Below.refl _ _) rfl
                unfold execOp
                simp [go_sem, Act.eval, Act.put, h2, hc]
              · intro v2 w7 hr hd
                refine yields_run (u := .int .i64 i) (w' := w7) ?_ (Below.refl _ _) rfl
                unfold execOp
                simp [go_sem, Act.eval, Act.put]
              · intro v2 w7 hr hd
                have h3 : v2 3 = _ := hd 3 (by kernel_rfl)
                have h4 : v2 4 = _ := hd 4 (by kernel_rfl)
                exact yields_index (b := b1) (off := o1) (n := g.h.length) (c := vm) (i := i) (m := 2) rfl (by simp [Act.eval, Act.put, h3]) (by simp [Act.eval, Act.put, h4]) hlt Tryz.underlying25 (by intro w; simp [Tryz.sizeOf61])
              · intro v2 w7 hr hd
                have h5 : v2 5 = _ := hd 5 (by kernel_rfl)
                refine yields_run (u := .pointer (some ⟨b1, o1 + i * 2, none⟩)) (w' := w7) ?_ (Below.refl _ _) rfl
                unfold execOp
                simp [go_sem, Act.eval, Act.put, h5]
              · intro v2 w7 hr hd
                have h6 : v2 6 = _ := hd 6 (by kernel_rfl)
                have hc := E0 w7 hr.1
                refine yields_run (u := .int .i64 x.f) (w' := w7) ?_ (Below.refl _ _) rfl
                unfold execOp
                simp [go_sem, Act.eval, Act.put, h6, hc]
              · intro v2 w7 hr hd
                refine yields_run (u := .pointer (some ⟨gg, 3, none⟩)) (w' := w7) ?_ (Below.refl _ _) rfl
                unfold execOp
                simp [go_sem, Act.eval, Act.put]
              · intro v2 w7 hr hd
                have h8 : v2 8 = _ := hd 8 (by kernel_rfl)
                have hc := SR w7 hr.1
                refine yields_run (u := .slice (some ⟨b1, o1, none⟩) g.h.length vm) (w' := w7) ?_ (Below.refl _ _) rfl
                unfold execOp
                simp [go_sem, Act.eval, Act.put, h8, hc]
              · intro v2 w7 hr hd
                refine yields_run (u := .int .i64 i) (w' := w7) ?_ (Below.refl _ _) rfl
                unfold execOp
                simp [go_sem, Act.eval, Act.put]
              · intro v2 w7 hr hd
                have h9 : v2 9 = _ := hd 9 (by kernel_rfl)
                have h10 : v2 10 = _ := hd 10 (by kernel_rfl)
                exact yields_index (b := b1) (off := o1) (n := g.h.length) (c := vm) (i := i) (m := 2) rfl (by simp [Act.eval, Act.put, h9]) (by simp [Act.eval, Act.put, h10]) hlt Tryz.underlying25 (by intro w; simp [Tryz.sizeOf61])
              · intro v2 w7 hr hd
                have h11 : v2 11 = _ := hd 11 (by kernel_rfl)
                refine yields_run (u := .pointer (some ⟨b1, o1 + i * 2 + 1, none⟩)) (w' := w7) ?_ (Below.refl _ _) rfl
                unfold execOp
                simp [go_sem, Act.eval, Act.put, h11]
              · intro v2 w7 hr hd
                have h12 : v2 12 = _ := hd 12 (by kernel_rfl)
                have hc := E1 w7 hr.1
                refine yields_run (u := .int .i64 x.t) (w' := w7) ?_ (Below.refl _ _) rfl
                unfold execOp
                simp [go_sem, Act.eval, Act.put, h12, hc]
              · intro v2 w7 hr hd
                have h7 : v2 7 = _ := hd 7 (by kernel_rfl)
                have h13 : v2 13 = _ := hd 13 (by kernel_rfl)
                refine yields_run (u := .agg (cCh x).toArray) (w' := w7) ?_ (Below.refl _ _) rfl
                unfold execOp
                simp [go_sem, Act.eval, Act.put, h7, h13, cCh]
              · intro v2 w7 hr hd
                have h14 : v2 14 = _ := hd 14 (by kernel_rfl)
                refine yields_run (u := .slice (some ⟨w7.heap.size, 0, none⟩) 1 1) (w' := w7.alloc (.cells (cCh x).toArray 142)) ?_ (fresh1 w7 _) ⟨w7.heap.size, rfl, hr.2, Whole.fresh w7 _ _⟩
                unfold execOp
                simp [go_sem, Act.eval, Act.put, h14, cCh]
              · intro v2 w7 hr ho hd
                have h1 : v2 1 = _ := hd 1 (by kernel_rfl)
                obtain ⟨gy, hz, hyl, hw⟩ : LoneG 142 cCh wr.heap.size x (v2 15) w7 := hd 15 (by kernel_rfl)
                have ho7 := ho.2.1 trivial
                refine .inl (yields_append (.tmp 103) (.tmp 117) 34 rfl u3.heap.size 142 i3 (.agg #[.int .i64 0, .int .i64 0]) 2 16 Tryz.underlying34 hi3 hz30 hz31 hz32 rfl (by decide) (.slice A3 i C3) N.length (N.flatMap cCh) (by simp [Act.eval, Act.put, h1]) ho7 ⟨gy, 0, none⟩ 1 1 (cCh x) (by simp [Act.eval, Act.put, hz]) rfl (whole_cells hw) (CELLS_cCh.one x) (by decide) (by have := hNi.out; unfold maxLen; omega) (by have := hNi.out; omega) (by have := hr.2; have := S9.out; omega) ?_)
                intro g8 cap8 w8 hown hgrow
                have hab : ∀ j, (Value.slice A3 i C3).ownBlock = some j → u3.heap.size ≤ j := fun j e => OwnG.above ho7 e
                have hxn : some gx ≠ (Value.slice A3 i C3).ownBlock := fun e => by have := hab gx e.symm; have := GX.out; omega
                refine ⟨⟨grown_own hr.1 hgrow (fun j e => hab j e), Nat.le_trans hr.2 hgrow.size⟩, ?_, ?_, (show NewG 142 2 cCh u3.heap.size (N ++ [x]) (.slice (some ⟨g8, 0, none⟩) (N.length + 1) cap8) w8 from ⟨g8, cap8, by simp, by unfold OwnG; simpa using hown⟩)⟩
                · intro k2 v' hk2 hc hu
                  exact match k2, hk2, hc, hu with
                    | 0, _, _, hu => hu
                    | 1, _, _, hu => hu
                    | 2, _, _, hu => hu
                    | 3, _, _, hu => hu
                    | 4, _, _, hu => hu
                    | 5, _, _, hu => hu
                    | 6, _, _, hu => hu
                    | 7, _, _, hu => hu
                    | 8, _, _, hu => hu
                    | 9, _, _, hu => hu
                    | 10, _, _, hu => hu
                    | 11, _, _, hu => hu
                    | 12, _, _, hu => hu
                    | 13, _, _, hu => hu
                    | 14, _, _, hu => hu
                    | 15, _, _, ⟨gy, h1, h2, h3⟩ => ⟨gy, h1, h2, h3.grown hgrow (HO9.out.away h2)⟩
                    | 16, hk2, _, _ => absurd rfl hk2
                    | 17, _, _, hu => hu
                    | 18, _, hc, _ => absurd hc (by decide)
                    | _ + 19, _, _, _ => trivial
                · intro k2 hk2 hn hc2 ⟨h1, h2, h3⟩
                  exact ⟨fun e => by subst e; exact absurd hc2 (by decide), fun e => absurd e hk2, fun e => (h3 e).imp fun u hx => hx.grown hgrow hxn⟩
              · intro v2 w7 hr hd
                refine yields_run (u := .pointer (some ⟨gx, 3, none⟩)) (w' := w7) ?_ (Below.refl _ _) rfl
                unfold execOp
                simp [go_sem, Act.eval, Act.put]
              · intro v2 w7 hr ho hd
                have h17 : v2 17 = _ := hd 17 (by kernel_rfl)
                obtain ⟨g', c2, h7, hn7⟩ : NewG 142 2 cCh u3.heap.size (N ++ [x]) (v2 16) w7 := hd 16 (by kernel_rfl)
                obtain ⟨u, hu⟩ := ho.2.2 trivial
                rw [h7] at hn7
                have hc : w7.cell? ⟨gx, 3, none⟩ = some u := hu.read 3
                have hf : w7.frozen? ⟨gx, 3, none⟩ = false := hu.soft 3
                have hg : w7.grownBy (w7.setCell ⟨gx, 3, none⟩ (.slice (some ⟨g', 0, none⟩) (N ++ [x]).length c2)) (some gx) := only_store (only_of_below (Below.refl _ w7) (some gx)) _
                refine .inr ⟨w7.setCell ⟨gx, 3, none⟩ (.slice (some ⟨g', 0, none⟩) (N ++ [x]).length c2), ?_, ⟨only_trans hr.1 hg, Nat.le_trans hr.2 hg.size⟩, ?_, ?_, some ⟨g', 0, none⟩, c2, hu.store 3 _, hn7.keptG hg GX.out⟩
                · unfold execOp
                  simp [go_sem, Act.eval, Act.put, h17, h7, hc, hf]
                · intro k2 v' hk2 hc hu
                  exact match k2, hk2, hc, hu with
                    | 0, _, _, hu => hu
                    | 1, _, _, hu => hu
                    | 2, _, _, hu => hu
                    | 3, _, _, hu => hu
                    | 4, _, _, hu => hu
                    | 5, _, _, hu => hu
                    | 6, _, _, hu => hu
                    | 7, _, _, hu => hu
                    | 8, _, _, hu => hu
                    | 9, _, _, hu => hu
                    | 10, _, _, hu => hu
                    | 11, _, _, hu => hu
                    | 12, _, _, hu => hu
                    | 13, _, _, hu => hu
                    | 14, _, _, hu => hu
                    | 15, _, _, ⟨gy, h1, h2, h3⟩ => ⟨gy, h1, h2, h3.grown hg (by have := GX.out; have := S9.out; simp; omega)⟩
                    | 16, _, _, ⟨g', c', h1, h2⟩ => ⟨g', c', h1, h2.keptG hg GX.out⟩
                    | 17, _, _, hu => hu
                    | 18, hk2, _, _ => absurd rfl hk2
                    | _ + 19, _, _, _ => trivial
                · intro k2 hk2 hn hc2 ⟨h1, h2, h3⟩
                  exact ⟨fun e => by subst e; exact absurd hc2 (by decide), fun e => by subst e; exact absurd hc2 (by decide), fun e => absurd e hk2⟩
              · intro v2 w7 hr hv
                obtain ⟨D, c2, hl1, hl2⟩ : LaidG 142 2 cCh gx 36 (fun u => #[.slice A0 g.c.length C0, .slice A1 g.l.length C1, .slice A2 g.o.length C2, u]) u3.heap.size (N ++ [x]) (v2 18) w7 := hv 18 (by decide)
                have X10 := Lib.hid hl1
                have O10 := Lib.hid hl2
                have R10 := Lib.hid hr
                rw [hfin]
                clear hfin hv hl1 hl2 hr
                generalize v2 16 = v7
                generalize v2 15 = v6
                go_wp2_with fail
                go_roundw
                case rel => exact ⟨i + 1, N ++ [x], D, c2, hlt, Lib.hid (by simp [hNi.out]), by go_num, HN2, (by have := X10.out; rw [List.length_append, hNi.out] at this; exact Lib.hid this), (by have := O10.out; rw [List.length_append, hNi.out] at this; exact Lib.hid this), Lib.hid R10.out.1⟩
                case measure => simp [intOf]; omega
          obtain rfl : N = g.h := by rw [HN.out, hin, List.take_length]
          subst hin
          clear hNi HN
          have hlt : ¬ ((g.h.length : Int) < g.h.length) := by omega
          have RM3 := Lib.hid HO9.out.room
          have LG3 := Lib.hid (OwnG.lg CELLS_cCh HO9.out)
          have GP3 : Hid (∀ a, A3 = some a → gx < a.block) := Lib.hid fun a e => by have := HO9.out.gap a e; have := GX.out; omega
          replace LG0 := Lib.hid (lg_past LG0.out G9.out (fun a e => by have := GP0.out a e; omega))
          replace LG1 := Lib.hid (lg_past LG1.out G9.out (fun a e => by have := GP1.out a e; omega))
          replace LG2 := Lib.hid (lg_past LG2.out G9.out (fun a e => by have := GP2.out a e; omega))
          have OR4 := Lib.hid (OR3.out.grown G9.out (by have := hGR.out; simp; omega))
          have B5 := Lib.hid (below_only B4.out G9.out B4.out.size (by have := hGR.out; have := hG0.out; omega))
          have x0 := X9.out.read 0
          have x1 := X9.out.read 1
          have x2 := X9.out.read 2
          have x3 := X9.out.read 3
          have q0 := OR4.out.read 0
          have q1 := OR4.out.read 1
          have q2 := OR4.out.read 2
          have q3 := OR4.out.read 3
          have s0 := OR4.out.soft 0
          have s1 := OR4.out.soft 1
          have s2 := OR4.out.soft 2
          have s3 := OR4.out.soft 3
          go_upto_region 19 with fail
          have GW := Lib.hid (only_store (only_store (only_store (only_store (World.grownBy.refl wr (some gr)) (i := 0) (.slice A0 g.c.length C0)) (i := 1) (.slice A1 g.l.length C1)) (i := 2) (.slice A2 g.o.length C2)) (i := 3) (.slice A3 g.h.length C3))
          go_wp2_with fail
          refine bodyPost_ret (v := gV ⟨A0, A1, A2, A3, C0, C1, C2, C3⟩ g) (by simp [results, Tryz.results18, go_sem, q0, q1, q2, q3]) rfl ?_
          refine ⟨⟨A0, A1, A2, A3, C0, C1, C2, C3⟩, rfl, ⟨lg_past LG0.out GW.out (fun a e => by have := GP0.out a e; have := hGR.out; omega), lg_past LG1.out GW.out (fun a e => by have := GP1.out a e; have := hGR.out; omega), lg_past LG2.out GW.out (fun a e => by have := GP2.out a e; have := hGR.out; omega), lg_past LG3.out GW.out (fun a e => by have := GP3.out a e; have := hGR.out; omega)⟩, ⟨RM0.out, RM1.out, RM2.out, RM3.out⟩, below_only B5.out GW.out B5.out.size (by have := hGR.out; have := hG0.out; omega)⟩
end Go.Proofs.YtpblpjopinllcaaGreatDoor.graph
set_option linter.unusedSimpArgs false
set_option linter.unusedVariables false
namespace Go.Proofs.YtpblpjopinllcaaGreatDoor.graph
open Go.ChangeShapes Go.WideShapes Go.ChangeAt Go.RowKit
open Go.Proofs.YtpblpjopinllcaaGreatDoor.opened Go.Proofs.YtpblpjopinllcaaGreatDoor.block Go.Proofs.YtpblpjopinllcaaGreatDoor.words Go.Proofs.YtpblpjopinllcaaGreatDoor.region
def FrP (g : Gr) : Value → World → Prop := fun u w => ∃ v', u = gV v' g ∧ Lies4 w v' g
theorem keeps_frP (g : Gr) : Keeps (FrP g) := fun _ _ _ hb ⟨v', h1, h2⟩ => ⟨v', h1, h2.below hb⟩
theorem flat_le {α : Type} {L : List α} {f : α → Bs} {m n : Nat} (h : ∀ x ∈ L, (f x).length ≤ m) (hn : L.length ≤ n) : ((L.map f).flatten).length ≤ n * m := by
  rw [← upto_all]
  exact Nat.le_trans (upto_le h _) (Nat.mul_le_mul_right m hn)
theorem text_len {g : Gr} (h : checkE g = 0) (I : g.In) : (textG g).length ≤ 24600 := by
  obtain ⟨n1, n2, n3, n4, -, -⟩ := sizes_of (check_parts h).1
  have h1 := flat_le (cl_sp h I) n1
  have h2 := flat_le (lo_sp h I) n2
  have h3 := flat_le (oq_sp h I) n3
  have h4 := flat_le (ch_sp h) n4
  unfold textG
  rw [List.length_append, List.length_append, List.length_append]
  omega
theorem len100 {g : Gr} (h : checkE g = 0) : g.c.length ≤ 100000 ∧ g.l.length ≤ 100000 ∧ g.o.length ≤ 100000 ∧ g.h.length ≤ 100000 := by
  obtain ⟨n1, n2, n3, n4, -, -⟩ := sizes_of (check_parts h).1
  exact ⟨by omega, by omega, by omega, by omega⟩
theorem fit_check {v : Gv} {g : Gr} (R : Rooms v g) (P : PG 100000 g) : Fit v g := ⟨R.i, R.j, R.k, R.m, P.c, P.l, P.o⟩
set_option maxRecDepth 100000 in
set_option maxHeartbeats 8000000 in
theorem walkB (V : Gv) (g : Gr) (I : g.In) (s : Bs) (w : World) (hE : EnvG w) (h : Lies4 w V g) :
    Calls Tryz.prog 4 #[gV V g, sV s] w fun e w' => e = .returned (.bool true) ∧ Below w.heap.size w w' := by
  have GR := fun w1 (h1 : Lies4 w1 V g) => great_any V g w1 h1
  have TO := fun lc ll lo lh w1 (h1 : Lies4 w1 V g) => toG_any V g lc ll lo lh w1 h1
  have SM := fun v2 y1 y2 y3 y4 w1 (h1 : Lies4 w1 V g) (h2 : Lies4 w1 v2 g) => sameG_any v2 V g w1 h2 h1 y1 y2 y3 y4
  obtain ⟨va, vb, vd, ve, vi, vj, vk, vm⟩ := V
  have hgv : gV ⟨va, vb, vd, ve, vi, vj, vk, vm⟩ g = .agg #[.slice va g.c.length vi, .slice vb g.l.length vj, .slice vd g.o.length vk, .slice ve g.h.length vm] := rfl
  rw [hgv] at SM
  unfold gV at GR TO ⊢
  dsimp only at GR TO ⊢
  clear hgv
  replace GR := Lib.hid GR
  replace TO := Lib.hid TO
  replace SM := Lib.hid SM
  have E0 := Lib.hid hE
  have H0 := Lib.hid h
  have OG := Whole.fresh w 36 #[.slice va g.c.length vi, .slice vb g.l.length vj, .slice vd g.o.length vk, .slice ve g.h.length vm]
  have b1 := fresh1 w (.cells #[.slice va g.c.length vi, .slice vb g.l.length vj, .slice vd g.o.length vk, .slice ve g.h.length vm] 36)
  have hls : (⟨s.toArray⟩ : ByteArray).size = s.length := by show s.toArray.size = _; simp
  clear hE h
  go_enter Tryz.func4, Tryz.ntmps4
  go_upto_region 1 with fail
  change Code.wp _ _ _ _ (w.alloc (.cells #[.slice va g.c.length vi, .slice vb g.l.length vj, .slice vd g.o.length vk, .slice ve g.h.length vm] 36))
  generalize w.alloc (.cells #[.slice va g.c.length vi, .slice vb g.l.length vj, .slice vd g.o.length vk, .slice ve g.h.length vm] 36) = w3 at OG b1 ⊢
  have B3 := Lib.hid b1
  have OG3 := Lib.hid OG
  clear OG b1
  obtain ⟨gg, hgg⟩ : ∃ gg, w.heap.size = gg := ⟨_, rfl⟩
  rw [hgg] at OG3 ⊢
  have Hgg := Lib.hid hgg
  clear hgg
  have S3 : Hid (∀ W, Below w3.heap.size w3 W → Below w.heap.size w W ∧ EnvG W ∧ Lies4 W ⟨va, vb, vd, ve, vi, vj, vk, vm⟩ g) := Lib.hid fun W hW => ⟨then_below B3.out hW, E0.out.below (then_below B3.out hW), H0.out.below (then_below B3.out hW)⟩
  have K5 : Hid (∀ W, Below w3.heap.size w3 W → W.cell? ⟨gg, 0, none⟩ = some (.slice va g.c.length vi) ∧ W.cell? ⟨gg, 1, none⟩ = some (.slice vb g.l.length vj) ∧ W.cell? ⟨gg, 2, none⟩ = some (.slice vd g.o.length vk) ∧ W.cell? ⟨gg, 3, none⟩ = some (.slice ve g.h.length vm)) := Lib.hid fun W hW => ⟨(OG3.out.below hW OG3.out.inside).read 0, (OG3.out.below hW OG3.out.inside).read 1, (OG3.out.below hW OG3.out.inside).read 2, (OG3.out.below hW OG3.out.inside).read 3⟩
  clear OG3 B3 E0 H0
  have WK := Lib.hid (works9_any w3 (S3.out w3 (Below.refl _ _)).2.1)
  go_upto_region 3 with (go_at_call 19; refine WK.out.mono ?_; rintro e w4 ⟨rfl, b4⟩)
  have B4 := Lib.hid b4
  clear b4 WK
  obtain ⟨k0, k1, k2, k3⟩ := K5.out w4 B4.out
  have GR4 := Lib.hid (GR.out w4 (S3.out w4 B4.out).2.2)
  clear GR
  cases hS : greatB g with
  | true =>
    rw [hS] at GR4
    go_wp2_with (go_at_call 20; refine GR4.out.mono ?_; rintro e w5 ⟨rfl, b5⟩)
    go_ret
    exact ⟨rfl, (S3.out _ (then_below B4.out b5)).1⟩
  | false =>
    have SH := Lib.hid (great_small hS)
    rw [hS] at GR4
    clear hS
    by_cases hs8 : 8000 < s.length
    · go_wp2_with (go_at_call 20; refine GR4.out.mono ?_; rintro e w5 ⟨rfl, b5⟩)
      go_ret
      exact ⟨rfl, (S3.out _ (then_below B4.out b5)).1⟩
    obtain ⟨lc, ll, lo, lh, -, -, -⟩ := SH.out
    replace TO := Lib.hid (TO.out (by omega) (by omega) (by omega) (by omega))
    replace SM := Lib.hid (fun v2 => SM.out v2 (by omega) (by omega) (by omega) (by omega))
    have FF := Lib.hid (fun v2 w1 (h2 : Lies4 w1 v2 g) => fromG_any v2 g (by omega) (by omega) (by omega) (by omega) w1 h2)
    have PS := Lib.hid (fun W (hW : EnvG W) => parseP_any s (by omega) W hW.e hW.k)
    have hpg := parseV_pg ok_last s (by omega)
    have hok := fun h => parse_ok (ix := lastIx) (linesL s) 0 noG h
    have hbd := fun h => parse_bad (ix := lastIx) (linesL s) 0 noG h
    change (parseV lastIx s).2.2 = 0 → checkE (parseV lastIx s).1 = 0 ∧ (parseV lastIx s).2.1 = 0 at hok
    change (parseV lastIx s).2.2 ≠ 0 → (parseV lastIx s).1 = noG at hbd
    obtain ⟨gs, ns, es, hps⟩ : ∃ gs ns es, parseV lastIx s = (gs, ns, es) := ⟨_, _, _, rfl⟩
    rw [hps] at PS hpg hok hbd
    dsimp only at PS hpg hok hbd
    have HPG := Lib.hid hpg
    replace hok := Lib.hid hok
    replace hbd := Lib.hid hbd
    clear hps hpg lc ll lo lh
    have TX : Hid (∀ v', Rooms v' g → ∀ W, EnvG W → Lies4 W v' g → Calls Tryz.prog 21 #[gV v' g] W fun e w' => e = .returned (.tuple #[sV (textV g), .int .i64 (checkE g)]) ∧ Below W.heap.size W w') := Lib.hid fun v' R' W hW hL => text_any v' g (fit_small R' SH.out) I W hL hW.k hW.e.tab
    -- what is behind the first part, in any world
    have TAIL : Hid (∀ W, Below w3.heap.size w3 W → EnvG W) := Lib.hid fun W hW => (S3.out W hW).2.1
    go_upto_region 6 with (first
      | (go_at_call 21; refine (TX.out v6 R6 _ (S3.out _ B6.out).2.1 L6).mono ?_; rintro e w7 ⟨rfl, b7⟩; have B7 := Lib.hid (then_below B6.out b7); clear b7 L6 R6)
      | (go_at_call 22; refine (TO.out _ (S3.out _ B5.out).2.2).mono ?_; rintro e w6 ⟨v6, rfl, L6, R6, b6⟩; have B6 := Lib.hid (then_below B5.out b6); clear b6)
      | (go_at_call 20; refine GR4.out.mono ?_; rintro e w5 ⟨rfl, b5⟩; have B5 := Lib.hid (then_below B4.out b5); obtain ⟨k0, k1, k2, k3⟩ := K5.out w5 B5.out; clear b5))
    clear k0 k1 k2 k3 B5 B6 B4 GR4 TX TO
    by_cases hc : checkE g = 0
    · have HCK := Lib.hid hc
      have hlen := text_len hc I
      have ht : textV g = textG g := by unfold textV; rw [if_pos hc]
      have PT : Hid (∀ W, EnvG W → Calls Tryz.prog 15 #[sV (textV g)] W fun e w' => ∃ v', e = .returned (.tuple #[gV v' g, .int .i64 0, .int .i64 0]) ∧ Lies4 w' v' g ∧ Rooms v' g ∧ Below W.heap.size W w') := Lib.hid fun W hW => by
        have h := parseP_any (textG g) (by omega) W hW.e hW.k
        rw [parse_text ok_last I hc] at h
        rw [ht]
        exact h
      rw [hc]
      clear hc hlen ht
      generalize textV g = tz at PT ⊢
      go_upto_region 8 with (go_at_call 15; refine (PT.out _ (TAIL.out _ B7.out)).mono ?_; rintro e w8' ⟨z, rfl, L8, -, b8⟩)
      have OZ := Whole.fresh w8' 27 #[.slice z.a g.c.length z.i, .slice z.b g.l.length z.j, .slice z.d g.o.length z.k, .slice z.e g.h.length z.m]
      have f8 := fresh1 w8' (.cells #[.slice z.a g.c.length z.i, .slice z.b g.l.length z.j, .slice z.d g.o.length z.k, .slice z.e g.h.length z.m] 27)
      change Code.wp _ _ _ _ (w8'.alloc (.cells #[.slice z.a g.c.length z.i, .slice z.b g.l.length z.j, .slice z.d g.o.length z.k, .slice z.e g.h.length z.m] 27))
      generalize w8'.alloc (.cells #[.slice z.a g.c.length z.i, .slice z.b g.l.length z.j, .slice z.d g.o.length z.k, .slice z.e g.h.length z.m] 27) = w9 at OZ f8 ⊢
      have B9 := Lib.hid (then_below B7.out (then_below b8 f8))
      have L9 := Lib.hid (L8.below f8)
      generalize w8'.heap.size = gz at OZ ⊢
      have OZ9 := Lib.hid OZ
      clear OZ f8 b8 L8 B7
      have SZ : Hid (∀ W, Below w9.heap.size w9 W → ∀ i, W.cell? ⟨gz, i, none⟩ = (#[.slice z.a g.c.length z.i, .slice z.b g.l.length z.j, .slice z.d g.o.length z.k, .slice z.e g.h.length z.m] : Array Value)[i]?) := Lib.hid fun W hW => (OZ9.out.below hW OZ9.out.inside).read
      have SGi : Hid (∀ W, Below w9.heap.size w9 W → ∀ i, i < 4 → W.cell? ⟨gg, i, none⟩ = (#[.slice va g.c.length vi, .slice vb g.l.length vj, .slice vd g.o.length vk, .slice ve g.h.length vm] : Array Value)[i]?) := Lib.hid fun W hW i hi => by
        obtain ⟨q0, q1, q2, q3⟩ := K5.out W (then_below B9.out hW)
        match i, hi with
        | 0, _ => exact q0
        | 1, _ => exact q1
        | 2, _ => exact q2
        | 3, _ => exact q3
      have LZ : Hid (∀ W, Below w9.heap.size w9 W → Lies4 W z g ∧ Lies4 W ⟨va, vb, vd, ve, vi, vj, vk, vm⟩ g) := Lib.hid fun W hW => ⟨L9.out.below hW, (S3.out W (then_below B9.out hW)).2.2⟩
      refine region_want 95 [Is (.int .i64 0), Is (.bool false), Is (.bool false), Is (.int .i64 0), Is (.bool false), Is (.bool false), Is (.bool false), Is (.agg #[.slice z.a g.c.length z.i, .slice z.b g.l.length z.j, .slice z.d g.o.length z.k, .slice z.e g.h.length z.m]), FrP g, Is (.agg #[.slice va g.c.length vi, .slice vb g.l.length vj, .slice vd g.o.length vk, .slice ve g.h.length vm]), Is (.bool true), Is (.bool false), Is (.bool false)] (by kernel_rfl) rfl (by kernel_rfl) ?_ ?_
      · exact ⟨keeps_is _, keeps_is _, keeps_is _, keeps_is _, keeps_is _, keeps_is _, keeps_is _, keeps_is _, keeps_frP g, keeps_is _, keeps_is _, keeps_is _, keeps_is _, trivial⟩
      · intro fin hfin
        simp [lexPut, Act.put] at hfin
        refine ⟨⟨?_, ?_, ?_, ?_, ?_, ?_, ?_, ?_, ?_, ?_, ?_, ?_, ?_, trivial⟩, ?_⟩
        · intro v w8 hb hd
          refine done_plain rfl (yields_run (u := .int .i64 0) (w' := w8) ?_ (Below.refl _ _) rfl)
          rw [hfin]
          unfold execOp
          simp [go_sem, Act.eval]
        · intro v w8 hb hd
          have h0 : v 0 = .int .i64 0 := hd 0 (by kernel_rfl)
          refine done_plain rfl (yields_run (u := .bool false) (w' := w8) ?_ (Below.refl _ _) rfl)
          rw [hfin]
          unfold execOp
          simp [go_sem, Act.eval, h0]
        · intro v w8 hb hd
          have h1 : v 1 = .bool false := hd 1 (by kernel_rfl)
          refine done_plain rfl (yields_run (u := .bool false) (w' := w8) ?_ (Below.refl _ _) rfl)
          rw [hfin]
          unfold execOp
          simp [go_sem, Act.eval, h1]
        · intro v w8 hb hd
          have g2 : v 2 = .bool false := hd 2 (by kernel_rfl)
          refine done_want 2 false rfl g2 (yields_run (u := .int .i64 0) (w' := w8) ?_ (Below.refl _ _) rfl)
          rw [hfin]
          unfold execOp
          simp [go_sem, Act.eval]
        · intro v w8 hb hd
          have g2 : v 2 = .bool false := hd 2 (by kernel_rfl)
          have h3 : v 3 = .int .i64 0 := hd 3 (by kernel_rfl)
          refine done_want 2 false rfl g2 (yields_run (u := .bool false) (w' := w8) ?_ (Below.refl _ _) rfl)
          rw [hfin]
          unfold execOp
          simp [go_sem, Act.eval, h3]
        · intro v w8 hb hd
          have h2 : v 2 = .bool false := hd 2 (by kernel_rfl)
          have h4 : v 4 = .bool false := hd 4 (by kernel_rfl)
          refine done_plain rfl (yields_run (u := .bool false) (w' := w8) ?_ (Below.refl _ _) rfl)
          rw [hfin]
          unfold execOp
          simp [go_sem, Act.eval, h2, h4]
        · intro v w8 hb hd
          have h5 : v 5 = .bool false := hd 5 (by kernel_rfl)
          refine done_plain rfl (yields_run (u := .bool false) (w' := w8) ?_ (Below.refl _ _) rfl)
          rw [hfin]
          unfold execOp
          simp [go_sem, Act.eval, h5]
        · intro v w8 hb hd
          have g6 : v 6 = .bool false := hd 6 (by kernel_rfl)
          have k0 := SZ.out w8 hb 0
          have k1 := SZ.out w8 hb 1
          have k2 := SZ.out w8 hb 2
          have k3 := SZ.out w8 hb 3
          refine done_want 6 false rfl g6 (yields_run (u := .agg #[.slice z.a g.c.length z.i, .slice z.b g.l.length z.j, .slice z.d g.o.length z.k, .slice z.e g.h.length z.m]) (w' := w8) ?_ (Below.refl _ _) rfl)
          rw [hfin]
          unfold execOp
          simp [go_sem, Act.eval, k0, k1, k2, k3]
        · intro v w8 hb hd
          have g6 : v 6 = .bool false := hd 6 (by kernel_rfl)
          have h7 : v 7 = .agg #[.slice z.a g.c.length z.i, .slice z.b g.l.length z.j, .slice z.d g.o.length z.k, .slice z.e g.h.length z.m] := hd 7 (by kernel_rfl)
          refine done_want 6 false rfl g6 (yields_call (f := 18) rfl (vs := #[.agg #[.slice z.a g.c.length z.i, .slice z.b g.l.length z.j, .slice z.d g.o.length z.k, .slice z.e g.h.length z.m]]) (by rw [hfin]; simp [Act.eval, h7]) rfl Tryz.func18 (by kernel_rfl) (by kernel_rfl) ?_)
          exact (FF.out z w8 (LZ.out w8 hb).1).mono fun e w' ⟨v', he, hl, _, hb'⟩ => ⟨_, he, hb', v', rfl, hl⟩
        · intro v w8 hb hd
          have g6 : v 6 = .bool false := hd 6 (by kernel_rfl)
          have k0 := SGi.out w8 hb 0 (by decide)
          have k1 := SGi.out w8 hb 1 (by decide)
          have k2 := SGi.out w8 hb 2 (by decide)
          have k3 := SGi.out w8 hb 3 (by decide)
          refine done_want 6 false rfl g6 (yields_run (u := .agg #[.slice va g.c.length vi, .slice vb g.l.length vj, .slice vd g.o.length vk, .slice ve g.h.length vm]) (w' := w8) ?_ (Below.refl _ _) rfl)
          rw [hfin]
          unfold execOp
          simp [go_sem, Act.eval, k0, k1, k2, k3]
        · intro v w8 hb hd
          have g6 : v 6 = .bool false := hd 6 (by kernel_rfl)
          have h9 : v 9 = .agg #[.slice va g.c.length vi, .slice vb g.l.length vj, .slice vd g.o.length vk, .slice ve g.h.length vm] := hd 9 (by kernel_rfl)
          obtain ⟨u8, h8, l8⟩ : (FrP g) (v 8) w8 := hd 8 (by kernel_rfl)
          refine done_want 6 false rfl g6 (yields_call (f := 17) rfl (vs := #[gV u8 g, .agg #[.slice va g.c.length vi, .slice vb g.l.length vj, .slice vd g.o.length vk, .slice ve g.h.length vm]]) (by rw [hfin]; simp [Act.eval, h9, h8]) rfl Tryz.func17 (by kernel_rfl) (by kernel_rfl) ?_)
          exact (SM.out u8 w8 (LZ.out w8 hb).2 l8).mono fun e w' ⟨he, hb'⟩ => ⟨_, he, hb', rfl⟩
        · intro v w8 hb hd
          have g6 : v 6 = .bool false := hd 6 (by kernel_rfl)
          have h10 : v 10 = .bool true := hd 10 (by kernel_rfl)
          refine done_want 6 false rfl g6 (yields_run (u := .bool false) (w' := w8) ?_ (Below.refl _ _) rfl)
          rw [hfin]
          unfold execOp
          simp [go_sem, Act.eval, h10]
        · intro v w8 hb hd
          have h6 : v 6 = .bool false := hd 6 (by kernel_rfl)
          have h11 : v 11 = .bool false := hd 11 (by kernel_rfl)
          refine done_plain rfl (yields_run (u := .bool false) (w' := w8) ?_ (Below.refl _ _) rfl)
          rw [hfin]
          unfold execOp
          simp [go_sem, Act.eval, h6, h11]
        · intro v w8 hb hv
          have h12 : v 12 = .bool false := hv 12 (by decide)
          rw [hfin]
          generalize v 12 = v12 at h12 ⊢
          subst h12
          have B10 := Lib.hid (then_below B9.out hb)
          clear hfin hv hb
          go_upto_region 11 with (go_at_call 15; refine (PS.out _ (TAIL.out _ B10.out)).mono ?_; rintro e w10 ⟨x, rfl, L10, R10, b10⟩)
          have OX := Whole.fresh w10 27 #[.slice x.a gs.c.length x.i, .slice x.b gs.l.length x.j, .slice x.d gs.o.length x.k, .slice x.e gs.h.length x.m]
          have f10 := fresh1 w10 (.cells #[.slice x.a gs.c.length x.i, .slice x.b gs.l.length x.j, .slice x.d gs.o.length x.k, .slice x.e gs.h.length x.m] 27)
          change Code.wp _ _ _ _ (w10.alloc (.cells #[.slice x.a gs.c.length x.i, .slice x.b gs.l.length x.j, .slice x.d gs.o.length x.k, .slice x.e gs.h.length x.m] 27))
          generalize w10.alloc (.cells #[.slice x.a gs.c.length x.i, .slice x.b gs.l.length x.j, .slice x.d gs.o.length x.k, .slice x.e gs.h.length x.m] 27) = w11 at OX f10 ⊢
          have B11 := Lib.hid (then_below B10.out (then_below b10 f10))
          have L11 := Lib.hid (L10.below f10)
          generalize w10.heap.size = gx at OX ⊢
          have OX11 := Lib.hid OX
          clear OX f10 b10 L10
          by_cases he : es = 0
          case neg =>
            obtain rfl := hbd.out he
            have hne : (es == 0) = false := by rw [beq_eq_false_iff_ne]; exact he
            have x2 : w11.cell? ⟨gx, 2, none⟩ = some (.slice x.d 0 x.k) := OX11.out.read 2
            go_wp2_with fail
            go_ret
            exact ⟨rfl, (S3.out _ B11.out).1⟩
          subst he
          obtain ⟨hc, rfl⟩ := hok.out rfl
          have hlen := text_len hc HPG.out.i
          have h100 := len100 hc
          have FX := fit_check R10 HPG.out
          have TX : Hid (∀ W, EnvG W → Lies4 W x gs → Calls Tryz.prog 21 #[.agg #[.slice x.a gs.c.length x.i, .slice x.b gs.l.length x.j, .slice x.d gs.o.length x.k, .slice x.e gs.h.length x.m]] W fun e w' => e = .returned (.tuple #[sV (textG gs), .int .i64 0]) ∧ Below W.heap.size W w') := Lib.hid fun W hW hL => by
            have h := text_any x gs FX HPG.out.i W hL hW.k hW.e.tab
            have ht : textV gs = textG gs := by unfold textV; rw [if_pos hc]
            rw [ht, hc] at h
            exact h
          have CK : Hid (∀ W, EnvG W → Lies4 W x gs → Calls Tryz.prog 23 #[.agg #[.slice x.a gs.c.length x.i, .slice x.b gs.l.length x.j, .slice x.d gs.o.length x.k, .slice x.e gs.h.length x.m]] W fun e w' => e = .returned (.int .i64 0) ∧ Below W.heap.size W w') := Lib.hid fun W hW hL => by
            have h := check_any x gs FX HPG.out.i W hL hW.k
            rw [hc] at h
            exact h
          have PT : Hid (∀ W, EnvG W → Calls Tryz.prog 15 #[sV (textG gs)] W fun e w' => ∃ v', e = .returned (.tuple #[gV v' gs, .int .i64 0, .int .i64 0]) ∧ Lies4 w' v' gs ∧ Rooms v' gs ∧ Below W.heap.size W w') := Lib.hid fun W hW => by
            have h := parseP_any (textG gs) (by omega) W hW.e hW.k
            rw [parse_text ok_last HPG.out.i hc] at h
            exact h
          have FF2 := Lib.hid (fun v2 w1 (h2 : Lies4 w1 v2 gs) => fromG_any v2 gs h100.1 h100.2.1 h100.2.2.1 h100.2.2.2 w1 h2)
          have SM2 := Lib.hid (fun u v w1 (h1 : Lies4 w1 u gs) (h2 : Lies4 w1 v gs) => sameG_any u v gs w1 h1 h2 h100.1 h100.2.1 h100.2.2.1 h100.2.2.2)
          generalize textG gs = tx at TX PT
          clear hlen h100 FX R10 hc hok hbd PS HPG
          have S11 : Hid (∀ W, Below w11.heap.size w11 W → Below w3.heap.size w3 W ∧ EnvG W ∧ Lies4 W x gs) := Lib.hid fun W hW => ⟨then_below B11.out hW, TAIL.out _ (then_below B11.out hW), L11.out.below hW⟩
          have SX : Hid (∀ W, Below w11.heap.size w11 W → W.cell? ⟨gx, 0, none⟩ = some (.slice x.a gs.c.length x.i) ∧ W.cell? ⟨gx, 1, none⟩ = some (.slice x.b gs.l.length x.j) ∧ W.cell? ⟨gx, 2, none⟩ = some (.slice x.d gs.o.length x.k) ∧ W.cell? ⟨gx, 3, none⟩ = some (.slice x.e gs.h.length x.m)) := Lib.hid fun W hW => ⟨(OX11.out.below hW OX11.out.inside).read 0, (OX11.out.below hW OX11.out.inside).read 1, (OX11.out.below hW OX11.out.inside).read 2, (OX11.out.below hW OX11.out.inside).read 3⟩
          clear OX11 L11 B11
          obtain ⟨q0, q1, q2, q3⟩ := SX.out w11 (Below.refl _ _)
          go_upto_region 14 with (go_at_call 21; refine (TX.out _ (S11.out _ (Below.refl _ _)).2.1 (S11.out _ (Below.refl _ _)).2.2).mono ?_; rintro e w12 ⟨rfl, b12⟩)
          have B12 := Lib.hid b12
          clear q0 q1 q2 q3 b12
          go_upto_region 15 with (go_at_call 15; refine (PT.out _ (S11.out _ B12.out).2.1).mono ?_; rintro e w13 ⟨y, rfl, L13, -, b13⟩)
          have OY := Whole.fresh w13 27 #[.slice y.a gs.c.length y.i, .slice y.b gs.l.length y.j, .slice y.d gs.o.length y.k, .slice y.e gs.h.length y.m]
          have f13 := fresh1 w13 (.cells #[.slice y.a gs.c.length y.i, .slice y.b gs.l.length y.j, .slice y.d gs.o.length y.k, .slice y.e gs.h.length y.m] 27)
          change Code.wp _ _ _ _ (w13.alloc (.cells #[.slice y.a gs.c.length y.i, .slice y.b gs.l.length y.j, .slice y.d gs.o.length y.k, .slice y.e gs.h.length y.m] 27))
          generalize w13.alloc (.cells #[.slice y.a gs.c.length y.i, .slice y.b gs.l.length y.j, .slice y.d gs.o.length y.k, .slice y.e gs.h.length y.m] 27) = w14 at OY f13 ⊢
          have B14 := Lib.hid (then_below B12.out (then_below b13 f13))
          have L14 := Lib.hid (L13.below f13)
          generalize w13.heap.size = gy at OY ⊢
          have OY14 := Lib.hid OY
          clear OY f13 b13 L13 B12
          have S14 : Hid (∀ W, Below w14.heap.size w14 W → Below w11.heap.size w11 W ∧ EnvG W ∧ Lies4 W x gs ∧ Lies4 W y gs) := Lib.hid fun W hW => ⟨then_below B14.out hW, (S11.out W (then_below B14.out hW)).2.1, (S11.out W (then_below B14.out hW)).2.2, L14.out.below hW⟩
          have SY : Hid (∀ W, Below w14.heap.size w14 W → ∀ i, W.cell? ⟨gy, i, none⟩ = (#[.slice y.a gs.c.length y.i, .slice y.b gs.l.length y.j, .slice y.d gs.o.length y.k, .slice y.e gs.h.length y.m] : Array Value)[i]?) := Lib.hid fun W hW => (OY14.out.below hW OY14.out.inside).read
          have SXi : Hid (∀ W, Below w14.heap.size w14 W → ∀ i, i < 4 → W.cell? ⟨gx, i, none⟩ = (#[.slice x.a gs.c.length x.i, .slice x.b gs.l.length x.j, .slice x.d gs.o.length x.k, .slice x.e gs.h.length x.m] : Array Value)[i]?) := Lib.hid fun W hW i hi => by
            obtain ⟨q0, q1, q2, q3⟩ := SX.out W (then_below B14.out hW)
            match i, hi with
            | 0, _ => exact q0
            | 1, _ => exact q1
            | 2, _ => exact q2
            | 3, _ => exact q3
          clear OY14 L14
          refine region_want 95 [Is (.int .i64 0), Is (.bool true), Is (.bool true), Is (.int .i64 0), Is (.bool true), Is (.bool true), Is (.bool true), Is (.agg #[.slice y.a gs.c.length y.i, .slice y.b gs.l.length y.j, .slice y.d gs.o.length y.k, .slice y.e gs.h.length y.m]), FrP gs, Is (.agg #[.slice x.a gs.c.length x.i, .slice x.b gs.l.length x.j, .slice x.d gs.o.length x.k, .slice x.e gs.h.length x.m]), FrP gs, Is (.bool true), Is (.bool true), Is (.bool true), Is (.agg #[.slice x.a gs.c.length x.i, .slice x.b gs.l.length x.j, .slice x.d gs.o.length x.k, .slice x.e gs.h.length x.m]), Is (.int .i64 0), Is (.bool true), Is (.bool true), Is (.bool true)] (by kernel_rfl) rfl (by kernel_rfl) ?_ ?_
          · exact ⟨keeps_is _, keeps_is _, keeps_is _, keeps_is _, keeps_is _, keeps_is _, keeps_is _, keeps_is _, keeps_frP gs, keeps_is _, keeps_frP gs, keeps_is _, keeps_is _, keeps_is _, keeps_is _, keeps_is _, keeps_is _, keeps_is _, keeps_is _, trivial⟩
          · intro fin hfin
            simp [lexPut, Act.put] at hfin
            refine ⟨⟨?_, ?_, ?_, ?_, ?_, ?_, ?_, ?_, ?_, ?_, ?_, ?_, ?_, ?_, ?_, ?_, ?_, ?_, ?_, trivial⟩, ?_⟩
            · intro v w8 hb hd
              refine done_plain rfl (yields_run (u := .int .i64 0) (w' := w8) ?_ (Below.refl _ _) rfl)
              rw [hfin]
              unfold execOp
              simp [go_sem, Act.eval]
            · intro v w8 hb hd
              have h0 : v 0 = .int .i64 0 := hd 0 (by kernel_rfl)
              refine done_plain rfl (yields_run (u := .bool true) (w' := w8) ?_ (Below.refl _ _) rfl)
              rw [hfin]
              unfold execOp
              simp [go_sem, Act.eval, h0]
            · intro v w8 hb hd
              have h1 : v 1 = .bool true := hd 1 (by kernel_rfl)
              refine done_plain rfl (yields_run (u := .bool true) (w' := w8) ?_ (Below.refl _ _) rfl)
              rw [hfin]
              unfold execOp
              simp [go_sem, Act.eval, h1]
            · intro v w8 hb hd
              have g2 : v 2 = .bool true := hd 2 (by kernel_rfl)
              refine done_want 2 true rfl g2 (yields_run (u := .int .i64 0) (w' := w8) ?_ (Below.refl _ _) rfl)
              rw [hfin]
              unfold execOp
              simp [go_sem, Act.eval]
            · intro v w8 hb hd
              have g2 : v 2 = .bool true := hd 2 (by kernel_rfl)
              have h3 : v 3 = .int .i64 0 := hd 3 (by kernel_rfl)
              refine done_want 2 true rfl g2 (yields_run (u := .bool true) (w' := w8) ?_ (Below.refl _ _) rfl)
              rw [hfin]
              unfold execOp
              simp [go_sem, Act.eval, h3]
            · intro v w8 hb hd
              have h2 : v 2 = .bool true := hd 2 (by kernel_rfl)
              have h4 : v 4 = .bool true := hd 4 (by kernel_rfl)
              refine done_plain rfl (yields_run (u := .bool true) (w' := w8) ?_ (Below.refl _ _) rfl)
              rw [hfin]
              unfold execOp
              simp [go_sem, Act.eval, h2, h4]
            · intro v w8 hb hd
              have h5 : v 5 = .bool true := hd 5 (by kernel_rfl)
              refine done_plain rfl (yields_run (u := .bool true) (w' := w8) ?_ (Below.refl _ _) rfl)
              rw [hfin]
              unfold execOp
              simp [go_sem, Act.eval, h5]
            · intro v w8 hb hd
              have g6 : v 6 = .bool true := hd 6 (by kernel_rfl)
              have k0 := SY.out w8 hb 0
              have k1 := SY.out w8 hb 1
              have k2 := SY.out w8 hb 2
              have k3 := SY.out w8 hb 3
              refine done_want 6 true rfl g6 (yields_run (u := .agg #[.slice y.a gs.c.length y.i, .slice y.b gs.l.length y.j, .slice y.d gs.o.length y.k, .slice y.e gs.h.length y.m]) (w' := w8) ?_ (Below.refl _ _) rfl)
              rw [hfin]
              unfold execOp
              simp [go_sem, Act.eval, k0, k1, k2, k3]
            · intro v w8 hb hd
              have g6 : v 6 = .bool true := hd 6 (by kernel_rfl)
              have h7 : v 7 = .agg #[.slice y.a gs.c.length y.i, .slice y.b gs.l.length y.j, .slice y.d gs.o.length y.k, .slice y.e gs.h.length y.m] := hd 7 (by kernel_rfl)
              refine done_want 6 true rfl g6 (yields_call (f := 18) rfl (vs := #[.agg #[.slice y.a gs.c.length y.i, .slice y.b gs.l.length y.j, .slice y.d gs.o.length y.k, .slice y.e gs.h.length y.m]]) (by rw [hfin]; simp [Act.eval, h7]) rfl Tryz.func18 (by kernel_rfl) (by kernel_rfl) ?_)
              exact (FF2.out y w8 (S14.out w8 hb).2.2.2).mono fun e w' ⟨v', he, hl, _, hb'⟩ => ⟨_, he, hb', v', rfl, hl⟩
            · intro v w8 hb hd
              have g6 : v 6 = .bool true := hd 6 (by kernel_rfl)
              have k0 := SXi.out w8 hb 0 (by decide)
              have k1 := SXi.out w8 hb 1 (by decide)
              have k2 := SXi.out w8 hb 2 (by decide)
              have k3 := SXi.out w8 hb 3 (by decide)
              refine done_want 6 true rfl g6 (yields_run (u := .agg #[.slice x.a gs.c.length x.i, .slice x.b gs.l.length x.j, .slice x.d gs.o.length x.k, .slice x.e gs.h.length x.m]) (w' := w8) ?_ (Below.refl _ _) rfl)
              rw [hfin]
              unfold execOp
              simp [go_sem, Act.eval, k0, k1, k2, k3]
            · intro v w8 hb hd
              have g6 : v 6 = .bool true := hd 6 (by kernel_rfl)
              have h9 : v 9 = .agg #[.slice x.a gs.c.length x.i, .slice x.b gs.l.length x.j, .slice x.d gs.o.length x.k, .slice x.e gs.h.length x.m] := hd 9 (by kernel_rfl)
              refine done_want 6 true rfl g6 (yields_call (f := 18) rfl (vs := #[.agg #[.slice x.a gs.c.length x.i, .slice x.b gs.l.length x.j, .slice x.d gs.o.length x.k, .slice x.e gs.h.length x.m]]) (by rw [hfin]; simp [Act.eval, h9]) rfl Tryz.func18 (by kernel_rfl) (by kernel_rfl) ?_)
              exact (FF2.out x w8 (S14.out w8 hb).2.2.1).mono fun e w' ⟨v', he, hl, _, hb'⟩ => ⟨_, he, hb', v', rfl, hl⟩
            · intro v w8 hb hd
              have g6 : v 6 = .bool true := hd 6 (by kernel_rfl)
              obtain ⟨u8, h8, l8⟩ : (FrP gs) (v 8) w8 := hd 8 (by kernel_rfl)
              obtain ⟨u10, h10, l10⟩ : (FrP gs) (v 10) w8 := hd 10 (by kernel_rfl)
              refine done_want 6 true rfl g6 (yields_call (f := 17) rfl (vs := #[gV u8 gs, gV u10 gs]) (by rw [hfin]; simp [Act.eval, h8, h10]) rfl Tryz.func17 (by kernel_rfl) (by kernel_rfl) ?_)
              exact (SM2.out u8 u10 w8 l8 l10).mono fun e w' ⟨he, hb'⟩ => ⟨_, he, hb', rfl⟩
            · intro v w8 hb hd
              have h6 : v 6 = .bool true := hd 6 (by kernel_rfl)
              have h11 : v 11 = .bool true := hd 11 (by kernel_rfl)
              refine done_plain rfl (yields_run (u := .bool true) (w' := w8) ?_ (Below.refl _ _) rfl)
              rw [hfin]
              unfold execOp
              simp [go_sem, Act.eval, h6, h11]
            · intro v w8 hb hd
              have h12 : v 12 = .bool true := hd 12 (by kernel_rfl)
              refine done_plain rfl (yields_run (u := .bool true) (w' := w8) ?_ (Below.refl _ _) rfl)
              rw [hfin]
              unfold execOp
              simp [go_sem, Act.eval, h12]
            · intro v w8 hb hd
              have g13 : v 13 = .bool true := hd 13 (by kernel_rfl)
              have k0 := SXi.out w8 hb 0 (by decide)
              have k1 := SXi.out w8 hb 1 (by decide)
              have k2 := SXi.out w8 hb 2 (by decide)
              have k3 := SXi.out w8 hb 3 (by decide)
              refine done_want 13 true rfl g13 (yields_run (u := .agg #[.slice x.a gs.c.length x.i, .slice x.b gs.l.length x.j, .slice x.d gs.o.length x.k, .slice x.e gs.h.length x.m]) (w' := w8) ?_ (Below.refl _ _) rfl)
              rw [hfin]
              unfold execOp
              simp [go_sem, Act.eval, k0, k1, k2, k3]
            · intro v w8 hb hd
              have g13 : v 13 = .bool true := hd 13 (by kernel_rfl)
              have h14 : v 14 = .agg #[.slice x.a gs.c.length x.i, .slice x.b gs.l.length x.j, .slice x.d gs.o.length x.k, .slice x.e gs.h.length x.m] := hd 14 (by kernel_rfl)
              refine done_want 13 true rfl g13 (yields_call (f := 23) rfl (vs := #[.agg #[.slice x.a gs.c.length x.i, .slice x.b gs.l.length x.j, .slice x.d gs.o.length x.k, .slice x.e gs.h.length x.m]]) (by rw [hfin]; simp [Act.eval, h14]) rfl Tryz.func23 (by kernel_rfl) (by kernel_rfl) ?_)
              exact (CK.out w8 (S14.out w8 hb).2.1 (S14.out w8 hb).2.2.1).mono fun e w' ⟨he, hb'⟩ => ⟨_, he, hb', rfl⟩
            · intro v w8 hb hd
              have g13 : v 13 = .bool true := hd 13 (by kernel_rfl)
              have h15 : v 15 = .int .i64 0 := hd 15 (by kernel_rfl)
              refine done_want 13 true rfl g13 (yields_run (u := .bool true) (w' := w8) ?_ (Below.refl _ _) rfl)
              rw [hfin]
              unfold execOp
              simp [go_sem, Act.eval, h15]
            · intro v w8 hb hd
              have h13 : v 13 = .bool true := hd 13 (by kernel_rfl)
              have h16 : v 16 = .bool true := hd 16 (by kernel_rfl)
              refine done_plain rfl (yields_run (u := .bool true) (w' := w8) ?_ (Below.refl _ _) rfl)
              rw [hfin]
              unfold execOp
              simp [go_sem, Act.eval, h13, h16]
            · intro v w8 hb hd
              have h17 : v 17 = .bool true := hd 17 (by kernel_rfl)
              refine done_plain rfl (yields_run (u := .bool true) (w' := w8) ?_ (Below.refl _ _) rfl)
              rw [hfin]
              unfold execOp
              simp [go_sem, Act.eval, h17]
            · intro v w8 hb hv
              have h18 : v 18 = .bool true := hv 18 (by decide)
              rw [hfin]
              generalize v 18 = v18 at h18 ⊢
              subst h18
              have B20 := Lib.hid (S14.out w8 hb).1
              clear hfin hv hb
              go_wp2_with fail
              go_ret
              exact ⟨rfl, (S3.out _ (S11.out _ B20.out).1).1⟩
    · have hne : (checkE g == 0) = false := by rw [beq_eq_false_iff_ne]; exact hc
      generalize checkE g = ce at hne ⊢
      clear FF SM
      go_upto_region 11 with (go_at_call 15; refine (PS.out _ (TAIL.out _ B7.out)).mono ?_; rintro e w10 ⟨x, rfl, L10, R10, b10⟩)
      have OX := Whole.fresh w10 27 #[.slice x.a gs.c.length x.i, .slice x.b gs.l.length x.j, .slice x.d gs.o.length x.k, .slice x.e gs.h.length x.m]
      have f10 := fresh1 w10 (.cells #[.slice x.a gs.c.length x.i, .slice x.b gs.l.length x.j, .slice x.d gs.o.length x.k, .slice x.e gs.h.length x.m] 27)
      change Code.wp _ _ _ _ (w10.alloc (.cells #[.slice x.a gs.c.length x.i, .slice x.b gs.l.length x.j, .slice x.d gs.o.length x.k, .slice x.e gs.h.length x.m] 27))
      generalize w10.alloc (.cells #[.slice x.a gs.c.length x.i, .slice x.b gs.l.length x.j, .slice x.d gs.o.length x.k, .slice x.e gs.h.length x.m] 27) = w11 at OX f10 ⊢
      have B11 := Lib.hid (then_below B7.out (then_below b10 f10))
      have L11 := Lib.hid (L10.below f10)
      generalize w10.heap.size = gx at OX ⊢
      have OX11 := Lib.hid OX
      clear OX f10 b10 L10
      by_cases he : es = 0
      case neg =>
        obtain rfl := hbd.out he
        have hne : (es == 0) = false := by rw [beq_eq_false_iff_ne]; exact he
        have x2 : w11.cell? ⟨gx, 2, none⟩ = some (.slice x.d 0 x.k) := OX11.out.read 2
        go_wp2_with fail
        go_ret
        exact ⟨rfl, (S3.out _ B11.out).1⟩
      subst he
      obtain ⟨hc, rfl⟩ := hok.out rfl
      have hlen := text_len hc HPG.out.i
      have h100 := len100 hc
      have FX := fit_check R10 HPG.out
      have TX : Hid (∀ W, EnvG W → Lies4 W x gs → Calls Tryz.prog 21 #[.agg #[.slice x.a gs.c.length x.i, .slice x.b gs.l.length x.j, .slice x.d gs.o.length x.k, .slice x.e gs.h.length x.m]] W fun e w' => e = .returned (.tuple #[sV (textG gs), .int .i64 0]) ∧ Below W.heap.size W w') := Lib.hid fun W hW hL => by
        have h := text_any x gs FX HPG.out.i W hL hW.k hW.e.tab
        have ht : textV gs = textG gs := by unfold textV; rw [if_pos hc]
        rw [ht, hc] at h
        exact h
      have CK : Hid (∀ W, EnvG W → Lies4 W x gs → Calls Tryz.prog 23 #[.agg #[.slice x.a gs.c.length x.i, .slice x.b gs.l.length x.j, .slice x.d gs.o.length x.k, .slice x.e gs.h.length x.m]] W fun e w' => e = .returned (.int .i64 0) ∧ Below W.heap.size W w') := Lib.hid fun W hW hL => by
        have h := check_any x gs FX HPG.out.i W hL hW.k
        rw [hc] at h
        exact h
      have PT : Hid (∀ W, EnvG W → Calls Tryz.prog 15 #[sV (textG gs)] W fun e w' => ∃ v', e = .returned (.tuple #[gV v' gs, .int .i64 0, .int .i64 0]) ∧ Lies4 w' v' gs ∧ Rooms v' gs ∧ Below W.heap.size W w') := Lib.hid fun W hW => by
        have h := parseP_any (textG gs) (by omega) W hW.e hW.k
        rw [parse_text ok_last HPG.out.i hc] at h
        exact h
      have FF2 := Lib.hid (fun v2 w1 (h2 : Lies4 w1 v2 gs) => fromG_any v2 gs h100.1 h100.2.1 h100.2.2.1 h100.2.2.2 w1 h2)
      have SM2 := Lib.hid (fun u v w1 (h1 : Lies4 w1 u gs) (h2 : Lies4 w1 v gs) => sameG_any u v gs w1 h1 h2 h100.1 h100.2.1 h100.2.2.1 h100.2.2.2)
      generalize textG gs = tx at TX PT
      clear hlen h100 FX R10 hc hok hbd PS HPG
      have S11 : Hid (∀ W, Below w11.heap.size w11 W → Below w3.heap.size w3 W ∧ EnvG W ∧ Lies4 W x gs) := Lib.hid fun W hW => ⟨then_below B11.out hW, TAIL.out _ (then_below B11.out hW), L11.out.below hW⟩
      have SX : Hid (∀ W, Below w11.heap.size w11 W → W.cell? ⟨gx, 0, none⟩ = some (.slice x.a gs.c.length x.i) ∧ W.cell? ⟨gx, 1, none⟩ = some (.slice x.b gs.l.length x.j) ∧ W.cell? ⟨gx, 2, none⟩ = some (.slice x.d gs.o.length x.k) ∧ W.cell? ⟨gx, 3, none⟩ = some (.slice x.e gs.h.length x.m)) := Lib.hid fun W hW => ⟨(OX11.out.below hW OX11.out.inside).read 0, (OX11.out.below hW OX11.out.inside).read 1, (OX11.out.below hW OX11.out.inside).read 2, (OX11.out.below hW OX11.out.inside).read 3⟩
      clear OX11 L11 B11
      obtain ⟨q0, q1, q2, q3⟩ := SX.out w11 (Below.refl _ _)
      go_upto_region 14 with (go_at_call 21; refine (TX.out _ (S11.out _ (Below.refl _ _)).2.1 (S11.out _ (Below.refl _ _)).2.2).mono ?_; rintro e w12 ⟨rfl, b12⟩)
      have B12 := Lib.hid b12
      clear q0 q1 q2 q3 b12
      go_upto_region 15 with (go_at_call 15; refine (PT.out _ (S11.out _ B12.out).2.1).mono ?_; rintro e w13 ⟨y, rfl, L13, -, b13⟩)
      have OY := Whole.fresh w13 27 #[.slice y.a gs.c.length y.i, .slice y.b gs.l.length y.j, .slice y.d gs.o.length y.k, .slice y.e gs.h.length y.m]
      have f13 := fresh1 w13 (.cells #[.slice y.a gs.c.length y.i, .slice y.b gs.l.length y.j, .slice y.d gs.o.length y.k, .slice y.e gs.h.length y.m] 27)
      change Code.wp _ _ _ _ (w13.alloc (.cells #[.slice y.a gs.c.length y.i, .slice y.b gs.l.length y.j, .slice y.d gs.o.length y.k, .slice y.e gs.h.length y.m] 27))
      generalize w13.alloc (.cells #[.slice y.a gs.c.length y.i, .slice y.b gs.l.length y.j, .slice y.d gs.o.length y.k, .slice y.e gs.h.length y.m] 27) = w14 at OY f13 ⊢
      have B14 := Lib.hid (then_below B12.out (then_below b13 f13))
      have L14 := Lib.hid (L13.below f13)
      generalize w13.heap.size = gy at OY ⊢
      have OY14 := Lib.hid OY
      clear OY f13 b13 L13 B12
      have S14 : Hid (∀ W, Below w14.heap.size w14 W → Below w11.heap.size w11 W ∧ EnvG W ∧ Lies4 W x gs ∧ Lies4 W y gs) := Lib.hid fun W hW => ⟨then_below B14.out hW, (S11.out W (then_below B14.out hW)).2.1, (S11.out W (then_below B14.out hW)).2.2, L14.out.below hW⟩
      have SY : Hid (∀ W, Below w14.heap.size w14 W → ∀ i, W.cell? ⟨gy, i, none⟩ = (#[.slice y.a gs.c.length y.i, .slice y.b gs.l.length y.j, .slice y.d gs.o.length y.k, .slice y.e gs.h.length y.m] : Array Value)[i]?) := Lib.hid fun W hW => (OY14.out.below hW OY14.out.inside).read
      have SXi : Hid (∀ W, Below w14.heap.size w14 W → ∀ i, i < 4 → W.cell? ⟨gx, i, none⟩ = (#[.slice x.a gs.c.length x.i, .slice x.b gs.l.length x.j, .slice x.d gs.o.length x.k, .slice x.e gs.h.length x.m] : Array Value)[i]?) := Lib.hid fun W hW i hi => by
        obtain ⟨q0, q1, q2, q3⟩ := SX.out W (then_below B14.out hW)
        match i, hi with
        | 0, _ => exact q0
        | 1, _ => exact q1
        | 2, _ => exact q2
        | 3, _ => exact q3
      clear OY14 L14
      refine region_want 95 [Is (.int .i64 0), Is (.bool true), Is (.bool true), Is (.int .i64 0), Is (.bool true), Is (.bool true), Is (.bool true), Is (.agg #[.slice y.a gs.c.length y.i, .slice y.b gs.l.length y.j, .slice y.d gs.o.length y.k, .slice y.e gs.h.length y.m]), FrP gs, Is (.agg #[.slice x.a gs.c.length x.i, .slice x.b gs.l.length x.j, .slice x.d gs.o.length x.k, .slice x.e gs.h.length x.m]), FrP gs, Is (.bool true), Is (.bool true), Is (.bool true), Is (.agg #[.slice x.a gs.c.length x.i, .slice x.b gs.l.length x.j, .slice x.d gs.o.length x.k, .slice x.e gs.h.length x.m]), Is (.int .i64 0), Is (.bool true), Is (.bool true), Is (.bool true)] (by kernel_rfl) rfl (by kernel_rfl) ?_ ?_
      · exact ⟨keeps_is _, keeps_is _, keeps_is _, keeps_is _, keeps_is _, keeps_is _, keeps_is _, keeps_is _, keeps_frP gs, keeps_is _, keeps_frP gs, keeps_is _, keeps_is _, keeps_is _, keeps_is _, keeps_is _, keeps_is _, keeps_is _, keeps_is _, trivial⟩
      · intro fin hfin
        simp [lexPut, Act.put] at hfin
        refine ⟨⟨?_, ?_, ?_, ?_, ?_, ?_, ?_, ?_, ?_, ?_, ?_, ?_, ?_, ?_, ?_, ?_, ?_, ?_, ?_, trivial⟩, ?_⟩
        · intro v w8 hb hd
          refine done_plain rfl (yields_run (u := .int .i64 0) (w' := w8) ?_ (Below.refl _ _) rfl)
          rw [hfin]
          unfold execOp
          simp [go_sem, Act.eval]
        · intro v w8 hb hd
          have h0 : v 0 = .int .i64 0 := hd 0 (by kernel_rfl)
          refine done_plain rfl (yields_run (u := .bool true) (w' := w8) ?_ (Below.refl _ _) rfl)
          rw [hfin]
          unfold execOp
          simp [go_sem, Act.eval, h0]
        · intro v w8 hb hd
          have h1 : v 1 = .bool true := hd 1 (by kernel_rfl)
          refine done_plain rfl (yields_run (u := .bool true) (w' := w8) ?_ (Below.refl _ _) rfl)
          rw [hfin]
          unfold execOp
          simp [go_sem, Act.eval, h1]
        · intro v w8 hb hd
          have g2 : v 2 = .bool true := hd 2 (by kernel_rfl)
          refine done_want 2 true rfl g2 (yields_run (u := .int .i64 0) (w' := w8) ?_ (Below.refl _ _) rfl)
          rw [hfin]
          unfold execOp
          simp [go_sem, Act.eval]
        · intro v w8 hb hd
          have g2 : v 2 = .bool true := hd 2 (by kernel_rfl)
          have h3 : v 3 = .int .i64 0 := hd 3 (by kernel_rfl)
          refine done_want 2 true rfl g2 (yields_run (u := .bool true) (w' := w8) ?_ (Below.refl _ _) rfl)
          rw [hfin]
          unfold execOp
          simp [go_sem, Act.eval, h3]
        · intro v w8 hb hd
          have h2 : v 2 = .bool true := hd 2 (by kernel_rfl)
          have h4 : v 4 = .bool true := hd 4 (by kernel_rfl)
          refine done_plain rfl (yields_run (u := .bool true) (w' := w8) ?_ (Below.refl _ _) rfl)
          rw [hfin]
          unfold execOp
          simp [go_sem, Act.eval, h2, h4]
        · intro v w8 hb hd
          have h5 : v 5 = .bool true := hd 5 (by kernel_rfl)
          refine done_plain rfl (yields_run (u := .bool true) (w' := w8) ?_ (Below.refl _ _) rfl)
          rw [hfin]
          unfold execOp
          simp [go_sem, Act.eval, h5]
        · intro v w8 hb hd
          have g6 : v 6 = .bool true := hd 6 (by kernel_rfl)
          have k0 := SY.out w8 hb 0
          have k1 := SY.out w8 hb 1
          have k2 := SY.out w8 hb 2
          have k3 := SY.out w8 hb 3
          refine done_want 6 true rfl g6 (yields_run (u := .agg #[.slice y.a gs.c.length y.i, .slice y.b gs.l.length y.j, .slice y.d gs.o.length y.k, .slice y.e gs.h.length y.m]) (w' := w8) ?_ (Below.refl _ _) rfl)
          rw [hfin]
          unfold execOp
          simp [go_sem, Act.eval, k0, k1, k2, k3]
        · intro v w8 hb hd
          have g6 : v 6 = .bool true := hd 6 (by kernel_rfl)
          have h7 : v 7 = .agg #[.slice y.a gs.c.length y.i, .slice y.b gs.l.length y.j, .slice y.d gs.o.length y.k, .slice y.e gs.h.length y.m] := hd 7 (by kernel_rfl)
          refine done_want 6 true rfl g6 (yields_call (f := 18) rfl (vs := #[.agg #[.slice y.a gs.c.length y.i, .slice y.b gs.l.length y.j, .slice y.d gs.o.length y.k, .slice y.e gs.h.length y.m]]) (by rw [hfin]; simp [Act.eval, h7]) rfl Tryz.func18 (by kernel_rfl) (by kernel_rfl) ?_)
          exact (FF2.out y w8 (S14.out w8 hb).2.2.2).mono fun e w' ⟨v', he, hl, _, hb'⟩ => ⟨_, he, hb', v', rfl, hl⟩
        · intro v w8 hb hd
          have g6 : v 6 = .bool true := hd 6 (by kernel_rfl)
          have k0 := SXi.out w8 hb 0 (by decide)
          have k1 := SXi.out w8 hb 1 (by decide)
          have k2 := SXi.out w8 hb 2 (by decide)
          have k3 := SXi.out w8 hb 3 (by decide)
          refine done_want 6 true rfl g6 (yields_run (u := .agg #[.slice x.a gs.c.length x.i, .slice x.b gs.l.length x.j, .slice x.d gs.o.length x.k, .slice x.e gs.h.length x.m]) (w' := w8) ?_ (Below.refl _ _) rfl)
          rw [hfin]
          unfold execOp
          simp [go_sem, Act.eval, k0, k1, k2, k3]
        · intro v w8 hb hd
          have g6 : v 6 = .bool true := hd 6 (by kernel_rfl)
          have h9 : v 9 = .agg #[.slice x.a gs.c.length x.i, .slice x.b gs.l.length x.j, .slice x.d gs.o.length x.k, .slice x.e gs.h.length x.m] := hd 9 (by kernel_rfl)
          refine done_want 6 true rfl g6 (yields_call (f := 18) rfl (vs := #[.agg #[.slice x.a gs.c.length x.i, .slice x.b gs.l.length x.j, .slice x.d gs.o.length x.k, .slice x.e gs.h.length x.m]]) (by rw [hfin]; simp [Act.eval, h9]) rfl Tryz.func18 (by kernel_rfl) (by kernel_rfl) ?_)
          exact (FF2.out x w8 (S14.out w8 hb).2.2.1).mono fun e w' ⟨v', he, hl, _, hb'⟩ => ⟨_, he, hb', v', rfl, hl⟩
        · intro v w8 hb hd
          have g6 : v 6 = .bool true := hd 6 (by kernel_rfl)
          obtain ⟨u8, h8, l8⟩ : (FrP gs) (v 8) w8 := hd 8 (by kernel_rfl)
          obtain ⟨u10, h10, l10⟩ : (FrP gs) (v 10) w8 := hd 10 (by kernel_rfl)
          refine done_want 6 true rfl g6 (yields_call (f := 17) rfl (vs := #[gV u8 gs, gV u10 gs]) (by rw [hfin]; simp [Act.eval, h8, h10]) rfl Tryz.func17 (by kernel_rfl) (by kernel_rfl) ?_)
          exact (SM2.out u8 u10 w8 l8 l10).mono fun e w' ⟨he, hb'⟩ => ⟨_, he, hb', rfl⟩
        · intro v w8 hb hd
          have h6 : v 6 = .bool true := hd 6 (by kernel_rfl)
          have h11 : v 11 = .bool true := hd 11 (by kernel_rfl)
          refine done_plain rfl (yields_run (u := .bool true) (w' := w8) ?_ (Below.refl _ _) rfl)
          rw [hfin]
          unfold execOp
          simp [go_sem, Act.eval, h6, h11]
        · intro v w8 hb hd
          have h12 : v 12 = .bool true := hd 12 (by kernel_rfl)
          refine done_plain rfl (yields_run (u := .bool true) (w' := w8) ?_ (Below.refl _ _) rfl)
          rw [hfin]
          unfold execOp
          simp [go_sem, Act.eval, h12]
        · intro v w8 hb hd
          have g13 : v 13 = .bool true := hd 13 (by kernel_rfl)
          have k0 := SXi.out w8 hb 0 (by decide)
          have k1 := SXi.out w8 hb 1 (by decide)
          have k2 := SXi.out w8 hb 2 (by decide)
          have k3 := SXi.out w8 hb 3 (by decide)
          refine done_want 13 true rfl g13 (yields_run (u := .agg #[.slice x.a gs.c.length x.i, .slice x.b gs.l.length x.j, .slice x.d gs.o.length x.k, .slice x.e gs.h.length x.m]) (w' := w8) ?_ (Below.refl _ _) rfl)
          rw [hfin]
          unfold execOp
          simp [go_sem, Act.eval, k0, k1, k2, k3]
        · intro v w8 hb hd
          have g13 : v 13 = .bool true := hd 13 (by kernel_rfl)
          have h14 : v 14 = .agg #[.slice x.a gs.c.length x.i, .slice x.b gs.l.length x.j, .slice x.d gs.o.length x.k, .slice x.e gs.h.length x.m] := hd 14 (by kernel_rfl)
          refine done_want 13 true rfl g13 (yields_call (f := 23) rfl (vs := #[.agg #[.slice x.a gs.c.length x.i, .slice x.b gs.l.length x.j, .slice x.d gs.o.length x.k, .slice x.e gs.h.length x.m]]) (by rw [hfin]; simp [Act.eval, h14]) rfl Tryz.func23 (by kernel_rfl) (by kernel_rfl) ?_)
          exact (CK.out w8 (S14.out w8 hb).2.1 (S14.out w8 hb).2.2.1).mono fun e w' ⟨he, hb'⟩ => ⟨_, he, hb', rfl⟩
        · intro v w8 hb hd
          have g13 : v 13 = .bool true := hd 13 (by kernel_rfl)
          have h15 : v 15 = .int .i64 0 := hd 15 (by kernel_rfl)
          refine done_want 13 true rfl g13 (yields_run (u := .bool true) (w' := w8) ?_ (Below.refl _ _) rfl)
          rw [hfin]
          unfold execOp
          simp [go_sem, Act.eval, h15]
        · intro v w8 hb hd
          have h13 : v 13 = .bool true := hd 13 (by kernel_rfl)
          have h16 : v 16 = .bool true := hd 16 (by kernel_rfl)
          refine done_plain rfl (yields_run (u := .bool true) (w' := w8) ?_ (Below.refl _ _) rfl)
          rw [hfin]
          unfold execOp
          simp [go_sem, Act.eval, h13, h16]
        · intro v w8 hb hd
          have h17 : v 17 = .bool true := hd 17 (by kernel_rfl)
          refine done_plain rfl (yields_run (u := .bool true) (w' := w8) ?_ (Below.refl _ _) rfl)
          rw [hfin]
          unfold execOp
          simp [go_sem, Act.eval, h17]
        · intro v w8 hb hv
          have h18 : v 18 = .bool true := hv 18 (by decide)
          rw [hfin]
          generalize v 18 = v18 at h18 ⊢
          subst h18
          have B20 := Lib.hid (S14.out w8 hb).1
          clear hfin hv hb
          go_wp2_with fail
          go_ret
          exact ⟨rfl, (S3.out _ (S11.out _ B20.out).1).1⟩
end Go.Proofs.YtpblpjopinllcaaGreatDoor.graph
set_option linter.unusedSimpArgs false
set_option linter.unusedVariables false
namespace Go.Proofs.YtpblpjopinllcaaGreatDoor.graph
open Go.ChangeShapes Go.WideShapes Go.ChangeAt Go.RowKit
open Go.Proofs.YtpblpjopinllcaaGreatDoor.opened Go.Proofs.YtpblpjopinllcaaGreatDoor.block Go.Proofs.YtpblpjopinllcaaGreatDoor.words Go.Proofs.YtpblpjopinllcaaGreatDoor.region
set_option maxRecDepth 100000 in
set_option maxHeartbeats 8000000 in
theorem walkP (s : Bs) (w : World) (hE : EnvG w) :
    Calls Tryz.prog 3 #[sV s] w fun e w' => e = .returned (.bool true) ∧ Below w.heap.size w w' := by
  have E0 := Lib.hid hE
  clear hE
  have hls : (⟨s.toArray⟩ : ByteArray).size = s.length := by show s.toArray.size = _; simp
  by_cases hs8 : 8000 < s.length
  · go_enter Tryz.func3, Tryz.ntmps3
    go_wp2_with fail
    go_ret
    exact ⟨rfl, Below.refl _ _⟩
  obtain ⟨gs, n, er, hR⟩ : ∃ gs n er, parseV firstIx s = (gs, n, er) := ⟨_, _, _, rfl⟩
  have PP := fun W (hW : EnvG W) => parseP_any s (by omega) W hW.e hW.k
  have PR := fun W => parseR_any s (by omega) W
  have pg := parseV_pg ok_first s (by omega)
  rw [parse_both, hR] at PP
  rw [hR] at PR pg
  dsimp only at PP PR pg
  have pl := pg.len
  have FF := Lib.hid (fun v2 w1 (h2 : Lies4 w1 v2 gs) => fromG_any v2 gs (by omega) (by omega) (by omega) (by omega) w1 h2)
  have SM2 := Lib.hid (fun u v w1 (h1 : Lies4 w1 u gs) (h2 : Lies4 w1 v gs) => sameG_any u v gs w1 h1 h2 (by omega) (by omega) (by omega) (by omega))
  unfold gV at PP PR
  replace PP := Lib.hid PP
  replace PR := Lib.hid PR
  clear hR pg pl
  go_enter Tryz.func3, Tryz.ntmps3
  go_upto_region 4 with (go_at_call 15; refine (PP.out _ E0.out).mono ?_; rintro e w10 ⟨x, rfl, L10, -, b10⟩)
  have OX := Whole.fresh w10 27 #[.slice x.a gs.c.length x.i, .slice x.b gs.l.length x.j, .slice x.d gs.o.length x.k, .slice x.e gs.h.length x.m]
  have f10 := fresh1 w10 (.cells #[.slice x.a gs.c.length x.i, .slice x.b gs.l.length x.j, .slice x.d gs.o.length x.k, .slice x.e gs.h.length x.m] 27)
  change Code.wp _ _ _ _ (w10.alloc (.cells #[.slice x.a gs.c.length x.i, .slice x.b gs.l.length x.j, .slice x.d gs.o.length x.k, .slice x.e gs.h.length x.m] 27))
  generalize w10.alloc (.cells #[.slice x.a gs.c.length x.i, .slice x.b gs.l.length x.j, .slice x.d gs.o.length x.k, .slice x.e gs.h.length x.m] 27) = w11 at OX f10 ⊢
  have B11 := Lib.hid (then_below b10 f10)
  have L11 := Lib.hid (L10.below f10)
  generalize w10.heap.size = gx at OX ⊢
  have OX11 := Lib.hid OX
  clear OX f10 b10 L10
  go_upto_region 5 with (go_at_call 16; refine (PR.out _).mono ?_; rintro e w13 ⟨y, rfl, L13, -, b13⟩)
  have OY := Whole.fresh w13 36 #[.slice y.a gs.c.length y.i, .slice y.b gs.l.length y.j, .slice y.d gs.o.length y.k, .slice y.e gs.h.length y.m]
  have f13 := fresh1 w13 (.cells #[.slice y.a gs.c.length y.i, .slice y.b gs.l.length y.j, .slice y.d gs.o.length y.k, .slice y.e gs.h.length y.m] 36)
  change Code.wp _ _ _ _ (w13.alloc (.cells #[.slice y.a gs.c.length y.i, .slice y.b gs.l.length y.j, .slice y.d gs.o.length y.k, .slice y.e gs.h.length y.m] 36))
  generalize w13.alloc (.cells #[.slice y.a gs.c.length y.i, .slice y.b gs.l.length y.j, .slice y.d gs.o.length y.k, .slice y.e gs.h.length y.m] 36) = w14 at OY f13 ⊢
  have b14 := then_below b13 f13
  have B14 := Lib.hid (then_below B11.out b14)
  have L14 := Lib.hid (L13.below f13)
  have X14 := Lib.hid (L11.out.below b14)
  have OX14 := Lib.hid (OX11.out.below b14 OX11.out.inside)
  generalize w13.heap.size = gy at OY ⊢
  have OY14 := Lib.hid OY
  clear OY f13 b13 L13 b14 L11 B11 OX11
  refine region_want 38 [Is (.agg #[.slice x.a gs.c.length x.i, .slice x.b gs.l.length x.j, .slice x.d gs.o.length x.k, .slice x.e gs.h.length x.m]), FrP gs, Is (.agg #[.slice y.a gs.c.length y.i, .slice y.b gs.l.length y.j, .slice y.d gs.o.length y.k, .slice y.e gs.h.length y.m]), Is (.bool true), Is (.bool true), Is (.int .i64 n), Is (.int .i64 n), Is (.bool true), Is (.bool true), Is (.bool true), Is (.int .i64 er), Is (.int .i64 er), Is (.bool true), Is (.bool true), Is (.bool true)] (by kernel_rfl) rfl (by kernel_rfl) ?_ ?_
  · exact ⟨keeps_is _, keeps_frP gs, keeps_is _, keeps_is _, keeps_is _, keeps_is _, keeps_is _, keeps_is _, keeps_is _, keeps_is _, keeps_is _, keeps_is _, keeps_is _, keeps_is _, keeps_is _, trivial⟩
  · intro fin hfin
    simp [lexPut, Act.put] at hfin
    refine ⟨⟨?_, ?_, ?_, ?_, ?_, ?_, ?_, ?_, ?_, ?_, ?_, ?_, ?_, ?_, ?_, trivial⟩, ?_⟩
    · intro v w8 hb hd
      have k0 := (OX14.out.below hb OX14.out.inside).read 0
      have k1 := (OX14.out.below hb OX14.out.inside).read 1
      have k2 := (OX14.out.below hb OX14.out.inside).read 2
      have k3 := (OX14.out.below hb OX14.out.inside).read 3
      refine done_plain rfl (yields_run (u := .agg #[.slice x.a gs.c.length x.i, .slice x.b gs.l.length x.j, .slice x.d gs.o.length x.k, .slice x.e gs.h.length x.m]) (w' := w8) ?_ (Below.refl _ _) rfl)
      rw [hfin]
      unfold execOp
      simp [go_sem, Act.eval, k0, k1, k2, k3]
    · intro v w8 hb hd
      have h0 : v 0 = .agg #[.slice x.a gs.c.length x.i, .slice x.b gs.l.length x.j, .slice x.d gs.o.length x.k, .slice x.e gs.h.length x.m] := hd 0 (by kernel_rfl)
      refine done_plain rfl (yields_call (f := 18) rfl (vs := #[.agg #[.slice x.a gs.c.length x.i, .slice x.b gs.l.length x.j, .slice x.d gs.o.length x.k, .slice x.e gs.h.length x.m]]) (by rw [hfin]; simp [Act.eval, h0]) rfl Tryz.func18 (by kernel_rfl) (by kernel_rfl) ?_)
      exact (FF.out x w8 (X14.out.below hb)).mono fun e w' ⟨v', he, hl, _, hb'⟩ => ⟨_, he, hb', v', rfl, hl⟩
    · intro v w8 hb hd
      have k0 := (OY14.out.below hb OY14.out.inside).read 0
      have k1 := (OY14.out.below hb OY14.out.inside).read 1
      have k2 := (OY14.out.below hb OY14.out.inside).read 2
      have k3 := (OY14.out.below hb OY14.out.inside).read 3
      refine done_plain rfl (yields_run (u := .agg #[.slice y.a gs.c.length y.i, .slice y.b gs.l.length y.j, .slice y.d gs.o.length y.k, .slice y.e gs.h.length y.m]) (w' := w8) ?_ (Below.refl _ _) rfl)
      rw [hfin]
      unfold execOp
      simp [go_sem, Act.eval, k0, k1, k2, k3]
    · intro v w8 hb hd
      have h2 : v 2 = .agg #[.slice y.a gs.c.length y.i, .slice y.b gs.l.length y.j, .slice y.d gs.o.length y.k, .slice y.e gs.h.length y.m] := hd 2 (by kernel_rfl)
      obtain ⟨u1, h1, l1⟩ : (FrP gs) (v 1) w8 := hd 1 (by kernel_rfl)
      refine done_plain rfl (yields_call (f := 17) rfl (vs := #[gV u1 gs, .agg #[.slice y.a gs.c.length y.i, .slice y.b gs.l.length y.j, .slice y.d gs.o.length y.k, .slice y.e gs.h.length y.m]]) (by rw [hfin]; simp [Act.eval, h2, h1]) rfl Tryz.func17 (by kernel_rfl) (by kernel_rfl) ?_)
      exact (SM2.out u1 y w8 l1 (L14.out.below hb)).mono fun e w' ⟨he, hb'⟩ => ⟨_, he, hb', rfl⟩
    · intro v w8 hb hd
      have h3 : v 3 = .bool true := hd 3 (by kernel_rfl)
      refine done_plain rfl (yields_run (u := .bool true) (w' := w8) ?_ (Below.refl _ _) rfl)
      rw [hfin]
      unfold execOp
      simp [go_sem, Act.eval, h3]
    · intro v w8 hb hd
      have g4 : v 4 = .bool true := hd 4 (by kernel_rfl)
      refine done_want 4 true rfl g4 (yields_run (u := .int .i64 n) (w' := w8) ?_ (Below.refl _ _) rfl)
      rw [hfin]
      unfold execOp
      simp [go_sem, Act.eval]
    · intro v w8 hb hd
      have g4 : v 4 = .bool true := hd 4 (by kernel_rfl)
      refine done_want 4 true rfl g4 (yields_run (u := .int .i64 n) (w' := w8) ?_ (Below.refl _ _) rfl)
      rw [hfin]
      unfold execOp
      simp [go_sem, Act.eval]
    · intro v w8 hb hd
      have g4 : v 4 = .bool true := hd 4 (by kernel_rfl)
      have h5 : v 5 = .int .i64 n := hd 5 (by kernel_rfl)
      have h6 : v 6 = .int .i64 n := hd 6 (by kernel_rfl)
      refine done_want 4 true rfl g4 (yields_run (u := .bool true) (w' := w8) ?_ (Below.refl _ _) rfl)
      rw [hfin]
      unfold execOp
      simp [go_sem, Act.eval, h5, h6]
    · intro v w8 hb hd
      have h4 : v 4 = .bool true := hd 4 (by kernel_rfl)
      have h7 : v 7 = .bool true := hd 7 (by kernel_rfl)
      refine done_plain rfl (yields_run (u := .bool true) (w' := w8) ?_ (Below.refl _ _) rfl)
      rw [hfin]
      unfold execOp
      simp [go_sem, Act.eval, h4, h7]
    · intro v w8 hb hd
      have h8 : v 8 = .bool true := hd 8 (by kernel_rfl)
      refine done_plain rfl (yields_run (u := .bool true) (w' := w8) ?_ (Below.refl _ _) rfl)
      rw [hfin]
      unfold execOp
      simp [go_sem, Act.eval, h8]
    · intro v w8 hb hd
      have g9 : v 9 = .bool true := hd 9 (by kernel_rfl)
      refine done_want 9 true rfl g9 (yields_run (u := .int .i64 er) (w' := w8) ?_ (Below.refl _ _) rfl)
      rw [hfin]
      unfold execOp
      simp [go_sem, Act.eval]
    · intro v w8 hb hd
      have g9 : v 9 = .bool true := hd 9 (by kernel_rfl)
      refine done_want 9 true rfl g9 (yields_run (u := .int .i64 er) (w' := w8) ?_ (Below.refl _ _) rfl)
      rw [hfin]
      unfold execOp
      simp [go_sem, Act.eval]
    · intro v w8 hb hd
      have g9 : v 9 = .bool true := hd 9 (by kernel_rfl)
      have h10 : v 10 = .int .i64 er := hd 10 (by kernel_rfl)
      have h11 : v 11 = .int .i64 er := hd 11 (by kernel_rfl)
      refine done_want 9 true rfl g9 (yields_run (u := .bool true) (w' := w8) ?_ (Below.refl _ _) rfl)
      rw [hfin]
      unfold execOp
      simp [go_sem, Act.eval, h10, h11]
    · intro v w8 hb hd
      have h9 : v 9 = .bool true := hd 9 (by kernel_rfl)
      have h12 : v 12 = .bool true := hd 12 (by kernel_rfl)
      refine done_plain rfl (yields_run (u := .bool true) (w' := w8) ?_ (Below.refl _ _) rfl)
      rw [hfin]
      unfold execOp
      simp [go_sem, Act.eval, h9, h12]
    · intro v w8 hb hd
      have h13 : v 13 = .bool true := hd 13 (by kernel_rfl)
      refine done_plain rfl (yields_run (u := .bool true) (w' := w8) ?_ (Below.refl _ _) rfl)
      rw [hfin]
      unfold execOp
      simp [go_sem, Act.eval, h13]
    · intro v w8 hb hv
      have h14 : v 14 = .bool true := hv 14 (by decide)
      rw [hfin]
      generalize v 14 = v14 at h14 ⊢
      subst h14
      have B20 := Lib.hid (then_below B14.out hb)
      clear hfin hv hb
      go_wp2_with fail
      go_ret
      exact ⟨rfl, B20.out⟩
end Go.Proofs.YtpblpjopinllcaaGreatDoor.graph
