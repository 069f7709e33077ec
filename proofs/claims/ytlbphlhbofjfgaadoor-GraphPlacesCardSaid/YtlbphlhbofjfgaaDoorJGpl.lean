/-
  The walk of GraphPlaces (by gen_pl.py).
-/
import Derived.Test.YtlbphlhbofjfgaaDoorJGftR
import Derived.Test.YtlbphlhbofjfgaaDoorJGinR
import Derived.Test.YtlbphlhbofjfgaaDoorJGgr
import Derived.Test.YtlbphlhbofjfgaaDoorJGto
import Derived.Test.YtlbphlhbofjfgaaDoorJConv
import Derived.Test.YtlbphlhbofjfgaaDoorJEqP
namespace Go.Proofs.YtlbphlhbofjfgaaDoor.graph
open Go.ChangeShapes Go.WideShapes Go.ChangeAt Go.RowKit
open Go.Proofs.YtlbphlhbofjfgaaDoor.opened Go.Proofs.YtlbphlhbofjfgaaDoor.block Go.Proofs.YtlbphlhbofjfgaaDoor.words
open Go.Proofs.YtlbphlhbofjfgaaDoor.tm Go.Proofs.YtlbphlhbofjfgaaDoor.pa Go.Proofs.YtlbphlhbofjfgaaDoor.path
theorem in_eqPR (p : Pa) (w : World) : (Op.equalIn 10000 60 (.agg #[.int .i64 p.f, .int .i64 p.k, .int .u32 p.p0, .int .u32 p.p1, .int .u32 p.p2, .int .u32 p.p3, .int .i64 p.u, .int .u32 p.l0, .int .u32 p.l1, .int .u32 p.l2]) (.agg #[.int .i64 p.f, .int .i64 p.k, .int .u32 p.p0, .int .u32 p.p1, .int .u32 p.p2, .int .u32 p.p3, .int .i64 p.u, .int .u32 p.l0, .int .u32 p.l1, .int .u32 p.l2])).run Tryd.prog w = .ok true w := by
  have h := run_eqPR p p w
  rw [run_eql_struct] at h
  cases hr : (Op.equalIn 10000 60 (.agg #[.int .i64 p.f, .int .i64 p.k, .int .u32 p.p0, .int .u32 p.p1, .int .u32 p.p2, .int .u32 p.p3, .int .i64 p.u, .int .u32 p.l0, .int .u32 p.l1, .int .u32 p.l2]) (.agg #[.int .i64 p.f, .int .i64 p.k, .int .u32 p.p0, .int .u32 p.p1, .int .u32 p.p2, .int .u32 p.p3, .int .i64 p.u, .int .u32 p.l0, .int .u32 p.l1, .int .u32 p.l2])).run Tryd.prog w with
  | ok b w1 =>
    rw [hr] at h
    simp only [Result.andThen_ok] at h
    have h2 := eqP_self p
    simp [h2] at h
    obtain ⟨rfl, rfl⟩ := h
    rfl
  | _ =>
    rw [hr] at h
    simp [Result.andThen] at h
theorem fit_of {v : Gv} {g : Gr} (R : Rooms v g) (S : Small g) : Fit v g :=
  ⟨R.i, R.j, R.k, R.m, fun x hx => Nat.le_trans (S.c x hx) (by omega), fun x hx => Nat.le_trans (S.l x hx) (by omega), fun x hx => Nat.le_trans (S.o x hx) (by omega)⟩
set_option maxRecDepth 100000 in
set_option maxHeartbeats 4000000 in
theorem walkP (V : Gv) (g : Gr) (I : g.In) (p : Int) (t : Tm) (it : t.In) (w : World) (K : KT w) (h : Lies4 w V g) :
    Calls Tryd.prog 4 #[gV V g, .int .i64 p, .agg #[.int .u32 t.e, .int .i64 t.d, .int .u32 t.a, .int .u32 t.b, .int .u32 t.c]] w fun e w' => e = .returned (.bool true) ∧ Below w.heap.size w w' := by
  have GR := fun w1 (h1 : Lies4 w1 V g) => great_any V g w1 h1
  have TO := fun lc ll lo lh w1 (h1 : Lies4 w1 V g) => toG_any V g lc ll lo lh w1 h1
  have SR := fun w1 (h1 : Lies4 w1 V g) => scopeR_any V g p w1 h1
  have IR := fun w1 (h1 : Lies4 w1 V g) => innerR_any V g p w1 h1
  have FR := fun w1 (h1 : Lies4 w1 V g) => fitsR_any V g p t it w1 h1
  obtain ⟨va, vb, vd, ve, vi, vj, vk, vm⟩ := V
  unfold gV at GR TO SR IR FR ⊢
  dsimp only at GR TO SR IR FR ⊢
  replace GR := Lib.hid GR
  replace TO := Lib.hid TO
  replace SR := Lib.hid SR
  replace IR := Lib.hid IR
  replace FR := Lib.hid FR
  have b1 := fresh1 w (.cells #[.slice va g.c.length vi, .slice vb g.l.length vj, .slice vd g.o.length vk, .slice ve g.h.length vm] 27)
  have OG := Whole.fresh w 27 #[.slice va g.c.length vi, .slice vb g.l.length vj, .slice vd g.o.length vk, .slice ve g.h.length vm]
  have H1 := h.below b1
  have K1 := K.below b1
  go_enter Tryd.func4, Tryd.ntmps4
  go_upto_region 1 with fail
  change Code.wp _ _ _ _ ((w.alloc (.cells #[.slice va g.c.length vi, .slice vb g.l.length vj, .slice vd g.o.length vk, .slice ve g.h.length vm] 27)).alloc (.cells #[.int .u32 t.e, .int .i64 t.d, .int .u32 t.a, .int .u32 t.b, .int .u32 t.c] 51))
  have hs1 : (w.alloc (.cells #[.slice va g.c.length vi, .slice vb g.l.length vj, .slice vd g.o.length vk, .slice ve g.h.length vm] 27)).heap.size = w.heap.size + 1 := by rw [size_alloc]
  generalize w.alloc (.cells #[.slice va g.c.length vi, .slice vb g.l.length vj, .slice vd g.o.length vk, .slice ve g.h.length vm] 27) = w1 at b1 OG H1 K1 hs1 ⊢
  have b2 := fresh1 w1 (.cells #[.int .u32 t.e, .int .i64 t.d, .int .u32 t.a, .int .u32 t.b, .int .u32 t.c] 51)
  have OT := Lib.hid (Whole.fresh w1 51 #[.int .u32 t.e, .int .i64 t.d, .int .u32 t.a, .int .u32 t.b, .int .u32 t.c])
  have OG2 := Lib.hid (OG.below b2 OG.inside)
  have H2 := Lib.hid (H1.below b2)
  have K2 := Lib.hid (K1.below b2)
  have B2 := Lib.hid (b1.trans (b2.mono b1.size))
  generalize w1.alloc (.cells #[.int .u32 t.e, .int .i64 t.d, .int .u32 t.a, .int .u32 t.b, .int .u32 t.c] 51) = w2 at b2 OT OG2 H2 K2 B2 ⊢
  rw [hs1] at OT
  obtain ⟨gg, hg⟩ : ∃ gg, w.heap.size = gg := ⟨_, rfl⟩
  rw [hg] at OG2 OT ⊢
  obtain ⟨tt, htt⟩ : ∃ tt, gg + 1 = tt := ⟨_, rfl⟩
  rw [htt] at OT ⊢
  clear b1 b2 OG H1 K1 hs1 htt h K
  have OT2 := OT
  clear OT
  have hgw := Lib.hid hg
  clear hg
  have k := OG2.out.read
  have k0 : w2.cell? ⟨gg, 0, none⟩ = some (.slice va g.c.length vi) := k 0
  have k1 : w2.cell? ⟨gg, 1, none⟩ = some (.slice vb g.l.length vj) := k 1
  have k2 : w2.cell? ⟨gg, 2, none⟩ = some (.slice vd g.o.length vk) := k 2
  have k3 : w2.cell? ⟨gg, 3, none⟩ = some (.slice ve g.h.length vm) := k 3
  clear k
  replace GR := Lib.hid (GR.out w2 H2.out)
  cases hS : greatB g with
  | true =>
    rw [hS] at GR
    go_wp2_with (go_at_call 5; refine GR.out.mono ?_; rintro e w3 ⟨rfl, b3⟩)
    go_ret
    exact ⟨rfl, B2.out.trans (b3.mono B2.out.size)⟩
  | false =>
    have S := great_small hS
    rw [hS] at GR
    have SH := Lib.hid S
    obtain ⟨lc, ll, lo, lh, -, -, -⟩ := S
    replace TO := Lib.hid (TO.out (by omega) (by omega) (by omega) (by omega))
    go_upto_region 3 with (go_at_call 5; refine GR.out.mono ?_; rintro e w3 ⟨rfl, b3⟩)
    clear hS GR k0 k1 k2 k3
    have OT3 := Lib.hid (OT2.out.below b3 OT2.out.inside)
    have OG3 := Lib.hid (OG2.out.below b3 OG2.out.inside)
    have H3 := Lib.hid (H2.out.below b3)
    have K3 := Lib.hid (K2.out.below b3)
    have B3 := Lib.hid (B2.out.trans (b3.mono B2.out.size))
    clear b3 OT2 OG2 H2 K2 B2
    have k := OG3.out.read
    have k0 : w3.cell? ⟨gg, 0, none⟩ = some (.slice va g.c.length vi) := k 0
    have k1 : w3.cell? ⟨gg, 1, none⟩ = some (.slice vb g.l.length vj) := k 1
    have k2 : w3.cell? ⟨gg, 2, none⟩ = some (.slice vd g.o.length vk) := k 2
    have k3 : w3.cell? ⟨gg, 3, none⟩ = some (.slice ve g.h.length vm) := k 3
    clear k
    go_upto_region 4 with (go_at_call 6; refine (TO.out _ H3.out).mono ?_; rintro e w4 ⟨v', rfl, L4, R4, b4⟩)
    obtain ⟨xa, xb, xd, xe, xi, xj, xk, xm⟩ := v'
    change Code.wp _ _ _ _ (w4.alloc (.cells #[.slice xa g.c.length xi, .slice xb g.l.length xj, .slice xd g.o.length xk, .slice xe g.h.length xm] 34))
    clear k0 k1 k2 k3 TO
    have FT := fit_of R4 SH.out
    have PS := fun w1 (h1 : Lies4 w1 ⟨xa, xb, xd, xe, xi, xj, xk, xm⟩ g) (k1 : KT w1) => scope_any _ g FT I p w1 h1 k1
    have PI := fun w1 (h1 : Lies4 w1 ⟨xa, xb, xd, xe, xi, xj, xk, xm⟩ g) (k1 : KT w1) => inner_any _ g FT I p w1 h1 k1
    have PF := fun w1 (h1 : Lies4 w1 ⟨xa, xb, xd, xe, xi, xj, xk, xm⟩ g) (k1 : KT w1) => fits_any _ g FT I p t it w1 h1 k1
    unfold gV at PS PI PF
    dsimp only at PS PI PF
    replace PS := Lib.hid PS
    replace PI := Lib.hid PI
    replace PF := Lib.hid PF
    clear FT SH lc ll lo lh R4
    have OT4 := Lib.hid (OT3.out.below b4 OT3.out.inside)
    have OG4 := Lib.hid (OG3.out.below b4 OG3.out.inside)
    have H4 := Lib.hid (H3.out.below b4)
    have K4 := Lib.hid (K3.out.below b4)
    have B4 := Lib.hid (B3.out.trans (b4.mono B3.out.size))
    clear b4 OT3 OG3 H3 K3 B3
    have b5 := fresh1 w4 (.cells #[.slice xa g.c.length xi, .slice xb g.l.length xj, .slice xd g.o.length xk, .slice xe g.h.length xm] 34)
    have OX5 := Lib.hid (Whole.fresh w4 34 #[.slice xa g.c.length xi, .slice xb g.l.length xj, .slice xd g.o.length xk, .slice xe g.h.length xm])
    have L5 := Lib.hid (L4.below b5)
    generalize w4.alloc (.cells #[.slice xa g.c.length xi, .slice xb g.l.length xj, .slice xd g.o.length xk, .slice xe g.h.length xm] 34) = w5 at b5 OX5 L5 ⊢
    generalize w4.heap.size = gx at OX5 ⊢
    have OT5 := Lib.hid (OT4.out.below b5 OT4.out.inside)
    have OG5 := Lib.hid (OG4.out.below b5 OG4.out.inside)
    have H5 := Lib.hid (H4.out.below b5)
    have K5 := Lib.hid (K4.out.below b5)
    have B5 := Lib.hid (B4.out.trans (b5.mono B4.out.size))
    clear b5 OT4 OG4 H4 K4 B4
    have k := OG5.out.read
    have k0 : w5.cell? ⟨gg, 0, none⟩ = some (.slice va g.c.length vi) := k 0
    have k1 : w5.cell? ⟨gg, 1, none⟩ = some (.slice vb g.l.length vj) := k 1
    have k2 : w5.cell? ⟨gg, 2, none⟩ = some (.slice vd g.o.length vk) := k 2
    have k3 : w5.cell? ⟨gg, 3, none⟩ = some (.slice ve g.h.length vm) := k 3
    clear k
    have k := OX5.out.read
    have x0 : w5.cell? ⟨gx, 0, none⟩ = some (.slice xa g.c.length xi) := k 0
    have x1 : w5.cell? ⟨gx, 1, none⟩ = some (.slice xb g.l.length xj) := k 1
    have x2 : w5.cell? ⟨gx, 2, none⟩ = some (.slice xd g.o.length xk) := k 2
    have x3 : w5.cell? ⟨gx, 3, none⟩ = some (.slice xe g.h.length xm) := k 3
    clear k
    clear L4
    generalize locL g p = lL at PS SR
    generalize locD g p = lD at PS SR
    generalize locE g p = lE at PS SR
    generalize inV g p = iV at PI IR
    generalize inE g p = iE at PI IR
    generalize fitsB g p t = fB at PF FR
    go_upto_region 5 with (go_at_call 16; refine (PS.out _ L5.out K5.out).mono ?_; rintro e w6 ⟨rfl, b6⟩)
    clear k0 k1 k2 k3 x0 x1 x2 x3 PS
    have OT6 := Lib.hid (OT5.out.below b6 OT5.out.inside)
    have OG6 := Lib.hid (OG5.out.below b6 OG5.out.inside)
    have H6 := Lib.hid (H5.out.below b6)
    have K6 := Lib.hid (K5.out.below b6)
    have OX6 := Lib.hid (OX5.out.below b6 OX5.out.inside)
    have L6 := Lib.hid (L5.out.below b6)
    have B6 := Lib.hid (B5.out.trans (b6.mono B5.out.size))
    clear b6 OT5 OG5 H5 K5 OX5 L5 B5
    have k := OG6.out.read
    have k0 : w6.cell? ⟨gg, 0, none⟩ = some (.slice va g.c.length vi) := k 0
    have k1 : w6.cell? ⟨gg, 1, none⟩ = some (.slice vb g.l.length vj) := k 1
    have k2 : w6.cell? ⟨gg, 2, none⟩ = some (.slice vd g.o.length vk) := k 2
    have k3 : w6.cell? ⟨gg, 3, none⟩ = some (.slice ve g.h.length vm) := k 3
    clear k
    have k := OX6.out.read
    have x0 : w6.cell? ⟨gx, 0, none⟩ = some (.slice xa g.c.length xi) := k 0
    have x1 : w6.cell? ⟨gx, 1, none⟩ = some (.slice xb g.l.length xj) := k 1
    have x2 : w6.cell? ⟨gx, 2, none⟩ = some (.slice xd g.o.length xk) := k 2
    have x3 : w6.cell? ⟨gx, 3, none⟩ = some (.slice xe g.h.length xm) := k 3
    clear k
    go_upto_region 6 with (go_at_call 17; refine (SR.out _ H6.out).mono ?_; rintro e w7 ⟨rfl, b7⟩)
    clear k0 k1 k2 k3 x0 x1 x2 x3 SR
    have OT7 := Lib.hid (OT6.out.below b7 OT6.out.inside)
    have OG7 := Lib.hid (OG6.out.below b7 OG6.out.inside)
    have H7 := Lib.hid (H6.out.below b7)
    have K7 := Lib.hid (K6.out.below b7)
    have OX7 := Lib.hid (OX6.out.below b7 OX6.out.inside)
    have L7 := Lib.hid (L6.out.below b7)
    have B7 := Lib.hid (B6.out.trans (b7.mono B6.out.size))
    clear b7 OT6 OG6 H6 K6 OX6 L6 B6
    have k := OG7.out.read
    have k0 : w7.cell? ⟨gg, 0, none⟩ = some (.slice va g.c.length vi) := k 0
    have k1 : w7.cell? ⟨gg, 1, none⟩ = some (.slice vb g.l.length vj) := k 1
    have k2 : w7.cell? ⟨gg, 2, none⟩ = some (.slice vd g.o.length vk) := k 2
    have k3 : w7.cell? ⟨gg, 3, none⟩ = some (.slice ve g.h.length vm) := k 3
    clear k
    have k := OX7.out.read
    have x0 : w7.cell? ⟨gx, 0, none⟩ = some (.slice xa g.c.length xi) := k 0
    have x1 : w7.cell? ⟨gx, 1, none⟩ = some (.slice xb g.l.length xj) := k 1
    have x2 : w7.cell? ⟨gx, 2, none⟩ = some (.slice xd g.o.length xk) := k 2
    have x3 : w7.cell? ⟨gx, 3, none⟩ = some (.slice xe g.h.length xm) := k 3
    clear k
    go_upto_region 7 with (first
      | (go_at_call 18; refine (PI.out _ L7.out K7.out).mono ?_; rintro e w8 ⟨rfl, b8⟩)
      | (refine put rfl 57 (.tmp 14) _ rfl (cells := #[.int .i64 iV.f, .int .i64 iV.k, .int .u32 iV.p0, .int .u32 iV.p1, .int .u32 iV.p2, .int .u32 iV.p3, .int .i64 iV.u, .int .u32 iV.l0, .int .u32 iV.l1, .int .u32 iV.l2]) (g := w8.heap.size) rfl rfl (Whole.fresh w8 _ _) (by kernel_rfl) rfl (by simp [Value.oneCell']) (fresh1 w8 _) (Nat.le_refl _) ?_; intro w9 hR9 hB9 hs9 ho9))
    clear k0 k1 k2 k3 x0 x1 x2 x3 PI
    have b79 := b8.trans (hB9.mono b8.size)
    replace hR9 := Lib.hid hR9
    clear hB9 hs9 ho9 b8
    generalize w8.heap.size = rp at hR9 ⊢
    have OT9 := Lib.hid (OT7.out.below b79 OT7.out.inside)
    have OG9 := Lib.hid (OG7.out.below b79 OG7.out.inside)
    have H9 := Lib.hid (H7.out.below b79)
    have K9 := Lib.hid (K7.out.below b79)
    have OX9 := Lib.hid (OX7.out.below b79 OX7.out.inside)
    have L9 := Lib.hid (L7.out.below b79)
    have B9 := Lib.hid (B7.out.trans (b79.mono B7.out.size))
    clear b79 OT7 OG7 H7 K7 OX7 L7 B7
    have k := OG9.out.read
    have k0 : w9.cell? ⟨gg, 0, none⟩ = some (.slice va g.c.length vi) := k 0
    have k1 : w9.cell? ⟨gg, 1, none⟩ = some (.slice vb g.l.length vj) := k 1
    have k2 : w9.cell? ⟨gg, 2, none⟩ = some (.slice vd g.o.length vk) := k 2
    have k3 : w9.cell? ⟨gg, 3, none⟩ = some (.slice ve g.h.length vm) := k 3
    clear k
    have k := OX9.out.read
    have x0 : w9.cell? ⟨gx, 0, none⟩ = some (.slice xa g.c.length xi) := k 0
    have x1 : w9.cell? ⟨gx, 1, none⟩ = some (.slice xb g.l.length xj) := k 1
    have x2 : w9.cell? ⟨gx, 2, none⟩ = some (.slice xd g.o.length xk) := k 2
    have x3 : w9.cell? ⟨gx, 3, none⟩ = some (.slice xe g.h.length xm) := k 3
    clear k
    go_upto_region 8 with (first
      | (go_at_call 19; refine (IR.out _ H9.out).mono ?_; rintro e w10 ⟨rfl, b10⟩)
      | (refine put rfl 60 (.tmp 16) _ rfl (cells := #[.int .i64 iV.f, .int .i64 iV.k, .int .u32 iV.p0, .int .u32 iV.p1, .int .u32 iV.p2, .int .u32 iV.p3, .int .i64 iV.u, .int .u32 iV.l0, .int .u32 iV.l1, .int .u32 iV.l2]) (g := w10.heap.size) rfl rfl (Whole.fresh w10 _ _) (by kernel_rfl) rfl (by simp [Value.oneCell']) (fresh1 w10 _) (Nat.le_refl _) ?_; intro w11 hR11 hB11 hs11 ho11))
    clear k0 k1 k2 k3 x0 x1 x2 x3 IR
    have b911 := b10.trans (hB11.mono b10.size)
    have hR9b := Lib.hid (hR9.out.below b911 hR9.out.inside)
    replace hR11 := Lib.hid hR11
    clear hB11 hs11 ho11 b10 hR9
    generalize w10.heap.size = rq at hR11 ⊢
    have OT11 := Lib.hid (OT9.out.below b911 OT9.out.inside)
    have OG11 := Lib.hid (OG9.out.below b911 OG9.out.inside)
    have H11 := Lib.hid (H9.out.below b911)
    have K11 := Lib.hid (K9.out.below b911)
    have OX11 := Lib.hid (OX9.out.below b911 OX9.out.inside)
    have L11 := Lib.hid (L9.out.below b911)
    have B11 := Lib.hid (B9.out.trans (b911.mono B9.out.size))
    clear b911 OT9 OG9 H9 K9 OX9 L9 B9
    have k := OG11.out.read
    have k0 : w11.cell? ⟨gg, 0, none⟩ = some (.slice va g.c.length vi) := k 0
    have k1 : w11.cell? ⟨gg, 1, none⟩ = some (.slice vb g.l.length vj) := k 1
    have k2 : w11.cell? ⟨gg, 2, none⟩ = some (.slice vd g.o.length vk) := k 2
    have k3 : w11.cell? ⟨gg, 3, none⟩ = some (.slice ve g.h.length vm) := k 3
    clear k
    have k := OX11.out.read
    have x0 : w11.cell? ⟨gx, 0, none⟩ = some (.slice xa g.c.length xi) := k 0
    have x1 : w11.cell? ⟨gx, 1, none⟩ = some (.slice xb g.l.length xj) := k 1
    have x2 : w11.cell? ⟨gx, 2, none⟩ = some (.slice xd g.o.length xk) := k 2
    have x3 : w11.cell? ⟨gx, 3, none⟩ = some (.slice xe g.h.length xm) := k 3
    clear k
    clear k0 k1 k2 k3 x0 x1 x2 x3
    have k := fun (y : Since w11) => (OG11.out.below y.2 OG11.out.inside).read
    have k0 : ∀ y : Since w11, y.1.cell? ⟨gg, 0, none⟩ = some (.slice va g.c.length vi) := fun y => k y 0
    have k1 : ∀ y : Since w11, y.1.cell? ⟨gg, 1, none⟩ = some (.slice vb g.l.length vj) := fun y => k y 1
    have k2 : ∀ y : Since w11, y.1.cell? ⟨gg, 2, none⟩ = some (.slice vd g.o.length vk) := fun y => k y 2
    have k3 : ∀ y : Since w11, y.1.cell? ⟨gg, 3, none⟩ = some (.slice ve g.h.length vm) := fun y => k y 3
    clear k
    have k := fun (y : Since w11) => (OX11.out.below y.2 OX11.out.inside).read
    have x0 : ∀ y : Since w11, y.1.cell? ⟨gx, 0, none⟩ = some (.slice xa g.c.length xi) := fun y => k y 0
    have x1 : ∀ y : Since w11, y.1.cell? ⟨gx, 1, none⟩ = some (.slice xb g.l.length xj) := fun y => k y 1
    have x2 : ∀ y : Since w11, y.1.cell? ⟨gx, 2, none⟩ = some (.slice xd g.o.length xk) := fun y => k y 2
    have x3 : ∀ y : Since w11, y.1.cell? ⟨gx, 3, none⟩ = some (.slice xe g.h.length xm) := fun y => k y 3
    clear k
    have k := fun (y : Since w11) => (OT11.out.below y.2 OT11.out.inside).read
    have t0 : ∀ y : Since w11, y.1.cell? ⟨tt, 0, none⟩ = some (.int .u32 t.e) := fun y => k y 0
    have t1 : ∀ y : Since w11, y.1.cell? ⟨tt, 1, none⟩ = some (.int .i64 t.d) := fun y => k y 1
    have t2 : ∀ y : Since w11, y.1.cell? ⟨tt, 2, none⟩ = some (.int .u32 t.a) := fun y => k y 2
    have t3 : ∀ y : Since w11, y.1.cell? ⟨tt, 3, none⟩ = some (.int .u32 t.b) := fun y => k y 3
    have t4 : ∀ y : Since w11, y.1.cell? ⟨tt, 4, none⟩ = some (.int .u32 t.c) := fun y => k y 4
    clear k
    have k := fun (y : Since w11) => (hR9b.out.below y.2 hR9b.out.inside).read
    have p0 : ∀ y : Since w11, y.1.cell? ⟨rp, 0, none⟩ = some (.int .i64 iV.f) := fun y => k y 0
    have p1 : ∀ y : Since w11, y.1.cell? ⟨rp, 1, none⟩ = some (.int .i64 iV.k) := fun y => k y 1
    have p2 : ∀ y : Since w11, y.1.cell? ⟨rp, 2, none⟩ = some (.int .u32 iV.p0) := fun y => k y 2
    have p3 : ∀ y : Since w11, y.1.cell? ⟨rp, 3, none⟩ = some (.int .u32 iV.p1) := fun y => k y 3
    have p4 : ∀ y : Since w11, y.1.cell? ⟨rp, 4, none⟩ = some (.int .u32 iV.p2) := fun y => k y 4
    have p5 : ∀ y : Since w11, y.1.cell? ⟨rp, 5, none⟩ = some (.int .u32 iV.p3) := fun y => k y 5
    have p6 : ∀ y : Since w11, y.1.cell? ⟨rp, 6, none⟩ = some (.int .i64 iV.u) := fun y => k y 6
    have p7 : ∀ y : Since w11, y.1.cell? ⟨rp, 7, none⟩ = some (.int .u32 iV.l0) := fun y => k y 7
    have p8 : ∀ y : Since w11, y.1.cell? ⟨rp, 8, none⟩ = some (.int .u32 iV.l1) := fun y => k y 8
    have p9 : ∀ y : Since w11, y.1.cell? ⟨rp, 9, none⟩ = some (.int .u32 iV.l2) := fun y => k y 9
    clear k
    have k := fun (y : Since w11) => (hR11.out.below y.2 hR11.out.inside).read
    have q0 : ∀ y : Since w11, y.1.cell? ⟨rq, 0, none⟩ = some (.int .i64 iV.f) := fun y => k y 0
    have q1 : ∀ y : Since w11, y.1.cell? ⟨rq, 1, none⟩ = some (.int .i64 iV.k) := fun y => k y 1
    have q2 : ∀ y : Since w11, y.1.cell? ⟨rq, 2, none⟩ = some (.int .u32 iV.p0) := fun y => k y 2
    have q3 : ∀ y : Since w11, y.1.cell? ⟨rq, 3, none⟩ = some (.int .u32 iV.p1) := fun y => k y 3
    have q4 : ∀ y : Since w11, y.1.cell? ⟨rq, 4, none⟩ = some (.int .u32 iV.p2) := fun y => k y 4
    have q5 : ∀ y : Since w11, y.1.cell? ⟨rq, 5, none⟩ = some (.int .u32 iV.p3) := fun y => k y 5
    have q6 : ∀ y : Since w11, y.1.cell? ⟨rq, 6, none⟩ = some (.int .i64 iV.u) := fun y => k y 6
    have q7 : ∀ y : Since w11, y.1.cell? ⟨rq, 7, none⟩ = some (.int .u32 iV.l0) := fun y => k y 7
    have q8 : ∀ y : Since w11, y.1.cell? ⟨rq, 8, none⟩ = some (.int .u32 iV.l1) := fun y => k y 8
    have q9 : ∀ y : Since w11, y.1.cell? ⟨rq, 9, none⟩ = some (.int .u32 iV.l2) := fun y => k y 9
    clear k
    have Q := in_eqPR iV
    have HG : Tryd.prog.eqGuardType Tryd.prog.depth 60 = false := by kernel_rfl
    have FRM := Lib.hid (fun w => from_any iV w)
    have C1 : ∀ y : Since w11, Calls Tryd.prog 21 #[.agg #[.slice xa g.c.length xi, .slice xb g.l.length xj, .slice xd g.o.length xk, .slice xe g.h.length xm], .int .i64 p, .agg #[.int .u32 t.e, .int .i64 t.d, .int .u32 t.a, .int .u32 t.b, .int .u32 t.c]] y.1 fun e w' => e = .returned (.bool fB) ∧ ∃ z : Since w11, w' = z.1 := fun y => since_at y (PF.out y.1 (L11.out.below y.2) (K11.out.below y.2))
    have C2 : ∀ y : Since w11, Calls Tryd.prog 22 #[.agg #[.slice va g.c.length vi, .slice vb g.l.length vj, .slice vd g.o.length vk, .slice ve g.h.length vm], .int .i64 p, .agg #[.int .u32 t.e, .int .i64 t.d, .int .u32 t.a, .int .u32 t.b, .int .u32 t.c]] y.1 fun e w' => e = .returned (.bool fB) ∧ ∃ z : Since w11, w' = z.1 := fun y => since_at y (FR.out y.1 (H11.out.below y.2))
    replace C1 := Lib.hid C1
    replace C2 := Lib.hid C2
    refine region_since w11 (by kernel_rfl) (by kernel_rfl) (Below.refl _ _) ?_
    repeat (go_big_quiet_step ((first | (go_at_call 20; with_reducible exact since_call FRM.out _) | (go_at_call 21; with_reducible exact C1.out _) | (go_at_call 22; with_reducible exact C2.out _))))
    refine wpQuiet_nil ?_
    rintro w12 ⟨y, hw⟩
    have b12 : Below w11.heap.size w11 w12 := hw ▸ y.2
    clear hw y k0 k1 k2 k3 x0 x1 x2 x3 t0 t1 t2 t3 t4 Q HG C1 C2 p0 p1 p2 p3 p4 p5 p6 p7 p8 p9 q0 q1 q2 q3 q4 q5 q6 q7 q8 q9
    go_wp2_with fail
    go_ret
    exact ⟨rfl, B11.out.trans (b12.mono B11.out.size)⟩
end Go.Proofs.YtlbphlhbofjfgaaDoor.graph
