/-
  The contract of data.Write (by gen_wr.py).
-/
import Derived.Test.YtaiaadojnoipfaaDbl
import Derived.Test.YtaiaadojnoipfaaDg
import Derived.Test.YtaiaadojnoipfaaDw
import Derived.Test.YtaiaadojnoipfaaWrt
import Derived.Handy
import Derived.BigQuiet
import Derived.Deep.CutBlock
namespace Go.Proofs.Ytaiaadojnoipfaa.data
open Go.ChangeShapes Go.WideShapes Go.ChangeAt Go.RowKit
open Go.Proofs.Ytaiaadojnoipfaa.tm Go.Proofs.Ytaiaadojnoipfaa.opened Go.Proofs.Ytaiaadojnoipfaa.block Go.Proofs.Ytaiaadojnoipfaa.region Go.Proofs.Ytaiaadojnoipfaa.stamp Go.Proofs.Ytaiaadojnoipfaa.code Go.Proofs.Ytaiaadojnoipfaa.enc
set_option maxRecDepth 100000 in
theorem writeB_bad (l : Int) (t : Tm) (i : t.In) (L : List Rc) (A : Option Addr) (c : Nat) (h : chkB l t L.length ≠ 0) (w : World) :
    Calls Try.prog 16 #[.agg #[.int .i64 l, .int .u32 t.e, .int .i64 t.d, .int .u32 t.a, .int .u32 t.b, .int .u32 t.c, .slice A L.length c]] w fun e w' => e = .returned (.tuple #[.string ⟨#[]⟩, .int .i64 (chkB l t L.length)]) ∧ Below w.heap.size w w' := by
  have CC := Lib.hid (check_any l t i A L.length c)
  generalize chkB l t L.length = x at CC h ⊢
  have e1 : (x != 0) = true := by simpa using h
  have B0 := Lib.hid (fresh0 w)
  clear h
  go_enter Try.func16, Try.ntmps16
  go_wp2_with fail
  refine (CC.out _).mono ?_
  rintro e w1 ⟨rfl, b1⟩
  have B1 := Lib.hid ((B0.out _).trans (b1.mono (by simp)))
  clear b1
  go_wp2_with fail
  go_ret2
  exact ⟨rfl, B1.out⟩
set_option maxRecDepth 100000 in
set_option maxHeartbeats 8000000 in
theorem writeB_good (l : Int) (t : Tm) (i : t.In) (L : List Rc) (iL : InR L) (A : Option Addr) (c : Nat) (h : chkB l t L.length = 0) (w : World) (hL : Lr w A L) :
    Calls Try.prog 16 #[.agg #[.int .i64 l, .int .u32 t.e, .int .i64 t.d, .int .u32 t.a, .int .u32 t.b, .int .u32 t.c, .slice A L.length c]] w fun e w' => e = .returned (.tuple #[sB (wrB l t L), .int .i64 0]) ∧ Below w.heap.size w w' := by
  obtain ⟨l0, l1, ct, n1, n2⟩ := chkB_zero h
  have CC := Lib.hid (check_any l t i A L.length c)
  have CW := Lib.hid (fun w0 => stamp.write_any t i w0)
  have CN1 := Lib.hid (fun w0 => stamp.num_i l l0 (by omega) w0)
  have CN3 := Lib.hid (fun w0 => stamp.num_i (L.length : Int) (by omega) (by omega) w0)
  have hcl : IntKind.u64.wrap l = l := by rw [IntKind.wrap_u64]; omega
  have hcn : IntKind.u64.wrap (L.length : Int) = (L.length : Int) := by rw [IntKind.wrap_u64]; omega
  rw [h] at CC
  rw [ct, show wrtV t = wrtL t by unfold wrtV; rw [if_pos ct]] at CW
  have e1 := stamp.len_encI l
  have e2 := wrtL_len ct
  have e3 := stamp.len_encI (L.length : Int)
  have HW : Hid (wrB l t L = (stamp.encI l ++ wrtL t ++ stamp.encI (L.length : Int)) ++ L.flatMap wrR) := Lib.hid (by simp [wrB, wrH])
  have HL := Lib.hid hL
  have B0 := Lib.hid (fresh0 w (.cells #[.int .i64 l, .int .u32 t.e, .int .i64 t.d, .int .u32 t.a, .int .u32 t.b, .int .u32 t.c, .slice A L.length c] 40))
  have W0 := Lib.hid (Whole.fresh w 40 #[.int .i64 l, .int .u32 t.e, .int .i64 t.d, .int .u32 t.a, .int .u32 t.b, .int .u32 t.c, .slice A L.length c])
  clear hL h ct
  generalize stamp.encI l = s1 at CN1 e1 HW
  generalize wrtL t = s2 at CW e2 HW
  generalize stamp.encI (L.length : Int) = s3 at CN3 e3 HW
  generalize wrB l t L = S at HW ⊢
  go_enter Try.func16, Try.ntmps16
  go_wp2_with fail
  refine (CC.out _).mono ?_
  rintro e w1 ⟨rfl, b1⟩
  have B1 := Lib.hid (B0.out.trans (b1.mono (by simp)))
  have W1 := Lib.hid (W0.out.below b1 (by simp))
  have c1 := fun i => W1.out.read i
  clear b1 CC
  go_wp2_with fail
  refine (CW.out _).mono ?_
  rintro e w2 ⟨rfl, b2⟩
  have B2 := Lib.hid (B1.out.trans (b2.mono B1.out.size))
  have W2 := Lib.hid (W1.out.below b2 W1.out.inside)
  clear b2 CW c1 B0 W0 B1 W1
  have c2 := fun i => W2.out.read i
  have HB0 := Lib.hid (bl_new w2)
  have b3 := fresh0 w2 (.cells #[.pointer none, .slice none 0 0] 71)
  have HBx := Lib.hid (B2.out.trans (b3.mono B2.out.size))
  have HW3 := Lib.hid (W2.out.below b3 W2.out.inside)
  have HGB := Lib.hid W2.out.inside
  have HBB := Lib.hid B2.out.size
  have GBx : Hid (w2.heap.size < (w2.alloc (.cells #[.pointer none, .slice none 0 0] 71)).heap.size) := Lib.hid (by simp)
  go_upto_region 8 with fail
  change Code.wp _ _ _ _ (w2.alloc (.cells #[.pointer none, .slice none 0 0] 71))
  generalize w2.alloc (.cells #[.pointer none, .slice none 0 0] 71) = wx at HB0 HBx HW3 GBx ⊢
  generalize w2.heap.size = bb at HB0 HGB HBB GBx ⊢
  refine region_full 54 [] [] (fun k => k == 12) (fun w7 => Below bb wx w7) ?hR ?r0 [pdOne 0 (Is (.pointer (some ⟨w.heap.size, 0, none⟩))), pdOne 1 (Is (.int .i64 l)), pdOne 2 (Is (.int .u64 l)), pdOne 3 (Is (sB s1)), pdOne 4 (Is (sB s2)), pdOne 5 (Is (sB (s1 ++ s2))), pdOne 6 (Is (.pointer (some ⟨w.heap.size, 6, none⟩))), pdOne 7 (Is (.slice A L.length c)), pdOne 8 (Is (.int .i64 (L.length : Nat))), pdOne 9 (Is (.int .u64 (L.length : Nat))), pdOne 10 (Is (sB s3)), pdOne 11 (Is (sB (s1 ++ s2 ++ s3))), pdOne 12 (fun _ w7 => BL w7 bb bb ([] ++ (s1 ++ s2 ++ s3)))] (fun k w7 => (k = 12 → BL w7 bb bb []) ∧ (True)) (by kernel_rfl) rfl (by kernel_rfl) (by kernel_rfl) (by kernel_rfl) (by kernel_rfl) ?keep ?hO ?h0 ?tell
  case hR => exact fun wa wb hb h => h.trans (hb.mono (Nat.le_trans (show _ ≤ _ from HB0.out.2) h.size))
  case r0 => exact Below.refl _ _
  case keep => exact ⟨keep_one (keeps_is _), keep_one (keeps_is _), keep_one (keeps_is _), keep_one (keeps_is _), keep_one (keeps_is _), keep_one (keeps_is _), keep_one (keeps_is _), keep_one (keeps_is _), keep_one (keeps_is _), keep_one (keeps_is _), keep_one (keeps_is _), keep_one (keeps_is _), keep_one (fun _ _ _ hb h => BL.below h hb), trivial⟩
  case hO => exact fun k wa wb hb ⟨h1, h2⟩ => ⟨fun e => BL.below (h1 e) hb, trivial⟩
  case h0 => exact fun k _ => ⟨fun _ => HB0.out, trivial⟩
  case tell =>
    intro fin hfin
    simp [lexPut, Act.put] at hfin
    simp only [TellF]
    refine ⟨⟨?_, ?_, ?_, ?_, ?_, ?_, ?_, ?_, ?_, ?_, ?_, ?_, ?_, trivial⟩, ?_⟩
    · intro v2 w7 hr hd
      refine yields_run (u := .pointer (some ⟨w.heap.size, 0, none⟩)) (w' := w7) ?_ (Below.refl _ _) rfl
      unfold execOp
      simp [go_sem, Act.eval]
    · intro v2 w7 hr hd
      have h0 : v2 0 = _ := hd 0 (by kernel_rfl)
      have k0 := (Whole.below HW3.out hr HGB.out).read 0
      refine yields_run (u := .int .i64 l) (w' := w7) ?_ (Below.refl _ _) rfl
      unfold execOp
      simp [go_sem, Act.eval, Act.put, h0, k0]
    · intro v2 w7 hr hd
      have h1 : v2 1 = _ := hd 1 (by kernel_rfl)
      refine yields_run (u := .int .u64 l) (w' := w7) ?_ (Below.refl _ _) rfl
      unfold execOp
      simp [go_sem, Act.eval, Act.put, h1, hcl]
    · intro v2 w7 hr hd
      have h2 : v2 2 = _ := hd 2 (by kernel_rfl)
      refine yields_call (f := 38) rfl (vs := #[.int .u64 l]) (by simp [Act.eval, Act.put, h2]) rfl Try.func38 (by kernel_rfl) (by kernel_rfl) ((CN1.out w7).mono fun e w8 ⟨he, hb⟩ => ⟨_, he, hb, rfl⟩)
    · intro v2 w7 hr hd
      refine yields_run (u := sB s2) (w' := w7) ?_ (Below.refl _ _) rfl
      unfold execOp
      simp [go_sem, Act.eval, Act.put]
    · intro v2 w7 hr hd
      have h3 : v2 3 = _ := hd 3 (by kernel_rfl)
      have h4 : v2 4 = _ := hd 4 (by kernel_rfl)
      have hlen : (s1).length ≤ 1000000 := by
        try simp only [List.length_append]
        omega
      have hlen2 : (s2).length ≤ 1000000 := by
        try simp only [List.length_append]
        omega
      generalize s1 = P at h3 h4 hlen ⊢
      generalize s2 = Q at h3 h4 hlen2 ⊢
      have ha := str_app P Q
      refine yields_run (u := sB (P ++ Q)) (w' := w7) ?_ (Below.refl _ _) rfl
      unfold execOp
      simp [go_sem, Act.eval, Act.put, h3, h4, ha]
      omega
    · intro v2 w7 hr hd
      refine yields_run (u := .pointer (some ⟨w.heap.size, 6, none⟩)) (w' := w7) ?_ (Below.refl _ _) rfl
      unfold execOp
      simp [go_sem, Act.eval, Act.put]
    · intro v2 w7 hr hd
      have h6 : v2 6 = _ := hd 6 (by kernel_rfl)
      have k0 := (Whole.below HW3.out hr HGB.out).read 6
      refine yields_run (u := .slice A L.length c) (w' := w7) ?_ (Below.refl _ _) rfl
      unfold execOp
      simp [go_sem, Act.eval, Act.put, h6, k0]
    · intro v2 w7 hr hd
      have h7 : v2 7 = _ := hd 7 (by kernel_rfl)
      refine yields_run (u := .int .i64 (L.length : Nat)) (w' := w7) ?_ (Below.refl _ _) rfl
      unfold execOp
      simp [go_sem, Act.eval, Act.put, h7]
    · intro v2 w7 hr hd
      have h8 : v2 8 = _ := hd 8 (by kernel_rfl)
      refine yields_run (u := .int .u64 (L.length : Nat)) (w' := w7) ?_ (Below.refl _ _) rfl
      unfold execOp
      simp [go_sem, Act.eval, Act.put, h8, hcn]
    · intro v2 w7 hr hd
      have h9 : v2 9 = _ := hd 9 (by kernel_rfl)
      refine yields_call (f := 38) rfl (vs := #[.int .u64 (L.length : Nat)]) (by simp [Act.eval, Act.put, h9]) rfl Try.func38 (by kernel_rfl) (by kernel_rfl) ((CN3.out w7).mono fun e w8 ⟨he, hb⟩ => ⟨_, he, hb, rfl⟩)
    · intro v2 w7 hr hd
      have h5 : v2 5 = _ := hd 5 (by kernel_rfl)
      have h10 : v2 10 = _ := hd 10 (by kernel_rfl)
      have hlen : (s1 ++ s2).length ≤ 1000000 := by
        try simp only [List.length_append]
        omega
      have hlen2 : (s3).length ≤ 1000000 := by
        try simp only [List.length_append]
        omega
      generalize s1 ++ s2 = P at h5 h10 hlen ⊢
      generalize s3 = Q at h5 h10 hlen2 ⊢
      have ha := str_app P Q
      refine yields_run (u := sB (P ++ Q)) (w' := w7) ?_ (Below.refl _ _) rfl
      unfold execOp
      simp [go_sem, Act.eval, Act.put, h5, h10, ha]
      omega
    · intro v2 w7 hr ho hd
      have h11 : v2 11 = _ := hd 11 (by kernel_rfl)
      refine .inl (yieldsW_callR (f := 37) rfl (vs := #[.pointer (some ⟨bb, 0, none⟩), sB (s1 ++ s2 ++ s3)]) (by simp [Act.eval, Act.put, h11]) rfl Try.func37 (by kernel_rfl) (by kernel_rfl) ?_)
      refine (write_on bb bb [] (s1 ++ s2 ++ s3) (by simp; omega) w7 (ho.1 (by first | rfl | trivial))).mono fun e1 w8 ⟨⟨u8, he1⟩, hb8, hB8⟩ => ⟨u8, he1, hr.trans hB8, ?_, ?_, hb8⟩
      · intro k2 v' hk2 hc hu
        exact match k2, hk2, hc, hu with
          | 0, _, _, hu => hu
          | 1, _, _, hu => hu
          | 2, _, _, hu => hu
          | 3, _, _, hu => hu
          | 4, _, _, hu => hu
          | 5, _, _, hu => hu
          | 6, _, _, hu => hu
          | 7, _, _, hu => hu
          | 8, _, _, hu => hu
          | 9, _, _, hu => hu
          | 10, _, _, hu => hu
          | 11, _, _, hu => hu
          | 12, hk2, _, _ => absurd rfl hk2
          | _ + 13, _, _, _ => trivial
      · intro k2 hk2 hn hc2 ⟨h1, h2⟩
        exact ⟨fun e => absurd e hk2, trivial⟩
    · intro v2 w7 hr hv
      rw [hfin]
      have hBL := hv 12 (by decide)
      change BL w7 bb bb ([] ++ (s1 ++ s2 ++ s3)) at hBL
      rw [List.nil_append] at hBL
      have HBL := Lib.hid hBL
      have HBW := Lib.hid (HBx.out.trans (hr.mono HBB.out))
      have W7 := Lib.hid (HW3.out.below hr HGB.out)
      clear hfin hv hr hBL
      generalize v2 12 = u12
      have c7 := fun i => W7.out.read i
      go_wp2_with fail
      go_loopw [40] (fun s wr => ∃ k : Nat, k ≤ L.length ∧ s = .int .i64 k ∧ Hid (BL wr bb bb ((s1 ++ s2 ++ s3) ++ (L.take k).flatMap wrR)) ∧ Hid (Below w.heap.size w wr)) (fun s _ => L.length - (intOf s).toNat)
      case atStart => exact ⟨0, Nat.zero_le _, rfl, Lib.hid (by simpa using HBL.out), HBW⟩
      case round =>
        obtain ⟨k, hk, rfl, HBk, HB⟩ := hrel
        clear HBL HBW W7 c7 HW3 HBx HGB
        by_cases hlt : k < L.length
        · obtain ⟨x, hx, hm⟩ := get_ltR hlt
          have ix := iL x hm
          obtain ⟨b1, o1, rfl, hb1, c0, c1⟩ := at_rc (HL.out.below HB.out) hx
          have HX := Lib.hid hx
          have CS1 := Lib.hid (fun w0 => code.signed_any x.k ix.1.1 ix.1.2 w0)
          have CS2 := Lib.hid (fun w0 => code.signed_any x.v ix.2.1 ix.2.2 w0)
          have f1 := len_enc (zig x.k)
          have f2 := len_enc (zig x.v)
          have hfl : ((L.take k).flatMap wrR).length ≤ 1280 := by
            have := wrRs_len (L.take k)
            rw [List.length_take] at this
            omega
          have HWR : Hid (wrR x = enc (zig x.k) ++ enc (zig x.v)) := Lib.hid rfl
          clear hx hm ix
          generalize enc (zig x.k) = z1 at CS1 f1 HWR
          generalize enc (zig x.v) = z2 at CS2 f2 HWR
          obtain ⟨M, hM⟩ : ∃ M, (L.take k).flatMap wrR = M := ⟨_, rfl⟩
          rw [hM] at HBk hfl
          have HM := Lib.hid hM
          clear hM
          go_upto_region 12 with fail
          change Code.wp _ _ _ _ (wr.alloc (.cells #[.int .i64 x.k, .int .i64 x.v] 59))
          have bb1 := fresh0 wr (.cells #[.int .i64 x.k, .int .i64 x.v] 59)
          have WX := Lib.hid (Whole.fresh wr 59 #[.int .i64 x.k, .int .i64 x.v])
          have BLx := Lib.hid (HBk.out.below bb1)
          have HBx := Lib.hid (HB.out.trans (bb1.mono HB.out.size))
          have GX : Hid (wr.heap.size < (wr.alloc (.cells #[.int .i64 x.k, .int .i64 x.v] 59)).heap.size) := Lib.hid (by simp)
          generalize wr.alloc (.cells #[.int .i64 x.k, .int .i64 x.v] 59) = wx at WX BLx HBx GX ⊢
          generalize wr.heap.size = gx at WX GX ⊢
          clear bb1 c0 c1 HBk
          refine region_full 54 [] [(7, 1), (7, 4)] (fun k => k == 1 || k == 4 || k == 7) (fun w7 => Below bb wx w7) ?hR ?r0 [pdOne 0 (Is (.pointer (some ⟨gx, 0, none⟩))), pdOne 1 (Is (.int .i64 x.k)), pdOne 2 (Is (sB z1)), pdOne 3 (Is (.pointer (some ⟨gx, 1, none⟩))), pdOne 4 (Is (.int .i64 x.v)), pdOne 5 (Is (sB z2)), pdOne 6 (Is (sB (z1 ++ z2))), pdOne 7 (fun _ w7 => BL w7 bb bb ((s1 ++ s2 ++ s3 ++ M) ++ (z1 ++ z2)))] (fun k w7 => (k = 7 → BL w7 bb bb (s1 ++ s2 ++ s3 ++ M)) ∧ (k = 1 ∨ k = 4 → Below wx.heap.size wx w7)) (by kernel_rfl) rfl (by kernel_rfl) (by kernel_rfl) (by kernel_rfl) (by kernel_rfl) ?keep ?hO ?h0 ?tell
          case hR => exact fun wa wb hb h => h.trans (hb.mono (Nat.le_trans (show _ ≤ _ from BLx.out.2) h.size))
          case r0 => exact Below.refl _ _
          case keep => exact ⟨keep_one (keeps_is _), keep_one (keeps_is _), keep_one (keeps_is _), keep_one (keeps_is _), keep_one (keeps_is _), keep_one (keeps_is _), keep_one (keeps_is _), keep_one (fun _ _ _ hb h => BL.below h hb), trivial⟩
          case hO => exact fun k wa wb hb ⟨h1, h2⟩ => ⟨fun e => BL.below (h1 e) hb, fun e => (h2 e).trans (hb.mono (h2 e).size)⟩
          case h0 => exact fun k _ => ⟨fun _ => BLx.out, fun _ => Below.refl _ _⟩
          case tell =>
            intro fin hfin
            simp [lexPut, Act.put] at hfin
            simp only [TellF]
            refine ⟨⟨?_, ?_, ?_, ?_, ?_, ?_, ?_, ?_, trivial⟩, ?_⟩
            · intro v2 w7 hr hd
              refine yields_run (u := .pointer (some ⟨gx, 0, none⟩)) (w' := w7) ?_ (Below.refl _ _) rfl
              unfold execOp
              simp [go_sem, Act.eval]
            · intro v2 w7 hr ho hd
              have h0 : v2 0 = _ := hd 0 (by kernel_rfl)
              have k0 := (Whole.below WX.out (ho.2 (by first | trivial | decide | simp)) GX.out).read 0
              refine .inl (.inl ⟨.int .i64 x.k, w7, ?_, hr, fun _ _ _ _ hu => hu, fun _ _ _ _ hu => hu, rfl⟩)
              unfold execOp
              simp [go_sem, Act.eval, Act.put, h0, k0]
            · intro v2 w7 hr hd
              have h1 : v2 1 = _ := hd 1 (by kernel_rfl)
              refine yields_call (f := 39) rfl (vs := #[.int .i64 x.k]) (by simp [Act.eval, Act.put, h1]) rfl Try.func39 (by kernel_rfl) (by kernel_rfl) ((CS1.out w7).mono fun e w8 ⟨he, hb⟩ => ⟨_, he, hb, rfl⟩)
            · intro v2 w7 hr hd
              refine yields_run (u := .pointer (some ⟨gx, 1, none⟩)) (w' := w7) ?_ (Below.refl _ _) rfl
              unfold execOp
              simp [go_sem, Act.eval, Act.put]
            · intro v2 w7 hr ho hd
              have h3 : v2 3 = _ := hd 3 (by kernel_rfl)
              have k0 := (Whole.below WX.out (ho.2 (by first | trivial | decide | simp)) GX.out).read 1
              refine .inl (.inl ⟨.int .i64 x.v, w7, ?_, hr, fun _ _ _ _ hu => hu, fun _ _ _ _ hu => hu, rfl⟩)
              unfold execOp
              simp [go_sem, Act.eval, Act.put, h3, k0]
            · intro v2 w7 hr hd
              have h4 : v2 4 = _ := hd 4 (by kernel_rfl)
              refine yields_call (f := 39) rfl (vs := #[.int .i64 x.v]) (by simp [Act.eval, Act.put, h4]) rfl Try.func39 (by kernel_rfl) (by kernel_rfl) ((CS2.out w7).mono fun e w8 ⟨he, hb⟩ => ⟨_, he, hb, rfl⟩)
            · intro v2 w7 hr hd
              have h2 : v2 2 = _ := hd 2 (by kernel_rfl)
              have h5 : v2 5 = _ := hd 5 (by kernel_rfl)
              have hlen : (z1).length ≤ 1000000 := by
                try simp only [List.length_append]
                omega
              have hlen2 : (z2).length ≤ 1000000 := by
                try simp only [List.length_append]
                omega
              generalize z1 = P at h2 h5 hlen ⊢
              generalize z2 = Q at h2 h5 hlen2 ⊢
              have ha := str_app P Q
              refine yields_run (u := sB (P ++ Q)) (w' := w7) ?_ (Below.refl _ _) rfl
              unfold execOp
              simp [go_sem, Act.eval, Act.put, h2, h5, ha]
              omega
            · intro v2 w7 hr ho hd
              have h6 : v2 6 = _ := hd 6 (by kernel_rfl)
              refine .inl (yieldsW_callR (f := 37) rfl (vs := #[.pointer (some ⟨bb, 0, none⟩), sB (z1 ++ z2)]) (by simp [Act.eval, Act.put, h6]) rfl Try.func37 (by kernel_rfl) (by kernel_rfl) ?_)
              refine (write_on bb bb (s1 ++ s2 ++ s3 ++ M) (z1 ++ z2) (by simp; omega) w7 (ho.1 (by first | rfl | trivial))).mono fun e1 w8 ⟨⟨u8, he1⟩, hb8, hB8⟩ => ⟨u8, he1, hr.trans hB8, ?_, ?_, hb8⟩
              · intro k2 v' hk2 hc hu
                exact match k2, hk2, hc, hu with
                  | 0, _, _, hu => hu
                  | 1, _, _, hu => hu
                  | 2, _, _, hu => hu
                  | 3, _, _, hu => hu
                  | 4, _, _, hu => hu
                  | 5, _, _, hu => hu
                  | 6, _, _, hu => hu
                  | 7, hk2, _, _ => absurd rfl hk2
                  | _ + 8, _, _, _ => trivial
              · intro k2 hk2 hn hc2 ⟨h1, h2⟩
                exact ⟨fun e => absurd e hk2, fun e => by rcases e with rfl | rfl <;> exact absurd hc2 (by decide)⟩
            · intro v2 w7 hr hv
              rw [hfin]
              have hBL := hv 7 (by decide)
              change BL w7 bb bb ((s1 ++ s2 ++ s3 ++ M) ++ (z1 ++ z2)) at hBL
              have HBL := Lib.hid hBL
              have HBW := Lib.hid (HBx.out.trans (hr.mono HBB.out))
              clear hfin hv hr hBL
              generalize v2 7 = u7
              go_wp2_with fail
              go_roundw
              case rel => exact ⟨k + 1, by omega, by go_num, Lib.hid (by have h := HBL.out; rw [take_next HX.out, List.flatMap_append, List.flatMap_cons, List.flatMap_nil, List.append_nil, HWR.out, HM.out]; rw [List.append_assoc] at h; exact h), HBW⟩
              case measure => simp [intOf]; omega
        · obtain rfl : k = L.length := by omega
          rw [List.take_length, ← HW.out] at HBk
          go_wp2_with fail
          refine (text_of bb bb S _ HBk.out).mono ?_
          rintro e w9 ⟨rfl, b9⟩
          have HB9 := Lib.hid (HB.out.trans (b9.mono HBB.out))
          clear b9
          go_wp2_with fail
          go_ret2
          exact ⟨rfl, HB9.out⟩
theorem writeB_any (l : Int) (t : Tm) (i : t.In) (L : List Rc) (iL : InR L) (A : Option Addr) (c : Nat) (w : World) (hL : Lr w A L) :
    Calls Try.prog 16 #[.agg #[.int .i64 l, .int .u32 t.e, .int .i64 t.d, .int .u32 t.a, .int .u32 t.b, .int .u32 t.c, .slice A L.length c]] w fun e w' => e = .returned (.tuple #[sB (wrV l t L), .int .i64 (chkB l t L.length)]) ∧ Below w.heap.size w w' := by
  by_cases h : chkB l t L.length = 0
  · rw [h, show wrV l t L = wrB l t L by unfold wrV; rw [if_pos h]]
    exact writeB_good l t i L iL A c h w hL
  · rw [show wrV l t L = [] by unfold wrV; rw [if_neg h]]
    exact writeB_bad l t i L A c h w
end Go.Proofs.Ytaiaadojnoipfaa.data
