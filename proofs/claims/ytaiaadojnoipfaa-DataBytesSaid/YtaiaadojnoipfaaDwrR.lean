/-
  The contract of the document's Write (by gen_wr.py).
-/
import Derived.Test.YtaiaadojnoipfaaDbl
import Derived.Test.YtaiaadojnoipfaaDg
import Derived.Test.YtaiaadojnoipfaaDw
import Derived.Test.YtaiaadojnoipfaaWrt
import Derived.Handy
import Derived.BigQuiet
import Derived.Deep.CutBlock
namespace Go.Proofs.Ytaiaadojnoipfaa.data
open Go.ChangeShapes Go.WideShapes Go.ChangeAt Go.RowKit
open Go.Proofs.Ytaiaadojnoipfaa.tm Go.Proofs.Ytaiaadojnoipfaa.opened Go.Proofs.Ytaiaadojnoipfaa.block Go.Proofs.Ytaiaadojnoipfaa.region Go.Proofs.Ytaiaadojnoipfaa.stamp Go.Proofs.Ytaiaadojnoipfaa.code Go.Proofs.Ytaiaadojnoipfaa.enc
set_option maxRecDepth 100000 in
theorem writeRB_bad (l : Int) (t : Tm) (i : t.In) (L : List Rc) (A : Option Addr) (c : Nat) (h : chkB l t L.length ≠ 0) (w : World) :
    Calls Try.prog 18 #[.agg #[.int .i64 l, .int .u32 t.e, .int .i64 t.d, .int .u32 t.a, .int .u32 t.b, .int .u32 t.c, .slice A L.length c]] w fun e w' => e = .returned (.tuple #[.string ⟨#[]⟩, .int .i64 (chkB l t L.length)]) ∧ Below w.heap.size w w' := by
  have CC := Lib.hid (checkR_any l t i A L.length c)
  generalize chkB l t L.length = x at CC h ⊢
  have e1 : (x != 0) = true := by simpa using h
  have B0 := Lib.hid (fresh0 w)
  clear h
  go_enter Try.func18, Try.ntmps18
  go_wp2_with fail
  refine (CC.out _).mono ?_
  rintro e w1 ⟨rfl, b1⟩
  have B1 := Lib.hid ((B0.out _).trans (b1.mono (by simp)))
  clear b1
  go_wp2_with fail
  go_ret2
  exact ⟨rfl, B1.out⟩
set_option maxRecDepth 100000 in
set_option maxHeartbeats 8000000 in
theorem writeRB_good (l : Int) (t : Tm) (i : t.In) (L : List Rc) (iL : InR L) (A : Option Addr) (c : Nat) (h : chkB l t L.length = 0) (w : World) (hL : Lr w A L) :
    Calls Try.prog 18 #[.agg #[.int .i64 l, .int .u32 t.e, .int .i64 t.d, .int .u32 t.a, .int .u32 t.b, .int .u32 t.c, .slice A L.length c]] w fun e w' => e = .returned (.tuple #[sB (wrB l t L), .int .i64 0]) ∧ Below w.heap.size w w' := by
  obtain ⟨l0, l1, ct, n1, n2⟩ := chkB_zero h
  have CC := Lib.hid (checkR_any l t i A L.length c)
  have CW := Lib.hid (fun w0 => stamp.writeR_any t i w0)
  have CN1 := Lib.hid (fun w0 => stamp.numR_i l l0 (by omega) w0)
  have CN3 := Lib.hid (fun w0 => stamp.numR_i (L.length : Int) (by omega) (by omega) w0)
  have hcl : IntKind.u64.wrap l = l := by rw [IntKind.wrap_u64]; omega
  have hcn : IntKind.u64.wrap (L.length : Int) = (L.length : Int) := by rw [IntKind.wrap_u64]; omega
  rw [h] at CC
  rw [ct, show wrtV t = wrtL t by unfold wrtV; rw [if_pos ct]] at CW
  have e1 := stamp.len_encI l
  have e2 := wrtL_len ct
  have e3 := stamp.len_encI (L.length : Int)
  have HW : Hid (wrB l t L = (stamp.encI l ++ wrtL t ++ stamp.encI (L.length : Int)) ++ L.flatMap wrR) := Lib.hid (by simp [wrB, wrH])
  have HL := Lib.hid hL
  have B0 := Lib.hid (fresh0 w (.cells #[.int .i64 l, .int .u32 t.e, .int .i64 t.d, .int .u32 t.a, .int .u32 t.b, .int .u32 t.c, .slice A L.length c] 37))
  have W0 := Lib.hid (Whole.fresh w 37 #[.int .i64 l, .int .u32 t.e, .int .i64 t.d, .int .u32 t.a, .int .u32 t.b, .int .u32 t.c, .slice A L.length c])
  clear hL h ct
  generalize stamp.encI l = s1 at CN1 e1 HW
  generalize wrtL t = s2 at CW e2 HW
  generalize stamp.encI (L.length : Int) = s3 at CN3 e3 HW
  generalize wrB l t L = S at HW ⊢
  go_enter Try.func18, Try.ntmps18
  go_wp2_with fail
  refine (CC.out _).mono ?_
  rintro e w1 ⟨rfl, b1⟩
  have B1 := Lib.hid (B0.out.trans (b1.mono (by simp)))
  have W1 := Lib.hid (W0.out.below b1 (by simp))
  have c1 := fun i => W1.out.read i
  clear b1 CC
  go_wp2_with fail
  refine (CW.out _).mono ?_
  rintro e w2 ⟨rfl, b2⟩
  have B2 := Lib.hid (B1.out.trans (b2.mono B1.out.size))
  have W2 := Lib.hid (W1.out.below b2 W1.out.inside)
  clear b2 CW c1 B0 W0 B1 W1
  have c2 := fun i => W2.out.read i
  go_upto_region 5 with fail
  obtain ⟨wx, hwx⟩ : ∃ wx, wx = w2 := ⟨_, rfl⟩
  rw [← hwx] at W2 B2 ⊢
  have HBx := B2
  clear hwx c2
  refine region_full 57 [] [] (fun _ => false) (fun w7 => Below wx.heap.size wx w7) ?hR ?r0 [pdOne 0 (Is (.pointer (some ⟨w.heap.size, 0, none⟩))), pdOne 1 (Is (.int .i64 l)), pdOne 2 (Is (.int .u64 l)), pdOne 3 (Is (sB s1)), pdOne 4 (Is (sB s2)), pdOne 5 (Is (sB (s1 ++ s2))), pdOne 6 (Is (.pointer (some ⟨w.heap.size, 6, none⟩))), pdOne 7 (Is (.slice A L.length c)), pdOne 8 (Is (.int .i64 (L.length : Nat))), pdOne 9 (Is (.int .u64 (L.length : Nat))), pdOne 10 (Is (sB s3)), pdOne 11 (Is (sB (s1 ++ s2 ++ s3))), pdOne 12 (Is (sB (s1 ++ s2 ++ s3)))] (fun _ _ => True) (by kernel_rfl) rfl (by kernel_rfl) (by kernel_rfl) (by kernel_rfl) (by kernel_rfl) ?keep ?hO ?h0 ?tell
  case hR => exact fun wa wb hb h => h.trans (hb.mono h.size)
  case r0 => exact Below.refl _ _
  case keep => exact ⟨keep_one (keeps_is _), keep_one (keeps_is _), keep_one (keeps_is _), keep_one (keeps_is _), keep_one (keeps_is _), keep_one (keeps_is _), keep_one (keeps_is _), keep_one (keeps_is _), keep_one (keeps_is _), keep_one (keeps_is _), keep_one (keeps_is _), keep_one (keeps_is _), keep_one (keeps_is _), trivial⟩
  case hO => exact fun _ _ _ _ h => h
  case h0 => exact fun _ _ => trivial
  case tell =>
    intro fin hfin
    simp [lexPut, Act.put] at hfin
    simp only [TellF]
    refine ⟨⟨?_, ?_, ?_, ?_, ?_, ?_, ?_, ?_, ?_, ?_, ?_, ?_, ?_, trivial⟩, ?_⟩
    · intro v2 w7 hr hd
      refine yields_run (u := .pointer (some ⟨w.heap.size, 0, none⟩)) (w' := w7) ?_ (Below.refl _ _) rfl
      unfold execOp
      simp [go_sem, Act.eval]
    · intro v2 w7 hr hd
      have h0 : v2 0 = _ := hd 0 (by kernel_rfl)
      have k0 := (Whole.below W2.out hr W2.out.inside).read 0
      refine yields_run (u := .int .i64 l) (w' := w7) ?_ (Below.refl _ _) rfl
      unfold execOp
      simp [go_sem, Act.eval, Act.put, h0, k0]
    · intro v2 w7 hr hd
      have h1 : v2 1 = _ := hd 1 (by kernel_rfl)
      refine yields_run (u := .int .u64 l) (w' := w7) ?_ (Below.refl _ _) rfl
      unfold execOp
      simp [go_sem, Act.eval, Act.put, h1, hcl]
    · intro v2 w7 hr hd
      have h2 : v2 2 = _ := hd 2 (by kernel_rfl)
      refine yields_call (f := 42) rfl (vs := #[.int .u64 l]) (by simp [Act.eval, Act.put, h2]) rfl Try.func42 (by kernel_rfl) (by kernel_rfl) ((CN1.out w7).mono fun e w8 ⟨he, hb⟩ => ⟨_, he, hb, rfl⟩)
    · intro v2 w7 hr hd
      refine yields_run (u := sB s2) (w' := w7) ?_ (Below.refl _ _) rfl
      unfold execOp
      simp [go_sem, Act.eval, Act.put]
    · intro v2 w7 hr hd
      have h3 : v2 3 = _ := hd 3 (by kernel_rfl)
      have h4 : v2 4 = _ := hd 4 (by kernel_rfl)
      have hlen : (s1).length ≤ 1000000 := by
        try simp only [List.length_append]
        omega
      have hlen2 : (s2).length ≤ 1000000 := by
        try simp only [List.length_append]
        omega
      generalize s1 = P at h3 h4 hlen ⊢
      generalize s2 = Q at h3 h4 hlen2 ⊢
      have ha := str_app P Q
      refine yields_run (u := sB (P ++ Q)) (w' := w7) ?_ (Below.refl _ _) rfl
      unfold execOp
      simp [go_sem, Act.eval, Act.put, h3, h4, ha]
      omega
    · intro v2 w7 hr hd
      refine yields_run (u := .pointer (some ⟨w.heap.size, 6, none⟩)) (w' := w7) ?_ (Below.refl _ _) rfl
      unfold execOp
      simp [go_sem, Act.eval, Act.put]
    · intro v2 w7 hr hd
      have h6 : v2 6 = _ := hd 6 (by kernel_rfl)
      have k0 := (Whole.below W2.out hr W2.out.inside).read 6
      refine yields_run (u := .slice A L.length c) (w' := w7) ?_ (Below.refl _ _) rfl
      unfold execOp
      simp [go_sem, Act.eval, Act.put, h6, k0]
    · intro v2 w7 hr hd
      have h7 : v2 7 = _ := hd 7 (by kernel_rfl)
      refine yields_run (u := .int .i64 (L.length : Nat)) (w' := w7) ?_ (Below.refl _ _) rfl
      unfold execOp
      simp [go_sem, Act.eval, Act.put, h7]
    · intro v2 w7 hr hd
      have h8 : v2 8 = _ := hd 8 (by kernel_rfl)
      refine yields_run (u := .int .u64 (L.length : Nat)) (w' := w7) ?_ (Below.refl _ _) rfl
      unfold execOp
      simp [go_sem, Act.eval, Act.put, h8, hcn]
    · intro v2 w7 hr hd
      have h9 : v2 9 = _ := hd 9 (by kernel_rfl)
      refine yields_call (f := 42) rfl (vs := #[.int .u64 (L.length : Nat)]) (by simp [Act.eval, Act.put, h9]) rfl Try.func42 (by kernel_rfl) (by kernel_rfl) ((CN3.out w7).mono fun e w8 ⟨he, hb⟩ => ⟨_, he, hb, rfl⟩)
    · intro v2 w7 hr hd
      have h5 : v2 5 = _ := hd 5 (by kernel_rfl)
      have h10 : v2 10 = _ := hd 10 (by kernel_rfl)
      have hlen : (s1 ++ s2).length ≤ 1000000 := by
        try simp only [List.length_append]
        omega
      have hlen2 : (s3).length ≤ 1000000 := by
        try simp only [List.length_append]
        omega
      generalize s1 ++ s2 = P at h5 h10 hlen ⊢
      generalize s3 = Q at h5 h10 hlen2 ⊢
      have ha := str_app P Q
      refine yields_run (u := sB (P ++ Q)) (w' := w7) ?_ (Below.refl _ _) rfl
      unfold execOp
      simp [go_sem, Act.eval, Act.put, h5, h10, ha]
      omega
    · intro v2 w7 hr hd
      have h11 : v2 11 = _ := hd 11 (by kernel_rfl)
      refine yields_run (u := sB (s1 ++ s2 ++ s3)) (w' := w7) ?_ (Below.refl _ _) rfl
      unfold execOp
      simp [go_sem, Act.eval, Act.put, h11]
    · intro v2 w7 hr hv
      rw [hfin]
      have h12 : v2 12 = _ := hv 12 (by decide)
      have HBW := Lib.hid (HBx.out.trans (Below.mono hr HBx.out.size))
      have W7 := Lib.hid (Whole.below W2.out hr W2.out.inside)
      clear hfin hv hr W2
      generalize v2 12 = u12 at h12 ⊢
      subst h12
      go_wp2_with fail
      go_loopw [7, 8] (fun sv s wr => ∃ (k : Nat) (SK : List UInt8), k ≤ L.length ∧ s = .int .i64 k ∧ sv = sB SK ∧ Hid (SK = (s1 ++ s2 ++ s3) ++ (L.take k).flatMap wrR) ∧ Hid (Whole wr w.heap.size 37 #[.int .i64 l, .int .u32 t.e, .int .i64 t.d, .int .u32 t.a, .int .u32 t.b, .int .u32 t.c, .slice A L.length c]) ∧ Hid (Below w.heap.size w wr)) (fun _ s _ => L.length - (intOf s).toNat)
      case atStart => exact ⟨0, s1 ++ s2 ++ s3, Nat.zero_le _, rfl, rfl, Lib.hid (by simp), W7, HBW⟩
      case round =>
        obtain ⟨k, SK, hk, rfl, rfl, HS, W2, HBx⟩ := hrel
        clear HBW W7
        rename World => wx
        have c2 := W2.out.read 6
        by_cases hlt : k < L.length
        · obtain ⟨x, hx, hm⟩ := get_ltR hlt
          have ix := iL x hm
          obtain ⟨b1, o1, rfl, hb1, c0, c1⟩ := at_rc (HL.out.below HBx.out) hx
          have HX := Lib.hid hx
          have EX := Lib.hid (⟨fun w7 (h : Below wx.heap.size wx w7) => (h.cell (p := ⟨b1, o1 + k * 2, none⟩) hb1).trans c0, fun w7 (h : Below wx.heap.size wx w7) => (h.cell (p := ⟨b1, o1 + k * 2 + 1, none⟩) hb1).trans c1⟩ : (∀ w7, Below wx.heap.size wx w7 → w7.cell? ⟨b1, o1 + k * 2, none⟩ = some (.int .i64 x.k)) ∧ (∀ w7, Below wx.heap.size wx w7 → w7.cell? ⟨b1, o1 + k * 2 + 1, none⟩ = some (.int .i64 x.v)))
          have CS1 := Lib.hid (fun w0 => code.signedR_any x.k ix.1.1 ix.1.2 w0)
          have CS2 := Lib.hid (fun w0 => code.signedR_any x.v ix.2.1 ix.2.2 w0)
          have f1 := len_enc (zig x.k)
          have f2 := len_enc (zig x.v)
          have hfl : SK.length ≤ 2000 := by
            have := wrRs_len (L.take k)
            rw [List.length_take] at this
            rw [HS.out]
            simp only [List.length_append]
            omega
          have HWR : Hid (wrR x = enc (zig x.k) ++ enc (zig x.v)) := Lib.hid rfl
          clear hx hm ix
          generalize enc (zig x.k) = z1 at CS1 f1 HWR
          generalize enc (zig x.v) = z2 at CS2 f2 HWR
          go_upto_region 9 with fail
          clear c0 c1 c2
          refine region_full 57 [] [] (fun _ => false) (fun w7 => Below wx.heap.size wx w7) ?hR ?r0 [pdOne 0 (Is (sB SK)), pdOne 1 (Is (.pointer (some ⟨w.heap.size, 6, none⟩))), pdOne 2 (Is (.slice (some ⟨b1, o1, none⟩) L.length c)), pdOne 3 (Is (.int .i64 (k : Nat))), pdOne 4 (Is (.pointer (some ⟨b1, o1 + k * 2, none⟩))), pdOne 5 (Is (.pointer (some ⟨b1, o1 + k * 2, none⟩))), pdOne 6 (Is (.int .i64 x.k)), pdOne 7 (Is (sB z1)), pdOne 8 (Is (sB (SK ++ z1))), pdOne 9 (Is (.pointer (some ⟨w.heap.size, 6, none⟩))), pdOne 10 (Is (.slice (some ⟨b1, o1, none⟩) L.length c)), pdOne 11 (Is (.int .i64 (k : Nat))), pdOne 12 (Is (.pointer (some ⟨b1, o1 + k * 2, none⟩))), pdOne 13 (Is (.pointer (some ⟨b1, o1 + k * 2 + 1, none⟩))), pdOne 14 (Is (.int .i64 x.v)), pdOne 15 (Is (sB z2)), pdOne 16 (Is (sB (SK ++ z1 ++ z2))), pdOne 17 (Is (sB (SK ++ z1 ++ z2)))] (fun _ _ => True) (by kernel_rfl) rfl (by kernel_rfl) (by kernel_rfl) (by kernel_rfl) (by kernel_rfl) ?keep ?hO ?h0 ?tell
          case hR => exact fun wa wb hb h => h.trans (hb.mono h.size)
          case r0 => exact Below.refl _ _
          case keep => exact ⟨keep_one (keeps_is _), keep_one (keeps_is _), keep_one (keeps_is _), keep_one (keeps_is _), keep_one (keeps_is _), keep_one (keeps_is _), keep_one (keeps_is _), keep_one (keeps_is _), keep_one (keeps_is _), keep_one (keeps_is _), keep_one (keeps_is _), keep_one (keeps_is _), keep_one (keeps_is _), keep_one (keeps_is _), keep_one (keeps_is _), keep_one (keeps_is _), keep_one (keeps_is _), keep_one (keeps_is _), trivial⟩
          case hO => exact fun _ _ _ _ h => h
          case h0 => exact fun _ _ => trivial
          case tell =>
            intro fin hfin
            simp [lexPut, Act.put] at hfin
            simp only [TellF]
            refine ⟨⟨?_, ?_, ?_, ?_, ?_, ?_, ?_, ?_, ?_, ?_, ?_, ?_, ?_, ?_, ?_, ?_, ?_, ?_, trivial⟩, ?_⟩
            · intro v2 w7 hr hd
              refine yields_run (u := sB SK) (w' := w7) ?_ (Below.refl _ _) rfl
              unfold execOp
              simp [go_sem, Act.eval]
            · intro v2 w7 hr hd
              refine yields_run (u := .pointer (some ⟨w.heap.size, 6, none⟩)) (w' := w7) ?_ (Below.refl _ _) rfl
              unfold execOp
              simp [go_sem, Act.eval, Act.put]
            · intro v2 w7 hr hd
              have h1 : v2 1 = _ := hd 1 (by kernel_rfl)
              have k0 := (Whole.below W2.out hr W2.out.inside).read 6
              refine yields_run (u := .slice (some ⟨b1, o1, none⟩) L.length c) (w' := w7) ?_ (Below.refl _ _) rfl
              unfold execOp
              simp [go_sem, Act.eval, Act.put, h1, k0]
            · intro v2 w7 hr hd
              refine yields_run (u := .int .i64 (k : Nat)) (w' := w7) ?_ (Below.refl _ _) rfl
              unfold execOp
              simp [go_sem, Act.eval, Act.put]
            · intro v2 w7 hr hd
              have h2 : v2 2 = _ := hd 2 (by kernel_rfl)
              have h3 : v2 3 = _ := hd 3 (by kernel_rfl)
              exact yields_index (b := b1) (off := o1) (n := L.length) (c := c) (i := k) (m := 2) rfl (by simp [Act.eval, Act.put, h2, h3]) (by simp [Act.eval, Act.put, h2, h3]) hlt Try.underlying22 (by intro w; simp [Try.sizeOf59])
            · intro v2 w7 hr hd
              have h4 : v2 4 = _ := hd 4 (by kernel_rfl)
              refine yields_run (u := .pointer (some ⟨b1, o1 + k * 2, none⟩)) (w' := w7) ?_ (Below.refl _ _) rfl
              unfold execOp
              simp [go_sem, Act.eval, Act.put, h4]
            · intro v2 w7 hr hd
              have h5 : v2 5 = _ := hd 5 (by kernel_rfl)
              have k0 := EX.out.1 w7 hr
              refine yields_run (u := .int .i64 x.k) (w' := w7) ?_ (Below.refl _ _) rfl
              unfold execOp
              simp [go_sem, Act.eval, Act.put, h5, k0]
            · intro v2 w7 hr hd
              have h6 : v2 6 = _ := hd 6 (by kernel_rfl)
              refine yields_call (f := 43) rfl (vs := #[.int .i64 x.k]) (by simp [Act.eval, Act.put, h6]) rfl Try.func43 (by kernel_rfl) (by kernel_rfl) ((CS1.out w7).mono fun e w8 ⟨he, hb⟩ => ⟨_, he, hb, rfl⟩)
            · intro v2 w7 hr hd
              have h0 : v2 0 = _ := hd 0 (by kernel_rfl)
              have h7 : v2 7 = _ := hd 7 (by kernel_rfl)
              have hlen : (SK).length ≤ 1000000 := by
                try simp only [List.length_append]
                omega
              have hlen2 : (z1).length ≤ 1000000 := by
                try simp only [List.length_append]
                omega
              generalize SK = P at h0 h7 hlen ⊢
              generalize z1 = Q at h0 h7 hlen2 ⊢
              have ha := str_app P Q
              refine yields_run (u := sB (P ++ Q)) (w' := w7) ?_ (Below.refl _ _) rfl
              unfold execOp
              simp [go_sem, Act.eval, Act.put, h0, h7, ha]
              omega
            · intro v2 w7 hr hd
              refine yields_run (u := .pointer (some ⟨w.heap.size, 6, none⟩)) (w' := w7) ?_ (Below.refl _ _) rfl
              unfold execOp
              simp [go_sem, Act.eval, Act.put]
            · intro v2 w7 hr hd
              have h9 : v2 9 = _ := hd 9 (by kernel_rfl)
              have k0 := (Whole.below W2.out hr W2.out.inside).read 6
              refine yields_run (u := .slice (some ⟨b1, o1, none⟩) L.length c) (w' := w7) ?_ (Below.refl _ _) rfl
              unfold execOp
              simp [go_sem, Act.eval, Act.put, h9, k0]
            · intro v2 w7 hr hd
              refine yields_run (u := .int .i64 (k : Nat)) (w' := w7) ?_ (Below.refl _ _) rfl
              unfold execOp
              simp [go_sem, Act.eval, Act.put]
            · intro v2 w7 hr hd
              have h10 : v2 10 = _ := hd 10 (by kernel_rfl)
              have h11 : v2 11 = _ := hd 11 (by kernel_rfl)
              exact yields_index (b := b1) (off := o1) (n := L.length) (c := c) (i := k) (m := 2) rfl (by simp [Act.eval, Act.put, h10, h11]) (by simp [Act.eval, Act.put, h10, h11]) hlt Try.underlying22 (by intro w; simp [Try.sizeOf59])
            · intro v2 w7 hr hd
              have h12 : v2 12 = _ := hd 12 (by kernel_rfl)
              refine yields_run (u := .pointer (some ⟨b1, o1 + k * 2 + 1, none⟩)) (w' := w7) ?_ (Below.refl _ _) rfl
              unfold execOp
              simp [go_sem, Act.eval, Act.put, h12]
            · intro v2 w7 hr hd
              have h13 : v2 13 = _ := hd 13 (by kernel_rfl)
              have k0 := EX.out.2 w7 hr
              refine yields_run (u := .int .i64 x.v) (w' := w7) ?_ (Below.refl _ _) rfl
              unfold execOp
              simp [go_sem, Act.eval, Act.put, h13, k0]
            · intro v2 w7 hr hd
              have h14 : v2 14 = _ := hd 14 (by kernel_rfl)
              refine yields_call (f := 43) rfl (vs := #[.int .i64 x.v]) (by simp [Act.eval, Act.put, h14]) rfl Try.func43 (by kernel_rfl) (by kernel_rfl) ((CS2.out w7).mono fun e w8 ⟨he, hb⟩ => ⟨_, he, hb, rfl⟩)
            · intro v2 w7 hr hd
              have h8 : v2 8 = _ := hd 8 (by kernel_rfl)
              have h15 : v2 15 = _ := hd 15 (by kernel_rfl)
              have hlen : (SK ++ z1).length ≤ 1000000 := by
                try simp only [List.length_append]
                omega
              have hlen2 : (z2).length ≤ 1000000 := by
                try simp only [List.length_append]
                omega
              generalize SK ++ z1 = P at h8 h15 hlen ⊢
              generalize z2 = Q at h8 h15 hlen2 ⊢
              have ha := str_app P Q
              refine yields_run (u := sB (P ++ Q)) (w' := w7) ?_ (Below.refl _ _) rfl
              unfold execOp
              simp [go_sem, Act.eval, Act.put, h8, h15, ha]
              omega
            · intro v2 w7 hr hd
              have h16 : v2 16 = _ := hd 16 (by kernel_rfl)
              refine yields_run (u := sB (SK ++ z1 ++ z2)) (w' := w7) ?_ (Below.refl _ _) rfl
              unfold execOp
              simp [go_sem, Act.eval, Act.put, h16]
            · intro v2 w7 hr hv
              rw [hfin]
              have h17 : v2 17 = _ := hv 17 (by decide)
              have HBW := Lib.hid (HBx.out.trans (Below.mono hr HBx.out.size))
              have W7 := Lib.hid (Whole.below W2.out hr W2.out.inside)
              clear hfin hv hr
              generalize v2 17 = u17 at h17 ⊢
              subst h17
              go_wp2_with fail
              go_roundw
              case rel => exact ⟨k + 1, SK ++ z1 ++ z2, by omega, by go_num, rfl, Lib.hid (by rw [take_next HX.out, List.flatMap_append, List.flatMap_cons, List.flatMap_nil, List.append_nil, HWR.out, ← List.append_assoc, ← HS.out, List.append_assoc]), W7, HBW⟩
              case measure => simp [intOf]; omega
        · obtain rfl : k = L.length := by omega
          rw [List.take_length, ← HW.out] at HS
          have HSS := Lib.hid HS.out
          clear HS
          go_wp2_with fail
          go_ret2
          exact ⟨by rw [HSS.out]; rfl, HBx.out⟩
theorem writeRB_any (l : Int) (t : Tm) (i : t.In) (L : List Rc) (iL : InR L) (A : Option Addr) (c : Nat) (w : World) (hL : Lr w A L) :
    Calls Try.prog 18 #[.agg #[.int .i64 l, .int .u32 t.e, .int .i64 t.d, .int .u32 t.a, .int .u32 t.b, .int .u32 t.c, .slice A L.length c]] w fun e w' => e = .returned (.tuple #[sB (wrV l t L), .int .i64 (chkB l t L.length)]) ∧ Below w.heap.size w w' := by
  by_cases h : chkB l t L.length = 0
  · rw [h, show wrV l t L = wrB l t L by unfold wrV; rw [if_pos h]]
    exact writeRB_good l t i L iL A c h w hL
  · rw [show wrV l t L = [] by unfold wrV; rw [if_neg h]]
    exact writeRB_bad l t i L A c h w
end Go.Proofs.Ytaiaadojnoipfaa.data
