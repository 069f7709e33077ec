/-
  A frontier holds just what its times hold; none of them is ahead of another one; made again it is as it was; no condition.
-/
import Derived.Test.YtmepiogoofmbbaaDoorLx6
import Derived.Deep.RegionHeld3
namespace Go.Proofs.YtmepiogoofmbbaaDoor.chainHolds
open Go.ChangeShapes Go.WideShapes Go.ChangeAt Go.RowKit
open Go.Proofs.YtmepiogoofmbbaaDoor.tm Go.Proofs.YtmepiogoofmbbaaDoor.opened Go.Proofs.YtmepiogoofmbbaaDoor.block Go.Proofs.YtmepiogoofmbbaaDoor.stamp Go.Proofs.YtmepiogoofmbbaaDoor.chain

set_option maxRecDepth 100000 in
set_option maxHeartbeats 8000000 in
theorem walkT (A : Option Addr) (c : Nat) (L : List Tm) (iL : InL L) (mL : L.length ≤ 4611686018427387903) (t : Tm) (it : t.In) (w : World) (hE : Env w) (hL : Lt w A L) :
    Calls Tryd.prog 3 #[.slice A L.length c, .agg #[.int .u32 t.e, .int .i64 t.d, .int .u32 t.a, .int .u32 t.b, .int .u32 t.c]] w fun r W' => r = .returned (.bool true) ∧ Below w.heap.size w W' := by
  have f0 := fresh1 w (.cells #[.int .u32 t.e, .int .i64 t.d, .int .u32 t.a, .int .u32 t.b, .int .u32 t.c] 26)
  have HE := Lib.hid (hE.below f0)
  have HL := Lib.hid (hL.below f0)
  have OT : Hid (BoxT (w.alloc (.cells #[.int .u32 t.e, .int .i64 t.d, .int .u32 t.a, .int .u32 t.b, .int .u32 t.c] 26)) w.heap.size t) := Lib.hid (Whole.fresh w 26 #[.int .u32 t.e, .int .i64 t.d, .int .u32 t.a, .int .u32 t.b, .int .u32 t.c])
  have B0 := f0
  have IT := Lib.hid it
  clear hE hL f0 it
  go_enter Tryd.func3, Tryd.ntmps3
  go_upto_region 1 with fail
  change Code.wp _ _ _ _ (w.alloc (.cells #[.int .u32 t.e, .int .i64 t.d, .int .u32 t.a, .int .u32 t.b, .int .u32 t.c] 26))
  generalize w.alloc (.cells #[.int .u32 t.e, .int .i64 t.d, .int .u32 t.a, .int .u32 t.b, .int .u32 t.c] 26) = W at B0 HE HL OT ⊢
  go_wp2_with fail
  refine (works6 _ HE.out).mono ?_
  rintro e w1 ⟨rfl, b1⟩
  have HE := Lib.hid (HE.out.below b1)
  have HL := Lib.hid (HL.out.below b1)
  have OT := Lib.hid (OT.out.below b1)
  have B1 := B0.trans (b1.mono B0.size)
  clear b1 B0
  clear HE
  by_cases gL : 200 < L.length
  · go_wp2_with fail
    refine (great_yes A c mL gL _).mono ?_
    rintro e w2 ⟨rfl, b2⟩
    have HL := Lib.hid (HL.out.below b2)
    have OT := Lib.hid (OT.out.below b2)
    have B2 := B1.trans (b2.mono B1.size)
    clear b2 B1
    go_wp2_with fail
    go_ret
    exact ⟨by first | rfl | simp, B2⟩
  · go_wp2_with fail
    refine (great_no A c mL gL _).mono ?_
    rintro e w2 ⟨rfl, b2⟩
    have HL := Lib.hid (HL.out.below b2)
    have OT := Lib.hid (OT.out.below b2)
    have B2 := B1.trans (b2.mono B1.size)
    clear b2 B1
    go_wp2_with fail
    refine (own_lies A c L (by omega) _ HL.out).mono ?_
    rintro e w3 ⟨A3, c3, rfl, h3, b3⟩
    have HL := Lib.hid (HL.out.below b3)
    have OT := Lib.hid (OT.out.below b3)
    have B3 := B2.trans (b3.mono B2.size)
    clear b3 B2
    have KL := Lib.hid h3
    clear h3
    have MK := Lib.hid (make_any A3 c3 L iL mL)
    have FL := Lib.hid (fun h => (make_zero (L := L) (h := iL) h).2.1)
    have VN : Hid (makeE L iL ≠ 0 → makeV L iL = []) := Lib.hid (fun h => by unfold makeV; rw [if_neg h])
    have MH : Hid (makeE L iL = 0 → holdsB (makeV L iL) t = holdsB L t) := Lib.hid (fun h => make_holds h t)
    have IL := Lib.hid iL
    generalize makeE L iL = eL at FL MK VN MH
    generalize makeV L iL = V at FL MK VN MH
    go_wp2_with fail
    refine (MK.out _ KL.out).mono ?_
    rintro e w4 ⟨A4, c4, rfl, h4, b4⟩
    have HL := Lib.hid (HL.out.below b4)
    have OT := Lib.hid (OT.out.below b4)
    have KL := Lib.hid (KL.out.below b4)
    have B4 := B3.trans (b4.mono B3.size)
    clear b4 B3
    have R := Lib.hid h4
    clear h4
    clear MK
    clear KL
    by_cases zL : eL = 0
    · subst zL
      have f := FL.out rfl
      have j := front_in f
      have few := f.few
      have AN : Hid (∀ (i k : Nat) (x y : Tm), i ≠ k → V[i]? = some x → V[k]? = some y → leB x y = false) := Lib.hid (fun i k x y n hi hk => front_anti f n hi hk)
      obtain ⟨me, mv⟩ := make_front f j
      have CK := check_front f j
      have hh := MH.out rfl
      have KO := Lib.hid (fun A c w => own_lies A c L (by omega) w)
      have KV := Lib.hid (own_lies A4 c4 V (by omega))
      have H1 := Lib.hid (holds_any A4 c4 V t IT.out j (by omega))
      have H2 := Lib.hid (fun A c => holds_any A c L t IT.out IL.out mL)
      have C1 := Lib.hid (fun A c => check_chain A c V j (by omega))
      rw [CK] at C1
      rw [hh] at H1
      have M2 := Lib.hid (fun A c => make_any A c V j (by omega))
      rw [me, mv] at M2
      have IV := Lib.hid j
      generalize holdsB L t = hb at H1 H2
      clear me mv CK hh f j FL VN MH IL
      have HL0 := Lib.hid HL.out
      have R0 := Lib.hid R.out
      go_upto_region 8 with fail
      go_cut [39] from 26 to 39 (fun s wx => s = .bool false ∧ Below w4.heap.size w4 wx)
      case first =>
        cases hb
        · have cells : ∀ w', Below w4.heap.size w4 w' → _ := fun w' hb => ((show Whole _ _ _ _ from OT.out).below hb (show Whole _ _ _ _ from OT.out).inside).read
          have k0 : ∀ w', Below w4.heap.size w4 w' → w'.cell? ⟨w.heap.size, 0, none⟩ = some (.int .u32 t.e) := fun w' hb => cells w' hb 0
          have k1 : ∀ w', Below w4.heap.size w4 w' → w'.cell? ⟨w.heap.size, 1, none⟩ = some (.int .i64 t.d) := fun w' hb => cells w' hb 1
          have k2 : ∀ w', Below w4.heap.size w4 w' → w'.cell? ⟨w.heap.size, 2, none⟩ = some (.int .u32 t.a) := fun w' hb => cells w' hb 2
          have k3 : ∀ w', Below w4.heap.size w4 w' → w'.cell? ⟨w.heap.size, 3, none⟩ = some (.int .u32 t.b) := fun w' hb => cells w' hb 3
          have k4 : ∀ w', Below w4.heap.size w4 w' → w'.cell? ⟨w.heap.size, 4, none⟩ = some (.int .u32 t.c) := fun w' hb => cells w' hb 4
          have K := Lib.hid (And.intro k0 (And.intro k1 (And.intro k2 (And.intro k3 k4))))
          have x0 := K.out.1 _ (Below.refl _ _)
          have x1 := K.out.2.1 _ (Below.refl _ _)
          have x2 := K.out.2.2.1 _ (Below.refl _ _)
          have x3 := K.out.2.2.2.1 _ (Below.refl _ _)
          have x4 := K.out.2.2.2.2 _ (Below.refl _ _)
          have D0 : Below w4.heap.size w4 w4.drew := (Below.refl _ _).drew
          clear k0 k1 k2 k3 k4 cells
          go_region_held3 (fun w' => w'.cell? ⟨w.heap.size, 0, none⟩ = some (.int .u32 t.e) ∧ w'.cell? ⟨w.heap.size, 1, none⟩ = some (.int .i64 t.d) ∧ w'.cell? ⟨w.heap.size, 2, none⟩ = some (.int .u32 t.a) ∧ w'.cell? ⟨w.heap.size, 3, none⟩ = some (.int .u32 t.b) ∧ w'.cell? ⟨w.heap.size, 4, none⟩ = some (.int .u32 t.c)) (go_keep)
            (first
              | (go_at_call 11; refine (H1.out _ (R0.out.below (by exact D0))).mono ?_; rintro e wa ⟨rfl, ba⟩; have Da := D0.trans (ba.mono D0.size); have y0 := K.out.1 _ Da; have y1 := K.out.2.1 _ Da; have y2 := K.out.2.2.1 _ Da; have y3 := K.out.2.2.2.1 _ Da; have y4 := K.out.2.2.2.2 _ Da; clear D0)
              | (go_at_call 10; refine (KO.out A c _ (HL0.out.below (by exact Da))).mono ?_; rintro e wb ⟨Ab, cb, rfl, hb, bb⟩; have Db := Da.trans (bb.mono Da.size); have OB := Lib.hid hb; clear hb; have y0 := K.out.1 _ Db; have y1 := K.out.2.1 _ Db; have y2 := K.out.2.2.1 _ Db; have y3 := K.out.2.2.2.1 _ Db; have y4 := K.out.2.2.2.2 _ Db; clear Da)
              | (go_at_call 11; refine (H2.out Ab cb _ OB.out).mono ?_; rintro e wc ⟨rfl, bc⟩; have Dc := Db.trans (bc.mono Db.size); have y0 := K.out.1 _ Dc; have y1 := K.out.2.1 _ Dc; have y2 := K.out.2.2.1 _ Dc; have y3 := K.out.2.2.2.1 _ Dc; have y4 := K.out.2.2.2.2 _ Dc; clear Db)
              | (go_at_call 10; refine (KV.out _ (R0.out.below (by exact Dc))).mono ?_; rintro e wd ⟨Ad, cd, rfl, hd, bd⟩; have Dd := Dc.trans (bd.mono Dc.size); have OD := Lib.hid hd; clear hd; have y0 := K.out.1 _ Dd; have y1 := K.out.2.1 _ Dd; have y2 := K.out.2.2.1 _ Dd; have y3 := K.out.2.2.2.1 _ Dd; have y4 := K.out.2.2.2.2 _ Dd; clear Dc)
              | (go_at_call 12; refine (C1.out Ad cd _ OD.out).mono ?_; rintro e we ⟨rfl, be⟩; have De := Dd.trans (be.mono Dd.size); have y0 := K.out.1 _ De; have y1 := K.out.2.1 _ De; have y2 := K.out.2.2.1 _ De; have y3 := K.out.2.2.2.1 _ De; have y4 := K.out.2.2.2.2 _ De; clear Dd))
          all_goals (go_wp2_with fail; go_meet; exact ⟨rfl, De⟩)
        · have cells : ∀ w', Below w4.heap.size w4 w' → _ := fun w' hb => ((show Whole _ _ _ _ from OT.out).below hb (show Whole _ _ _ _ from OT.out).inside).read
          have k0 : ∀ w', Below w4.heap.size w4 w' → w'.cell? ⟨w.heap.size, 0, none⟩ = some (.int .u32 t.e) := fun w' hb => cells w' hb 0
          have k1 : ∀ w', Below w4.heap.size w4 w' → w'.cell? ⟨w.heap.size, 1, none⟩ = some (.int .i64 t.d) := fun w' hb => cells w' hb 1
          have k2 : ∀ w', Below w4.heap.size w4 w' → w'.cell? ⟨w.heap.size, 2, none⟩ = some (.int .u32 t.a) := fun w' hb => cells w' hb 2
          have k3 : ∀ w', Below w4.heap.size w4 w' → w'.cell? ⟨w.heap.size, 3, none⟩ = some (.int .u32 t.b) := fun w' hb => cells w' hb 3
          have k4 : ∀ w', Below w4.heap.size w4 w' → w'.cell? ⟨w.heap.size, 4, none⟩ = some (.int .u32 t.c) := fun w' hb => cells w' hb 4
          have K := Lib.hid (And.intro k0 (And.intro k1 (And.intro k2 (And.intro k3 k4))))
          have x0 := K.out.1 _ (Below.refl _ _)
          have x1 := K.out.2.1 _ (Below.refl _ _)
          have x2 := K.out.2.2.1 _ (Below.refl _ _)
          have x3 := K.out.2.2.2.1 _ (Below.refl _ _)
          have x4 := K.out.2.2.2.2 _ (Below.refl _ _)
          have D0 : Below w4.heap.size w4 w4.drew := (Below.refl _ _).drew
          clear k0 k1 k2 k3 k4 cells
          go_region_held3 (fun w' => w'.cell? ⟨w.heap.size, 0, none⟩ = some (.int .u32 t.e) ∧ w'.cell? ⟨w.heap.size, 1, none⟩ = some (.int .i64 t.d) ∧ w'.cell? ⟨w.heap.size, 2, none⟩ = some (.int .u32 t.a) ∧ w'.cell? ⟨w.heap.size, 3, none⟩ = some (.int .u32 t.b) ∧ w'.cell? ⟨w.heap.size, 4, none⟩ = some (.int .u32 t.c)) (go_keep)
            (first
              | (go_at_call 11; refine (H1.out _ (R0.out.below (by exact D0))).mono ?_; rintro e wa ⟨rfl, ba⟩; have Da := D0.trans (ba.mono D0.size); have y0 := K.out.1 _ Da; have y1 := K.out.2.1 _ Da; have y2 := K.out.2.2.1 _ Da; have y3 := K.out.2.2.2.1 _ Da; have y4 := K.out.2.2.2.2 _ Da; clear D0)
              | (go_at_call 10; refine (KO.out A c _ (HL0.out.below (by exact Da))).mono ?_; rintro e wb ⟨Ab, cb, rfl, hb, bb⟩; have Db := Da.trans (bb.mono Da.size); have OB := Lib.hid hb; clear hb; have y0 := K.out.1 _ Db; have y1 := K.out.2.1 _ Db; have y2 := K.out.2.2.1 _ Db; have y3 := K.out.2.2.2.1 _ Db; have y4 := K.out.2.2.2.2 _ Db; clear Da)
              | (go_at_call 11; refine (H2.out Ab cb _ OB.out).mono ?_; rintro e wc ⟨rfl, bc⟩; have Dc := Db.trans (bc.mono Db.size); have y0 := K.out.1 _ Dc; have y1 := K.out.2.1 _ Dc; have y2 := K.out.2.2.1 _ Dc; have y3 := K.out.2.2.2.1 _ Dc; have y4 := K.out.2.2.2.2 _ Dc; clear Db)
              | (go_at_call 10; refine (KV.out _ (R0.out.below (by exact Dc))).mono ?_; rintro e wd ⟨Ad, cd, rfl, hd, bd⟩; have Dd := Dc.trans (bd.mono Dc.size); have OD := Lib.hid hd; clear hd; have y0 := K.out.1 _ Dd; have y1 := K.out.2.1 _ Dd; have y2 := K.out.2.2.1 _ Dd; have y3 := K.out.2.2.2.1 _ Dd; have y4 := K.out.2.2.2.2 _ Dd; clear Dc)
              | (go_at_call 12; refine (C1.out Ad cd _ OD.out).mono ?_; rintro e we ⟨rfl, be⟩; have De := Dd.trans (be.mono Dd.size); have y0 := K.out.1 _ De; have y1 := K.out.2.1 _ De; have y2 := K.out.2.2.1 _ De; have y3 := K.out.2.2.2.1 _ De; have y4 := K.out.2.2.2.2 _ De; clear Dd))
          all_goals (go_wp2_with fail; go_meet; exact ⟨rfl, De⟩)
      case rest =>
        clear H1 H2 C1 KO HL0 R0
        obtain ⟨rfl, b5⟩ := hcut
        rename World => w5
        have HL := Lib.hid (HL.out.below b5)
        have OT := Lib.hid (OT.out.below b5)
        have R := Lib.hid (R.out.below b5)
        have B5 := B4.trans (b5.mono B4.size)
        clear b5 B4
        clear HL OT
        go_wp2_with fail
        go_loopw [7] (fun s wr => ∃ i : Nat, i ≤ V.length ∧ s = .int .i64 i ∧ Below w5.heap.size w5 wr) (fun s _ => V.length - (intOf s).toNat)
        case atStart => exact ⟨0, Nat.zero_le _, rfl, Below.refl _ _⟩
        case round =>
          obtain ⟨i, hi, rfl, hb0⟩ := hrel
          rename World => W1
          by_cases hlt : i < V.length
          · obtain ⟨x, hx, hm⟩ := get_lt hlt
            have HX := Lib.hid hx
            have IX := Lib.hid (IV.out x hm)
            clear hx hm
            go_wp2_with fail
            go_loopw [8] (fun s wr => ∃ k : Nat, k ≤ V.length ∧ s = .int .i64 k ∧ Below w5.heap.size w5 wr) (fun s _ => V.length - (intOf s).toNat)
            case atStart => exact ⟨0, Nat.zero_le _, rfl, hb0⟩
            case round =>
              obtain ⟨k, hk, rfl, hb1⟩ := hrel
              rename World => W2
              by_cases hlk : k < V.length
              · by_cases hik : i = k
                · subst hik
                  have hd : ((i : Int) != (i : Int)) = false := by simp
                  go_wp2_with fail
                  refine region_since W2 (by kernel_rfl) (by kernel_rfl) (Below.refl _ _) ?_
                  repeat (go_big_quiet_step (fail))
                  refine wpQuiet_nil ?_
                  rintro w4 ⟨z, hw⟩
                  have B4 : Below w5.heap.size w5 w4 := hb1.trans ((hw ▸ z.2 : Below W2.heap.size W2 w4).mono hb1.size)
                  clear hw z
                  go_wp2_with fail
                  go_roundw
                  case rel => exact ⟨i + 1, by omega, by go_num, B4⟩
                  case measure => simp [intOf]; omega
                · obtain ⟨y, hy, hm⟩ := get_lt hlk
                  have hd : ((i : Int) != (k : Int)) = true := by simp; omega
                  have LE := leR_any x y IX.out (IV.out y hm)
                  rw [AN.out _ _ _ _ hik HX.out hy] at LE
                  have LE := Lib.hid LE
                  obtain ⟨b1', o1, hA, hg1, c0, c1, c2, c3, c4⟩ := (R.out.below hb1).at HX.out
                  obtain ⟨b2', o2, hA2, hg2, d0, d1, d2, d3, d4⟩ := (R.out.below hb1).at hy
                  subst hA
                  injection (Option.some.inj hA2) with e1 e2
                  subst e1 e2
                  clear hA2 hy hm
                  have s0 : ∀ z : Since W2, z.1.cell? ⟨b1', o1 + i * 5, none⟩ = some (.int .u32 x.e) := fun z => (z.2.cell hg1).trans c0
                  have s1 : ∀ z : Since W2, z.1.cell? ⟨b1', o1 + i * 5 + 1, none⟩ = some (.int .i64 x.d) := fun z => (z.2.cell hg1).trans c1
                  have s2 : ∀ z : Since W2, z.1.cell? ⟨b1', o1 + i * 5 + 2, none⟩ = some (.int .u32 x.a) := fun z => (z.2.cell hg1).trans c2
                  have s3 : ∀ z : Since W2, z.1.cell? ⟨b1', o1 + i * 5 + 3, none⟩ = some (.int .u32 x.b) := fun z => (z.2.cell hg1).trans c3
                  have s4 : ∀ z : Since W2, z.1.cell? ⟨b1', o1 + i * 5 + 4, none⟩ = some (.int .u32 x.c) := fun z => (z.2.cell hg1).trans c4
                  have t0 : ∀ z : Since W2, z.1.cell? ⟨b1', o1 + k * 5, none⟩ = some (.int .u32 y.e) := fun z => (z.2.cell hg2).trans d0
                  have t1 : ∀ z : Since W2, z.1.cell? ⟨b1', o1 + k * 5 + 1, none⟩ = some (.int .i64 y.d) := fun z => (z.2.cell hg2).trans d1
                  have t2 : ∀ z : Since W2, z.1.cell? ⟨b1', o1 + k * 5 + 2, none⟩ = some (.int .u32 y.a) := fun z => (z.2.cell hg2).trans d2
                  have t3 : ∀ z : Since W2, z.1.cell? ⟨b1', o1 + k * 5 + 3, none⟩ = some (.int .u32 y.b) := fun z => (z.2.cell hg2).trans d3
                  have t4 : ∀ z : Since W2, z.1.cell? ⟨b1', o1 + k * 5 + 4, none⟩ = some (.int .u32 y.c) := fun z => (z.2.cell hg2).trans d4
                  clear c0 c1 c2 c3 c4 d0 d1 d2 d3 d4
                  go_wp2_with fail
                  refine region_since W2 (by kernel_rfl) (by kernel_rfl) (Below.refl _ _) ?_
                  repeat (go_big_quiet_step ((go_at_call 13; with_reducible exact since_call LE.out _)))
                  refine wpQuiet_nil ?_
                  rintro w4 ⟨z, hw⟩
                  have B4 : Below w5.heap.size w5 w4 := hb1.trans ((hw ▸ z.2 : Below W2.heap.size W2 w4).mono hb1.size)
                  clear hw z s0 s1 s2 s3 s4 t0 t1 t2 t3 t4
                  go_wp2_with fail
                  go_roundw
                  case rel => exact ⟨k + 1, by omega, by go_num, B4⟩
                  case measure => simp [intOf]; omega
              · have hkk : k = V.length := by omega
                subst hkk
                go_wp2_with fail
                go_roundw
                case rel => exact ⟨i + 1, by omega, by go_num, hb1⟩
                case measure => simp [intOf]; omega
          · have hii : i = V.length := by omega
            subst hii
            have B6 := B5.trans (hb0.mono B5.size)
            have R := Lib.hid (R.out.below hb0)
            go_wp2_with fail
            refine (KV.out _ R.out).mono ?_
            rintro e w7 ⟨A7, c7, rfl, h7, b7⟩
            have R := Lib.hid (R.out.below b7)
            have B7 := B6.trans (b7.mono B6.size)
            clear b7 B6
            have KW := Lib.hid h7
            clear h7
            go_wp2_with fail
            refine (M2.out A7 c7 _ KW.out).mono ?_
            rintro e w8 ⟨A8, c8, rfl, h8, b8⟩
            have R := Lib.hid (R.out.below b8)
            have KW := Lib.hid (KW.out.below b8)
            have B8 := B7.trans (b8.mono B7.size)
            clear b8 B7
            have NV := Lib.hid h8
            clear h8
            go_wp2_with fail
            refine (same_self A8 A4 c8 c4 V (by omega) _ NV.out R.out).mono ?_
            rintro e w9 ⟨rfl, b9⟩
            have R := Lib.hid (R.out.below b9)
            have KW := Lib.hid (KW.out.below b9)
            have NV := Lib.hid (NV.out.below b9)
            have B9 := B8.trans (b9.mono B8.size)
            clear b9 B8
            go_wp2_with fail
            go_ret
            exact ⟨by first | rfl | simp, B9⟩
    · obtain rfl : V = [] := VN.out zL
      go_wp2_with fail
      go_ret
      exact ⟨by first | rfl | simp, B4⟩
set_option maxRecDepth 100000 in
theorem told (W : World) (args : Array Value) (hE : Env W) (h : Fed Tryd.prog W [22, 26] args) : Calls Tryd.prog 3 args W fun e W' => e = .returned (.bool true) ∧ Below W.heap.size W W' := by
  obtain ⟨v0, v1, rfl⟩ := args2 h.count
  obtain ⟨⟨_, o0⟩, r0⟩ := h.each 0 22 v0 rfl rfl
  obtain ⟨⟨_, o1⟩, r1⟩ := h.each 1 26 v1 rfl rfl
  obtain ⟨a0, q0⟩ := r0 opens_times
  obtain ⟨A0, c0, L0, rfl, iL0, hL0, hc0, mL0⟩ := top_times o0 q0
  obtain ⟨a1, q1⟩ := r1 opens_time
  obtain ⟨t1, i1, rfl⟩ := top_time o1 q1
  exact walkT A0 c0 L0 iL0 mL0 t1 i1 W hE hL0

/-! ### The row and the card -/
set_option maxRecDepth 100000 in
theorem lifted (os : Os) (started : os.Started) (H : Type) (enc : TypeId × Value → H) :
    ReturnsInHanded {} Tryd.checked os 3 .any (fun w args => (Rows.chainHoldsSpec.pre enc Tryd.prog Tryd.f3 Rows.chainHoldsRow.domain false w args ∧ laidMetH Tryd.prog Rows.chainHoldsRow.laid w) ∧ sizedMet enc Tryd.prog Tryd.f3 (OpenSpec.ofChange Rows.chainHoldsSpec) false w args) (Rows.chainHoldsSpec.post enc Tryd.prog Tryd.f3 false true false false) :=
  liftL (ts := [22, 26]) rfl started (by kernel_rfl) Tryd.func3 (by kernel_rfl) (by kernel_rfl) (by kernel_rfl) rfl
    (fun ds h => by
      match ds, h with
      | [_, _], _ => rfl)
    (ChangeSpec.witness_shaped (enc := enc) (C := Tryd.checked) (os := os) (X := fun w _ => laidMetH Tryd.prog laid7 w) false (Go.Proofs.YtmepiogoofmbbaaDoor.stamp.start os) #[.slice none 0 0, .agg #[.int .u32 0, .int .i64 0, .int .u32 0, .int .u32 0, .int .u32 0]] 8 (World.laidAll_os _ _ _)
      (World.shaped_of_ZipB (by kernel_rfl) (by kernel_rfl)) (by kernel_rfl) (by kernel_rfl) (by kernel_rfl) (start_met os _)) told

theorem over : Rows.ChainHoldsSaid :=
  OpenClaim.holds_of_wide 3 Tryd.f3 rfl rfl rfl rfl rfl rfl rfl ⟨rfl, rfl, rfl, rfl, rfl⟩ rfl rfl rfl rfl rfl (by kernel_rfl) Tryd.func3 (by kernel_rfl)
    (of_decide_eq_true (by kernel_rfl)) (by unfold Func.isWrapper; first | (rw [if_pos (by decide +kernel)]; kernel_rfl) | (rw [if_neg (by decide +kernel)]; exact ⟨rfl, rfl⟩))
    (fun os started H enc _ => lifted os started H enc)

theorem proved : Rows.ChainHoldsCardSaid :=
  Claim7.holds_tied_plain_at .later [] [.data, .data, .data] true (true, "f827beb75ba331ec15cc7265a1360425f7692638d53d3e072fa10e4f98849f90") false
    over (fun _ h => by cases h) (by kernel_rfl) (fun _ h => by cases h) chainHolds_row_tie rfl ⟨rfl, rfl⟩ (by kernel_rfl) rfl
    (fun f fn hf hfn => by
      obtain rfl : f = 3 := Option.some.inj ((show Tryd.prog.funcNamed "watershed/watershedlaw06.ChainHolds" = some 3 by kernel_rfl).symm.trans hf) |>.symm
      obtain rfl : fn = Tryd.f3 := (Option.some.inj (Tryd.func3.symm.trans hfn)).symm
      exact ⟨by kernel_rfl, fun j t ht => by
        rw [Tryd.params3] at ht
        have hm : t ∈ [22, 26] := by simpa using Array.mem_of_getElem? ht
        have hall : ([22, 26].all fun u => !Tryd.prog.wantsStandIn u) = true := by kernel_rfl
        exact (show Tryd.prog.wantsStandIn t = false by simpa using List.all_eq_true.1 hall t hm)⟩)
    (by kernel_rfl)
#print axioms proved

end Go.Proofs.YtmepiogoofmbbaaDoor.chainHolds
