/-
  The walk of HopOnce (by gen_on.py).
-/
import Derived.Test.YtbomlapmoiamgaaHap2
import Derived.Test.YtbomlapmoiamgaaHix
import Derived.Test.YtbomlapmoiamgaaHst
set_option linter.unusedSimpArgs false
set_option linter.unusedVariables false
namespace Go.Proofs.Ytbomlapmoiamgaa.hop
open Go.ChangeShapes Go.WideShapes Go.ChangeAt Go.RowKit
open Go.Proofs.Ytbomlapmoiamgaa.opened Go.Proofs.Ytbomlapmoiamgaa.block Go.Proofs.Ytbomlapmoiamgaa.words Go.Proofs.Ytbomlapmoiamgaa.region
section
variable {w : World}
set_option maxRecDepth 100000 in
set_option maxHeartbeats 16000000 in
theorem walkOnce (A0 : Option Addr) (c0 : Nat) (l : List Lk) (hl : l.length ≤ 4611686018427387903) (hL : lnkRow w A0 l) (win wai : Int) : Calls Try.prog 6 #[.slice A0 l.length c0, .int .i64 win, .int .i64 wai] w fun e w' => e = .returned (.bool true) ∧ Below w.heap.size w w' := by
  have HW := Lib.hid (works_any w)
  obtain ⟨wd, hd1, hd2, hd⟩ := one_mod win 16 (by omega) (by omega)
  obtain ⟨wt, ht1, ht2, ht⟩ := one_mod wai 9 (by omega) (by omega)
  have HL := Lib.hid hL
  clear hL
  go_enter Try.func6, Try.ntmps6
  go_upto_region 4 with (go_at_call 39; refine HW.out.mono ?_; rintro e w1 ⟨rfl, b1⟩; have B1 := Lib.hid b1; clear b1)
  have hd' : wrap64 (1 + wrap64 ((IntKind.u64.wrap win).tmod 16)) = (wd : Int) := hd
  have ht' : wrap64 (1 + wrap64 ((IntKind.u64.wrap wai).tmod 9)) = (wt : Int) := ht
  rw [hd', ht']
  clear hd hd' ht ht' HW
  generalize wrap64 ((IntKind.u64.wrap win).tmod 16) = q1
  generalize wrap64 ((IntKind.u64.wrap wai).tmod 9) = q2
  generalize (IntKind.u64.wrap win).tmod 16 = q3
  generalize (IntKind.u64.wrap wai).tmod 9 = q4
  generalize IntKind.u64.wrap win = q5
  generalize IntKind.u64.wrap wai = q6
  have hd3 : (1 : Int) ≤ wd ∧ (wd : Int) ≤ 16 := by omega
  have ht3 : (1 : Int) ≤ wt ∧ (wt : Int) ≤ 9 := by omega
  have HDT := Lib.hid (show ((1 : Int) ≤ wd ∧ (wd : Int) ≤ 16) ∧ ((1 : Int) ≤ wt ∧ (wt : Int) ≤ 9) from ⟨hd3, ht3⟩)
  have HNS := Lib.hid (newS_good (w := w1) (e := 1) (a := 0) (wd := (wd : Int)) (wt := (wt : Int)) (by unfold NewOk; omega))
  have HNR := Lib.hid (fun (w2 : World) => newR_good (w := w2) 0 (by omega))
  have M0 : Hid (Rnd ((1 : Nat) : Int) ((0 : Nat) : Int) (wd : Int) (wt : Int) (newV 1 0 (wd : Int) (wt : Int)) ⟨0, 0⟩) := Lib.hid ⟨⟨good_new (by unfold NewOk; omega), rfl, rfl, rfl, rfl, fun x hx => by simp [newV] at hx⟩, ⟨by show (0 : Int) ≤ 0; omega, by show (0 : Int) ≤ 1; omega, by show (0 : Int) ≤ 0; omega, by show (0 : Int) ≤ 0; omega, by show (0 : Int) ≤ 0; omega⟩⟩
  go_upto_region 6 with (first
    | (go_at_call 40; (with_reducible refine (HNR.out w2).mono ?_); rintro e w3 ⟨gr, rfl, b3, h3, r3⟩; have K3 : Hid (WkE w w3 g0 gr (newV 1 0 (wd : Int) (wt : Int)) ⟨0, 0⟩ none 0) := Lib.hid ⟨SnE.lower (S2.out.below b3) B1.out.size, r3, Nat.le_trans B2.out.size h3, then_below B2.out b3⟩; clear b3 h3 r3)
    | (go_at_call 25; (with_reducible refine HNS.out.mono ?_); rintro e w2 ⟨g0, rfl, b2, s2⟩; have B2 := Lib.hid (then_below B1.out b2); have S2 := Lib.hid s2; clear b2 s2))
  clear HNS HNR S2 B1 B2 hd1 hd2 ht1 ht2 hd3 ht3
  generalize newV 1 0 (wd : Int) (wt : Int) = V0 at M0 K3
  have O0 : Hid (On w wd wt gr w3 0 1 0 g0 V0 ⟨0, 0⟩ none 0 [] none 0 [] none 0) := Lib.hid ⟨M0.out, K3.out, ownG_nil _ _, ownG_nil _ _, fun b e => (nomatch e), fun x hx => (nomatch hx), fun x hx => (nomatch hx), Nat.le_refl _, Nat.le_refl _, Nat.le_refl _, by simp, by simp⟩
  clear M0 K3
  go_upto_block 0 with fail
  go_cut [7, 8, 11, 12] from 13 to 286 (fun s7 _ s11 s12 wx => ∃ (E p g : Nat) (S : Sn) (R : Rv) (A : Option Addr) (c : Nat), s7 = .pointer (some ⟨g, 0, none⟩) ∧ s11 = .int .i64 (E : Int) ∧ s12 = .int .i64 (p : Int) ∧ Hid (Rnd (E : Int) (p : Int) (wd : Int) (wt : Int) S R) ∧ Hid (WkE w wx g gr S R A c) ∧ E ≤ 201 ∧ p ≤ 200)
  case first => as_aux_lemma =>
    go_wp2_with fail
    go_loopw [7, 11, 12, 13, 14, 15] (fun s7 s11 s12 s13 s14 i wr => ∃ (j E p g : Nat) (S : Sn) (R : Rv) (A : Option Addr) (c : Nat) (Y : List Fr) (A1 : Option Addr) (c1 : Nat) (V : List Fr) (A2 : Option Addr) (c2 : Nat), j ≤ l.length ∧ j ≤ 200 ∧ i = .int .i64 (j : Int) ∧ s7 = .pointer (some ⟨g, 0, none⟩) ∧ s11 = .int .i64 (E : Int) ∧ s12 = .int .i64 (p : Int) ∧ s13 = .slice A1 Y.length c1 ∧ s14 = .slice A2 V.length c2 ∧ Hid (On w wd wt gr wr j E p g S R A c Y A1 c1 V A2 c2)) (fun _ _ _ _ _ i _ => l.length - (intOf i).toNat)
    case atStart => exact ⟨0, 1, 0, g0, V0, ⟨0, 0⟩, none, 0, [], none, 0, [], none, 0, Nat.zero_le _, Nat.zero_le _, rfl, rfl, rfl, rfl, rfl, rfl, O0⟩
    case round => as_aux_lemma =>
      obtain ⟨j, E, p, g, S, R, A, c, Y, A1, c1, V, A2, c2, hjl, hj2, rfl, rfl, rfl, rfl, rfl, rfl, HO⟩ := hrel
      clear O0
      by_cases h1 : j < l.length
      · by_cases h2 : j < 200
        · have h1i : (j : Int) < (l.length : Int) := by omega
          have h2i : (j : Int) < 200 := by omega
          obtain ⟨o, ho⟩ : ∃ o, l[j]? = some o := ⟨_, List.getElem?_eq_getElem h1⟩
          have HI : Hid (IntIn o.i) := Lib.hid ((HL.out.2 o (List.mem_of_getElem? ho)).2)
          obtain ⟨bl, ol, hA, hbl, hcl⟩ := (HL.out.1.below HO.out.k.below).cells ho
          subst hA
          have x0 : wr.cell? ⟨bl, ol + j * 2, none⟩ = some (.int .i64 o.k) := hcl 0 (by omega)
          have x1 : wr.cell? ⟨bl, ol + j * 2 + 1, none⟩ = some (.int .i64 o.i) := hcl 1 (by omega)
          clear hcl hbl ho
          go_upto_region 15 with fail
          change Code.wp _ _ _ _ (wr.alloc (.cells #[.int .i64 o.k, .int .i64 o.i] 83))
          have b4 := fresh1 wr (.cells #[.int .i64 o.k, .int .i64 o.i] 83)
          have O4 := Lib.hid (HO.out.more b4)
          have R4 := Lib.hid (Whole.fresh wr 83 #[.int .i64 o.k, .int .i64 o.i])
          clear b4 x0 x1 HO
          generalize wr.alloc (.cells #[.int .i64 o.k, .int .i64 o.i] 83) = w4 at O4 R4 ⊢
          generalize wr.heap.size = go at R4 ⊢
          have x0 : w4.cell? ⟨go, 0, none⟩ = some (.int .i64 o.k) := R4.out.read 0
          have x1 : w4.cell? ⟨go, 1, none⟩ = some (.int .i64 o.i) := R4.out.read 1
          generalize o.k = ok at x0 R4
          generalize o.i = oi at x1 R4 HI
          by_cases q0 : ok = 0
          · as_aux_lemma =>
              subst q0
              obtain ⟨i0, hi0, hz0, hz1, hz2⟩ := infoF
              have HOu := Lib.hid (wk_out O4.out.k O4.out.m.s.good (V := outV S) (M := outL S) rfl rfl)
              have hml : (outL S).length ≤ 16 := by
                have := outL_len O4.out.m.s.good
                have := O4.out.m.s.good.w1
                have := O4.out.m.s.good.s0
                omega
              have HN := Lib.hid (fun (k : Nat) (x : It) (h : (outL S)[k]? = some x) => O4.out.m.s.outs h)
              have MO := Lib.hid O4.out.m.out
              have hyl0 := O4.out.yl
              have hpj := O4.out.p1
              generalize outL S = M at HOu HN hml
              generalize outV S = SO at HOu MO
              go_upto_region 18 with (go_at_call 35; (with_reducible refine HOu.out.mono ?_); rintro e w6 ⟨A3, c3, rfl, o6, k6, -, t6⟩; have O6 := Lib.hid ((O4.out.step k6 t6 MO.out (Int.le_refl _)).next); have U6 := Lib.hid o6; clear o6 k6 t6)
              clear HOu MO O4 R4 x0 x1
              generalize w4.heap.size = zz at U6
              go_wp2_with fail
              go_loopw [13, 18] (fun s13 s18 wq => ∃ (k : Nat) (Y7 : List Fr) (A7 : Option Addr) (c7 : Nat), k ≤ M.length ∧ s18 = .int .i64 (k : Int) ∧ s13 = .slice A7 Y7.length c7 ∧ Y7.length ≤ 64 * j + k ∧ Hid (On w wd wt gr wq (j + 1) E p g SO R A c Y7 A7 c7 V A2 c2) ∧ Hid (OwnG 85 2 cI wq zz (.slice A3 M.length c3) M)) (fun _ s18 _ => M.length - (intOf s18).toNat)
              case atStart => exact ⟨0, Y, A1, c1, Nat.zero_le _, rfl, rfl, hyl0, O6, U6⟩
              case round =>
                obtain ⟨k, Y7, A7, c7, hk, rfl, rfl, hy7, HOn, HU⟩ := hrel
                clear O6 U6
                have hmi : (M.length : Int) ≤ 16 := by omega
                by_cases h3 : k < M.length
                · have h3i : (k : Int) < (M.length : Int) := by omega
                  obtain ⟨bo, rfl⟩ := own_some HU.out (by omega)
                  obtain ⟨x, hx⟩ : ∃ x, M[k]? = some x := ⟨_, List.getElem?_eq_getElem h3⟩
                  obtain ⟨x1, x2, x3, x4⟩ := HN.out k x hx
                  have HXN : Hid (0 ≤ x.n ∧ x.n ≤ 255 ∧ x.s = byteOf x.n ∧ (1 ≤ x.n ∧ x.n ≤ p)) := Lib.hid ⟨by omega, by omega, x1, x3, x4⟩
                  have HZ : Hid (∀ w2, Below wr.heap.size wr w2 → w2.cell? ⟨bo, k * 2, none⟩ = some (.int .i64 x.n) ∧ w2.cell? ⟨bo, k * 2 + 1, none⟩ = some (sV x.s)) := Lib.hid fun w2 hb => ⟨((own_flat (HU.out.below hb)).2.2.2.2 (k * 2 + 0) _ ((flatG_at cellsI M k x 0 hx (by omega)).trans rfl)).1, ((own_flat (HU.out.below hb)).2.2.2.2 (k * 2 + 1) _ ((flatG_at cellsI M k x 1 hx (by omega)).trans rfl)).1⟩
                  clear hx x1 x2 x3 x4
                  go_upto_region 21 with fail
                  refine wp_frame ?_
                  intro a9 ha9
                  have hN9 : a9.tmps.size = 344 := by rw [ha9]; rfl
                  have e17 : a9.eval (.tmp 17) = .slice (some ⟨bo, 0, none⟩) M.length c3 := by rw [ha9]; rfl
                  have e18 : a9.eval (.tmp 18) = .int .i64 (k : Int) := by rw [ha9]; rfl
                  have HA9 := Lib.hid ha9
                  clear ha9
                  refine region_many 344 (fun k => false) (fun w2 => Below wr.heap.size wr w2) ?hR ?r0 [Is (.slice (some ⟨bo, 0, none⟩) M.length c3), Is (.int .i64 (k : Int)), Is (.pointer (some ⟨bo, 0 + k * 2, none⟩)), Is (.pointer (some ⟨bo, 0 + k * 2 + 1, none⟩)), Is (sV x.s), Is (.slice (some ⟨bo, 0, none⟩) M.length c3), Is (.int .i64 (k : Int)), Is (.pointer (some ⟨bo, 0 + k * 2, none⟩)), Is (.pointer (some ⟨bo, 0 + k * 2, none⟩)), Is (.int .i64 x.n), Is (.int .u8 x.n), LoneU x.n, Is (sV x.s), Is (.bool false)] (fun k w2 => True) (by kernel_rfl) hN9 (by kernel_rfl) ?keep ?hO ?h0 ?tell
                  case hR => exact fun w2 w4 hb h => then_below h hb
                  case r0 => exact Below.refl _ _
                  case keep => exact ⟨keeps_is _, keeps_is _, keeps_is _, keeps_is _, keeps_is _, keeps_is _, keeps_is _, keeps_is _, keeps_is _, keeps_is _, keeps_is _, keeps_loneU _, keeps_is _, keeps_is _, trivial⟩
                  case hO => exact fun _ _ _ _ h => h
                  case h0 => exact fun _ _ => trivial
                  case tell =>
                    intro fin hfin
                    apply And.intro
                    case' left => (simp only [TellMany]; refine ⟨?_, ?_, ?_, ?_, ?_, ?_, ?_, ?_, ?_, ?_, ?_, ?_, ?_, ?_, trivial⟩)
                    · intro v w2 hr hd
                      exact yields_move rfl (by simp only [List.map_toArray, List.map_cons, List.map_nil, ev_ne, ev_eq, ev_const, put_size, hN9, ne_eq, Nat.reduceEqDiff, not_false_eq_true, Nat.reduceLT, e17, e18]; rfl)
                    · intro v w2 hr hd
                      exact yields_move rfl (by simp only [List.map_toArray, List.map_cons, List.map_nil, ev_ne, ev_eq, ev_const, put_size, hN9, ne_eq, Nat.reduceEqDiff, not_false_eq_true, Nat.reduceLT, e17, e18]; rfl)
                    · intro v w2 hr hd
                      have h0 : v 0 = _ := hd 0 (by kernel_rfl)
                      have h1 : v 1 = _ := hd 1 (by kernel_rfl)
                      exact yields_index (b := bo) (off := 0) (n := M.length) (c := c3) (i := k) (m := 2) rfl (by simp only [List.map_toArray, List.map_cons, List.map_nil, ev_ne, ev_eq, ev_const, put_size, hN9, ne_eq, Nat.reduceEqDiff, not_false_eq_true, Nat.reduceLT, e17, e18, h0, h1]) (by simp only [List.map_toArray, List.map_cons, List.map_nil, ev_ne, ev_eq, ev_const, put_size, hN9, ne_eq, Nat.reduceEqDiff, not_false_eq_true, Nat.reduceLT, e17, e18, h0, h1]) h3 Try.underlying69 (by intro w; simp [Try.sizeOf85])
                    · intro v w2 hr hd
                      have h2 : v 2 = _ := hd 2 (by kernel_rfl)
                      refine yields_run (u := .pointer (some ⟨bo, 0 + k * 2 + 1, none⟩)) (w' := w2) ?_ (Below.refl _ _) rfl
                      unfold execOp
                      (try simp only [List.map_toArray, List.map_cons, List.map_nil, ev_ne, ev_eq, ev_const, put_size, hN9, ne_eq, Nat.reduceEqDiff, not_false_eq_true, Nat.reduceLT, e17, e18, h2])
                      (try simp [go_sem, h2])
                    · intro v w2 hr hd
                      have h3 : v 3 = _ := hd 3 (by kernel_rfl)
                      have a6 : w2.cell? ⟨bo, k * 2 + 1, none⟩ = some (sV x.s) := (HZ.out w2 hr).2
                      refine yields_run (u := sV x.s) (w' := w2) ?_ (Below.refl _ _) rfl
                      unfold execOp
                      (try simp only [List.map_toArray, List.map_cons, List.map_nil, ev_ne, ev_eq, ev_const, put_size, hN9, ne_eq, Nat.reduceEqDiff, not_false_eq_true, Nat.reduceLT, e17, e18, h3, a6])
                      (try simp [go_sem, h3, a6])
                    · intro v w2 hr hd
                      refine yields_run (u := .slice (some ⟨bo, 0, none⟩) M.length c3) (w' := w2) ?_ (Below.refl _ _) rfl
                      unfold execOp
                      (try simp only [List.map_toArray, List.map_cons, List.map_nil, ev_ne, ev_eq, ev_const, put_size, hN9, ne_eq, Nat.reduceEqDiff, not_false_eq_true, Nat.reduceLT, e17, e18])
                      (try simp [go_sem])
                    · intro v w2 hr hd
                      refine yields_run (u := .int .i64 (k : Int)) (w' := w2) ?_ (Below.refl _ _) rfl
                      unfold execOp
                      (try simp only [List.map_toArray, List.map_cons, List.map_nil, ev_ne, ev_eq, ev_const, put_size, hN9, ne_eq, Nat.reduceEqDiff, not_false_eq_true, Nat.reduceLT, e17, e18])
                      (try simp [go_sem])
                    · intro v w2 hr hd
                      have h5 : v 5 = _ := hd 5 (by kernel_rfl)
                      have h6 : v 6 = _ := hd 6 (by kernel_rfl)
                      exact yields_index (b := bo) (off := 0) (n := M.length) (c := c3) (i := k) (m := 2) rfl (by simp only [List.map_toArray, List.map_cons, List.map_nil, ev_ne, ev_eq, ev_const, put_size, hN9, ne_eq, Nat.reduceEqDiff, not_false_eq_true, Nat.reduceLT, e17, e18, h5, h6]) (by simp only [List.map_toArray, List.map_cons, List.map_nil, ev_ne, ev_eq, ev_const, put_size, hN9, ne_eq, Nat.reduceEqDiff, not_false_eq_true, Nat.reduceLT, e17, e18, h5, h6]) h3 Try.underlying69 (by intro w; simp [Try.sizeOf85])
                    · intro v w2 hr hd
                      have h7 : v 7 = _ := hd 7 (by kernel_rfl)
                      refine yields_run (u := .pointer (some ⟨bo, 0 + k * 2, none⟩)) (w' := w2) ?_ (Below.refl _ _) rfl
                      unfold execOp
                      (try simp only [List.map_toArray, List.map_cons, List.map_nil, ev_ne, ev_eq, ev_const, put_size, hN9, ne_eq, Nat.reduceEqDiff, not_false_eq_true, Nat.reduceLT, e17, e18, h7])
                      (try simp [go_sem, h7])
                    · intro v w2 hr hd
                      have h8 : v 8 = _ := hd 8 (by kernel_rfl)
                      have a6 : w2.cell? ⟨bo, k * 2, none⟩ = some (.int .i64 x.n) := (HZ.out w2 hr).1
                      refine yields_run (u := .int .i64 x.n) (w' := w2) ?_ (Below.refl _ _) rfl
                      unfold execOp
                      (try simp only [List.map_toArray, List.map_cons, List.map_nil, ev_ne, ev_eq, ev_const, put_size, hN9, ne_eq, Nat.reduceEqDiff, not_false_eq_true, Nat.reduceLT, e17, e18, h8, a6])
                      (try simp [go_sem, h8, a6])
                    · intro v w2 hr hd
                      have h9 : v 9 = _ := hd 9 (by kernel_rfl)
                      have u8 : IntKind.u8.wrap x.n = x.n := by have := HXN.out; rw [IntKind.wrap_u8]; omega
                      refine yields_run (u := .int .u8 x.n) (w' := w2) ?_ (Below.refl _ _) rfl
                      unfold execOp
                      (try simp only [List.map_toArray, List.map_cons, List.map_nil, ev_ne, ev_eq, ev_const, put_size, hN9, ne_eq, Nat.reduceEqDiff, not_false_eq_true, Nat.reduceLT, e17, e18, h9, u8])
                      (try simp [go_sem, h9, u8])
                    · intro v w2 hr hd
                      have h10 : v 10 = _ := hd 10 (by kernel_rfl)
                      refine yields_run (u := .slice (some ⟨w2.heap.size, 0, none⟩) 1 1) (w' := w2.alloc (.cells #[.int .u8 x.n] 5)) ?_ (fresh1 w2 _) ⟨w2.heap.size, rfl, Whole.fresh w2 _ _⟩
                      unfold execOp
                      (try simp only [List.map_toArray, List.map_cons, List.map_nil, ev_ne, ev_eq, ev_const, put_size, hN9, ne_eq, Nat.reduceEqDiff, not_false_eq_true, Nat.reduceLT, e17, e18, h10])
                      (try simp [go_sem, h10])
                    · intro v w2 hr hd
                      obtain ⟨gq, h11, hw11⟩ : LoneU x.n (v 11) w2 := hd 11 (by kernel_rfl)
                      exact yields_convert rfl (by simp only [List.map_toArray, List.map_cons, List.map_nil, ev_ne, ev_eq, ev_const, put_size, hN9, ne_eq, Nat.reduceEqDiff, not_false_eq_true, Nat.reduceLT, e17, e18, h11]) (byte_own w2 gq x.n HXN.out.1 HXN.out.2.1 hw11) (by rw [HXN.out.2.2.1]; rfl)
                    · intro v w2 hr hd
                      have h4 : v 4 = _ := hd 4 (by kernel_rfl)
                      have h12 : v 12 = _ := hd 12 (by kernel_rfl)
                      refine yields_run (u := .bool false) (w' := w2) ?_ (Below.refl _ _) rfl
                      unfold execOp
                      (try simp only [List.map_toArray, List.map_cons, List.map_nil, ev_ne, ev_eq, ev_const, put_size, hN9, ne_eq, Nat.reduceEqDiff, not_false_eq_true, Nat.reduceLT, e17, e18, h4, h12])
                      (try simp [go_sem, h4, h12])
                    · intro v w5 hr hv
                      have b5 := Lib.hid hr
                      have e0 : v 0 = _ := hv 0 (by decide)
                      have e1 : v 1 = _ := hv 1 (by decide)
                      have e2 : v 2 = _ := hv 2 (by decide)
                      have e3 : v 3 = _ := hv 3 (by decide)
                      have e4 : v 4 = _ := hv 4 (by decide)
                      have e5 : v 5 = _ := hv 5 (by decide)
                      have e6 : v 6 = _ := hv 6 (by decide)
                      have e7 : v 7 = _ := hv 7 (by decide)
                      have e8 : v 8 = _ := hv 8 (by decide)
                      have e9 : v 9 = _ := hv 9 (by decide)
                      have e10 : v 10 = _ := hv 10 (by decide)
                      have e12 : v 12 = _ := hv 12 (by decide)
                      have e13 : v 13 = _ := hv 13 (by decide)
                      have hf := hfin v
                      rw [HA9.out] at hf
                      simp [lexPut, Act.put, e0, e1, e2, e3, e4, e5, e6, e7, e8, e9, e10, e12, e13] at hf
                      rw [hf]
                      clear hf HA9 hN9 e17 e18 hv hfin hr e0 e1 e2 e3 e4 e5 e6 e7 e8 e9 e10 e12 e13
                      generalize v 11 = v11
                      have y7 : w5.cell? ⟨bo, k * 2, none⟩ = some (.int .i64 x.n) := (HZ.out w5 b5.out).1
                      obtain ⟨y, hy⟩ : ∃ y : Fr, y = ⟨(E : Int), x.n⟩ := ⟨_, rfl⟩
                      have OW := Lib.hid (HOn.out.more (then_below b5.out (fresh1 w5 (.cells (cF y).toArray 88))))
                      have UW := Lib.hid (HU.out.below (then_below b5.out (fresh1 w5 (.cells (cF y).toArray 88))))
                      have HX : Hid (∀ (w9 : World) (g9 cap9 : Nat), OwnG 88 5 cF w9 w.heap.size (.slice (some ⟨g9, 0, none⟩) (Y7.length + 1) cap9) (Y7 ++ [y]) → (w5.alloc (.cells (cF y).toArray 88)).grownBy w9 (Value.slice A7 Y7.length c7).ownBlock →
                          ((Value.slice (some ⟨g9, 0, none⟩) (Y7.length + 1) cap9).ownBlock = (Value.slice A7 Y7.length c7).ownBlock ∨ (Value.slice (some ⟨g9, 0, none⟩) (Y7.length + 1) cap9).ownBlock = some (w5.alloc (.cells (cF y).toArray 88)).heap.size) → On w wd wt gr w9 (j + 1) E p g SO R A c (Y7 ++ [y]) (some ⟨g9, 0, none⟩) cap9 V A2 c2 ∧ OwnG 85 2 cI w9 zz (.slice (some ⟨bo, 0, none⟩) M.length c3) M) :=
                        Lib.hid fun w9 g9 cap9 ho hg hb => ⟨OW.out.way (by rw [hy]; have := OW.out.e0; exact ⟨⟨by show (1 : Int) ≤ (E : Int); omega, Int.le_refl _⟩, HXN.out.2.2.2⟩) (by omega) ho hg (hb.elim (fun e => .inl e) (fun e => .inr (Nat.le_of_eq (Option.some.inj e).symm))), item_past UW.out OW.out.y hg⟩
                      have OV := Lib.hid OW.out.y
                      have HB : Hid (w.heap.size ≤ (w5.alloc (.cells (cF y).toArray 88)).heap.size) := Lib.hid (Nat.le_trans OW.out.k.below.size (Nat.le_refl _))
                      subst hy
                      clear OW UW HOn HU HZ HXN b5
                      go_wp2_with (first | (refine wpBuiltF rfl 88 #[(2, .tmp 120), (3, .tmp 125)] rfl (cF ⟨(E : Int), x.n⟩).toArray (by simpa [Act.eval] using built_fr _ _) ?_) | (refine wpSliceF rfl (.tmp 126) rfl ⟨(E : Int), x.n⟩ (by first | exact ev_eq (by show 126 < 344; decide) | simp [Act.eval]) ?_) | (at_builtin; refine wpList_append_own_at _ rfl _ _ 81 rfl w.heap.size 88 i0 (.agg #[.int .i64 0, .int .i64 0, .int .i64 0, .int .i64 0, sV []]) 5 48 Try.underlying81 hi0 hz0 hz1 hz2 rfl (by decide) (.slice A7 Y7.length c7) Y7.length (Y7.flatMap cF) (by first | (rw [ev_ne (by decide), ev_ne (by decide)]; rfl) | simp [Act.eval]) OV.out ⟨w5.heap.size, 0, none⟩ 1 1 (cF ⟨(E : Int), x.n⟩) (by first | exact ev_eq (by rw [put_size]; show 127 < 344; decide) | simp [Act.eval]) rfl (whole_cells (Whole.fresh w5 88 _)) (cellsF.one _) (by unfold maxLen; omega) (by omega) HB.out ?_; intro v' w9 hown hgrow _ hblk; obtain ⟨g9, cap9, rfl⟩ := OwnG.succ hown; have O9 := Lib.hid (HX.out w9 g9 cap9 (by unfold OwnG; simpa using hown) hgrow hblk); clear hown hgrow hblk))
                      go_roundw
                      case rel => exact ⟨k + 1, Y7 ++ [⟨(E : Int), x.n⟩], some ⟨g9, 0, none⟩, cap9, by omega, by go_num, by rw [List.length_append]; rfl, by rw [List.length_append]; simp; omega, Lib.hid O9.out.1, Lib.hid O9.out.2⟩
                      case measure => simp [intOf]; omega
                · obtain rfl : k = M.length := by omega
                  have h3i : ¬ (M.length : Int) < (M.length : Int) := by omega
                  clear HU HN
                  go_wp2_with fail
                  go_roundw
                  case rel => exact ⟨j + 1, E, p, g, SO, R, A, c, Y7, A7, c7, V, A2, c2, by omega, by omega, by go_num, rfl, rfl, rfl, rfl, rfl, HOn⟩
                  case measure => simp [intOf]; omega
          · have n0 : (ok == 0) = false := by simpa using q0
            by_cases q1 : ok = 1
            · as_aux_lemma =>
                subst q1
                by_cases v0 : Y.length = 0
                · have v0i : ((Y.length : Int) == 0) = true := beq_iff_eq.2 (by omega)
                  have v0j : (Y.length : Int) = 0 := by omega
                  go_wp2_with fail
                  go_roundw
                  case rel => exact ⟨j + 1, E, p, g, S, R, A, c, Y, A1, c1, V, A2, c2, by omega, by omega, by go_num, rfl, rfl, rfl, rfl, rfl, Lib.hid O4.out.next⟩
                  case measure => simp [intOf]; omega
                · have hyl := O4.out.yl
                  obtain ⟨bw, rfl⟩ := own_some O4.out.y (by omega)
                  have hroom := OwnG.room O4.out.y
                  obtain ⟨kq, hk1, hk2⟩ := mod_is oi Y.length (by omega) (by omega)
                  obtain ⟨x, hx⟩ : ∃ x, Y[kq]? = some x := ⟨_, List.getElem?_eq_getElem hk1⟩
                  obtain ⟨z0, z1, z2, z3, z4, zf⟩ := frame_at O4.out.y hx
                  have HXO := Lib.hid (O4.out.yo x (List.mem_of_getElem? hx))
                  have u1 : IntKind.u64.wrap (Y.length : Int) = (Y.length : Int) := by rw [IntKind.wrap_u64]; omega
                  have v2 : ¬ (Y.length : Int) = 0 := by omega
                  have v3 : ((Y.length : Int) == 0) = false := beq_eq_false_iff_ne.2 v2
                  have v4 : (Y.length : Int) ≤ 12800 := by omega
                  have v1 : (0 : Int) < (Y.length : Int) := by omega
                  have hki : (kq : Int) < (Y.length : Int) := by omega
                  have HK2 := Lib.hid hk2
                  have HKC : Hid (kq + 1 ≤ Y.length ∧ kq ≤ c1 ∧ (Y.take kq).length = kq ∧ Y.length ≤ 12800 ∧ Y.length ≤ c1) := Lib.hid ⟨by omega, by omega, by rw [List.length_take]; omega, by omega, hroom⟩
                  clear hx v0 hk1 hyl hroom
                  go_upto_region 30 with fail
                  change Code.wp _ _ _ _ (w4.alloc (.cells (cF x).toArray 88))
                  have b5 := fresh1 w4 (.cells (cF x).toArray 88)
                  have O5 := Lib.hid (O4.out.more b5)
                  have X5 := Lib.hid (Whole.fresh w4 88 (cF x).toArray)
                  have R5 := Lib.hid (R4.out.below b5 R4.out.inside)
                  clear b5 z0 z1 z2 z3 z4 zf u1 v1 v2 v3 hki hk2 x0 x1 O4 R4
                  generalize w4.alloc (.cells (cF x).toArray 88) = w5 at O5 X5 R5 ⊢
                  generalize w4.heap.size = gx at X5 ⊢
                  have x0 : w5.cell? ⟨go, 0, none⟩ = some (.int .i64 1) := R5.out.read 0
                  obtain ⟨i0, hi0, hz0, hz1, hz2⟩ := infoF
                  go_upto_region 31 with fail
                  refine wp_frame ?_
                  intro a9 ha9
                  have hN9 : a9.tmps.size = 344 := by rw [ha9]; rfl
                  have e13 : a9.eval (.tmp 13) = .slice (some ⟨bw, 0, none⟩) Y.length c1 := by rw [ha9]; rfl
                  have e19 : a9.eval (.tmp 19) = .int .i64 (kq : Int) := by rw [ha9]; exact congrArg (Value.int .i64) HK2.out
                  have HA9 := Lib.hid ha9
                  clear ha9
                  refine region_fullZ 344 [(4, 9), (4, 10), (9, 10), (4, 0), (9, 4), (9, 0)] [] [(4, 0), (9, 4), (9, 0)] (fun k => k == 4 || k == 9) (fun w7 => Below w5.heap.size w5 w7) ?hR ?r0 [pdOne 0 (OwnPF w5.heap.size []), pdOne 1 (Is (.slice (some ⟨bw, 0, none⟩) Y.length c1)), pdOne 2 (Is (.int .i64 (kq : Int))), pdOne 3 (Is (.slice (some ⟨bw, 0, none⟩) kq c1)), pdOne 4 (OwnPF w5.heap.size (Y.take kq)), pdOne 5 (Is (.slice (some ⟨bw, 0, none⟩) Y.length c1)), pdOne 6 (Is (.int .i64 (kq : Int))), pdOne 7 (Is (.int .i64 ((kq + 1 : Nat) : Int))), pdOne 8 (Is (.slice (if c1 = kq + 1 then some ⟨bw, 0, none⟩ else some ⟨bw, (kq + 1) * 5, none⟩) (Y.length - (kq + 1)) (c1 - (kq + 1)))), pdOne 9 (OwnPF w5.heap.size (Y.take kq ++ Y.drop (kq + 1))), pdOne 10 (OwnPF w5.heap.size (Y.take kq ++ Y.drop (kq + 1)))] (fun _ _ => True) (by kernel_rfl) hN9 (by kernel_rfl) (by kernel_rfl) (by kernel_rfl) (by kernel_rfl) (by kernel_rfl) ?keep ?hO ?h0 ?tell
                  case hR => exact fun w7 w8 hb h => then_below h hb
                  case r0 => exact Below.refl _ _
                  case keep => exact ⟨keep_one (keeps_ownPF _ _), keep_one (keeps_is _), keep_one (keeps_is _), keep_one (keeps_is _), keep_one (keeps_ownPF _ _), keep_one (keeps_is _), keep_one (keeps_is _), keep_one (keeps_is _), keep_one (keeps_is _), keep_one (keeps_ownPF _ _), keep_one (keeps_ownPF _ _), trivial⟩
                  case hO => exact fun _ _ _ _ h => h
                  case h0 => exact fun _ _ => trivial
                  case tell =>
                    intro fin hfin
                    apply And.intro
                    case' left => (simp only [TellZ]; refine ⟨?_, ?_, ?_, ?_, ?_, ?_, ?_, ?_, ?_, ?_, ?_, trivial⟩)
                    · intro v2 w7 hr hd
                      refine ⟨(fun j b h => nomatch h), ?_⟩
                      refine yields_run (u := .slice (some ⟨w7.heap.size, 0, none⟩) 0 0) (w' := w7.alloc (.cells #[] 88)) ?_ (fresh1 w7 _) ⟨_, _, rfl, own0F w7 _ hr.size⟩
                      unfold execOp
                      (try simp only [List.map_toArray, List.map_cons, List.map_nil, ev_ne, ev_eq, ev_const, put_size, hN9, ne_eq, Nat.reduceEqDiff, not_false_eq_true, Nat.reduceLT, e13, e19])
                      (try simp [go_sem])
                    · intro v2 w7 hr hd
                      refine ⟨(fun j b h => nomatch h), ?_⟩
                      refine yields_run (u := .slice (some ⟨bw, 0, none⟩) Y.length c1) (w' := w7) ?_ (Below.refl _ _) rfl
                      unfold execOp
                      (try simp only [List.map_toArray, List.map_cons, List.map_nil, ev_ne, ev_eq, ev_const, put_size, hN9, ne_eq, Nat.reduceEqDiff, not_false_eq_true, Nat.reduceLT, e13, e19])
                      (try simp [go_sem])
                    · intro v2 w7 hr hd
                      refine ⟨(fun j b h => nomatch h), ?_⟩
                      refine yields_run (u := .int .i64 (kq : Int)) (w' := w7) ?_ (Below.refl _ _) rfl
                      unfold execOp
                      (try simp only [List.map_toArray, List.map_cons, List.map_nil, ev_ne, ev_eq, ev_const, put_size, hN9, ne_eq, Nat.reduceEqDiff, not_false_eq_true, Nat.reduceLT, e13, e19])
                      (try simp [go_sem])
                    · intro v2 w7 hr hd
                      have h1 : v2 1 = _ := hd 1 (by kernel_rfl)
                      have h2 : v2 2 = _ := hd 2 (by kernel_rfl)
                      refine ⟨(fun j b h => nomatch h), ?_⟩
                      exact yields_slice (v := .slice (some ⟨bw, 0, none⟩) Y.length c1) rfl (by simp only [List.map_toArray, List.map_cons, List.map_nil, ev_ne, ev_eq, ev_const, put_size, hN9, ne_eq, Nat.reduceEqDiff, not_false_eq_true, Nat.reduceLT, e13, e19, h1]) (by simp only [List.map_toArray, List.map_cons, List.map_nil, ev_ne, ev_eq, ev_const, put_size, hN9, ne_eq, Nat.reduceEqDiff, not_false_eq_true, Nat.reduceLT, e13, e19, h2, Option.map_some, Option.map_none]; exact slice_to bw Y.length c1 kq HKC.out.2.1 w7) rfl
                    · intro v2 w7 hr ho hd
                      obtain ⟨B0, d0, h0, hown⟩ : OwnPF w5.heap.size [] (v2 0) w7 := hd 0 (by kernel_rfl)
                      have h3 : v2 3 = _ := hd 3 (by kernel_rfl)
                      refine ⟨(fun j b h => nomatch h), ?_⟩
                      have hM := (lg_sub cellsF (O5.out.y.below hr) 0 (Y.take kq) (fun i y hy => by rw [List.getElem?_take] at hy; split at hy; (· rw [Nat.zero_add]; exact hy); (· cases hy)))
                      refine .inl (yields_append_row (T := 88) cellsF (by decide) (.tmp 151) (.tmp 154) 81 rfl w5.heap.size i0 (.agg #[.int .i64 0, .int .i64 0, .int .i64 0, .int .i64 0, sV []]) 48 Try.underlying81 hi0 hz0 hz1 hz2 rfl (A := some ⟨bw, 0, none⟩) (c := c1) (N := []) (M := Y.take kq) (by simp only [List.map_toArray, List.map_cons, List.map_nil, ev_ne, ev_eq, ev_const, put_size, hN9, ne_eq, Nat.reduceEqDiff, not_false_eq_true, Nat.reduceLT, e13, e19, h0]) (by simp only [List.map_toArray, List.map_cons, List.map_nil, ev_ne, ev_eq, ev_const, put_size, hN9, ne_eq, Nat.reduceEqDiff, not_false_eq_true, Nat.reduceLT, e13, e19, h3, HKC.out.2.2.1]) hown (by simpa using hM) (by have := HKC.out.2.2.2; unfold maxLen; simp; omega) (by have := HKC.out.2.2.2; simp; omega) hr.size ?_)
                      intro B8 cap8 w8 hown8 hgrow hat
                      refine ⟨hr.grown hgrow hr.size (fun j hj => OwnG.above hown hj), ?_, ?_, B8, cap8, rfl, by rw [List.nil_append] at hown8; exact hown8⟩
                      · intro k2 v' hk2 hc hu
                        exact match k2, hk2, hc, hu with
                        | 0, _, hc, _ => absurd hc (by decide)
                        | 1, _, _, hu => hu
                        | 2, _, _, hu => hu
                        | 3, _, _, hu => hu
                        | 4, hk2, _, _ => absurd rfl hk2
                        | 5, _, _, hu => hu
                        | 6, _, _, hu => hu
                        | 7, _, _, hu => hu
                        | 8, _, _, hu => hu
                        | 9, _, hc, _ => absurd hc (by decide)
                        | 10, _, hc, _ => absurd hc (by decide)
                        | _ + 11, _, _, _ => trivial
                      · exact fun _ _ _ _ _ => trivial
                    · intro v2 w7 hr hd
                      refine ⟨(fun j b h => nomatch h), ?_⟩
                      refine yields_run (u := .slice (some ⟨bw, 0, none⟩) Y.length c1) (w' := w7) ?_ (Below.refl _ _) rfl
                      unfold execOp
                      (try simp only [List.map_toArray, List.map_cons, List.map_nil, ev_ne, ev_eq, ev_const, put_size, hN9, ne_eq, Nat.reduceEqDiff, not_false_eq_true, Nat.reduceLT, e13, e19])
                      (try simp [go_sem])
                    · intro v2 w7 hr hd
                      refine ⟨(fun j b h => nomatch h), ?_⟩
                      refine yields_run (u := .int .i64 (kq : Int)) (w' := w7) ?_ (Below.refl _ _) rfl
                      unfold execOp
                      (try simp only [List.map_toArray, List.map_cons, List.map_nil, ev_ne, ev_eq, ev_const, put_size, hN9, ne_eq, Nat.reduceEqDiff, not_false_eq_true, Nat.reduceLT, e13, e19])
                      (try simp [go_sem])
                    · intro v2 w7 hr hd
                      have h6 : v2 6 = _ := hd 6 (by kernel_rfl)
                      have hw : IntKind.i64.wrap ((kq : Int) + 1) = (kq : Int) + 1 := by have := HKC.out; rw [IntKind.wrap_i64]; omega
                      refine ⟨(fun j b h => nomatch h), ?_⟩
                      refine yields_run (u := .int .i64 ((kq + 1 : Nat) : Int)) (w' := w7) ?_ (Below.refl _ _) rfl
                      unfold execOp
                      (try simp only [List.map_toArray, List.map_cons, List.map_nil, ev_ne, ev_eq, ev_const, put_size, hN9, ne_eq, Nat.reduceEqDiff, not_false_eq_true, Nat.reduceLT, e13, e19, h6, hw])
                      (try simp [go_sem, h6, hw])
                    · intro v2 w7 hr hd
                      have h5 : v2 5 = _ := hd 5 (by kernel_rfl)
                      have h7 : v2 7 = _ := hd 7 (by kernel_rfl)
                      refine ⟨(fun j b h => nomatch h), ?_⟩
                      exact yields_slice (v := .slice (some ⟨bw, 0, none⟩) Y.length c1) rfl (by simp only [List.map_toArray, List.map_cons, List.map_nil, ev_ne, ev_eq, ev_const, put_size, hN9, ne_eq, Nat.reduceEqDiff, not_false_eq_true, Nat.reduceLT, e13, e19, h5]) (by simp only [List.map_toArray, List.map_cons, List.map_nil, ev_ne, ev_eq, ev_const, put_size, hN9, ne_eq, Nat.reduceEqDiff, not_false_eq_true, Nat.reduceLT, e13, e19, h7, Option.map_some, Option.map_none]; exact slice_from bw Y.length c1 (kq + 1) HKC.out.1 HKC.out.2.2.2.2 w7) rfl
                    · intro v2 w7 hr ho hd
                      obtain ⟨B0, d0, h4, hown⟩ : OwnPF w5.heap.size (Y.take kq) (v2 4) w7 := hd 4 (by kernel_rfl)
                      have h8 : v2 8 = _ := hd 8 (by kernel_rfl)
                      refine ⟨(fun j b h => nomatch h), ?_⟩
                      have hM : graph.Lg 5 cF w7 (if c1 = kq + 1 then some ⟨bw, 0, none⟩ else some ⟨bw, (kq + 1) * 5, none⟩) (Y.drop (kq + 1)) := by
                        split
                        · rename_i hc
                          have := HKC.out
                          rw [List.drop_of_length_le (by omega)]
                          exact .inl rfl
                        · exact lg_sub cellsF (O5.out.y.below hr) (kq + 1) (Y.drop (kq + 1)) (fun i y hy => by rwa [List.getElem?_drop] at hy)
                      refine .inl (yields_append_row (T := 88) cellsF (by decide) (.tmp 155) (.tmp 159) 81 rfl w5.heap.size i0 (.agg #[.int .i64 0, .int .i64 0, .int .i64 0, .int .i64 0, sV []]) 48 Try.underlying81 hi0 hz0 hz1 hz2 rfl (A := if c1 = kq + 1 then some ⟨bw, 0, none⟩ else some ⟨bw, (kq + 1) * 5, none⟩) (c := c1 - (kq + 1)) (N := Y.take kq) (M := Y.drop (kq + 1)) (by simp only [List.map_toArray, List.map_cons, List.map_nil, ev_ne, ev_eq, ev_const, put_size, hN9, ne_eq, Nat.reduceEqDiff, not_false_eq_true, Nat.reduceLT, e13, e19, h4]) (by simp only [List.map_toArray, List.map_cons, List.map_nil, ev_ne, ev_eq, ev_const, put_size, hN9, ne_eq, Nat.reduceEqDiff, not_false_eq_true, Nat.reduceLT, e13, e19, h8, List.length_drop]) hown hM (by have := HKC.out.2.2.2; unfold maxLen; simp; omega) (by have := HKC.out.2.2.2; simp; omega) hr.size ?_)
                      intro B8 cap8 w8 hown8 hgrow hat
                      refine ⟨hr.grown hgrow hr.size (fun j hj => OwnG.above hown hj), ?_, ?_, B8, cap8, rfl, hown8⟩
                      · intro k2 v' hk2 hc hu
                        exact match k2, hk2, hc, hu with
                        | 0, _, hc, _ => absurd hc (by decide)
                        | 1, _, _, hu => hu
                        | 2, _, _, hu => hu
                        | 3, _, _, hu => hu
                        | 4, _, hc, _ => absurd hc (by decide)
                        | 5, _, _, hu => hu
                        | 6, _, _, hu => hu
                        | 7, _, _, hu => hu
                        | 8, _, _, hu => hu
                        | 9, hk2, _, _ => absurd rfl hk2
                        | 10, _, hc, _ => absurd hc (by decide)
                        | _ + 11, _, _, _ => trivial
                      · exact fun _ _ _ _ _ => trivial
                    · intro v2 w7 hr hd
                      have hP : OwnPF w5.heap.size (Y.take kq ++ Y.drop (kq + 1)) (v2 9) w7 := hd 9 (by kernel_rfl)
                      refine ⟨(fun j b h => nomatch h), ?_⟩
                      refine yields_run (u := v2 9) (w' := w7) ?_ (Below.refl _ _) hP
                      unfold execOp
                      (try simp only [List.map_toArray, List.map_cons, List.map_nil, ev_ne, ev_eq, ev_const, put_size, hN9, ne_eq, Nat.reduceEqDiff, not_false_eq_true, Nat.reduceLT, e13, e19])
                      (try simp [go_sem])
                    · intro v2 w6 hr hv
                      obtain ⟨B3, c3, h10, ho⟩ : OwnPF w5.heap.size (Y.take kq ++ Y.drop (kq + 1)) (v2 10) w6 := hv 10 (by decide) (by decide)
                      have O6 := Lib.hid (O5.out.cut hr kq ho)
                      have X6 := Lib.hid (X5.out.below hr X5.out.inside)
                      have hf := hfin v2
                      rw [HA9.out] at hf
                      simp [lexPut, Act.put] at hf
                      rw [hf, h10]
                      clear hf HA9 hN9 e13 e19
                      have hrx := hr
                      clear hfin hv hr ho h10 HKC O5 X5 x0
                      generalize Y.take kq ++ Y.drop (kq + 1) = Y6 at O6 ⊢
                      have x0 : w6.cell? ⟨go, 0, none⟩ = some (.int .i64 1) := (R5.out.below hrx R5.out.inside).read 0
                      clear hrx R5
                      clear hi0 hz0 hz1 hz2
                      go_upto_region 33 with fail
                      clear x0
                      obtain ⟨i0, hi0, hz0, hz1, hz2⟩ := infoF
                      have hr := O6.out.m.r
                      have hr0 : 0 ≤ R.l := by have := hr.lo; have := hr.a0; omega
                      have hp1 := O6.out.p1
                      have hrp : R.l ≤ 200 := by have := hr.hi; omega
                      have Rp := Lib.hid (hr.take (e := x.e) (n := x.n) HXO.out.1.2 HXO.out.2.2)
                      have HL1 := Lib.hid (wk_last O6.out.k)
                      have HTa := Lib.hid (fun (w5 : World) (h : WkE w w5 g gr S R A c) => wk_take (V := takeV R x.e x.n) h hr0 (by omega) x.e x.n rfl rfl)
                      have HL2 := Lib.hid (fun (w5 : World) (h : WkE w w5 g gr S (takeV R x.e x.n) A c) => wk_last h)
                      have htl := take_l R x.e x.n
                      have hrl : (takeV R x.e x.n).l ≤ p := Rp.out.hi
                      have hle : R.l ≤ (takeV R x.e x.n).l := by split at htl <;> omega
                      have HLE := Lib.hid hle
                      have hvl := O6.out.vl
                      have hvl2 : V.length ≤ 200 := by omega
                      have hp2 : (p : Int) ≤ 200 := by omega
                      clear hr hle hvl hp1 HXO
                      generalize takeV R x.e x.n = R9 at *
                      cases tb : takeB R x.e x.n with
                      | true =>
                        rw [tb, if_pos rfl] at htl
                        rw [tb] at HTa
                        rw [htl] at HL2 hrl
                        have f1 : (R.l + 1 != R.l) = true := by rw [bne_iff_ne]; omega
                        clear tb
                        go_upto_region 38 with (first
                          | (go_at_call 41; (with_reducible refine (HL2.out _ O8.out.k).mono ?_); rintro e wz ⟨rfl, -, b9⟩; have OZ := Lib.hid (O8.out.more b9); clear b9)
                          | (go_at_call 42; (with_reducible refine (HTa.out _ O7.out.k).mono ?_); rintro e w8 ⟨rfl, k8, -, t8⟩; have O8 := Lib.hid (O7.out.step k8 t8 ⟨O7.out.m.s, Rp.out⟩ HLE.out); clear k8 t8 y2 y3)
                          | (go_at_call 41; (with_reducible refine HL1.out.mono ?_); rintro e w7 ⟨rfl, -, b7⟩; have O7 := Lib.hid (O6.out.more b7); have X7 := X6.out.below b7 X6.out.inside; have y2 : w7.cell? ⟨gx, 2, none⟩ = some (.int .i64 x.e) := X7.read 2; have y3 : w7.cell? ⟨gx, 3, none⟩ = some (.int .i64 x.n) := X7.read 3; clear b7 X7))
                        obtain ⟨y, hy⟩ : ∃ y : Fr, y = ⟨R9.e, R.l + 1⟩ := ⟨_, rfl⟩
                        have HX : Hid (∀ (w9 : World) (g9 cap9 : Nat), OwnG 88 5 cF w9 w.heap.size (.slice (some ⟨g9, 0, none⟩) (V.length + 1) cap9) (V ++ [y]) → (wz.alloc (.cells (cF y).toArray 88)).grownBy w9 (Value.slice A2 V.length c2).ownBlock →
                            ((Value.slice (some ⟨g9, 0, none⟩) (V.length + 1) cap9).ownBlock = (Value.slice A2 V.length c2).ownBlock ∨ (Value.slice (some ⟨g9, 0, none⟩) (V.length + 1) cap9).ownBlock = some (wz.alloc (.cells (cF y).toArray 88)).heap.size) → On w wd wt gr w9 (j + 1) E p g S R9 A c Y6 B3 c3 (V ++ [y]) (some ⟨g9, 0, none⟩) cap9) :=
                          Lib.hid fun w9 g9 cap9 ho hg hb => (OZ.out.more (fresh1 wz _)).word (by rw [hy]; exact Int.le_of_eq htl.symm) ho hg (hb.elim (fun e => .inl e) (fun e => .inr (Nat.le_of_eq (Option.some.inj e).symm)))
                        have OV := Lib.hid (OZ.out.v.below (fresh1 wz (.cells (cF y).toArray 88)))
                        have HB : Hid (w.heap.size ≤ (wz.alloc (.cells (cF y).toArray 88)).heap.size) := Lib.hid (Nat.le_trans OZ.out.k.below.size (fresh1 wz _).size)
                        subst hy
                        clear O6 O7 O8 OZ HL1 HTa HL2 Rp HLE X6
                        go_wp2_with (first | (refine wpBuiltF rfl 88 #[(2, .tmp 200), (3, .tmp 201)] rfl (cF ⟨R9.e, R.l + 1⟩).toArray (by simpa [Act.eval] using built_fr _ _) ?_) | (refine wpSliceF rfl (.tmp 202) rfl ⟨R9.e, R.l + 1⟩ (by first | exact ev_eq (by show 202 < 344; decide) | simp [Act.eval]) ?_) | (at_builtin; refine wpList_append_own_at _ rfl _ _ 81 rfl w.heap.size 88 i0 (.agg #[.int .i64 0, .int .i64 0, .int .i64 0, .int .i64 0, sV []]) 5 48 Try.underlying81 hi0 hz0 hz1 hz2 rfl (by decide) (.slice A2 V.length c2) V.length (V.flatMap cF) (by first | (rw [ev_ne (by decide), ev_ne (by decide)]; rfl) | simp [Act.eval]) OV.out ⟨wz.heap.size, 0, none⟩ 1 1 (cF ⟨R9.e, R.l + 1⟩) (by first | exact ev_eq (by rw [put_size]; show 203 < 344; decide) | simp [Act.eval]) rfl (whole_cells (Whole.fresh wz 88 _)) (cellsF.one _) (by unfold maxLen; omega) (by omega) HB.out ?_; intro v' w9 hown hgrow _ hblk; obtain ⟨g9, cap9, rfl⟩ := OwnG.succ hown; have O9 := Lib.hid (HX.out w9 g9 cap9 (by unfold OwnG; simpa using hown) hgrow hblk); clear hown hgrow hblk))
                        go_roundw
                        case rel => exact ⟨j + 1, E, p, g, S, R9, A, c, Y6, B3, c3, V ++ [⟨R9.e, R.l + 1⟩], some ⟨g9, 0, none⟩, cap9, by omega, by omega, by go_num, rfl, rfl, rfl, rfl, by rw [List.length_append]; rfl, O9⟩
                        case measure => simp [intOf]; omega
                      | false =>
                        rw [tb, if_neg (by decide)] at htl
                        rw [tb] at HTa
                        rw [htl] at HL2 hrl
                        clear tb
                        go_upto_region 38 with (first
                          | (go_at_call 41; (with_reducible refine (HL2.out _ O8.out.k).mono ?_); rintro e wz ⟨rfl, -, b9⟩; have OZ := Lib.hid (O8.out.more b9); clear b9)
                          | (go_at_call 42; (with_reducible refine (HTa.out _ O7.out.k).mono ?_); rintro e w8 ⟨rfl, k8, -, t8⟩; have O8 := Lib.hid (O7.out.step k8 t8 ⟨O7.out.m.s, Rp.out⟩ HLE.out); clear k8 t8 y2 y3)
                          | (go_at_call 41; (with_reducible refine HL1.out.mono ?_); rintro e w7 ⟨rfl, -, b7⟩; have O7 := Lib.hid (O6.out.more b7); have X7 := X6.out.below b7 X6.out.inside; have y2 : w7.cell? ⟨gx, 2, none⟩ = some (.int .i64 x.e) := X7.read 2; have y3 : w7.cell? ⟨gx, 3, none⟩ = some (.int .i64 x.n) := X7.read 3; clear b7 X7))
                        obtain ⟨y, hy⟩ : ∃ y : Fr, y = ⟨R9.e, R.l⟩ := ⟨_, rfl⟩
                        have HX : Hid (∀ (w9 : World) (g9 cap9 : Nat), OwnG 88 5 cF w9 w.heap.size (.slice (some ⟨g9, 0, none⟩) (V.length + 1) cap9) (V ++ [y]) → (wz.alloc (.cells (cF y).toArray 88)).grownBy w9 (Value.slice A2 V.length c2).ownBlock →
                            ((Value.slice (some ⟨g9, 0, none⟩) (V.length + 1) cap9).ownBlock = (Value.slice A2 V.length c2).ownBlock ∨ (Value.slice (some ⟨g9, 0, none⟩) (V.length + 1) cap9).ownBlock = some (wz.alloc (.cells (cF y).toArray 88)).heap.size) → On w wd wt gr w9 (j + 1) E p g S R9 A c Y6 B3 c3 (V ++ [y]) (some ⟨g9, 0, none⟩) cap9) :=
                          Lib.hid fun w9 g9 cap9 ho hg hb => (OZ.out.more (fresh1 wz _)).word (by rw [hy]; exact Int.le_of_eq htl.symm) ho hg (hb.elim (fun e => .inl e) (fun e => .inr (Nat.le_of_eq (Option.some.inj e).symm)))
                        have OV := Lib.hid (OZ.out.v.below (fresh1 wz (.cells (cF y).toArray 88)))
                        have HB : Hid (w.heap.size ≤ (wz.alloc (.cells (cF y).toArray 88)).heap.size) := Lib.hid (Nat.le_trans OZ.out.k.below.size (fresh1 wz _).size)
                        subst hy
                        clear O6 O7 O8 OZ HL1 HTa HL2 Rp HLE X6
                        go_wp2_with (first | (refine wpBuiltF rfl 88 #[(2, .tmp 200), (3, .tmp 201)] rfl (cF ⟨R9.e, R.l⟩).toArray (by simpa [Act.eval] using built_fr _ _) ?_) | (refine wpSliceF rfl (.tmp 202) rfl ⟨R9.e, R.l⟩ (by first | exact ev_eq (by show 202 < 344; decide) | simp [Act.eval]) ?_) | (at_builtin; refine wpList_append_own_at _ rfl _ _ 81 rfl w.heap.size 88 i0 (.agg #[.int .i64 0, .int .i64 0, .int .i64 0, .int .i64 0, sV []]) 5 48 Try.underlying81 hi0 hz0 hz1 hz2 rfl (by decide) (.slice A2 V.length c2) V.length (V.flatMap cF) (by first | (rw [ev_ne (by decide), ev_ne (by decide)]; rfl) | simp [Act.eval]) OV.out ⟨wz.heap.size, 0, none⟩ 1 1 (cF ⟨R9.e, R.l⟩) (by first | exact ev_eq (by rw [put_size]; show 203 < 344; decide) | simp [Act.eval]) rfl (whole_cells (Whole.fresh wz 88 _)) (cellsF.one _) (by unfold maxLen; omega) (by omega) HB.out ?_; intro v' w9 hown hgrow _ hblk; obtain ⟨g9, cap9, rfl⟩ := OwnG.succ hown; have O9 := Lib.hid (HX.out w9 g9 cap9 (by unfold OwnG; simpa using hown) hgrow hblk); clear hown hgrow hblk))
                        go_roundw
                        case rel => exact ⟨j + 1, E, p, g, S, R9, A, c, Y6, B3, c3, V ++ [⟨R9.e, R.l⟩], some ⟨g9, 0, none⟩, cap9, by omega, by omega, by go_num, rfl, rfl, rfl, rfl, by rw [List.length_append]; rfl, O9⟩
                        case measure => simp [intOf]; omega
            · have n1 : (ok == 1) = false := by simpa using q1
              by_cases q2 : ok = 2
              · as_aux_lemma =>
                  subst q2
                  by_cases v0 : Y.length = 0
                  · have v0i : ((Y.length : Int) == 0) = true := beq_iff_eq.2 (by omega)
                    have v0j : (Y.length : Int) = 0 := by omega
                    go_wp2_with fail
                    go_roundw
                    case rel => exact ⟨j + 1, E, p, g, S, R, A, c, Y, A1, c1, V, A2, c2, by omega, by omega, by go_num, rfl, rfl, rfl, rfl, rfl, Lib.hid O4.out.next⟩
                    case measure => simp [intOf]; omega
                  · have hyl := O4.out.yl
                    obtain ⟨bw, rfl⟩ := own_some O4.out.y (by omega)
                    have hroom := OwnG.room O4.out.y
                    obtain ⟨kq, hk1, hk2⟩ := mod_is oi Y.length (by omega) (by omega)
                    obtain ⟨x, hx⟩ : ∃ x, Y[kq]? = some x := ⟨_, List.getElem?_eq_getElem hk1⟩
                    obtain ⟨z0, z1, z2, z3, z4, zf⟩ := frame_at O4.out.y hx
                    have HXO := Lib.hid (O4.out.yo x (List.mem_of_getElem? hx))
                    have u1 : IntKind.u64.wrap (Y.length : Int) = (Y.length : Int) := by rw [IntKind.wrap_u64]; omega
                    have v2 : ¬ (Y.length : Int) = 0 := by omega
                    have v3 : ((Y.length : Int) == 0) = false := beq_eq_false_iff_ne.2 v2
                    have v4 : (Y.length : Int) ≤ 12800 := by omega
                    have v1 : (0 : Int) < (Y.length : Int) := by omega
                    have hki : (kq : Int) < (Y.length : Int) := by omega
                    have HK2 := Lib.hid hk2
                    have HKC : Hid (kq + 1 ≤ Y.length ∧ kq ≤ c1 ∧ (Y.take kq).length = kq ∧ Y.length ≤ 12800 ∧ Y.length ≤ c1) := Lib.hid ⟨by omega, by omega, by rw [List.length_take]; omega, by omega, hroom⟩
                    clear hx v0 hk1 hyl hroom
                    go_upto_region 30 with fail
                    change Code.wp _ _ _ _ (w4.alloc (.cells (cF x).toArray 88))
                    have b5 := fresh1 w4 (.cells (cF x).toArray 88)
                    have O5 := Lib.hid (O4.out.more b5)
                    have X5 := Lib.hid (Whole.fresh w4 88 (cF x).toArray)
                    have R5 := Lib.hid (R4.out.below b5 R4.out.inside)
                    clear b5 z0 z1 z2 z3 z4 zf u1 v1 v2 v3 hki hk2 x0 x1 O4 R4
                    generalize w4.alloc (.cells (cF x).toArray 88) = w5 at O5 X5 R5 ⊢
                    generalize w4.heap.size = gx at X5 ⊢
                    have x0 : w5.cell? ⟨go, 0, none⟩ = some (.int .i64 2) := R5.out.read 0
                    have O6 := Lib.hid O5.out
                    have X6 := Lib.hid X5.out
                    clear HKC
                    go_upto_region 33 with fail
                    clear x0 R5 O5 X5
                    obtain ⟨i0, hi0, hz0, hz1, hz2⟩ := infoF
                    have hr := O6.out.m.r
                    have hr0 : 0 ≤ R.l := by have := hr.lo; have := hr.a0; omega
                    have hp1 := O6.out.p1
                    have hrp : R.l ≤ 200 := by have := hr.hi; omega
                    have Rp := Lib.hid (hr.take (e := x.e) (n := x.n) HXO.out.1.2 HXO.out.2.2)
                    have HL1 := Lib.hid (wk_last O6.out.k)
                    have HTa := Lib.hid (fun (w5 : World) (h : WkE w w5 g gr S R A c) => wk_take (V := takeV R x.e x.n) h hr0 (by omega) x.e x.n rfl rfl)
                    have HL2 := Lib.hid (fun (w5 : World) (h : WkE w w5 g gr S (takeV R x.e x.n) A c) => wk_last h)
                    have htl := take_l R x.e x.n
                    have hrl : (takeV R x.e x.n).l ≤ p := Rp.out.hi
                    have hle : R.l ≤ (takeV R x.e x.n).l := by split at htl <;> omega
                    have HLE := Lib.hid hle
                    have hvl := O6.out.vl
                    have hvl2 : V.length ≤ 200 := by omega
                    have hp2 : (p : Int) ≤ 200 := by omega
                    clear hr hle hvl hp1 HXO
                    generalize takeV R x.e x.n = R9 at *
                    cases tb : takeB R x.e x.n with
                    | true =>
                      rw [tb, if_pos rfl] at htl
                      rw [tb] at HTa
                      rw [htl] at HL2 hrl
                      have f1 : (R.l + 1 != R.l) = true := by rw [bne_iff_ne]; omega
                      clear tb
                      go_upto_region 38 with (first
                        | (go_at_call 41; (with_reducible refine (HL2.out _ O8.out.k).mono ?_); rintro e wz ⟨rfl, -, b9⟩; have OZ := Lib.hid (O8.out.more b9); clear b9)
                        | (go_at_call 42; (with_reducible refine (HTa.out _ O7.out.k).mono ?_); rintro e w8 ⟨rfl, k8, -, t8⟩; have O8 := Lib.hid (O7.out.step k8 t8 ⟨O7.out.m.s, Rp.out⟩ HLE.out); clear k8 t8 y2 y3)
                        | (go_at_call 41; (with_reducible refine HL1.out.mono ?_); rintro e w7 ⟨rfl, -, b7⟩; have O7 := Lib.hid (O6.out.more b7); have X7 := X6.out.below b7 X6.out.inside; have y2 : w7.cell? ⟨gx, 2, none⟩ = some (.int .i64 x.e) := X7.read 2; have y3 : w7.cell? ⟨gx, 3, none⟩ = some (.int .i64 x.n) := X7.read 3; clear b7 X7))
                      obtain ⟨y, hy⟩ : ∃ y : Fr, y = ⟨R9.e, R.l + 1⟩ := ⟨_, rfl⟩
                      have HX : Hid (∀ (w9 : World) (g9 cap9 : Nat), OwnG 88 5 cF w9 w.heap.size (.slice (some ⟨g9, 0, none⟩) (V.length + 1) cap9) (V ++ [y]) → (wz.alloc (.cells (cF y).toArray 88)).grownBy w9 (Value.slice A2 V.length c2).ownBlock →
                          ((Value.slice (some ⟨g9, 0, none⟩) (V.length + 1) cap9).ownBlock = (Value.slice A2 V.length c2).ownBlock ∨ (Value.slice (some ⟨g9, 0, none⟩) (V.length + 1) cap9).ownBlock = some (wz.alloc (.cells (cF y).toArray 88)).heap.size) → On w wd wt gr w9 (j + 1) E p g S R9 A c Y (some ⟨bw, 0, none⟩) c1 (V ++ [y]) (some ⟨g9, 0, none⟩) cap9) :=
                        Lib.hid fun w9 g9 cap9 ho hg hb => (OZ.out.more (fresh1 wz _)).word (by rw [hy]; exact Int.le_of_eq htl.symm) ho hg (hb.elim (fun e => .inl e) (fun e => .inr (Nat.le_of_eq (Option.some.inj e).symm)))
                      have OV := Lib.hid (OZ.out.v.below (fresh1 wz (.cells (cF y).toArray 88)))
                      have HB : Hid (w.heap.size ≤ (wz.alloc (.cells (cF y).toArray 88)).heap.size) := Lib.hid (Nat.le_trans OZ.out.k.below.size (fresh1 wz _).size)
                      subst hy
                      clear O6 O7 O8 OZ HL1 HTa HL2 Rp HLE X6
                      go_wp2_with (first | (refine wpBuiltF rfl 88 #[(2, .tmp 200), (3, .tmp 201)] rfl (cF ⟨R9.e, R.l + 1⟩).toArray (by simpa [Act.eval] using built_fr _ _) ?_) | (refine wpSliceF rfl (.tmp 202) rfl ⟨R9.e, R.l + 1⟩ (by first | exact ev_eq (by show 202 < 344; decide) | simp [Act.eval]) ?_) | (at_builtin; refine wpList_append_own_at _ rfl _ _ 81 rfl w.heap.size 88 i0 (.agg #[.int .i64 0, .int .i64 0, .int .i64 0, .int .i64 0, sV []]) 5 48 Try.underlying81 hi0 hz0 hz1 hz2 rfl (by decide) (.slice A2 V.length c2) V.length (V.flatMap cF) (by first | (rw [ev_ne (by decide), ev_ne (by decide)]; rfl) | simp [Act.eval]) OV.out ⟨wz.heap.size, 0, none⟩ 1 1 (cF ⟨R9.e, R.l + 1⟩) (by first | exact ev_eq (by rw [put_size]; show 203 < 344; decide) | simp [Act.eval]) rfl (whole_cells (Whole.fresh wz 88 _)) (cellsF.one _) (by unfold maxLen; omega) (by omega) HB.out ?_; intro v' w9 hown hgrow _ hblk; obtain ⟨g9, cap9, rfl⟩ := OwnG.succ hown; have O9 := Lib.hid (HX.out w9 g9 cap9 (by unfold OwnG; simpa using hown) hgrow hblk); clear hown hgrow hblk))
                      go_roundw
                      case rel => exact ⟨j + 1, E, p, g, S, R9, A, c, Y, (some ⟨bw, 0, none⟩), c1, V ++ [⟨R9.e, R.l + 1⟩], some ⟨g9, 0, none⟩, cap9, by omega, by omega, by go_num, rfl, rfl, rfl, rfl, by rw [List.length_append]; rfl, O9⟩
                      case measure => simp [intOf]; omega
                    | false =>
                      rw [tb, if_neg (by decide)] at htl
                      rw [tb] at HTa
                      rw [htl] at HL2 hrl
                      clear tb
                      go_upto_region 38 with (first
                        | (go_at_call 41; (with_reducible refine (HL2.out _ O8.out.k).mono ?_); rintro e wz ⟨rfl, -, b9⟩; have OZ := Lib.hid (O8.out.more b9); clear b9)
                        | (go_at_call 42; (with_reducible refine (HTa.out _ O7.out.k).mono ?_); rintro e w8 ⟨rfl, k8, -, t8⟩; have O8 := Lib.hid (O7.out.step k8 t8 ⟨O7.out.m.s, Rp.out⟩ HLE.out); clear k8 t8 y2 y3)
                        | (go_at_call 41; (with_reducible refine HL1.out.mono ?_); rintro e w7 ⟨rfl, -, b7⟩; have O7 := Lib.hid (O6.out.more b7); have X7 := X6.out.below b7 X6.out.inside; have y2 : w7.cell? ⟨gx, 2, none⟩ = some (.int .i64 x.e) := X7.read 2; have y3 : w7.cell? ⟨gx, 3, none⟩ = some (.int .i64 x.n) := X7.read 3; clear b7 X7))
                      obtain ⟨y, hy⟩ : ∃ y : Fr, y = ⟨R9.e, R.l⟩ := ⟨_, rfl⟩
                      have HX : Hid (∀ (w9 : World) (g9 cap9 : Nat), OwnG 88 5 cF w9 w.heap.size (.slice (some ⟨g9, 0, none⟩) (V.length + 1) cap9) (V ++ [y]) → (wz.alloc (.cells (cF y).toArray 88)).grownBy w9 (Value.slice A2 V.length c2).ownBlock →
                          ((Value.slice (some ⟨g9, 0, none⟩) (V.length + 1) cap9).ownBlock = (Value.slice A2 V.length c2).ownBlock ∨ (Value.slice (some ⟨g9, 0, none⟩) (V.length + 1) cap9).ownBlock = some (wz.alloc (.cells (cF y).toArray 88)).heap.size) → On w wd wt gr w9 (j + 1) E p g S R9 A c Y (some ⟨bw, 0, none⟩) c1 (V ++ [y]) (some ⟨g9, 0, none⟩) cap9) :=
                        Lib.hid fun w9 g9 cap9 ho hg hb => (OZ.out.more (fresh1 wz _)).word (by rw [hy]; exact Int.le_of_eq htl.symm) ho hg (hb.elim (fun e => .inl e) (fun e => .inr (Nat.le_of_eq (Option.some.inj e).symm)))
                      have OV := Lib.hid (OZ.out.v.below (fresh1 wz (.cells (cF y).toArray 88)))
                      have HB : Hid (w.heap.size ≤ (wz.alloc (.cells (cF y).toArray 88)).heap.size) := Lib.hid (Nat.le_trans OZ.out.k.below.size (fresh1 wz _).size)
                      subst hy
                      clear O6 O7 O8 OZ HL1 HTa HL2 Rp HLE X6
                      go_wp2_with (first | (refine wpBuiltF rfl 88 #[(2, .tmp 200), (3, .tmp 201)] rfl (cF ⟨R9.e, R.l⟩).toArray (by simpa [Act.eval] using built_fr _ _) ?_) | (refine wpSliceF rfl (.tmp 202) rfl ⟨R9.e, R.l⟩ (by first | exact ev_eq (by show 202 < 344; decide) | simp [Act.eval]) ?_) | (at_builtin; refine wpList_append_own_at _ rfl _ _ 81 rfl w.heap.size 88 i0 (.agg #[.int .i64 0, .int .i64 0, .int .i64 0, .int .i64 0, sV []]) 5 48 Try.underlying81 hi0 hz0 hz1 hz2 rfl (by decide) (.slice A2 V.length c2) V.length (V.flatMap cF) (by first | (rw [ev_ne (by decide), ev_ne (by decide)]; rfl) | simp [Act.eval]) OV.out ⟨wz.heap.size, 0, none⟩ 1 1 (cF ⟨R9.e, R.l⟩) (by first | exact ev_eq (by rw [put_size]; show 203 < 344; decide) | simp [Act.eval]) rfl (whole_cells (Whole.fresh wz 88 _)) (cellsF.one _) (by unfold maxLen; omega) (by omega) HB.out ?_; intro v' w9 hown hgrow _ hblk; obtain ⟨g9, cap9, rfl⟩ := OwnG.succ hown; have O9 := Lib.hid (HX.out w9 g9 cap9 (by unfold OwnG; simpa using hown) hgrow hblk); clear hown hgrow hblk))
                      go_roundw
                      case rel => exact ⟨j + 1, E, p, g, S, R9, A, c, Y, (some ⟨bw, 0, none⟩), c1, V ++ [⟨R9.e, R.l⟩], some ⟨g9, 0, none⟩, cap9, by omega, by omega, by go_num, rfl, rfl, rfl, rfl, by rw [List.length_append]; rfl, O9⟩
                      case measure => simp [intOf]; omega
              · have n2 : (ok == 2) = false := by simpa using q2
                by_cases q3 : ok = 3
                · as_aux_lemma =>
                    subst q3
                    by_cases v0 : Y.length = 0
                    · have v0i : ((Y.length : Int) == 0) = true := beq_iff_eq.2 (by omega)
                      have v0j : (Y.length : Int) = 0 := by omega
                      go_wp2_with fail
                      go_roundw
                      case rel => exact ⟨j + 1, E, p, g, S, R, A, c, Y, A1, c1, V, A2, c2, by omega, by omega, by go_num, rfl, rfl, rfl, rfl, rfl, Lib.hid O4.out.next⟩
                      case measure => simp [intOf]; omega
                    · have hyl := O4.out.yl
                      obtain ⟨bw, rfl⟩ := own_some O4.out.y (by omega)
                      have hroom := OwnG.room O4.out.y
                      obtain ⟨kq, hk1, hk2⟩ := mod_is oi Y.length (by omega) (by omega)
                      obtain ⟨x, hx⟩ : ∃ x, Y[kq]? = some x := ⟨_, List.getElem?_eq_getElem hk1⟩
                      obtain ⟨z0, z1, z2, z3, z4, zf⟩ := frame_at O4.out.y hx
                      have HXO := Lib.hid (O4.out.yo x (List.mem_of_getElem? hx))
                      have u1 : IntKind.u64.wrap (Y.length : Int) = (Y.length : Int) := by rw [IntKind.wrap_u64]; omega
                      have v2 : ¬ (Y.length : Int) = 0 := by omega
                      have v3 : ((Y.length : Int) == 0) = false := beq_eq_false_iff_ne.2 v2
                      have v4 : (Y.length : Int) ≤ 12800 := by omega
                      have v1 : (0 : Int) < (Y.length : Int) := by omega
                      have hki : (kq : Int) < (Y.length : Int) := by omega
                      have HK2 := Lib.hid hk2
                      have HKC : Hid (kq + 1 ≤ Y.length ∧ kq ≤ c1 ∧ (Y.take kq).length = kq ∧ Y.length ≤ 12800 ∧ Y.length ≤ c1) := Lib.hid ⟨by omega, by omega, by rw [List.length_take]; omega, by omega, hroom⟩
                      clear hx v0 hk1 hyl hroom
                      go_upto_region 30 with fail
                      change Code.wp _ _ _ _ (w4.alloc (.cells (cF x).toArray 88))
                      have b5 := fresh1 w4 (.cells (cF x).toArray 88)
                      have O5 := Lib.hid (O4.out.more b5)
                      have X5 := Lib.hid (Whole.fresh w4 88 (cF x).toArray)
                      have R5 := Lib.hid (R4.out.below b5 R4.out.inside)
                      clear b5 z0 z1 z2 z3 z4 zf u1 v1 v2 v3 hki hk2 x0 x1 O4 R4
                      generalize w4.alloc (.cells (cF x).toArray 88) = w5 at O5 X5 R5 ⊢
                      generalize w4.heap.size = gx at X5 ⊢
                      have x0 : w5.cell? ⟨go, 0, none⟩ = some (.int .i64 3) := R5.out.read 0
                      obtain ⟨i0, hi0, hz0, hz1, hz2⟩ := infoF
                      go_upto_region 31 with fail
                      refine wp_frame ?_
                      intro a9 ha9
                      have hN9 : a9.tmps.size = 344 := by rw [ha9]; rfl
                      have e13 : a9.eval (.tmp 13) = .slice (some ⟨bw, 0, none⟩) Y.length c1 := by rw [ha9]; rfl
                      have e19 : a9.eval (.tmp 19) = .int .i64 (kq : Int) := by rw [ha9]; exact congrArg (Value.int .i64) HK2.out
                      have HA9 := Lib.hid ha9
                      clear ha9
                      refine region_fullZ 344 [(4, 9), (4, 10), (9, 10), (4, 0), (9, 4), (9, 0)] [] [(4, 0), (9, 4), (9, 0)] (fun k => k == 4 || k == 9) (fun w7 => Below w5.heap.size w5 w7) ?hR ?r0 [pdOne 0 (OwnPF w5.heap.size []), pdOne 1 (Is (.slice (some ⟨bw, 0, none⟩) Y.length c1)), pdOne 2 (Is (.int .i64 (kq : Int))), pdOne 3 (Is (.slice (some ⟨bw, 0, none⟩) kq c1)), pdOne 4 (OwnPF w5.heap.size (Y.take kq)), pdOne 5 (Is (.slice (some ⟨bw, 0, none⟩) Y.length c1)), pdOne 6 (Is (.int .i64 (kq : Int))), pdOne 7 (Is (.int .i64 ((kq + 1 : Nat) : Int))), pdOne 8 (Is (.slice (if c1 = kq + 1 then some ⟨bw, 0, none⟩ else some ⟨bw, (kq + 1) * 5, none⟩) (Y.length - (kq + 1)) (c1 - (kq + 1)))), pdOne 9 (OwnPF w5.heap.size (Y.take kq ++ Y.drop (kq + 1))), pdOne 10 (OwnPF w5.heap.size (Y.take kq ++ Y.drop (kq + 1)))] (fun _ _ => True) (by kernel_rfl) hN9 (by kernel_rfl) (by kernel_rfl) (by kernel_rfl) (by kernel_rfl) (by kernel_rfl) ?keep ?hO ?h0 ?tell
                      case hR => exact fun w7 w8 hb h => then_below h hb
                      case r0 => exact Below.refl _ _
                      case keep => exact ⟨keep_one (keeps_ownPF _ _), keep_one (keeps_is _), keep_one (keeps_is _), keep_one (keeps_is _), keep_one (keeps_ownPF _ _), keep_one (keeps_is _), keep_one (keeps_is _), keep_one (keeps_is _), keep_one (keeps_is _), keep_one (keeps_ownPF _ _), keep_one (keeps_ownPF _ _), trivial⟩
                      case hO => exact fun _ _ _ _ h => h
                      case h0 => exact fun _ _ => trivial
                      case tell =>
                        intro fin hfin
                        apply And.intro
                        case' left => (simp only [TellZ]; refine ⟨?_, ?_, ?_, ?_, ?_, ?_, ?_, ?_, ?_, ?_, ?_, trivial⟩)
                        · intro v2 w7 hr hd
                          refine ⟨(fun j b h => nomatch h), ?_⟩
                          refine yields_run (u := .slice (some ⟨w7.heap.size, 0, none⟩) 0 0) (w' := w7.alloc (.cells #[] 88)) ?_ (fresh1 w7 _) ⟨_, _, rfl, own0F w7 _ hr.size⟩
                          unfold execOp
                          (try simp only [List.map_toArray, List.map_cons, List.map_nil, ev_ne, ev_eq, ev_const, put_size, hN9, ne_eq, Nat.reduceEqDiff, not_false_eq_true, Nat.reduceLT, e13, e19])
                          (try simp [go_sem])
                        · intro v2 w7 hr hd
                          refine ⟨(fun j b h => nomatch h), ?_⟩
                          refine yields_run (u := .slice (some ⟨bw, 0, none⟩) Y.length c1) (w' := w7) ?_ (Below.refl _ _) rfl
                          unfold execOp
                          (try simp only [List.map_toArray, List.map_cons, List.map_nil, ev_ne, ev_eq, ev_const, put_size, hN9, ne_eq, Nat.reduceEqDiff, not_false_eq_true, Nat.reduceLT, e13, e19])
                          (try simp [go_sem])
                        · intro v2 w7 hr hd
                          refine ⟨(fun j b h => nomatch h), ?_⟩
                          refine yields_run (u := .int .i64 (kq : Int)) (w' := w7) ?_ (Below.refl _ _) rfl
                          unfold execOp
                          (try simp only [List.map_toArray, List.map_cons, List.map_nil, ev_ne, ev_eq, ev_const, put_size, hN9, ne_eq, Nat.reduceEqDiff, not_false_eq_true, Nat.reduceLT, e13, e19])
                          (try simp [go_sem])
                        · intro v2 w7 hr hd
                          have h1 : v2 1 = _ := hd 1 (by kernel_rfl)
                          have h2 : v2 2 = _ := hd 2 (by kernel_rfl)
                          refine ⟨(fun j b h => nomatch h), ?_⟩
                          exact yields_slice (v := .slice (some ⟨bw, 0, none⟩) Y.length c1) rfl (by simp only [List.map_toArray, List.map_cons, List.map_nil, ev_ne, ev_eq, ev_const, put_size, hN9, ne_eq, Nat.reduceEqDiff, not_false_eq_true, Nat.reduceLT, e13, e19, h1]) (by simp only [List.map_toArray, List.map_cons, List.map_nil, ev_ne, ev_eq, ev_const, put_size, hN9, ne_eq, Nat.reduceEqDiff, not_false_eq_true, Nat.reduceLT, e13, e19, h2, Option.map_some, Option.map_none]; exact slice_to bw Y.length c1 kq HKC.out.2.1 w7) rfl
                        · intro v2 w7 hr ho hd
                          obtain ⟨B0, d0, h0, hown⟩ : OwnPF w5.heap.size [] (v2 0) w7 := hd 0 (by kernel_rfl)
                          have h3 : v2 3 = _ := hd 3 (by kernel_rfl)
                          refine ⟨(fun j b h => nomatch h), ?_⟩
                          have hM := (lg_sub cellsF (O5.out.y.below hr) 0 (Y.take kq) (fun i y hy => by rw [List.getElem?_take] at hy; split at hy; (· rw [Nat.zero_add]; exact hy); (· cases hy)))
                          refine .inl (yields_append_row (T := 88) cellsF (by decide) (.tmp 151) (.tmp 154) 81 rfl w5.heap.size i0 (.agg #[.int .i64 0, .int .i64 0, .int .i64 0, .int .i64 0, sV []]) 48 Try.underlying81 hi0 hz0 hz1 hz2 rfl (A := some ⟨bw, 0, none⟩) (c := c1) (N := []) (M := Y.take kq) (by simp only [List.map_toArray, List.map_cons, List.map_nil, ev_ne, ev_eq, ev_const, put_size, hN9, ne_eq, Nat.reduceEqDiff, not_false_eq_true, Nat.reduceLT, e13, e19, h0]) (by simp only [List.map_toArray, List.map_cons, List.map_nil, ev_ne, ev_eq, ev_const, put_size, hN9, ne_eq, Nat.reduceEqDiff, not_false_eq_true, Nat.reduceLT, e13, e19, h3, HKC.out.2.2.1]) hown (by simpa using hM) (by have := HKC.out.2.2.2; unfold maxLen; simp; omega) (by have := HKC.out.2.2.2; simp; omega) hr.size ?_)
                          intro B8 cap8 w8 hown8 hgrow hat
                          refine ⟨hr.grown hgrow hr.size (fun j hj => OwnG.above hown hj), ?_, ?_, B8, cap8, rfl, by rw [List.nil_append] at hown8; exact hown8⟩
                          · intro k2 v' hk2 hc hu
                            exact match k2, hk2, hc, hu with
                            | 0, _, hc, _ => absurd hc (by decide)
                            | 1, _, _, hu => hu
                            | 2, _, _, hu => hu
                            | 3, _, _, hu => hu
                            | 4, hk2, _, _ => absurd rfl hk2
                            | 5, _, _, hu => hu
                            | 6, _, _, hu => hu
                            | 7, _, _, hu => hu
                            | 8, _, _, hu => hu
                            | 9, _, hc, _ => absurd hc (by decide)
                            | 10, _, hc, _ => absurd hc (by decide)
                            | _ + 11, _, _, _ => trivial
                          · exact fun _ _ _ _ _ => trivial
                        · intro v2 w7 hr hd
                          refine ⟨(fun j b h => nomatch h), ?_⟩
                          refine yields_run (u := .slice (some ⟨bw, 0, none⟩) Y.length c1) (w' := w7) ?_ (Below.refl _ _) rfl
                          unfold execOp
                          (try simp only [List.map_toArray, List.map_cons, List.map_nil, ev_ne, ev_eq, ev_const, put_size, hN9, ne_eq, Nat.reduceEqDiff, not_false_eq_true, Nat.reduceLT, e13, e19])
                          (try simp [go_sem])
                        · intro v2 w7 hr hd
                          refine ⟨(fun j b h => nomatch h), ?_⟩
                          refine yields_run (u := .int .i64 (kq : Int)) (w' := w7) ?_ (Below.refl _ _) rfl
                          unfold execOp
                          (try simp only [List.map_toArray, List.map_cons, List.map_nil, ev_ne, ev_eq, ev_const, put_size, hN9, ne_eq, Nat.reduceEqDiff, not_false_eq_true, Nat.reduceLT, e13, e19])
                          (try simp [go_sem])
                        · intro v2 w7 hr hd
                          have h6 : v2 6 = _ := hd 6 (by kernel_rfl)
                          have hw : IntKind.i64.wrap ((kq : Int) + 1) = (kq : Int) + 1 := by have := HKC.out; rw [IntKind.wrap_i64]; omega
                          refine ⟨(fun j b h => nomatch h), ?_⟩
                          refine yields_run (u := .int .i64 ((kq + 1 : Nat) : Int)) (w' := w7) ?_ (Below.refl _ _) rfl
                          unfold execOp
                          (try simp only [List.map_toArray, List.map_cons, List.map_nil, ev_ne, ev_eq, ev_const, put_size, hN9, ne_eq, Nat.reduceEqDiff, not_false_eq_true, Nat.reduceLT, e13, e19, h6, hw])
                          (try simp [go_sem, h6, hw])
                        · intro v2 w7 hr hd
                          have h5 : v2 5 = _ := hd 5 (by kernel_rfl)
                          have h7 : v2 7 = _ := hd 7 (by kernel_rfl)
                          refine ⟨(fun j b h => nomatch h), ?_⟩
                          exact yields_slice (v := .slice (some ⟨bw, 0, none⟩) Y.length c1) rfl (by simp only [List.map_toArray, List.map_cons, List.map_nil, ev_ne, ev_eq, ev_const, put_size, hN9, ne_eq, Nat.reduceEqDiff, not_false_eq_true, Nat.reduceLT, e13, e19, h5]) (by simp only [List.map_toArray, List.map_cons, List.map_nil, ev_ne, ev_eq, ev_const, put_size, hN9, ne_eq, Nat.reduceEqDiff, not_false_eq_true, Nat.reduceLT, e13, e19, h7, Option.map_some, Option.map_none]; exact slice_from bw Y.length c1 (kq + 1) HKC.out.1 HKC.out.2.2.2.2 w7) rfl
                        · intro v2 w7 hr ho hd
                          obtain ⟨B0, d0, h4, hown⟩ : OwnPF w5.heap.size (Y.take kq) (v2 4) w7 := hd 4 (by kernel_rfl)
                          have h8 : v2 8 = _ := hd 8 (by kernel_rfl)
                          refine ⟨(fun j b h => nomatch h), ?_⟩
                          have hM : graph.Lg 5 cF w7 (if c1 = kq + 1 then some ⟨bw, 0, none⟩ else some ⟨bw, (kq + 1) * 5, none⟩) (Y.drop (kq + 1)) := by
                            split
                            · rename_i hc
                              have := HKC.out
                              rw [List.drop_of_length_le (by omega)]
                              exact .inl rfl
                            · exact lg_sub cellsF (O5.out.y.below hr) (kq + 1) (Y.drop (kq + 1)) (fun i y hy => by rwa [List.getElem?_drop] at hy)
                          refine .inl (yields_append_row (T := 88) cellsF (by decide) (.tmp 155) (.tmp 159) 81 rfl w5.heap.size i0 (.agg #[.int .i64 0, .int .i64 0, .int .i64 0, .int .i64 0, sV []]) 48 Try.underlying81 hi0 hz0 hz1 hz2 rfl (A := if c1 = kq + 1 then some ⟨bw, 0, none⟩ else some ⟨bw, (kq + 1) * 5, none⟩) (c := c1 - (kq + 1)) (N := Y.take kq) (M := Y.drop (kq + 1)) (by simp only [List.map_toArray, List.map_cons, List.map_nil, ev_ne, ev_eq, ev_const, put_size, hN9, ne_eq, Nat.reduceEqDiff, not_false_eq_true, Nat.reduceLT, e13, e19, h4]) (by simp only [List.map_toArray, List.map_cons, List.map_nil, ev_ne, ev_eq, ev_const, put_size, hN9, ne_eq, Nat.reduceEqDiff, not_false_eq_true, Nat.reduceLT, e13, e19, h8, List.length_drop]) hown hM (by have := HKC.out.2.2.2; unfold maxLen; simp; omega) (by have := HKC.out.2.2.2; simp; omega) hr.size ?_)
                          intro B8 cap8 w8 hown8 hgrow hat
                          refine ⟨hr.grown hgrow hr.size (fun j hj => OwnG.above hown hj), ?_, ?_, B8, cap8, rfl, hown8⟩
                          · intro k2 v' hk2 hc hu
                            exact match k2, hk2, hc, hu with
                            | 0, _, hc, _ => absurd hc (by decide)
                            | 1, _, _, hu => hu
                            | 2, _, _, hu => hu
                            | 3, _, _, hu => hu
                            | 4, _, hc, _ => absurd hc (by decide)
                            | 5, _, _, hu => hu
                            | 6, _, _, hu => hu
                            | 7, _, _, hu => hu
                            | 8, _, _, hu => hu
                            | 9, hk2, _, _ => absurd rfl hk2
                            | 10, _, hc, _ => absurd hc (by decide)
                            | _ + 11, _, _, _ => trivial
                          · exact fun _ _ _ _ _ => trivial
                        · intro v2 w7 hr hd
                          have hP : OwnPF w5.heap.size (Y.take kq ++ Y.drop (kq + 1)) (v2 9) w7 := hd 9 (by kernel_rfl)
                          refine ⟨(fun j b h => nomatch h), ?_⟩
                          refine yields_run (u := v2 9) (w' := w7) ?_ (Below.refl _ _) hP
                          unfold execOp
                          (try simp only [List.map_toArray, List.map_cons, List.map_nil, ev_ne, ev_eq, ev_const, put_size, hN9, ne_eq, Nat.reduceEqDiff, not_false_eq_true, Nat.reduceLT, e13, e19])
                          (try simp [go_sem])
                        · intro v2 w6 hr hv
                          obtain ⟨B3, c3, h10, ho⟩ : OwnPF w5.heap.size (Y.take kq ++ Y.drop (kq + 1)) (v2 10) w6 := hv 10 (by decide) (by decide)
                          have O6 := Lib.hid (O5.out.cut hr kq ho)
                          have X6 := Lib.hid (X5.out.below hr X5.out.inside)
                          have hf := hfin v2
                          rw [HA9.out] at hf
                          simp [lexPut, Act.put] at hf
                          rw [hf, h10]
                          clear hf HA9 hN9 e13 e19
                          have hrx := hr
                          clear hfin hv hr ho h10 HKC O5 X5 x0
                          generalize Y.take kq ++ Y.drop (kq + 1) = Y6 at O6 ⊢
                          have x0 : w6.cell? ⟨go, 0, none⟩ = some (.int .i64 3) := (R5.out.below hrx R5.out.inside).read 0
                          clear hrx R5
                          clear hi0 hz0 hz1 hz2
                          go_wp2_with fail
                          go_roundw
                          case rel => exact ⟨j + 1, E, p, g, S, R, A, c, Y6, B3, c3, V, A2, c2, by omega, by omega, by go_num, rfl, rfl, rfl, rfl, rfl, Lib.hid O6.out.next⟩
                          case measure => simp [intOf]; omega
                · have n3 : (ok == 3) = false := by simpa using q3
                  by_cases q4 : ok = 4
                  · as_aux_lemma =>
                      subst q4
                      by_cases v0 : V.length = 0
                      · have v0i : ¬ (0 : Int) < (V.length : Int) := by omega
                        go_wp2_with fail
                        go_roundw
                        case rel => exact ⟨j + 1, E, p, g, S, R, A, c, Y, A1, c1, V, A2, c2, by omega, by omega, by go_num, rfl, rfl, rfl, rfl, rfl, Lib.hid O4.out.next⟩
                        case measure => simp [intOf]; omega
                      · have hvl := O4.out.vl
                        obtain ⟨bv, rfl⟩ := own_some O4.out.v (by omega)
                        obtain ⟨kq, hk1, hk2⟩ := mod_is oi V.length (by omega) (by omega)
                        obtain ⟨x, hx⟩ : ∃ x, V[kq]? = some x := ⟨_, List.getElem?_eq_getElem hk1⟩
                        obtain ⟨z0, z1, z2, z3, z4, zf⟩ := frame_at O4.out.v hx
                        have hxn := O4.out.vo x (List.mem_of_getElem? hx)
                        have u1 : IntKind.u64.wrap (V.length : Int) = (V.length : Int) := by rw [IntKind.wrap_u64]; omega
                        have v1 : (0 : Int) < (V.length : Int) := by omega
                        have v2 : ¬ (V.length : Int) = 0 := by omega
                        have v3 : ((V.length : Int) == 0) = false := beq_eq_false_iff_ne.2 v2
                        have v4 : (V.length : Int) ≤ 200 := by omega
                        have hki : (kq : Int) < (V.length : Int) := by omega
                        have HAk := Lib.hid (fun (w5 : World) (h : WkE w w5 g gr S R A c) => wk_ack h O4.out.m.s.good x.e x.n rfl rfl)
                        have M5 := Lib.hid (O4.out.m.ack x.e x.n hxn)
                        clear hx hxn v0 hk1 hvl
                        generalize ackV S x.e x.n = S5 at HAk M5
                        generalize ackB S x.e x.n = ab at HAk
                        go_upto_region 42 with fail
                        change Code.wp _ _ _ _ (w4.alloc (.cells (cF x).toArray 88))
                        have b5 := fresh1 w4 (.cells (cF x).toArray 88)
                        have O5 := Lib.hid (O4.out.more b5)
                        have X5 := Lib.hid (Whole.fresh w4 88 (cF x).toArray)
                        clear b5 z0 z1 z2 z3 z4 zf u1 v1 v2 v3 v4 hki hk2 x0 x1
                        generalize w4.alloc (.cells (cF x).toArray 88) = w5 at O5 X5 ⊢
                        generalize w4.heap.size = gx at X5 ⊢
                        have y2 : w5.cell? ⟨gx, 2, none⟩ = some (.int .i64 x.e) := X5.out.read 2
                        have y3 : w5.cell? ⟨gx, 3, none⟩ = some (.int .i64 x.n) := X5.out.read 3
                        go_wp2_with (go_at_call 29; (with_reducible refine (HAk.out _ O5.out.k).mono ?_); rintro e w6 ⟨rfl, k6, -, t6⟩; have O6 := Lib.hid ((O5.out.step k6 t6 M5.out (Int.le_refl _)).next); clear k6 t6 y2 y3)
                        go_roundw
                        case rel => exact ⟨j + 1, E, p, g, S5, R, A, c, Y, A1, c1, V, some ⟨bv, 0, none⟩, c2, by omega, by omega, by go_num, rfl, rfl, rfl, rfl, rfl, O6⟩
                        case measure => simp [intOf]; omega
                  · have n4 : (ok == 4) = false := by simpa using q4
                    by_cases q5 : ok = 5
                    · as_aux_lemma =>
                        subst q5
                        have HT := Lib.hid (wk_tick O4.out.k O4.out.m.s.good rfl)
                        go_wp2_with (go_at_call 31; (with_reducible refine HT.out.mono ?_); rintro e w5 ⟨rfl, k5, -, t5⟩; have O5 := Lib.hid ((O4.out.step k5 t5 O4.out.m.tick (Int.le_refl _)).next); clear k5 t5)
                        go_roundw
                        case rel => exact ⟨j + 1, E, p, g, _, R, A, c, Y, A1, c1, V, A2, c2, by omega, by omega, by go_num, rfl, rfl, rfl, rfl, rfl, O5⟩
                        case measure => simp [intOf]; omega
                    · have n5 : (ok == 5) = false := by simpa using q5
                      by_cases q6 : ok = 6
                      · as_aux_lemma =>
                          subst q6
                          have hp1 := O4.out.p1
                          have hp2 : (p : Int) ≤ 200 := by omega
                          have hc := byte_conv w4 ((p : Int) + 1) (by omega) (by omega)
                          have b5 := fresh1 w4 (.cells #[.int .u8 ((p : Int) + 1)] 5)
                          have O5 := Lib.hid (O4.out.more b5)
                          clear b5
                          rcases O4.out.m.s.put (by omega) with ⟨e1, e2, e3⟩ | ⟨e1, e2, e3⟩
                          · have HP := Lib.hid (fun (w5 : World) (h : WkE w w5 g gr S R A c) => wk_put h O4.out.m.s.good (byteOf ((p : Int) + 1)) (by unfold byteOf; simp) e2 e1 rfl)
                            have M5 := Lib.hid e3
                            have PA := Lib.hid (put_a S (byteOf ((p : Int) + 1)))
                            clear e1 e2 e3
                            generalize putV S (byteOf ((p : Int) + 1)) = S5 at HP M5 PA
                            generalize byteOf ((p : Int) + 1) = bs at HP hc
                            go_wp2_with (go_at_call 27; (with_reducible refine (HP.out _ O5.out.k).mono ?_); rintro e w6 ⟨rfl, ⟨A6, c6, k6⟩, t6⟩; have O6 := Lib.hid (O5.out.put k6 t6 M5.out PA.out); clear k6 t6 hc)
                            go_roundw
                            case rel => exact ⟨j + 1, E, p + 1, g, S5, R, A6, c6, Y, A1, c1, V, A2, c2, by omega, by omega, by go_num, rfl, rfl, by go_num, rfl, rfl, O6⟩
                            case measure => simp [intOf]; omega
                          · have HP := Lib.hid (fun (w5 : World) (h : WkE w w5 g gr S R A c) => wk_put h O4.out.m.s.good (byteOf ((p : Int) + 1)) (by unfold byteOf; simp) e2 e1 e3)
                            clear e1 e2 e3
                            generalize byteOf ((p : Int) + 1) = bs at HP hc
                            go_wp2_with (go_at_call 27; (with_reducible refine (HP.out _ O5.out.k).mono ?_); rintro e w6 ⟨rfl, ⟨A6, c6, k6⟩, t6⟩; have O6 := Lib.hid ((O5.out.step k6 t6 O5.out.m (Int.le_refl _)).next); clear k6 t6 hc)
                            go_roundw
                            case rel => exact ⟨j + 1, E, p, g, S, R, A6, c6, Y, A1, c1, V, A2, c2, by omega, by omega, by go_num, rfl, rfl, rfl, rfl, rfl, O6⟩
                            case measure => simp [intOf]; omega
                      · have n6 : (ok == 6) = false := by simpa using q6
                        by_cases q7 : ok = 7
                        · as_aux_lemma =>
                            subst q7
                            have hm := O4.out.m.s
                            have hr := O4.out.m.r
                            have hE1 := O4.out.e1
                            have hp1 := O4.out.p1
                            have ga0 := hm.good.a0
                            have gp := hm.p
                            obtain ⟨sa, hsa⟩ : ∃ sa : Nat, S.a = sa := ⟨S.a.toNat, by omega⟩
                            have HSt := Lib.hid (wk_state O4.out.k hm.good)
                            have hnx : nextV S = (sa : Int) + S.L.length + 1 := by unfold nextV; omega
                            rw [hnx, hsa] at HSt
                            have hE2 : (E : Int) ≤ 201 := by omega
                            have hs2 : (sa : Int) ≤ 200 := by omega
                            obtain ⟨⟨d1, d2⟩, ⟨t1, t2⟩⟩ := HDT.out
                            have hok : NewOk ((E : Int) + 1) (sa : Int) (wd : Int) (wt : Int) := by unfold NewOk; omega
                            have HNS := Lib.hid (fun (w5 : World) => newS_good (w := w5) hok)
                            have M0 : Hid (Sd ((E + 1 : Nat) : Int) ((sa : Int) + (0 : Nat)) (wd : Int) (wt : Int) (newV ((E : Int) + 1) (sa : Int) (wd : Int) (wt : Int)) ∧ (newV ((E : Int) + 1) (sa : Int) (wd : Int) (wt : Int)).a = sa) := Lib.hid ⟨⟨good_new hok, by show (E : Int) + 1 = ((E + 1 : Nat) : Int); omega, rfl, rfl, by show (sa : Int) + ((([] : List It).length : Nat) : Int) = _; simp, fun x hx => by simp [newV] at hx⟩, rfl⟩
                            have hll : S.L.length ≤ 64 := hm.good.l
                            have hlp : (sa : Int) + S.L.length = p := by omega
                            have Hr := Lib.hid hr
                            have HLP := Lib.hid hlp
                            obtain ⟨ln, hln⟩ : ∃ ln, ln = S.L.length := ⟨_, rfl⟩
                            rw [← hln] at HSt hlp HLP hll
                            have lni : (ln : Int) ≤ 64 := by omega
                            clear hm hr hnx hok d1 d2 t1 t2 ga0 gp hln
                            go_upto_region 54 with (go_at_call 37; (with_reducible refine HSt.out.mono ?_); rintro e w5 ⟨rfl, k5, b5⟩; have O5 := Lib.hid (O4.out.more b5); clear k5 b5)
                            clear HSt
                            go_upto_region 57 with (go_at_call 25; (with_reducible refine (HNS.out w5).mono ?_); rintro e w6 ⟨g6, rfl, b6, s6⟩; have O6 := Lib.hid (O5.out.more b6); have K6 : Hid (WkE w w6 g6 gr (newV ((E : Int) + 1) (sa : Int) (wd : Int) (wt : Int)) R none 0) := Lib.hid ⟨SnE.lower s6 O5.out.k.below.size, O6.out.k.r, O6.out.k.rb, O6.out.k.below⟩; clear b6 s6)
                            clear HNS
                            generalize newV ((E : Int) + 1) (sa : Int) (wd : Int) (wt : Int) = S6 at K6 M0
                            have T6 := Lib.hid (TW.refl w6)
                            obtain ⟨wo, hwo⟩ : ∃ wo : World, wo = w6 := ⟨_, rfl⟩
                            rw [← hwo] at O6
                            have T6 : Hid (TW wo w6) := Lib.hid (by rw [hwo]; exact TW.refl _)
                            clear hwo
                            go_wp2_with fail
                            go_loopw [32] (fun s32 wq => ∃ (i : Nat) (S7 : Sn) (A7 : Option Addr) (c7 : Nat), i ≤ ln ∧ s32 = .int .i64 ((sa : Int) + 1 + (i : Int)) ∧ Hid (Sd ((E + 1 : Nat) : Int) ((sa : Int) + (i : Nat)) (wd : Int) (wt : Int) S7 ∧ S7.a = sa) ∧ Hid (WkE w wq g6 gr S7 R A7 c7) ∧ Hid (TW wo wq)) (fun s32 _ => ((sa : Int) + 1 + ln - intOf s32).toNat)
                            case atStart => exact ⟨0, S6, none, 0, Nat.zero_le _, by go_num, M0, K6, T6⟩
                            case round =>
                              obtain ⟨i, S7, A7, c7, hi, rfl, HM, HK, HT⟩ := hrel
                              clear M0 K6 T6
                              by_cases h3 : i < ln
                              · have h3i : (sa : Int) + 1 + (i : Int) < (sa : Int) + (ln : Int) + 1 := by omega
                                have hil : (S7.L.length : Int) = i := by have := HM.out.1.p; have := HM.out.2; omega
                                obtain ⟨e1, e2, e3⟩ := put_ok HM.out.1 (by omega) (by omega)
                                have hcm : (sa : Int) + (i : Nat) + 1 = (sa : Int) + 1 + (i : Int) := by omega
                                rw [hcm] at e1 e2 e3
                                have HP := Lib.hid (fun (w8 : World) (h : WkE w w8 g6 gr S7 R A7 c7) => wk_put h HM.out.1.good (byteOf ((sa : Int) + 1 + (i : Int))) (by unfold byteOf; simp) e2 e1 rfl)
                                have h9 : (sa : Int) + (i + 1 : Nat) = (sa : Int) + 1 + (i : Int) := by omega
                                have M8 : Hid (Sd ((E + 1 : Nat) : Int) ((sa : Int) + (i + 1 : Nat)) (wd : Int) (wt : Int) (putV S7 (byteOf ((sa : Int) + 1 + (i : Int)))) ∧ (putV S7 (byteOf ((sa : Int) + 1 + (i : Int)))).a = sa) := Lib.hid ⟨by rw [h9]; exact e3, by rw [put_a]; exact HM.out.2⟩
                                clear h9
                                have hi64 : (i : Int) ≤ 64 := by omega
                                have hc := byte_conv wr ((sa : Int) + 1 + (i : Int)) (by omega) (by omega)
                                have b8 := fresh1 wr (.cells #[.int .u8 ((sa : Int) + 1 + (i : Int))] 5)
                                have K8 := Lib.hid (HK.out.more b8)
                                have T8 := Lib.hid (HT.out.trans (TW.of b8))
                                clear b8 e1 e2 e3 hcm hil
                                generalize putV S7 (byteOf ((sa : Int) + 1 + (i : Int))) = S8 at HP M8
                                generalize byteOf ((sa : Int) + 1 + (i : Int)) = bs at HP hc
                                go_wp2_with (go_at_call 27; (with_reducible refine (HP.out _ K8.out).mono ?_); rintro e w9 ⟨rfl, ⟨A9, c9, k9⟩, t9⟩; have K9 := Lib.hid k9; have T9 := Lib.hid (T8.out.trans t9); clear k9 t9 hc)
                                go_roundw
                                case rel => exact ⟨i + 1, S8, A9, c9, by omega, by go_num, M8, K9, T9⟩
                                case measure => simp [intOf]; omega
                              · obtain rfl : i = ln := by omega
                                have h3i : ¬ (sa : Int) + 1 + (i : Int) < (sa : Int) + (i : Int) + 1 := by omega
                                have O9 : Hid (On w wd wt gr wr (j + 1) (E + 1) p g6 S7 R A7 c7 Y A1 c1 V A2 c2) := Lib.hid (by
                                  have o := O6.out
                                  have r := Hr.out
                                  have hpp : (sa : Int) + (i : Nat) = p := HLP.out
                                  refine ⟨⟨by rw [← hpp]; exact HM.out.1, ?_⟩, HK.out, frame_tw o.y HT.out, frame_tw o.v HT.out, o.ne, o.yo.le (by omega) (Int.le_refl _), o.vo, by omega, by omega, by have := o.p1; omega, by have := o.yl; omega, by have := o.vl; omega⟩
                                  rw [HM.out.2]
                                  exact ⟨r.e0, by have := r.e1; omega, by have := r.lo; omega, r.hi, by omega⟩)
                                clear O6 HLP Hr HM HK HT O5 O4 R4
                                go_wp2_with fail
                                go_roundw
                                case rel => exact ⟨j + 1, E + 1, p, g6, S7, R, A7, c7, Y, A1, c1, V, A2, c2, by omega, by omega, by go_num, rfl, by go_num, rfl, rfl, rfl, O9⟩
                                case measure => simp [intOf]; omega
                        · have n7 : (ok == 7) = false := by simpa using q7
                          as_aux_lemma =>
                            go_wp2_with fail
                            go_roundw
                            case rel => exact ⟨j + 1, E, p, g, S, R, A, c, Y, A1, c1, V, A2, c2, by omega, by omega, by go_num, rfl, rfl, rfl, rfl, rfl, Lib.hid O4.out.next⟩
                            case measure => simp [intOf]; omega
        · have hj : j = 200 := by omega
          subst hj
          have h1i : (200 : Int) < (l.length : Int) := by omega
          go_wp2_with fail
          go_meet
          case rel => exact ⟨E, p, g, S, R, A, c, rfl, rfl, rfl, Lib.hid HO.out.m, Lib.hid HO.out.k, HO.out.e1, HO.out.p1⟩
      · have h1i : ¬ (j : Int) < (l.length : Int) := by omega
        go_wp2_with fail
        go_meet
        case rel => exact ⟨E, p, g, S, R, A, c, rfl, rfl, rfl, Lib.hid HO.out.m, Lib.hid HO.out.k, by have := HO.out.e1; omega, by have := HO.out.p1; omega⟩
  case rest => as_aux_lemma =>
      obtain ⟨E, p, g, S0, R0, A, c, rfl, rfl, rfl, HM0, HK0, hE, hp⟩ := hcut
      clear O0 HL
      have hpi : (p : Int) ≤ 200 := by omega
      have HF0 : Hid (S0.L.length = 0 ∨ far S0 + (0 : Nat) ≤ (p : Int) * 10 + 9) := Lib.hid (.inr (by have := HM0.out.s.farLe HDT.out.2.2; omega))
      go_wp2_with fail
      go_loopw [33] (fun i wq => ∃ (q : Nat) (S : Sn) (R : Rv), (q : Int) ≤ 20 * (p : Int) + 20 ∧ i = .int .i64 (q : Int) ∧ Hid (Rnd (E : Int) (p : Int) (wd : Int) (wt : Int) S R) ∧ Hid (WkE w wq g gr S R A c) ∧ Hid (S.L.length = 0 ∨ far S + (q : Nat) ≤ (p : Int) * 10 + 9)) (fun i _ => (20 * (p : Int) + 20 - intOf i).toNat)
      case atStart => exact ⟨0, S0, R0, by omega, rfl, HM0, HK0, HF0⟩
      case round =>
        obtain ⟨q, S, R, hq, rfl, HM, HK, HF⟩ := hrel
        clear HM0 HK0 HF0
        by_cases h1 : (q : Int) < 20 * (p : Int) + 20
        · have HTk := Lib.hid (wk_tick HK.out HM.out.s.good (V := tickV S) rfl)
          have HOu := Lib.hid (fun (w5 : World) (h : WkE w w5 g gr (tickV S) R A c) => wk_out h HM.out.s.tick.1.good (V := outV (tickV S)) (M := outL (tickV S)) rfl rfl)
          have hml : (outL (tickV S)).length ≤ 64 := by
            have := outL_len HM.out.s.tick.1.good
            have := HM.out.s.tick.1.good.l
            have := HM.out.s.tick.1.good.s0
            omega
          have HN := Lib.hid (fun (k : Nat) (x : It) (h : (outL (tickV S))[k]? = some x) => HM.out.s.tick.1.outs h)
          have M6 := Lib.hid HM.out.tick.out
          have D6 := Lib.hid (Mid.start (outV (tickV S)) (tickV S).s)
          have HFl := Lib.hid (fun (S' : Sn) (h' : Sd (E : Int) (p : Int) (wd : Int) (wt : Int) S') (hm : Mid (outV (tickV S)) (tickV S).s (outL (tickV S)).length S') => far_less HM.out.s h' HDT.out.2.2 hm)
          generalize outL (tickV S) = M at HOu HN HFl hml
          generalize outV (tickV S) = SO at HOu M6 D6 HFl
          generalize (tickV S).s = fs at HN D6 HFl
          generalize tickV S = ST at HTk HOu
          go_upto_region 66 with (first
            | (go_at_call 35; (with_reducible refine (HOu.out _ K5.out).mono ?_); rintro e w6 ⟨A3, c3, rfl, o6, k6, t6, -⟩; have K6 := Lib.hid k6; have U6 := Lib.hid o6; have Z6 : Hid ((∀ j, SnS g A j → j < w5.heap.size) ∧ gr < w5.heap.size) := Lib.hid ⟨fun j hj => (K5.out.s.sns hj).2, K5.out.r.inside⟩; clear o6 k6 t6)
            | (go_at_call 31; (with_reducible refine HTk.out.mono ?_); rintro e w5 ⟨rfl, k5, -, -⟩; have K5 := Lib.hid k5; clear k5))
          generalize w5.heap.size = zz at U6 Z6
          clear HTk HOu HK K5
          go_wp2_with fail
          go_loopw [35] (fun s35 wx => ∃ (k : Nat) (S1 : Sn) (R1 : Rv), k ≤ M.length ∧ s35 = .int .i64 (k : Int) ∧ Hid (Rnd (E : Int) (p : Int) (wd : Int) (wt : Int) S1 R1) ∧ Hid (Mid SO fs k S1) ∧ Hid (WkE w wx g gr S1 R1 A c) ∧ Hid (OwnG 85 2 cI wx zz (.slice A3 M.length c3) M)) (fun s35 _ => M.length - (intOf s35).toNat)
          case atStart => exact ⟨0, SO, R, Nat.zero_le _, rfl, M6, D6, K6, U6⟩
          case round =>
            obtain ⟨k, S1, R1, hk, rfl, HM1, HD1, HK1, HU1⟩ := hrel
            clear M6 D6 K6 U6
            by_cases h2 : k < M.length
            · have h2i : (k : Int) < (M.length : Int) := by omega
              have hmi : (M.length : Int) ≤ 64 := by omega
              obtain ⟨bo, rfl⟩ := own_some HU1.out (by omega)
              obtain ⟨x, hx⟩ : ∃ x, M[k]? = some x := ⟨_, List.getElem?_eq_getElem h2⟩
              obtain ⟨-, hx1, hx2, hx3⟩ := HN.out k x hx
              have hf := (own_flat HU1.out).2.2.2.2 (k * 2 + 0) _ ((flatG_at cellsI M k x 0 hx (by omega)).trans rfl)
              have z0 : wr.cell? ⟨bo, k * 2, none⟩ = some (.int .i64 x.n) := hf.1
              have y0 : wr.frozen? ⟨bo, k * 2, none⟩ = false := hf.2
              obtain ⟨s1, s2, s3⟩ := HM1.out.step hx3
              have hd := HD1.out.step HM1.out hx3 hx1
              have r0 := HM1.out.r
              have HTa := Lib.hid (wk_take HK1.out (by have := r0.lo; have := r0.a0; omega) (by have := r0.hi; omega) (E : Int) x.n rfl rfl)
              have HLa := Lib.hid (fun (w8 : World) (h : WkE w w8 g gr S1 (takeV R1 (E : Int) x.n) A c) => wk_last h)
              have HAk := Lib.hid (fun (w8 : World) (h : WkE w w8 g gr S1 (takeV R1 (E : Int) x.n) A c) => wk_ack h HM1.out.s.good (takeV R1 (E : Int) x.n).e (takeV R1 (E : Int) x.n).l rfl rfl)
              have M9 := Lib.hid s1
              have D9 := Lib.hid hd
              clear s1 s2 s3 hd hf r0 hx hx1 hx2 hx3
              generalize ackV S1 (takeV R1 (E : Int) x.n).e (takeV R1 (E : Int) x.n).l = S9 at HAk M9 D9
              generalize ackB S1 (takeV R1 (E : Int) x.n).e (takeV R1 (E : Int) x.n).l = ab at HAk
              generalize takeV R1 (E : Int) x.n = R9 at HTa HLa HAk M9
              generalize takeB R1 (E : Int) x.n = tb at HTa
              go_wp2_with (first
                | (go_at_call 29; (with_reducible refine (HAk.out _ K8.out).mono ?_); rintro e w9 ⟨rfl, k9, t9, -⟩; have K9 := Lib.hid k9; have U9 := Lib.hid (own_turn U8.out t9 Z6.out.1); clear k9 t9)
                | (go_at_call 41; (with_reducible refine (HLa.out _ K7.out).mono ?_); rintro e w8 ⟨rfl, k8, b8⟩; have K8 := Lib.hid k8; have U8 := Lib.hid (U7.out.below b8); clear k8 b8)
                | (go_at_call 42; (with_reducible refine HTa.out.mono ?_); rintro e w7 ⟨rfl, k7, t7, -⟩; have K7 := Lib.hid k7; have U7 := Lib.hid (own_turn HU1.out t7 (fun j e => by subst e; exact Z6.out.2)); clear k7 t7 z0 y0))
              go_roundw
              case rel => exact ⟨k + 1, S9, R9, by omega, by go_num, M9, D9, K9, U9⟩
              case measure => simp [intOf]; omega
            · obtain rfl : k = M.length := by omega
              have h2i : ¬ (M.length : Int) < (M.length : Int) := by omega
              have hmi : (M.length : Int) ≤ 64 := by omega
              have F9 : Hid (S1.L.length = 0 ∨ far S1 + (q + 1 : Nat) ≤ (p : Int) * 10 + 9) := Lib.hid (by
                rcases HFl.out S1 HM1.out.s HD1.out with ⟨-, h⟩ | ⟨h, h'⟩
                · exact .inl h
                · rcases HF.out with h0 | h0
                  · omega
                  · exact .inr (by omega))
              clear HFl HD1 HU1 HN
              go_wp2_with fail
              go_roundw
              case rel => exact ⟨q + 1, S1, R1, by omega, by go_num, HM1, HK1, F9⟩
              case measure => simp [intOf]; omega
        · have hm := HM.out.s
          have hr := HM.out.r
          have hl0 : S.L.length = 0 := by
            rcases HF.out with h0 | h0
            · exact h0
            · have h5 := hm.good.k1
              unfold far at h0
              omega
          have hSa : S.a = p := by have := hm.p; omega
          have hRl : R.l = p := by have := hr.lo; have := hr.hi; omega
          have HLa := Lib.hid (wk_last HK.out)
          rw [hRl] at HLa
          have HSt := Lib.hid (fun (w5 : World) (h : WkE w w5 g gr S R A c) => wk_state h hm.good)
          rw [hSa, hl0] at HSt
          generalize nextV S = nx at HSt
          clear hm hr hl0 hSa hRl HF
          go_wp2_with (first
            | (go_at_call 37; (with_reducible refine (HSt.out _ K5.out).mono ?_); rintro e w6 ⟨rfl, k6, -⟩; have K6 := Lib.hid k6; clear k6)
            | (go_at_call 41; (with_reducible refine HLa.out.mono ?_); rintro e w5 ⟨rfl, k5, -⟩; have K5 := Lib.hid k5; clear k5))
          go_ret
          exact ⟨rfl, K6.out.below⟩
end
end Go.Proofs.Ytbomlapmoiamgaa.hop
