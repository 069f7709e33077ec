/-
  The walk of HopSends (by mkws.py, wx.py).
-/
import Derived.Test.YtbomlapmoiamgaaSs0
import Derived.Deep.CutRange
import Derived.Deep.CutBlock
import Derived.LoopTactic
set_option linter.unusedSimpArgs false
set_option linter.unusedVariables false
namespace Go.Proofs.Ytbomlapmoiamgaa.hop
open Go.ChangeShapes Go.WideShapes Go.ChangeAt Go.RowKit
open Go.Proofs.Ytbomlapmoiamgaa.opened Go.Proofs.Ytbomlapmoiamgaa.block Go.Proofs.Ytbomlapmoiamgaa.words Go.Proofs.Ytbomlapmoiamgaa.region
section
variable {w : World}
set_option maxRecDepth 100000 in
set_option maxHeartbeats 16000000 in
theorem walkSends (ep ac wi wt : Int) (A : Option Addr) (c : Nat) (l : List Oh) (hl : l.length ≤ 4611686018427387903) (hL : acthRow w A l) :
    Calls Try.prog 5 #[.int .i64 ep, .int .i64 ac, .int .i64 wi, .int .i64 wt, .slice A l.length c] w fun e w' => e = .returned (.bool true) ∧ Below w.heap.size w w' := by
  have HL := Lib.hid hL
  clear hL
  by_cases hok : NewOk ep ac wi wt
  · have HN := Lib.hid (newS_good (w := w) hok)
    have HM := Lib.hid fun (w1 : World) => newRS_good (w := w1) hok
    have M0 := Lib.hid (good_new hok)
    clear hok
    go_enter Try.func5, Try.ntmps5
    go_upto_region 2 with (go_at_call 25; (with_reducible refine HN.out.mono ?_); rintro e w3 ⟨ga, rfl, b3, s3⟩; have B3 := Lib.hid b3; have S3 := Lib.hid s3; clear b3 s3)
    go_upto_region 3 with (go_at_call 26; (with_reducible refine (HM.out w3).mono ?_); rintro e w4 ⟨gb, rfl, b4, s4⟩; have C4 : Hid (Ds w ga gb w4 (newV ep ac wi wt)) := Lib.hid ⟨M0.out, SP.below ⟨_, _, S3.out⟩ b4, ⟨_, s4.cell, (show RowO w4 w.heap.size (.slice none 0 0) (newV ep ac wi wt).L from rowO_nil _ _), Nat.le_trans B3.out.size s4.low⟩, then_below B3.out b4⟩; clear b4 s4)
    clear HN HM M0 B3 S3
    generalize newV ep ac wi wt = S0 at C4
    go_upto_block 0 with fail
    go_wp2_with fail
    go_loopw [15] (fun i wr => ∃ (j : Nat) (S : Sn), j ≤ l.length ∧ j ≤ 150 ∧ i = .int .i64 (j : Int) ∧ Hid (Ds w ga gb wr S)) (fun i _ => l.length - (intOf i).toNat)
    case atStart => exact ⟨0, S0, Nat.zero_le _, Nat.zero_le _, rfl, C4⟩
    case round => as_aux_lemma =>
      obtain ⟨j, S, hjl, hj2, rfl, HC⟩ := hrel
      clear C4
      by_cases h1 : j < l.length
      · by_cases h2 : j < 150
        · have h1i : (j : Int) < (l.length : Int) := by omega
          have h2i : (j : Int) < 150 := by omega
          obtain ⟨o, ho⟩ : ∃ o, l[j]? = some o := ⟨_, List.getElem?_eq_getElem h1⟩
          obtain ⟨b', off, hA, hbi, hcl⟩ := (HL.out.1.below HC.out.h).cells ho
          subst hA
          have c0 : wr.cell? ⟨b', off + j * 4, none⟩ = some (.int .i64 o.k) := hcl 0 (by show (0 : Nat) < 4; omega)
          have c1 : wr.cell? ⟨b', off + j * 4 + 1, none⟩ = some (sV o.s) := hcl 1 (by show (1 : Nat) < 4; omega)
          have c2 : wr.cell? ⟨b', off + j * 4 + 2, none⟩ = some (.int .i64 o.e) := hcl 2 (by show (2 : Nat) < 4; omega)
          have c3 : wr.cell? ⟨b', off + j * 4 + 3, none⟩ = some (.int .i64 o.n) := hcl 3 (by show (3 : Nat) < 4; omega)
          have hos := (HL.out.2 o (List.mem_of_getElem? ho)).2.1
          clear hcl ho hbi
          go_upto_region 9 with fail
          change Code.wp _ _ _ _ (wr.alloc (.cells #[.int .i64 o.k, sV o.s, .int .i64 o.e, .int .i64 o.n] 63))
          have b4 := fresh1 wr (.cells #[.int .i64 o.k, sV o.s, .int .i64 o.e, .int .i64 o.n] 63)
          have C5 := Lib.hid (HC.out.more b4)
          have X5 := Lib.hid (Whole.fresh wr 63 #[.int .i64 o.k, sV o.s, .int .i64 o.e, .int .i64 o.n])
          clear b4 c0 c1 c2 c3 HC
          generalize wr.alloc (.cells #[.int .i64 o.k, sV o.s, .int .i64 o.e, .int .i64 o.n] 63) = w5 at C5 X5 ⊢
          generalize wr.heap.size = go at X5 ⊢
          have x0 : w5.cell? ⟨go, 0, none⟩ = some (.int .i64 o.k) := X5.out.read 0
          have x1 : w5.cell? ⟨go, 1, none⟩ = some (sV o.s) := X5.out.read 1
          by_cases h8 : 7000 < o.s.length
          · have h8i : (7000 : Int) < (o.s.length : Int) := by omega
            go_wp2_with fail
            go_ret
            exact ⟨rfl, C5.out.h⟩
          · have h8i : ¬ (7000 : Int) < (o.s.length : Int) := by omega
            obtain ⟨ok, hok⟩ : ∃ ok, ok = o.k := ⟨_, rfl⟩
            rw [← hok] at x0
            clear hok
            go_upto_block 2 with fail
            clear h8
            go_cut [17, 18, 19, 20] from 80 to 133 (fun _ _ _ _ wx => ∃ (S : Sn), Hid (Ds w ga gb wx S))
            case first => as_aux_lemma =>
              by_cases q0 : ok = 0
              · subst q0
                have HCP := Lib.hid (fun (w8 : World) (h : SP w.heap.size w8 ga S) => s_put h C5.out.m o.s hos)
                have HCR := Lib.hid (fun (w8 : World) (h : RnP w.heap.size w8 gb S) => q_put h C5.out.m o.s)
                have M5 := Lib.hid (C5.out.m.put o.s)
                have HX1 := Lib.hid (fun (w8 : World) (k : WH w.heap.size w5 w8) => ((show Whole w8 go 63 #[.int .i64 o.k, sV o.s, .int .i64 o.e, .int .i64 o.n] from k.keep go _ X5.out (wan.not_wobj (by decide) (by decide))).read 1 : w8.cell? ⟨go, 1, none⟩ = some (sV o.s)))
                generalize putV S o.s = V at HCP HCR M5
                generalize putN S o.s = pn at HCP HCR
                generalize putE S o.s = pe at HCP HCR
                go_wp2_with (first
                  | (go_at_call 28; (with_reducible refine (HCR.out _ R6.out).mono ?_); rintro e w7 ⟨rfl, p7, q7⟩; have C7 : Hid (Ds w ga gb w7 V) := Lib.hid ⟨M5.out, SP.wr P6.out q7, p7, B6.out.trans q7.below⟩; clear p7 q7 z1)
                  | (go_at_call 27; (with_reducible refine (HCP.out _ C5.out.p).mono ?_); rintro e w6 ⟨rfl, p6, q6⟩; have P6 := Lib.hid p6; have R6 := Lib.hid (RnP.wh C5.out.r q6); have B6 := Lib.hid (C5.out.h.trans q6.below); have z1 := HX1.out w6 q6; clear p6 q6 x1))
                go_meet
                case rel => exact ⟨V, C7⟩
              · have n0 : (ok == 0) = false := by simpa using q0
                by_cases q1 : ok = 1
                · subst q1
                  have HCP := Lib.hid (fun (w8 : World) (h : SP w.heap.size w8 ga S) => s_acked h C5.out.m o.e o.n)
                  have HCR := Lib.hid (fun (w8 : World) (h : RnP w.heap.size w8 gb S) => q_acked h C5.out.m o.e o.n)
                  have M5 := Lib.hid (C5.out.m.ack o.e o.n)
                  generalize ackV S o.e o.n = V at HCP HCR M5
                  generalize ackB S o.e o.n = ab at HCP HCR
                  go_upto_region 20 with fail
                  clear x0 x1
                  refine wp_frame ?_
                  intro a9 ha9
                  have hN9 : a9.tmps.size = 161 := by rw [ha9]; rfl
                  have e11 : a9.eval (.tmp 11) = .pointer (some ⟨ga, 0, none⟩) := by rw [ha9]; rfl
                  have e13 : a9.eval (.tmp 13) = .pointer (some ⟨gb, 0, none⟩) := by rw [ha9]; rfl
                  have e16 : a9.eval (.tmp 16) = .pointer (some ⟨go, 0, none⟩) := by rw [ha9]; rfl
                  have HA9 := Lib.hid ha9
                  clear ha9
                  refine region_fullZ 161 [] [] [] (fun k => k == 5 || k == 11) (fun w7 => W2 w.heap.size w5 w7) ?hR ?r0 [pdOne 0 (Is (.pointer (some ⟨ga, 0, none⟩))), pdOne 1 (Is (.pointer (some ⟨go, 2, none⟩))), pdOne 2 (Is (.int .i64 o.e)), pdOne 3 (Is (.pointer (some ⟨go, 3, none⟩))), pdOne 4 (Is (.int .i64 o.n)), pdOne 5 (TelS w.heap.size ga V ab), pdOne 6 (Is (.pointer (some ⟨gb, 0, none⟩))), pdOne 7 (Is (.pointer (some ⟨go, 2, none⟩))), pdOne 8 (Is (.int .i64 o.e)), pdOne 9 (Is (.pointer (some ⟨go, 3, none⟩))), pdOne 10 (Is (.int .i64 o.n)), pdOne 11 (TelQ w.heap.size gb V ab), pdOne 12 (Is (.bool false))] (fun k w7 => (k = 5 → SP w.heap.size w7 ga S) ∧ (k = 11 → RnP w.heap.size w7 gb S)) (by kernel_rfl) hN9 (by kernel_rfl) (by kernel_rfl) (by kernel_rfl) (by kernel_rfl) (by kernel_rfl) ?keep ?hO ?h0 ?tell
                  case hR => exact fun w7 w8 hb h => h.later hb (Nat.le_trans C5.out.h.size h.below.size)
                  case r0 => exact W2.refl _ _
                  case keep => exact ⟨keep_one (keeps_is _), keep_one (keeps_is _), keep_one (keeps_is _), keep_one (keeps_is _), keep_one (keeps_is _), keep_one (keeps_telS _ _ _ _), keep_one (keeps_is _), keep_one (keeps_is _), keep_one (keeps_is _), keep_one (keeps_is _), keep_one (keeps_is _), keep_one (keeps_telQ _ _ _ _), keep_one (keeps_is _), trivial⟩
                  case hO => exact fun k w7 w8 hb ⟨h1, h2⟩ => ⟨fun e => (h1 e).below hb, fun e => (h2 e).below hb⟩
                  case h0 => exact fun k _ => ⟨fun _ => C5.out.p, fun _ => C5.out.r⟩
                  case tell =>
                    intro fin hfin
                    apply And.intro
                    case' left => (simp only [TellZ]; refine ⟨?_, ?_, ?_, ?_, ?_, ?_, ?_, ?_, ?_, ?_, ?_, ?_, ?_, trivial⟩)
                    · intro v2 w7 hr hd
                      refine ⟨(fun j b h => nomatch h), ?_⟩
                      refine yields_run (u := .pointer (some ⟨ga, 0, none⟩)) (w' := w7) ?_ (Below.refl _ _) rfl
                      unfold execOp
                      (try simp only [List.map_toArray, List.map_cons, List.map_nil, ev_ne, ev_eq, ev_const, put_size, hN9, ne_eq, Nat.reduceEqDiff, not_false_eq_true, Nat.reduceLT, e11, e13, e16])
                      (try simp [go_sem])
                    · intro v2 w7 hr hd
                      refine ⟨(fun j b h => nomatch h), ?_⟩
                      refine yields_run (u := .pointer (some ⟨go, 2, none⟩)) (w' := w7) ?_ (Below.refl _ _) rfl
                      unfold execOp
                      (try simp only [List.map_toArray, List.map_cons, List.map_nil, ev_ne, ev_eq, ev_const, put_size, hN9, ne_eq, Nat.reduceEqDiff, not_false_eq_true, Nat.reduceLT, e11, e13, e16])
                      (try simp [go_sem])
                    · intro v2 w7 hr hd
                      have h1 : v2 1 = .pointer (some ⟨go, 2, none⟩) := hd 1 (by kernel_rfl)
                      refine ⟨(fun j b h => nomatch h), ?_⟩
                      have hx : w7.cell? ⟨go, 2, none⟩ = some (.int .i64 o.e) := (whole_w2 X5.out hr (by decide) (by decide) (by decide) (by decide)).read 2
                      refine yields_run (u := .int .i64 o.e) (w' := w7) ?_ (Below.refl _ _) rfl
                      unfold execOp
                      (try simp only [List.map_toArray, List.map_cons, List.map_nil, ev_ne, ev_eq, ev_const, put_size, hN9, ne_eq, Nat.reduceEqDiff, not_false_eq_true, Nat.reduceLT, e11, e13, e16, h1])
                      (try simp [go_sem, hx])
                    · intro v2 w7 hr hd
                      refine ⟨(fun j b h => nomatch h), ?_⟩
                      refine yields_run (u := .pointer (some ⟨go, 3, none⟩)) (w' := w7) ?_ (Below.refl _ _) rfl
                      unfold execOp
                      (try simp only [List.map_toArray, List.map_cons, List.map_nil, ev_ne, ev_eq, ev_const, put_size, hN9, ne_eq, Nat.reduceEqDiff, not_false_eq_true, Nat.reduceLT, e11, e13, e16])
                      (try simp [go_sem])
                    · intro v2 w7 hr hd
                      have h3 : v2 3 = .pointer (some ⟨go, 3, none⟩) := hd 3 (by kernel_rfl)
                      refine ⟨(fun j b h => nomatch h), ?_⟩
                      have hx : w7.cell? ⟨go, 3, none⟩ = some (.int .i64 o.n) := (whole_w2 X5.out hr (by decide) (by decide) (by decide) (by decide)).read 3
                      refine yields_run (u := .int .i64 o.n) (w' := w7) ?_ (Below.refl _ _) rfl
                      unfold execOp
                      (try simp only [List.map_toArray, List.map_cons, List.map_nil, ev_ne, ev_eq, ev_const, put_size, hN9, ne_eq, Nat.reduceEqDiff, not_false_eq_true, Nat.reduceLT, e11, e13, e16, h3])
                      (try simp [go_sem, hx])
                    · intro v2 w7 hr ho hd
                      have h0 : v2 0 = .pointer (some ⟨ga, 0, none⟩) := hd 0 (by kernel_rfl)
                      have h2 : v2 2 = .int .i64 o.e := hd 2 (by kernel_rfl)
                      have h4 : v2 4 = .int .i64 o.n := hd 4 (by kernel_rfl)
                      refine ⟨(fun j b h => nomatch h), ?_⟩
                      refine .inl (yieldsW_callR (f := 29) rfl (vs := #[.pointer (some ⟨ga, 0, none⟩), .int .i64 o.e, .int .i64 o.n]) (by simp only [List.map_toArray, List.map_cons, List.map_nil, ev_ne, ev_eq, ev_const, put_size, hN9, ne_eq, Nat.reduceEqDiff, not_false_eq_true, Nat.reduceLT, e11, e13, e16, h0, h2, h4]) rfl Try.func29 (by kernel_rfl) (by kernel_rfl) ?_)
                      refine (HCP.out w7 (ho.1 trivial)).mono fun e1 w8 ⟨he, p8, q8⟩ => ⟨_, he, hr.trans (W2.p q8), ?_, ?_, rfl, p8⟩
                      · intro k2 v' hk2 hc hu
                        exact match k2, hk2, hc, hu with
                          | 0, _, _, hu => hu
                          | 1, _, _, hu => hu
                          | 2, _, _, hu => hu
                          | 3, _, _, hu => hu
                          | 4, _, _, hu => hu
                          | 5, hk2, _, _ => absurd rfl hk2
                          | 6, _, _, hu => hu
                          | 7, _, _, hu => hu
                          | 8, _, _, hu => hu
                          | 9, _, _, hu => hu
                          | 10, _, _, hu => hu
                          | 11, _, _, hu => ⟨hu.1, RnP.wh hu.2 q8⟩
                          | 12, _, _, hu => hu
                          | _ + 13, _, _, _ => trivial
                      · intro k2 hk2 hn hc2 ⟨h1, h2⟩
                        exact ⟨fun e => absurd e hk2, fun e => RnP.wh (h2 e) q8⟩
                    · intro v2 w7 hr hd
                      refine ⟨(fun j b h => nomatch h), ?_⟩
                      refine yields_run (u := .pointer (some ⟨gb, 0, none⟩)) (w' := w7) ?_ (Below.refl _ _) rfl
                      unfold execOp
                      (try simp only [List.map_toArray, List.map_cons, List.map_nil, ev_ne, ev_eq, ev_const, put_size, hN9, ne_eq, Nat.reduceEqDiff, not_false_eq_true, Nat.reduceLT, e11, e13, e16])
                      (try simp [go_sem])
                    · intro v2 w7 hr hd
                      refine ⟨(fun j b h => nomatch h), ?_⟩
                      refine yields_run (u := .pointer (some ⟨go, 2, none⟩)) (w' := w7) ?_ (Below.refl _ _) rfl
                      unfold execOp
                      (try simp only [List.map_toArray, List.map_cons, List.map_nil, ev_ne, ev_eq, ev_const, put_size, hN9, ne_eq, Nat.reduceEqDiff, not_false_eq_true, Nat.reduceLT, e11, e13, e16])
                      (try simp [go_sem])
                    · intro v2 w7 hr hd
                      have h7 : v2 7 = .pointer (some ⟨go, 2, none⟩) := hd 7 (by kernel_rfl)
                      refine ⟨(fun j b h => nomatch h), ?_⟩
                      have hx : w7.cell? ⟨go, 2, none⟩ = some (.int .i64 o.e) := (whole_w2 X5.out hr (by decide) (by decide) (by decide) (by decide)).read 2
                      refine yields_run (u := .int .i64 o.e) (w' := w7) ?_ (Below.refl _ _) rfl
                      unfold execOp
                      (try simp only [List.map_toArray, List.map_cons, List.map_nil, ev_ne, ev_eq, ev_const, put_size, hN9, ne_eq, Nat.reduceEqDiff, not_false_eq_true, Nat.reduceLT, e11, e13, e16, h7])
                      (try simp [go_sem, hx])
                    · intro v2 w7 hr hd
                      refine ⟨(fun j b h => nomatch h), ?_⟩
                      refine yields_run (u := .pointer (some ⟨go, 3, none⟩)) (w' := w7) ?_ (Below.refl _ _) rfl
                      unfold execOp
                      (try simp only [List.map_toArray, List.map_cons, List.map_nil, ev_ne, ev_eq, ev_const, put_size, hN9, ne_eq, Nat.reduceEqDiff, not_false_eq_true, Nat.reduceLT, e11, e13, e16])
                      (try simp [go_sem])
                    · intro v2 w7 hr hd
                      have h9 : v2 9 = .pointer (some ⟨go, 3, none⟩) := hd 9 (by kernel_rfl)
                      refine ⟨(fun j b h => nomatch h), ?_⟩
                      have hx : w7.cell? ⟨go, 3, none⟩ = some (.int .i64 o.n) := (whole_w2 X5.out hr (by decide) (by decide) (by decide) (by decide)).read 3
                      refine yields_run (u := .int .i64 o.n) (w' := w7) ?_ (Below.refl _ _) rfl
                      unfold execOp
                      (try simp only [List.map_toArray, List.map_cons, List.map_nil, ev_ne, ev_eq, ev_const, put_size, hN9, ne_eq, Nat.reduceEqDiff, not_false_eq_true, Nat.reduceLT, e11, e13, e16, h9])
                      (try simp [go_sem, hx])
                    · intro v2 w7 hr ho hd
                      have h6 : v2 6 = .pointer (some ⟨gb, 0, none⟩) := hd 6 (by kernel_rfl)
                      have h8 : v2 8 = .int .i64 o.e := hd 8 (by kernel_rfl)
                      have h10 : v2 10 = .int .i64 o.n := hd 10 (by kernel_rfl)
                      refine ⟨(fun j b h => nomatch h), ?_⟩
                      refine .inl (yieldsW_callR (f := 30) rfl (vs := #[.pointer (some ⟨gb, 0, none⟩), .int .i64 o.e, .int .i64 o.n]) (by simp only [List.map_toArray, List.map_cons, List.map_nil, ev_ne, ev_eq, ev_const, put_size, hN9, ne_eq, Nat.reduceEqDiff, not_false_eq_true, Nat.reduceLT, e11, e13, e16, h6, h8, h10]) rfl Try.func30 (by kernel_rfl) (by kernel_rfl) ?_)
                      refine (HCR.out w7 (ho.2 trivial)).mono fun e1 w8 ⟨he, p8, q8⟩ => ⟨_, he, hr.trans (W2.r q8), ?_, ?_, rfl, p8⟩
                      · intro k2 v' hk2 hc hu
                        exact match k2, hk2, hc, hu with
                          | 0, _, _, hu => hu
                          | 1, _, _, hu => hu
                          | 2, _, _, hu => hu
                          | 3, _, _, hu => hu
                          | 4, _, _, hu => hu
                          | 5, _, _, hu => ⟨hu.1, SP.wr hu.2 q8⟩
                          | 6, _, _, hu => hu
                          | 7, _, _, hu => hu
                          | 8, _, _, hu => hu
                          | 9, _, _, hu => hu
                          | 10, _, _, hu => hu
                          | 11, hk2, _, _ => absurd rfl hk2
                          | 12, _, _, hu => hu
                          | _ + 13, _, _, _ => trivial
                      · intro k2 hk2 hn hc2 ⟨h1, h2⟩
                        exact ⟨fun e => SP.wr (h1 e) q8, fun e => absurd e hk2⟩
                    · intro v2 w7 hr hd
                      have hq5 := hd 5 (by kernel_rfl)
                      have h5 : v2 5 = .bool ab := hq5.1
                      have hq11 := hd 11 (by kernel_rfl)
                      have h11 : v2 11 = .bool ab := hq11.1
                      refine ⟨(fun j b h => nomatch h), ?_⟩
                      refine yields_run (u := .bool false) (w' := w7) ?_ (Below.refl _ _) rfl
                      unfold execOp
                      (try simp only [List.map_toArray, List.map_cons, List.map_nil, ev_ne, ev_eq, ev_const, put_size, hN9, ne_eq, Nat.reduceEqDiff, not_false_eq_true, Nat.reduceLT, e11, e13, e16, h5, h11])
                      (try simp [go_sem])
                    · intro v2 w6 hr hv
                      obtain ⟨-, hP⟩ : TelS w.heap.size ga V ab (v2 5) w6 := hv 5 (by decide) (by decide)
                      obtain ⟨-, hRR⟩ : TelQ w.heap.size gb V ab (v2 11) w6 := hv 11 (by decide) (by decide)
                      have hz : v2 12 = .bool false := hv 12 (by decide) (by decide)
                      have C6 : Hid (Ds w ga gb w6 V) := Lib.hid ⟨M5.out, hP, hRR, C5.out.h.trans hr.below⟩
                      have hf := hfin v2
                      rw [HA9.out] at hf
                      simp [lexPut, Act.put, hz] at hf
                      rw [hf]
                      clear hf HA9 hN9 e11 e13 e16 hfin
                      clear hP hRR hz hv hr C5 X5 HCP HCR M5
                      go_wp2_with fail
                      go_meet
                      case rel => exact ⟨V, C6⟩
                · have n1 : (ok == 1) = false := by simpa using q1
                  by_cases q2 : ok = 2
                  · subst q2
                    have HCP := Lib.hid (fun (w8 : World) (h : SP w.heap.size w8 ga S) => s_tick h C5.out.m)
                    have HCR := Lib.hid (fun (w8 : World) (h : RnP w.heap.size w8 gb S) => q_tick h C5.out.m)
                    have M5 := Lib.hid C5.out.m.tick
                    generalize tickV S = V at HCP HCR M5
                    go_wp2_with (first
                      | (go_at_call 32; (with_reducible refine (HCR.out _ R6.out).mono ?_); rintro e w7 ⟨rfl, p7, q7⟩; have C7 : Hid (Ds w ga gb w7 V) := Lib.hid ⟨M5.out, SP.wr P6.out q7, p7, B6.out.trans q7.below⟩; clear p7 q7)
                      | (go_at_call 31; (with_reducible refine (HCP.out _ C5.out.p).mono ?_); rintro e w6 ⟨rfl, p6, q6⟩; have P6 := Lib.hid p6; have R6 := Lib.hid (RnP.wh C5.out.r q6); have B6 := Lib.hid (C5.out.h.trans q6.below); clear p6 q6))
                    go_meet
                    case rel => exact ⟨V, C7⟩
                  · have n2 : (ok == 2) = false := by simpa using q2
                    have hol : (outL S).length ≤ 64 := by
                      have := outL_len C5.out.m
                      have := C5.out.m.l
                      have := C5.out.m.s0
                      omega
                    have HCP := Lib.hid (fun (w8 : World) (h : SP w.heap.size w8 ga S) => s_out h C5.out.m)
                    have HCR := Lib.hid (fun (w8 : World) (h : RnP w.heap.size w8 gb S) => q_out h C5.out.m)
                    have M5 := Lib.hid C5.out.m.out
                    generalize outL S = M at HCP HCR hol
                    generalize outV S = V at HCP HCR M5
                    go_wp2_with (first
                      | (go_at_call 33; (with_reducible refine (sameR_any F8.out N8.out hol).mono ?_); rintro e w9 ⟨rfl, b9⟩; have C9 := Lib.hid (C8.out.more b9); clear b9)
                      | (go_at_call 36; (with_reducible refine (HCR.out _ R7.out).mono ?_); rintro e w8 ⟨A8, c8, rfl, n8, p8, q8, t8⟩; have N8 := Lib.hid n8; have C8 : Hid (Ds w ga gb w8 V) := Lib.hid ⟨M5.out, SP.wr P7.out q8, p8, B7.out.trans q8.below⟩; have F8 := Lib.hid (own_side F7.out R7.out t8); clear n8 p8 q8 t8)
                      | (go_at_call 34; (with_reducible refine (fromR_any O6.out hol).mono ?_); rintro e w7 ⟨A7, c7, rfl, f7, b7⟩; have F7 := Lib.hid f7; have P7 := Lib.hid (P6.out.below b7); have R7 := Lib.hid (R6.out.below b7); have B7 := Lib.hid (B6.out.trans (b7.mono B6.out.size)); clear f7 b7)
                      | (go_at_call 35; (with_reducible refine (HCP.out _ C5.out.p).mono ?_); rintro e w6 ⟨A6, c6, rfl, o6, p6, q6⟩; have O6 := Lib.hid o6; have P6 := Lib.hid p6; have R6 := Lib.hid (RnP.wh C5.out.r q6); have B6 := Lib.hid (C5.out.h.trans q6.below); clear o6 p6 q6))
                    go_meet
                    case rel => exact ⟨V, C9⟩
            case rest => as_aux_lemma =>
              obtain ⟨S9, HC9⟩ := hcut
              clear C5 X5 x0 x1
              have HSt := Lib.hid (s_state HC9.out.p HC9.out.m)
              have HNx := Lib.hid (fun (w8 : World) (h : RnP w.heap.size w8 gb S9) => q_next h HC9.out.m)
              have hll : (S9.L.length : Int) ≤ 64 := by have := HC9.out.m.l; omega
              obtain ⟨sa, hsa⟩ : ∃ sa, sa = S9.a := ⟨_, rfl⟩
              obtain ⟨nx, hnx⟩ : ∃ nx, nx = nextV S9 := ⟨_, rfl⟩
              obtain ⟨ln, hln⟩ : ∃ ln, ln = S9.L.length := ⟨_, rfl⟩
              have HCE : Hid (∀ w8, RnP w.heap.size w8 gb S9 → w8.cell? ⟨gb, 1, none⟩ = some (.int .i64 sa) ∧ ∃ A8 c8, w8.cell? ⟨gb, 3, none⟩ = some (.slice A8 ln c8)) := Lib.hid fun w8 ⟨v, h⟩ => by
                obtain ⟨A8, c8, hv⟩ := h.row.shape
                subst hv
                rw [hsa, hln]
                exact ⟨h.cell.read 1, A8, c8, h.cell.read 3⟩
              rw [← hsa, ← hnx, ← hln] at HSt
              rw [← hnx] at HNx
              rw [← hln] at hll
              clear hsa hnx hln
              go_upto_region 26 with (go_at_call 37; (with_reducible refine HSt.out.mono ?_); rintro e w6 ⟨rfl, b6⟩; have C6 := Lib.hid (HC9.out.more b6); clear b6)
              obtain ⟨y1, A8, c8, y3⟩ := HCE.out w6 C6.out.r
              go_wp2_with (go_at_call 38; (with_reducible refine (HNx.out _ C6.out.r).mono ?_); rintro e w7 ⟨rfl, b7⟩; have C7 := Lib.hid (C6.out.more b7); obtain ⟨q1, A9, c9, q3⟩ := HCE.out w7 C7.out.r; clear b7 y1 y3)
              go_roundw
              case rel => exact ⟨j + 1, S9, by omega, by omega, by go_num, C7⟩
              case measure => simp [intOf]; omega
        · have hj : j = 150 := by omega
          subst hj
          have h1i : (150 : Int) < (l.length : Int) := by omega
          go_wp2_with fail
          go_ret
          exact ⟨rfl, HC.out.h⟩
      · have h1i : ¬ (j : Int) < (l.length : Int) := by omega
        go_wp2_with fail
        go_ret
        exact ⟨rfl, HC.out.h⟩
  · have HN := Lib.hid (newS_bad (w := w) hok)
    have HM := Lib.hid fun (w1 : World) => newRS_bad (w := w1) hok
    clear hok
    go_enter Try.func5, Try.ntmps5
    go_wp2_with (first
      | (go_at_call 26; (with_reducible refine (HM.out w3).mono ?_); rintro e w5 ⟨rfl, b5⟩; have B5 := Lib.hid (then_below B3.out b5); clear b5)
      | (go_at_call 25; (with_reducible refine HN.out.mono ?_); rintro e w3 ⟨rfl, b3⟩; have B3 := Lib.hid b3; clear b3))
    go_ret
    exact ⟨rfl, B5.out⟩
end
end Go.Proofs.Ytbomlapmoiamgaa.hop
