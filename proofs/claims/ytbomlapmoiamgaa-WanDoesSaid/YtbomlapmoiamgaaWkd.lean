/-
  The walk of WanDoes (by mkwd.py, wx.py).
-/
import Derived.Test.YtbomlapmoiamgaaXd0
import Derived.Test.YtbomlapmoiamgaaHix
import Derived.Test.YtbomlapmoiamgaaFb
set_option linter.unusedSimpArgs false
set_option linter.unusedVariables false
namespace Go.Proofs.Ytbomlapmoiamgaa.wan
open Go.ChangeShapes Go.WideShapes Go.ChangeAt Go.RowKit
open Go.Proofs.Ytbomlapmoiamgaa.opened Go.Proofs.Ytbomlapmoiamgaa.block Go.Proofs.Ytbomlapmoiamgaa.words Go.Proofs.Ytbomlapmoiamgaa.region
def TelP (B g : Nat) (V : Wn) (e : Int) (u : Value) (w : World) : Prop := u = .int .i64 e ∧ PP B w g V
def TelR (B g : Nat) (V : Wn) (e : Int) (u : Value) (w : World) : Prop := u = .int .i64 e ∧ PR B w g V
theorem keeps_telP (B g : Nat) (V : Wn) (e : Int) : Keeps (TelP B g V e) := fun _ _ _ hb ⟨h1, h2⟩ => ⟨h1, h2.below hb⟩
theorem keeps_telR (B g : Nat) (V : Wn) (e : Int) : Keeps (TelR B g V e) := fun _ _ _ hb ⟨h1, h2⟩ => ⟨h1, h2.below hb⟩
section
variable {w : World}
set_option maxRecDepth 100000 in
set_option maxHeartbeats 16000000 in
theorem walkDoes (nn : Int) (A : Option Addr) (c : Nat) (l : List Ox) (hl : l.length ≤ 4611686018427387903) (hL : Actx w A l) :
    Calls Try.prog 3 #[.int .i64 nn, .slice A l.length c] w fun e w' => e = .returned (.bool true) ∧ Below w.heap.size w w' := by
  have HL := Lib.hid hL
  clear hL
  by_cases hnn : 2 ≤ nn ∧ nn ≤ 16
  · have HN := Lib.hid (new_any (w := w) nn hnn.1 hnn.2)
    have HM := Lib.hid fun (w1 : World) => newR_any (w := w1) nn hnn.1 hnn.2
    have M0 : Hid (Mw 0 ⟨nn, [], O0, 0⟩) := Lib.hid (Mw.of (cnt_new hnn.1 hnn.2))
    clear hnn
    go_enter Try.func3, Try.ntmps3
    go_upto_region 2 with (go_at_call 7; (with_reducible refine HN.out.mono ?_); rintro e w3 ⟨rfl, rfl⟩)
    have P3 : Hid (PP w.heap.size (w.alloc (.cells (wanC nn (.slice none 0 0) O0 0) 94)) w.heap.size ⟨nn, [], O0, 0⟩) := Lib.hid ⟨none, 0, Whole.fresh w _ _, ownG_nil _ _, Nat.le_refl _⟩
    have Q3 : Hid (Below w.heap.size w (w.alloc (.cells (wanC nn (.slice none 0 0) O0 0) 94))) := Lib.hid (fresh1 w _)
    clear HN
    generalize w.alloc (.cells (wanC nn (.slice none 0 0) O0 0) 94) = w3 at P3 Q3 ⊢
    obtain ⟨ga, hga⟩ : ∃ g, g = w.heap.size := ⟨_, rfl⟩
    have P4 : Hid (PP w.heap.size w3 ga ⟨nn, [], O0, 0⟩) := Lib.hid (by rw [hga]; exact P3.out)
    rw [← hga]
    clear hga P3
    go_upto_region 3 with (go_at_call 8; (with_reducible refine (HM.out w3).mono ?_); rintro e w5 ⟨rfl, rfl⟩)
    have C4 : Hid (Dw w ga w3.heap.size (w3.alloc (.cells (wanC nn (.slice none 0 0) O0 0) 49)) 0 ⟨nn, [], O0, 0⟩) := Lib.hid ⟨M0.out, P4.out.below (fresh1 w3 _), ⟨none, 0, Whole.fresh w3 _ _, ownG_nil _ _, Q3.out.size⟩, then_below Q3.out (fresh1 w3 _)⟩
    clear HM M0 P4 Q3
    generalize w3.alloc (.cells (wanC nn (.slice none 0 0) O0 0) 49) = w4 at C4 ⊢
    generalize w3.heap.size = gb at C4 ⊢
    generalize (⟨nn, [], O0, 0⟩ : Wn) = W0 at C4
    go_upto_block 0 with fail
    go_cut [9, 10, 11, 12, 13, 14, 15, 16, 17, 18] from 54 to 202 (fun _ _ _ _ _ _ _ _ _ _ wx => ∃ (j : Nat) (W : Wn), Hid (Dw w ga gb wx j W))
    case first => as_aux_lemma =>
      go_wp2_with fail
      go_loopw [9] (fun i wr => ∃ (j : Nat) (W : Wn), j ≤ l.length ∧ j ≤ 200 ∧ i = .int .i64 (j : Int) ∧ Hid (Dw w ga gb wr j W)) (fun i _ => l.length - (intOf i).toNat)
      case atStart => exact ⟨0, W0, Nat.zero_le _, Nat.zero_le _, rfl, C4⟩
      case round =>
        obtain ⟨j, W, hjl, hj2, rfl, HC⟩ := hrel
        clear C4
        by_cases h1 : j < l.length
        · by_cases h2 : j < 200
          · have h1i : (j : Int) < (l.length : Int) := by omega
            have h2i : (j : Int) < 200 := by omega
            obtain ⟨o, ho⟩ : ∃ o, l[j]? = some o := ⟨_, List.getElem?_eq_getElem h1⟩
            have HLr := HL.out.below (HC.out.h : Below w.heap.size w wr)
            obtain ⟨b', off, hA, hbi, c0, c1, c2, c3, c4, c5⟩ := HLr.at ho
            subst hA
            clear HLr ho hbi
            go_upto_region 9 with fail
            change Code.wp _ _ _ _ (wr.alloc (.cells #[.int .i64 o.k, .int .i64 o.f, .int .i64 o.t, sV o.s, .int .i64 o.i, .bool o.o] 31))
            have b4 := fresh1 wr (.cells #[.int .i64 o.k, .int .i64 o.f, .int .i64 o.t, sV o.s, .int .i64 o.i, .bool o.o] 31)
            have C5 := Lib.hid (HC.out.more b4)
            have X5 := Lib.hid (Whole.fresh wr 31 #[.int .i64 o.k, .int .i64 o.f, .int .i64 o.t, sV o.s, .int .i64 o.i, .bool o.o])
            clear b4 c0 c1 c2 c3 c4 c5 HC
            generalize wr.alloc (.cells #[.int .i64 o.k, .int .i64 o.f, .int .i64 o.t, sV o.s, .int .i64 o.i, .bool o.o] 31) = w5 at C5 X5 ⊢
            generalize wr.heap.size = go at X5 ⊢
            have x0 : w5.cell? ⟨go, 0, none⟩ = some (.int .i64 o.k) := X5.out.read 0
            have x3 : w5.cell? ⟨go, 3, none⟩ = some (sV o.s) := X5.out.read 3
            by_cases h8 : 10000 < o.s.length
            · have h8i : (10000 : Int) < (o.s.length : Int) := by omega
              go_wp2_with fail
              go_ret
              exact ⟨rfl, C5.out.h⟩
            · have h8i : ¬ (10000 : Int) < (o.s.length : Int) := by omega
              obtain ⟨ok, hok⟩ : ∃ ok, ok = o.k := ⟨_, rfl⟩
              rw [← hok] at x0
              clear hok
              go_upto_block 2 with fail
              have hj9 : (j : Int) ≤ 200 := by omega
              have hcb := C5.out.m.c
              have hc1 : W.c < 1000000 := by omega
              have hc2 : W.c + 96 ≤ 1000000 := by omega
              clear hcb h8
              go_cut [11, 12, 13, 14] from 72 to 147 (fun _ _ _ _ wx => ∃ (W : Wn), Hid (Dw w ga gb wx (j + 1) W) ∧ Hid (Whole wx go 31 #[.int .i64 o.k, .int .i64 o.f, .int .i64 o.t, sV o.s, .int .i64 o.i, .bool o.o]))
              case first => as_aux_lemma =>
                by_cases q0 : ok = 0
                · subst q0
                  have HCP := Lib.hid (fun (w8 : World) (h : PP w.heap.size w8 ga W) => p_send h C5.out.m.good hc1 ⟨o.f, o.t, o.s⟩ (by show o.s.length ≤ _; omega) rfl rfl)
                  have HCR := Lib.hid (fun (w8 : World) (h : PR w.heap.size w8 gb W) => q_send h C5.out.m.good hc1 ⟨o.f, o.t, o.s⟩ (by show o.s.length ≤ _; omega))
                  have M5 := Lib.hid (C5.out.m.send (by omega) ⟨o.f, o.t, o.s⟩)
                  generalize sendV W ⟨o.f, o.t, o.s⟩ = V at HCP HCR M5
                  generalize sendE W ⟨o.f, o.t, o.s⟩ = ee at HCP HCR
                  go_upto_region 15 with fail
                  clear x0 x3
                  refine wp_frame ?_
                  intro a9 ha9
                  have hN9 : a9.tmps.size = 232 := by rw [ha9]; rfl
                  have e5 : a9.eval (.tmp 5) = .pointer (some ⟨ga, 0, none⟩) := by rw [ha9]; rfl
                  have e7 : a9.eval (.tmp 7) = .pointer (some ⟨gb, 0, none⟩) := by rw [ha9]; rfl
                  have e10 : a9.eval (.tmp 10) = .pointer (some ⟨go, 0, none⟩) := by rw [ha9]; rfl
                  have HA9 := Lib.hid ha9
                  clear ha9
                  refine region_fullZ 232 [] [] [] (fun k => k == 8 || k == 17) (fun w7 => WBB w.heap.size w5 w7) ?hR ?r0 [pdOne 0 (Is (.pointer (some ⟨ga, 0, none⟩))), pdOne 1 (Is (.pointer (some ⟨go, 1, none⟩))), pdOne 2 (Is (.int .i64 o.f)), pdOne 3 (Is (.pointer (some ⟨go, 2, none⟩))), pdOne 4 (Is (.int .i64 o.t)), pdOne 5 (Is (.pointer (some ⟨go, 3, none⟩))), pdOne 6 (Is (sV o.s)), pdOne 7 (Is ((⟨o.f, o.t, o.s⟩ : Lt).val)), pdOne 8 (TelP w.heap.size ga V ee), pdOne 9 (Is (.pointer (some ⟨gb, 0, none⟩))), pdOne 10 (Is (.pointer (some ⟨go, 1, none⟩))), pdOne 11 (Is (.int .i64 o.f)), pdOne 12 (Is (.pointer (some ⟨go, 2, none⟩))), pdOne 13 (Is (.int .i64 o.t)), pdOne 14 (Is (.pointer (some ⟨go, 3, none⟩))), pdOne 15 (Is (sV o.s)), pdOne 16 (Is ((⟨o.f, o.t, o.s⟩ : Lt).val)), pdOne 17 (TelR w.heap.size gb V ee), pdOne 18 (Is (.bool false))] (fun k w7 => (k = 8 → PP w.heap.size w7 ga W) ∧ (k = 17 → PR w.heap.size w7 gb W)) (by kernel_rfl) hN9 (by kernel_rfl) (by kernel_rfl) (by kernel_rfl) (by kernel_rfl) (by kernel_rfl) ?keep ?hO ?h0 ?tell
                  case hR => exact fun w7 w8 hb h => h.later hb (Nat.le_trans C5.out.h.size h.below.size)
                  case r0 => exact WBB.refl _ _
                  case keep => exact ⟨keep_one (keeps_is _), keep_one (keeps_is _), keep_one (keeps_is _), keep_one (keeps_is _), keep_one (keeps_is _), keep_one (keeps_is _), keep_one (keeps_is _), keep_one (keeps_is _), keep_one (keeps_telP _ _ _ _), keep_one (keeps_is _), keep_one (keeps_is _), keep_one (keeps_is _), keep_one (keeps_is _), keep_one (keeps_is _), keep_one (keeps_is _), keep_one (keeps_is _), keep_one (keeps_is _), keep_one (keeps_telR _ _ _ _), keep_one (keeps_is _), trivial⟩
                  case hO => exact fun k w7 w8 hb ⟨h1, h2⟩ => ⟨fun e => (h1 e).below hb, fun e => (h2 e).below hb⟩
                  case h0 => exact fun k _ => ⟨fun _ => C5.out.p, fun _ => C5.out.r⟩
                  case tell =>
                    intro fin hfin
                    apply And.intro
                    case' left => (simp only [TellZ]; refine ⟨?_, ?_, ?_, ?_, ?_, ?_, ?_, ?_, ?_, ?_, ?_, ?_, ?_, ?_, ?_, ?_, ?_, ?_, ?_, trivial⟩)
                    · intro v2 w7 hr hd
                      refine ⟨(fun j b h => nomatch h), ?_⟩
                      refine yields_run (u := .pointer (some ⟨ga, 0, none⟩)) (w' := w7) ?_ (Below.refl _ _) rfl
                      unfold execOp
                      (try simp only [List.map_toArray, List.map_cons, List.map_nil, ev_ne, ev_eq, ev_const, put_size, hN9, ne_eq, Nat.reduceEqDiff, not_false_eq_true, Nat.reduceLT, e5, e7, e10])
                      (try simp [go_sem])
                    · intro v2 w7 hr hd
                      refine ⟨(fun j b h => nomatch h), ?_⟩
                      refine yields_run (u := .pointer (some ⟨go, 1, none⟩)) (w' := w7) ?_ (Below.refl _ _) rfl
                      unfold execOp
                      (try simp only [List.map_toArray, List.map_cons, List.map_nil, ev_ne, ev_eq, ev_const, put_size, hN9, ne_eq, Nat.reduceEqDiff, not_false_eq_true, Nat.reduceLT, e5, e7, e10])
                      (try simp [go_sem])
                    · intro v2 w7 hr hd
                      have h1 : v2 1 = .pointer (some ⟨go, 1, none⟩) := hd 1 (by kernel_rfl)
                      refine ⟨(fun j b h => nomatch h), ?_⟩
                      have hx : w7.cell? ⟨go, 1, none⟩ = some (.int .i64 o.f) := (Whole.wbb X5.out hr (by decide) (by decide) (by decide) (by decide)).read 1
                      refine yields_run (u := .int .i64 o.f) (w' := w7) ?_ (Below.refl _ _) rfl
                      unfold execOp
                      (try simp only [List.map_toArray, List.map_cons, List.map_nil, ev_ne, ev_eq, ev_const, put_size, hN9, ne_eq, Nat.reduceEqDiff, not_false_eq_true, Nat.reduceLT, e5, e7, e10, h1])
                      (try simp [go_sem, hx])
                    · intro v2 w7 hr hd
                      refine ⟨(fun j b h => nomatch h), ?_⟩
                      refine yields_run (u := .pointer (some ⟨go, 2, none⟩)) (w' := w7) ?_ (Below.refl _ _) rfl
                      unfold execOp
                      (try simp only [List.map_toArray, List.map_cons, List.map_nil, ev_ne, ev_eq, ev_const, put_size, hN9, ne_eq, Nat.reduceEqDiff, not_false_eq_true, Nat.reduceLT, e5, e7, e10])
                      (try simp [go_sem])
                    · intro v2 w7 hr hd
                      have h3 : v2 3 = .pointer (some ⟨go, 2, none⟩) := hd 3 (by kernel_rfl)
                      refine ⟨(fun j b h => nomatch h), ?_⟩
                      have hx : w7.cell? ⟨go, 2, none⟩ = some (.int .i64 o.t) := (Whole.wbb X5.out hr (by decide) (by decide) (by decide) (by decide)).read 2
                      refine yields_run (u := .int .i64 o.t) (w' := w7) ?_ (Below.refl _ _) rfl
                      unfold execOp
                      (try simp only [List.map_toArray, List.map_cons, List.map_nil, ev_ne, ev_eq, ev_const, put_size, hN9, ne_eq, Nat.reduceEqDiff, not_false_eq_true, Nat.reduceLT, e5, e7, e10, h3])
                      (try simp [go_sem, hx])
                    · intro v2 w7 hr hd
                      refine ⟨(fun j b h => nomatch h), ?_⟩
                      refine yields_run (u := .pointer (some ⟨go, 3, none⟩)) (w' := w7) ?_ (Below.refl _ _) rfl
                      unfold execOp
                      (try simp only [List.map_toArray, List.map_cons, List.map_nil, ev_ne, ev_eq, ev_const, put_size, hN9, ne_eq, Nat.reduceEqDiff, not_false_eq_true, Nat.reduceLT, e5, e7, e10])
                      (try simp [go_sem])
                    · intro v2 w7 hr hd
                      have h5 : v2 5 = .pointer (some ⟨go, 3, none⟩) := hd 5 (by kernel_rfl)
                      refine ⟨(fun j b h => nomatch h), ?_⟩
                      have hx : w7.cell? ⟨go, 3, none⟩ = some (sV o.s) := (Whole.wbb X5.out hr (by decide) (by decide) (by decide) (by decide)).read 3
                      refine yields_run (u := sV o.s) (w' := w7) ?_ (Below.refl _ _) rfl
                      unfold execOp
                      (try simp only [List.map_toArray, List.map_cons, List.map_nil, ev_ne, ev_eq, ev_const, put_size, hN9, ne_eq, Nat.reduceEqDiff, not_false_eq_true, Nat.reduceLT, e5, e7, e10, h5])
                      (try simp [go_sem, hx])
                    · intro v2 w7 hr hd
                      have h2 : v2 2 = .int .i64 o.f := hd 2 (by kernel_rfl)
                      have h4 : v2 4 = .int .i64 o.t := hd 4 (by kernel_rfl)
                      have h6 : v2 6 = sV o.s := hd 6 (by kernel_rfl)
                      refine ⟨(fun j b h => nomatch h), ?_⟩
                      have hbb : Try.prog.built 34 [(0, .int .i64 o.f), (1, .int .i64 o.t), (2, sV o.s)] = some #[.int .i64 o.f, .int .i64 o.t, sV o.s] := by kernel_rfl
                      refine yields_run (u := (⟨o.f, o.t, o.s⟩ : Lt).val) (w' := w7) ?_ (Below.refl _ _) rfl
                      unfold execOp
                      (try simp only [List.map_toArray, List.map_cons, List.map_nil, ev_ne, ev_eq, ev_const, put_size, hN9, ne_eq, Nat.reduceEqDiff, not_false_eq_true, Nat.reduceLT, e5, e7, e10, h2, h4, h6, hbb])
                      (try simp [go_sem, h2, h4, h6, hbb])
                    · intro v2 w7 hr ho hd
                      have h0 : v2 0 = .pointer (some ⟨ga, 0, none⟩) := hd 0 (by kernel_rfl)
                      have h7 : v2 7 = (⟨o.f, o.t, o.s⟩ : Lt).val := hd 7 (by kernel_rfl)
                      refine ⟨(fun j b h => nomatch h), ?_⟩
                      refine .inl (yieldsW_callR (f := 9) rfl (vs := #[.pointer (some ⟨ga, 0, none⟩), (⟨o.f, o.t, o.s⟩ : Lt).val]) (by simp only [List.map_toArray, List.map_cons, List.map_nil, ev_ne, ev_eq, ev_const, put_size, hN9, ne_eq, Nat.reduceEqDiff, not_false_eq_true, Nat.reduceLT, e5, e7, e10, h0, h7]) rfl Try.func9 (by kernel_rfl) (by kernel_rfl) ?_)
                      refine (HCP.out w7 (ho.1 trivial)).mono fun e1 w8 ⟨he, p8, q8⟩ => ⟨_, he, hr.trans (WBB.p q8), ?_, ?_, rfl, p8⟩
                      · intro k2 v' hk2 hc hu
                        exact match k2, hk2, hc, hu with
                          | 0, _, _, hu => hu
                          | 1, _, _, hu => hu
                          | 2, _, _, hu => hu
                          | 3, _, _, hu => hu
                          | 4, _, _, hu => hu
                          | 5, _, _, hu => hu
                          | 6, _, _, hu => hu
                          | 7, _, _, hu => hu
                          | 8, hk2, _, _ => absurd rfl hk2
                          | 9, _, _, hu => hu
                          | 10, _, _, hu => hu
                          | 11, _, _, hu => hu
                          | 12, _, _, hu => hu
                          | 13, _, _, hu => hu
                          | 14, _, _, hu => hu
                          | 15, _, _, hu => hu
                          | 16, _, _, hu => hu
                          | 17, _, _, hu => ⟨hu.1, PR.wb hu.2 q8⟩
                          | 18, _, _, hu => hu
                          | _ + 19, _, _, _ => trivial
                      · intro k2 hk2 hn hc2 ⟨h1, h2⟩
                        exact ⟨fun e => absurd e hk2, fun e => PR.wb (h2 e) q8⟩
                    · intro v2 w7 hr hd
                      refine ⟨(fun j b h => nomatch h), ?_⟩
                      refine yields_run (u := .pointer (some ⟨gb, 0, none⟩)) (w' := w7) ?_ (Below.refl _ _) rfl
                      unfold execOp
                      (try simp only [List.map_toArray, List.map_cons, List.map_nil, ev_ne, ev_eq, ev_const, put_size, hN9, ne_eq, Nat.reduceEqDiff, not_false_eq_true, Nat.reduceLT, e5, e7, e10])
                      (try simp [go_sem])
                    · intro v2 w7 hr hd
                      refine ⟨(fun j b h => nomatch h), ?_⟩
                      refine yields_run (u := .pointer (some ⟨go, 1, none⟩)) (w' := w7) ?_ (Below.refl _ _) rfl
                      unfold execOp
                      (try simp only [List.map_toArray, List.map_cons, List.map_nil, ev_ne, ev_eq, ev_const, put_size, hN9, ne_eq, Nat.reduceEqDiff, not_false_eq_true, Nat.reduceLT, e5, e7, e10])
                      (try simp [go_sem])
                    · intro v2 w7 hr hd
                      have h10 : v2 10 = .pointer (some ⟨go, 1, none⟩) := hd 10 (by kernel_rfl)
                      refine ⟨(fun j b h => nomatch h), ?_⟩
                      have hx : w7.cell? ⟨go, 1, none⟩ = some (.int .i64 o.f) := (Whole.wbb X5.out hr (by decide) (by decide) (by decide) (by decide)).read 1
                      refine yields_run (u := .int .i64 o.f) (w' := w7) ?_ (Below.refl _ _) rfl
                      unfold execOp
                      (try simp only [List.map_toArray, List.map_cons, List.map_nil, ev_ne, ev_eq, ev_const, put_size, hN9, ne_eq, Nat.reduceEqDiff, not_false_eq_true, Nat.reduceLT, e5, e7, e10, h10])
                      (try simp [go_sem, hx])
                    · intro v2 w7 hr hd
                      refine ⟨(fun j b h => nomatch h), ?_⟩
                      refine yields_run (u := .pointer (some ⟨go, 2, none⟩)) (w' := w7) ?_ (Below.refl _ _) rfl
                      unfold execOp
                      (try simp only [List.map_toArray, List.map_cons, List.map_nil, ev_ne, ev_eq, ev_const, put_size, hN9, ne_eq, Nat.reduceEqDiff, not_false_eq_true, Nat.reduceLT, e5, e7, e10])
                      (try simp [go_sem])
                    · intro v2 w7 hr hd
                      have h12 : v2 12 = .pointer (some ⟨go, 2, none⟩) := hd 12 (by kernel_rfl)
                      refine ⟨(fun j b h => nomatch h), ?_⟩
                      have hx : w7.cell? ⟨go, 2, none⟩ = some (.int .i64 o.t) := (Whole.wbb X5.out hr (by decide) (by decide) (by decide) (by decide)).read 2
                      refine yields_run (u := .int .i64 o.t) (w' := w7) ?_ (Below.refl _ _) rfl
                      unfold execOp
                      (try simp only [List.map_toArray, List.map_cons, List.map_nil, ev_ne, ev_eq, ev_const, put_size, hN9, ne_eq, Nat.reduceEqDiff, not_false_eq_true, Nat.reduceLT, e5, e7, e10, h12])
                      (try simp [go_sem, hx])
                    · intro v2 w7 hr hd
                      refine ⟨(fun j b h => nomatch h), ?_⟩
                      refine yields_run (u := .pointer (some ⟨go, 3, none⟩)) (w' := w7) ?_ (Below.refl _ _) rfl
                      unfold execOp
                      (try simp only [List.map_toArray, List.map_cons, List.map_nil, ev_ne, ev_eq, ev_const, put_size, hN9, ne_eq, Nat.reduceEqDiff, not_false_eq_true, Nat.reduceLT, e5, e7, e10])
                      (try simp [go_sem])
                    · intro v2 w7 hr hd
                      have h14 : v2 14 = .pointer (some ⟨go, 3, none⟩) := hd 14 (by kernel_rfl)
                      refine ⟨(fun j b h => nomatch h), ?_⟩
                      have hx : w7.cell? ⟨go, 3, none⟩ = some (sV o.s) := (Whole.wbb X5.out hr (by decide) (by decide) (by decide) (by decide)).read 3
                      refine yields_run (u := sV o.s) (w' := w7) ?_ (Below.refl _ _) rfl
                      unfold execOp
                      (try simp only [List.map_toArray, List.map_cons, List.map_nil, ev_ne, ev_eq, ev_const, put_size, hN9, ne_eq, Nat.reduceEqDiff, not_false_eq_true, Nat.reduceLT, e5, e7, e10, h14])
                      (try simp [go_sem, hx])
                    · intro v2 w7 hr hd
                      have h11 : v2 11 = .int .i64 o.f := hd 11 (by kernel_rfl)
                      have h13 : v2 13 = .int .i64 o.t := hd 13 (by kernel_rfl)
                      have h15 : v2 15 = sV o.s := hd 15 (by kernel_rfl)
                      refine ⟨(fun j b h => nomatch h), ?_⟩
                      have hbb : Try.prog.built 36 [(0, .int .i64 o.f), (1, .int .i64 o.t), (2, sV o.s)] = some #[.int .i64 o.f, .int .i64 o.t, sV o.s] := by kernel_rfl
                      refine yields_run (u := (⟨o.f, o.t, o.s⟩ : Lt).val) (w' := w7) ?_ (Below.refl _ _) rfl
                      unfold execOp
                      (try simp only [List.map_toArray, List.map_cons, List.map_nil, ev_ne, ev_eq, ev_const, put_size, hN9, ne_eq, Nat.reduceEqDiff, not_false_eq_true, Nat.reduceLT, e5, e7, e10, h11, h13, h15, hbb])
                      (try simp [go_sem, h11, h13, h15, hbb])
                    · intro v2 w7 hr ho hd
                      have h9 : v2 9 = .pointer (some ⟨gb, 0, none⟩) := hd 9 (by kernel_rfl)
                      have h16 : v2 16 = (⟨o.f, o.t, o.s⟩ : Lt).val := hd 16 (by kernel_rfl)
                      refine ⟨(fun j b h => nomatch h), ?_⟩
                      refine .inl (yieldsW_callR (f := 10) rfl (vs := #[.pointer (some ⟨gb, 0, none⟩), (⟨o.f, o.t, o.s⟩ : Lt).val]) (by simp only [List.map_toArray, List.map_cons, List.map_nil, ev_ne, ev_eq, ev_const, put_size, hN9, ne_eq, Nat.reduceEqDiff, not_false_eq_true, Nat.reduceLT, e5, e7, e10, h9, h16]) rfl Try.func10 (by kernel_rfl) (by kernel_rfl) ?_)
                      refine (HCR.out w7 (ho.2 trivial)).mono fun e1 w8 ⟨he, p8, q8⟩ => ⟨_, he, hr.trans (WBB.r q8), ?_, ?_, rfl, p8⟩
                      · intro k2 v' hk2 hc hu
                        exact match k2, hk2, hc, hu with
                          | 0, _, _, hu => hu
                          | 1, _, _, hu => hu
                          | 2, _, _, hu => hu
                          | 3, _, _, hu => hu
                          | 4, _, _, hu => hu
                          | 5, _, _, hu => hu
                          | 6, _, _, hu => hu
                          | 7, _, _, hu => hu
                          | 8, _, _, hu => ⟨hu.1, PP.wb hu.2 q8⟩
                          | 9, _, _, hu => hu
                          | 10, _, _, hu => hu
                          | 11, _, _, hu => hu
                          | 12, _, _, hu => hu
                          | 13, _, _, hu => hu
                          | 14, _, _, hu => hu
                          | 15, _, _, hu => hu
                          | 16, _, _, hu => hu
                          | 17, hk2, _, _ => absurd rfl hk2
                          | 18, _, _, hu => hu
                          | _ + 19, _, _, _ => trivial
                      · intro k2 hk2 hn hc2 ⟨h1, h2⟩
                        exact ⟨fun e => PP.wb (h1 e) q8, fun e => absurd e hk2⟩
                    · intro v2 w7 hr hd
                      have hq8 := hd 8 (by kernel_rfl)
                      have h8 : v2 8 = .int .i64 ee := hq8.1
                      have hq17 := hd 17 (by kernel_rfl)
                      have h17 : v2 17 = .int .i64 ee := hq17.1
                      refine ⟨(fun j b h => nomatch h), ?_⟩
                      refine yields_run (u := .bool false) (w' := w7) ?_ (Below.refl _ _) rfl
                      unfold execOp
                      (try simp only [List.map_toArray, List.map_cons, List.map_nil, ev_ne, ev_eq, ev_const, put_size, hN9, ne_eq, Nat.reduceEqDiff, not_false_eq_true, Nat.reduceLT, e5, e7, e10, h8, h17])
                      (try simp [go_sem])
                    · intro v2 w6 hr hv
                      obtain ⟨-, hP⟩ : TelP w.heap.size ga V ee (v2 8) w6 := hv 8 (by decide) (by decide)
                      obtain ⟨-, hRR⟩ : TelR w.heap.size gb V ee (v2 17) w6 := hv 17 (by decide) (by decide)
                      have hz : v2 18 = .bool false := hv 18 (by decide) (by decide)
                      have C6 : Hid (Dw w ga gb w6 (j + 1) V) := Lib.hid ⟨M5.out, hP, hRR, C5.out.h.trans hr.below⟩
                      have X6 := Lib.hid (Whole.wbb X5.out hr (by decide) (by decide) (by decide) (by decide))
                      have hf := hfin v2
                      rw [HA9.out] at hf
                      simp [lexPut, Act.put, hz] at hf
                      rw [hf]
                      clear hf HA9 hN9 e5 e7 e10 hfin
                      clear hP hRR hz hv hr C5 X5 HCP HCR M5
                      go_wp2_with fail
                      go_meet
                      case rel => exact ⟨V, C6, X6⟩
                · have n0 : (ok == 0) = false := by simpa using q0
                  by_cases q1 : ok = 1
                  · subst q1
                    have HCP := Lib.hid (fun (w8 : World) (h : PP w.heap.size w8 ga W) => p_take h C5.out.m.good o.i rfl rfl rfl)
                    have HCR := Lib.hid (fun (w8 : World) (h : PR w.heap.size w8 gb W) => q_take h C5.out.m.good o.i)
                    have M5 := Lib.hid (C5.out.m.take o.i)
                    have x4 : w5.cell? ⟨go, 4, none⟩ = some (.int .i64 o.i) := X5.out.read 4
                    generalize takeV W o.i = V at HCP HCR M5
                    generalize atV W o.i = x at HCP HCR
                    generalize atE W o.i = ee at HCP HCR
                    go_upto_region 19 with (go_at_call 11; (with_reducible refine (HCP.out _ C5.out.p).mono ?_); rintro e w6 ⟨rfl, p6, q6⟩; have P6 := Lib.hid p6; have R6 := Lib.hid (PR.wb C5.out.r q6); have B6 := Lib.hid q6.below; have X6 := Lib.hid (Whole.wb X5.out q6 (by decide) (by decide)); clear p6 q6 x4 x0 x3)
                    change Code.wp _ _ _ _ (w6.alloc (.cells (cL x).toArray 34))
                    have b7 := fresh1 w6 (.cells (cL x).toArray 34)
                    have P7 := Lib.hid (P6.out.below b7)
                    have R7 := Lib.hid (R6.out.below b7)
                    have B7 := Lib.hid ((C5.out.h.trans B6.out).trans (b7.mono (Nat.le_trans C5.out.h.size B6.out.size)))
                    have X7 := Lib.hid (X6.out.below b7 X6.out.inside)
                    have XX7 : Hid (Whole (w6.alloc (.cells (cL x).toArray 34)) w6.heap.size 34 (cL x).toArray) := Lib.hid (Whole.fresh w6 _ _)
                    clear b7 P6 R6 B6 X6 HCP C5 X5
                    generalize w6.alloc (.cells (cL x).toArray 34) = w7 at P7 R7 B7 X7 XX7 ⊢
                    generalize w6.heap.size = gx at XX7 ⊢
                    have x4 : w7.cell? ⟨go, 4, none⟩ = some (.int .i64 o.i) := X7.out.read 4
                    go_upto_region 20 with (go_at_call 12; (with_reducible refine (HCR.out _ R7.out).mono ?_); rintro e w8 ⟨rfl, p8, q8⟩; have R8 := Lib.hid p8; have P8 := Lib.hid (PP.wb P7.out q8); have B8 := Lib.hid (B7.out.trans q8.below); have X8 := Lib.hid (Whole.wb X7.out q8 (by decide) (by decide)); have XX8 := Lib.hid (Whole.wb XX7.out q8 (by decide) (by decide)); clear p8 q8 x4)
                    change Code.wp _ _ _ _ (w8.alloc (.cells (cL x).toArray 36))
                    have b9 := fresh1 w8 (.cells (cL x).toArray 36)
                    have C5 : Hid (Dw w ga gb (w8.alloc (.cells (cL x).toArray 36)) (j + 1) V) := Lib.hid ⟨M5.out, P8.out.below b9, R8.out.below b9, B8.out.trans (b9.mono B8.out.size)⟩
                    have X5 := Lib.hid (X8.out.below b9 X8.out.inside)
                    have XX := Lib.hid (XX8.out.below b9 XX8.out.inside)
                    have XY : Hid (Whole (w8.alloc (.cells (cL x).toArray 36)) w8.heap.size 36 (cL x).toArray) := Lib.hid (Whole.fresh w8 _ _)
                    clear b9 P7 R7 B7 X7 XX7 P8 R8 B8 X8 XX8 HCR M5
                    generalize w8.alloc (.cells (cL x).toArray 36) = w5 at C5 X5 XX XY ⊢
                    generalize w8.heap.size = gy at XY ⊢
                    refine wp_frame ?_
                    intro a9 ha9
                    have hN9 : a9.tmps.size = 232 := by rw [ha9]; rfl
                    have e11 : a9.eval (.tmp 11) = .pointer (some ⟨gx, 0, none⟩) := by rw [ha9]; rfl
                    have e13 : a9.eval (.tmp 13) = .pointer (some ⟨gy, 0, none⟩) := by rw [ha9]; rfl
                    have e12 : a9.eval (.tmp 12) = .int .i64 ee := by rw [ha9]; rfl
                    have e14 : a9.eval (.tmp 14) = .int .i64 ee := by rw [ha9]; rfl
                    have HA9 := Lib.hid ha9
                    clear ha9
                    refine region_fullZ 232 [] [] [] (fun k => false) (fun w7 => Below w5.heap.size w5 w7) ?hR ?r0 [pdOne 0 (Is (x.val)), pdOne 1 (Is (x.val)), pdOne 2 (Is (x.val)), pdOne 3 (Is (.bool false)), pdOne 4 (Is (.bool false)), pdOne 5 (Is (.int .i64 ee)), pdOne 6 (Is (.int .i64 ee)), pdOne 7 (Is (.bool false)), pdOne 8 (Is (.bool false))] (fun k w7 => True) (by kernel_rfl) hN9 (by kernel_rfl) (by kernel_rfl) (by kernel_rfl) (by kernel_rfl) (by kernel_rfl) ?keep ?hO ?h0 ?tell
                    case hR => exact fun w7 w8 hb h => then_below h hb
                    case r0 => exact Below.refl _ _
                    case keep => exact ⟨keep_one (keeps_is _), keep_one (keeps_is _), keep_one (keeps_is _), keep_one (keeps_is _), keep_one (keeps_is _), keep_one (keeps_is _), keep_one (keeps_is _), keep_one (keeps_is _), keep_one (keeps_is _), trivial⟩
                    case hO => exact fun _ _ _ _ h => h
                    case h0 => exact fun _ _ => trivial
                    case tell =>
                      intro fin hfin
                      apply And.intro
                      case' left => (simp only [TellZ]; refine ⟨?_, ?_, ?_, ?_, ?_, ?_, ?_, ?_, ?_, trivial⟩)
                      · intro v2 w7 hr hd
                        refine ⟨(fun j b h => nomatch h), ?_⟩
                        have hW := XX.out.below hr XX.out.inside
                        have k0 : w7.cell? ⟨gx, 0, none⟩ = some (.int .i64 x.f) := hW.read 0
                        have k1 : w7.cell? ⟨gx, 1, none⟩ = some (.int .i64 x.t) := hW.read 1
                        have k2 : w7.cell? ⟨gx, 2, none⟩ = some (sV x.s) := hW.read 2
                        have kf : w7.frozen? ⟨gx, 0, none⟩ = false := hW.soft 0
                        refine yields_run (u := x.val) (w' := w7) ?_ (Below.refl _ _) rfl
                        unfold execOp
                        (try simp only [List.map_toArray, List.map_cons, List.map_nil, ev_ne, ev_eq, ev_const, put_size, hN9, ne_eq, Nat.reduceEqDiff, not_false_eq_true, Nat.reduceLT, e11, e13, e12, e14])
                        (try simp [go_sem, k0, k1, k2, kf])
                      · intro v2 w7 hr hd
                        have h0 : v2 0 = x.val := hd 0 (by kernel_rfl)
                        refine ⟨(fun j b h => nomatch h), ?_⟩
                        refine yields_call (f := 13) rfl (vs := #[x.val]) (by simp only [List.map_toArray, List.map_cons, List.map_nil, ev_ne, ev_eq, ev_const, put_size, hN9, ne_eq, Nat.reduceEqDiff, not_false_eq_true, Nat.reduceLT, e11, e13, e12, e14, h0]) rfl Try.func13 (by kernel_rfl) (by kernel_rfl) ((from_any x w7).mono fun e w8 ⟨he, hb⟩ => ⟨_, he, hb, rfl⟩)
                      · intro v2 w7 hr hd
                        refine ⟨(fun j b h => nomatch h), ?_⟩
                        have hW := XY.out.below hr XY.out.inside
                        have k0 : w7.cell? ⟨gy, 0, none⟩ = some (.int .i64 x.f) := hW.read 0
                        have k1 : w7.cell? ⟨gy, 1, none⟩ = some (.int .i64 x.t) := hW.read 1
                        have k2 : w7.cell? ⟨gy, 2, none⟩ = some (sV x.s) := hW.read 2
                        have kf : w7.frozen? ⟨gy, 0, none⟩ = false := hW.soft 0
                        refine yields_run (u := x.val) (w' := w7) ?_ (Below.refl _ _) rfl
                        unfold execOp
                        (try simp only [List.map_toArray, List.map_cons, List.map_nil, ev_ne, ev_eq, ev_const, put_size, hN9, ne_eq, Nat.reduceEqDiff, not_false_eq_true, Nat.reduceLT, e11, e13, e12, e14])
                        (try simp [go_sem, k0, k1, k2, kf])
                      · intro v2 w7 hr hd
                        have h1 : v2 1 = x.val := hd 1 (by kernel_rfl)
                        have h2 : v2 2 = x.val := hd 2 (by kernel_rfl)
                        refine ⟨(fun j b h => nomatch h), ?_⟩
                        have hne := run_neL x w7
                        refine yields_run (u := .bool false) (w' := w7) ?_ (Below.refl _ _) rfl
                        unfold execOp
                        (try simp only [List.map_toArray, List.map_cons, List.map_nil, ev_ne, ev_eq, ev_const, put_size, hN9, ne_eq, Nat.reduceEqDiff, not_false_eq_true, Nat.reduceLT, e11, e13, e12, e14, h1, h2])
                        have hgu : ∀ (p q : Operand), (eqGuard .neq 36 p q x.val x.val).run Try.prog w7 = .ok () w7 := fun p q => run_eqGuard_agg w7 .neq 36 p q _ _ guardLr
                        (try simp [go_sem, hgu, hne, cL])
                      · intro v2 w7 hr hd
                        have h3 : v2 3 = .bool false := hd 3 (by kernel_rfl)
                        refine ⟨(fun j b h => nomatch h), ?_⟩
                        refine yields_run (u := .bool false) (w' := w7) ?_ (Below.refl _ _) rfl
                        unfold execOp
                        (try simp only [List.map_toArray, List.map_cons, List.map_nil, ev_ne, ev_eq, ev_const, put_size, hN9, ne_eq, Nat.reduceEqDiff, not_false_eq_true, Nat.reduceLT, e11, e13, e12, e14, h3])
                        (try simp [go_sem])
                      · intro v2 w7 hr hd
                        refine ⟨(fun j b h => by cases h; exact hd 4 (by kernel_rfl)), ?_⟩
                        refine yields_run (u := .int .i64 ee) (w' := w7) ?_ (Below.refl _ _) rfl
                        unfold execOp
                        (try simp only [List.map_toArray, List.map_cons, List.map_nil, ev_ne, ev_eq, ev_const, put_size, hN9, ne_eq, Nat.reduceEqDiff, not_false_eq_true, Nat.reduceLT, e11, e13, e12, e14])
                        (try simp [go_sem])
                      · intro v2 w7 hr hd
                        refine ⟨(fun j b h => by cases h; exact hd 4 (by kernel_rfl)), ?_⟩
                        refine yields_run (u := .int .i64 ee) (w' := w7) ?_ (Below.refl _ _) rfl
                        unfold execOp
                        (try simp only [List.map_toArray, List.map_cons, List.map_nil, ev_ne, ev_eq, ev_const, put_size, hN9, ne_eq, Nat.reduceEqDiff, not_false_eq_true, Nat.reduceLT, e11, e13, e12, e14])
                        (try simp [go_sem])
                      · intro v2 w7 hr hd
                        have h5 : v2 5 = .int .i64 ee := hd 5 (by kernel_rfl)
                        have h6 : v2 6 = .int .i64 ee := hd 6 (by kernel_rfl)
                        refine ⟨(fun j b h => by cases h; exact hd 4 (by kernel_rfl)), ?_⟩
                        refine yields_run (u := .bool false) (w' := w7) ?_ (Below.refl _ _) rfl
                        unfold execOp
                        (try simp only [List.map_toArray, List.map_cons, List.map_nil, ev_ne, ev_eq, ev_const, put_size, hN9, ne_eq, Nat.reduceEqDiff, not_false_eq_true, Nat.reduceLT, e11, e13, e12, e14, h5, h6])
                        (try simp [go_sem])
                      · intro v2 w7 hr hd
                        have h4 : v2 4 = .bool false := hd 4 (by kernel_rfl)
                        have h7 : v2 7 = .bool false := hd 7 (by kernel_rfl)
                        refine ⟨(fun j b h => nomatch h), ?_⟩
                        refine yields_run (u := .bool false) (w' := w7) ?_ (Below.refl _ _) rfl
                        unfold execOp
                        (try simp only [List.map_toArray, List.map_cons, List.map_nil, ev_ne, ev_eq, ev_const, put_size, hN9, ne_eq, Nat.reduceEqDiff, not_false_eq_true, Nat.reduceLT, e11, e13, e12, e14, h4, h7])
                        (try simp [go_sem])
                      · intro v2 w6 hr hv
                        have hz : v2 8 = .bool false := hv 8 (by decide) (by decide)
                        have hf := hfin v2
                        rw [HA9.out] at hf
                        simp [lexPut, Act.put, hz] at hf
                        rw [hf]
                        clear hf HA9 hN9 e11 e13 e12 e14 hfin
                        have C6 := Lib.hid (C5.out.more hr)
                        have X6 := Lib.hid (X5.out.below hr X5.out.inside)
                        clear hz hv hr C5 X5 XX XY
                        go_wp2_with fail
                        go_meet
                        case rel => exact ⟨V, C6, X6⟩
                  · have n1 : (ok == 1) = false := by simpa using q1
                    by_cases q2 : ok = 2
                    · subst q2
                      have HCP := Lib.hid (fun (w8 : World) (h : PP w.heap.size w8 ga W) => p_double h C5.out.m.good o.i rfl rfl)
                      have HCR := Lib.hid (fun (w8 : World) (h : PR w.heap.size w8 gb W) => q_double h C5.out.m.good o.i)
                      have M5 := Lib.hid (C5.out.m.double o.i)
                      generalize dblV W o.i = V at HCP HCR M5
                      generalize dblE W o.i = ee at HCP HCR
                      go_upto_region 23 with fail
                      clear x0 x3
                      refine wp_frame ?_
                      intro a9 ha9
                      have hN9 : a9.tmps.size = 232 := by rw [ha9]; rfl
                      have e5 : a9.eval (.tmp 5) = .pointer (some ⟨ga, 0, none⟩) := by rw [ha9]; rfl
                      have e7 : a9.eval (.tmp 7) = .pointer (some ⟨gb, 0, none⟩) := by rw [ha9]; rfl
                      have e10 : a9.eval (.tmp 10) = .pointer (some ⟨go, 0, none⟩) := by rw [ha9]; rfl
                      have HA9 := Lib.hid ha9
                      clear ha9
                      refine region_fullZ 232 [] [] [] (fun k => k == 3 || k == 7) (fun w7 => WBB w.heap.size w5 w7) ?hR ?r0 [pdOne 0 (Is (.pointer (some ⟨ga, 0, none⟩))), pdOne 1 (Is (.pointer (some ⟨go, 4, none⟩))), pdOne 2 (Is (.int .i64 o.i)), pdOne 3 (TelP w.heap.size ga V ee), pdOne 4 (Is (.pointer (some ⟨gb, 0, none⟩))), pdOne 5 (Is (.pointer (some ⟨go, 4, none⟩))), pdOne 6 (Is (.int .i64 o.i)), pdOne 7 (TelR w.heap.size gb V ee), pdOne 8 (Is (.bool false))] (fun k w7 => (k = 3 → PP w.heap.size w7 ga W) ∧ (k = 7 → PR w.heap.size w7 gb W)) (by kernel_rfl) hN9 (by kernel_rfl) (by kernel_rfl) (by kernel_rfl) (by kernel_rfl) (by kernel_rfl) ?keep ?hO ?h0 ?tell
                      case hR => exact fun w7 w8 hb h => h.later hb (Nat.le_trans C5.out.h.size h.below.size)
                      case r0 => exact WBB.refl _ _
                      case keep => exact ⟨keep_one (keeps_is _), keep_one (keeps_is _), keep_one (keeps_is _), keep_one (keeps_telP _ _ _ _), keep_one (keeps_is _), keep_one (keeps_is _), keep_one (keeps_is _), keep_one (keeps_telR _ _ _ _), keep_one (keeps_is _), trivial⟩
                      case hO => exact fun k w7 w8 hb ⟨h1, h2⟩ => ⟨fun e => (h1 e).below hb, fun e => (h2 e).below hb⟩
                      case h0 => exact fun k _ => ⟨fun _ => C5.out.p, fun _ => C5.out.r⟩
                      case tell =>
                        intro fin hfin
                        apply And.intro
                        case' left => (simp only [TellZ]; refine ⟨?_, ?_, ?_, ?_, ?_, ?_, ?_, ?_, ?_, trivial⟩)
                        · intro v2 w7 hr hd
                          refine ⟨(fun j b h => nomatch h), ?_⟩
                          refine yields_run (u := .pointer (some ⟨ga, 0, none⟩)) (w' := w7) ?_ (Below.refl _ _) rfl
                          unfold execOp
                          (try simp only [List.map_toArray, List.map_cons, List.map_nil, ev_ne, ev_eq, ev_const, put_size, hN9, ne_eq, Nat.reduceEqDiff, not_false_eq_true, Nat.reduceLT, e5, e7, e10])
                          (try simp [go_sem])
                        · intro v2 w7 hr hd
                          refine ⟨(fun j b h => nomatch h), ?_⟩
                          refine yields_run (u := .pointer (some ⟨go, 4, none⟩)) (w' := w7) ?_ (Below.refl _ _) rfl
                          unfold execOp
                          (try simp only [List.map_toArray, List.map_cons, List.map_nil, ev_ne, ev_eq, ev_const, put_size, hN9, ne_eq, Nat.reduceEqDiff, not_false_eq_true, Nat.reduceLT, e5, e7, e10])
                          (try simp [go_sem])
                        · intro v2 w7 hr hd
                          have h1 : v2 1 = .pointer (some ⟨go, 4, none⟩) := hd 1 (by kernel_rfl)
                          refine ⟨(fun j b h => nomatch h), ?_⟩
                          have hx : w7.cell? ⟨go, 4, none⟩ = some (.int .i64 o.i) := (Whole.wbb X5.out hr (by decide) (by decide) (by decide) (by decide)).read 4
                          refine yields_run (u := .int .i64 o.i) (w' := w7) ?_ (Below.refl _ _) rfl
                          unfold execOp
                          (try simp only [List.map_toArray, List.map_cons, List.map_nil, ev_ne, ev_eq, ev_const, put_size, hN9, ne_eq, Nat.reduceEqDiff, not_false_eq_true, Nat.reduceLT, e5, e7, e10, h1])
                          (try simp [go_sem, hx])
                        · intro v2 w7 hr ho hd
                          have h0 : v2 0 = .pointer (some ⟨ga, 0, none⟩) := hd 0 (by kernel_rfl)
                          have h2 : v2 2 = .int .i64 o.i := hd 2 (by kernel_rfl)
                          refine ⟨(fun j b h => nomatch h), ?_⟩
                          refine .inl (yieldsW_callR (f := 14) rfl (vs := #[.pointer (some ⟨ga, 0, none⟩), .int .i64 o.i]) (by simp only [List.map_toArray, List.map_cons, List.map_nil, ev_ne, ev_eq, ev_const, put_size, hN9, ne_eq, Nat.reduceEqDiff, not_false_eq_true, Nat.reduceLT, e5, e7, e10, h0, h2]) rfl Try.func14 (by kernel_rfl) (by kernel_rfl) ?_)
                          refine (HCP.out w7 (ho.1 trivial)).mono fun e1 w8 ⟨he, p8, q8⟩ => ⟨_, he, hr.trans (WBB.p q8), ?_, ?_, rfl, p8⟩
                          · intro k2 v' hk2 hc hu
                            exact match k2, hk2, hc, hu with
                              | 0, _, _, hu => hu
                              | 1, _, _, hu => hu
                              | 2, _, _, hu => hu
                              | 3, hk2, _, _ => absurd rfl hk2
                              | 4, _, _, hu => hu
                              | 5, _, _, hu => hu
                              | 6, _, _, hu => hu
                              | 7, _, _, hu => ⟨hu.1, PR.wb hu.2 q8⟩
                              | 8, _, _, hu => hu
                              | _ + 9, _, _, _ => trivial
                          · intro k2 hk2 hn hc2 ⟨h1, h2⟩
                            exact ⟨fun e => absurd e hk2, fun e => PR.wb (h2 e) q8⟩
                        · intro v2 w7 hr hd
                          refine ⟨(fun j b h => nomatch h), ?_⟩
                          refine yields_run (u := .pointer (some ⟨gb, 0, none⟩)) (w' := w7) ?_ (Below.refl _ _) rfl
                          unfold execOp
                          (try simp only [List.map_toArray, List.map_cons, List.map_nil, ev_ne, ev_eq, ev_const, put_size, hN9, ne_eq, Nat.reduceEqDiff, not_false_eq_true, Nat.reduceLT, e5, e7, e10])
                          (try simp [go_sem])
                        · intro v2 w7 hr hd
                          refine ⟨(fun j b h => nomatch h), ?_⟩
                          refine yields_run (u := .pointer (some ⟨go, 4, none⟩)) (w' := w7) ?_ (Below.refl _ _) rfl
                          unfold execOp
                          (try simp only [List.map_toArray, List.map_cons, List.map_nil, ev_ne, ev_eq, ev_const, put_size, hN9, ne_eq, Nat.reduceEqDiff, not_false_eq_true, Nat.reduceLT, e5, e7, e10])
                          (try simp [go_sem])
                        · intro v2 w7 hr hd
                          have h5 : v2 5 = .pointer (some ⟨go, 4, none⟩) := hd 5 (by kernel_rfl)
                          refine ⟨(fun j b h => nomatch h), ?_⟩
                          have hx : w7.cell? ⟨go, 4, none⟩ = some (.int .i64 o.i) := (Whole.wbb X5.out hr (by decide) (by decide) (by decide) (by decide)).read 4
                          refine yields_run (u := .int .i64 o.i) (w' := w7) ?_ (Below.refl _ _) rfl
                          unfold execOp
                          (try simp only [List.map_toArray, List.map_cons, List.map_nil, ev_ne, ev_eq, ev_const, put_size, hN9, ne_eq, Nat.reduceEqDiff, not_false_eq_true, Nat.reduceLT, e5, e7, e10, h5])
                          (try simp [go_sem, hx])
                        · intro v2 w7 hr ho hd
                          have h4 : v2 4 = .pointer (some ⟨gb, 0, none⟩) := hd 4 (by kernel_rfl)
                          have h6 : v2 6 = .int .i64 o.i := hd 6 (by kernel_rfl)
                          refine ⟨(fun j b h => nomatch h), ?_⟩
                          refine .inl (yieldsW_callR (f := 15) rfl (vs := #[.pointer (some ⟨gb, 0, none⟩), .int .i64 o.i]) (by simp only [List.map_toArray, List.map_cons, List.map_nil, ev_ne, ev_eq, ev_const, put_size, hN9, ne_eq, Nat.reduceEqDiff, not_false_eq_true, Nat.reduceLT, e5, e7, e10, h4, h6]) rfl Try.func15 (by kernel_rfl) (by kernel_rfl) ?_)
                          refine (HCR.out w7 (ho.2 trivial)).mono fun e1 w8 ⟨he, p8, q8⟩ => ⟨_, he, hr.trans (WBB.r q8), ?_, ?_, rfl, p8⟩
                          · intro k2 v' hk2 hc hu
                            exact match k2, hk2, hc, hu with
                              | 0, _, _, hu => hu
                              | 1, _, _, hu => hu
                              | 2, _, _, hu => hu
                              | 3, _, _, hu => ⟨hu.1, PP.wb hu.2 q8⟩
                              | 4, _, _, hu => hu
                              | 5, _, _, hu => hu
                              | 6, _, _, hu => hu
                              | 7, hk2, _, _ => absurd rfl hk2
                              | 8, _, _, hu => hu
                              | _ + 9, _, _, _ => trivial
                          · intro k2 hk2 hn hc2 ⟨h1, h2⟩
                            exact ⟨fun e => PP.wb (h1 e) q8, fun e => absurd e hk2⟩
                        · intro v2 w7 hr hd
                          have hq3 := hd 3 (by kernel_rfl)
                          have h3 : v2 3 = .int .i64 ee := hq3.1
                          have hq7 := hd 7 (by kernel_rfl)
                          have h7 : v2 7 = .int .i64 ee := hq7.1
                          refine ⟨(fun j b h => nomatch h), ?_⟩
                          refine yields_run (u := .bool false) (w' := w7) ?_ (Below.refl _ _) rfl
                          unfold execOp
                          (try simp only [List.map_toArray, List.map_cons, List.map_nil, ev_ne, ev_eq, ev_const, put_size, hN9, ne_eq, Nat.reduceEqDiff, not_false_eq_true, Nat.reduceLT, e5, e7, e10, h3, h7])
                          (try simp [go_sem])
                        · intro v2 w6 hr hv
                          obtain ⟨-, hP⟩ : TelP w.heap.size ga V ee (v2 3) w6 := hv 3 (by decide) (by decide)
                          obtain ⟨-, hRR⟩ : TelR w.heap.size gb V ee (v2 7) w6 := hv 7 (by decide) (by decide)
                          have hz : v2 8 = .bool false := hv 8 (by decide) (by decide)
                          have C6 : Hid (Dw w ga gb w6 (j + 1) V) := Lib.hid ⟨M5.out, hP, hRR, C5.out.h.trans hr.below⟩
                          have X6 := Lib.hid (Whole.wbb X5.out hr (by decide) (by decide) (by decide) (by decide))
                          have hf := hfin v2
                          rw [HA9.out] at hf
                          simp [lexPut, Act.put, hz] at hf
                          rw [hf]
                          clear hf HA9 hN9 e5 e7 e10 hfin
                          clear hP hRR hz hv hr C5 X5 HCP HCR M5
                          go_wp2_with fail
                          go_meet
                          case rel => exact ⟨V, C6, X6⟩
                    · have n2 : (ok == 2) = false := by simpa using q2
                      have HCP := Lib.hid (fun (w8 : World) (h : PP w.heap.size w8 ga W) => p_cut h C5.out.m.good hc2 o.f o.t o.o rfl rfl)
                      have HCR := Lib.hid (fun (w8 : World) (h : PR w.heap.size w8 gb W) => q_cut h C5.out.m.good hc2 o.f o.t o.o)
                      have M5 := Lib.hid (C5.out.m.cut (by omega) o.f o.t o.o)
                      generalize cutV W o.f o.t o.o = V at HCP HCR M5
                      generalize cutE W o.f o.t = ee at HCP HCR
                      go_upto_region 12 with fail
                      clear x0 x3
                      refine wp_frame ?_
                      intro a9 ha9
                      have hN9 : a9.tmps.size = 232 := by rw [ha9]; rfl
                      have e5 : a9.eval (.tmp 5) = .pointer (some ⟨ga, 0, none⟩) := by rw [ha9]; rfl
                      have e7 : a9.eval (.tmp 7) = .pointer (some ⟨gb, 0, none⟩) := by rw [ha9]; rfl
                      have e10 : a9.eval (.tmp 10) = .pointer (some ⟨go, 0, none⟩) := by rw [ha9]; rfl
                      have HA9 := Lib.hid ha9
                      clear ha9
                      refine region_fullZ 232 [] [] [] (fun k => k == 7 || k == 15) (fun w7 => WBB w.heap.size w5 w7) ?hR ?r0 [pdOne 0 (Is (.pointer (some ⟨ga, 0, none⟩))), pdOne 1 (Is (.pointer (some ⟨go, 1, none⟩))), pdOne 2 (Is (.int .i64 o.f)), pdOne 3 (Is (.pointer (some ⟨go, 2, none⟩))), pdOne 4 (Is (.int .i64 o.t)), pdOne 5 (Is (.pointer (some ⟨go, 5, none⟩))), pdOne 6 (Is (.bool o.o)), pdOne 7 (TelP w.heap.size ga V ee), pdOne 8 (Is (.pointer (some ⟨gb, 0, none⟩))), pdOne 9 (Is (.pointer (some ⟨go, 1, none⟩))), pdOne 10 (Is (.int .i64 o.f)), pdOne 11 (Is (.pointer (some ⟨go, 2, none⟩))), pdOne 12 (Is (.int .i64 o.t)), pdOne 13 (Is (.pointer (some ⟨go, 5, none⟩))), pdOne 14 (Is (.bool o.o)), pdOne 15 (TelR w.heap.size gb V ee), pdOne 16 (Is (.bool false))] (fun k w7 => (k = 7 → PP w.heap.size w7 ga W) ∧ (k = 15 → PR w.heap.size w7 gb W)) (by kernel_rfl) hN9 (by kernel_rfl) (by kernel_rfl) (by kernel_rfl) (by kernel_rfl) (by kernel_rfl) ?keep ?hO ?h0 ?tell
                      case hR => exact fun w7 w8 hb h => h.later hb (Nat.le_trans C5.out.h.size h.below.size)
                      case r0 => exact WBB.refl _ _
                      case keep => exact ⟨keep_one (keeps_is _), keep_one (keeps_is _), keep_one (keeps_is _), keep_one (keeps_is _), keep_one (keeps_is _), keep_one (keeps_is _), keep_one (keeps_is _), keep_one (keeps_telP _ _ _ _), keep_one (keeps_is _), keep_one (keeps_is _), keep_one (keeps_is _), keep_one (keeps_is _), keep_one (keeps_is _), keep_one (keeps_is _), keep_one (keeps_is _), keep_one (keeps_telR _ _ _ _), keep_one (keeps_is _), trivial⟩
                      case hO => exact fun k w7 w8 hb ⟨h1, h2⟩ => ⟨fun e => (h1 e).below hb, fun e => (h2 e).below hb⟩
                      case h0 => exact fun k _ => ⟨fun _ => C5.out.p, fun _ => C5.out.r⟩
                      case tell =>
                        intro fin hfin
                        apply And.intro
                        case' left => (simp only [TellZ]; refine ⟨?_, ?_, ?_, ?_, ?_, ?_, ?_, ?_, ?_, ?_, ?_, ?_, ?_, ?_, ?_, ?_, ?_, trivial⟩)
                        · intro v2 w7 hr hd
                          refine ⟨(fun j b h => nomatch h), ?_⟩
                          refine yields_run (u := .pointer (some ⟨ga, 0, none⟩)) (w' := w7) ?_ (Below.refl _ _) rfl
                          unfold execOp
                          (try simp only [List.map_toArray, List.map_cons, List.map_nil, ev_ne, ev_eq, ev_const, put_size, hN9, ne_eq, Nat.reduceEqDiff, not_false_eq_true, Nat.reduceLT, e5, e7, e10])
                          (try simp [go_sem])
                        · intro v2 w7 hr hd
                          refine ⟨(fun j b h => nomatch h), ?_⟩
                          refine yields_run (u := .pointer (some ⟨go, 1, none⟩)) (w' := w7) ?_ (Below.refl _ _) rfl
                          unfold execOp
                          (try simp only [List.map_toArray, List.map_cons, List.map_nil, ev_ne, ev_eq, ev_const, put_size, hN9, ne_eq, Nat.reduceEqDiff, not_false_eq_true, Nat.reduceLT, e5, e7, e10])
                          (try simp [go_sem])
                        · intro v2 w7 hr hd
                          have h1 : v2 1 = .pointer (some ⟨go, 1, none⟩) := hd 1 (by kernel_rfl)
                          refine ⟨(fun j b h => nomatch h), ?_⟩
                          have hx : w7.cell? ⟨go, 1, none⟩ = some (.int .i64 o.f) := (Whole.wbb X5.out hr (by decide) (by decide) (by decide) (by decide)).read 1
                          refine yields_run (u := .int .i64 o.f) (w' := w7) ?_ (Below.refl _ _) rfl
                          unfold execOp
                          (try simp only [List.map_toArray, List.map_cons, List.map_nil, ev_ne, ev_eq, ev_const, put_size, hN9, ne_eq, Nat.reduceEqDiff, not_false_eq_true, Nat.reduceLT, e5, e7, e10, h1])
                          (try simp [go_sem, hx])
                        · intro v2 w7 hr hd
                          refine ⟨(fun j b h => nomatch h), ?_⟩
                          refine yields_run (u := .pointer (some ⟨go, 2, none⟩)) (w' := w7) ?_ (Below.refl _ _) rfl
                          unfold execOp
                          (try simp only [List.map_toArray, List.map_cons, List.map_nil, ev_ne, ev_eq, ev_const, put_size, hN9, ne_eq, Nat.reduceEqDiff, not_false_eq_true, Nat.reduceLT, e5, e7, e10])
                          (try simp [go_sem])
                        · intro v2 w7 hr hd
                          have h3 : v2 3 = .pointer (some ⟨go, 2, none⟩) := hd 3 (by kernel_rfl)
                          refine ⟨(fun j b h => nomatch h), ?_⟩
                          have hx : w7.cell? ⟨go, 2, none⟩ = some (.int .i64 o.t) := (Whole.wbb X5.out hr (by decide) (by decide) (by decide) (by decide)).read 2
                          refine yields_run (u := .int .i64 o.t) (w' := w7) ?_ (Below.refl _ _) rfl
                          unfold execOp
                          (try simp only [List.map_toArray, List.map_cons, List.map_nil, ev_ne, ev_eq, ev_const, put_size, hN9, ne_eq, Nat.reduceEqDiff, not_false_eq_true, Nat.reduceLT, e5, e7, e10, h3])
                          (try simp [go_sem, hx])
                        · intro v2 w7 hr hd
                          refine ⟨(fun j b h => nomatch h), ?_⟩
                          refine yields_run (u := .pointer (some ⟨go, 5, none⟩)) (w' := w7) ?_ (Below.refl _ _) rfl
                          unfold execOp
                          (try simp only [List.map_toArray, List.map_cons, List.map_nil, ev_ne, ev_eq, ev_const, put_size, hN9, ne_eq, Nat.reduceEqDiff, not_false_eq_true, Nat.reduceLT, e5, e7, e10])
                          (try simp [go_sem])
                        · intro v2 w7 hr hd
                          have h5 : v2 5 = .pointer (some ⟨go, 5, none⟩) := hd 5 (by kernel_rfl)
                          refine ⟨(fun j b h => nomatch h), ?_⟩
                          have hx : w7.cell? ⟨go, 5, none⟩ = some (.bool o.o) := (Whole.wbb X5.out hr (by decide) (by decide) (by decide) (by decide)).read 5
                          refine yields_run (u := .bool o.o) (w' := w7) ?_ (Below.refl _ _) rfl
                          unfold execOp
                          (try simp only [List.map_toArray, List.map_cons, List.map_nil, ev_ne, ev_eq, ev_const, put_size, hN9, ne_eq, Nat.reduceEqDiff, not_false_eq_true, Nat.reduceLT, e5, e7, e10, h5])
                          (try simp [go_sem, hx])
                        · intro v2 w7 hr ho hd
                          have h0 : v2 0 = .pointer (some ⟨ga, 0, none⟩) := hd 0 (by kernel_rfl)
                          have h2 : v2 2 = .int .i64 o.f := hd 2 (by kernel_rfl)
                          have h4 : v2 4 = .int .i64 o.t := hd 4 (by kernel_rfl)
                          have h6 : v2 6 = .bool o.o := hd 6 (by kernel_rfl)
                          refine ⟨(fun j b h => nomatch h), ?_⟩
                          refine .inl (yieldsW_callR (f := 16) rfl (vs := #[.pointer (some ⟨ga, 0, none⟩), .int .i64 o.f, .int .i64 o.t, .bool o.o]) (by simp only [List.map_toArray, List.map_cons, List.map_nil, ev_ne, ev_eq, ev_const, put_size, hN9, ne_eq, Nat.reduceEqDiff, not_false_eq_true, Nat.reduceLT, e5, e7, e10, h0, h2, h4, h6]) rfl Try.func16 (by kernel_rfl) (by kernel_rfl) ?_)
                          refine (HCP.out w7 (ho.1 trivial)).mono fun e1 w8 ⟨he, p8, q8⟩ => ⟨_, he, hr.trans (WBB.p q8), ?_, ?_, rfl, p8⟩
                          · intro k2 v' hk2 hc hu
                            exact match k2, hk2, hc, hu with
                              | 0, _, _, hu => hu
                              | 1, _, _, hu => hu
                              | 2, _, _, hu => hu
                              | 3, _, _, hu => hu
                              | 4, _, _, hu => hu
                              | 5, _, _, hu => hu
                              | 6, _, _, hu => hu
                              | 7, hk2, _, _ => absurd rfl hk2
                              | 8, _, _, hu => hu
                              | 9, _, _, hu => hu
                              | 10, _, _, hu => hu
                              | 11, _, _, hu => hu
                              | 12, _, _, hu => hu
                              | 13, _, _, hu => hu
                              | 14, _, _, hu => hu
                              | 15, _, _, hu => ⟨hu.1, PR.wb hu.2 q8⟩
                              | 16, _, _, hu => hu
                              | _ + 17, _, _, _ => trivial
                          · intro k2 hk2 hn hc2 ⟨h1, h2⟩
                            exact ⟨fun e => absurd e hk2, fun e => PR.wb (h2 e) q8⟩
                        · intro v2 w7 hr hd
                          refine ⟨(fun j b h => nomatch h), ?_⟩
                          refine yields_run (u := .pointer (some ⟨gb, 0, none⟩)) (w' := w7) ?_ (Below.refl _ _) rfl
                          unfold execOp
                          (try simp only [List.map_toArray, List.map_cons, List.map_nil, ev_ne, ev_eq, ev_const, put_size, hN9, ne_eq, Nat.reduceEqDiff, not_false_eq_true, Nat.reduceLT, e5, e7, e10])
                          (try simp [go_sem])
                        · intro v2 w7 hr hd
                          refine ⟨(fun j b h => nomatch h), ?_⟩
                          refine yields_run (u := .pointer (some ⟨go, 1, none⟩)) (w' := w7) ?_ (Below.refl _ _) rfl
                          unfold execOp
                          (try simp only [List.map_toArray, List.map_cons, List.map_nil, ev_ne, ev_eq, ev_const, put_size, hN9, ne_eq, Nat.reduceEqDiff, not_false_eq_true, Nat.reduceLT, e5, e7, e10])
                          (try simp [go_sem])
                        · intro v2 w7 hr hd
                          have h9 : v2 9 = .pointer (some ⟨go, 1, none⟩) := hd 9 (by kernel_rfl)
                          refine ⟨(fun j b h => nomatch h), ?_⟩
                          have hx : w7.cell? ⟨go, 1, none⟩ = some (.int .i64 o.f) := (Whole.wbb X5.out hr (by decide) (by decide) (by decide) (by decide)).read 1
                          refine yields_run (u := .int .i64 o.f) (w' := w7) ?_ (Below.refl _ _) rfl
                          unfold execOp
                          (try simp only [List.map_toArray, List.map_cons, List.map_nil, ev_ne, ev_eq, ev_const, put_size, hN9, ne_eq, Nat.reduceEqDiff, not_false_eq_true, Nat.reduceLT, e5, e7, e10, h9])
                          (try simp [go_sem, hx])
                        · intro v2 w7 hr hd
                          refine ⟨(fun j b h => nomatch h), ?_⟩
                          refine yields_run (u := .pointer (some ⟨go, 2, none⟩)) (w' := w7) ?_ (Below.refl _ _) rfl
                          unfold execOp
                          (try simp only [List.map_toArray, List.map_cons, List.map_nil, ev_ne, ev_eq, ev_const, put_size, hN9, ne_eq, Nat.reduceEqDiff, not_false_eq_true, Nat.reduceLT, e5, e7, e10])
                          (try simp [go_sem])
                        · intro v2 w7 hr hd
                          have h11 : v2 11 = .pointer (some ⟨go, 2, none⟩) := hd 11 (by kernel_rfl)
                          refine ⟨(fun j b h => nomatch h), ?_⟩
                          have hx : w7.cell? ⟨go, 2, none⟩ = some (.int .i64 o.t) := (Whole.wbb X5.out hr (by decide) (by decide) (by decide) (by decide)).read 2
                          refine yields_run (u := .int .i64 o.t) (w' := w7) ?_ (Below.refl _ _) rfl
                          unfold execOp
                          (try simp only [List.map_toArray, List.map_cons, List.map_nil, ev_ne, ev_eq, ev_const, put_size, hN9, ne_eq, Nat.reduceEqDiff, not_false_eq_true, Nat.reduceLT, e5, e7, e10, h11])
                          (try simp [go_sem, hx])
                        · intro v2 w7 hr hd
                          refine ⟨(fun j b h => nomatch h), ?_⟩
                          refine yields_run (u := .pointer (some ⟨go, 5, none⟩)) (w' := w7) ?_ (Below.refl _ _) rfl
                          unfold execOp
                          (try simp only [List.map_toArray, List.map_cons, List.map_nil, ev_ne, ev_eq, ev_const, put_size, hN9, ne_eq, Nat.reduceEqDiff, not_false_eq_true, Nat.reduceLT, e5, e7, e10])
                          (try simp [go_sem])
                        · intro v2 w7 hr hd
                          have h13 : v2 13 = .pointer (some ⟨go, 5, none⟩) := hd 13 (by kernel_rfl)
                          refine ⟨(fun j b h => nomatch h), ?_⟩
                          have hx : w7.cell? ⟨go, 5, none⟩ = some (.bool o.o) := (Whole.wbb X5.out hr (by decide) (by decide) (by decide) (by decide)).read 5
                          refine yields_run (u := .bool o.o) (w' := w7) ?_ (Below.refl _ _) rfl
                          unfold execOp
                          (try simp only [List.map_toArray, List.map_cons, List.map_nil, ev_ne, ev_eq, ev_const, put_size, hN9, ne_eq, Nat.reduceEqDiff, not_false_eq_true, Nat.reduceLT, e5, e7, e10, h13])
                          (try simp [go_sem, hx])
                        · intro v2 w7 hr ho hd
                          have h8 : v2 8 = .pointer (some ⟨gb, 0, none⟩) := hd 8 (by kernel_rfl)
                          have h10 : v2 10 = .int .i64 o.f := hd 10 (by kernel_rfl)
                          have h12 : v2 12 = .int .i64 o.t := hd 12 (by kernel_rfl)
                          have h14 : v2 14 = .bool o.o := hd 14 (by kernel_rfl)
                          refine ⟨(fun j b h => nomatch h), ?_⟩
                          refine .inl (yieldsW_callR (f := 17) rfl (vs := #[.pointer (some ⟨gb, 0, none⟩), .int .i64 o.f, .int .i64 o.t, .bool o.o]) (by simp only [List.map_toArray, List.map_cons, List.map_nil, ev_ne, ev_eq, ev_const, put_size, hN9, ne_eq, Nat.reduceEqDiff, not_false_eq_true, Nat.reduceLT, e5, e7, e10, h8, h10, h12, h14]) rfl Try.func17 (by kernel_rfl) (by kernel_rfl) ?_)
                          refine (HCR.out w7 (ho.2 trivial)).mono fun e1 w8 ⟨he, p8, q8⟩ => ⟨_, he, hr.trans (WBB.r q8), ?_, ?_, rfl, p8⟩
                          · intro k2 v' hk2 hc hu
                            exact match k2, hk2, hc, hu with
                              | 0, _, _, hu => hu
                              | 1, _, _, hu => hu
                              | 2, _, _, hu => hu
                              | 3, _, _, hu => hu
                              | 4, _, _, hu => hu
                              | 5, _, _, hu => hu
                              | 6, _, _, hu => hu
                              | 7, _, _, hu => ⟨hu.1, PP.wb hu.2 q8⟩
                              | 8, _, _, hu => hu
                              | 9, _, _, hu => hu
                              | 10, _, _, hu => hu
                              | 11, _, _, hu => hu
                              | 12, _, _, hu => hu
                              | 13, _, _, hu => hu
                              | 14, _, _, hu => hu
                              | 15, hk2, _, _ => absurd rfl hk2
                              | 16, _, _, hu => hu
                              | _ + 17, _, _, _ => trivial
                          · intro k2 hk2 hn hc2 ⟨h1, h2⟩
                            exact ⟨fun e => PP.wb (h1 e) q8, fun e => absurd e hk2⟩
                        · intro v2 w7 hr hd
                          have hq7 := hd 7 (by kernel_rfl)
                          have h7 : v2 7 = .int .i64 ee := hq7.1
                          have hq15 := hd 15 (by kernel_rfl)
                          have h15 : v2 15 = .int .i64 ee := hq15.1
                          refine ⟨(fun j b h => nomatch h), ?_⟩
                          refine yields_run (u := .bool false) (w' := w7) ?_ (Below.refl _ _) rfl
                          unfold execOp
                          (try simp only [List.map_toArray, List.map_cons, List.map_nil, ev_ne, ev_eq, ev_const, put_size, hN9, ne_eq, Nat.reduceEqDiff, not_false_eq_true, Nat.reduceLT, e5, e7, e10, h7, h15])
                          (try simp [go_sem])
                        · intro v2 w6 hr hv
                          obtain ⟨-, hP⟩ : TelP w.heap.size ga V ee (v2 7) w6 := hv 7 (by decide) (by decide)
                          obtain ⟨-, hRR⟩ : TelR w.heap.size gb V ee (v2 15) w6 := hv 15 (by decide) (by decide)
                          have hz : v2 16 = .bool false := hv 16 (by decide) (by decide)
                          have C6 : Hid (Dw w ga gb w6 (j + 1) V) := Lib.hid ⟨M5.out, hP, hRR, C5.out.h.trans hr.below⟩
                          have X6 := Lib.hid (Whole.wbb X5.out hr (by decide) (by decide) (by decide) (by decide))
                          have hf := hfin v2
                          rw [HA9.out] at hf
                          simp [lexPut, Act.put, hz] at hf
                          rw [hf]
                          clear hf HA9 hN9 e5 e7 e10 hfin
                          clear hP hRR hz hv hr C5 X5 HCP HCR M5
                          go_wp2_with fail
                          go_meet
                          case rel => exact ⟨V, C6, X6⟩
              case rest => as_aux_lemma =>
                obtain ⟨W, HC9, HX9⟩ := hcut
                obtain ⟨A2, c2, hR2⟩ := HC9.out.r
                have HR2 := Lib.hid hR2
                clear C5 X5 x0 x3 hc1 hc2 hR2
                rename World => w5
                have C5 := Lib.hid HC9.out
                have X5 := Lib.hid HX9.out
                go_upto_region 25 with fail
                refine wp_frame ?_
                intro a9 ha9
                have hN9 : a9.tmps.size = 232 := by rw [ha9]; rfl
                have e5 : a9.eval (.tmp 5) = .pointer (some ⟨ga, 0, none⟩) := by rw [ha9]; rfl
                have e7 : a9.eval (.tmp 7) = .pointer (some ⟨gb, 0, none⟩) := by rw [ha9]; rfl
                have e10 : a9.eval (.tmp 10) = .pointer (some ⟨go, 0, none⟩) := by rw [ha9]; rfl
                have HA9 := Lib.hid ha9
                clear ha9
                refine region_fullZ 232 [] [] [] (fun k => false) (fun w7 => Below w5.heap.size w5 w7) ?hR ?r0 [pdOne 0 (Is (.pointer (some ⟨ga, 0, none⟩))), pdOne 1 (Is (.int .i64 (W.L.length : Int))), pdOne 2 (Is (.pointer (some ⟨gb, 0, none⟩))), pdOne 3 (Is (.pointer (some ⟨gb, 0, none⟩))), pdOne 4 (Is (.pointer (some ⟨gb, 1, none⟩))), pdOne 5 (Is (.slice A2 W.L.length c2)), pdOne 6 (Is (.int .i64 (W.L.length : Int))), pdOne 7 (Is (.bool false)), pdOne 8 (Is (.bool false)), pdOne 9 (Is (.pointer (some ⟨ga, 0, none⟩))), pdOne 10 (Is (.int .i64 W.c)), pdOne 11 (Is (.pointer (some ⟨gb, 0, none⟩))), pdOne 12 (Is (.pointer (some ⟨gb, 0, none⟩))), pdOne 13 (Is (.pointer (some ⟨gb, 258, none⟩))), pdOne 14 (Is (.int .i64 W.c)), pdOne 15 (Is (.bool false)), pdOne 16 (Is (.bool false)), pdOne 17 (Is (.bool false)), pdOne 18 (Is (.pointer (some ⟨ga, 0, none⟩))), pdOne 19 (Is (.pointer (some ⟨go, 1, none⟩))), pdOne 20 (Is (.int .i64 o.f)), pdOne 21 (Is (.pointer (some ⟨go, 2, none⟩))), pdOne 22 (Is (.int .i64 o.t)), pdOne 23 (Is (.bool (outB W o.f o.t))), pdOne 24 (Is (.pointer (some ⟨gb, 0, none⟩))), pdOne 25 (Is (.pointer (some ⟨go, 1, none⟩))), pdOne 26 (Is (.int .i64 o.f)), pdOne 27 (Is (.pointer (some ⟨go, 2, none⟩))), pdOne 28 (Is (.int .i64 o.t)), pdOne 29 (Is (.bool (outB W o.f o.t))), pdOne 30 (Is (.bool false)), pdOne 31 (Is (.bool false))] (fun k w7 => True) (by kernel_rfl) hN9 (by kernel_rfl) (by kernel_rfl) (by kernel_rfl) (by kernel_rfl) (by kernel_rfl) ?keep ?hO ?h0 ?tell
                case hR => exact fun w7 w8 hb h => then_below h hb
                case r0 => exact Below.refl _ _
                case keep => exact ⟨keep_one (keeps_is _), keep_one (keeps_is _), keep_one (keeps_is _), keep_one (keeps_is _), keep_one (keeps_is _), keep_one (keeps_is _), keep_one (keeps_is _), keep_one (keeps_is _), keep_one (keeps_is _), keep_one (keeps_is _), keep_one (keeps_is _), keep_one (keeps_is _), keep_one (keeps_is _), keep_one (keeps_is _), keep_one (keeps_is _), keep_one (keeps_is _), keep_one (keeps_is _), keep_one (keeps_is _), keep_one (keeps_is _), keep_one (keeps_is _), keep_one (keeps_is _), keep_one (keeps_is _), keep_one (keeps_is _), keep_one (keeps_is _), keep_one (keeps_is _), keep_one (keeps_is _), keep_one (keeps_is _), keep_one (keeps_is _), keep_one (keeps_is _), keep_one (keeps_is _), keep_one (keeps_is _), keep_one (keeps_is _), trivial⟩
                case hO => exact fun _ _ _ _ h => h
                case h0 => exact fun _ _ => trivial
                case tell =>
                  intro fin hfin
                  apply And.intro
                  case' left => (simp only [TellZ]; refine ⟨?_, ?_, ?_, ?_, ?_, ?_, ?_, ?_, ?_, ?_, ?_, ?_, ?_, ?_, ?_, ?_, ?_, ?_, ?_, ?_, ?_, ?_, ?_, ?_, ?_, ?_, ?_, ?_, ?_, ?_, ?_, ?_, trivial⟩)
                  · intro v2 w7 hr hd
                    refine ⟨(fun j b h => nomatch h), ?_⟩
                    refine yields_run (u := .pointer (some ⟨ga, 0, none⟩)) (w' := w7) ?_ (Below.refl _ _) rfl
                    unfold execOp
                    (try simp only [List.map_toArray, List.map_cons, List.map_nil, ev_ne, ev_eq, ev_const, put_size, hN9, ne_eq, Nat.reduceEqDiff, not_false_eq_true, Nat.reduceLT, e5, e7, e10])
                    (try simp [go_sem])
                  · intro v2 w7 hr hd
                    have h0 : v2 0 = .pointer (some ⟨ga, 0, none⟩) := hd 0 (by kernel_rfl)
                    refine ⟨(fun j b h => nomatch h), ?_⟩
                    have hD7 := C5.out.more hr
                    refine yields_call (f := 18) rfl (vs := #[.pointer (some ⟨ga, 0, none⟩)]) (by simp only [List.map_toArray, List.map_cons, List.map_nil, ev_ne, ev_eq, ev_const, put_size, hN9, ne_eq, Nat.reduceEqDiff, not_false_eq_true, Nat.reduceLT, e5, e7, e10, h0]) rfl Try.func18 (by kernel_rfl) (by kernel_rfl) ((r_waits hD7.p).mono fun e w8 ⟨he, hb⟩ => ⟨_, he, hb, rfl⟩)
                  · intro v2 w7 hr hd
                    refine ⟨(fun j b h => nomatch h), ?_⟩
                    refine yields_run (u := .pointer (some ⟨gb, 0, none⟩)) (w' := w7) ?_ (Below.refl _ _) rfl
                    unfold execOp
                    (try simp only [List.map_toArray, List.map_cons, List.map_nil, ev_ne, ev_eq, ev_const, put_size, hN9, ne_eq, Nat.reduceEqDiff, not_false_eq_true, Nat.reduceLT, e5, e7, e10])
                    (try simp [go_sem])
                  · intro v2 w7 hr hd
                    have h2 : v2 2 = .pointer (some ⟨gb, 0, none⟩) := hd 2 (by kernel_rfl)
                    refine ⟨(fun j b h => nomatch h), ?_⟩
                    exact yields_nilCheck rfl (by simp only [List.map_toArray, List.map_cons, List.map_nil, ev_ne, ev_eq, ev_const, put_size, hN9, ne_eq, Nat.reduceEqDiff, not_false_eq_true, Nat.reduceLT, e5, e7, e10, h2])
                  · intro v2 w7 hr hd
                    have h3 : v2 3 = .pointer (some ⟨gb, 0, none⟩) := hd 3 (by kernel_rfl)
                    refine ⟨(fun j b h => nomatch h), ?_⟩
                    refine yields_run (u := .pointer (some ⟨gb, 1, none⟩)) (w' := w7) ?_ (Below.refl _ _) rfl
                    unfold execOp
                    (try simp only [List.map_toArray, List.map_cons, List.map_nil, ev_ne, ev_eq, ev_const, put_size, hN9, ne_eq, Nat.reduceEqDiff, not_false_eq_true, Nat.reduceLT, e5, e7, e10, h3])
                    (try simp [go_sem])
                  · intro v2 w7 hr hd
                    have h4 : v2 4 = .pointer (some ⟨gb, 1, none⟩) := hd 4 (by kernel_rfl)
                    refine ⟨(fun j b h => nomatch h), ?_⟩
                    have hc : w7.cell? ⟨gb, 1, none⟩ = some (.slice A2 W.L.length c2) := wan_l (HR2.out.below hr)
                    have hf : w7.frozen? ⟨gb, 1, none⟩ = false := (HR2.out.below hr).cell.soft 1
                    refine yields_run (u := .slice A2 W.L.length c2) (w' := w7) ?_ (Below.refl _ _) rfl
                    unfold execOp
                    (try simp only [List.map_toArray, List.map_cons, List.map_nil, ev_ne, ev_eq, ev_const, put_size, hN9, ne_eq, Nat.reduceEqDiff, not_false_eq_true, Nat.reduceLT, e5, e7, e10, h4])
                    (try simp [go_sem, hc, hf])
                  · intro v2 w7 hr hd
                    have h5 : v2 5 = .slice A2 W.L.length c2 := hd 5 (by kernel_rfl)
                    refine ⟨(fun j b h => nomatch h), ?_⟩
                    exact yields_len (A := A2) (n := W.L.length) (c := c2) rfl Try.underlying45 (by simp only [List.map_toArray, List.map_cons, List.map_nil, ev_ne, ev_eq, ev_const, put_size, hN9, ne_eq, Nat.reduceEqDiff, not_false_eq_true, Nat.reduceLT, e5, e7, e10, h5])
                  · intro v2 w7 hr hd
                    have h1 : v2 1 = .int .i64 (W.L.length : Int) := hd 1 (by kernel_rfl)
                    have h6 : v2 6 = .int .i64 (W.L.length : Int) := hd 6 (by kernel_rfl)
                    refine ⟨(fun j b h => nomatch h), ?_⟩
                    refine yields_run (u := .bool false) (w' := w7) ?_ (Below.refl _ _) rfl
                    unfold execOp
                    (try simp only [List.map_toArray, List.map_cons, List.map_nil, ev_ne, ev_eq, ev_const, put_size, hN9, ne_eq, Nat.reduceEqDiff, not_false_eq_true, Nat.reduceLT, e5, e7, e10, h1, h6])
                    (try simp [go_sem])
                  · intro v2 w7 hr hd
                    have h7 : v2 7 = .bool false := hd 7 (by kernel_rfl)
                    refine ⟨(fun j b h => nomatch h), ?_⟩
                    refine yields_run (u := .bool false) (w' := w7) ?_ (Below.refl _ _) rfl
                    unfold execOp
                    (try simp only [List.map_toArray, List.map_cons, List.map_nil, ev_ne, ev_eq, ev_const, put_size, hN9, ne_eq, Nat.reduceEqDiff, not_false_eq_true, Nat.reduceLT, e5, e7, e10, h7])
                    (try simp [go_sem])
                  · intro v2 w7 hr hd
                    refine ⟨(fun j b h => by cases h; exact hd 8 (by kernel_rfl)), ?_⟩
                    refine yields_run (u := .pointer (some ⟨ga, 0, none⟩)) (w' := w7) ?_ (Below.refl _ _) rfl
                    unfold execOp
                    (try simp only [List.map_toArray, List.map_cons, List.map_nil, ev_ne, ev_eq, ev_const, put_size, hN9, ne_eq, Nat.reduceEqDiff, not_false_eq_true, Nat.reduceLT, e5, e7, e10])
                    (try simp [go_sem])
                  · intro v2 w7 hr hd
                    have h9 : v2 9 = .pointer (some ⟨ga, 0, none⟩) := hd 9 (by kernel_rfl)
                    refine ⟨(fun j b h => by cases h; exact hd 8 (by kernel_rfl)), ?_⟩
                    have hD7 := C5.out.more hr
                    refine yields_call (f := 19) rfl (vs := #[.pointer (some ⟨ga, 0, none⟩)]) (by simp only [List.map_toArray, List.map_cons, List.map_nil, ev_ne, ev_eq, ev_const, put_size, hN9, ne_eq, Nat.reduceEqDiff, not_false_eq_true, Nat.reduceLT, e5, e7, e10, h9]) rfl Try.func19 (by kernel_rfl) (by kernel_rfl) ((r_lost hD7.p C5.out.m.good).mono fun e w8 ⟨he, hb⟩ => ⟨_, he, hb, rfl⟩)
                  · intro v2 w7 hr hd
                    refine ⟨(fun j b h => by cases h; exact hd 8 (by kernel_rfl)), ?_⟩
                    refine yields_run (u := .pointer (some ⟨gb, 0, none⟩)) (w' := w7) ?_ (Below.refl _ _) rfl
                    unfold execOp
                    (try simp only [List.map_toArray, List.map_cons, List.map_nil, ev_ne, ev_eq, ev_const, put_size, hN9, ne_eq, Nat.reduceEqDiff, not_false_eq_true, Nat.reduceLT, e5, e7, e10])
                    (try simp [go_sem])
                  · intro v2 w7 hr hd
                    have h11 : v2 11 = .pointer (some ⟨gb, 0, none⟩) := hd 11 (by kernel_rfl)
                    refine ⟨(fun j b h => by cases h; exact hd 8 (by kernel_rfl)), ?_⟩
                    exact yields_nilCheck rfl (by simp only [List.map_toArray, List.map_cons, List.map_nil, ev_ne, ev_eq, ev_const, put_size, hN9, ne_eq, Nat.reduceEqDiff, not_false_eq_true, Nat.reduceLT, e5, e7, e10, h11])
                  · intro v2 w7 hr hd
                    have h12 : v2 12 = .pointer (some ⟨gb, 0, none⟩) := hd 12 (by kernel_rfl)
                    refine ⟨(fun j b h => by cases h; exact hd 8 (by kernel_rfl)), ?_⟩
                    refine yields_run (u := .pointer (some ⟨gb, 258, none⟩)) (w' := w7) ?_ (Below.refl _ _) rfl
                    unfold execOp
                    (try simp only [List.map_toArray, List.map_cons, List.map_nil, ev_ne, ev_eq, ev_const, put_size, hN9, ne_eq, Nat.reduceEqDiff, not_false_eq_true, Nat.reduceLT, e5, e7, e10, h12])
                    (try simp [go_sem])
                  · intro v2 w7 hr hd
                    have h13 : v2 13 = .pointer (some ⟨gb, 258, none⟩) := hd 13 (by kernel_rfl)
                    refine ⟨(fun j b h => by cases h; exact hd 8 (by kernel_rfl)), ?_⟩
                    have hc : w7.cell? ⟨gb, 258, none⟩ = some (.int .i64 W.c) := wan_c (HR2.out.below hr) C5.out.m.good
                    have hf : w7.frozen? ⟨gb, 258, none⟩ = false := (HR2.out.below hr).cell.soft 258
                    refine yields_run (u := .int .i64 W.c) (w' := w7) ?_ (Below.refl _ _) rfl
                    unfold execOp
                    (try simp only [List.map_toArray, List.map_cons, List.map_nil, ev_ne, ev_eq, ev_const, put_size, hN9, ne_eq, Nat.reduceEqDiff, not_false_eq_true, Nat.reduceLT, e5, e7, e10, h13])
                    (try simp [go_sem, hc, hf])
                  · intro v2 w7 hr hd
                    have h10 : v2 10 = .int .i64 W.c := hd 10 (by kernel_rfl)
                    have h14 : v2 14 = .int .i64 W.c := hd 14 (by kernel_rfl)
                    refine ⟨(fun j b h => by cases h; exact hd 8 (by kernel_rfl)), ?_⟩
                    refine yields_run (u := .bool false) (w' := w7) ?_ (Below.refl _ _) rfl
                    unfold execOp
                    (try simp only [List.map_toArray, List.map_cons, List.map_nil, ev_ne, ev_eq, ev_const, put_size, hN9, ne_eq, Nat.reduceEqDiff, not_false_eq_true, Nat.reduceLT, e5, e7, e10, h10, h14])
                    (try simp [go_sem])
                  · intro v2 w7 hr hd
                    have h8 : v2 8 = .bool false := hd 8 (by kernel_rfl)
                    have h15 : v2 15 = .bool false := hd 15 (by kernel_rfl)
                    refine ⟨(fun j b h => nomatch h), ?_⟩
                    refine yields_run (u := .bool false) (w' := w7) ?_ (Below.refl _ _) rfl
                    unfold execOp
                    (try simp only [List.map_toArray, List.map_cons, List.map_nil, ev_ne, ev_eq, ev_const, put_size, hN9, ne_eq, Nat.reduceEqDiff, not_false_eq_true, Nat.reduceLT, e5, e7, e10, h8, h15])
                    (try simp [go_sem])
                  · intro v2 w7 hr hd
                    have h16 : v2 16 = .bool false := hd 16 (by kernel_rfl)
                    refine ⟨(fun j b h => nomatch h), ?_⟩
                    refine yields_run (u := .bool false) (w' := w7) ?_ (Below.refl _ _) rfl
                    unfold execOp
                    (try simp only [List.map_toArray, List.map_cons, List.map_nil, ev_ne, ev_eq, ev_const, put_size, hN9, ne_eq, Nat.reduceEqDiff, not_false_eq_true, Nat.reduceLT, e5, e7, e10, h16])
                    (try simp [go_sem])
                  · intro v2 w7 hr hd
                    refine ⟨(fun j b h => by cases h; exact hd 17 (by kernel_rfl)), ?_⟩
                    refine yields_run (u := .pointer (some ⟨ga, 0, none⟩)) (w' := w7) ?_ (Below.refl _ _) rfl
                    unfold execOp
                    (try simp only [List.map_toArray, List.map_cons, List.map_nil, ev_ne, ev_eq, ev_const, put_size, hN9, ne_eq, Nat.reduceEqDiff, not_false_eq_true, Nat.reduceLT, e5, e7, e10])
                    (try simp [go_sem])
                  · intro v2 w7 hr hd
                    refine ⟨(fun j b h => by cases h; exact hd 17 (by kernel_rfl)), ?_⟩
                    refine yields_run (u := .pointer (some ⟨go, 1, none⟩)) (w' := w7) ?_ (Below.refl _ _) rfl
                    unfold execOp
                    (try simp only [List.map_toArray, List.map_cons, List.map_nil, ev_ne, ev_eq, ev_const, put_size, hN9, ne_eq, Nat.reduceEqDiff, not_false_eq_true, Nat.reduceLT, e5, e7, e10])
                    (try simp [go_sem])
                  · intro v2 w7 hr hd
                    have h19 : v2 19 = .pointer (some ⟨go, 1, none⟩) := hd 19 (by kernel_rfl)
                    refine ⟨(fun j b h => by cases h; exact hd 17 (by kernel_rfl)), ?_⟩
                    have hx : w7.cell? ⟨go, 1, none⟩ = some (.int .i64 o.f) := (X5.out.below hr X5.out.inside).read 1
                    refine yields_run (u := .int .i64 o.f) (w' := w7) ?_ (Below.refl _ _) rfl
                    unfold execOp
                    (try simp only [List.map_toArray, List.map_cons, List.map_nil, ev_ne, ev_eq, ev_const, put_size, hN9, ne_eq, Nat.reduceEqDiff, not_false_eq_true, Nat.reduceLT, e5, e7, e10, h19])
                    (try simp [go_sem, hx])
                  · intro v2 w7 hr hd
                    refine ⟨(fun j b h => by cases h; exact hd 17 (by kernel_rfl)), ?_⟩
                    refine yields_run (u := .pointer (some ⟨go, 2, none⟩)) (w' := w7) ?_ (Below.refl _ _) rfl
                    unfold execOp
                    (try simp only [List.map_toArray, List.map_cons, List.map_nil, ev_ne, ev_eq, ev_const, put_size, hN9, ne_eq, Nat.reduceEqDiff, not_false_eq_true, Nat.reduceLT, e5, e7, e10])
                    (try simp [go_sem])
                  · intro v2 w7 hr hd
                    have h21 : v2 21 = .pointer (some ⟨go, 2, none⟩) := hd 21 (by kernel_rfl)
                    refine ⟨(fun j b h => by cases h; exact hd 17 (by kernel_rfl)), ?_⟩
                    have hx : w7.cell? ⟨go, 2, none⟩ = some (.int .i64 o.t) := (X5.out.below hr X5.out.inside).read 2
                    refine yields_run (u := .int .i64 o.t) (w' := w7) ?_ (Below.refl _ _) rfl
                    unfold execOp
                    (try simp only [List.map_toArray, List.map_cons, List.map_nil, ev_ne, ev_eq, ev_const, put_size, hN9, ne_eq, Nat.reduceEqDiff, not_false_eq_true, Nat.reduceLT, e5, e7, e10, h21])
                    (try simp [go_sem, hx])
                  · intro v2 w7 hr hd
                    have h18 : v2 18 = .pointer (some ⟨ga, 0, none⟩) := hd 18 (by kernel_rfl)
                    have h20 : v2 20 = .int .i64 o.f := hd 20 (by kernel_rfl)
                    have h22 : v2 22 = .int .i64 o.t := hd 22 (by kernel_rfl)
                    refine ⟨(fun j b h => by cases h; exact hd 17 (by kernel_rfl)), ?_⟩
                    have hD7 := C5.out.more hr
                    refine yields_call (f := 20) rfl (vs := #[.pointer (some ⟨ga, 0, none⟩), .int .i64 o.f, .int .i64 o.t]) (by simp only [List.map_toArray, List.map_cons, List.map_nil, ev_ne, ev_eq, ev_const, put_size, hN9, ne_eq, Nat.reduceEqDiff, not_false_eq_true, Nat.reduceLT, e5, e7, e10, h18, h20, h22]) rfl Try.func20 (by kernel_rfl) (by kernel_rfl) ((r_out hD7.p C5.out.m.good o.f o.t).mono fun e w8 ⟨he, hb⟩ => ⟨_, he, hb, rfl⟩)
                  · intro v2 w7 hr hd
                    refine ⟨(fun j b h => by cases h; exact hd 17 (by kernel_rfl)), ?_⟩
                    refine yields_run (u := .pointer (some ⟨gb, 0, none⟩)) (w' := w7) ?_ (Below.refl _ _) rfl
                    unfold execOp
                    (try simp only [List.map_toArray, List.map_cons, List.map_nil, ev_ne, ev_eq, ev_const, put_size, hN9, ne_eq, Nat.reduceEqDiff, not_false_eq_true, Nat.reduceLT, e5, e7, e10])
                    (try simp [go_sem])
                  · intro v2 w7 hr hd
                    refine ⟨(fun j b h => by cases h; exact hd 17 (by kernel_rfl)), ?_⟩
                    refine yields_run (u := .pointer (some ⟨go, 1, none⟩)) (w' := w7) ?_ (Below.refl _ _) rfl
                    unfold execOp
                    (try simp only [List.map_toArray, List.map_cons, List.map_nil, ev_ne, ev_eq, ev_const, put_size, hN9, ne_eq, Nat.reduceEqDiff, not_false_eq_true, Nat.reduceLT, e5, e7, e10])
                    (try simp [go_sem])
                  · intro v2 w7 hr hd
                    have h25 : v2 25 = .pointer (some ⟨go, 1, none⟩) := hd 25 (by kernel_rfl)
                    refine ⟨(fun j b h => by cases h; exact hd 17 (by kernel_rfl)), ?_⟩
                    have hx : w7.cell? ⟨go, 1, none⟩ = some (.int .i64 o.f) := (X5.out.below hr X5.out.inside).read 1
                    refine yields_run (u := .int .i64 o.f) (w' := w7) ?_ (Below.refl _ _) rfl
                    unfold execOp
                    (try simp only [List.map_toArray, List.map_cons, List.map_nil, ev_ne, ev_eq, ev_const, put_size, hN9, ne_eq, Nat.reduceEqDiff, not_false_eq_true, Nat.reduceLT, e5, e7, e10, h25])
                    (try simp [go_sem, hx])
                  · intro v2 w7 hr hd
                    refine ⟨(fun j b h => by cases h; exact hd 17 (by kernel_rfl)), ?_⟩
                    refine yields_run (u := .pointer (some ⟨go, 2, none⟩)) (w' := w7) ?_ (Below.refl _ _) rfl
                    unfold execOp
                    (try simp only [List.map_toArray, List.map_cons, List.map_nil, ev_ne, ev_eq, ev_const, put_size, hN9, ne_eq, Nat.reduceEqDiff, not_false_eq_true, Nat.reduceLT, e5, e7, e10])
                    (try simp [go_sem])
                  · intro v2 w7 hr hd
                    have h27 : v2 27 = .pointer (some ⟨go, 2, none⟩) := hd 27 (by kernel_rfl)
                    refine ⟨(fun j b h => by cases h; exact hd 17 (by kernel_rfl)), ?_⟩
                    have hx : w7.cell? ⟨go, 2, none⟩ = some (.int .i64 o.t) := (X5.out.below hr X5.out.inside).read 2
                    refine yields_run (u := .int .i64 o.t) (w' := w7) ?_ (Below.refl _ _) rfl
                    unfold execOp
                    (try simp only [List.map_toArray, List.map_cons, List.map_nil, ev_ne, ev_eq, ev_const, put_size, hN9, ne_eq, Nat.reduceEqDiff, not_false_eq_true, Nat.reduceLT, e5, e7, e10, h27])
                    (try simp [go_sem, hx])
                  · intro v2 w7 hr hd
                    have h24 : v2 24 = .pointer (some ⟨gb, 0, none⟩) := hd 24 (by kernel_rfl)
                    have h26 : v2 26 = .int .i64 o.f := hd 26 (by kernel_rfl)
                    have h28 : v2 28 = .int .i64 o.t := hd 28 (by kernel_rfl)
                    refine ⟨(fun j b h => by cases h; exact hd 17 (by kernel_rfl)), ?_⟩
                    have hD7 := C5.out.more hr
                    refine yields_call (f := 21) rfl (vs := #[.pointer (some ⟨gb, 0, none⟩), .int .i64 o.f, .int .i64 o.t]) (by simp only [List.map_toArray, List.map_cons, List.map_nil, ev_ne, ev_eq, ev_const, put_size, hN9, ne_eq, Nat.reduceEqDiff, not_false_eq_true, Nat.reduceLT, e5, e7, e10, h24, h26, h28]) rfl Try.func21 (by kernel_rfl) (by kernel_rfl) ((q_out hD7.r C5.out.m.good o.f o.t).mono fun e w8 ⟨he, hb⟩ => ⟨_, he, hb, rfl⟩)
                  · intro v2 w7 hr hd
                    have h23 : v2 23 = .bool (outB W o.f o.t) := hd 23 (by kernel_rfl)
                    have h29 : v2 29 = .bool (outB W o.f o.t) := hd 29 (by kernel_rfl)
                    refine ⟨(fun j b h => by cases h; exact hd 17 (by kernel_rfl)), ?_⟩
                    refine yields_run (u := .bool false) (w' := w7) ?_ (Below.refl _ _) rfl
                    unfold execOp
                    (try simp only [List.map_toArray, List.map_cons, List.map_nil, ev_ne, ev_eq, ev_const, put_size, hN9, ne_eq, Nat.reduceEqDiff, not_false_eq_true, Nat.reduceLT, e5, e7, e10, h23, h29])
                    (try simp [go_sem])
                  · intro v2 w7 hr hd
                    have h17 : v2 17 = .bool false := hd 17 (by kernel_rfl)
                    have h30 : v2 30 = .bool false := hd 30 (by kernel_rfl)
                    refine ⟨(fun j b h => nomatch h), ?_⟩
                    refine yields_run (u := .bool false) (w' := w7) ?_ (Below.refl _ _) rfl
                    unfold execOp
                    (try simp only [List.map_toArray, List.map_cons, List.map_nil, ev_ne, ev_eq, ev_const, put_size, hN9, ne_eq, Nat.reduceEqDiff, not_false_eq_true, Nat.reduceLT, e5, e7, e10, h17, h30])
                    (try simp [go_sem])
                  · intro v2 w6 hr hv
                    have hz : v2 31 = .bool false := hv 31 (by decide) (by decide)
                    have C6 := Lib.hid (C5.out.more hr)
                    have X6 := Lib.hid (X5.out.below hr X5.out.inside)
                    have hf := hfin v2
                    rw [HA9.out] at hf
                    simp [lexPut, Act.put, hz] at hf
                    rw [hf]
                    clear hf HA9 hN9 e5 e7 e10 hfin
                    clear hz hv hr C5 X5 HR2
                    have HAP := Lib.hid (r_at C6.out.p C6.out.m.good o.i)
                    have HAR := Lib.hid (fun (w8 : World) (h : PR w.heap.size w8 gb W) => q_at h C6.out.m.good o.i)
                    have x4 : w6.cell? ⟨go, 4, none⟩ = some (.int .i64 o.i) := X6.out.read 4
                    generalize atV W o.i = x at HAP HAR
                    generalize atE W o.i = ee at HAP HAR
                    go_upto_region 28 with (go_at_call 22; (with_reducible refine HAP.out.mono ?_); rintro e w7 ⟨rfl, b7⟩; have B7 := Lib.hid b7; clear b7 x4)
                    change Code.wp _ _ _ _ (w7.alloc (.cells (cL x).toArray 34))
                    have B8 : Hid (Below w6.heap.size w6 (w7.alloc (.cells (cL x).toArray 34))) := Lib.hid (then_below B7.out (fresh1 w7 _))
                    have XX8 : Hid (Whole (w7.alloc (.cells (cL x).toArray 34)) w7.heap.size 34 (cL x).toArray) := Lib.hid (Whole.fresh w7 _ _)
                    clear B7 HAP
                    generalize w7.alloc (.cells (cL x).toArray 34) = w8 at B8 XX8 ⊢
                    generalize w7.heap.size = gx at XX8 ⊢
                    have C8 := Lib.hid (C6.out.more B8.out)
                    have X8 := Lib.hid (X6.out.below B8.out X6.out.inside)
                    clear C6 X6 B8
                    have x4 : w8.cell? ⟨go, 4, none⟩ = some (.int .i64 o.i) := X8.out.read 4
                    go_upto_region 29 with (go_at_call 23; (with_reducible refine (HAR.out _ C8.out.r).mono ?_); rintro e w9 ⟨rfl, b9⟩; have B9 := Lib.hid b9; clear b9 x4)
                    change Code.wp _ _ _ _ (w9.alloc (.cells (cL x).toArray 36))
                    have B10 : Hid (Below w8.heap.size w8 (w9.alloc (.cells (cL x).toArray 36))) := Lib.hid (then_below B9.out (fresh1 w9 _))
                    have XY : Hid (Whole (w9.alloc (.cells (cL x).toArray 36)) w9.heap.size 36 (cL x).toArray) := Lib.hid (Whole.fresh w9 _ _)
                    clear B9 HAR
                    generalize w9.alloc (.cells (cL x).toArray 36) = w5 at B10 XY ⊢
                    generalize w9.heap.size = gy at XY ⊢
                    have C5 := Lib.hid (C8.out.more B10.out)
                    have XX := Lib.hid (XX8.out.below B10.out XX8.out.inside)
                    clear C8 X8 XX8 B10
                    refine wp_frame ?_
                    intro a9 ha9
                    have hN9 : a9.tmps.size = 232 := by rw [ha9]; rfl
                    have e15 : a9.eval (.tmp 15) = .pointer (some ⟨gx, 0, none⟩) := by rw [ha9]; rfl
                    have e17 : a9.eval (.tmp 17) = .pointer (some ⟨gy, 0, none⟩) := by rw [ha9]; rfl
                    have e16 : a9.eval (.tmp 16) = .int .i64 ee := by rw [ha9]; rfl
                    have e18 : a9.eval (.tmp 18) = .int .i64 ee := by rw [ha9]; rfl
                    have HA9 := Lib.hid ha9
                    clear ha9
                    refine region_fullZ 232 [] [] [] (fun k => false) (fun w7 => Below w5.heap.size w5 w7) ?hR ?r0 [pdOne 0 (Is (x.val)), pdOne 1 (Is (x.val)), pdOne 2 (Is (x.val)), pdOne 3 (Is (.bool false)), pdOne 4 (Is (.bool false)), pdOne 5 (Is (.int .i64 ee)), pdOne 6 (Is (.int .i64 ee)), pdOne 7 (Is (.bool false)), pdOne 8 (Is (.bool false))] (fun k w7 => True) (by kernel_rfl) hN9 (by kernel_rfl) (by kernel_rfl) (by kernel_rfl) (by kernel_rfl) (by kernel_rfl) ?keep ?hO ?h0 ?tell
                    case hR => exact fun w7 w8 hb h => then_below h hb
                    case r0 => exact Below.refl _ _
                    case keep => exact ⟨keep_one (keeps_is _), keep_one (keeps_is _), keep_one (keeps_is _), keep_one (keeps_is _), keep_one (keeps_is _), keep_one (keeps_is _), keep_one (keeps_is _), keep_one (keeps_is _), keep_one (keeps_is _), trivial⟩
                    case hO => exact fun _ _ _ _ h => h
                    case h0 => exact fun _ _ => trivial
                    case tell =>
                      intro fin hfin
                      apply And.intro
                      case' left => (simp only [TellZ]; refine ⟨?_, ?_, ?_, ?_, ?_, ?_, ?_, ?_, ?_, trivial⟩)
                      · intro v2 w7 hr hd
                        refine ⟨(fun j b h => nomatch h), ?_⟩
                        have hW := XX.out.below hr XX.out.inside
                        have k0 : w7.cell? ⟨gx, 0, none⟩ = some (.int .i64 x.f) := hW.read 0
                        have k1 : w7.cell? ⟨gx, 1, none⟩ = some (.int .i64 x.t) := hW.read 1
                        have k2 : w7.cell? ⟨gx, 2, none⟩ = some (sV x.s) := hW.read 2
                        have kf : w7.frozen? ⟨gx, 0, none⟩ = false := hW.soft 0
                        refine yields_run (u := x.val) (w' := w7) ?_ (Below.refl _ _) rfl
                        unfold execOp
                        (try simp only [List.map_toArray, List.map_cons, List.map_nil, ev_ne, ev_eq, ev_const, put_size, hN9, ne_eq, Nat.reduceEqDiff, not_false_eq_true, Nat.reduceLT, e15, e17, e16, e18])
                        (try simp [go_sem, k0, k1, k2, kf])
                      · intro v2 w7 hr hd
                        have h0 : v2 0 = x.val := hd 0 (by kernel_rfl)
                        refine ⟨(fun j b h => nomatch h), ?_⟩
                        refine yields_call (f := 13) rfl (vs := #[x.val]) (by simp only [List.map_toArray, List.map_cons, List.map_nil, ev_ne, ev_eq, ev_const, put_size, hN9, ne_eq, Nat.reduceEqDiff, not_false_eq_true, Nat.reduceLT, e15, e17, e16, e18, h0]) rfl Try.func13 (by kernel_rfl) (by kernel_rfl) ((from_any x w7).mono fun e w8 ⟨he, hb⟩ => ⟨_, he, hb, rfl⟩)
                      · intro v2 w7 hr hd
                        refine ⟨(fun j b h => nomatch h), ?_⟩
                        have hW := XY.out.below hr XY.out.inside
                        have k0 : w7.cell? ⟨gy, 0, none⟩ = some (.int .i64 x.f) := hW.read 0
                        have k1 : w7.cell? ⟨gy, 1, none⟩ = some (.int .i64 x.t) := hW.read 1
                        have k2 : w7.cell? ⟨gy, 2, none⟩ = some (sV x.s) := hW.read 2
                        have kf : w7.frozen? ⟨gy, 0, none⟩ = false := hW.soft 0
                        refine yields_run (u := x.val) (w' := w7) ?_ (Below.refl _ _) rfl
                        unfold execOp
                        (try simp only [List.map_toArray, List.map_cons, List.map_nil, ev_ne, ev_eq, ev_const, put_size, hN9, ne_eq, Nat.reduceEqDiff, not_false_eq_true, Nat.reduceLT, e15, e17, e16, e18])
                        (try simp [go_sem, k0, k1, k2, kf])
                      · intro v2 w7 hr hd
                        have h1 : v2 1 = x.val := hd 1 (by kernel_rfl)
                        have h2 : v2 2 = x.val := hd 2 (by kernel_rfl)
                        refine ⟨(fun j b h => nomatch h), ?_⟩
                        have hne := run_neL x w7
                        refine yields_run (u := .bool false) (w' := w7) ?_ (Below.refl _ _) rfl
                        unfold execOp
                        (try simp only [List.map_toArray, List.map_cons, List.map_nil, ev_ne, ev_eq, ev_const, put_size, hN9, ne_eq, Nat.reduceEqDiff, not_false_eq_true, Nat.reduceLT, e15, e17, e16, e18, h1, h2])
                        have hgu : ∀ (p q : Operand), (eqGuard .neq 36 p q x.val x.val).run Try.prog w7 = .ok () w7 := fun p q => run_eqGuard_agg w7 .neq 36 p q _ _ guardLr
                        (try simp [go_sem, hgu, hne, cL])
                      · intro v2 w7 hr hd
                        have h3 : v2 3 = .bool false := hd 3 (by kernel_rfl)
                        refine ⟨(fun j b h => nomatch h), ?_⟩
                        refine yields_run (u := .bool false) (w' := w7) ?_ (Below.refl _ _) rfl
                        unfold execOp
                        (try simp only [List.map_toArray, List.map_cons, List.map_nil, ev_ne, ev_eq, ev_const, put_size, hN9, ne_eq, Nat.reduceEqDiff, not_false_eq_true, Nat.reduceLT, e15, e17, e16, e18, h3])
                        (try simp [go_sem])
                      · intro v2 w7 hr hd
                        refine ⟨(fun j b h => by cases h; exact hd 4 (by kernel_rfl)), ?_⟩
                        refine yields_run (u := .int .i64 ee) (w' := w7) ?_ (Below.refl _ _) rfl
                        unfold execOp
                        (try simp only [List.map_toArray, List.map_cons, List.map_nil, ev_ne, ev_eq, ev_const, put_size, hN9, ne_eq, Nat.reduceEqDiff, not_false_eq_true, Nat.reduceLT, e15, e17, e16, e18])
                        (try simp [go_sem])
                      · intro v2 w7 hr hd
                        refine ⟨(fun j b h => by cases h; exact hd 4 (by kernel_rfl)), ?_⟩
                        refine yields_run (u := .int .i64 ee) (w' := w7) ?_ (Below.refl _ _) rfl
                        unfold execOp
                        (try simp only [List.map_toArray, List.map_cons, List.map_nil, ev_ne, ev_eq, ev_const, put_size, hN9, ne_eq, Nat.reduceEqDiff, not_false_eq_true, Nat.reduceLT, e15, e17, e16, e18])
                        (try simp [go_sem])
                      · intro v2 w7 hr hd
                        have h5 : v2 5 = .int .i64 ee := hd 5 (by kernel_rfl)
                        have h6 : v2 6 = .int .i64 ee := hd 6 (by kernel_rfl)
                        refine ⟨(fun j b h => by cases h; exact hd 4 (by kernel_rfl)), ?_⟩
                        refine yields_run (u := .bool false) (w' := w7) ?_ (Below.refl _ _) rfl
                        unfold execOp
                        (try simp only [List.map_toArray, List.map_cons, List.map_nil, ev_ne, ev_eq, ev_const, put_size, hN9, ne_eq, Nat.reduceEqDiff, not_false_eq_true, Nat.reduceLT, e15, e17, e16, e18, h5, h6])
                        (try simp [go_sem])
                      · intro v2 w7 hr hd
                        have h4 : v2 4 = .bool false := hd 4 (by kernel_rfl)
                        have h7 : v2 7 = .bool false := hd 7 (by kernel_rfl)
                        refine ⟨(fun j b h => nomatch h), ?_⟩
                        refine yields_run (u := .bool false) (w' := w7) ?_ (Below.refl _ _) rfl
                        unfold execOp
                        (try simp only [List.map_toArray, List.map_cons, List.map_nil, ev_ne, ev_eq, ev_const, put_size, hN9, ne_eq, Nat.reduceEqDiff, not_false_eq_true, Nat.reduceLT, e15, e17, e16, e18, h4, h7])
                        (try simp [go_sem])
                      · intro v2 w6 hr hv
                        have hz : v2 8 = .bool false := hv 8 (by decide) (by decide)
                        have hf := hfin v2
                        rw [HA9.out] at hf
                        simp [lexPut, Act.put, hz] at hf
                        rw [hf]
                        clear hf HA9 hN9 e15 e17 e16 e18 hfin
                        have C6 := Lib.hid (C5.out.more hr)
                        clear hz hv hr C5 XX XY
                        go_wp2_with fail
                        go_roundw
                        case rel => exact ⟨j + 1, W, by omega, by omega, by go_num, C6⟩
                        case measure => simp [intOf]; omega
          · have hj : j = 200 := by omega
            subst hj
            have h1i : (200 : Int) < (l.length : Int) := by omega
            go_wp2_with fail
            go_meet
            case rel => exact ⟨_, W, HC⟩
        · have h1i : ¬ (j : Int) < (l.length : Int) := by omega
          go_wp2_with fail
          go_meet
          case rel => exact ⟨_, W, HC⟩
    case rest => as_aux_lemma =>
      obtain ⟨j, W, HC⟩ := hcut
      clear C4 HL
      obtain ⟨A2, c2, hR2⟩ := HC.out.r
      have hl96 := HC.out.m.good.l
      go_wp2_with fail
      go_loopw [19] (fun i wr => ∃ (k : Nat), k ≤ W.L.length ∧ i = .int .i64 (k : Int) ∧ Hid (Dw w ga gb wr j W)) (fun i _ => W.L.length - (intOf i).toNat)
      case atStart => exact ⟨0, Nat.zero_le _, rfl, HC⟩
      case round =>
        clear hR2 A2 c2
        obtain ⟨k, hk, rfl, HCk⟩ := hrel
        clear HC
        obtain ⟨A2, c2, hR2⟩ := HCk.out.r
        have y0 : wr.cell? ⟨gb, 1, none⟩ = some (.slice A2 W.L.length c2) := wan_l hR2
        have y1 : wr.frozen? ⟨gb, 1, none⟩ = false := hR2.cell.soft 1
        by_cases h1 : k < W.L.length
        · have h1i : (k : Int) < (W.L.length : Int) := by omega
          obtain ⟨b2, rfl⟩ := own_someL hR2.row (by omega)
          obtain ⟨x, hx⟩ : ∃ x, x = W.L[k] := ⟨_, rfl⟩
          have hxk : W.L[k]? = some x := by rw [hx]; exact List.getElem?_eq_getElem h1
          have ev : atV W (k : Int) = x := by
            unfold atV
            rw [if_pos (by omega), Int.toNat_natCast, hxk]
            rfl
          have ee : atE W (k : Int) = 0 := by
            unfold atE
            rw [if_pos ⟨by omega, h1i⟩]
          have HA := Lib.hid (r_at HCk.out.p HCk.out.m.good (k : Int))
          rw [ev, ee] at HA
          have HKL := Lib.hid h1
          have HXK := Lib.hid hxk
          have HR2 := Lib.hid hR2
          clear ev ee hx hR2 hxk
          go_upto_region 35 with (go_at_call 22; (with_reducible refine HA.out.mono ?_); rintro e w4 ⟨rfl, b4⟩; have B4 := Lib.hid b4; clear b4)
          change Code.wp _ _ _ _ (w4.alloc (.cells (cL x).toArray 34))
          have B5 : Hid (Below wr.heap.size wr (w4.alloc (.cells (cL x).toArray 34))) := Lib.hid (then_below B4.out (fresh1 w4 _))
          have XX : Hid (Whole (w4.alloc (.cells (cL x).toArray 34)) w4.heap.size 34 (cL x).toArray) := Lib.hid (Whole.fresh w4 _ _)
          clear HA B4 y0 y1
          generalize w4.alloc (.cells (cL x).toArray 34) = w5 at B5 XX ⊢
          generalize w4.heap.size = gx at XX ⊢
          have C5 := Lib.hid (HCk.out.more B5.out)
          have HR3 := Lib.hid (HR2.out.below B5.out)
          clear HR2 HCk B5
          have HR2 := Lib.hid HR3.out
          have HCX : Hid (∀ w7, Below w5.heap.size w5 w7 → w7.cell? ⟨b2, k * 3, none⟩ = some (.int .i64 x.f) ∧ w7.cell? ⟨b2, k * 3 + 1, none⟩ = some (.int .i64 x.t) ∧ w7.cell? ⟨b2, k * 3 + 2, none⟩ = some (sV x.s) ∧ w7.frozen? ⟨b2, k * 3, none⟩ = false) := Lib.hid fun w7 hb => by
            have hrw : OwnG 36 3 cL w7 w.heap.size (.slice (some ⟨b2, 0, none⟩) W.L.length c2) W.L := (HR2.out.below hb).row
            rcases hrw.2 with ⟨hv, -⟩ | ⟨b', cap, cur, hv, hb', hg, hc, hcm, hs, ht⟩
            · cases hv
            · injection hv with h1' h2' h3'
              injection h1' with h1'
              injection h1' with h1'
              subst h1'
              have key : ∀ q, q < 3 → w7.cell? ⟨b2, k * 3 + q, none⟩ = (cL x)[q]? ∧ w7.frozen? ⟨b2, k * 3 + q, none⟩ = false := fun q hq => by
                have e := flatG_at cellsL W.L k x q HXK.out hq
                have hlt : k * 3 + q < W.L.length * 3 := by have := HKL.out; omega
                rw [← ht, List.getElem?_take, if_pos hlt, Array.getElem?_toList] at e
                rw [← e]
                exact ⟨by simp [World.cell?, hg], by simp [World.frozen?, hg]⟩
              exact ⟨(key 0 (by omega)).1, (key 1 (by omega)).1, (key 2 (by omega)).1, (key 0 (by omega)).2⟩
          refine wp_frame ?_
          intro a9 ha9
          have hN9 : a9.tmps.size = 232 := by rw [ha9]; rfl
          have e7 : a9.eval (.tmp 7) = .pointer (some ⟨gb, 0, none⟩) := by rw [ha9]; rfl
          have e19 : a9.eval (.tmp 19) = .int .i64 (k : Int) := by rw [ha9]; rfl
          have e20 : a9.eval (.tmp 20) = .pointer (some ⟨gx, 0, none⟩) := by rw [ha9]; rfl
          have e21 : a9.eval (.tmp 21) = .int .i64 0 := by rw [ha9]; rfl
          have HA9 := Lib.hid ha9
          clear ha9
          refine region_fullZ 232 [] [] [] (fun k => false) (fun w7 => Below w5.heap.size w5 w7) ?hR ?r0 [pdOne 0 (Is (x.val)), pdOne 1 (Is (x.val)), pdOne 2 (Is (.pointer (some ⟨gb, 0, none⟩))), pdOne 3 (Is (.pointer (some ⟨gb, 0, none⟩))), pdOne 4 (Is (.pointer (some ⟨gb, 1, none⟩))), pdOne 5 (Is (.slice (some ⟨b2, 0, none⟩) W.L.length c2)), pdOne 6 (Is (.int .i64 (k : Int))), pdOne 7 (Is (.pointer (some ⟨b2, 0 + k * 3, none⟩))), pdOne 8 (Is (x.val)), pdOne 9 (Is (.bool false)), pdOne 10 (Is (.bool false)), pdOne 11 (Is (.int .i64 0)), pdOne 12 (Is (.bool false)), pdOne 13 (Is (.bool false))] (fun k w7 => True) (by kernel_rfl) hN9 (by kernel_rfl) (by kernel_rfl) (by kernel_rfl) (by kernel_rfl) (by kernel_rfl) ?keep ?hO ?h0 ?tell
          case hR => exact fun w7 w8 hb h => then_below h hb
          case r0 => exact Below.refl _ _
          case keep => exact ⟨keep_one (keeps_is _), keep_one (keeps_is _), keep_one (keeps_is _), keep_one (keeps_is _), keep_one (keeps_is _), keep_one (keeps_is _), keep_one (keeps_is _), keep_one (keeps_is _), keep_one (keeps_is _), keep_one (keeps_is _), keep_one (keeps_is _), keep_one (keeps_is _), keep_one (keeps_is _), keep_one (keeps_is _), trivial⟩
          case hO => exact fun _ _ _ _ h => h
          case h0 => exact fun _ _ => trivial
          case tell =>
            intro fin hfin
            apply And.intro
            case' left => (simp only [TellZ]; refine ⟨?_, ?_, ?_, ?_, ?_, ?_, ?_, ?_, ?_, ?_, ?_, ?_, ?_, ?_, trivial⟩)
            · intro v2 w7 hr hd
              refine ⟨(fun j b h => nomatch h), ?_⟩
              have hW := XX.out.below hr XX.out.inside
              have k0 : w7.cell? ⟨gx, 0, none⟩ = some (.int .i64 x.f) := hW.read 0
              have k1 : w7.cell? ⟨gx, 1, none⟩ = some (.int .i64 x.t) := hW.read 1
              have k2 : w7.cell? ⟨gx, 2, none⟩ = some (sV x.s) := hW.read 2
              have kf : w7.frozen? ⟨gx, 0, none⟩ = false := hW.soft 0
              refine yields_run (u := x.val) (w' := w7) ?_ (Below.refl _ _) rfl
              unfold execOp
              (try simp only [List.map_toArray, List.map_cons, List.map_nil, ev_ne, ev_eq, ev_const, put_size, hN9, ne_eq, Nat.reduceEqDiff, not_false_eq_true, Nat.reduceLT, e7, e19, e20, e21])
              (try simp [go_sem, k0, k1, k2, kf])
            · intro v2 w7 hr hd
              have h0 : v2 0 = x.val := hd 0 (by kernel_rfl)
              refine ⟨(fun j b h => nomatch h), ?_⟩
              refine yields_call (f := 13) rfl (vs := #[x.val]) (by simp only [List.map_toArray, List.map_cons, List.map_nil, ev_ne, ev_eq, ev_const, put_size, hN9, ne_eq, Nat.reduceEqDiff, not_false_eq_true, Nat.reduceLT, e7, e19, e20, e21, h0]) rfl Try.func13 (by kernel_rfl) (by kernel_rfl) ((from_any x w7).mono fun e w8 ⟨he, hb⟩ => ⟨_, he, hb, rfl⟩)
            · intro v2 w7 hr hd
              refine ⟨(fun j b h => nomatch h), ?_⟩
              refine yields_run (u := .pointer (some ⟨gb, 0, none⟩)) (w' := w7) ?_ (Below.refl _ _) rfl
              unfold execOp
              (try simp only [List.map_toArray, List.map_cons, List.map_nil, ev_ne, ev_eq, ev_const, put_size, hN9, ne_eq, Nat.reduceEqDiff, not_false_eq_true, Nat.reduceLT, e7, e19, e20, e21])
              (try simp [go_sem])
            · intro v2 w7 hr hd
              have h2 : v2 2 = .pointer (some ⟨gb, 0, none⟩) := hd 2 (by kernel_rfl)
              refine ⟨(fun j b h => nomatch h), ?_⟩
              exact yields_nilCheck rfl (by simp only [List.map_toArray, List.map_cons, List.map_nil, ev_ne, ev_eq, ev_const, put_size, hN9, ne_eq, Nat.reduceEqDiff, not_false_eq_true, Nat.reduceLT, e7, e19, e20, e21, h2])
            · intro v2 w7 hr hd
              have h3 : v2 3 = .pointer (some ⟨gb, 0, none⟩) := hd 3 (by kernel_rfl)
              refine ⟨(fun j b h => nomatch h), ?_⟩
              refine yields_run (u := .pointer (some ⟨gb, 1, none⟩)) (w' := w7) ?_ (Below.refl _ _) rfl
              unfold execOp
              (try simp only [List.map_toArray, List.map_cons, List.map_nil, ev_ne, ev_eq, ev_const, put_size, hN9, ne_eq, Nat.reduceEqDiff, not_false_eq_true, Nat.reduceLT, e7, e19, e20, e21, h3])
              (try simp [go_sem])
            · intro v2 w7 hr hd
              have h4 : v2 4 = .pointer (some ⟨gb, 1, none⟩) := hd 4 (by kernel_rfl)
              refine ⟨(fun j b h => nomatch h), ?_⟩
              have hc : w7.cell? ⟨gb, 1, none⟩ = some (.slice (some ⟨b2, 0, none⟩) W.L.length c2) := wan_l (HR2.out.below hr)
              have hf : w7.frozen? ⟨gb, 1, none⟩ = false := (HR2.out.below hr).cell.soft 1
              refine yields_run (u := .slice (some ⟨b2, 0, none⟩) W.L.length c2) (w' := w7) ?_ (Below.refl _ _) rfl
              unfold execOp
              (try simp only [List.map_toArray, List.map_cons, List.map_nil, ev_ne, ev_eq, ev_const, put_size, hN9, ne_eq, Nat.reduceEqDiff, not_false_eq_true, Nat.reduceLT, e7, e19, e20, e21, h4])
              (try simp [go_sem, hc, hf])
            · intro v2 w7 hr hd
              refine ⟨(fun j b h => nomatch h), ?_⟩
              refine yields_run (u := .int .i64 (k : Int)) (w' := w7) ?_ (Below.refl _ _) rfl
              unfold execOp
              (try simp only [List.map_toArray, List.map_cons, List.map_nil, ev_ne, ev_eq, ev_const, put_size, hN9, ne_eq, Nat.reduceEqDiff, not_false_eq_true, Nat.reduceLT, e7, e19, e20, e21])
              (try simp [go_sem])
            · intro v2 w7 hr hd
              have h5 : v2 5 = .slice (some ⟨b2, 0, none⟩) W.L.length c2 := hd 5 (by kernel_rfl)
              have h6 : v2 6 = .int .i64 (k : Int) := hd 6 (by kernel_rfl)
              refine ⟨(fun j b h => nomatch h), ?_⟩
              exact yields_index (b := b2) (off := 0) (n := W.L.length) (c := c2) (i := k) (m := 3) rfl (by simp only [List.map_toArray, List.map_cons, List.map_nil, ev_ne, ev_eq, ev_const, put_size, hN9, ne_eq, Nat.reduceEqDiff, not_false_eq_true, Nat.reduceLT, e7, e19, e20, e21, h5, h6]) (by simp only [List.map_toArray, List.map_cons, List.map_nil, ev_ne, ev_eq, ev_const, put_size, hN9, ne_eq, Nat.reduceEqDiff, not_false_eq_true, Nat.reduceLT, e7, e19, e20, e21, h5, h6]) HKL.out Try.underlying45 (by intro w; simp [Try.sizeOf36])
            · intro v2 w7 hr hd
              have h7 : v2 7 = .pointer (some ⟨b2, 0 + k * 3, none⟩) := hd 7 (by kernel_rfl)
              refine ⟨(fun j b h => nomatch h), ?_⟩
              obtain ⟨k0, k1, k2, kf⟩ := HCX.out w7 hr
              refine yields_run (u := x.val) (w' := w7) ?_ (Below.refl _ _) rfl
              unfold execOp
              (try simp only [List.map_toArray, List.map_cons, List.map_nil, ev_ne, ev_eq, ev_const, put_size, hN9, ne_eq, Nat.reduceEqDiff, not_false_eq_true, Nat.reduceLT, e7, e19, e20, e21, h7])
              (try simp [go_sem, k0, k1, k2, kf])
            · intro v2 w7 hr hd
              have h1 : v2 1 = x.val := hd 1 (by kernel_rfl)
              have h8 : v2 8 = x.val := hd 8 (by kernel_rfl)
              refine ⟨(fun j b h => nomatch h), ?_⟩
              have hne := run_neL x w7
              refine yields_run (u := .bool false) (w' := w7) ?_ (Below.refl _ _) rfl
              unfold execOp
              (try simp only [List.map_toArray, List.map_cons, List.map_nil, ev_ne, ev_eq, ev_const, put_size, hN9, ne_eq, Nat.reduceEqDiff, not_false_eq_true, Nat.reduceLT, e7, e19, e20, e21, h1, h8])
              have hgu : ∀ (p q : Operand), (eqGuard .neq 36 p q x.val x.val).run Try.prog w7 = .ok () w7 := fun p q => run_eqGuard_agg w7 .neq 36 p q _ _ guardLr
              (try simp [go_sem, hgu, hne, cL])
            · intro v2 w7 hr hd
              have h9 : v2 9 = .bool false := hd 9 (by kernel_rfl)
              refine ⟨(fun j b h => nomatch h), ?_⟩
              refine yields_run (u := .bool false) (w' := w7) ?_ (Below.refl _ _) rfl
              unfold execOp
              (try simp only [List.map_toArray, List.map_cons, List.map_nil, ev_ne, ev_eq, ev_const, put_size, hN9, ne_eq, Nat.reduceEqDiff, not_false_eq_true, Nat.reduceLT, e7, e19, e20, e21, h9])
              (try simp [go_sem])
            · intro v2 w7 hr hd
              refine ⟨(fun j b h => by cases h; exact hd 10 (by kernel_rfl)), ?_⟩
              refine yields_run (u := .int .i64 0) (w' := w7) ?_ (Below.refl _ _) rfl
              unfold execOp
              (try simp only [List.map_toArray, List.map_cons, List.map_nil, ev_ne, ev_eq, ev_const, put_size, hN9, ne_eq, Nat.reduceEqDiff, not_false_eq_true, Nat.reduceLT, e7, e19, e20, e21])
              (try simp [go_sem])
            · intro v2 w7 hr hd
              have h11 : v2 11 = .int .i64 0 := hd 11 (by kernel_rfl)
              refine ⟨(fun j b h => by cases h; exact hd 10 (by kernel_rfl)), ?_⟩
              refine yields_run (u := .bool false) (w' := w7) ?_ (Below.refl _ _) rfl
              unfold execOp
              (try simp only [List.map_toArray, List.map_cons, List.map_nil, ev_ne, ev_eq, ev_const, put_size, hN9, ne_eq, Nat.reduceEqDiff, not_false_eq_true, Nat.reduceLT, e7, e19, e20, e21, h11])
              (try simp [go_sem])
            · intro v2 w7 hr hd
              have h10 : v2 10 = .bool false := hd 10 (by kernel_rfl)
              have h12 : v2 12 = .bool false := hd 12 (by kernel_rfl)
              refine ⟨(fun j b h => nomatch h), ?_⟩
              refine yields_run (u := .bool false) (w' := w7) ?_ (Below.refl _ _) rfl
              unfold execOp
              (try simp only [List.map_toArray, List.map_cons, List.map_nil, ev_ne, ev_eq, ev_const, put_size, hN9, ne_eq, Nat.reduceEqDiff, not_false_eq_true, Nat.reduceLT, e7, e19, e20, e21, h10, h12])
              (try simp [go_sem])
            · intro v2 w6 hr hv
              have hz : v2 13 = .bool false := hv 13 (by decide) (by decide)
              have C6 := Lib.hid (C5.out.more hr)
              have hf := hfin v2
              rw [HA9.out] at hf
              simp [lexPut, Act.put, hz] at hf
              rw [hf]
              clear hf HA9 hN9 e7 e19 e20 e21 hfin
              clear hz hv hr C5 XX HR2 HR3 HCX
              go_wp2_with fail
              go_roundw
              case rel => exact ⟨k + 1, by omega, by go_num, C6⟩
              case measure => simp [intOf]; omega
        · have h1i : ¬ (k : Int) < (W.L.length : Int) := by omega
          go_wp2_with fail
          go_ret
          exact ⟨rfl, HCk.out.h⟩
  · have HN := Lib.hid (new_bad (w := w) nn hnn)
    have HM := Lib.hid fun (w1 : World) => newR_bad (w := w1) nn hnn
    clear hnn
    go_enter Try.func3, Try.ntmps3
    go_wp2_with (first
      | (go_at_call 8; (with_reducible refine (HM.out w3).mono ?_); rintro e w5 ⟨rfl, b5⟩; have B5 := Lib.hid (then_below B3.out b5); clear b5)
      | (go_at_call 7; (with_reducible refine HN.out.mono ?_); rintro e w3 ⟨rfl, b3⟩; have B3 := Lib.hid b3; clear b3))
    go_ret
    exact ⟨rfl, B5.out⟩
end
end Go.Proofs.Ytbomlapmoiamgaa.wan
