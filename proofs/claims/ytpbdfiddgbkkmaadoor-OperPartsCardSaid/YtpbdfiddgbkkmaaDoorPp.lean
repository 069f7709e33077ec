/-
  The walk of OperParts (by gen_pp.py).
-/
import Derived.Test.YtpbdfiddgbkkmaaDoorGsb
import Derived.Test.YtpbdfiddgbkkmaaDoorWks
import Derived.Test.YtpbdfiddgbkkmaaDoorAp
import Derived.Test.YtpbdfiddgbkkmaaDoorRt9
namespace Go.Proofs.YtpbdfiddgbkkmaaDoor.oper
open Go.ChangeShapes Go.WideShapes Go.ChangeAt Go.RowKit
open Go.Proofs.YtpbdfiddgbkkmaaDoor.tm Go.Proofs.YtpbdfiddgbkkmaaDoor.opened Go.Proofs.YtpbdfiddgbkkmaaDoor.block Go.Proofs.YtpbdfiddgbkkmaaDoor.region Go.Proofs.YtpbdfiddgbkkmaaDoor.data

theorem alike_self (A B : Option Addr) (c d : Nat) (N : List Rc) (hM : N.length ≤ 1000000) (w : World) (h1 : Lr w A N) (h2 : Lr w B N) :
    Calls Tryd.prog 10 #[.slice A N.length c, .slice B N.length d] w fun e w' => e = .returned (.bool true) ∧ Below w.heap.size w w' := by
  have h := alike_any A B c d N N hM w h1 h2
  rwa [decide_eq_true (rfl : N = N)] at h
set_option maxRecDepth 100000 in
set_option maxHeartbeats 16000000 in
theorem walkParts (o : Od) (io : o.In) (A : Option Addr) (c : Nat) (L : List Rc) (iL : InR L) (A2 : Option Addr) (c2 : Nat) (M : List Rc) (iM : InR M) (w : World) (hL : Lr w A L) (hM : Lr w A2 M) :
    Calls Tryd.prog 3 #[.agg (odV o), .slice A L.length c, .slice A2 M.length c2] w fun e w' => e = .returned (.bool true) ∧ Below w.heap.size w w' := by
  have WK := Lib.hid (fun w0 => works_any w0)
  have HB1 := Lib.hid (fresh0 w (.cells (odV o) 23))
  have HG1 := Lib.hid (Whole.fresh w 23 (odV o))
  have HL1 := Lib.hid (hL.below HB1.out)
  have HM1 := Lib.hid (hM.below HB1.out)
  clear hL hM
  by_cases hl : L.length ≤ 300
  rotate_left
  · have hx : (300 : Int) < (L.length : Int) := by omega
    clear hl iL iM
    go_enter Tryd.func3, Tryd.ntmps3
    go_wp2_with (go_at_call 6; refine (WK.out _).mono ?_; rintro e w2 ⟨rfl, b2⟩; have HL2 := Lib.hid (HL1.out.below b2); have HM2 := Lib.hid (HM1.out.below b2); have HB2 := Lib.hid (HB1.out.trans (b2.mono HB1.out.size)); have HG2 := Lib.hid (HG1.out.below b2 HG1.out.inside); clear b2)
    go_ret
    exact ⟨rfl, HB2.out⟩
  have hl' : ¬ (300 : Int) < (L.length : Int) := by omega
  by_cases hm : M.length ≤ 300
  rotate_left
  · have hx : (300 : Int) < (M.length : Int) := by omega
    clear hl hm iL iM
    go_enter Tryd.func3, Tryd.ntmps3
    go_wp2_with (go_at_call 6; refine (WK.out _).mono ?_; rintro e w2 ⟨rfl, b2⟩; have HL2 := Lib.hid (HL1.out.below b2); have HM2 := Lib.hid (HM1.out.below b2); have HB2 := Lib.hid (HB1.out.trans (b2.mono HB1.out.size)); have HG2 := Lib.hid (HG1.out.below b2 HG1.out.inside); clear b2)
    go_ret
    exact ⟨rfl, HB2.out⟩
  have hm' : ¬ (300 : Int) < (M.length : Int) := by omega
  have iLM : InR (L ++ M) := fun r hr => (List.mem_append.1 hr).elim (iL r) (iM r)
  have TO := Lib.hid (fun w0 => to_any o w0)
  have OO := Lib.hid (fun A c w0 h => own_any A c L (by omega) w0 h)
  have OW := Lib.hid (fun A c w0 h => own_lr A c L (by omega) w0 h)
  have OM := Lib.hid (fun A c w0 h => own_lr A c M (by omega) w0 h)
  have EA := Lib.hid (fun A c w0 h => each_lr o io A c (L ++ M) iLM (by rw [List.length_append]; omega) w0 h)
  have EL1 := Lib.hid (fun A c w0 h => each_any o io A c L iL (by omega) w0 h)
  have EM1 := Lib.hid (fun A c w0 h => each_lr o io A c M iM (by omega) w0 h)
  rw [eachV_app] at EA
  obtain ⟨LM, hLM⟩ : ∃ LM, L ++ M = LM := ⟨_, rfl⟩
  rw [hLM] at EA
  have HLM := Lib.hid hLM
  clear hLM
  have HEL : Hid ((eachV o.k o.x o.y L).length ≤ L.length ∧ (eachV o.k o.x o.y M).length ≤ M.length ∧ L.length ≤ 300 ∧ M.length ≤ 300) := Lib.hid ⟨eachV_len _ _ _ _, eachV_len _ _ _ _, hl, hm⟩
  generalize eachV o.k o.x o.y L = EL at EA EL1 HEL
  generalize eachV o.k o.x o.y M = EM at EA EM1 HEL
  have AL := Lib.hid (fun A B c d w0 h k => alike_self A B c d (EL ++ EM) (by rw [List.length_append]; have := HEL.out; omega) w0 h k)
  obtain ⟨i0, hi0, hz0, hz1, hz2⟩ := infoR_parts
  clear iL iM iLM hl hm
  go_enter Tryd.func3, Tryd.ntmps3
  go_upto_region 3 with (go_at_call 6; refine (WK.out _).mono ?_; rintro e w2 ⟨rfl, b2⟩; have HL2 := Lib.hid (HL1.out.below b2); have HM2 := Lib.hid (HM1.out.below b2); have HB2 := Lib.hid (HB1.out.trans (b2.mono HB1.out.size)); have HG2 := Lib.hid (HG1.out.below b2 HG1.out.inside); clear b2)
  clear WK HB1 HG1 HL1 HM1
  obtain ⟨g0, hg0⟩ : ∃ g0, g0 = w.heap.size := ⟨_, rfl⟩
  obtain ⟨HG0, -⟩ : ∃ h : Hid (Whole w2 g0 23 (odV o)), True := ⟨Lib.hid (by rw [hg0]; exact HG2.out), trivial⟩
  rw [← hg0]
  clear hg0 HG2
  obtain ⟨k0, k1, k2, k3, k4, k5⟩ : _ ∧ _ ∧ _ ∧ _ ∧ _ ∧ _ := ⟨HG0.out.read 0, HG0.out.read 1, HG0.out.read 2, HG0.out.read 3, HG0.out.read 4, HG0.out.read 5⟩
  go_upto_region 6 with (first
    | (go_at_call 7; refine (EA.out _ _ _ HA5.out).mono ?_; rintro e wb ⟨AA, cE, rfl, le, b6⟩; have HE := Lib.hid le; have HB := Lib.hid (HB5.out.trans (b6.mono HB5.out.size)); have HG := Lib.hid (HG5.out.below b6 HG5.out.inside); have HL := Lib.hid (HL5.out.below b6); have HM := Lib.hid (HM5.out.below b6); clear le b6)
    | (at_builtin; refine wpList_append_row (T := 33) (f := cR) cellsR (by decide) rfl _ _ 24 rfl w3.heap.size i0 (.agg #[.int .i64 0, .int .i64 0]) 16 Tryd.underlying24 hi0 hz0 hz1 hz2 rfl (N := L) (M := M) rfl rfl HO4.out HM4.out (by have := HEL.out; unfold maxLen; omega) (by have := HEL.out; omega) HS4.out ?_; intro B5 cap5 w5 hown5 hgrow hat; rw [HLM.out] at hown5 ⊢; have HA5 := Lib.hid (hown5.lg cellsR); have b5 : Below w3.heap.size w4 w5 := (Below.refl _ _).grown hgrow HS4.out (fun j e => (HO4.out.lt j e).1); have HB5 := Lib.hid (HB4.out.trans (b5.mono HB34.out.size)); have HG5 := Lib.hid (HG34.out.below (HBB.out.trans b5) HG34.out.inside); have HL5 := Lib.hid (HL34.out.below (HBB.out.trans b5)); have HM5 := Lib.hid (HM34.out.below (HBB.out.trans b5)); clear hown5 hgrow hat b5)
    | (go_at_call 9; refine (OO.out A c _ HL3.out).mono ?_; rintro e w4 ⟨AO, cO, rfl, ho, b4⟩; have HO4 := Lib.hid ho; have HBB := Lib.hid b4; have HB34 := HB3; have HG34 := HG3; have HL34 := HL3; have HM34 := HM3; have HM4 := Lib.hid (HM3.out.below b4); have HS4 := Lib.hid b4.size; have HB4 := Lib.hid (HB3.out.trans (b4.mono HB3.out.size)); clear ho b4)
    | (go_at_call 8; refine (TO.out _).mono ?_; rintro e w3 ⟨rfl, b3⟩; have HB3 := Lib.hid (HB2.out.trans (b3.mono HB2.out.size)); have HG3 := Lib.hid (HG0.out.below b3 HG0.out.inside); have HL3 := Lib.hid (HL2.out.below b3); have HM3 := Lib.hid (HM2.out.below b3); clear b3))
  clear k0 k1 k2 k3 k4 k5 HG0 HL2 HM2 HB2 HO4 HBB HB34 HG34 HL34 HM34 HM4 HS4 HB4 HB3 HG3 HL3 HM3 HA5 HB5 HG5 HL5 HM5 OO EA
  have HG0 := HG
  clear HG
  have hwr : IntKind.i64.wrap ((L.length : Int) + (M.length : Int)) = (L.length : Int) + (M.length : Int) := by rw [IntKind.wrap_i64]; omega
  have hle : (EL.length : Int) + (EM.length : Int) ≤ (L.length : Int) + (M.length : Int) := by have := HEL.out; omega
  refine region_fullZ 48 [(11, 12), (11, 13), (11, 14), (11, 15), (11, 16), (11, 17), (11, 18), (11, 19), (11, 20), (11, 21), (11, 22), (11, 23), (11, 4), (11, 5), (11, 9), (11, 10)] [] [(11, 4), (11, 5), (11, 9), (11, 10)] (fun k => k == 11) (fun w7 => Below wb.heap.size wb w7) ?hR ?r0 [pdOne 0 (Is (.slice AA (EL ++ EM).length cE)), pdOne 1 (Is (.agg (odV o))), pdOne 2 (Is (.agg (odV o))), pdOne 3 (Is (.slice A L.length c)), pdOne 4 (RowP L), pdOne 5 (OwnP wb.heap.size EL), pdOne 6 (Is (.agg (odV o))), pdOne 7 (Is (.agg (odV o))), pdOne 8 (Is (.slice A2 M.length c2)), pdOne 9 (RowP M), pdOne 10 (RowP EM), pdOne 11 (OwnP wb.heap.size (EL ++ EM)), pdOne 12 (Is (.bool true)), pdOne 13 (Is (.bool true)), pdOne 14 (Is (.slice AA (EL ++ EM).length cE)), pdOne 15 (Is (.int .i64 ((EL.length : Int) + (EM.length : Int)))), pdOne 16 (Is (.slice A L.length c)), pdOne 17 (Is (.int .i64 (L.length : Nat))), pdOne 18 (Is (.slice A2 M.length c2)), pdOne 19 (Is (.int .i64 (M.length : Nat))), pdOne 20 (Is (.int .i64 ((L.length : Int) + (M.length : Int)))), pdOne 21 (Is (.bool true)), pdOne 22 (Is (.bool true)), pdOne 23 (Is (.bool true))] (fun _ _ => True) (by kernel_rfl) rfl (by kernel_rfl) (by kernel_rfl) (by kernel_rfl) (by kernel_rfl) (by kernel_rfl) ?keep ?hO ?h0 ?tell
  case hR => exact fun wa wb hb h => h.trans (hb.mono h.size)
  case r0 => exact Below.refl _ _
  case keep => exact ⟨keep_one (keeps_is _), keep_one (keeps_is _), keep_one (keeps_is _), keep_one (keeps_is _), keep_one (keeps_rowP _), keep_one (keeps_ownP _ _), keep_one (keeps_is _), keep_one (keeps_is _), keep_one (keeps_is _), keep_one (keeps_rowP _), keep_one (keeps_rowP _), keep_one (keeps_ownP _ _), keep_one (keeps_is _), keep_one (keeps_is _), keep_one (keeps_is _), keep_one (keeps_is _), keep_one (keeps_is _), keep_one (keeps_is _), keep_one (keeps_is _), keep_one (keeps_is _), keep_one (keeps_is _), keep_one (keeps_is _), keep_one (keeps_is _), keep_one (keeps_is _), trivial⟩
  case hO => exact fun _ _ _ _ h => h
  case h0 => exact fun _ _ => trivial
  case tell =>
    intro fin hfin
    simp [lexPut, Act.put] at hfin
    simp only [TellZ]
    refine ⟨⟨?_, ?_, ?_, ?_, ?_, ?_, ?_, ?_, ?_, ?_, ?_, ?_, ?_, ?_, ?_, ?_, ?_, ?_, ?_, ?_, ?_, ?_, ?_, ?_, trivial⟩, ?_⟩
    · intro v2 w7 hr hd
      refine ⟨by intro j b e; simp at e, ?_⟩
      refine yields_run (u := .slice AA (EL ++ EM).length cE) (w' := w7) ?_ (Below.refl _ _) rfl
      unfold execOp
      simp [go_sem, Act.eval]
    · intro v2 w7 hr hd
      refine ⟨by intro j b e; simp at e, ?_⟩
      have k0 := (HG0.out.below hr HG0.out.inside).read 0
      have k1 := (HG0.out.below hr HG0.out.inside).read 1
      have k2 := (HG0.out.below hr HG0.out.inside).read 2
      have k3 := (HG0.out.below hr HG0.out.inside).read 3
      have k4 := (HG0.out.below hr HG0.out.inside).read 4
      have k5 := (HG0.out.below hr HG0.out.inside).read 5
      refine yields_run (u := .agg (odV o)) (w' := w7) ?_ (Below.refl _ _) rfl
      unfold execOp
      simp [go_sem, Act.eval, Act.put, k0, k1, k2, k3, k4, k5]
    · intro v2 w7 hr hd
      refine ⟨by intro j b e; simp at e, ?_⟩
      have h1 : v2 1 = .agg (odV o) := hd 1 (by kernel_rfl)
      refine yields_call (f := 8) rfl (vs := #[.agg (odV o)]) (by simp [Act.eval, Act.put, h1]) rfl Tryd.func8 (by kernel_rfl) (by kernel_rfl) ?_
      exact (TO.out w7).mono fun e w' ⟨he, hb'⟩ => ⟨_, he, hb', rfl⟩
    · intro v2 w7 hr hd
      refine ⟨by intro j b e; simp at e, ?_⟩
      refine yields_run (u := .slice A L.length c) (w' := w7) ?_ (Below.refl _ _) rfl
      unfold execOp
      simp [go_sem, Act.eval, Act.put]
    · intro v2 w7 hr hd
      refine ⟨by intro j b e; simp at e, ?_⟩
      have h3 : v2 3 = .slice A L.length c := hd 3 (by kernel_rfl)
      refine yields_call (f := 9) rfl (vs := #[.slice A L.length c]) (by simp [Act.eval, Act.put, h3]) rfl Tryd.func9 (by kernel_rfl) (by kernel_rfl) ?_
      exact (OW.out A c w7 (HL.out.below hr)).mono fun e w' ⟨B9, c9, he, hl9, hb'⟩ => ⟨_, he, hb', B9, c9, rfl, hl9⟩
    · intro v2 w7 hr hd
      refine ⟨by intro j b e; simp at e, ?_⟩
      have h2 : v2 2 = .agg (odV o) := hd 2 (by kernel_rfl)
      obtain ⟨B1, c1, h4, l1⟩ : RowP L (v2 4) w7 := hd 4 (by kernel_rfl)
      refine yields_call (f := 7) rfl (vs := #[.agg (odV o), .slice B1 L.length c1]) (by simp [Act.eval, Act.put, h2, h4]) rfl Tryd.func7 (by kernel_rfl) (by kernel_rfl) ?_
      exact (EL1.out B1 c1 w7 l1).mono fun e w' ⟨B9, c9, he, ho9, hb'⟩ => ⟨_, he, hb', B9, c9, rfl, ho9.low hr.size⟩
    · intro v2 w7 hr hd
      refine ⟨by intro j b e; simp at e, ?_⟩
      have k0 := (HG0.out.below hr HG0.out.inside).read 0
      have k1 := (HG0.out.below hr HG0.out.inside).read 1
      have k2 := (HG0.out.below hr HG0.out.inside).read 2
      have k3 := (HG0.out.below hr HG0.out.inside).read 3
      have k4 := (HG0.out.below hr HG0.out.inside).read 4
      have k5 := (HG0.out.below hr HG0.out.inside).read 5
      refine yields_run (u := .agg (odV o)) (w' := w7) ?_ (Below.refl _ _) rfl
      unfold execOp
      simp [go_sem, Act.eval, Act.put, k0, k1, k2, k3, k4, k5]
    · intro v2 w7 hr hd
      refine ⟨by intro j b e; simp at e, ?_⟩
      have h6 : v2 6 = .agg (odV o) := hd 6 (by kernel_rfl)
      refine yields_call (f := 8) rfl (vs := #[.agg (odV o)]) (by simp [Act.eval, Act.put, h6]) rfl Tryd.func8 (by kernel_rfl) (by kernel_rfl) ?_
      exact (TO.out w7).mono fun e w' ⟨he, hb'⟩ => ⟨_, he, hb', rfl⟩
    · intro v2 w7 hr hd
      refine ⟨by intro j b e; simp at e, ?_⟩
      refine yields_run (u := .slice A2 M.length c2) (w' := w7) ?_ (Below.refl _ _) rfl
      unfold execOp
      simp [go_sem, Act.eval, Act.put]
    · intro v2 w7 hr hd
      refine ⟨by intro j b e; simp at e, ?_⟩
      have h8 : v2 8 = .slice A2 M.length c2 := hd 8 (by kernel_rfl)
      refine yields_call (f := 9) rfl (vs := #[.slice A2 M.length c2]) (by simp [Act.eval, Act.put, h8]) rfl Tryd.func9 (by kernel_rfl) (by kernel_rfl) ?_
      exact (OM.out A2 c2 w7 (HM.out.below hr)).mono fun e w' ⟨B9, c9, he, hl9, hb'⟩ => ⟨_, he, hb', B9, c9, rfl, hl9⟩
    · intro v2 w7 hr hd
      refine ⟨by intro j b e; simp at e, ?_⟩
      have h7 : v2 7 = .agg (odV o) := hd 7 (by kernel_rfl)
      obtain ⟨B1, c1, h9, l1⟩ : RowP M (v2 9) w7 := hd 9 (by kernel_rfl)
      refine yields_call (f := 7) rfl (vs := #[.agg (odV o), .slice B1 M.length c1]) (by simp [Act.eval, Act.put, h7, h9]) rfl Tryd.func7 (by kernel_rfl) (by kernel_rfl) ?_
      exact (EM1.out B1 c1 w7 l1).mono fun e w' ⟨B9, c9, he, hl9, hb'⟩ => ⟨_, he, hb', B9, c9, rfl, hl9⟩
    · intro v2 w7 hr ho hd
      refine ⟨by intro j b e; simp at e, ?_⟩
      obtain ⟨V7, cap7, h5, hown⟩ : OwnP wb.heap.size EL (v2 5) w7 := hd 5 (by kernel_rfl)
      obtain ⟨A7, c7, h10, hM7⟩ : RowP EM (v2 10) w7 := hd 10 (by kernel_rfl)
      refine .inl (yields_append_row (T := 33) cellsR (by decide) (.tmp 30) (.tmp 35) 24 rfl wb.heap.size i0 (.agg #[.int .i64 0, .int .i64 0]) 16 Tryd.underlying24 hi0 hz0 hz1 hz2 rfl (A := A7) (c := c7) (N := EL) (M := EM) (by simp [Act.eval, Act.put, h5]) (by simp [Act.eval, Act.put, h10]) hown hM7 (by unfold maxLen; have := HEL.out; omega) (by have := HEL.out; omega) hr.size ?_)
      intro B8 cap8 w8 hown8 hgrow hat
      refine ⟨hr.grown hgrow hr.size (fun j hj => (hown.lt j hj).1), ?_, ?_, B8, cap8, rfl, hown8⟩
      · intro k2 v' hk2 hc hu
        exact match k2, hk2, hc, hu with
          | 0, _, _, hu => hu
          | 1, _, _, hu => hu
          | 2, _, _, hu => hu
          | 3, _, _, hu => hu
          | 4, _, hc, _ => absurd hc (by decide)
          | 5, _, hc, _ => absurd hc (by decide)
          | 6, _, _, hu => hu
          | 7, _, _, hu => hu
          | 8, _, _, hu => hu
          | 9, _, hc, _ => absurd hc (by decide)
          | 10, _, hc, _ => absurd hc (by decide)
          | 11, hk2, _, _ => absurd rfl hk2
          | 12, _, hc, _ => absurd hc (by decide)
          | 13, _, hc, _ => absurd hc (by decide)
          | 14, _, hc, _ => absurd hc (by decide)
          | 15, _, hc, _ => absurd hc (by decide)
          | 16, _, hc, _ => absurd hc (by decide)
          | 17, _, hc, _ => absurd hc (by decide)
          | 18, _, hc, _ => absurd hc (by decide)
          | 19, _, hc, _ => absurd hc (by decide)
          | 20, _, hc, _ => absurd hc (by decide)
          | 21, _, hc, _ => absurd hc (by decide)
          | 22, _, hc, _ => absurd hc (by decide)
          | 23, _, hc, _ => absurd hc (by decide)
          | _ + 24, _, _, _ => trivial
      · intro k2 hk2 hn hc2 h
        exact absurd (by simpa using hn) hk2
    · intro v2 w7 hr hd
      refine ⟨by intro j b e; simp at e, ?_⟩
      have h0 : v2 0 = .slice AA (EL ++ EM).length cE := hd 0 (by kernel_rfl)
      obtain ⟨B1, c1, h11, l1o⟩ : OwnP wb.heap.size (EL ++ EM) (v2 11) w7 := hd 11 (by kernel_rfl)
      have l1 := l1o.lg cellsR
      refine yields_call (f := 10) rfl (vs := #[.slice AA (EL ++ EM).length cE, .slice B1 (EL ++ EM).length c1]) (by simp [Act.eval, Act.put, h0, h11]) rfl Tryd.func10 (by kernel_rfl) (by kernel_rfl) ?_
      exact (AL.out AA B1 cE c1 w7 (HE.out.below hr) l1).mono fun e w' ⟨he, hb'⟩ => ⟨_, he, hb', rfl⟩
    · intro v2 w7 hr hd
      refine ⟨by intro j b e; simp at e, ?_⟩
      have h12 : v2 12 = .bool true := hd 12 (by kernel_rfl)
      refine yields_run (u := .bool true) (w' := w7) ?_ (Below.refl _ _) rfl
      unfold execOp
      simp [go_sem, Act.eval, Act.put, h12]
    · intro v2 w7 hr hd
      refine ⟨(by
        intro j b e
        simp only [Option.some.injEq, Prod.mk.injEq] at e
        obtain ⟨rfl, rfl⟩ := e
        exact hd 13 (by kernel_rfl)), ?_⟩
      refine yields_run (u := .slice AA (EL ++ EM).length cE) (w' := w7) ?_ (Below.refl _ _) rfl
      unfold execOp
      simp [go_sem, Act.eval, Act.put]
    · intro v2 w7 hr hd
      refine ⟨(by
        intro j b e
        simp only [Option.some.injEq, Prod.mk.injEq] at e
        obtain ⟨rfl, rfl⟩ := e
        exact hd 13 (by kernel_rfl)), ?_⟩
      have h14 : v2 14 = .slice AA (EL ++ EM).length cE := hd 14 (by kernel_rfl)
      refine yields_run (u := .int .i64 ((EL.length : Int) + (EM.length : Int))) (w' := w7) ?_ (Below.refl _ _) rfl
      unfold execOp
      simp [go_sem, Act.eval, Act.put, h14]
    · intro v2 w7 hr hd
      refine ⟨(by
        intro j b e
        simp only [Option.some.injEq, Prod.mk.injEq] at e
        obtain ⟨rfl, rfl⟩ := e
        exact hd 13 (by kernel_rfl)), ?_⟩
      refine yields_run (u := .slice A L.length c) (w' := w7) ?_ (Below.refl _ _) rfl
      unfold execOp
      simp [go_sem, Act.eval, Act.put]
    · intro v2 w7 hr hd
      refine ⟨(by
        intro j b e
        simp only [Option.some.injEq, Prod.mk.injEq] at e
        obtain ⟨rfl, rfl⟩ := e
        exact hd 13 (by kernel_rfl)), ?_⟩
      have h16 : v2 16 = .slice A L.length c := hd 16 (by kernel_rfl)
      refine yields_run (u := .int .i64 (L.length : Nat)) (w' := w7) ?_ (Below.refl _ _) rfl
      unfold execOp
      simp [go_sem, Act.eval, Act.put, h16]
    · intro v2 w7 hr hd
      refine ⟨(by
        intro j b e
        simp only [Option.some.injEq, Prod.mk.injEq] at e
        obtain ⟨rfl, rfl⟩ := e
        exact hd 13 (by kernel_rfl)), ?_⟩
      refine yields_run (u := .slice A2 M.length c2) (w' := w7) ?_ (Below.refl _ _) rfl
      unfold execOp
      simp [go_sem, Act.eval, Act.put]
    · intro v2 w7 hr hd
      refine ⟨(by
        intro j b e
        simp only [Option.some.injEq, Prod.mk.injEq] at e
        obtain ⟨rfl, rfl⟩ := e
        exact hd 13 (by kernel_rfl)), ?_⟩
      have h18 : v2 18 = .slice A2 M.length c2 := hd 18 (by kernel_rfl)
      refine yields_run (u := .int .i64 (M.length : Nat)) (w' := w7) ?_ (Below.refl _ _) rfl
      unfold execOp
      simp [go_sem, Act.eval, Act.put, h18]
    · intro v2 w7 hr hd
      refine ⟨(by
        intro j b e
        simp only [Option.some.injEq, Prod.mk.injEq] at e
        obtain ⟨rfl, rfl⟩ := e
        exact hd 13 (by kernel_rfl)), ?_⟩
      have h17 : v2 17 = .int .i64 (L.length : Nat) := hd 17 (by kernel_rfl)
      have h19 : v2 19 = .int .i64 (M.length : Nat) := hd 19 (by kernel_rfl)
      refine yields_run (u := .int .i64 ((L.length : Int) + (M.length : Int))) (w' := w7) ?_ (Below.refl _ _) rfl
      unfold execOp
      simp [go_sem, Act.eval, Act.put, h17, h19, hwr]
    · intro v2 w7 hr hd
      refine ⟨(by
        intro j b e
        simp only [Option.some.injEq, Prod.mk.injEq] at e
        obtain ⟨rfl, rfl⟩ := e
        exact hd 13 (by kernel_rfl)), ?_⟩
      have h15 : v2 15 = .int .i64 ((EL.length : Int) + (EM.length : Int)) := hd 15 (by kernel_rfl)
      have h20 : v2 20 = .int .i64 ((L.length : Int) + (M.length : Int)) := hd 20 (by kernel_rfl)
      refine yields_run (u := .bool true) (w' := w7) ?_ (Below.refl _ _) rfl
      unfold execOp
      simp [go_sem, Act.eval, Act.put, h15, h20, hle]
    · intro v2 w7 hr hd
      refine ⟨by intro j b e; simp at e, ?_⟩
      have h13 : v2 13 = .bool true := hd 13 (by kernel_rfl)
      have h21 : v2 21 = .bool true := hd 21 (by kernel_rfl)
      refine yields_run (u := .bool true) (w' := w7) ?_ (Below.refl _ _) rfl
      unfold execOp
      simp [go_sem, Act.eval, Act.put, h13, h21]
    · intro v2 w7 hr hd
      refine ⟨by intro j b e; simp at e, ?_⟩
      have h22 : v2 22 = .bool true := hd 22 (by kernel_rfl)
      refine yields_run (u := .bool true) (w' := w7) ?_ (Below.refl _ _) rfl
      unfold execOp
      simp [go_sem, Act.eval, Act.put, h22]
    · intro v2 w7 hr hv
      have h23 : v2 23 = .bool true := hv 23 (by decide) (by decide)
      rw [hfin]
      generalize v2 23 = v9 at h23 ⊢
      subst h23
      have HB9 := Lib.hid (HB.out.trans (hr.mono HB.out.size))
      clear hfin hv hr
      generalize v2 = vz
      go_wp2_with fail
      go_ret
      exact ⟨rfl, HB9.out⟩
end Go.Proofs.YtpbdfiddgbkkmaaDoor.oper
