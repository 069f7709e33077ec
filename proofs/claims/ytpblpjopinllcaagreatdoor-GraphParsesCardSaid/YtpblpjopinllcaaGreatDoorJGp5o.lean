/-
  What a line adds to the draft of a graph: Gp5o (by gen_gp5.py).
  What a line's words add to the draft of a graph.
-/
import Derived.Test.YtpblpjopinllcaaGreatDoorJGp4
import Derived.Test.YtpblpjopinllcaaGreatDoorJGp3b
import Derived.StillTailTactics
import Derived.BigQuiet
import Derived.Test.YtpblpjopinllcaaGreatDoorJGp5l
import Derived.Test.YtpblpjopinllcaaGreatDoorJGp5h
set_option linter.unusedSimpArgs false
set_option linter.unusedVariables false
namespace Go.Proofs.YtpblpjopinllcaaGreatDoor.graph
open Go.ChangeShapes Go.WideShapes Go.ChangeAt Go.RowKit
open Go.Proofs.YtpblpjopinllcaaGreatDoor.opened Go.Proofs.YtpblpjopinllcaaGreatDoor.block Go.Proofs.YtpblpjopinllcaaGreatDoor.words Go.Proofs.YtpblpjopinllcaaGreatDoor.region
set_option maxRecDepth 100000 in
set_option maxHeartbeats 4000000 in
theorem addOp_any {B gd mc ml mo : Nat} {v : Gv} {g : Gr} (A : Option Addr) (c : Nat) (ws : List Bs) (hw : ws.length ≤ 100000) (hx : ∀ x ∈ ws, x.length ≤ 100000) (hlc : g.c.length ≤ 50000) (hll : g.l.length ≤ 50000) (hlo : g.o.length ≤ 50000) (hlh : g.h.length ≤ 50000) (w : World) (hD : DrP w B gd mc ml mo v g) (hO : OwnS w B (.slice A ws.length c) ws) (hE : Env w) (hK : KT w) :
    Calls Tryz.prog 143 #[.pointer (some ⟨gd, 0, none⟩), .slice A ws.length c] w fun e w' => Added B gd mc ml mo g (opF lastIx g ws) e w' ∧ Kept B w w' := by
  have HB := Lib.hid hD.size
  by_cases h5 : ws.length < 5
  · rw [opF_not h5]
    have H0 := Lib.hid hD
    clear hD hO hE hK
    go_enter Tryz.func143, Tryz.ntmps143
    go_wp2_with fail
    go_ret
    exact ⟨added_bad H0.out, kept_refl _ _⟩
  · obtain ⟨x0, n, kw', x, y, l, rfl⟩ := len5 h5
    obtain ⟨b1, rfl, hb1, CW⟩ := own_words hO (by simp)
    have H0 := Lib.hid hD
    have O0 := Lib.hid hO
    have E0 := Lib.hid hE
    have CWh := Lib.hid CW
    have KI := Lib.hid (kindOf_any kw' w hK)
    have LP := Lib.hid (loopOf_any x (hx x (by simp)) w hD)
    have hlen : (x0 :: n :: kw' :: x :: y :: l).length = l.length + 5 := rfl
    have hcap : l.length + 5 ≤ c := by
      rcases hO.2 with ⟨-, hn⟩ | ⟨g9, cap, cur, hv, hb, hg, hc, hcm, hs, ht⟩
      · simp at hn
      · injection hv with e1 e2 e3
        rw [e3]; exact hc
    have kx2 : w.cell? ⟨b1, 2, none⟩ = some (sV kw') := CW w rfl 2 kw' rfl
    have kx3 : w.cell? ⟨b1, 3, none⟩ = some (sV x) := CW w rfl 3 x rfl
    have kx4 : w.cell? ⟨b1, 4, none⟩ = some (sV y) := CW w rfl 4 y rfl
    have hlo := hK.lo
    have hmk : 1 ≤ kindN kw' → w.cell? ⟨0, kindN kw' * 7 + 2, none⟩ = some (.int .i64 (moreK (kindN kw' : Nat) : Nat)) := fun h1 => (hK.c _ (by have := kind_le kw'; omega) 2 (by decide)).trans (kRow_more _ h1 (kind_le kw'))
    have hml : ∀ k : Int, moreK k = 0 ∨ moreK k = 1 ∨ moreK k = 2 := fun k => by unfold moreK; split <;> (try split) <;> simp
    have hkl := kind_le kw'
    rw [hlen] at hw ⊢
    clear hD hE h5 CW hK hlen
    unfold opF
    dsimp only
    generalize kindN kw' = k at KI hmk hkl ⊢
    by_cases hk0 : k = 0
    · subst hk0
      rw [if_pos (.inl rfl)]
      clear hmk
      go_enter Tryz.func143, Tryz.ntmps143
      go_wp2_with (go_at_call 221; refine KI.out.mono ?_; rintro e w1 ⟨rfl, rfl⟩)
      go_ret
      exact ⟨added_bad H0.out, kept_refl _ _⟩
    have hk1 : 1 ≤ k := by omega
    replace hmk := hmk hk1
    have hkz : ((k : Int) == 0) = false := by rw [beq_eq_false_iff_ne]; omega
    have hm3 := hml (k : Nat)
    generalize moreK (k : Nat) = mk at hmk hm3 ⊢
    have hm2 : mk ≤ 2 := by omega
    clear hm3
    by_cases hq : l.length = mk
    case neg =>
      rw [if_pos (.inr hq)]
      have hne : ((l.length : Int) + 5 == 5 + (mk : Int)) = false := by rw [beq_eq_false_iff_ne]; omega
      clear LP
      go_enter Tryz.func143, Tryz.ntmps143
      go_wp2_with (go_at_call 221; refine KI.out.mono ?_; rintro e w1 ⟨rfl, rfl⟩)
      go_ret
      exact ⟨added_bad H0.out, kept_refl _ _⟩
    have hqe : ((l.length : Int) + 5 == 5 + (mk : Int)) = true := by rw [beq_iff_eq]; omega
    rw [if_neg (by rintro (h | h) <;> omega)]
    clear hq
    generalize lpV lastIx (g.l.map (·.n)) x = u at LP ⊢
    by_cases hz : lpE lastIx (g.l.map (·.n)) x = 0
    case neg =>
      rw [if_pos (by simpa using hz)]
      have hne : (lpE lastIx (g.l.map (·.n)) x == 0) = false := by rw [beq_eq_false_iff_ne]; exact hz
      clear hz
      generalize lpE lastIx (g.l.map (·.n)) x = z at LP hne ⊢
      go_enter Tryz.func143, Tryz.ntmps143
      go_wp2_with (first | (go_at_call 221; refine KI.out.mono ?_; rintro e w1 ⟨rfl, rfl⟩) | (go_at_call 220; refine LP.out.mono ?_; rintro e w2 ⟨rfl, rfl⟩))
      go_ret
      exact ⟨added_bad H0.out, kept_refl _ _⟩
    rw [if_neg (by simpa using hz)]
    rw [hz] at LP
    have PLC := Lib.hid (fun W (hW : OwnI W mc (g.c.map (·.n))) => placeP_any y kwAt (hx y (by simp)) (g.c.map (·.n)) mc W hW)
    have hgd := H0.out.cells.inside
    have s4 : ∀ z : Since w, z.1.cell? ⟨b1, 4, none⟩ = some (sV y) := fun z => (z.2.cell (p := ⟨b1, 4, none⟩) hb1).trans kx4
    have sm : ∀ z : Since w, z.1.cell? ⟨gd, 4, none⟩ = some (.map (some mc)) := fun z => (H0.out.below z.2).cells.read 4
    clear hz
    generalize plV lastIx kwAt (g.c.map (·.n)) y = a at PLC ⊢
    by_cases hp : plE lastIx kwAt (g.c.map (·.n)) y = 0
    case neg =>
      rw [if_pos (by simpa using hp)]
      have hne : (plE lastIx kwAt (g.c.map (·.n)) y == 0) = false := by rw [beq_eq_false_iff_ne]; exact hp
      clear hp
      generalize plE lastIx kwAt (g.c.map (·.n)) y = z at PLC hne ⊢
      have PL : Hid (∀ q : Since w, Calls Tryz.prog 222 #[sV y, .string ⟨#[97, 116, 61]⟩, .map (some mc)] q.1 fun e w' => e = .returned (.tuple #[.int .i64 (a : Nat), .int .i64 z]) ∧ ∃ q2 : Since w, w' = q2.1) := Lib.hid fun q => since_eq q (PLC.out q.1 (H0.out.below q.2).mC)
      go_enter Tryz.func143, Tryz.ntmps143
      go_upto_region 9 with (first | (go_at_call 221; refine KI.out.mono ?_; rintro e w1 ⟨rfl, rfl⟩) | (go_at_call 220; refine LP.out.mono ?_; rintro e w2 ⟨rfl, rfl⟩))
      refine region_since w (by kernel_rfl) (by kernel_rfl) (Below.refl _ _) ?_
      repeat (go_big_quiet_step ((go_at_call 222; with_reducible exact PL.out _)))
      refine wpQuiet_nil ?_
      rintro w4 ⟨q, hq4⟩
      have b4 : Below w.heap.size w w4 := hq4 ▸ q.2
      clear s4 sm hq4
      go_wp2_with fail
      go_ret
      exact ⟨added_bad (H0.out.below b4), kept_of b4 HB.out⟩
    rw [if_neg (by simpa using hp)]
    rw [hp] at PLC
    clear hp
    have PL : Hid (∀ q : Since w, Calls Tryz.prog 222 #[sV y, .string ⟨#[97, 116, 61]⟩, .map (some mc)] q.1 fun e w' => e = .returned (.tuple #[.int .i64 (a : Nat), .int .i64 0]) ∧ ∃ q2 : Since w, w' = q2.1) := Lib.hid fun q => since_eq q (PLC.out q.1 (H0.out.below q.2).mC)
    have hsl : ∀ W : World, (Instr.slice 126 (.slice (some ⟨b1, 0, none⟩) (l.length + 5) c) (some (.int .i64 5)) none none).run Tryz.prog W = .ok (.slice (sufW b1 5 c) l.length (c - 5)) W := run_sufW b1 (l.length + 5) c 5 l.length (by omega) hcap (by omega)
    have HLs : Hid (∀ W, Below w.heap.size w W → Ls W (sufW b1 5 c) l) := Lib.hid fun W hW => by
      by_cases hl0 : l.length = 0
      · exact .inl (by rw [List.eq_nil_of_length_eq_zero hl0]; rfl)
      · unfold sufW
        rw [if_neg (by omega)]
        refine .inr ⟨b1, 5, rfl, Nat.lt_of_lt_of_le hb1 hW.size, fun i v9 hv => ?_⟩
        obtain ⟨z9, hz9, rfl⟩ := Option.map_eq_some_iff.1 ((List.getElem?_map ..).symm.trans hv)
        have := CWh.out W (hW.block b1 hb1) (i + 5) z9 (by simpa using hz9)
        rwa [Nat.add_comm i 5] at this
    have NO0 := Lib.hid (fun W hW hE => numbersOf_any (sufW b1 5 c) (c - 5) l (by omega) (fun z hz => hx z (by simp [hz])) W hW hE)
    generalize sufW b1 5 c = A5 at hsl HLs NO0
    generalize aV l = a1 at NO0 ⊢
    generalize bV l = a2 at NO0 ⊢
    by_cases hab : abE l = 0
    case neg =>
      rw [if_pos (by simpa using hab)]
      have hne : (abE l == 0) = false := by rw [beq_eq_false_iff_ne]; exact hab
      clear hab
      generalize abE l = z at NO0 hne ⊢
      go_enter Tryz.func143, Tryz.ntmps143
      go_upto_region 9 with (first | (go_at_call 221; refine KI.out.mono ?_; rintro e w1 ⟨rfl, rfl⟩) | (go_at_call 220; refine LP.out.mono ?_; rintro e w2 ⟨rfl, rfl⟩))
      refine region_since w (by kernel_rfl) (by kernel_rfl) (Below.refl _ _) ?_
      repeat (go_big_quiet_step ((go_at_call 222; with_reducible exact PL.out _)))
      refine wpQuiet_nil ?_
      rintro w4 ⟨q, hq4⟩
      have B4 : Hid (Below w.heap.size w w4) := Lib.hid (hq4 ▸ q.2)
      have NO := Lib.hid (NO0.out w4 (HLs.out w4 B4.out) (E0.out.below B4.out))
      clear s4 sm hq4 NO0 HLs
      go_wp2_with (go_at_call 223; refine NO.out.mono ?_; rintro e w3 ⟨rfl, b34⟩)
      go_ret
      exact ⟨added_bad (H0.out.below (then_below B4.out b34)), kept_of (then_below B4.out b34) HB.out⟩
    rw [if_neg (by simpa using hab)]
    rw [hab] at NO0
    clear hab
    go_enter Tryz.func143, Tryz.ntmps143
    go_upto_region 9 with (first | (go_at_call 221; refine KI.out.mono ?_; rintro e w1 ⟨rfl, rfl⟩) | (go_at_call 220; refine LP.out.mono ?_; rintro e w2 ⟨rfl, rfl⟩))
    refine region_since w (by kernel_rfl) (by kernel_rfl) (Below.refl _ _) ?_
    repeat (go_big_quiet_step ((go_at_call 222; with_reducible exact PL.out _)))
    refine wpQuiet_nil ?_
    rintro w4 ⟨q, hq4⟩
    have B4 : Hid (Below w.heap.size w w4) := Lib.hid (hq4 ▸ q.2)
    have NO := Lib.hid (NO0.out w4 (HLs.out w4 B4.out) (E0.out.below B4.out))
    clear s4 sm hq4 NO0 HLs
    go_upto_region 15 with (go_at_call 223; refine NO.out.mono ?_; rintro e w3 ⟨rfl, b34⟩)
    have b3 := then_below B4.out b34
    have D3 := Lib.hid (H0.out.below b3)
    have O3 := Lib.hid (O0.out.below b3)
    have B3 := Lib.hid (b3.mono HB.out)
    have KB3 := Lib.hid (kept_of b3 HB.out)
    have hw3 := Lib.hid (b3.block b1 hb1)
    have hb3 : b1 < w3.heap.size := Nat.lt_of_lt_of_le hb1 b3.size
    clear b3 b34 kx2 kx3 kx4 hmk NO PL PLC B4 KI LP H0 O0 E0 hsl
    have hi1 : (1 : Int) < (l.length : Int) + 5 := by omega
    have hos : OwnI w3.drew mo (g.o.map (·.n)) := OwnI.same D3.out.mO rfl
    obtain ⟨wm, hrun, hom, hgm, hsm⟩ := storeI_run hos (by rw [List.length_map]; omega) (hx n (by simp))
    clear hos
    rw [List.length_map] at hrun
    have DM := Lib.hid ((D3.out.below (Below.refl _ w3).drew).put_o hgm hom)
    have OM := Lib.hid (OwnS.turnS (S := fun k => k = mo) (O3.out.below (Below.refl _ w3).drew) (turnS_grown hgm fun k e => by cases e; rfl) fun k e hk => by
      obtain ⟨cur, hc⟩ := OwnS.shapeS (O3.out.below (Below.refl _ w3).drew) e
      exact map_ne D3.out.mO hc hk)
    have BM := Lib.hid (KB3.out.map D3.out.mO hgm (Nat.le_trans HB.out B3.out.size) D3.out.bo)
    have hbm : Hid (wm.heap[b1]? = w.heap[b1]?) := Lib.hid ((hgm.block b1 hb3 (by intro e; cases e; obtain ⟨cur, hc⟩ := OwnS.shapeS O3.out rfl; exact map_ne D3.out.mO hc rfl)).trans hw3.out)
    have hbi : b1 < wm.heap.size := Nat.lt_of_lt_of_le hb3 hgm.size
    clear hom hgm hsm
    have k0 : w3.cell? ⟨gd, 2, none⟩ = some (.slice v.d g.o.length v.k) := D3.out.cells.read 2
    have km : w3.cell? ⟨gd, 6, none⟩ = some (.map (some mo)) := D3.out.cells.read 6
    have kw : w3.cell? ⟨b1, 1, none⟩ = some (sV n) := CWh.out w3 hw3.out 1 n rfl
    go_still_tail 13, (by kernel_rfl)
    change wpList _ _ _ _ _ w3.drew
    go_upto_region 16 with fail
    clear k0 km kw hrun
    obtain ⟨i0, hi0, hz0, hz1, hz2⟩ := infoD_graph_Oq
    have OX := Lib.hid DM.out.cells
    have OR := Lib.hid DM.out.oo
    have GN := Lib.hid (rowS_ne DM.out.oo DM.out.cells (by decide))
    have GI := Lib.hid DM.out.cells.inside
    have HL : Hid (g.o.length ≤ 50000) := Lib.hid (by omega)
    have HB0 := Lib.hid DM.out.size
    have CW : ∀ w7, TurnS wm w7 (RowS gd (.slice v.d g.o.length v.k)) → ∀ k x_1, (x0 :: n :: kw' :: x :: y :: l)[k]? = some x_1 → w7.cell? ⟨b1, k, none⟩ = some (sV x_1) := fun w7 h7 => CWh.out w7 ((h7.block b1 hbi (words_apart DM.out.oo OM.out DM.out.cells (by decide) (by decide) b1 rfl)).trans hbm.out)
    refine region_full 98 [(16, 20)] [(16, 5), (20, 5), (20, 16)] (fun k => k == 5 || k == 16 || k == 20) (fun w7 => TurnS wm w7 (RowS gd (.slice v.d g.o.length v.k))) ?hR ?r0 [pdOne 0 (Is (.pointer (some ⟨gd, 0, none⟩))), pdOne 1 (Is (.pointer (some ⟨gd, 0, none⟩))), pdOne 2 (Is (.pointer (some ⟨gd, 0, none⟩))), pdOne 3 (Is (.pointer (some ⟨gd, 0, none⟩))), pdOne 4 (Is (.pointer (some ⟨gd, 2, none⟩))), pdOne 5 (Is (.slice v.d g.o.length v.k)), pdOne 6 (Is (.slice (some ⟨b1, 0, none⟩) (l.length + 5) c)), pdOne 7 (Is (.pointer (some ⟨b1, 1, none⟩))), pdOne 8 (Is (sV n)), pdOne 9 (Is (.int .i64 (k : Nat))), pdOne 10 (Is (.int .i64 u)), pdOne 11 (Is (.int .i64 (a : Nat))), pdOne 12 (Is (.int .i64 a1)), pdOne 13 (Is (.int .i64 a2)), pdOne 14 (Is (.agg (cOq (⟨n, (k : Nat), u, (a : Nat), a1, a2⟩ : Oq)).toArray)), pdOne 15 (LoneG 145 cOq wm.heap.size (⟨n, (k : Nat), u, (a : Nat), a1, a2⟩ : Oq)), pdOne 16 (NewG 145 6 cOq B (g.o ++ [(⟨n, (k : Nat), u, (a : Nat), a1, a2⟩ : Oq)])), pdOne 17 (Is (.pointer (some ⟨gd, 0, none⟩))), pdOne 18 (Is (.pointer (some ⟨gd, 0, none⟩))), pdOne 19 (Is (.pointer (some ⟨gd, 2, none⟩))), pdOne 20 (LaidG 145 6 cOq gd 130 (fun uq => #[.slice v.a g.c.length v.i, .slice v.b g.l.length v.j, uq, .slice v.e g.h.length v.m, .map (some mc), .map (some ml), .map (some mo)]) B (g.o ++ [(⟨n, (k : Nat), u, (a : Nat), a1, a2⟩ : Oq)]))] (fun k w7 => (k = 5 → Whole w7 gd 130 ((fun uq => #[.slice v.a g.c.length v.i, .slice v.b g.l.length v.j, uq, .slice v.e g.h.length v.m, .map (some mc), .map (some ml), .map (some mo)]) (.slice v.d g.o.length v.k))) ∧ (k = 16 → OwnG 145 6 cOq w7 B (.slice v.d g.o.length v.k) g.o) ∧ (k = 20 → ∃ u, Whole w7 gd 130 ((fun uq => #[.slice v.a g.c.length v.i, .slice v.b g.l.length v.j, uq, .slice v.e g.h.length v.m, .map (some mc), .map (some ml), .map (some mo)]) u))) (by kernel_rfl) rfl (by kernel_rfl) (by kernel_rfl) (by kernel_rfl) (by kernel_rfl) ?keep ?hO ?h0 ?tell
    case hR => exact fun w7 w8 hb h1 => h1.later hb
    case r0 => exact TurnS.refl _ _
    case keep => exact ⟨keep_one (keeps_is _), keep_one (keeps_is _), keep_one (keeps_is _), keep_one (keeps_is _), keep_one (keeps_is _), keep_one (keeps_is _), keep_one (keeps_is _), keep_one (keeps_is _), keep_one (keeps_is _), keep_one (keeps_is _), keep_one (keeps_is _), keep_one (keeps_is _), keep_one (keeps_is _), keep_one (keeps_is _), keep_one (keeps_is _), keep_one (keeps_loneG _ _), keep_one (keeps_newG _ _), keep_one (keeps_is _), keep_one (keeps_is _), keep_one (keeps_is _), keep_one (keeps_laidG _ _ _ _ _), trivial⟩
    case hO => exact fun k w7 w8 hb ⟨h1, h2, h3⟩ => ⟨fun e => (h1 e).below hb (h1 e).inside, fun e => (h2 e).below hb, fun e => (h3 e).imp fun u hx => hx.below hb hx.inside⟩
    case h0 => exact fun k _ => ⟨fun _ => OX.out, fun _ => OR.out, fun _ => ⟨_, OX.out⟩⟩
    case tell =>
      intro fin hfin
      simp [lexPut, Act.put] at hfin
      simp only [TellF]
      refine ⟨⟨?_, ?_, ?_, ?_, ?_, ?_, ?_, ?_, ?_, ?_, ?_, ?_, ?_, ?_, ?_, ?_, ?_, ?_, ?_, ?_, ?_, trivial⟩, ?_⟩
      · intro v2 w7 hr hd
        refine yields_run (u := .pointer (some ⟨gd, 0, none⟩)) (w' := w7) ?_ (Below.refl _ _) rfl
        unfold execOp
        simp [go_sem, Act.eval]
      · intro v2 w7 hr hd
        refine yields_run (u := .pointer (some ⟨gd, 0, none⟩)) (w' := w7) ?_ (Below.refl _ _) rfl
        unfold execOp
        simp [go_sem, Act.eval, Act.put]
      · intro v2 w7 hr hd
        have h1 : v2 1 = .pointer (some ⟨gd, 0, none⟩) := hd 1 (by kernel_rfl)
        refine yields_run (u := .pointer (some ⟨gd, 0, none⟩)) (w' := w7) ?_ (Below.refl _ _) rfl
        unfold execOp
        simp [go_sem, Act.eval, Act.put, h1]
      · intro v2 w7 hr hd
        have h2 : v2 2 = .pointer (some ⟨gd, 0, none⟩) := hd 2 (by kernel_rfl)
        refine yields_run (u := .pointer (some ⟨gd, 0, none⟩)) (w' := w7) ?_ (Below.refl _ _) rfl
        unfold execOp
        simp [go_sem, Act.eval, Act.put, h2]
      · intro v2 w7 hr hd
        have h3 : v2 3 = .pointer (some ⟨gd, 0, none⟩) := hd 3 (by kernel_rfl)
        refine yields_run (u := .pointer (some ⟨gd, 2, none⟩)) (w' := w7) ?_ (Below.refl _ _) rfl
        unfold execOp
        simp [go_sem, Act.eval, Act.put, h3]
      · intro v2 w7 hr ho hd
        have h4 : v2 4 = .pointer (some ⟨gd, 2, none⟩) := hd 4 (by kernel_rfl)
        have hc : w7.cell? ⟨gd, 2, none⟩ = some (.slice v.d g.o.length v.k) := (ho.1 trivial).read 2
        refine .inl (.inl ⟨.slice v.d g.o.length v.k, w7, ?_, hr, fun _ _ _ _ hu => hu, fun _ _ _ _ hu => hu, rfl⟩)
        unfold execOp
        simp [go_sem, Act.eval, Act.put, h4, hc]
      · intro v2 w7 hr hd
        refine yields_run (u := .slice (some ⟨b1, 0, none⟩) (l.length + 5) c) (w' := w7) ?_ (Below.refl _ _) rfl
        unfold execOp
        simp [go_sem, Act.eval, Act.put]
      · intro v2 w7 hr hd
        have h6 : v2 6 = .slice (some ⟨b1, 0, none⟩) (l.length + 5) c := hd 6 (by kernel_rfl)
        exact yields_index (b := b1) (off := 0) (n := (l.length + 5)) (c := c) (i := 1) (m := 1) rfl (by simp [Act.eval, Act.put, h6]) (by simp [Act.eval, Act.put]) (by omega) Tryz.underlying126 (by intro w; simp [Tryz.sizeOf9])
      · intro v2 w7 hr hd
        have h7 : v2 7 = .pointer (some ⟨b1, 1, none⟩) := hd 7 (by kernel_rfl)
        have hc : w7.cell? ⟨b1, 1, none⟩ = some (sV n) := CW w7 hr 1 _ rfl
        refine yields_run (u := sV n) (w' := w7) ?_ (Below.refl _ _) rfl
        unfold execOp
        simp [go_sem, Act.eval, Act.put, h7, hc]
      · intro v2 w7 hr hd
        refine yields_run (u := .int .i64 (k : Nat)) (w' := w7) ?_ (Below.refl _ _) rfl
        unfold execOp
        simp [go_sem, Act.eval, Act.put]
      · intro v2 w7 hr hd
        refine yields_run (u := .int .i64 u) (w' := w7) ?_ (Below.refl _ _) rfl
        unfold execOp
        simp [go_sem, Act.eval, Act.put]
      · intro v2 w7 hr hd
        refine yields_run (u := .int .i64 (a : Nat)) (w' := w7) ?_ (Below.refl _ _) rfl
        unfold execOp
        simp [go_sem, Act.eval, Act.put]
      · intro v2 w7 hr hd
        refine yields_run (u := .int .i64 a1) (w' := w7) ?_ (Below.refl _ _) rfl
        unfold execOp
        simp [go_sem, Act.eval, Act.put]
      · intro v2 w7 hr hd
        refine yields_run (u := .int .i64 a2) (w' := w7) ?_ (Below.refl _ _) rfl
        unfold execOp
        simp [go_sem, Act.eval, Act.put]
      · intro v2 w7 hr hd
        have h8 : v2 8 = sV n := hd 8 (by kernel_rfl)
        have h9 : v2 9 = .int .i64 (k : Nat) := hd 9 (by kernel_rfl)
        have h10 : v2 10 = .int .i64 u := hd 10 (by kernel_rfl)
        have h11 : v2 11 = .int .i64 (a : Nat) := hd 11 (by kernel_rfl)
        have h12 : v2 12 = .int .i64 a1 := hd 12 (by kernel_rfl)
        have h13 : v2 13 = .int .i64 a2 := hd 13 (by kernel_rfl)
        refine yields_run (u := .agg (cOq (⟨n, (k : Nat), u, (a : Nat), a1, a2⟩ : Oq)).toArray) (w' := w7) ?_ (Below.refl _ _) rfl
        unfold execOp
        simp [go_sem, Act.eval, Act.put, h8, h9, h10, h11, h12, h13, cOq]
      · intro v2 w7 hr hd
        have h14 : v2 14 = .agg (cOq (⟨n, (k : Nat), u, (a : Nat), a1, a2⟩ : Oq)).toArray := hd 14 (by kernel_rfl)
        refine yields_run (u := .slice (some ⟨w7.heap.size, 0, none⟩) 1 1) (w' := w7.alloc (.cells (cOq (⟨n, (k : Nat), u, (a : Nat), a1, a2⟩ : Oq)).toArray 145)) ?_ (fresh1 w7 _) ⟨w7.heap.size, rfl, hr.size, Whole.fresh w7 _ _⟩
        unfold execOp
        simp [go_sem, Act.eval, Act.put, h14, cOq]
      · intro v2 w7 hr ho hd
        have h5 : v2 5 = .slice v.d g.o.length v.k := hd 5 (by kernel_rfl)
        obtain ⟨gy, hz, hyl, hw⟩ : LoneG 145 cOq wm.heap.size (⟨n, (k : Nat), u, (a : Nat), a1, a2⟩ : Oq) (v2 15) w7 := hd 15 (by kernel_rfl)
        have ho7 := ho.2.1 trivial
        refine .inl (yields_append (.tmp 83) (.tmp 93) 24 rfl B 145 i0 (.agg #[sV [], .int .i64 0, .int .i64 0, .int .i64 0, .int .i64 0, .int .i64 0]) 6 56 Tryz.underlying24 hi0 hz0 hz1 hz2 rfl (by decide) (.slice v.d g.o.length v.k) g.o.length (g.o.flatMap cOq) (by simp [Act.eval, Act.put, h5]) ho7 ⟨gy, 0, none⟩ 1 1 (cOq (⟨n, (k : Nat), u, (a : Nat), a1, a2⟩ : Oq)) (by simp [Act.eval, Act.put, hz]) rfl (whole_cells hw) (CELLS_cOq.one (⟨n, (k : Nat), u, (a : Nat), a1, a2⟩ : Oq)) (by decide) (by have := HL.out; unfold maxLen; omega) (by have := HL.out; omega) (Nat.le_trans HB0.out hr.size) ?_)
        intro g8 cap8 w8 hown hgrow
        have hxn : some gd ≠ (Value.slice v.d g.o.length v.k).ownBlock := GN.out
        refine ⟨hr.grown hgrow (fun j e => .inl (.inr e)), ?_, ?_, (show NewG 145 6 cOq B (g.o ++ [(⟨n, (k : Nat), u, (a : Nat), a1, a2⟩ : Oq)]) (.slice (some ⟨g8, 0, none⟩) (g.o.length + 1) cap8) w8 from ⟨g8, cap8, by simp, by unfold OwnG; simpa using hown⟩)⟩
        · intro k2 v' hk2 hc hu
          exact match k2, hk2, hc, hu with
            | 0, _, _, hu => hu
            | 1, _, _, hu => hu
            | 2, _, _, hu => hu
            | 3, _, _, hu => hu
            | 4, _, _, hu => hu
            | 5, _, _, hu => hu
            | 6, _, _, hu => hu
            | 7, _, _, hu => hu
            | 8, _, _, hu => hu
            | 9, _, _, hu => hu
            | 10, _, _, hu => hu
            | 11, _, _, hu => hu
            | 12, _, _, hu => hu
            | 13, _, _, hu => hu
            | 14, _, _, hu => hu
            | 15, _, _, ⟨gy, h1, h2, h3⟩ => ⟨gy, h1, h2, h3.grown hgrow (OR.out.away h2)⟩
            | 16, hk2, _, _ => absurd rfl hk2
            | 17, _, _, hu => hu
            | 18, _, _, hu => hu
            | 19, _, _, hu => hu
            | 20, _, hc, _ => absurd hc (by decide)
            | _ + 21, _, _, _ => trivial
        · intro k2 hk2 hn hc2 ⟨h1, h2, h3⟩
          exact ⟨fun e => by subst e; exact absurd hc2 (by decide), fun e => absurd e hk2, fun e => (h3 e).imp fun u hx => hx.grown hgrow hxn⟩
      · intro v2 w7 hr hd
        have h0 : v2 0 = .pointer (some ⟨gd, 0, none⟩) := hd 0 (by kernel_rfl)
        refine yields_run (u := .pointer (some ⟨gd, 0, none⟩)) (w' := w7) ?_ (Below.refl _ _) rfl
        unfold execOp
        simp [go_sem, Act.eval, Act.put, h0]
      · intro v2 w7 hr hd
        have h17 : v2 17 = .pointer (some ⟨gd, 0, none⟩) := hd 17 (by kernel_rfl)
        refine yields_run (u := .pointer (some ⟨gd, 0, none⟩)) (w' := w7) ?_ (Below.refl _ _) rfl
        unfold execOp
        simp [go_sem, Act.eval, Act.put, h17]
      · intro v2 w7 hr hd
        have h18 : v2 18 = .pointer (some ⟨gd, 0, none⟩) := hd 18 (by kernel_rfl)
        refine yields_run (u := .pointer (some ⟨gd, 2, none⟩)) (w' := w7) ?_ (Below.refl _ _) rfl
        unfold execOp
        simp [go_sem, Act.eval, Act.put, h18]
      · intro v2 w7 hr ho hd
        have h19 : v2 19 = .pointer (some ⟨gd, 2, none⟩) := hd 19 (by kernel_rfl)
        obtain ⟨g', c2, h7, hn7⟩ : NewG 145 6 cOq B (g.o ++ [(⟨n, (k : Nat), u, (a : Nat), a1, a2⟩ : Oq)]) (v2 16) w7 := hd 16 (by kernel_rfl)
        obtain ⟨uq, hu0⟩ := ho.2.2 trivial
        rw [h7] at hn7
        have hc : w7.cell? ⟨gd, 2, none⟩ = some uq := hu0.read 2
        have hf : w7.frozen? ⟨gd, 2, none⟩ = false := hu0.soft 2
        have hg : w7.grownBy (w7.setCell ⟨gd, 2, none⟩ (.slice (some ⟨g', 0, none⟩) (g.o ++ [(⟨n, (k : Nat), u, (a : Nat), a1, a2⟩ : Oq)]).length c2)) (some gd) := only_store (only_of_below (Below.refl _ w7) (some gd)) _
        refine .inr ⟨w7.setCell ⟨gd, 2, none⟩ (.slice (some ⟨g', 0, none⟩) (g.o ++ [(⟨n, (k : Nat), u, (a : Nat), a1, a2⟩ : Oq)]).length c2), ?_, hr.grown hg (fun j e => .inl (.inl (by cases e; rfl))), ?_, ?_, some ⟨g', 0, none⟩, c2, hu0.store 2 _, hn7.past hg (fun k e => by cases e; exact rowS_ne hn7 hu0 (by decide))⟩
        · unfold execOp
          simp [go_sem, Act.eval, Act.put, h19, h7, hc, hf]
        · intro k2 v' hk2 hc hu
          exact match k2, hk2, hc, hu with
            | 0, _, _, hu => hu
            | 1, _, _, hu => hu
            | 2, _, _, hu => hu
            | 3, _, _, hu => hu
            | 4, _, _, hu => hu
            | 5, _, _, hu => hu
            | 6, _, _, hu => hu
            | 7, _, _, hu => hu
            | 8, _, _, hu => hu
            | 9, _, _, hu => hu
            | 10, _, _, hu => hu
            | 11, _, _, hu => hu
            | 12, _, _, hu => hu
            | 13, _, _, hu => hu
            | 14, _, _, hu => hu
            | 15, _, _, ⟨gy, h1, h2, h3⟩ => ⟨gy, h1, h2, h3.grown hg (by have := GI.out; intro e; cases e; omega)⟩
            | 16, _, _, ⟨g', c', h1, h2⟩ => ⟨g', c', h1, h2.past hg (fun k e => by cases e; exact rowS_ne h2 hu0 (by decide))⟩
            | 17, _, _, hu => hu
            | 18, _, _, hu => hu
            | 19, _, _, hu => hu
            | 20, hk2, _, _ => absurd rfl hk2
            | _ + 21, _, _, _ => trivial
        · intro k2 hk2 hn hc2 ⟨h1, h2, h3⟩
          exact ⟨fun e => by subst e; exact absurd hc2 (by decide), fun e => by subst e; exact absurd hc2 (by decide), fun e => absurd e hk2⟩
      · intro v2 w7 hr hv
        obtain ⟨D, c2, hl1, hl2⟩ : LaidG 145 6 cOq gd 130 (fun uq => #[.slice v.a g.c.length v.i, .slice v.b g.l.length v.j, uq, .slice v.e g.h.length v.m, .map (some mc), .map (some ml), .map (some mo)]) B (g.o ++ [(⟨n, (k : Nat), u, (a : Nat), a1, a2⟩ : Oq)]) (v2 20) w7 := hv 20 (by decide)
        have X10 := Lib.hid hl1
        have O10 := Lib.hid hl2
        have R10 := Lib.hid hr
        rw [hfin]
        clear hfin hv hl1 hl2 hr
        generalize v2 16 = v7
        generalize v2 15 = v6
        have hmaps := DM.out.rowS_maps DM.out.oo
        have hap := Lib.hid (rowS_above DM.out.oo DM.out.bd)
        have BE := Lib.hid (BM.out.row DM.out.oo DM.out.cells R10.out HB0.out hap.out (by decide) (by decide))
        have DE : Hid (DrP w7 B gd mc ml mo ⟨v.a, v.b, D, v.e, v.i, v.j, c2, v.m⟩ { g with o := g.o ++ [⟨n, (k : Nat), u, (a : Nat), a1, a2⟩] }) := Lib.hid
          ⟨X10.out, DM.out.oc.turn R10.out (row_apart DM.out.oo DM.out.oc DM.out.cells (by decide) (by decide)), DM.out.ol.turn R10.out (row_apart DM.out.oo DM.out.ol DM.out.cells (by decide) (by decide)), O10.out, DM.out.oh.turn R10.out (row_apart DM.out.oo DM.out.oh DM.out.cells (by decide) (by decide)), DM.out.mC.same (R10.out.block _ DM.out.mC.lt hmaps.1), DM.out.mL.same (R10.out.block _ DM.out.mL.lt hmaps.2.1), (by have := DM.out.mO.same (R10.out.block _ DM.out.mO.lt hmaps.2.2); simpa using this), DM.out.bd, DM.out.bc, DM.out.bl, DM.out.bo, DM.out.n1, DM.out.n2, DM.out.n3⟩
        clear hmaps hap X10 O10 R10 OX OR GN GI HL HB0 DM OM BM
        go_wp2_with fail
        go_ret
        exact ⟨⟨rfl, _, DE.out⟩, BE.out⟩
end Go.Proofs.YtpblpjopinllcaaGreatDoor.graph
set_option linter.unusedSimpArgs false
set_option linter.unusedVariables false
namespace Go.Proofs.YtpblpjopinllcaaGreatDoor.graph
open Go.ChangeShapes Go.WideShapes Go.ChangeAt Go.RowKit
open Go.Proofs.YtpblpjopinllcaaGreatDoor.opened Go.Proofs.YtpblpjopinllcaaGreatDoor.block Go.Proofs.YtpblpjopinllcaaGreatDoor.words Go.Proofs.YtpblpjopinllcaaGreatDoor.region

set_option maxRecDepth 100000 in
theorem add_any {B gd mc ml mo : Nat} {v : Gv} {g : Gr} (A : Option Addr) (c : Nat) (ws : List Bs) (hw : ws.length ≤ 100000) (hx : ∀ x ∈ ws, x.length ≤ 100000) (hlc : g.c.length ≤ 50000) (hll : g.l.length ≤ 50000) (hlo : g.o.length ≤ 50000) (hlh : g.h.length ≤ 50000) (w : World) (hD : DrP w B gd mc ml mo v g) (hO : OwnS w B (.slice A ws.length c) ws) (hE : Env w) (hK : KT w) :
    Calls Tryz.prog 74 #[.pointer (some ⟨gd, 0, none⟩), .slice A ws.length c] w fun e w' => Added B gd mc ml mo g (lineF lastIx g ws) e w' ∧ Kept B w w' := by
  have C1 := Lib.hid (addCluster_any A c ws hw hx hlc hll hlo hlh w hD hO hE)
  have C2 := Lib.hid (addLoop_any A c ws hw hx hlc hll hlo hlh w hD hO hE)
  have C3 := Lib.hid (addOp_any A c ws hw hx hlc hll hlo hlh w hD hO hE hK)
  have C4 := Lib.hid (addChannel_any A c ws hw hx hlc hll hlo hlh w hD hO hE)
  have HD := Lib.hid hD
  cases ws with
  | nil =>
    clear C1 C2 C3 C4 hO hE hK hD
    go_enter Tryz.func74, Tryz.ntmps74
    go_wp2_with fail
    go_ret
    exact ⟨added_bad HD.out, kept_refl _ _⟩
  | cons k r =>
    obtain ⟨b1, rfl, hb1, CW⟩ := own_words hO (by simp)
    have k0 : w.cell? ⟨b1, 0, none⟩ = some (sV k) := CW w rfl 0 k rfl
    have hl0 : (k :: r).length = r.length + 1 := rfl
    have hi1 : (0 : Int) < (r.length : Int) + 1 := by omega
    have hz : ((r.length : Int) + 1 == 0) = false := by rw [beq_eq_false_iff_ne]; omega
    clear hO hE hK hD CW hx
    have hF : lineF lastIx g (k :: r) = if k = kwCluster then clF g (k :: r) else if k = kwLoop then loF lastIx g (k :: r) else if k = kwOp then opF lastIx g (k :: r) else if k = kwFrom then chF lastIx g (k :: r) else (70, g) := rfl
    rw [hF]
    rw [hl0] at C1 C2 C3 C4 hw ⊢
    clear hF hl0
    by_cases a1 : k = kwCluster
    · rw [if_pos a1]
      obtain ⟨e1, h1⟩ : ∃ e1, clF g (k :: r) = e1 := ⟨_, rfl⟩
      rw [h1] at C1 ⊢
      clear h1 C2 C3 C4
      subst a1
      go_enter Tryz.func74, Tryz.ntmps74
      go_wp2_with (go_at_call 141; refine C1.out.mono ?_; rintro e w1 ⟨⟨rfl, hA⟩, b1⟩)
      go_ret
      exact ⟨⟨rfl, hA⟩, b1⟩
    rw [if_neg a1]
    have n1 : (k == [99, 108, 117, 115, 116, 101, 114]) = false := by rw [beq_eq_false_iff_ne]; exact a1
    by_cases a2 : k = kwLoop
    · rw [if_pos a2]
      obtain ⟨e1, h1⟩ : ∃ e1, loF lastIx g (k :: r) = e1 := ⟨_, rfl⟩
      rw [h1] at C2 ⊢
      clear h1 C1 C3 C4 n1
      subst a2
      go_enter Tryz.func74, Tryz.ntmps74
      go_wp2_with (go_at_call 142; refine C2.out.mono ?_; rintro e w1 ⟨⟨rfl, hA⟩, b1⟩)
      go_ret
      exact ⟨⟨rfl, hA⟩, b1⟩
    rw [if_neg a2]
    have n2 : (k == [108, 111, 111, 112]) = false := by rw [beq_eq_false_iff_ne]; exact a2
    by_cases a3 : k = kwOp
    · rw [if_pos a3]
      obtain ⟨e1, h1⟩ : ∃ e1, opF lastIx g (k :: r) = e1 := ⟨_, rfl⟩
      rw [h1] at C3 ⊢
      clear h1 C1 C2 C4 n1 n2
      subst a3
      go_enter Tryz.func74, Tryz.ntmps74
      go_wp2_with (go_at_call 143; refine C3.out.mono ?_; rintro e w1 ⟨⟨rfl, hA⟩, b1⟩)
      go_ret
      exact ⟨⟨rfl, hA⟩, b1⟩
    rw [if_neg a3]
    have n3 : (k == [111, 112]) = false := by rw [beq_eq_false_iff_ne]; exact a3
    by_cases a4 : k = kwFrom
    · rw [if_pos a4]
      obtain ⟨e1, h1⟩ : ∃ e1, chF lastIx g (k :: r) = e1 := ⟨_, rfl⟩
      rw [h1] at C4 ⊢
      clear h1 C1 C2 C3 n1 n2 n3
      subst a4
      go_enter Tryz.func74, Tryz.ntmps74
      go_wp2_with (go_at_call 144; refine C4.out.mono ?_; rintro e w1 ⟨⟨rfl, hA⟩, b1⟩)
      go_ret
      exact ⟨⟨rfl, hA⟩, b1⟩
    rw [if_neg a4]
    have n4 : (k == [102, 114, 111, 109]) = false := by rw [beq_eq_false_iff_ne]; exact a4
    clear C1 C2 C3 C4
    go_enter Tryz.func74, Tryz.ntmps74
    go_wp2_with fail
    go_ret
    exact ⟨added_bad HD.out, kept_refl _ _⟩
end Go.Proofs.YtpblpjopinllcaaGreatDoor.graph
