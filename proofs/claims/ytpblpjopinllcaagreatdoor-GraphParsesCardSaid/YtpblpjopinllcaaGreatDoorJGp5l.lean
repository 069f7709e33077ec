/-
  What a line adds to the draft of a graph: Gp5l (by gen_gp5.py).
-/
import Derived.Test.YtpblpjopinllcaaGreatDoorJGp4
import Derived.Test.YtpblpjopinllcaaGreatDoorJGp3b
import Derived.StillTailTactics
import Derived.BigQuiet
set_option linter.unusedSimpArgs false
set_option linter.unusedVariables false
namespace Go.Proofs.YtpblpjopinllcaaGreatDoor.graph
open Go.ChangeShapes Go.WideShapes Go.ChangeAt Go.RowKit
open Go.Proofs.YtpblpjopinllcaaGreatDoor.opened Go.Proofs.YtpblpjopinllcaaGreatDoor.block Go.Proofs.YtpblpjopinllcaaGreatDoor.words Go.Proofs.YtpblpjopinllcaaGreatDoor.region
set_option maxRecDepth 100000 in
set_option maxHeartbeats 4000000 in
theorem addLoop_any {B gd mc ml mo : Nat} {v : Gv} {g : Gr} (A : Option Addr) (c : Nat) (ws : List Bs) (hw : ws.length ≤ 100000) (hx : ∀ x ∈ ws, x.length ≤ 100000) (hlc : g.c.length ≤ 50000) (hll : g.l.length ≤ 50000) (hlo : g.o.length ≤ 50000) (hlh : g.h.length ≤ 50000) (w : World) (hD : DrP w B gd mc ml mo v g) (hO : OwnS w B (.slice A ws.length c) ws) (hE : Env w) :
    Calls Tryz.prog 142 #[.pointer (some ⟨gd, 0, none⟩), .slice A ws.length c] w fun e w' => Added B gd mc ml mo g (loF lastIx g ws) e w' ∧ Kept B w w' := by
  have HB := Lib.hid hD.size
  by_cases h3 : ws.length = 4
  · obtain ⟨x0, n, x, y, rfl⟩ := len4 h3
    obtain ⟨b1, rfl, hb1, CW⟩ := own_words hO (by simp)
    have H0 := Lib.hid hD
    have O0 := Lib.hid hO
    have E0 := Lib.hid hE
    have CWh := Lib.hid CW
    have NU := Lib.hid (fun W hW => numberP_any y kwRounds (hx y (by simp)) W hW)
    have LP := Lib.hid (loopOf_any x (hx x (by simp)) w hD)
    have kx : w.cell? ⟨b1, 2, none⟩ = some (sV x) := CW w rfl 2 x rfl
    have ky : w.cell? ⟨b1, 3, none⟩ = some (sV y) := CW w rfl 3 y rfl
    clear hD hO hE h3 CW
    unfold loF
    dsimp only
    generalize lpV lastIx (g.l.map (·.n)) x = u at LP ⊢
    by_cases hz : lpE lastIx (g.l.map (·.n)) x = 0
    · rw [if_neg (by simpa using hz)]
      rw [hz] at LP
      clear hz
      by_cases he : numE kwRounds y = 0
      · rw [if_neg (by simpa using he)]
        rw [he] at NU
        generalize numV kwRounds y = r at NU ⊢
        clear he
        go_enter Tryz.func142, Tryz.ntmps142
        go_upto_region 9 with (first | (go_at_call 220; refine LP.out.mono ?_; rintro e w2 ⟨rfl, rfl⟩) | (go_at_call 219; refine (NU.out _ E0.out).mono ?_; rintro e w3 ⟨rfl, b3⟩))
        have D3 := Lib.hid (H0.out.below b3)
        have O3 := Lib.hid (O0.out.below b3)
        have B3 := Lib.hid (b3.mono HB.out)
        have KB3 := Lib.hid (kept_of b3 HB.out)
        have hw3 := Lib.hid (b3.block b1 hb1)
        have hb3 : b1 < w3.heap.size := Nat.lt_of_lt_of_le hb1 b3.size
        clear b3 kx ky NU LP H0 O0 E0
        have hos : OwnI w3.drew ml (g.l.map (·.n)) := OwnI.same D3.out.mL rfl
        obtain ⟨wm, hrun, hom, hgm, hsm⟩ := storeI_run hos (by rw [List.length_map]; omega) (hx n (by simp))
        clear hos
        rw [List.length_map] at hrun
        have DM := Lib.hid ((D3.out.below (Below.refl _ w3).drew).put_l hgm hom)
        have OM := Lib.hid (OwnS.turnS (S := fun k => k = ml) (O3.out.below (Below.refl _ w3).drew) (turnS_grown hgm fun k e => by cases e; rfl) fun k e hk => by
          obtain ⟨cur, hc⟩ := OwnS.shapeS (O3.out.below (Below.refl _ w3).drew) e
          exact map_ne D3.out.mL hc hk)
        have BM := Lib.hid (KB3.out.map D3.out.mL hgm (Nat.le_trans HB.out B3.out.size) D3.out.bl)
        have hbm : Hid (wm.heap[b1]? = w.heap[b1]?) := Lib.hid ((hgm.block b1 hb3 (by intro e; cases e; obtain ⟨cur, hc⟩ := OwnS.shapeS O3.out rfl; exact map_ne D3.out.mL hc rfl)).trans hw3.out)
        have hbi : b1 < wm.heap.size := Nat.lt_of_lt_of_le hb3 hgm.size
        clear hom hgm hsm
        have k0 : w3.cell? ⟨gd, 1, none⟩ = some (.slice v.b g.l.length v.j) := D3.out.cells.read 1
        have km : w3.cell? ⟨gd, 5, none⟩ = some (.map (some ml)) := D3.out.cells.read 5
        have kw : w3.cell? ⟨b1, 1, none⟩ = some (sV n) := CWh.out w3 hw3.out 1 n rfl
        go_still_tail 13, (by kernel_rfl)
        change wpList _ _ _ _ _ w3.drew
        go_upto_region 10 with fail
        clear k0 km kw hrun
        obtain ⟨i0, hi0, hz0, hz1, hz2⟩ := infoD_graph_Lo
        have OX := Lib.hid DM.out.cells
        have OR := Lib.hid DM.out.ol
        have GN := Lib.hid (rowS_ne DM.out.ol DM.out.cells (by decide))
        have GI := Lib.hid DM.out.cells.inside
        have HL : Hid (g.l.length ≤ 50000) := Lib.hid (by omega)
        have HB0 := Lib.hid DM.out.size
        have CW : ∀ w7, TurnS wm w7 (RowS gd (.slice v.b g.l.length v.j)) → ∀ k x_1, [x0, n, x, y][k]? = some x_1 → w7.cell? ⟨b1, k, none⟩ = some (sV x_1) := fun w7 h7 => CWh.out w7 ((h7.block b1 hbi (words_apart DM.out.ol OM.out DM.out.cells (by decide) (by decide) b1 rfl)).trans hbm.out)
        refine region_full 62 [(13, 17)] [(13, 5), (17, 5), (17, 13)] (fun k => k == 5 || k == 13 || k == 17) (fun w7 => TurnS wm w7 (RowS gd (.slice v.b g.l.length v.j))) ?hR ?r0 [pdOne 0 (Is (.pointer (some ⟨gd, 0, none⟩))), pdOne 1 (Is (.pointer (some ⟨gd, 0, none⟩))), pdOne 2 (Is (.pointer (some ⟨gd, 0, none⟩))), pdOne 3 (Is (.pointer (some ⟨gd, 0, none⟩))), pdOne 4 (Is (.pointer (some ⟨gd, 1, none⟩))), pdOne 5 (Is (.slice v.b g.l.length v.j)), pdOne 6 (Is (.slice (some ⟨b1, 0, none⟩) 4 c)), pdOne 7 (Is (.pointer (some ⟨b1, 1, none⟩))), pdOne 8 (Is (sV n)), pdOne 9 (Is (.int .i64 u)), pdOne 10 (Is (.int .i64 r)), pdOne 11 (Is (.agg (cLo (⟨n, u, r⟩ : Lo)).toArray)), pdOne 12 (LoneG 144 cLo wm.heap.size (⟨n, u, r⟩ : Lo)), pdOne 13 (NewG 144 3 cLo B (g.l ++ [(⟨n, u, r⟩ : Lo)])), pdOne 14 (Is (.pointer (some ⟨gd, 0, none⟩))), pdOne 15 (Is (.pointer (some ⟨gd, 0, none⟩))), pdOne 16 (Is (.pointer (some ⟨gd, 1, none⟩))), pdOne 17 (LaidG 144 3 cLo gd 130 (fun uq => #[.slice v.a g.c.length v.i, uq, .slice v.d g.o.length v.k, .slice v.e g.h.length v.m, .map (some mc), .map (some ml), .map (some mo)]) B (g.l ++ [(⟨n, u, r⟩ : Lo)]))] (fun k w7 => (k = 5 → Whole w7 gd 130 ((fun uq => #[.slice v.a g.c.length v.i, uq, .slice v.d g.o.length v.k, .slice v.e g.h.length v.m, .map (some mc), .map (some ml), .map (some mo)]) (.slice v.b g.l.length v.j))) ∧ (k = 13 → OwnG 144 3 cLo w7 B (.slice v.b g.l.length v.j) g.l) ∧ (k = 17 → ∃ u, Whole w7 gd 130 ((fun uq => #[.slice v.a g.c.length v.i, uq, .slice v.d g.o.length v.k, .slice v.e g.h.length v.m, .map (some mc), .map (some ml), .map (some mo)]) u))) (by kernel_rfl) rfl (by kernel_rfl) (by kernel_rfl) (by kernel_rfl) (by kernel_rfl) ?keep ?hO ?h0 ?tell
        case hR => exact fun w7 w8 hb h1 => h1.later hb
        case r0 => exact TurnS.refl _ _
        case keep => exact ⟨keep_one (keeps_is _), keep_one (keeps_is _), keep_one (keeps_is _), keep_one (keeps_is _), keep_one (keeps_is _), keep_one (keeps_is _), keep_one (keeps_is _), keep_one (keeps_is _), keep_one (keeps_is _), keep_one (keeps_is _), keep_one (keeps_is _), keep_one (keeps_is _), keep_one (keeps_loneG _ _), keep_one (keeps_newG _ _), keep_one (keeps_is _), keep_one (keeps_is _), keep_one (keeps_is _), keep_one (keeps_laidG _ _ _ _ _), trivial⟩
        case hO => exact fun k w7 w8 hb ⟨h1, h2, h3⟩ => ⟨fun e => (h1 e).below hb (h1 e).inside, fun e => (h2 e).below hb, fun e => (h3 e).imp fun u hx => hx.below hb hx.inside⟩
        case h0 => exact fun k _ => ⟨fun _ => OX.out, fun _ => OR.out, fun _ => ⟨_, OX.out⟩⟩
        case tell =>
          intro fin hfin
          simp [lexPut, Act.put] at hfin
          simp only [TellF]
          refine ⟨⟨?_, ?_, ?_, ?_, ?_, ?_, ?_, ?_, ?_, ?_, ?_, ?_, ?_, ?_, ?_, ?_, ?_, ?_, trivial⟩, ?_⟩
          · intro v2 w7 hr hd
            refine yields_run (u := .pointer (some ⟨gd, 0, none⟩)) (w' := w7) ?_ (Below.refl _ _) rfl
            unfold execOp
            simp [go_sem, Act.eval]
          · intro v2 w7 hr hd
            refine yields_run (u := .pointer (some ⟨gd, 0, none⟩)) (w' := w7) ?_ (Below.refl _ _) rfl
            unfold execOp
            simp [go_sem, Act.eval, Act.put]
          · intro v2 w7 hr hd
            have h1 : v2 1 = .pointer (some ⟨gd, 0, none⟩) := hd 1 (by kernel_rfl)
            refine yields_run (u := .pointer (some ⟨gd, 0, none⟩)) (w' := w7) ?_ (Below.refl _ _) rfl
            unfold execOp
            simp [go_sem, Act.eval, Act.put, h1]
          · intro v2 w7 hr hd
            have h2 : v2 2 = .pointer (some ⟨gd, 0, none⟩) := hd 2 (by kernel_rfl)
            refine yields_run (u := .pointer (some ⟨gd, 0, none⟩)) (w' := w7) ?_ (Below.refl _ _) rfl
            unfold execOp
            simp [go_sem, Act.eval, Act.put, h2]
          · intro v2 w7 hr hd
            have h3 : v2 3 = .pointer (some ⟨gd, 0, none⟩) := hd 3 (by kernel_rfl)
            refine yields_run (u := .pointer (some ⟨gd, 1, none⟩)) (w' := w7) ?_ (Below.refl _ _) rfl
            unfold execOp
            simp [go_sem, Act.eval, Act.put, h3]
          · intro v2 w7 hr ho hd
            have h4 : v2 4 = .pointer (some ⟨gd, 1, none⟩) := hd 4 (by kernel_rfl)
            have hc : w7.cell? ⟨gd, 1, none⟩ = some (.slice v.b g.l.length v.j) := (ho.1 trivial).read 1
            refine .inl (.inl ⟨.slice v.b g.l.length v.j, w7, ?_, hr, fun _ _ _ _ hu => hu, fun _ _ _ _ hu => hu, rfl⟩)
            unfold execOp
            simp [go_sem, Act.eval, Act.put, h4, hc]
          · intro v2 w7 hr hd
            refine yields_run (u := .slice (some ⟨b1, 0, none⟩) 4 c) (w' := w7) ?_ (Below.refl _ _) rfl
            unfold execOp
            simp [go_sem, Act.eval, Act.put]
          · intro v2 w7 hr hd
            have h6 : v2 6 = .slice (some ⟨b1, 0, none⟩) 4 c := hd 6 (by kernel_rfl)
            exact yields_index (b := b1) (off := 0) (n := 4) (c := c) (i := 1) (m := 1) rfl (by simp [Act.eval, Act.put, h6]) (by simp [Act.eval, Act.put]) (by omega) Tryz.underlying126 (by intro w; simp [Tryz.sizeOf9])
          · intro v2 w7 hr hd
            have h7 : v2 7 = .pointer (some ⟨b1, 1, none⟩) := hd 7 (by kernel_rfl)
            have hc : w7.cell? ⟨b1, 1, none⟩ = some (sV n) := CW w7 hr 1 _ rfl
            refine yields_run (u := sV n) (w' := w7) ?_ (Below.refl _ _) rfl
            unfold execOp
            simp [go_sem, Act.eval, Act.put, h7, hc]
          · intro v2 w7 hr hd
            refine yields_run (u := .int .i64 u) (w' := w7) ?_ (Below.refl _ _) rfl
            unfold execOp
            simp [go_sem, Act.eval, Act.put]
          · intro v2 w7 hr hd
            refine yields_run (u := .int .i64 r) (w' := w7) ?_ (Below.refl _ _) rfl
            unfold execOp
            simp [go_sem, Act.eval, Act.put]
          · intro v2 w7 hr hd
            have h8 : v2 8 = sV n := hd 8 (by kernel_rfl)
            have h9 : v2 9 = .int .i64 u := hd 9 (by kernel_rfl)
            have h10 : v2 10 = .int .i64 r := hd 10 (by kernel_rfl)
            refine yields_run (u := .agg (cLo (⟨n, u, r⟩ : Lo)).toArray) (w' := w7) ?_ (Below.refl _ _) rfl
            unfold execOp
            simp [go_sem, Act.eval, Act.put, h8, h9, h10, cLo]
          · intro v2 w7 hr hd
            have h11 : v2 11 = .agg (cLo (⟨n, u, r⟩ : Lo)).toArray := hd 11 (by kernel_rfl)
            refine yields_run (u := .slice (some ⟨w7.heap.size, 0, none⟩) 1 1) (w' := w7.alloc (.cells (cLo (⟨n, u, r⟩ : Lo)).toArray 144)) ?_ (fresh1 w7 _) ⟨w7.heap.size, rfl, hr.size, Whole.fresh w7 _ _⟩
            unfold execOp
            simp [go_sem, Act.eval, Act.put, h11, cLo]
          · intro v2 w7 hr ho hd
            have h5 : v2 5 = .slice v.b g.l.length v.j := hd 5 (by kernel_rfl)
            obtain ⟨gy, hz, hyl, hw⟩ : LoneG 144 cLo wm.heap.size (⟨n, u, r⟩ : Lo) (v2 12) w7 := hd 12 (by kernel_rfl)
            have ho7 := ho.2.1 trivial
            refine .inl (yields_append (.tmp 50) (.tmp 57) 23 rfl B 144 i0 (.agg #[sV [], .int .i64 0, .int .i64 0]) 3 32 Tryz.underlying23 hi0 hz0 hz1 hz2 rfl (by decide) (.slice v.b g.l.length v.j) g.l.length (g.l.flatMap cLo) (by simp [Act.eval, Act.put, h5]) ho7 ⟨gy, 0, none⟩ 1 1 (cLo (⟨n, u, r⟩ : Lo)) (by simp [Act.eval, Act.put, hz]) rfl (whole_cells hw) (CELLS_cLo.one (⟨n, u, r⟩ : Lo)) (by decide) (by have := HL.out; unfold maxLen; omega) (by have := HL.out; omega) (Nat.le_trans HB0.out hr.size) ?_)
            intro g8 cap8 w8 hown hgrow
            have hxn : some gd ≠ (Value.slice v.b g.l.length v.j).ownBlock := GN.out
            refine ⟨hr.grown hgrow (fun j e => .inl (.inr e)), ?_, ?_, (show NewG 144 3 cLo B (g.l ++ [(⟨n, u, r⟩ : Lo)]) (.slice (some ⟨g8, 0, none⟩) (g.l.length + 1) cap8) w8 from ⟨g8, cap8, by simp, by unfold OwnG; simpa using hown⟩)⟩
            · intro k2 v' hk2 hc hu
              exact match k2, hk2, hc, hu with
                | 0, _, _, hu => hu
                | 1, _, _, hu => hu
                | 2, _, _, hu => hu
                | 3, _, _, hu => hu
                | 4, _, _, hu => hu
                | 5, _, _, hu => hu
                | 6, _, _, hu => hu
                | 7, _, _, hu => hu
                | 8, _, _, hu => hu
                | 9, _, _, hu => hu
                | 10, _, _, hu => hu
                | 11, _, _, hu => hu
                | 12, _, _, ⟨gy, h1, h2, h3⟩ => ⟨gy, h1, h2, h3.grown hgrow (OR.out.away h2)⟩
                | 13, hk2, _, _ => absurd rfl hk2
                | 14, _, _, hu => hu
                | 15, _, _, hu => hu
                | 16, _, _, hu => hu
                | 17, _, hc, _ => absurd hc (by decide)
                | _ + 18, _, _, _ => trivial
            · intro k2 hk2 hn hc2 ⟨h1, h2, h3⟩
              exact ⟨fun e => by subst e; exact absurd hc2 (by decide), fun e => absurd e hk2, fun e => (h3 e).imp fun u hx => hx.grown hgrow hxn⟩
          · intro v2 w7 hr hd
            have h0 : v2 0 = .pointer (some ⟨gd, 0, none⟩) := hd 0 (by kernel_rfl)
            refine yields_run (u := .pointer (some ⟨gd, 0, none⟩)) (w' := w7) ?_ (Below.refl _ _) rfl
            unfold execOp
            simp [go_sem, Act.eval, Act.put, h0]
          · intro v2 w7 hr hd
            have h14 : v2 14 = .pointer (some ⟨gd, 0, none⟩) := hd 14 (by kernel_rfl)
            refine yields_run (u := .pointer (some ⟨gd, 0, none⟩)) (w' := w7) ?_ (Below.refl _ _) rfl
            unfold execOp
            simp [go_sem, Act.eval, Act.put, h14]
          · intro v2 w7 hr hd
            have h15 : v2 15 = .pointer (some ⟨gd, 0, none⟩) := hd 15 (by kernel_rfl)
            refine yields_run (u := .pointer (some ⟨gd, 1, none⟩)) (w' := w7) ?_ (Below.refl _ _) rfl
            unfold execOp
            simp [go_sem, Act.eval, Act.put, h15]
          · intro v2 w7 hr ho hd
            have h16 : v2 16 = .pointer (some ⟨gd, 1, none⟩) := hd 16 (by kernel_rfl)
            obtain ⟨g', c2, h7, hn7⟩ : NewG 144 3 cLo B (g.l ++ [(⟨n, u, r⟩ : Lo)]) (v2 13) w7 := hd 13 (by kernel_rfl)
            obtain ⟨uq, hu0⟩ := ho.2.2 trivial
            rw [h7] at hn7
            have hc : w7.cell? ⟨gd, 1, none⟩ = some uq := hu0.read 1
            have hf : w7.frozen? ⟨gd, 1, none⟩ = false := hu0.soft 1
            have hg : w7.grownBy (w7.setCell ⟨gd, 1, none⟩ (.slice (some ⟨g', 0, none⟩) (g.l ++ [(⟨n, u, r⟩ : Lo)]).length c2)) (some gd) := only_store (only_of_below (Below.refl _ w7) (some gd)) _
            refine .inr ⟨w7.setCell ⟨gd, 1, none⟩ (.slice (some ⟨g', 0, none⟩) (g.l ++ [(⟨n, u, r⟩ : Lo)]).length c2), ?_, hr.grown hg (fun j e => .inl (.inl (by cases e; rfl))), ?_, ?_, some ⟨g', 0, none⟩, c2, hu0.store 1 _, hn7.past hg (fun k e => by cases e; exact rowS_ne hn7 hu0 (by decide))⟩
            · unfold execOp
              simp [go_sem, Act.eval, Act.put, h16, h7, hc, hf]
            · intro k2 v' hk2 hc hu
              exact match k2, hk2, hc, hu with
                | 0, _, _, hu => hu
                | 1, _, _, hu => hu
                | 2, _, _, hu => hu
                | 3, _, _, hu => hu
                | 4, _, _, hu => hu
                | 5, _, _, hu => hu
                | 6, _, _, hu => hu
                | 7, _, _, hu => hu
                | 8, _, _, hu => hu
                | 9, _, _, hu => hu
                | 10, _, _, hu => hu
                | 11, _, _, hu => hu
                | 12, _, _, ⟨gy, h1, h2, h3⟩ => ⟨gy, h1, h2, h3.grown hg (by have := GI.out; intro e; cases e; omega)⟩
                | 13, _, _, ⟨g', c', h1, h2⟩ => ⟨g', c', h1, h2.past hg (fun k e => by cases e; exact rowS_ne h2 hu0 (by decide))⟩
                | 14, _, _, hu => hu
                | 15, _, _, hu => hu
                | 16, _, _, hu => hu
                | 17, hk2, _, _ => absurd rfl hk2
                | _ + 18, _, _, _ => trivial
            · intro k2 hk2 hn hc2 ⟨h1, h2, h3⟩
              exact ⟨fun e => by subst e; exact absurd hc2 (by decide), fun e => by subst e; exact absurd hc2 (by decide), fun e => absurd e hk2⟩
          · intro v2 w7 hr hv
            obtain ⟨D, c2, hl1, hl2⟩ : LaidG 144 3 cLo gd 130 (fun uq => #[.slice v.a g.c.length v.i, uq, .slice v.d g.o.length v.k, .slice v.e g.h.length v.m, .map (some mc), .map (some ml), .map (some mo)]) B (g.l ++ [(⟨n, u, r⟩ : Lo)]) (v2 17) w7 := hv 17 (by decide)
            have X10 := Lib.hid hl1
            have O10 := Lib.hid hl2
            have R10 := Lib.hid hr
            rw [hfin]
            clear hfin hv hl1 hl2 hr
            generalize v2 13 = v7
            generalize v2 12 = v6
            have hmaps := DM.out.rowS_maps DM.out.ol
            have hap := Lib.hid (rowS_above DM.out.ol DM.out.bd)
            have BE := Lib.hid (BM.out.row DM.out.ol DM.out.cells R10.out HB0.out hap.out (by decide) (by decide))
            have DE : Hid (DrP w7 B gd mc ml mo ⟨v.a, D, v.d, v.e, v.i, c2, v.k, v.m⟩ { g with l := g.l ++ [⟨n, u, r⟩] }) := Lib.hid
              ⟨X10.out, DM.out.oc.turn R10.out (row_apart DM.out.ol DM.out.oc DM.out.cells (by decide) (by decide)), O10.out, DM.out.oo.turn R10.out (row_apart DM.out.ol DM.out.oo DM.out.cells (by decide) (by decide)), DM.out.oh.turn R10.out (row_apart DM.out.ol DM.out.oh DM.out.cells (by decide) (by decide)), DM.out.mC.same (R10.out.block _ DM.out.mC.lt hmaps.1), (by have := DM.out.mL.same (R10.out.block _ DM.out.mL.lt hmaps.2.1); simpa using this), DM.out.mO.same (R10.out.block _ DM.out.mO.lt hmaps.2.2), DM.out.bd, DM.out.bc, DM.out.bl, DM.out.bo, DM.out.n1, DM.out.n2, DM.out.n3⟩
            clear hmaps hap X10 O10 R10 OX OR GN GI HL HB0 DM OM BM
            go_wp2_with fail
            go_ret
            exact ⟨⟨rfl, _, DE.out⟩, BE.out⟩
      · rw [if_pos (by simpa using he)]
        have hne : (numE kwRounds y == 0) = false := by rw [beq_eq_false_iff_ne]; exact he
        clear he
        generalize numV kwRounds y = r at NU
        generalize numE kwRounds y = z at NU hne ⊢
        go_enter Tryz.func142, Tryz.ntmps142
        go_wp2_with (first | (go_at_call 220; refine LP.out.mono ?_; rintro e w2 ⟨rfl, rfl⟩) | (go_at_call 219; refine (NU.out _ E0.out).mono ?_; rintro e w3 ⟨rfl, b3⟩))
        go_ret
        exact ⟨added_bad (H0.out.below b3), kept_of b3 HB.out⟩
    · rw [if_pos (by simpa using hz)]
      have hne : (lpE lastIx (g.l.map (·.n)) x == 0) = false := by rw [beq_eq_false_iff_ne]; exact hz
      clear hz NU
      generalize lpE lastIx (g.l.map (·.n)) x = z at LP hne ⊢
      go_enter Tryz.func142, Tryz.ntmps142
      go_wp2_with (go_at_call 220; refine LP.out.mono ?_; rintro e w2 ⟨rfl, rfl⟩)
      go_ret
      exact ⟨added_bad H0.out, kept_refl _ _⟩
  · rw [loF_not h3]
    have hne : ((ws.length : Int) == 4) = false := by rw [beq_eq_false_iff_ne]; omega
    have H0 := Lib.hid hD
    clear hD hO hE h3
    go_enter Tryz.func142, Tryz.ntmps142
    go_wp2_with fail
    go_ret
    exact ⟨added_bad H0.out, kept_refl _ _⟩
end Go.Proofs.YtpblpjopinllcaaGreatDoor.graph
