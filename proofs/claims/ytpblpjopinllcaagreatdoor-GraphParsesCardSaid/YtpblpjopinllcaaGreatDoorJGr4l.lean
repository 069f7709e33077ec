/-
  What a line adds to the document's graph: loops (by gen_gr4.py).
  A line of the document's graph.
  The document's parse of a graph (by gen_gr6.py).
-/
import Derived.Test.YtpblpjopinllcaaGreatDoorJGr4
import Derived.StillTailTactics
import Derived.BigQuiet
import Derived.Test.YtpblpjopinllcaaGreatDoorJGr4d
import Derived.Test.YtpblpjopinllcaaGreatDoorJGr4e
import Derived.Test.YtpblpjopinllcaaGreatDoorJGp6
import Derived.Test.YtpblpjopinllcaaGreatDoorJWu
set_option linter.unusedSimpArgs false
set_option linter.unusedVariables false
namespace Go.Proofs.YtpblpjopinllcaaGreatDoor.graph
open Go.ChangeShapes Go.WideShapes Go.ChangeAt Go.RowKit
open Go.Proofs.YtpblpjopinllcaaGreatDoor.opened Go.Proofs.YtpblpjopinllcaaGreatDoor.block Go.Proofs.YtpblpjopinllcaaGreatDoor.words Go.Proofs.YtpblpjopinllcaaGreatDoor.region
set_option maxRecDepth 100000 in
set_option maxHeartbeats 4000000 in
theorem lineL_any {B gd : Nat} {v : Gv} {g : Gr} (A : Option Addr) (c : Nat) (ws : List Bs) (hk : ws[0]? = some kwLoop) (hw : ws.length ≤ 100000) (hx : ∀ x ∈ ws, x.length ≤ 100000) (hlc : g.c.length ≤ 50000) (hll : g.l.length ≤ 50000) (hlo : g.o.length ≤ 50000) (hlh : g.h.length ≤ 50000) (w : World) (hD : DrR w B gd v g) (hO : OwnS w B (.slice A ws.length c) ws) :
    Calls Tryz.prog 78 #[.pointer (some ⟨gd, 0, none⟩), .slice A ws.length c] w fun e w' => AddR B gd (loF firstIx g ws) e w' ∧ Kept B w w' := by
  have HB := Lib.hid hD.size
  by_cases h3 : ws.length = 4
  · obtain ⟨x0, n, x, y, rfl⟩ := len4 h3
    obtain rfl : x0 = kwLoop := by simpa using hk
    obtain ⟨b1, rfl, hb1, CW⟩ := own_words hO (by simp)
    have H0 := Lib.hid hD
    have O0 := Lib.hid hO
    have CWh := Lib.hid CW
    have NU0 := fun W => value9_any y kwRounds (hx y (by simp)) W
    have WI := fun W (hW : Lies4 W v g) => within9_any v g (by omega) x W hW
    unfold gV at WI
    have k0 : w.cell? ⟨b1, 0, none⟩ = some (sV kwLoop) := CW w rfl 0 _ rfl
    have s2 : ∀ q : Since w, q.1.cell? ⟨b1, 2, none⟩ = some (sV x) := fun q => CWh.out q.1 (q.2.block b1 hb1) 2 x rfl
    have hgd := hD.cells.inside
    have t0 : ∀ q : Since w, q.1.cell? ⟨gd, 0, none⟩ = some (.slice v.a g.c.length v.i) := fun q => (H0.out.below q.2).cells.read 0
    have t1 : ∀ q : Since w, q.1.cell? ⟨gd, 1, none⟩ = some (.slice v.b g.l.length v.j) := fun q => (H0.out.below q.2).cells.read 1
    have t2 : ∀ q : Since w, q.1.cell? ⟨gd, 2, none⟩ = some (.slice v.d g.o.length v.k) := fun q => (H0.out.below q.2).cells.read 2
    have t3 : ∀ q : Since w, q.1.cell? ⟨gd, 3, none⟩ = some (.slice v.e g.h.length v.m) := fun q => (H0.out.below q.2).cells.read 3

    clear hD hO h3 CW hk
    unfold loF
    dsimp only
    generalize lpV firstIx g.ln x = u at WI ⊢
    by_cases hz : lpE firstIx g.ln x = 0
    case neg =>
      rw [if_pos (by simpa using hz)]
      have hne : (lpE firstIx g.ln x == 0) = false := by rw [beq_eq_false_iff_ne]; exact hz
      generalize lpE firstIx g.ln x = z at WI hne hz ⊢
      have hzh := Lib.hid hz
      clear hz
      have L1 := Lib.hid fun (q : Since w) => since_at q (WI q.1 (H0.out.below q.2).lies)
      clear WI
      go_enter Tryz.func78, Tryz.ntmps78
      go_upto_region 6 with fail
      refine region_since w (by kernel_rfl) (by kernel_rfl) (Below.refl _ _) ?_
      repeat (go_big_quiet_step ((go_at_call 147; with_reducible exact L1.out _)))
      refine wpQuiet_nil ?_
      rintro w4 ⟨q, hq4⟩
      have b4 : Below w.heap.size w w4 := hq4 ▸ q.2
      clear s2 t0 t1 t2 t3 hq4
      go_wp2_with fail
      go_ret
      exact ⟨addR_bad hzh.out, kept_of b4 HB.out⟩
    rw [if_neg (by simpa using hz)]
    rw [hz] at WI
    clear hz
    have L1 := Lib.hid fun (q : Since w) => since_at q (WI q.1 (H0.out.below q.2).lies)
    clear WI
    generalize numV kwRounds y = r at NU0 ⊢
    generalize numE kwRounds y = z at NU0 ⊢
    have NU := Lib.hid NU0
    clear NU0
    obtain ⟨R, hR⟩ : ∃ R, (if z ≠ 0 then (z, g) else (0, { g with l := g.l ++ [⟨n, u, r⟩] }) : Int × Gr) = R := ⟨_, rfl⟩
    rw [hR]
    have HRR := Lib.hid hR
    clear hR
    go_enter Tryz.func78, Tryz.ntmps78
    go_upto_region 6 with fail
    refine region_since w (by kernel_rfl) (by kernel_rfl) (Below.refl _ _) ?_
    repeat (go_big_quiet_step ((go_at_call 147; with_reducible exact L1.out _)))
    refine wpQuiet_nil ?_
    rintro w4 ⟨q, hq4⟩
    have B4 := Lib.hid (show Below w.heap.size w w4 from hq4 ▸ q.2)
    have ky : w4.cell? ⟨b1, 3, none⟩ = some (sV y) := CWh.out w4 (B4.out.block b1 hb1) 3 y rfl
    have hb4 : b1 < w4.heap.size := Nat.lt_of_lt_of_le hb1 B4.out.size
    clear s2 t0 t1 t2 t3 hq4 k0 L1
    go_upto_region 10 with (go_at_call 146; refine (NU.out _).mono ?_; rintro e w3 ⟨rfl, b34⟩)
    have b3 := then_below B4.out b34
    have D3 := Lib.hid (H0.out.below b3)
    have O3 := Lib.hid (O0.out.below b3)
    have KB3 := Lib.hid (kept_of b3 HB.out)
    have hw3 := Lib.hid (b3.block b1 hb1)
    have hb3 : b1 < w3.heap.size := Nat.lt_of_lt_of_le hb1 b3.size
    clear b3 b34 ky NU B4 hb4 H0 O0
    obtain ⟨i0, hi0, hz0, hz1, hz2⟩ := infoD_ref09_Lo
    have OX := Lib.hid D3.out.cells
    have OR := Lib.hid D3.out.ol
    have GN := Lib.hid (rowS_ne D3.out.ol D3.out.cells (by decide))
    have GI := Lib.hid D3.out.cells.inside
    have HL : Hid (g.l.length ≤ 50000) := Lib.hid (by omega)
    have HB0 := Lib.hid D3.out.size
    have CW : ∀ w7, TurnS w3 w7 (RowS gd (.slice v.b g.l.length v.j)) → ∀ k x_1, [kwLoop, n, x, y][k]? = some x_1 → w7.cell? ⟨b1, k, none⟩ = some (sV x_1) := fun w7 h7 => CWh.out w7 ((h7.block b1 hb3 (words_apart D3.out.ol O3.out D3.out.cells (by decide) (by decide) b1 rfl)).trans hw3.out)
    refine region_full 164 [(12, 15)] [(12, 4), (15, 4), (15, 12)] (fun k => k == 4 || k == 12 || k == 15) (fun w7 => TurnS w3 w7 (RowS gd (.slice v.b g.l.length v.j))) ?hR ?r0 [pdOne 0 (Is (.pointer (some ⟨gd, 0, none⟩))), pdOne 1 (Is (.pointer (some ⟨gd, 0, none⟩))), pdOne 2 (Is (.pointer (some ⟨gd, 0, none⟩))), pdOne 3 (Is (.pointer (some ⟨gd, 1, none⟩))), pdOne 4 (Is (.slice v.b g.l.length v.j)), pdOne 5 (Is (.slice (some ⟨b1, 0, none⟩) 4 c)), pdOne 6 (Is (.pointer (some ⟨b1, 1, none⟩))), pdOne 7 (Is (sV n)), pdOne 8 (Is (.int .i64 u)), pdOne 9 (Is (.int .i64 r)), pdOne 10 (Is (.agg (cLo (⟨n, u, r⟩ : Lo)).toArray)), pdOne 11 (LoneG 139 cLo w3.heap.size (⟨n, u, r⟩ : Lo)), pdOne 12 (NewG 139 3 cLo B (g.l ++ [(⟨n, u, r⟩ : Lo)])), pdOne 13 (Is (.pointer (some ⟨gd, 0, none⟩))), pdOne 14 (Is (.pointer (some ⟨gd, 1, none⟩))), pdOne 15 (LaidG 139 3 cLo gd 36 (fun uq => #[.slice v.a g.c.length v.i, uq, .slice v.d g.o.length v.k, .slice v.e g.h.length v.m]) B (g.l ++ [(⟨n, u, r⟩ : Lo)]))] (fun k w7 => (k = 4 → Whole w7 gd 36 ((fun uq => #[.slice v.a g.c.length v.i, uq, .slice v.d g.o.length v.k, .slice v.e g.h.length v.m]) (.slice v.b g.l.length v.j))) ∧ (k = 12 → OwnG 139 3 cLo w7 B (.slice v.b g.l.length v.j) g.l) ∧ (k = 15 → ∃ u, Whole w7 gd 36 ((fun uq => #[.slice v.a g.c.length v.i, uq, .slice v.d g.o.length v.k, .slice v.e g.h.length v.m]) u))) (by kernel_rfl) rfl (by kernel_rfl) (by kernel_rfl) (by kernel_rfl) (by kernel_rfl) ?keep ?hO ?h0 ?tell
    case hR => exact fun w7 w8 hb h1 => h1.later hb
    case r0 => exact TurnS.refl _ _
    case keep => exact ⟨keep_one (keeps_is _), keep_one (keeps_is _), keep_one (keeps_is _), keep_one (keeps_is _), keep_one (keeps_is _), keep_one (keeps_is _), keep_one (keeps_is _), keep_one (keeps_is _), keep_one (keeps_is _), keep_one (keeps_is _), keep_one (keeps_is _), keep_one (keeps_loneG _ _), keep_one (keeps_newG _ _), keep_one (keeps_is _), keep_one (keeps_is _), keep_one (keeps_laidG _ _ _ _ _), trivial⟩
    case hO => exact fun k w7 w8 hb ⟨h1, h2, h3⟩ => ⟨fun e => (h1 e).below hb (h1 e).inside, fun e => (h2 e).below hb, fun e => (h3 e).imp fun u hx => hx.below hb hx.inside⟩
    case h0 => exact fun k _ => ⟨fun _ => OX.out, fun _ => OR.out, fun _ => ⟨_, OX.out⟩⟩
    case tell =>
      intro fin hfin
      simp [lexPut, Act.put] at hfin
      simp only [TellF]
      refine ⟨⟨?_, ?_, ?_, ?_, ?_, ?_, ?_, ?_, ?_, ?_, ?_, ?_, ?_, ?_, ?_, ?_, trivial⟩, ?_⟩
      · intro v2 w7 hr hd
        refine yields_run (u := .pointer (some ⟨gd, 0, none⟩)) (w' := w7) ?_ (Below.refl _ _) rfl
        unfold execOp
        simp [go_sem, Act.eval]
      · intro v2 w7 hr hd
        refine yields_run (u := .pointer (some ⟨gd, 0, none⟩)) (w' := w7) ?_ (Below.refl _ _) rfl
        unfold execOp
        simp [go_sem, Act.eval, Act.put]
      · intro v2 w7 hr hd
        have h1 : v2 1 = .pointer (some ⟨gd, 0, none⟩) := hd 1 (by kernel_rfl)
        refine yields_run (u := .pointer (some ⟨gd, 0, none⟩)) (w' := w7) ?_ (Below.refl _ _) rfl
        unfold execOp
        simp [go_sem, Act.eval, Act.put, h1]
      · intro v2 w7 hr hd
        have h2 : v2 2 = .pointer (some ⟨gd, 0, none⟩) := hd 2 (by kernel_rfl)
        refine yields_run (u := .pointer (some ⟨gd, 1, none⟩)) (w' := w7) ?_ (Below.refl _ _) rfl
        unfold execOp
        simp [go_sem, Act.eval, Act.put, h2]
      · intro v2 w7 hr ho hd
        have h3 : v2 3 = .pointer (some ⟨gd, 1, none⟩) := hd 3 (by kernel_rfl)
        have hc : w7.cell? ⟨gd, 1, none⟩ = some (.slice v.b g.l.length v.j) := (ho.1 trivial).read 1
        refine .inl (.inl ⟨.slice v.b g.l.length v.j, w7, ?_, hr, fun _ _ _ _ hu => hu, fun _ _ _ _ hu => hu, rfl⟩)
        unfold execOp
        simp [go_sem, Act.eval, Act.put, h3, hc]
      · intro v2 w7 hr hd
        refine yields_run (u := .slice (some ⟨b1, 0, none⟩) 4 c) (w' := w7) ?_ (Below.refl _ _) rfl
        unfold execOp
        simp [go_sem, Act.eval, Act.put]
      · intro v2 w7 hr hd
        have h5 : v2 5 = .slice (some ⟨b1, 0, none⟩) 4 c := hd 5 (by kernel_rfl)
        exact yields_index (b := b1) (off := 0) (n := 4) (c := c) (i := 1) (m := 1) rfl (by simp [Act.eval, Act.put, h5]) (by simp [Act.eval, Act.put]) (by omega) Tryz.underlying126 (by intro w; simp [Tryz.sizeOf9])
      · intro v2 w7 hr hd
        have h6 : v2 6 = .pointer (some ⟨b1, 1, none⟩) := hd 6 (by kernel_rfl)
        have hc : w7.cell? ⟨b1, 1, none⟩ = some (sV n) := CW w7 hr 1 _ rfl
        refine yields_run (u := sV n) (w' := w7) ?_ (Below.refl _ _) rfl
        unfold execOp
        simp [go_sem, Act.eval, Act.put, h6, hc]
      · intro v2 w7 hr hd
        refine yields_run (u := .int .i64 u) (w' := w7) ?_ (Below.refl _ _) rfl
        unfold execOp
        simp [go_sem, Act.eval, Act.put]
      · intro v2 w7 hr hd
        refine yields_run (u := .int .i64 r) (w' := w7) ?_ (Below.refl _ _) rfl
        unfold execOp
        simp [go_sem, Act.eval, Act.put]
      · intro v2 w7 hr hd
        have h7 : v2 7 = sV n := hd 7 (by kernel_rfl)
        have h8 : v2 8 = .int .i64 u := hd 8 (by kernel_rfl)
        have h9 : v2 9 = .int .i64 r := hd 9 (by kernel_rfl)
        refine yields_run (u := .agg (cLo (⟨n, u, r⟩ : Lo)).toArray) (w' := w7) ?_ (Below.refl _ _) rfl
        unfold execOp
        simp [go_sem, Act.eval, Act.put, h7, h8, h9, cLo]
      · intro v2 w7 hr hd
        have h10 : v2 10 = .agg (cLo (⟨n, u, r⟩ : Lo)).toArray := hd 10 (by kernel_rfl)
        refine yields_run (u := .slice (some ⟨w7.heap.size, 0, none⟩) 1 1) (w' := w7.alloc (.cells (cLo (⟨n, u, r⟩ : Lo)).toArray 139)) ?_ (fresh1 w7 _) ⟨w7.heap.size, rfl, hr.size, Whole.fresh w7 _ _⟩
        unfold execOp
        simp [go_sem, Act.eval, Act.put, h10, cLo]
      · intro v2 w7 hr ho hd
        have h4 : v2 4 = .slice v.b g.l.length v.j := hd 4 (by kernel_rfl)
        obtain ⟨gy, hz, hyl, hw⟩ : LoneG 139 cLo w3.heap.size (⟨n, u, r⟩ : Lo) (v2 11) w7 := hd 11 (by kernel_rfl)
        have ho7 := ho.2.1 trivial
        refine .inl (yields_append (.tmp 78) (.tmp 85) 32 rfl B 139 i0 (.agg #[sV [], .int .i64 0, .int .i64 0]) 3 32 Tryz.underlying32 hi0 hz0 hz1 hz2 rfl (by decide) (.slice v.b g.l.length v.j) g.l.length (g.l.flatMap cLo) (by simp [Act.eval, Act.put, h4]) ho7 ⟨gy, 0, none⟩ 1 1 (cLo (⟨n, u, r⟩ : Lo)) (by simp [Act.eval, Act.put, hz]) rfl (whole_cells hw) (CELLS_cLo.one (⟨n, u, r⟩ : Lo)) (by decide) (by have := HL.out; unfold maxLen; omega) (by have := HL.out; omega) (Nat.le_trans HB0.out hr.size) ?_)
        intro g8 cap8 w8 hown hgrow
        have hxn : some gd ≠ (Value.slice v.b g.l.length v.j).ownBlock := GN.out
        refine ⟨hr.grown hgrow (fun j e => .inl (.inr e)), ?_, ?_, (show NewG 139 3 cLo B (g.l ++ [(⟨n, u, r⟩ : Lo)]) (.slice (some ⟨g8, 0, none⟩) (g.l.length + 1) cap8) w8 from ⟨g8, cap8, by simp, by unfold OwnG; simpa using hown⟩)⟩
        · intro k2 v' hk2 hc hu
          exact match k2, hk2, hc, hu with
            | 0, _, _, hu => hu
            | 1, _, _, hu => hu
            | 2, _, _, hu => hu
            | 3, _, _, hu => hu
            | 4, _, _, hu => hu
            | 5, _, _, hu => hu
            | 6, _, _, hu => hu
            | 7, _, _, hu => hu
            | 8, _, _, hu => hu
            | 9, _, _, hu => hu
            | 10, _, _, hu => hu
            | 11, _, _, ⟨gy, h1, h2, h3⟩ => ⟨gy, h1, h2, h3.grown hgrow (OR.out.away h2)⟩
            | 12, hk2, _, _ => absurd rfl hk2
            | 13, _, _, hu => hu
            | 14, _, _, hu => hu
            | 15, _, hc, _ => absurd hc (by decide)
            | _ + 16, _, _, _ => trivial
        · intro k2 hk2 hn hc2 ⟨h1, h2, h3⟩
          exact ⟨fun e => by subst e; exact absurd hc2 (by decide), fun e => absurd e hk2, fun e => (h3 e).imp fun u hx => hx.grown hgrow hxn⟩
      · intro v2 w7 hr hd
        have h0 : v2 0 = .pointer (some ⟨gd, 0, none⟩) := hd 0 (by kernel_rfl)
        refine yields_run (u := .pointer (some ⟨gd, 0, none⟩)) (w' := w7) ?_ (Below.refl _ _) rfl
        unfold execOp
        simp [go_sem, Act.eval, Act.put, h0]
      · intro v2 w7 hr hd
        have h13 : v2 13 = .pointer (some ⟨gd, 0, none⟩) := hd 13 (by kernel_rfl)
        refine yields_run (u := .pointer (some ⟨gd, 1, none⟩)) (w' := w7) ?_ (Below.refl _ _) rfl
        unfold execOp
        simp [go_sem, Act.eval, Act.put, h13]
      · intro v2 w7 hr ho hd
        have h14 : v2 14 = .pointer (some ⟨gd, 1, none⟩) := hd 14 (by kernel_rfl)
        obtain ⟨g', c2, h7, hn7⟩ : NewG 139 3 cLo B (g.l ++ [(⟨n, u, r⟩ : Lo)]) (v2 12) w7 := hd 12 (by kernel_rfl)
        obtain ⟨uq, hu0⟩ := ho.2.2 trivial
        rw [h7] at hn7
        have hc : w7.cell? ⟨gd, 1, none⟩ = some uq := hu0.read 1
        have hf : w7.frozen? ⟨gd, 1, none⟩ = false := hu0.soft 1
        have hg : w7.grownBy (w7.setCell ⟨gd, 1, none⟩ (.slice (some ⟨g', 0, none⟩) (g.l ++ [(⟨n, u, r⟩ : Lo)]).length c2)) (some gd) := only_store (only_of_below (Below.refl _ w7) (some gd)) _
        refine .inr ⟨w7.setCell ⟨gd, 1, none⟩ (.slice (some ⟨g', 0, none⟩) (g.l ++ [(⟨n, u, r⟩ : Lo)]).length c2), ?_, hr.grown hg (fun j e => .inl (.inl (by cases e; rfl))), ?_, ?_, some ⟨g', 0, none⟩, c2, hu0.store 1 _, hn7.past hg (fun k e => by cases e; exact rowS_ne hn7 hu0 (by decide))⟩
        · unfold execOp
          simp [go_sem, Act.eval, Act.put, h14, h7, hc, hf]
        · intro k2 v' hk2 hc hu
          exact match k2, hk2, hc, hu with
            | 0, _, _, hu => hu
            | 1, _, _, hu => hu
            | 2, _, _, hu => hu
            | 3, _, _, hu => hu
            | 4, _, _, hu => hu
            | 5, _, _, hu => hu
            | 6, _, _, hu => hu
            | 7, _, _, hu => hu
            | 8, _, _, hu => hu
            | 9, _, _, hu => hu
            | 10, _, _, hu => hu
            | 11, _, _, ⟨gy, h1, h2, h3⟩ => ⟨gy, h1, h2, h3.grown hg (by have := GI.out; intro e; cases e; omega)⟩
            | 12, _, _, ⟨g', c', h1, h2⟩ => ⟨g', c', h1, h2.past hg (fun k e => by cases e; exact rowS_ne h2 hu0 (by decide))⟩
            | 13, _, _, hu => hu
            | 14, _, _, hu => hu
            | 15, hk2, _, _ => absurd rfl hk2
            | _ + 16, _, _, _ => trivial
        · intro k2 hk2 hn hc2 ⟨h1, h2, h3⟩
          exact ⟨fun e => by subst e; exact absurd hc2 (by decide), fun e => by subst e; exact absurd hc2 (by decide), fun e => absurd e hk2⟩
      · intro v2 w7 hr hv
        obtain ⟨D, c2, hl1, hl2⟩ : LaidG 139 3 cLo gd 36 (fun uq => #[.slice v.a g.c.length v.i, uq, .slice v.d g.o.length v.k, .slice v.e g.h.length v.m]) B (g.l ++ [(⟨n, u, r⟩ : Lo)]) (v2 15) w7 := hv 15 (by decide)
        have X10 := Lib.hid hl1
        have O10 := Lib.hid hl2
        have R10 := Lib.hid hr
        rw [hfin]
        clear hfin hv hl1 hl2 hr
        generalize v2 12 = v7
        generalize v2 11 = v6
        have hap := Lib.hid (rowS_above D3.out.ol D3.out.bd)
        have BE := Lib.hid (KB3.out.row D3.out.ol D3.out.cells R10.out HB0.out hap.out (by decide) (by decide))
        have DE : Hid (DrR w7 B gd ⟨v.a, D, v.d, v.e, v.i, c2, v.k, v.m⟩ { g with l := g.l ++ [⟨n, u, r⟩] }) := Lib.hid ⟨X10.out, D3.out.oc.turn R10.out (row_apart D3.out.ol D3.out.oc D3.out.cells (by decide) (by decide)), O10.out, D3.out.oo.turn R10.out (row_apart D3.out.ol D3.out.oo D3.out.cells (by decide) (by decide)), D3.out.oh.turn R10.out (row_apart D3.out.ol D3.out.oh D3.out.cells (by decide) (by decide)), D3.out.bd⟩
        clear hap X10 O10 R10 OX OR GN GI HL HB0 D3 O3 KB3
        go_wp2_with fail
        go_ret
        have eR := HRR.out
        by_cases he : z = 0
        · subst he
          rw [if_neg (by simp)] at eR
          subst eR
          exact ⟨⟨rfl, fun _ => ⟨_, DE.out⟩⟩, BE.out⟩
        · rw [if_pos he] at eR
          subst eR
          exact ⟨addR_bad he, BE.out⟩
  · rw [loF_notX h3]
    have hne : ((ws.length : Int) == 4) = false := by rw [beq_eq_false_iff_ne]; omega
    have hpos : 0 < ws.length := (List.getElem?_eq_some_iff.1 hk).1
    have hi0 : (0 : Int) < (ws.length : Int) := by omega
    obtain ⟨b1, rfl, hb1, CW⟩ := own_words hO hpos
    have k0 : w.cell? ⟨b1, 0, none⟩ = some (sV kwLoop) := CW w rfl 0 _ hk
    clear hD hO h3 CW hk hpos
    generalize ws.length = m at hne hi0 ⊢
    go_enter Tryz.func78, Tryz.ntmps78
    go_wp2_with fail
    go_ret
    exact ⟨addR_bad (by decide), kept_refl _ _⟩
end Go.Proofs.YtpblpjopinllcaaGreatDoor.graph
set_option linter.unusedSimpArgs false
set_option linter.unusedVariables false
namespace Go.Proofs.YtpblpjopinllcaaGreatDoor.graph
open Go.ChangeShapes Go.WideShapes Go.ChangeAt Go.RowKit
open Go.Proofs.YtpblpjopinllcaaGreatDoor.opened Go.Proofs.YtpblpjopinllcaaGreatDoor.block Go.Proofs.YtpblpjopinllcaaGreatDoor.words Go.Proofs.YtpblpjopinllcaaGreatDoor.region
set_option maxRecDepth 100000 in
theorem lineR9_any {B gd : Nat} {v : Gv} {g : Gr} (A : Option Addr) (c : Nat) (ws : List Bs) (h0 : 0 < ws.length) (hw : ws.length ≤ 100000) (hx : ∀ x ∈ ws, x.length ≤ 100000) (hlc : g.c.length ≤ 50000) (hll : g.l.length ≤ 50000) (hlo : g.o.length ≤ 50000) (hlh : g.h.length ≤ 50000) (w : World) (hD : DrR w B gd v g) (hO : OwnS w B (.slice A ws.length c) ws) :
    Calls Tryz.prog 78 #[.pointer (some ⟨gd, 0, none⟩), .slice A ws.length c] w fun e w' => AddR B gd (lineF firstIx g ws) e w' ∧ Kept B w w' := by
  have HB := Lib.hid hD.size
  cases ws with
  | nil => simp at h0
  | cons k r =>
    have hF : lineF firstIx g (k :: r) = if k = kwCluster then clF g (k :: r) else if k = kwLoop then loF firstIx g (k :: r) else if k = kwOp then opF firstIx g (k :: r) else if k = kwFrom then chF firstIx g (k :: r) else (70, g) := rfl
    rw [hF]
    clear hF
    by_cases a1 : k = kwCluster
    · rw [if_pos a1]
      exact lineC_any A c _ (by rw [a1]; rfl) hw hx hlc hll hlo hlh w hD hO
    rw [if_neg a1]
    by_cases a2 : k = kwLoop
    · rw [if_pos a2]
      exact lineL_any A c _ (by rw [a2]; rfl) hw hx hlc hll hlo hlh w hD hO
    rw [if_neg a2]
    have n1 : (k == [99, 108, 117, 115, 116, 101, 114]) = false := by rw [beq_eq_false_iff_ne]; exact a1
    have n2 : (k == [108, 111, 111, 112]) = false := by rw [beq_eq_false_iff_ne]; exact a2
    by_cases a3 : k = kwOp
    · rw [if_pos a3]
      have C3 := Lib.hid (opLine_any A c (k :: r) (by rw [a3]; rfl) hw hx hlc hll hlo hlh w hD hO)
      obtain ⟨b1, rfl, hb1, CW⟩ := own_words hO (by simp)
      have k0 : w.cell? ⟨b1, 0, none⟩ = some (sV k) := CW w rfl 0 k rfl
      have hl0 : (k :: r).length = r.length + 1 := rfl
      have hi1 : (0 : Int) < (r.length : Int) + 1 := by omega
      generalize opF firstIx g (k :: r) = R at C3 ⊢
      rw [hl0] at C3 ⊢
      clear hO hD CW hx hl0 hw h0 a1 a2
      subst a3
      go_enter Tryz.func78, Tryz.ntmps78
      go_wp2_with (go_at_call 150; refine C3.out.mono ?_; rintro e w1 ⟨⟨rfl, hA⟩, b1⟩)
      go_ret
      exact ⟨⟨rfl, hA⟩, b1⟩
    rw [if_neg a3]
    by_cases a4 : k = kwFrom
    · rw [if_pos a4]
      exact lineH_any A c _ (by rw [a4]; rfl) hw hx hlc hll hlo hlh w hD hO
    rw [if_neg a4]
    have n3 : (k == [111, 112]) = false := by rw [beq_eq_false_iff_ne]; exact a3
    have n4 : (k == [102, 114, 111, 109]) = false := by rw [beq_eq_false_iff_ne]; exact a4
    obtain ⟨b1, rfl, hb1, CW⟩ := own_words hO (by simp)
    have k0 : w.cell? ⟨b1, 0, none⟩ = some (sV k) := CW w rfl 0 k rfl
    have hl0 : (k :: r).length = r.length + 1 := rfl
    have hi1 : (0 : Int) < (r.length : Int) + 1 := by omega
    rw [hl0]
    clear hO hD CW hx hl0 hw h0 a1 a2 a3 a4
    go_enter Tryz.func78, Tryz.ntmps78
    go_wp2_with fail
    go_ret
    exact ⟨addR_bad (by decide), kept_refl _ _⟩
end Go.Proofs.YtpblpjopinllcaaGreatDoor.graph
set_option linter.unusedSimpArgs false
set_option linter.unusedVariables false
namespace Go.Proofs.YtpblpjopinllcaaGreatDoor.graph
open Go.ChangeShapes Go.WideShapes Go.ChangeAt Go.RowKit
open Go.Proofs.YtpblpjopinllcaaGreatDoor.opened Go.Proofs.YtpblpjopinllcaaGreatDoor.block Go.Proofs.YtpblpjopinllcaaGreatDoor.words Go.Proofs.YtpblpjopinllcaaGreatDoor.region
theorem drR_made {w : World} {B : Nat} (hB : B ≤ w.heap.size) : DrR (w.alloc (.cells #[.slice none 0 0, .slice none 0 0, .slice none 0 0, .slice none 0 0] 36)) B w.heap.size ⟨none, none, none, none, 0, 0, 0, 0⟩ noG :=
  ⟨Whole.fresh w 36 #[.slice none 0 0, .slice none 0 0, .slice none 0 0, .slice none 0 0], ownG_nil _ _, ownG_nil _ _, ownG_nil _ _, ownG_nil _ _, hB⟩
set_option maxRecDepth 100000 in
set_option maxHeartbeats 4000000 in
theorem parseR_any (s : Bs) (hs : s.length ≤ 40000) (w : World) :
    Calls Tryz.prog 16 #[sV s] w fun e w' => ∃ v', e = .returned (.tuple #[gV v' (parseV firstIx s).1, .int .i64 (parseV firstIx s).2.1, .int .i64 (parseV firstIx s).2.2]) ∧ Lies4 w' v' (parseV firstIx s).1 ∧ Rooms v' (parseV firstIx s).1 ∧ Below w.heap.size w w' := by
  obtain ⟨R, hR⟩ : ∃ R, parseV firstIx s = R := ⟨_, rfl⟩
  rw [hR]
  have LN := fun W => linesR_any s (by omega) W
  have hll := lines_len9 s []
  have HLn : (linesL s).length ≤ 40001 := by unfold linesL; omega
  have HLx : ∀ x ∈ linesL s, x.length ≤ 40000 := fun x hx => by have := lines_each s [] x hx; simp at this; omega
  have hR0 : parseF firstIx ((linesL s).drop 0) 0 noG = R := hR
  generalize linesL s = L at LN HLn HLx hR0
  replace hR := Lib.hid hR0
  replace LN := Lib.hid LN
  have HLN := Lib.hid HLn
  replace HLx := Lib.hid HLx
  clear hll hR0 HLn hs
  go_enter Tryz.func16, Tryz.ntmps16
  go_upto_region 2 with fail
  have OG := Whole.fresh w 36 #[.slice none 0 0, .slice none 0 0, .slice none 0 0, .slice none 0 0]
  have b1 := fresh1 w (.cells #[.slice none 0 0, .slice none 0 0, .slice none 0 0, .slice none 0 0] 36)
  have z1 := size_alloc w (.cells #[.slice none 0 0, .slice none 0 0, .slice none 0 0, .slice none 0 0] 36)
  change Code.wp _ _ _ _ ((w.alloc (.cells #[.slice none 0 0, .slice none 0 0, .slice none 0 0, .slice none 0 0] 36)).alloc (.cells #[.slice none 0 0, .slice none 0 0, .slice none 0 0, .slice none 0 0] 36))
  generalize w.alloc (.cells #[.slice none 0 0, .slice none 0 0, .slice none 0 0, .slice none 0 0] 36) = w1 at OG b1 z1 ⊢
  have hD := drR_made (w := w1) (B := w1.heap.size) (Nat.le_refl _)
  have bd : Below w1.heap.size w1 (w1.alloc (.cells #[.slice none 0 0, .slice none 0 0, .slice none 0 0, .slice none 0 0] 36)) := fresh1 w1 _
  rw [z1] at hD bd
  generalize w1.alloc (.cells #[.slice none 0 0, .slice none 0 0, .slice none 0 0, .slice none 0 0] 36) = w5 at hD bd ⊢
  obtain ⟨gr, hgr⟩ : ∃ gr, w.heap.size = gr := ⟨_, rfl⟩
  rw [hgr] at OG hD bd ⊢
  have B5 := Lib.hid (b1.trans (bd.mono (by rw [hgr]; omega)))
  rw [hgr] at B5
  have OG5 := Lib.hid (OG.below bd (by omega))
  obtain ⟨B, hB⟩ : ∃ B, gr + 1 = B := ⟨_, rfl⟩
  have hgB : gr < B := by omega
  obtain ⟨gd, hgd⟩ : ∃ gd, gr + 1 = gd := ⟨_, rfl⟩
  have hBd : B = gd := by omega
  have hD2 : DrR w5 B gd ⟨none, none, none, none, 0, 0, 0, 0⟩ noG := by rw [← hgd, ← hB]; exact hD
  rw [hgd]
  have HgB := Lib.hid hgB
  have Hgr := Lib.hid hgr
  have D5 := Lib.hid hD2
  have LNw := Lib.hid (LN.out w5)
  clear hgd hB hBd hgr hgB hD hD2 bd b1 z1 OG LN
  go_wp2_with (go_at_call 76; refine LNw.out.mono ?_; rintro e w6 ⟨A, c, rfl, hO, b6⟩; have HO6 := Lib.hid hO; have D6 := Lib.hid (D5.out.below b6); have K6 := Lib.hid (b6.mono D5.out.size); clear hO b6)
  go_loopw [7] (fun a wr => ∃ (i : Nat) (v : Gv) (g : Gr), i ≤ L.length ∧ a = .int .i64 i ∧ Hid (DrR wr B gd v g) ∧ Hid (PG i g) ∧ Hid (parseF firstIx (L.drop i) i g = R) ∧ Hid (Below B w5 wr) ∧ Hid (OwnS wr w5.heap.size (.slice A L.length c) L)) (fun a _ => (L.length - intOf a).toNat)
  case atStart => exact ⟨0, _, noG, Nat.zero_le _, rfl, D6, Lib.hid pg_nil, hR, K6, HO6⟩
  case round =>
    obtain ⟨i, v, g, hil, rfl, DR, HP, HR, HBR, HOR⟩ := hrel
    have Bw : Hid (∀ W, Below B wr W → Below gr w W) := Lib.hid fun W hW => B5.out.trans ((HBR.out.trans hW).mono (by have := HgB.out; omega))
    have GRw : Hid (∀ W, Below B wr W → Whole W gr 36 #[.slice none 0 0, .slice none 0 0, .slice none 0 0, .slice none 0 0]) := Lib.hid fun W hW => OG5.out.below (HBR.out.trans hW) HgB.out
    have hsz := Lib.hid DR.out.size
    by_cases hlt : i < L.length
    · obtain ⟨l, hl⟩ : ∃ l, L[i]? = some l := ⟨_, List.getElem?_eq_getElem hlt⟩
      obtain ⟨b, off, hA, hb, hc⟩ := Ls.at (OwnS.lies HOR.out) hl
      subst hA
      have hll := HLx.out l (List.mem_of_getElem? hl)
      have hpl := HLN.out
      have hst := parse_step (ix := firstIx) (g := g) hl
      rw [HR.out] at hst
      have SP := Lib.hid (splitR_any l (by omega) wr)
      have HW : ∀ x ∈ splitL l, x.length ≤ 100000 := fun x hx => by have := split_each l [] x hx; simp at this; omega
      have HWl : (splitL l).length ≤ 100000 := by have := split_len9 l []; unfold splitL; omega
      have hlen := HP.out.len
      have PL := pg_line ok_first (m := i) (by omega) HP.out HW
      have AD := fun (h0 : 0 < (splitL l).length) W (hW : Below wr.heap.size wr W) A2 c2 hO2 => lineR9_any (B := B) A2 c2 (splitL l) h0 HWl HW (by omega) (by omega) (by omega) (by omega) W (DR.out.below hW) hO2
      clear hl hll HW HWl hlen
      generalize splitL l = ws at SP PL AD hst
      by_cases h0 : ws.length = 0
      · have hwn : ws = [] := List.length_eq_zero_iff.1 h0
        rw [hwn] at hst PL
        have hst2 : parseF firstIx (L.drop (i + 1)) (i + 1) g = R := by
          have e : lineF firstIx g [] = (0, g) := rfl
          rw [e] at hst
          dsimp only at hst
          rw [if_neg (by simp)] at hst
          exact hst.symm
        have HP2 : Hid (PG (i + 1) g) := Lib.hid (HP.out.more (by omega))
        have HR2 := Lib.hid hst2
        rw [hwn] at SP
        clear PL hst hst2 AD hwn h0
        go_wp2_with (go_at_call 77; refine SP.out.mono ?_; rintro e w7 ⟨A2, c2, rfl, hO2, b7⟩; have D7 := Lib.hid (DR.out.below b7); have B7 := Lib.hid (b7.mono hsz.out); have O7 := Lib.hid (OwnS.below HOR.out b7); clear hO2 b7)
        go_roundw
        case rel => exact ⟨i + 1, v, g, hlt, by go_num, D7, HP2, HR2, Lib.hid (HBR.out.trans B7.out), O7⟩
        case measure => simp [intOf]; omega
      replace h0 : 0 < ws.length := by omega
      have h0e : ((ws.length : Int) == 0) = false := by rw [beq_eq_false_iff_ne]; omega
      obtain ⟨re, rg, hr⟩ : ∃ re rg, lineF firstIx g ws = (re, rg) := ⟨_, _, rfl⟩
      rw [hr] at PL AD hst
      dsimp only at PL AD hst
      replace AD := Lib.hid AD
      clear hr
      by_cases he : re = 0
      · subst he
        rw [if_neg (by simp)] at hst
        have HP2 := Lib.hid (PL rfl)
        have HR2 := Lib.hid hst.symm
        clear PL hst
        go_wp2_with (first
          | (go_at_call 77; refine SP.out.mono ?_; rintro e w7 ⟨A2, c2, rfl, hO2, b7⟩; have AD7 := Lib.hid (AD.out h0 w7 b7 A2 c2 (OwnS.low hO2 hsz.out)); have B7 := Lib.hid (b7.mono hsz.out); have O7 := Lib.hid (OwnS.below HOR.out b7); clear hO2 b7)
          | (go_at_call 78; refine AD7.out.mono ?_; rintro e w8 ⟨⟨rfl, hA⟩, b8⟩; obtain ⟨v2, hD8⟩ := hA rfl; have D8 := Lib.hid hD8; have B8 := Lib.hid (B7.out.trans b8.b); have O8 := Lib.hid (b8.k _ _ _ O7.out); clear hA hD8 b8))
        go_roundw
        case rel => exact ⟨i + 1, v2, rg, hlt, by go_num, D8, HP2, HR2, Lib.hid (HBR.out.trans B8.out), O8⟩
        case measure => simp [intOf]; omega
      · rw [if_pos he] at hst
        have hne : (re == 0) = false := by rw [beq_eq_false_iff_ne]; exact he
        clear PL
        go_upto_region 10 with (first
          | (go_at_call 77; refine SP.out.mono ?_; rintro e w7 ⟨A2, c2, rfl, hO2, b7⟩; have AD7 := Lib.hid (AD.out h0 w7 b7 A2 c2 (OwnS.low hO2 hsz.out)); have B7 := Lib.hid (b7.mono hsz.out); clear hO2 b7)
          | (go_at_call 78; refine AD7.out.mono ?_; rintro e w8 ⟨⟨rfl, -⟩, b8⟩; have B8 := Lib.hid (B7.out.trans b8.b); clear b8))
        have WG := Lib.hid (GRw.out _ B8.out)
        have q0 := WG.out.read 0
        have q1 := WG.out.read 1
        have q2 := WG.out.read 2
        have q3 := WG.out.read 3
        have s0 := WG.out.soft 0
        have s1 := WG.out.soft 1
        have s2 := WG.out.soft 2
        have s3 := WG.out.soft 3
        have GW := Lib.hid (only_store (only_store (only_store (only_store (World.grownBy.refl w8 (some gr)) (i := 0) (.slice none 0 0)) (i := 1) (.slice none 0 0)) (i := 2) (.slice none 0 0)) (i := 3) (.slice none 0 0))
        go_wp2_with fail
        refine bodyPost_ret (v := .tuple #[gV ⟨none, none, none, none, 0, 0, 0, 0⟩ noG, .int .i64 ((i : Int) + 1), .int .i64 re]) (by simp [results, Tryz.results16, go_sem, q0, q1, q2, q3]) rfl ?_
        rw [hst]
        exact ⟨_, rfl, lies_none _, rooms_none, by rw [Hgr.out]; exact below_only (Bw.out _ B8.out) GW.out (Nat.le_of_lt WG.out.inside) (Nat.le_refl _)⟩
    · obtain rfl : i = L.length := by omega
      have hst := HR.out
      rw [parse_end] at hst
      have CK := Lib.hid (checkR_any v g wr DR.out.lies)
      have d0 : wr.cell? ⟨gd, 0, none⟩ = some (.slice v.a g.c.length v.i) := DR.out.cells.read 0
      have d1 : wr.cell? ⟨gd, 1, none⟩ = some (.slice v.b g.l.length v.j) := DR.out.cells.read 1
      have d2 : wr.cell? ⟨gd, 2, none⟩ = some (.slice v.d g.o.length v.k) := DR.out.cells.read 2
      have d3 : wr.cell? ⟨gd, 3, none⟩ = some (.slice v.e g.h.length v.m) := DR.out.cells.read 3
      generalize checkE g = ce at CK hst
      by_cases he : ce = 0
      · subst he
        rw [if_neg (by simp)] at hst
        go_upto_region 14 with (go_at_call 79; refine CK.out.mono ?_; rintro e w8 ⟨rfl, b8⟩; have D8 := Lib.hid (DR.out.below b8); have B8 := Lib.hid (b8.mono hsz.out); clear b8)
        have WG := Lib.hid (GRw.out _ B8.out)
        clear d0 d1 d2 d3
        have d0 : w8.cell? ⟨gd, 0, none⟩ = some (.slice v.a g.c.length v.i) := D8.out.cells.read 0
        have d1 : w8.cell? ⟨gd, 1, none⟩ = some (.slice v.b g.l.length v.j) := D8.out.cells.read 1
        have d2 : w8.cell? ⟨gd, 2, none⟩ = some (.slice v.d g.o.length v.k) := D8.out.cells.read 2
        have d3 : w8.cell? ⟨gd, 3, none⟩ = some (.slice v.e g.h.length v.m) := D8.out.cells.read 3
        have q0 := WG.out.read 0
        have q1 := WG.out.read 1
        have q2 := WG.out.read 2
        have q3 := WG.out.read 3
        have s0 := WG.out.soft 0
        have s1 := WG.out.soft 1
        have s2 := WG.out.soft 2
        have s3 := WG.out.soft 3
        have GW := Lib.hid (only_store (only_store (only_store (only_store (World.grownBy.refl w8 (some gr)) (i := 0) (.slice v.a g.c.length v.i)) (i := 1) (.slice v.b g.l.length v.j)) (i := 2) (.slice v.d g.o.length v.k)) (i := 3) (.slice v.e g.h.length v.m))
        go_wp2_with fail
        refine bodyPost_ret (v := .tuple #[gV v g, .int .i64 0, .int .i64 0]) (by simp [results, Tryz.results16, go_sem, q0, q1, q2, q3]) rfl ?_
        rw [← hst]
        have LD := D8.out.lies
        have ng : ∀ {a : Addr}, B ≤ a.block → a.block ≠ gr := fun h e => by have := HgB.out; omega
        refine ⟨v, rfl, ⟨lg_past LD.c GW.out fun a e => ng (OwnG.gap D8.out.oc a e), lg_past LD.l GW.out fun a e => ng (OwnG.gap D8.out.ol a e), lg_past LD.o GW.out fun a e => ng (OwnG.gap D8.out.oo a e), lg_past LD.h GW.out fun a e => ng (OwnG.gap D8.out.oh a e)⟩, ⟨OwnG.room D8.out.oc, OwnG.room D8.out.ol, OwnG.room D8.out.oo, OwnG.room D8.out.oh⟩, ?_⟩
        rw [Hgr.out]
        exact below_only (Bw.out _ B8.out) GW.out (Nat.le_of_lt WG.out.inside) (Nat.le_refl _)
      · rw [if_pos he] at hst
        have hne : (ce == 0) = false := by rw [beq_eq_false_iff_ne]; exact he
        go_upto_region 13 with (go_at_call 79; refine CK.out.mono ?_; rintro e w8 ⟨rfl, b8⟩; have B8 := Lib.hid (b8.mono hsz.out); clear b8)
        have WG := Lib.hid (GRw.out _ B8.out)
        clear d0 d1 d2 d3
        have q0 := WG.out.read 0
        have q1 := WG.out.read 1
        have q2 := WG.out.read 2
        have q3 := WG.out.read 3
        have s0 := WG.out.soft 0
        have s1 := WG.out.soft 1
        have s2 := WG.out.soft 2
        have s3 := WG.out.soft 3
        have GW := Lib.hid (only_store (only_store (only_store (only_store (World.grownBy.refl w8 (some gr)) (i := 0) (.slice none 0 0)) (i := 1) (.slice none 0 0)) (i := 2) (.slice none 0 0)) (i := 3) (.slice none 0 0))
        go_wp2_with fail
        refine bodyPost_ret (v := .tuple #[gV ⟨none, none, none, none, 0, 0, 0, 0⟩ noG, .int .i64 0, .int .i64 ce]) (by simp [results, Tryz.results16, go_sem, q0, q1, q2, q3]) rfl ?_
        rw [← hst]
        exact ⟨_, rfl, lies_none _, rooms_none, by rw [Hgr.out]; exact below_only (Bw.out _ B8.out) GW.out (Nat.le_of_lt WG.out.inside) (Nat.le_refl _)⟩
end Go.Proofs.YtpblpjopinllcaaGreatDoor.graph
