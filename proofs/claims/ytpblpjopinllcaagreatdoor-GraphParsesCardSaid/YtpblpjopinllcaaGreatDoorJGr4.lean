/-
  The document's graph while its lines are laid into it (by gen_gr4.py).
  What a line adds to the document's graph: clusters (by gen_gr4.py).
-/
import Derived.Test.YtpblpjopinllcaaGreatDoorJGp4
import Derived.Test.YtpblpjopinllcaaGreatDoorJGt2
import Derived.Test.YtpblpjopinllcaaGreatDoorJGr2
import Derived.StillTailTactics
import Derived.BigQuiet
set_option linter.unusedSimpArgs false
set_option linter.unusedVariables false
namespace Go.Proofs.YtpblpjopinllcaaGreatDoor.graph
open Go.ChangeShapes Go.WideShapes Go.ChangeAt Go.RowKit
open Go.Proofs.YtpblpjopinllcaaGreatDoor.opened Go.Proofs.YtpblpjopinllcaaGreatDoor.block Go.Proofs.YtpblpjopinllcaaGreatDoor.words Go.Proofs.YtpblpjopinllcaaGreatDoor.region
structure DrR (w : World) (B gd : Nat) (v : Gv) (g : Gr) : Prop where
  cells : Whole w gd 36 #[.slice v.a g.c.length v.i, .slice v.b g.l.length v.j, .slice v.d g.o.length v.k, .slice v.e g.h.length v.m]
  oc : OwnG 137 2 cCl w B (.slice v.a g.c.length v.i) g.c
  ol : OwnG 139 3 cLo w B (.slice v.b g.l.length v.j) g.l
  oo : OwnG 141 6 cOq w B (.slice v.d g.o.length v.k) g.o
  oh : OwnG 142 2 cCh w B (.slice v.e g.h.length v.m) g.h
  bd : B ≤ gd
theorem DrR.below {w w' : World} {B gd : Nat} {v : Gv} {g : Gr} (h : DrR w B gd v g) (hb : Below w.heap.size w w') : DrR w' B gd v g :=
  ⟨h.cells.below hb h.cells.inside, h.oc.below hb, h.ol.below hb, h.oo.below hb, h.oh.below hb, h.bd⟩
theorem DrR.size {w : World} {B gd : Nat} {v : Gv} {g : Gr} (h : DrR w B gd v g) : B ≤ w.heap.size := Nat.le_of_lt (Nat.lt_of_le_of_lt h.bd h.cells.inside)
theorem DrR.lies {w : World} {B gd : Nat} {v : Gv} {g : Gr} (h : DrR w B gd v g) : Lies4 w v g := ⟨OwnG.lg CELLS_cCl h.oc, OwnG.lg CELLS_cLo h.ol, OwnG.lg CELLS_cOq h.oo, OwnG.lg CELLS_cCh h.oh⟩
/-- What comes of a line: an error, or a graph. -/
def AddR (B gd : Nat) (r : Int × Gr) (e : Ending) (w' : World) : Prop := e = .returned (.int .i64 r.1) ∧ (r.1 = 0 → ∃ v', DrR w' B gd v' r.2)
theorem addR_bad {B gd : Nat} {g : Gr} {w' : World} {x : Int} (h : x ≠ 0) : AddR B gd (x, g) (.returned (.int .i64 x)) w' := ⟨rfl, fun e => absurd e h⟩
theorem loF_notX {g : Gr} {ws : List Bs} {ix : List Bs → Bs → Option Nat} (h : ws.length ≠ 4) : loF ix g ws = (6, g) := by
  unfold loF
  split
  · exact absurd rfl h
  · rfl
theorem chF_notX {g : Gr} {ws : List Bs} {ix : List Bs → Bs → Option Nat} (h : ws.length ≠ 4) : chF ix g ws = (6, g) := by
  unfold chF
  split
  · exact absurd rfl h
  · rfl
theorem opF_notX {g : Gr} {ws : List Bs} {ix : List Bs → Bs → Option Nat} (h : ws.length < 5) : opF ix g ws = (6, g) := by
  unfold opF
  split
  · exfalso
    simp at h
    omega
  · rfl
theorem find_pl {N : List Bs} {n : Bs} : (plE firstIx [] N n = 0 → findV N n = (plV firstIx [] N n : Nat)) ∧ (plE firstIx [] N n ≠ 0 → findV N n = -1 ∧ plE firstIx [] N n = 3) := by
  unfold plE plV findV
  have hp : Lib.hasPrefix n [] = true := by unfold Lib.hasPrefix; simp
  rw [if_pos hp, if_pos hp]
  simp only [List.length_nil, List.drop_zero]
  cases firstIx N n <;> simp
end Go.Proofs.YtpblpjopinllcaaGreatDoor.graph
set_option linter.unusedSimpArgs false
set_option linter.unusedVariables false
namespace Go.Proofs.YtpblpjopinllcaaGreatDoor.graph
open Go.ChangeShapes Go.WideShapes Go.ChangeAt Go.RowKit
open Go.Proofs.YtpblpjopinllcaaGreatDoor.opened Go.Proofs.YtpblpjopinllcaaGreatDoor.block Go.Proofs.YtpblpjopinllcaaGreatDoor.words Go.Proofs.YtpblpjopinllcaaGreatDoor.region
set_option maxRecDepth 100000 in
set_option maxHeartbeats 4000000 in
theorem lineC_any {B gd : Nat} {v : Gv} {g : Gr} (A : Option Addr) (c : Nat) (ws : List Bs) (hk : ws[0]? = some kwCluster) (hw : ws.length ≤ 100000) (hx : ∀ x ∈ ws, x.length ≤ 100000) (hlc : g.c.length ≤ 50000) (hll : g.l.length ≤ 50000) (hlo : g.o.length ≤ 50000) (hlh : g.h.length ≤ 50000) (w : World) (hD : DrR w B gd v g) (hO : OwnS w B (.slice A ws.length c) ws) :
    Calls Tryz.prog 78 #[.pointer (some ⟨gd, 0, none⟩), .slice A ws.length c] w fun e w' => AddR B gd (clF g ws) e w' ∧ Kept B w w' := by
  have HB := Lib.hid hD.size
  by_cases h3 : ws.length = 3
  · obtain ⟨x0, n, x, rfl⟩ := len3 h3
    obtain rfl : x0 = kwCluster := by simpa using hk
    obtain ⟨b1, rfl, hb1, CW⟩ := own_words hO (by simp)
    have H0 := Lib.hid hD
    have O0 := Lib.hid hO
    have CWh := Lib.hid CW
    have NU := Lib.hid (value9_any x kwWorkers (hx x (by simp)) w)
    have kx : w.cell? ⟨b1, 2, none⟩ = some (sV x) := CW w rfl 2 x rfl
    have k0 : w.cell? ⟨b1, 0, none⟩ = some (sV kwCluster) := CW w rfl 0 _ rfl
    clear hD hO h3 CW hk
    unfold clF
    dsimp only
    generalize numV kwWorkers x = y at NU ⊢
    generalize numE kwWorkers x = z at NU ⊢
    obtain ⟨R, hR⟩ : ∃ R, (if z ≠ 0 then (z, g) else (0, { g with c := g.c ++ [⟨n, y⟩] }) : Int × Gr) = R := ⟨_, rfl⟩
    rw [hR]
    have HRR := Lib.hid hR
    clear hR
    go_enter Tryz.func78, Tryz.ntmps78
    go_upto_region 3 with (go_at_call 146; refine NU.out.mono ?_; rintro e w3 ⟨rfl, b3⟩)
    have D3 := Lib.hid (H0.out.below b3)
    have O3 := Lib.hid (O0.out.below b3)
    have KB3 := Lib.hid (kept_of b3 HB.out)
    have hw3 := Lib.hid (b3.block b1 hb1)
    have hb3 : b1 < w3.heap.size := Nat.lt_of_lt_of_le hb1 b3.size
    clear b3 kx k0 NU H0 O0
    obtain ⟨i0, hi0, hz0, hz1, hz2⟩ := infoD_ref09_Cl
    have OX := Lib.hid D3.out.cells
    have OR := Lib.hid D3.out.oc
    have GN := Lib.hid (rowS_ne D3.out.oc D3.out.cells (by decide))
    have GI := Lib.hid D3.out.cells.inside
    have HL : Hid (g.c.length ≤ 50000) := Lib.hid (by omega)
    have HB0 := Lib.hid D3.out.size
    have CW : ∀ w7, TurnS w3 w7 (RowS gd (.slice v.a g.c.length v.i)) → ∀ k x_1, [kwCluster, n, x][k]? = some x_1 → w7.cell? ⟨b1, k, none⟩ = some (sV x_1) := fun w7 h7 => CWh.out w7 ((h7.block b1 hb3 (words_apart D3.out.oc O3.out D3.out.cells (by decide) (by decide) b1 rfl)).trans hw3.out)
    refine region_full 164 [(11, 14)] [(11, 4), (14, 4), (14, 11)] (fun k => k == 4 || k == 11 || k == 14) (fun w7 => TurnS w3 w7 (RowS gd (.slice v.a g.c.length v.i))) ?hR ?r0 [pdOne 0 (Is (.pointer (some ⟨gd, 0, none⟩))), pdOne 1 (Is (.pointer (some ⟨gd, 0, none⟩))), pdOne 2 (Is (.pointer (some ⟨gd, 0, none⟩))), pdOne 3 (Is (.pointer (some ⟨gd, 0, none⟩))), pdOne 4 (Is (.slice v.a g.c.length v.i)), pdOne 5 (Is (.slice (some ⟨b1, 0, none⟩) 3 c)), pdOne 6 (Is (.pointer (some ⟨b1, 1, none⟩))), pdOne 7 (Is (sV n)), pdOne 8 (Is (.int .i64 y)), pdOne 9 (Is (.agg (cCl (⟨n, y⟩ : Cl)).toArray)), pdOne 10 (LoneG 137 cCl w3.heap.size (⟨n, y⟩ : Cl)), pdOne 11 (NewG 137 2 cCl B (g.c ++ [(⟨n, y⟩ : Cl)])), pdOne 12 (Is (.pointer (some ⟨gd, 0, none⟩))), pdOne 13 (Is (.pointer (some ⟨gd, 0, none⟩))), pdOne 14 (LaidG 137 2 cCl gd 36 (fun uq => #[uq, .slice v.b g.l.length v.j, .slice v.d g.o.length v.k, .slice v.e g.h.length v.m]) B (g.c ++ [(⟨n, y⟩ : Cl)]))] (fun k w7 => (k = 4 → Whole w7 gd 36 ((fun uq => #[uq, .slice v.b g.l.length v.j, .slice v.d g.o.length v.k, .slice v.e g.h.length v.m]) (.slice v.a g.c.length v.i))) ∧ (k = 11 → OwnG 137 2 cCl w7 B (.slice v.a g.c.length v.i) g.c) ∧ (k = 14 → ∃ u, Whole w7 gd 36 ((fun uq => #[uq, .slice v.b g.l.length v.j, .slice v.d g.o.length v.k, .slice v.e g.h.length v.m]) u))) (by kernel_rfl) rfl (by kernel_rfl) (by kernel_rfl) (by kernel_rfl) (by kernel_rfl) ?keep ?hO ?h0 ?tell
    case hR => exact fun w7 w8 hb h1 => h1.later hb
    case r0 => exact TurnS.refl _ _
    case keep => exact ⟨keep_one (keeps_is _), keep_one (keeps_is _), keep_one (keeps_is _), keep_one (keeps_is _), keep_one (keeps_is _), keep_one (keeps_is _), keep_one (keeps_is _), keep_one (keeps_is _), keep_one (keeps_is _), keep_one (keeps_is _), keep_one (keeps_loneG _ _), keep_one (keeps_newG _ _), keep_one (keeps_is _), keep_one (keeps_is _), keep_one (keeps_laidG _ _ _ _ _), trivial⟩
    case hO => exact fun k w7 w8 hb ⟨h1, h2, h3⟩ => ⟨fun e => (h1 e).below hb (h1 e).inside, fun e => (h2 e).below hb, fun e => (h3 e).imp fun u hx => hx.below hb hx.inside⟩
    case h0 => exact fun k _ => ⟨fun _ => OX.out, fun _ => OR.out, fun _ => ⟨_, OX.out⟩⟩
    case tell =>
      intro fin hfin
      simp [lexPut, Act.put] at hfin
      simp only [TellF]
      refine ⟨⟨?_, ?_, ?_, ?_, ?_, ?_, ?_, ?_, ?_, ?_, ?_, ?_, ?_, ?_, ?_, trivial⟩, ?_⟩
      · intro v2 w7 hr hd
        refine yields_run (u := .pointer (some ⟨gd, 0, none⟩)) (w' := w7) ?_ (Below.refl _ _) rfl
        unfold execOp
        simp [go_sem, Act.eval]
      · intro v2 w7 hr hd
        refine yields_run (u := .pointer (some ⟨gd, 0, none⟩)) (w' := w7) ?_ (Below.refl _ _) rfl
        unfold execOp
        simp [go_sem, Act.eval, Act.put]
      · intro v2 w7 hr hd
        have h1 : v2 1 = .pointer (some ⟨gd, 0, none⟩) := hd 1 (by kernel_rfl)
        refine yields_run (u := .pointer (some ⟨gd, 0, none⟩)) (w' := w7) ?_ (Below.refl _ _) rfl
        unfold execOp
        simp [go_sem, Act.eval, Act.put, h1]
      · intro v2 w7 hr hd
        have h2 : v2 2 = .pointer (some ⟨gd, 0, none⟩) := hd 2 (by kernel_rfl)
        refine yields_run (u := .pointer (some ⟨gd, 0, none⟩)) (w' := w7) ?_ (Below.refl _ _) rfl
        unfold execOp
        simp [go_sem, Act.eval, Act.put, h2]
      · intro v2 w7 hr ho hd
        have h3 : v2 3 = .pointer (some ⟨gd, 0, none⟩) := hd 3 (by kernel_rfl)
        have hc : w7.cell? ⟨gd, 0, none⟩ = some (.slice v.a g.c.length v.i) := (ho.1 trivial).read 0
        refine .inl (.inl ⟨.slice v.a g.c.length v.i, w7, ?_, hr, fun _ _ _ _ hu => hu, fun _ _ _ _ hu => hu, rfl⟩)
        unfold execOp
        simp [go_sem, Act.eval, Act.put, h3, hc]
      · intro v2 w7 hr hd
        refine yields_run (u := .slice (some ⟨b1, 0, none⟩) 3 c) (w' := w7) ?_ (Below.refl _ _) rfl
        unfold execOp
        simp [go_sem, Act.eval, Act.put]
      · intro v2 w7 hr hd
        have h5 : v2 5 = .slice (some ⟨b1, 0, none⟩) 3 c := hd 5 (by kernel_rfl)
        exact yields_index (b := b1) (off := 0) (n := 3) (c := c) (i := 1) (m := 1) rfl (by simp [Act.eval, Act.put, h5]) (by simp [Act.eval, Act.put]) (by omega) Tryz.underlying126 (by intro w; simp [Tryz.sizeOf9])
      · intro v2 w7 hr hd
        have h6 : v2 6 = .pointer (some ⟨b1, 1, none⟩) := hd 6 (by kernel_rfl)
        have hc : w7.cell? ⟨b1, 1, none⟩ = some (sV n) := CW w7 hr 1 _ rfl
        refine yields_run (u := sV n) (w' := w7) ?_ (Below.refl _ _) rfl
        unfold execOp
        simp [go_sem, Act.eval, Act.put, h6, hc]
      · intro v2 w7 hr hd
        refine yields_run (u := .int .i64 y) (w' := w7) ?_ (Below.refl _ _) rfl
        unfold execOp
        simp [go_sem, Act.eval, Act.put]
      · intro v2 w7 hr hd
        have h7 : v2 7 = sV n := hd 7 (by kernel_rfl)
        have h8 : v2 8 = .int .i64 y := hd 8 (by kernel_rfl)
        refine yields_run (u := .agg (cCl (⟨n, y⟩ : Cl)).toArray) (w' := w7) ?_ (Below.refl _ _) rfl
        unfold execOp
        simp [go_sem, Act.eval, Act.put, h7, h8, cCl]
      · intro v2 w7 hr hd
        have h9 : v2 9 = .agg (cCl (⟨n, y⟩ : Cl)).toArray := hd 9 (by kernel_rfl)
        refine yields_run (u := .slice (some ⟨w7.heap.size, 0, none⟩) 1 1) (w' := w7.alloc (.cells (cCl (⟨n, y⟩ : Cl)).toArray 137)) ?_ (fresh1 w7 _) ⟨w7.heap.size, rfl, hr.size, Whole.fresh w7 _ _⟩
        unfold execOp
        simp [go_sem, Act.eval, Act.put, h9, cCl]
      · intro v2 w7 hr ho hd
        have h4 : v2 4 = .slice v.a g.c.length v.i := hd 4 (by kernel_rfl)
        obtain ⟨gy, hz, hyl, hw⟩ : LoneG 137 cCl w3.heap.size (⟨n, y⟩ : Cl) (v2 10) w7 := hd 10 (by kernel_rfl)
        have ho7 := ho.2.1 trivial
        refine .inl (yields_append (.tmp 33) (.tmp 39) 31 rfl B 137 i0 (.agg #[sV [], .int .i64 0]) 2 24 Tryz.underlying31 hi0 hz0 hz1 hz2 rfl (by decide) (.slice v.a g.c.length v.i) g.c.length (g.c.flatMap cCl) (by simp [Act.eval, Act.put, h4]) ho7 ⟨gy, 0, none⟩ 1 1 (cCl (⟨n, y⟩ : Cl)) (by simp [Act.eval, Act.put, hz]) rfl (whole_cells hw) (CELLS_cCl.one (⟨n, y⟩ : Cl)) (by decide) (by have := HL.out; unfold maxLen; omega) (by have := HL.out; omega) (Nat.le_trans HB0.out hr.size) ?_)
        intro g8 cap8 w8 hown hgrow
        have hxn : some gd ≠ (Value.slice v.a g.c.length v.i).ownBlock := GN.out
        refine ⟨hr.grown hgrow (fun j e => .inl (.inr e)), ?_, ?_, (show NewG 137 2 cCl B (g.c ++ [(⟨n, y⟩ : Cl)]) (.slice (some ⟨g8, 0, none⟩) (g.c.length + 1) cap8) w8 from ⟨g8, cap8, by simp, by unfold OwnG; simpa using hown⟩)⟩
        · intro k2 v' hk2 hc hu
          exact match k2, hk2, hc, hu with
            | 0, _, _, hu => hu
            | 1, _, _, hu => hu
            | 2, _, _, hu => hu
            | 3, _, _, hu => hu
            | 4, _, _, hu => hu
            | 5, _, _, hu => hu
            | 6, _, _, hu => hu
            | 7, _, _, hu => hu
            | 8, _, _, hu => hu
            | 9, _, _, hu => hu
            | 10, _, _, ⟨gy, h1, h2, h3⟩ => ⟨gy, h1, h2, h3.grown hgrow (OR.out.away h2)⟩
            | 11, hk2, _, _ => absurd rfl hk2
            | 12, _, _, hu => hu
            | 13, _, _, hu => hu
            | 14, _, hc, _ => absurd hc (by decide)
            | _ + 15, _, _, _ => trivial
        · intro k2 hk2 hn hc2 ⟨h1, h2, h3⟩
          exact ⟨fun e => by subst e; exact absurd hc2 (by decide), fun e => absurd e hk2, fun e => (h3 e).imp fun u hx => hx.grown hgrow hxn⟩
      · intro v2 w7 hr hd
        have h0 : v2 0 = .pointer (some ⟨gd, 0, none⟩) := hd 0 (by kernel_rfl)
        refine yields_run (u := .pointer (some ⟨gd, 0, none⟩)) (w' := w7) ?_ (Below.refl _ _) rfl
        unfold execOp
        simp [go_sem, Act.eval, Act.put, h0]
      · intro v2 w7 hr hd
        have h12 : v2 12 = .pointer (some ⟨gd, 0, none⟩) := hd 12 (by kernel_rfl)
        refine yields_run (u := .pointer (some ⟨gd, 0, none⟩)) (w' := w7) ?_ (Below.refl _ _) rfl
        unfold execOp
        simp [go_sem, Act.eval, Act.put, h12]
      · intro v2 w7 hr ho hd
        have h13 : v2 13 = .pointer (some ⟨gd, 0, none⟩) := hd 13 (by kernel_rfl)
        obtain ⟨g', c2, h7, hn7⟩ : NewG 137 2 cCl B (g.c ++ [(⟨n, y⟩ : Cl)]) (v2 11) w7 := hd 11 (by kernel_rfl)
        obtain ⟨uq, hu0⟩ := ho.2.2 trivial
        rw [h7] at hn7
        have hc : w7.cell? ⟨gd, 0, none⟩ = some uq := hu0.read 0
        have hf : w7.frozen? ⟨gd, 0, none⟩ = false := hu0.soft 0
        have hg : w7.grownBy (w7.setCell ⟨gd, 0, none⟩ (.slice (some ⟨g', 0, none⟩) (g.c ++ [(⟨n, y⟩ : Cl)]).length c2)) (some gd) := only_store (only_of_below (Below.refl _ w7) (some gd)) _
        refine .inr ⟨w7.setCell ⟨gd, 0, none⟩ (.slice (some ⟨g', 0, none⟩) (g.c ++ [(⟨n, y⟩ : Cl)]).length c2), ?_, hr.grown hg (fun j e => .inl (.inl (by cases e; rfl))), ?_, ?_, some ⟨g', 0, none⟩, c2, hu0.store 0 _, hn7.past hg (fun k e => by cases e; exact rowS_ne hn7 hu0 (by decide))⟩
        · unfold execOp
          simp [go_sem, Act.eval, Act.put, h13, h7, hc, hf]
        · intro k2 v' hk2 hc hu
          exact match k2, hk2, hc, hu with
            | 0, _, _, hu => hu
            | 1, _, _, hu => hu
            | 2, _, _, hu => hu
            | 3, _, _, hu => hu
            | 4, _, _, hu => hu
            | 5, _, _, hu => hu
            | 6, _, _, hu => hu
            | 7, _, _, hu => hu
            | 8, _, _, hu => hu
            | 9, _, _, hu => hu
            | 10, _, _, ⟨gy, h1, h2, h3⟩ => ⟨gy, h1, h2, h3.grown hg (by have := GI.out; intro e; cases e; omega)⟩
            | 11, _, _, ⟨g', c', h1, h2⟩ => ⟨g', c', h1, h2.past hg (fun k e => by cases e; exact rowS_ne h2 hu0 (by decide))⟩
            | 12, _, _, hu => hu
            | 13, _, _, hu => hu
            | 14, hk2, _, _ => absurd rfl hk2
            | _ + 15, _, _, _ => trivial
        · intro k2 hk2 hn hc2 ⟨h1, h2, h3⟩
          exact ⟨fun e => by subst e; exact absurd hc2 (by decide), fun e => by subst e; exact absurd hc2 (by decide), fun e => absurd e hk2⟩
      · intro v2 w7 hr hv
        obtain ⟨D, c2, hl1, hl2⟩ : LaidG 137 2 cCl gd 36 (fun uq => #[uq, .slice v.b g.l.length v.j, .slice v.d g.o.length v.k, .slice v.e g.h.length v.m]) B (g.c ++ [(⟨n, y⟩ : Cl)]) (v2 14) w7 := hv 14 (by decide)
        have X10 := Lib.hid hl1
        have O10 := Lib.hid hl2
        have R10 := Lib.hid hr
        rw [hfin]
        clear hfin hv hl1 hl2 hr
        generalize v2 11 = v7
        generalize v2 10 = v6
        have hap := Lib.hid (rowS_above D3.out.oc D3.out.bd)
        have BE := Lib.hid (KB3.out.row D3.out.oc D3.out.cells R10.out HB0.out hap.out (by decide) (by decide))
        have DE : Hid (DrR w7 B gd ⟨D, v.b, v.d, v.e, c2, v.j, v.k, v.m⟩ { g with c := g.c ++ [⟨n, y⟩] }) := Lib.hid ⟨X10.out, O10.out, D3.out.ol.turn R10.out (row_apart D3.out.oc D3.out.ol D3.out.cells (by decide) (by decide)), D3.out.oo.turn R10.out (row_apart D3.out.oc D3.out.oo D3.out.cells (by decide) (by decide)), D3.out.oh.turn R10.out (row_apart D3.out.oc D3.out.oh D3.out.cells (by decide) (by decide)), D3.out.bd⟩
        clear hap X10 O10 R10 OX OR GN GI HL HB0 D3 O3 KB3
        go_wp2_with fail
        go_ret
        have eR := HRR.out
        by_cases he : z = 0
        · subst he
          rw [if_neg (by simp)] at eR
          subst eR
          exact ⟨⟨rfl, fun _ => ⟨_, DE.out⟩⟩, BE.out⟩
        · rw [if_pos he] at eR
          subst eR
          exact ⟨addR_bad he, BE.out⟩
  · rw [clF_not h3]
    have hne : ((ws.length : Int) == 3) = false := by rw [beq_eq_false_iff_ne]; omega
    have hpos : 0 < ws.length := (List.getElem?_eq_some_iff.1 hk).1
    have hi0 : (0 : Int) < (ws.length : Int) := by omega
    obtain ⟨b1, rfl, hb1, CW⟩ := own_words hO hpos
    have k0 : w.cell? ⟨b1, 0, none⟩ = some (sV kwCluster) := CW w rfl 0 _ hk
    clear hD hO h3 CW hk hpos
    generalize ws.length = m at hne hi0 ⊢
    go_enter Tryz.func78, Tryz.ntmps78
    go_wp2_with fail
    go_ret
    exact ⟨addR_bad (by decide), kept_refl _ _⟩
end Go.Proofs.YtpblpjopinllcaaGreatDoor.graph
