/-
  Rows of names, where they lie; what a channel's line is (by gen_gr4h.py).
  What a line adds to the document's graph: channels (by gen_gr4.py).
-/
import Derived.Test.YtpblpjopinllcaaGreatDoorJGr4
import Derived.StillTailTactics
import Derived.BigQuiet
set_option linter.unusedSimpArgs false
set_option linter.unusedVariables false
namespace Go.Proofs.YtpblpjopinllcaaGreatDoor.graph
open Go.ChangeShapes Go.WideShapes Go.ChangeAt Go.RowKit
open Go.Proofs.YtpblpjopinllcaaGreatDoor.opened Go.Proofs.YtpblpjopinllcaaGreatDoor.block Go.Proofs.YtpblpjopinllcaaGreatDoor.words Go.Proofs.YtpblpjopinllcaaGreatDoor.region
def NmP (N : List Bs) (n : Nat) : Value → World → Prop := fun u w => ∃ A c, u = .slice A n c ∧ Ls w A N
theorem ls_below {N : List Bs} {A : Option Addr} {w w' : World} (h : Ls w A N) (hb : Below w.heap.size w w') : Ls w' A N := by
  rcases h with h | ⟨b, off, hA, hl, hc⟩
  · exact .inl h
  · exact .inr ⟨b, off, hA, Nat.lt_of_lt_of_le hl hb.size, fun i x hx => (hb.cell (p := ⟨b, off + i, none⟩) hl).trans (hc i x hx)⟩
theorem keeps_nmP (N : List Bs) (n : Nat) : Keeps (NmP N n) := fun _ _ _ hb ⟨A, c, h1, h2⟩ => ⟨A, c, h1, ls_below h2 hb⟩
theorem find9_below {α : Type} (A : Option Addr) (c : Nat) (L : List α) (f : α → Bs) (n : Bs) (hl : L.length ≤ 100000) (w : World) (h : Ls w A (L.map f)) :
    Calls Tryz.prog 148 #[.slice A L.length c, .string ⟨n.toArray⟩] w fun e w' => e = .returned (.int .i64 (findV (L.map f) n)) ∧ Below w.heap.size w w' :=
  (find9_len A c L f n hl w h).mono fun _ _ ⟨he, hw⟩ => ⟨he, hw ▸ Below.refl _ _⟩
theorem find_lo (N : List Bs) (n : Bs) : -1 ≤ findV N n := by
  unfold findV
  split <;> omega
theorem find_pl' {N : List Bs} {n : Bs} : (findV N n < 0 → plE firstIx [] N n = 3) ∧ (¬ findV N n < 0 → plE firstIx [] N n = 0 ∧ (plV firstIx [] N n : Nat) = findV N n) := by
  have h := find_pl (N := N) (n := n)
  by_cases e : plE firstIx [] N n = 0
  · have := h.1 e
    exact ⟨fun h' => by omega, fun _ => ⟨e, this.symm⟩⟩
  · have := h.2 e
    exact ⟨fun _ => this.2, fun h' => by omega⟩
theorem chF_parts {g : Gr} {a t b x0 : Bs} : (findV g.on a < 0 → chF firstIx g [x0, a, t, b] = (3, g)) ∧ (¬ findV g.on a < 0 → t ≠ kwTo → chF firstIx g [x0, a, t, b] = (6, g)) ∧ (¬ findV g.on a < 0 → t = kwTo → findV g.on b < 0 → chF firstIx g [x0, a, t, b] = (3, g)) ∧
    (¬ findV g.on a < 0 → t = kwTo → ¬ findV g.on b < 0 → chF firstIx g [x0, a, t, b] = (0, { g with h := g.h ++ [⟨findV g.on a, findV g.on b⟩] })) := by
  have pa := find_pl' (N := g.on) (n := a)
  have pb := find_pl' (N := g.on) (n := b)
  unfold chF
  dsimp only
  refine ⟨fun h => ?_, fun h ht => ?_, fun h ht h2 => ?_, fun h ht h2 => ?_⟩
  · rw [pa.1 h, if_pos (by decide)]
  · rw [(pa.2 h).1, if_neg (by simp), if_pos ht]
  · rw [(pa.2 h).1, if_neg (by simp), if_neg (by simp [ht]), pb.1 h2, if_pos (by decide)]
  · rw [(pa.2 h).1, if_neg (by simp), if_neg (by simp [ht]), (pb.2 h2).1, if_neg (by simp), (pa.2 h).2, (pb.2 h2).2]
end Go.Proofs.YtpblpjopinllcaaGreatDoor.graph
set_option linter.unusedSimpArgs false
set_option linter.unusedVariables false
namespace Go.Proofs.YtpblpjopinllcaaGreatDoor.graph
open Go.ChangeShapes Go.WideShapes Go.ChangeAt Go.RowKit
open Go.Proofs.YtpblpjopinllcaaGreatDoor.opened Go.Proofs.YtpblpjopinllcaaGreatDoor.block Go.Proofs.YtpblpjopinllcaaGreatDoor.words Go.Proofs.YtpblpjopinllcaaGreatDoor.region
set_option maxRecDepth 100000 in
set_option maxHeartbeats 4000000 in
theorem lineH_any {B gd : Nat} {v : Gv} {g : Gr} (A : Option Addr) (c : Nat) (ws : List Bs) (hk : ws[0]? = some kwFrom) (hw : ws.length ≤ 100000) (hx : ∀ x ∈ ws, x.length ≤ 100000) (hlc : g.c.length ≤ 50000) (hll : g.l.length ≤ 50000) (hlo : g.o.length ≤ 50000) (hlh : g.h.length ≤ 50000) (w : World) (hD : DrR w B gd v g) (hO : OwnS w B (.slice A ws.length c) ws) :
    Calls Tryz.prog 78 #[.pointer (some ⟨gd, 0, none⟩), .slice A ws.length c] w fun e w' => AddR B gd (chF firstIx g ws) e w' ∧ Kept B w w' := by
  have HB := Lib.hid hD.size
  by_cases h3 : ws.length = 4
  · obtain ⟨x0, a, t, b, rfl⟩ := len4 h3
    obtain rfl : x0 = kwFrom := by simpa using hk
    obtain ⟨b1, rfl, hb1, CW⟩ := own_words hO (by simp)
    have H0 := Lib.hid hD
    have O0 := Lib.hid hO
    have CWh := Lib.hid CW
    have OP := fun W (hW : Lies4 W v g) => opsR_any v g (by omega) W hW
    unfold gV at OP
    replace OP := Lib.hid OP
    have FI := Lib.hid fun (n : Bs) (A : Option Addr) (c : Nat) W (hW : Ls W A g.on) => find9_below A c g.o (·.n) n (by omega) W hW
    have k0 : w.cell? ⟨b1, 0, none⟩ = some (sV kwFrom) := CW w rfl 0 _ rfl
    have hgd := hD.cells.inside
    have PT := chF_parts (g := g) (a := a) (t := t) (b := b) (x0 := kwFrom)
    have LO := find_lo g.on a
    generalize chF firstIx g [kwFrom, a, t, b] = R at PT ⊢
    clear hD hO h3 CW hk
    obtain ⟨ua, hua⟩ : ∃ ua, findV g.on a = ua := ⟨_, rfl⟩
    obtain ⟨ub, hub⟩ : ∃ ub, findV g.on b = ub := ⟨_, rfl⟩
    rw [hua, hub] at PT
    have PTh := Lib.hid PT
    clear PT LO
    have FA := fun A c W hW => FI.out a A c W hW
    have FB := fun A c W hW => FI.out b A c W hW
    change ∀ (A : Option Addr) (c : Nat) (W : World), Ls W A g.on → Calls Tryz.prog 148 #[.slice A g.o.length c, .string ⟨a.toArray⟩] W (fun e w' => e = .returned (.int .i64 (findV g.on a)) ∧ Below W.heap.size W w') at FA
    change ∀ (A : Option Addr) (c : Nat) (W : World), Ls W A g.on → Calls Tryz.prog 148 #[.slice A g.o.length c, .string ⟨b.toArray⟩] W (fun e w' => e = .returned (.int .i64 (findV g.on b)) ∧ Below W.heap.size W w') at FB
    rw [hua] at FA
    rw [hub] at FB
    replace FA := Lib.hid FA
    replace FB := Lib.hid FB
    clear hua hub FI
    go_enter Tryz.func78, Tryz.ntmps78
    go_upto_region 13 with fail
    clear k0
    refine region_want 164 [Is (.pointer (some ⟨gd, 0, none⟩)), Is (.pointer (some ⟨gd, 0, none⟩)), Is (.agg #[.slice v.a g.c.length v.i, .slice v.b g.l.length v.j, .slice v.d g.o.length v.k, .slice v.e g.h.length v.m]), NmP g.on g.o.length, Is (.slice (some ⟨b1, 0, none⟩) 4 c), Is (.pointer (some ⟨b1, 1, none⟩)), Is (sV a), Is (.int .i64 ua), Is (.pointer (some ⟨gd, 0, none⟩)), Is (.pointer (some ⟨gd, 0, none⟩)), Is (.agg #[.slice v.a g.c.length v.i, .slice v.b g.l.length v.j, .slice v.d g.o.length v.k, .slice v.e g.h.length v.m]), NmP g.on g.o.length, Is (.slice (some ⟨b1, 0, none⟩) 4 c), Is (.pointer (some ⟨b1, 3, none⟩)), Is (sV b), Is (.int .i64 ub), Is (.int .i64 ua), Is (.int .i64 ub)] (by kernel_rfl) rfl (by kernel_rfl) ?_ ?_
    · exact ⟨keeps_is _, keeps_is _, keeps_is _, keeps_nmP _ _, keeps_is _, keeps_is _, keeps_is _, keeps_is _, keeps_is _, keeps_is _, keeps_is _, keeps_nmP _ _, keeps_is _, keeps_is _, keeps_is _, keeps_is _, keeps_is _, keeps_is _, trivial⟩
    · intro fin hfin
      simp [lexPut, Act.put] at hfin
      refine ⟨⟨?_, ?_, ?_, ?_, ?_, ?_, ?_, ?_, ?_, ?_, ?_, ?_, ?_, ?_, ?_, ?_, ?_, ?_, trivial⟩, ?_⟩
      · intro v2 w8 hb hd
        refine done_plain rfl (yields_run (u := .pointer (some ⟨gd, 0, none⟩)) (w' := w8) ?_ (Below.refl _ _) rfl)
        rw [hfin]
        unfold execOp
        simp [go_sem, Act.eval]
      · intro v2 w8 hb hd
        have h0 : v2 0 = .pointer (some ⟨gd, 0, none⟩) := hd 0 (by kernel_rfl)
        refine done_plain rfl (yields_run (u := .pointer (some ⟨gd, 0, none⟩)) (w' := w8) ?_ (Below.refl _ _) rfl)
        rw [hfin]
        unfold execOp
        simp [go_sem, Act.eval, h0]
      · intro v2 w8 hb hd
        have h1 : v2 1 = .pointer (some ⟨gd, 0, none⟩) := hd 1 (by kernel_rfl)
        have k0 := (H0.out.below hb).cells.read 0
        have k1 := (H0.out.below hb).cells.read 1
        have k2 := (H0.out.below hb).cells.read 2
        have k3 := (H0.out.below hb).cells.read 3
        refine done_plain rfl (yields_run (u := .agg #[.slice v.a g.c.length v.i, .slice v.b g.l.length v.j, .slice v.d g.o.length v.k, .slice v.e g.h.length v.m]) (w' := w8) ?_ (Below.refl _ _) rfl)
        rw [hfin]
        unfold execOp
        simp [go_sem, Act.eval, h1, k0, k1, k2, k3]
      · intro v2 w8 hb hd
        have h2 : v2 2 = .agg #[.slice v.a g.c.length v.i, .slice v.b g.l.length v.j, .slice v.d g.o.length v.k, .slice v.e g.h.length v.m] := hd 2 (by kernel_rfl)
        refine done_plain rfl (yields_call (f := 149) rfl (vs := #[.agg #[.slice v.a g.c.length v.i, .slice v.b g.l.length v.j, .slice v.d g.o.length v.k, .slice v.e g.h.length v.m]]) (by rw [hfin]; simp [Act.eval, h2]) rfl Tryz.func149 (by kernel_rfl) (by kernel_rfl) ?_)
        exact (OP.out w8 (H0.out.below hb).lies).mono fun e w' ⟨⟨A9, c9, he, hl⟩, hb'⟩ => ⟨_, he, hb', A9, c9, rfl, hl⟩
      · intro v2 w8 hb hd
        refine done_plain rfl (yields_run (u := .slice (some ⟨b1, 0, none⟩) 4 c) (w' := w8) ?_ (Below.refl _ _) rfl)
        rw [hfin]
        unfold execOp
        simp [go_sem, Act.eval]
      · intro v2 w8 hb hd
        have h4 : v2 4 = .slice (some ⟨b1, 0, none⟩) 4 c := hd 4 (by kernel_rfl)
        refine done_plain rfl (yields_run (u := .pointer (some ⟨b1, 1, none⟩)) (w' := w8) ?_ (Below.refl _ _) rfl)
        rw [hfin]
        unfold execOp
        simp [go_sem, Act.eval, h4, Tryz.underlying126, Tryz.sizeOf9]
      · intro v2 w8 hb hd
        have h5 : v2 5 = .pointer (some ⟨b1, 1, none⟩) := hd 5 (by kernel_rfl)
        have k0 := CWh.out w8 (hb.block b1 hb1) 1 a rfl
        refine done_plain rfl (yields_run (u := sV a) (w' := w8) ?_ (Below.refl _ _) rfl)
        rw [hfin]
        unfold execOp
        simp [go_sem, Act.eval, h5, k0]
      · intro v2 w8 hb hd
        have h6 : v2 6 = sV a := hd 6 (by kernel_rfl)
        obtain ⟨A3, c3, h3, l3⟩ : (NmP g.on g.o.length) (v2 3) w8 := hd 3 (by kernel_rfl)
        refine done_plain rfl (yields_call (f := 148) rfl (vs := #[.slice A3 g.o.length c3, sV a]) (by rw [hfin]; simp [Act.eval, h6, h3]) rfl Tryz.func148 (by kernel_rfl) (by kernel_rfl) ?_)
        exact (FA.out A3 c3 w8 l3).mono fun e w' ⟨he, hb'⟩ => ⟨_, he, hb', rfl⟩
      · intro v2 w8 hb hd
        refine done_plain rfl (yields_run (u := .pointer (some ⟨gd, 0, none⟩)) (w' := w8) ?_ (Below.refl _ _) rfl)
        rw [hfin]
        unfold execOp
        simp [go_sem, Act.eval]
      · intro v2 w8 hb hd
        have h8 : v2 8 = .pointer (some ⟨gd, 0, none⟩) := hd 8 (by kernel_rfl)
        refine done_plain rfl (yields_run (u := .pointer (some ⟨gd, 0, none⟩)) (w' := w8) ?_ (Below.refl _ _) rfl)
        rw [hfin]
        unfold execOp
        simp [go_sem, Act.eval, h8]
      · intro v2 w8 hb hd
        have h9 : v2 9 = .pointer (some ⟨gd, 0, none⟩) := hd 9 (by kernel_rfl)
        have k0 := (H0.out.below hb).cells.read 0
        have k1 := (H0.out.below hb).cells.read 1
        have k2 := (H0.out.below hb).cells.read 2
        have k3 := (H0.out.below hb).cells.read 3
        refine done_plain rfl (yields_run (u := .agg #[.slice v.a g.c.length v.i, .slice v.b g.l.length v.j, .slice v.d g.o.length v.k, .slice v.e g.h.length v.m]) (w' := w8) ?_ (Below.refl _ _) rfl)
        rw [hfin]
        unfold execOp
        simp [go_sem, Act.eval, h9, k0, k1, k2, k3]
      · intro v2 w8 hb hd
        have h10 : v2 10 = .agg #[.slice v.a g.c.length v.i, .slice v.b g.l.length v.j, .slice v.d g.o.length v.k, .slice v.e g.h.length v.m] := hd 10 (by kernel_rfl)
        refine done_plain rfl (yields_call (f := 149) rfl (vs := #[.agg #[.slice v.a g.c.length v.i, .slice v.b g.l.length v.j, .slice v.d g.o.length v.k, .slice v.e g.h.length v.m]]) (by rw [hfin]; simp [Act.eval, h10]) rfl Tryz.func149 (by kernel_rfl) (by kernel_rfl) ?_)
        exact (OP.out w8 (H0.out.below hb).lies).mono fun e w' ⟨⟨A9, c9, he, hl⟩, hb'⟩ => ⟨_, he, hb', A9, c9, rfl, hl⟩
      · intro v2 w8 hb hd
        refine done_plain rfl (yields_run (u := .slice (some ⟨b1, 0, none⟩) 4 c) (w' := w8) ?_ (Below.refl _ _) rfl)
        rw [hfin]
        unfold execOp
        simp [go_sem, Act.eval]
      · intro v2 w8 hb hd
        have h12 : v2 12 = .slice (some ⟨b1, 0, none⟩) 4 c := hd 12 (by kernel_rfl)
        refine done_plain rfl (yields_run (u := .pointer (some ⟨b1, 3, none⟩)) (w' := w8) ?_ (Below.refl _ _) rfl)
        rw [hfin]
        unfold execOp
        simp [go_sem, Act.eval, h12, Tryz.underlying126, Tryz.sizeOf9]
      · intro v2 w8 hb hd
        have h13 : v2 13 = .pointer (some ⟨b1, 3, none⟩) := hd 13 (by kernel_rfl)
        have k0 := CWh.out w8 (hb.block b1 hb1) 3 b rfl
        refine done_plain rfl (yields_run (u := sV b) (w' := w8) ?_ (Below.refl _ _) rfl)
        rw [hfin]
        unfold execOp
        simp [go_sem, Act.eval, h13, k0]
      · intro v2 w8 hb hd
        have h14 : v2 14 = sV b := hd 14 (by kernel_rfl)
        obtain ⟨A11, c11, h11, l11⟩ : (NmP g.on g.o.length) (v2 11) w8 := hd 11 (by kernel_rfl)
        refine done_plain rfl (yields_call (f := 148) rfl (vs := #[.slice A11 g.o.length c11, sV b]) (by rw [hfin]; simp [Act.eval, h14, h11]) rfl Tryz.func148 (by kernel_rfl) (by kernel_rfl) ?_)
        exact (FB.out A11 c11 w8 l11).mono fun e w' ⟨he, hb'⟩ => ⟨_, he, hb', rfl⟩
      · intro v2 w8 hb hd
        have h7 : v2 7 = .int .i64 ua := hd 7 (by kernel_rfl)
        refine done_plain rfl (yields_run (u := .int .i64 ua) (w' := w8) ?_ (Below.refl _ _) rfl)
        rw [hfin]
        unfold execOp
        simp [go_sem, Act.eval, h7]
      · intro v2 w8 hb hd
        have h15 : v2 15 = .int .i64 ub := hd 15 (by kernel_rfl)
        refine done_plain rfl (yields_run (u := .int .i64 ub) (w' := w8) ?_ (Below.refl _ _) rfl)
        rw [hfin]
        unfold execOp
        simp [go_sem, Act.eval, h15]
      · intro v2 w8 hb hv
        have h16 : v2 16 = .int .i64 ua := hv 16 (by decide)
        have h17 : v2 17 = .int .i64 ub := hv 17 (by decide)
        rw [hfin]
        generalize v2 16 = v16 at h16 ⊢
        generalize v2 17 = v17 at h17 ⊢
        subst h16 h17
        have b3 : Below w.heap.size w w8 := hb
        have D3 := Lib.hid (H0.out.below b3)
        have O3 := Lib.hid (O0.out.below b3)
        have KB3 := Lib.hid (kept_of b3 HB.out)
        have hw3 := Lib.hid (b3.block b1 hb1)
        have hb3 : b1 < w8.heap.size := Nat.lt_of_lt_of_le hb1 b3.size
        clear hfin hv hb b3 H0 O0 OP FA FB
        have kt : w8.cell? ⟨b1, 2, none⟩ = some (sV t) := CWh.out w8 hw3.out 2 t rfl
        by_cases ha : ua < 0
        · obtain rfl := (PTh.out.1 ha).symm
          go_wp2_with fail
          go_ret
          exact ⟨addR_bad (by decide), KB3.out⟩
        by_cases ht : t = kwTo
        case neg =>
          obtain rfl := (PTh.out.2.1 ha ht).symm
          have hne : (t == [116, 111]) = false := by rw [beq_eq_false_iff_ne]; exact ht
          go_wp2_with fail
          go_ret
          exact ⟨addR_bad (by decide), KB3.out⟩
        by_cases hub : ub < 0
        · obtain rfl := (PTh.out.2.2.1 ha ht hub).symm
          subst ht
          go_wp2_with fail
          go_ret
          exact ⟨addR_bad (by decide), KB3.out⟩
        have eR := PTh.out.2.2.2 ha ht hub
        have HRR := Lib.hid eR
        clear eR PTh
        subst ht
        have k3 : w8.cell? ⟨gd, 3, none⟩ = some (.slice v.e g.h.length v.m) := D3.out.cells.read 3
        have hg5 := D3.out.cells.inside
        obtain ⟨i0, hi0, hz0, hz1, hz2⟩ := infoD_ref09_Ch
        have OR := Lib.hid D3.out.oh
        have HB5 := Lib.hid D3.out.size
        have HX := Lib.hid (rowS_ne D3.out.oh D3.out.cells (by decide))
        have HXc : Hid (some gd ≠ (Value.slice v.e g.h.length v.m).ownBlock) := HX
        go_upto_region 21 with (at_builtin; go_loud (refine wpList_append_own _ rfl _ _ 34 rfl B 142 i0 (.agg #[.int .i64 0, .int .i64 0]) 2 16 Tryz.underlying34 hi0 hz0 hz1 hz2 rfl (by decide) _ _ _ rfl (OR.out.below (fresh1 w8 (.cells #[.int .i64 ua, .int .i64 ub] 142))) ⟨_, 0, none⟩ 1 1 (cCh ⟨ua, ub⟩) rfl rfl (whole_cells (Whole.fresh w8 142 _)) (CELLS_cCh.one _) (by unfold maxLen; omega) (by omega) (by have := HB5.out; simp; omega) ?_; intro v' w6 hown hgrow _; obtain ⟨g', cap', rfl⟩ := OwnG.succ hown; have W6 := Lib.hid ((D3.out.cells.below (fresh1 w8 _) D3.out.cells.inside).grown hgrow HXc.out); have k6 : w6.cell? ⟨gd, 3, none⟩ = some (.slice v.e g.h.length v.m) := W6.out.read 3; have f6 : w6.frozen? ⟨gd, 3, none⟩ = false := W6.out.soft 3; have T6 := Lib.hid (((TurnS.refl w8 (RowS gd (.slice v.e g.h.length v.m))).later (fresh1 w8 _)).grown hgrow fun j e => .inl (.inr e)); have HO6 := Lib.hid hown; clear hown hgrow k3))
        have hg7 : w6.grownBy (w6.setCell ⟨gd, 3, none⟩ (.slice (some ⟨g', 0, none⟩) (g.h.length + 1) cap')) (some gd) := only_store (only_of_below (Below.refl _ w6) (some gd)) _
        have R10 := Lib.hid (T6.out.grown hg7 (fun j e => .inl (.inl (by cases e; rfl))))
        have X10 := Lib.hid (W6.out.store 3 (.slice (some ⟨g', 0, none⟩) (g.h.length + 1) cap'))
        have O6 : OwnG 142 2 cCh w6 B (.slice (some ⟨g', 0, none⟩) (g.h ++ [(⟨ua, ub⟩ : Ch)]).length cap') (g.h ++ [(⟨ua, ub⟩ : Ch)]) := by have := HO6.out; unfold OwnG; simpa using this
        have O10 := Lib.hid (O6.past hg7 (fun k e => by cases e; exact rowS_ne O6 W6.out (by decide)))
        clear hg7 O6 HO6 W6 T6 k6 f6
        generalize w6.setCell ⟨gd, 3, none⟩ (.slice (some ⟨g', 0, none⟩) (g.h.length + 1) cap') = w7 at R10 X10 O10 ⊢
        have hap := Lib.hid (rowS_above D3.out.oh D3.out.bd)
        have BE := Lib.hid (KB3.out.row D3.out.oh D3.out.cells R10.out HB5.out hap.out (by decide) (by decide))
        have DE : Hid (DrR w7 B gd ⟨v.a, v.b, v.d, some ⟨g', 0, none⟩, v.i, v.j, v.k, cap'⟩ { g with h := g.h ++ [⟨ua, ub⟩] }) := Lib.hid
          ⟨(by have := X10.out; simpa using this), D3.out.oc.turn R10.out (row_apart D3.out.oh D3.out.oc D3.out.cells (by decide) (by decide)), D3.out.ol.turn R10.out (row_apart D3.out.oh D3.out.ol D3.out.cells (by decide) (by decide)), D3.out.oo.turn R10.out (row_apart D3.out.oh D3.out.oo D3.out.cells (by decide) (by decide)), O10.out, D3.out.bd⟩
        clear hap X10 O10 R10 OR HX HXc HB5 D3 hg5 O3 KB3
        go_wp2_with fail
        go_ret
        have eR := HRR.out
        subst eR
        exact ⟨⟨rfl, fun _ => ⟨_, DE.out⟩⟩, BE.out⟩
  · rw [chF_notX h3]
    have hne : ((ws.length : Int) == 4) = false := by rw [beq_eq_false_iff_ne]; omega
    have hpos : 0 < ws.length := (List.getElem?_eq_some_iff.1 hk).1
    have hi0 : (0 : Int) < (ws.length : Int) := by omega
    obtain ⟨b1, rfl, hb1, CW⟩ := own_words hO hpos
    have k0 : w.cell? ⟨b1, 0, none⟩ = some (sV kwFrom) := CW w rfl 0 _ hk
    clear hD hO h3 CW hk hpos
    generalize ws.length = m at hne hi0 ⊢
    go_enter Tryz.func78, Tryz.ntmps78
    go_wp2_with fail
    go_ret
    exact ⟨addR_bad (by decide), kept_refl _ _⟩
end Go.Proofs.YtpblpjopinllcaaGreatDoor.graph
