/-
  The way through an operator leads from the depth of its way in to that of its way out (mathematics); path.To.
  The walk of GraphWays (by gen_gww.py).
-/
import Derived.Test.YtpblpjopinllcaaGreatDoorJGgr
import Derived.Test.YtpblpjopinllcaaGreatDoorJChkP
import Derived.Test.YtpblpjopinllcaaGreatDoorJGa
set_option linter.unusedSimpArgs false
set_option linter.unusedVariables false
namespace Go.Proofs.YtpblpjopinllcaaGreatDoor.graph
open Go.ChangeShapes Go.WideShapes Go.ChangeAt Go.RowKit
open Go.Proofs.YtpblpjopinllcaaGreatDoor.opened Go.Proofs.YtpblpjopinllcaaGreatDoor.block Go.Proofs.YtpblpjopinllcaaGreatDoor.words Go.Proofs.YtpblpjopinllcaaGreatDoor.region Go.Proofs.YtpblpjopinllcaaGreatDoor.tm Go.Proofs.YtpblpjopinllcaaGreatDoor.pa Go.Proofs.YtpblpjopinllcaaGreatDoor.path

theorem to_path (p : Pa) (i : p.In) (w : World) : Calls Tryz.prog 26 #[.agg #[.int .i64 p.f, .int .i64 p.k, .int .u32 p.p0, .int .u32 p.p1, .int .u32 p.p2, .int .u32 p.p3, .int .i64 p.u, .int .u32 p.l0, .int .u32 p.l1, .int .u32 p.l2]] w fun e w' => e = .returned (.int .i64 (toV p)) ∧ Below w.heap.size w w' := by
  unfold toV
  have C := Lib.hid (chkP_any p i)
  by_cases h : chkP p = 0
  · have a := chkP_open h
    rw [h] at C
    rw [if_pos h]
    have k0 := a.1.2.2.1
    have u0 := a.1.2.2.2.2.1
    have k1 : p.k ≤ 3 := by omega
    have u1 : p.u ≤ 3 := by omega
    clear a h i
    go_enter Tryz.func26, Tryz.ntmps26
    go_wp2_with (go_at_call 27; refine (C.out _).mono ?_; rintro e w1 ⟨rfl, b1⟩; obtain ⟨hR, hB, hx⟩ := res_of b1; clear b1; generalize hg : w.heap.size = g at hR hB hx ⊢; have HG := Lib.hid hg; clear hg; obtain ⟨hc, hf⟩ := all_of hR)
    go_ret
    exact ⟨rfl, by rw [HG.out]; exact hB⟩
  · rw [if_neg h]
    generalize chkP p = E at C h
    have hE : (E != 0) = true := by simpa using h
    clear h i
    go_enter Tryz.func26, Tryz.ntmps26
    go_wp2_with (go_at_call 27; refine (C.out _).mono ?_; rintro e w1 ⟨rfl, b1⟩)
    go_ret
    exact ⟨rfl, over1 b1⟩
/-- A path that is right, of a depth, that leads to a depth. -/
structure Leads (p : Pa) (d : Int) (t : Int) : Prop where
  i : p.In
  c : chkP p = 0
  f : p.f = d
  t : toV p = t
theorem leads_stay {d : Int} (h0 : 0 ≤ d) (h3 : d ≤ 3) : Leads (stayV d) d d := by
  unfold stayV
  rw [if_pos ⟨h0, h3⟩]
  have hc : chkP ⟨d, d, 0, 0, 0, 0, 0, 0, 0, 0⟩ = 0 := chkP_of (by simp; omega)
  exact ⟨by constructor <;> (dsimp only; omega), hc, rfl, by unfold toV; rw [if_pos hc]; simp⟩
theorem leads_in {d : Int} (h0 : 0 ≤ d) (h2 : d ≤ 2) : Leads (goInV d) d (d + 1) := by
  unfold goInV
  rw [if_pos ⟨h0, h2⟩]
  have hc : chkP ⟨d, d, 0, 0, 0, 0, 1, 0, 0, 0⟩ = 0 := chkP_of (by simp; omega)
  exact ⟨by constructor <;> (dsimp only; omega), hc, rfl, by unfold toV; rw [if_pos hc]⟩
theorem leads_out {d : Int} (h0 : 1 ≤ d) (h3 : d ≤ 3) : Leads (goOutV d) d (d - 1) := by
  unfold goOutV
  rw [if_pos ⟨h0, h3⟩]
  have hc : chkP ⟨d, d - 1, 0, 0, 0, 0, 0, 0, 0, 0⟩ = 0 := chkP_of (by simp; omega)
  exact ⟨by constructor <;> (dsimp only; omega), hc, rfl, by unfold toV; rw [if_pos hc]; simp⟩
theorem leads_on {d : Int} (h0 : 1 ≤ d) (h3 : d ≤ 3) : Leads (goOnV d) d d := by
  unfold goOnV
  rw [if_pos ⟨h0, h3⟩]
  rcases (show d = 1 ∨ d = 2 ∨ d = 3 by omega) with rfl | rfl | rfl
  · exact ⟨by constructor <;> decide, by decide, rfl, by decide⟩
  · exact ⟨by constructor <;> decide, by decide, rfl, by decide⟩
  · exact ⟨by constructor <;> decide, by decide, rfl, by decide⟩
theorem leads_by {d n : Int} (h0 : 0 ≤ d) (h3 : d ≤ 3) (n0 : 0 ≤ n) (n1 : n ≤ 1000) : Leads (goByV d n) d d := by
  unfold goByV
  rw [if_pos ⟨h0, h3⟩, if_pos (by omega)]
  have hc : chkP ⟨d, d, n, 0, 0, 0, 0, 0, 0, 0⟩ = 0 := chkP_of (by simp; omega)
  exact ⟨by constructor <;> (dsimp only; omega), hc, rfl, by unfold toV; rw [if_pos hc]; simp⟩
/-- The way through an operator of a graph with nothing wrong. -/
theorem way_leads {g : Gr} (h : checkE g = 0) {i : Nat} {x : Oq} (hx : g.o[i]? = some x) : inE g i = 0 ∧ Leads (inV g i) (deepL g.l (loopV g i false) : Nat) (deepL g.l (loopV g i true) : Nat) := by
  have hi := (List.getElem?_eq_some_iff.1 hx).1
  obtain ⟨-, hop⟩ := oq_parts h hx
  obtain ⟨k1, k2, k3, k4, k5⟩ := opE_parts hop
  have U := up_of (check_parts h).2.2.1
  have r0 := loop_range h i false
  have r1 := loop_range h i true
  have d0 := deep3 h _ r0.1 r0.2
  have d1 := deep3 h _ r1.1 r1.2
  unfold inE inV
  rw [if_neg (by simpa using h), if_neg (by omega), if_neg (by simpa using h), if_neg (by omega)]
  simp only [Int.toNat_natCast, hx]
  have step : 7 ≤ x.k → x.k ≤ 9 → ∃ y, g.l[x.l.toNat]? = some y ∧ deepL g.l x.l = deepL g.l y.u + 1 := fun a b => by
    have hl : x.l ≠ -1 := by
      unfold whereB at k4
      rw [if_neg (by omega), if_pos ⟨a, b⟩] at k4
      simpa using k4
    obtain ⟨y, hy⟩ : ∃ y, g.l[x.l.toNat]? = some y := ⟨_, List.getElem?_eq_getElem (by omega)⟩
    have := deep_step U (i := x.l.toNat) (by omega) hy
    rw [show ((x.l.toNat : Nat) : Int) = x.l by omega] at this
    exact ⟨y, hy, this⟩
  unfold loopV at d0 d1 ⊢
  simp only [hx] at d0 d1 ⊢
  unfold wayE wayV
  by_cases e7 : x.k = 7
  · obtain ⟨y, hy, hs⟩ := step (by omega) (by omega)
    simp only [e7, hy] at d0 d1 ⊢
    simp at d0 d1 ⊢
    refine ⟨by unfold goInE; rw [if_pos (by omega)], ?_⟩
    have := leads_in (d := (deepL g.l y.u : Nat)) (by omega) (by omega)
    rw [hs]
    exact this
  · by_cases e8 : x.k = 8
    · obtain ⟨y, hy, hs⟩ := step (by omega) (by omega)
      simp only [e8, hy] at d0 d1 ⊢
      simp at d0 d1 ⊢
      refine ⟨by unfold goOutE; rw [if_pos (by omega)], ?_⟩
      have := leads_out (d := (deepL g.l x.l : Nat)) (by omega) (by omega)
      rw [show ((deepL g.l x.l : Nat) : Int) - 1 = (deepL g.l y.u : Nat) by omega] at this
      exact this
    · have c1 : ∀ b : Bool, ¬ ((x.k = 7 ∧ b = false) ∨ (x.k = 8 ∧ b = true)) := fun b => by omega
      rw [if_neg e7, if_neg e8, if_neg e7, if_neg e8]
      simp only [e7, e8, false_and, or_self, if_false] at d0 d1 ⊢
      by_cases e9 : x.k = 9
      · obtain ⟨y, hy, hs⟩ := step (by omega) (by omega)
        rw [if_pos e9, if_pos e9]
        exact ⟨by unfold goOnE; rw [if_pos (by omega)], leads_on (by omega) (by omega)⟩
      · rw [if_neg e9, if_neg e9]
        by_cases e10 : x.k = 10
        · rw [if_pos e10, if_pos e10]
          have := num_delay hop e10
          exact ⟨by unfold goByE; rw [if_pos (by omega), if_pos (by omega)], leads_by (by omega) (by omega) this.1 this.2⟩
        · rw [if_neg e10, if_neg e10]
          exact ⟨by unfold stayE; rw [if_pos (by omega)], leads_stay (by omega) (by omega)⟩
theorem loc_in {g : Gr} (h : checkE g = 0) {i : Nat} (hi : i < g.o.length) : locE g (2 * (i : Int)) = 0 ∧ locL g (2 * (i : Int)) = loopV g i false ∧ locD g (2 * (i : Int)) = deepL g.l (loopV g i false) := by
  have e : locE g (2 * (i : Int)) = 0 := by unfold locE; rw [if_neg (by simpa using h), if_neg (by omega)]
  have a : (2 * (i : Int) / 2).toNat = i := by omega
  have b : locO (2 * (i : Int)) = false := by unfold locO; rw [decide_eq_false (by omega)]
  unfold locL locD
  rw [if_pos e, if_pos e, a, b]
  exact ⟨e, rfl, rfl⟩
theorem loc_out {g : Gr} (h : checkE g = 0) {i : Nat} (hi : i < g.o.length) : locE g (2 * (i : Int) + 1) = 0 ∧ locL g (2 * (i : Int) + 1) = loopV g i true ∧ locD g (2 * (i : Int) + 1) = deepL g.l (loopV g i true) := by
  have e : locE g (2 * (i : Int) + 1) = 0 := by unfold locE; rw [if_neg (by simpa using h), if_neg (by omega)]
  have a : ((2 * (i : Int) + 1) / 2).toNat = i := by omega
  have b : locO (2 * (i : Int) + 1) = true := by unfold locO; rw [decide_eq_true (by omega)]
  unfold locL locD
  rw [if_pos e, if_pos e, a, b]
  exact ⟨e, rfl, rfl⟩
/-- A channel leads between places of one loop. -/
theorem ch_loop {g : Gr} (h : checkE g = 0) {x : Ch} (hx : x ∈ g.h) : ∃ a b : Nat, x.f = a ∧ x.t = b ∧ a < g.o.length ∧ b < g.o.length ∧ loopV g a true = loopV g b false := by
  obtain ⟨b1, b2, b3, b4⟩ := ch_range h hx
  refine ⟨x.f.toNat, x.t.toNat, by omega, by omega, by omega, by omega, ?_⟩
  obtain ⟨i, hi, e⟩ := List.getElem_of_mem hx
  have z := first_zero (check_parts h).2.2.2.2 i hi
  unfold chE at z
  rw [List.getElem?_eq_getElem hi, e] at z
  dsimp only at z
  rw [if_neg (by omega)] at z
  split at z
  · cases z
  · split at z
    · cases z
    · rename_i h1
      exact Classical.byContradiction fun hn => h1 hn
end Go.Proofs.YtpblpjopinllcaaGreatDoor.graph
set_option linter.unusedSimpArgs false
set_option linter.unusedVariables false
namespace Go.Proofs.YtpblpjopinllcaaGreatDoor.graph
open Go.ChangeShapes Go.WideShapes Go.ChangeAt Go.RowKit
open Go.Proofs.YtpblpjopinllcaaGreatDoor.opened Go.Proofs.YtpblpjopinllcaaGreatDoor.block Go.Proofs.YtpblpjopinllcaaGreatDoor.words Go.Proofs.YtpblpjopinllcaaGreatDoor.region Go.Proofs.YtpblpjopinllcaaGreatDoor.tm Go.Proofs.YtpblpjopinllcaaGreatDoor.pa Go.Proofs.YtpblpjopinllcaaGreatDoor.path
set_option maxRecDepth 100000 in
set_option maxHeartbeats 8000000 in
theorem walkW (V : Gv) (g : Gr) (I : g.In) (w : World) (hE : EnvG w) (h : Lies4 w V g) :
    Calls Tryz.prog 5 #[gV V g] w fun e w' => e = .returned (.bool true) ∧ Below w.heap.size w w' := by
  have GR := fun w1 (h1 : Lies4 w1 V g) => great_any V g w1 h1
  have TO := fun lc ll lo lh w1 (h1 : Lies4 w1 V g) => toG_any V g lc ll lo lh w1 h1
  obtain ⟨va, vb, vd, ve, vi, vj, vk, vm⟩ := V
  unfold gV at GR TO ⊢
  dsimp only at GR TO ⊢
  replace GR := Lib.hid GR
  replace TO := Lib.hid TO
  have E0 := Lib.hid hE
  have H0 := Lib.hid h
  have OG := Whole.fresh w 36 #[.slice va g.c.length vi, .slice vb g.l.length vj, .slice vd g.o.length vk, .slice ve g.h.length vm]
  have b1 := fresh1 w (.cells #[.slice va g.c.length vi, .slice vb g.l.length vj, .slice vd g.o.length vk, .slice ve g.h.length vm] 36)
  clear hE h
  go_enter Tryz.func5, Tryz.ntmps5
  go_upto_region 1 with fail
  change Code.wp _ _ _ _ (w.alloc (.cells #[.slice va g.c.length vi, .slice vb g.l.length vj, .slice vd g.o.length vk, .slice ve g.h.length vm] 36))
  generalize w.alloc (.cells #[.slice va g.c.length vi, .slice vb g.l.length vj, .slice vd g.o.length vk, .slice ve g.h.length vm] 36) = w3 at OG b1 ⊢
  have B3 := Lib.hid b1
  have OG3 := Lib.hid OG
  clear OG b1
  obtain ⟨gg, hgg⟩ : ∃ gg, w.heap.size = gg := ⟨_, rfl⟩
  rw [hgg] at OG3 ⊢
  have Hgg := Lib.hid hgg
  clear hgg
  have S3 : Hid (∀ W, Below w3.heap.size w3 W → Below w.heap.size w W ∧ EnvG W ∧ Lies4 W ⟨va, vb, vd, ve, vi, vj, vk, vm⟩ g) := Lib.hid fun W hW => ⟨then_below B3.out hW, E0.out.below (then_below B3.out hW), H0.out.below (then_below B3.out hW)⟩
  have SG : Hid (∀ W, Below w3.heap.size w3 W → ∀ i, W.cell? ⟨gg, i, none⟩ = (#[.slice va g.c.length vi, .slice vb g.l.length vj, .slice vd g.o.length vk, .slice ve g.h.length vm] : Array Value)[i]?) := Lib.hid fun W hW => (OG3.out.below hW OG3.out.inside).read
  clear OG3 B3 E0 H0
  have WK := Lib.hid (works9_any w3 (S3.out w3 (Below.refl _ _)).2.1)
  go_upto_region 3 with (go_at_call 19; refine WK.out.mono ?_; rintro e w4 ⟨rfl, b4⟩)
  have B4 := Lib.hid b4
  clear b4 WK
  have h4 := S3.out w4 B4.out
  have k0 : w4.cell? ⟨gg, 0, none⟩ = some (.slice va g.c.length vi) := SG.out w4 B4.out 0
  have k1 : w4.cell? ⟨gg, 1, none⟩ = some (.slice vb g.l.length vj) := SG.out w4 B4.out 1
  have k2 : w4.cell? ⟨gg, 2, none⟩ = some (.slice vd g.o.length vk) := SG.out w4 B4.out 2
  have k3 : w4.cell? ⟨gg, 3, none⟩ = some (.slice ve g.h.length vm) := SG.out w4 B4.out 3
  have GR4 := Lib.hid (GR.out w4 h4.2.2)
  clear GR h4
  have LG : Hid (∀ W, Below w3.heap.size w3 W → Lies4 W ⟨va, vb, vd, ve, vi, vj, vk, vm⟩ g) := Lib.hid fun W hW => (S3.out W hW).2.2
  cases hS : greatB g with
  | true =>
    rw [hS] at GR4
    go_wp2_with (go_at_call 20; refine GR4.out.mono ?_; rintro e w5 ⟨rfl, b5⟩)
    go_ret
    exact ⟨rfl, (S3.out _ (then_below B4.out b5)).1⟩
  | false =>
    have SH := Lib.hid (great_small hS)
    rw [hS] at GR4
    obtain ⟨lc, ll, lo, lh, -, -, -⟩ := SH.out
    replace TO := Lib.hid (TO.out (by omega) (by omega) (by omega) (by omega))
    have CK : Hid (∀ v', Rooms v' g → ∀ W, EnvG W → Lies4 W v' g → Calls Tryz.prog 23 #[gV v' g] W fun e w' => e = .returned (.int .i64 (checkE g)) ∧ Below W.heap.size W w') := Lib.hid fun v' R' W hW hL => check_any v' g (fit_small R' SH.out) I W hL hW.k
    have K5 : Hid (∀ W, Below w3.heap.size w3 W → W.cell? ⟨gg, 0, none⟩ = some (.slice va g.c.length vi) ∧ W.cell? ⟨gg, 1, none⟩ = some (.slice vb g.l.length vj) ∧ W.cell? ⟨gg, 2, none⟩ = some (.slice vd g.o.length vk) ∧ W.cell? ⟨gg, 3, none⟩ = some (.slice ve g.h.length vm)) := Lib.hid fun W hW => ⟨SG.out W hW 0, SG.out W hW 1, SG.out W hW 2, SG.out W hW 3⟩
    clear lc ll lo lh hS
    by_cases hc : checkE g = 0
    case neg =>
      have hne : (checkE g == 0) = false := by rw [beq_eq_false_iff_ne]; exact hc
      clear hc
      generalize checkE g = ce at CK hne
      go_wp2_with (first
        | (go_at_call 23; refine (CK.out v6 R6 _ (S3.out _ B6.out).2.1 L6).mono ?_; rintro e w7 ⟨rfl, b7⟩)
        | (go_at_call 22; refine (TO.out _ (LG.out _ B5.out)).mono ?_; rintro e w6 ⟨v6, rfl, L6, R6, b6⟩; have B6 := Lib.hid (then_below B5.out b6); clear b6)
        | (go_at_call 20; refine GR4.out.mono ?_; rintro e w5 ⟨rfl, b5⟩; have B5 := Lib.hid (then_below B4.out b5); obtain ⟨k0, k1, k2, k3⟩ := K5.out w5 B5.out; clear b5))
      go_ret
      exact ⟨rfl, (S3.out _ (then_below B6.out b7)).1⟩
    have HC := Lib.hid hc
    rw [hc] at CK
    clear hc
    go_upto_region 5 with (first
      | (go_at_call 23; refine (CK.out v6 R6 _ (S3.out _ B6.out).2.1 L6).mono ?_; rintro e w7 ⟨rfl, b7⟩; have B7 := Lib.hid (then_below B6.out b7); clear b7 L6 R6)
      | (go_at_call 22; refine (TO.out _ (LG.out _ B5.out)).mono ?_; rintro e w6 ⟨v6, rfl, L6, R6, b6⟩; have B6 := Lib.hid (then_below B5.out b6); clear b6)
      | (go_at_call 20; refine GR4.out.mono ?_; rintro e w5 ⟨rfl, b5⟩; have B5 := Lib.hid (then_below B4.out b5); obtain ⟨k0, k1, k2, k3⟩ := K5.out w5 B5.out; clear b5))
    clear k0 k1 k2 k3
    obtain ⟨k0, k1, k2, k3⟩ := K5.out w7 B7.out
    go_upto_region 6 with (go_at_call 22; refine (TO.out _ (LG.out _ B7.out)).mono ?_; rintro e w8 ⟨v8, rfl, L8, R8, b8⟩)
    clear k0 k1 k2 k3 B4 B5 B6 GR4 CK TO K5 LG
    obtain ⟨xa, xb, xd, xe, xi, xj, xk, xm⟩ := v8
    have FX := fit_small R8 SH.out
    have SC := fun p W (hW : EnvG W) (hL : Lies4 W ⟨xa, xb, xd, xe, xi, xj, xk, xm⟩ g) => scope_any ⟨xa, xb, xd, xe, xi, xj, xk, xm⟩ g FX I p W hL hW.k
    have IN := fun i W (hW : EnvG W) (hL : Lies4 W ⟨xa, xb, xd, xe, xi, xj, xk, xm⟩ g) => inner_any ⟨xa, xb, xd, xe, xi, xj, xk, xm⟩ g FX I i W hL hW.k
    unfold gV at SC IN
    dsimp only at SC IN
    replace SC := Lib.hid SC
    replace IN := Lib.hid IN
    clear FX R8
    have W8 := Whole.fresh w8 27 #[.slice xa g.c.length xi, .slice xb g.l.length xj, .slice xd g.o.length xk, .slice xe g.h.length xm]
    have f8 := fresh1 w8 (.cells #[.slice xa g.c.length xi, .slice xb g.l.length xj, .slice xd g.o.length xk, .slice xe g.h.length xm] 27)
    change Code.wp _ _ _ _ (w8.alloc (.cells #[.slice xa g.c.length xi, .slice xb g.l.length xj, .slice xd g.o.length xk, .slice xe g.h.length xm] 27))
    generalize w8.alloc (.cells #[.slice xa g.c.length xi, .slice xb g.l.length xj, .slice xd g.o.length xk, .slice xe g.h.length xm] 27) = w9 at W8 f8 ⊢
    have B9 := Lib.hid (then_below B7.out (then_below b8 f8))
    have L9 := Lib.hid (L8.below f8)
    generalize w8.heap.size = gx at W8 ⊢
    have W9 := Lib.hid W8
    clear W8 f8 b8 L8 B7
    have S9 : Hid (∀ W, Below w9.heap.size w9 W → Below w3.heap.size w3 W ∧ EnvG W ∧ Lies4 W ⟨xa, xb, xd, xe, xi, xj, xk, xm⟩ g) := Lib.hid fun W hW => ⟨then_below B9.out hW, (S3.out W (then_below B9.out hW)).2.1, L9.out.below hW⟩
    have SX : Hid (∀ W, Below w9.heap.size w9 W → W.cell? ⟨gx, 0, none⟩ = some (.slice xa g.c.length xi) ∧ W.cell? ⟨gx, 1, none⟩ = some (.slice xb g.l.length xj) ∧ W.cell? ⟨gx, 2, none⟩ = some (.slice xd g.o.length xk) ∧ W.cell? ⟨gx, 3, none⟩ = some (.slice xe g.h.length xm)) := Lib.hid fun W hW => ⟨(W9.out.below hW W9.out.inside).read 0, (W9.out.below hW W9.out.inside).read 1, (W9.out.below hW W9.out.inside).read 2, (W9.out.below hW W9.out.inside).read 3⟩
    clear W9 L9
    have hsz := sizes_of (check_parts HC.out).1
    have ho0 : 0 < g.o.length := hsz.2.2.2.2.2
    have ho1 : g.o.length ≤ 24 := hsz.2.2.1
    clear hsz
    have I0 := Lib.hid I
    clear I
    have xdl : ∀ W, Below w9.heap.size w9 W → Lg 6 cOq W xd g.o ∧ Lg 2 cCh W xe g.h := fun W hW => ⟨(S9.out W hW).2.2.o, (S9.out W hW).2.2.h⟩
    replace xdl := Lib.hid xdl
    have hh1 : g.h.length ≤ 48 := (sizes_of (check_parts HC.out).1).2.2.2.1
    go_wp2_with fail
    go_loopw [4] (fun a wr => ∃ i : Nat, i ≤ g.o.length ∧ a = .int .i64 i ∧ Hid (Below w9.heap.size w9 wr)) (fun a _ => (g.o.length - intOf a).toNat)
    case atStart => exact ⟨0, by omega, rfl, Lib.hid (Below.refl _ _)⟩
    case round =>
      obtain ⟨i, hio, rfl, BR⟩ := hrel
      obtain ⟨k0, k1, k2, k3⟩ := SX.out wr BR.out
      by_cases hlt : i < g.o.length
      · obtain ⟨x, hx⟩ : ∃ x, g.o[i]? = some x := ⟨_, List.getElem?_eq_getElem hlt⟩
        obtain ⟨he, hle⟩ := way_leads HC.out hx
        obtain ⟨n1, -, n3⟩ := loc_in HC.out hlt
        obtain ⟨m1, -, m3⟩ := loc_out HC.out hlt
        have IN1 := IN.out i wr (S9.out wr BR.out).2.1 (S9.out wr BR.out).2.2
        unfold Gives at IN1
        rw [he] at IN1
        have S1 := fun W hW hL => SC.out (2 * (i : Int)) W hW hL
        have S2 := fun W hW hL => SC.out (2 * (i : Int) + 1) W hW hL
        rw [n1, n3] at S1
        rw [m1, m3] at S2
        generalize deepL g.l (loopV g i false) = da at S1 hle
        generalize deepL g.l (loopV g i true) = db at S2 hle
        generalize locL g (2 * (i : Int)) = la at S1
        generalize locL g (2 * (i : Int) + 1) = lb at S2
        generalize inV g i = p at IN1 hle
        obtain ⟨pf, pk, q0, q1, q2, q3, pu, l0, l1, l2⟩ := p
        have hpf := hle.f
        dsimp only at hpf
        subst hpf
        have TP := Lib.hid (fun W => to_path ⟨(da : Int), pk, q0, q1, q2, q3, pu, l0, l1, l2⟩ hle.i W)
        have CP := Lib.hid (fun W => chkP_any ⟨(da : Int), pk, q0, q1, q2, q3, pu, l0, l1, l2⟩ hle.i W)
        rw [hle.t] at TP
        rw [hle.c] at CP
        replace IN1 := Lib.hid IN1
        replace S1 := Lib.hid S1
        replace S2 := Lib.hid S2
        clear hle hx he n1 n3 m1 m3
        go_upto_region 10 with (go_at_call 24; refine IN1.out.mono ?_; rintro e w10 ⟨rfl, b10⟩)
        have OP := Whole.fresh w10 53 #[.int .i64 da, .int .i64 pk, .int .u32 q0, .int .u32 q1, .int .u32 q2, .int .u32 q3, .int .i64 pu, .int .u32 l0, .int .u32 l1, .int .u32 l2]
        have f10 := fresh1 w10 (.cells #[.int .i64 da, .int .i64 pk, .int .u32 q0, .int .u32 q1, .int .u32 q2, .int .u32 q3, .int .i64 pu, .int .u32 l0, .int .u32 l1, .int .u32 l2] 53)
        change Code.wp _ _ _ _ (w10.alloc (.cells #[.int .i64 da, .int .i64 pk, .int .u32 q0, .int .u32 q1, .int .u32 q2, .int .u32 q3, .int .i64 pu, .int .u32 l0, .int .u32 l1, .int .u32 l2] 53))
        generalize w10.alloc (.cells #[.int .i64 da, .int .i64 pk, .int .u32 q0, .int .u32 q1, .int .u32 q2, .int .u32 q3, .int .i64 pu, .int .u32 l0, .int .u32 l1, .int .u32 l2] 53) = w11 at OP f10 ⊢
        have B11 := Lib.hid (then_below BR.out (then_below b10 f10))
        generalize w10.heap.size = gp at OP ⊢
        have OP11 := Lib.hid OP
        clear OP f10 b10 k0 k1 k2 k3
        obtain ⟨k0, k1, k2, k3⟩ := SX.out w11 B11.out
        go_upto_region 11 with (go_at_call 25; refine (S1.out _ (S9.out w11 B11.out).2.1 (S9.out w11 B11.out).2.2).mono ?_; rintro e w12 ⟨rfl, b12⟩)
        have B12 := Lib.hid (then_below B11.out b12)
        have OP12 := Lib.hid (OP11.out.below b12 OP11.out.inside)
        clear b12 k0 k1 k2 k3 OP11 B11
        obtain ⟨k0, k1, k2, k3⟩ := SX.out w12 B12.out
        go_upto_region 12 with (go_at_call 25; refine (S2.out _ (S9.out w12 B12.out).2.1 (S9.out w12 B12.out).2.2).mono ?_; rintro e w13 ⟨rfl, b13⟩)
        have B13 := Lib.hid (then_below B12.out b13)
        have OP13 := Lib.hid (OP12.out.below b13 OP12.out.inside)
        clear b13 k0 k1 k2 k3 OP12 B12
        have p0 : w13.cell? ⟨gp, 0, none⟩ = some (.int .i64 da) := OP13.out.read 0
        have p1 : w13.cell? ⟨gp, 1, none⟩ = some (.int .i64 pk) := OP13.out.read 1
        have p2 : w13.cell? ⟨gp, 2, none⟩ = some (.int .u32 q0) := OP13.out.read 2
        have p3 : w13.cell? ⟨gp, 3, none⟩ = some (.int .u32 q1) := OP13.out.read 3
        have p4 : w13.cell? ⟨gp, 4, none⟩ = some (.int .u32 q2) := OP13.out.read 4
        have p5 : w13.cell? ⟨gp, 5, none⟩ = some (.int .u32 q3) := OP13.out.read 5
        have p6 : w13.cell? ⟨gp, 6, none⟩ = some (.int .i64 pu) := OP13.out.read 6
        have p7 : w13.cell? ⟨gp, 7, none⟩ = some (.int .u32 l0) := OP13.out.read 7
        have p8 : w13.cell? ⟨gp, 8, none⟩ = some (.int .u32 l1) := OP13.out.read 8
        have p9 : w13.cell? ⟨gp, 9, none⟩ = some (.int .u32 l2) := OP13.out.read 9
        go_wp2_with (first
          | (go_at_call 27; refine (CP.out _).mono ?_; rintro e w15 ⟨rfl, b15⟩; have B15 := Lib.hid (then_below B14.out b15); clear b15)
          | (go_at_call 26; refine (TP.out _).mono ?_; rintro e w14 ⟨rfl, b14⟩; have B14 := Lib.hid (then_below B13.out b14); have OP14 := Lib.hid (OP13.out.below b14 OP13.out.inside); clear p0 p1 p2 p3 p4 p5 p6 p7 p8 p9; have p0 : w14.cell? ⟨gp, 0, none⟩ = some (.int .i64 da) := OP14.out.read 0; have p1 : w14.cell? ⟨gp, 1, none⟩ = some (.int .i64 pk) := OP14.out.read 1; have p2 : w14.cell? ⟨gp, 2, none⟩ = some (.int .u32 q0) := OP14.out.read 2; have p3 : w14.cell? ⟨gp, 3, none⟩ = some (.int .u32 q1) := OP14.out.read 3; have p4 : w14.cell? ⟨gp, 4, none⟩ = some (.int .u32 q2) := OP14.out.read 4; have p5 : w14.cell? ⟨gp, 5, none⟩ = some (.int .u32 q3) := OP14.out.read 5; have p6 : w14.cell? ⟨gp, 6, none⟩ = some (.int .i64 pu) := OP14.out.read 6; have p7 : w14.cell? ⟨gp, 7, none⟩ = some (.int .u32 l0) := OP14.out.read 7; have p8 : w14.cell? ⟨gp, 8, none⟩ = some (.int .u32 l1) := OP14.out.read 8; have p9 : w14.cell? ⟨gp, 9, none⟩ = some (.int .u32 l2) := OP14.out.read 9; clear b14))
        go_roundw
        case rel => exact ⟨i + 1, by omega, by go_num, B15⟩
        case measure => simp [intOf]; omega
      · obtain rfl : i = g.o.length := by omega
        clear hlt hio
        go_wp2_with fail
        clear k0 k1 k2 k3
        go_loopw [13] (fun a wx => ∃ i : Nat, i ≤ g.h.length ∧ a = .int .i64 i ∧ Hid (Below w9.heap.size w9 wx)) (fun a _ => (g.h.length - intOf a).toNat)
        case atStart => exact ⟨0, by omega, rfl, BR⟩
        case round =>
          rename World => w8x
          obtain ⟨i, hih, rfl, BX⟩ := hrel
          obtain ⟨k0, k1, k2, k3⟩ := SX.out w8x BX.out
          by_cases hlt : i < g.h.length
          · obtain ⟨x, hx⟩ : ∃ x, g.h[i]? = some x := ⟨_, List.getElem?_eq_getElem hlt⟩
            obtain ⟨a, b, hf, ht, ha, hb, hab⟩ := ch_loop HC.out (List.mem_of_getElem? hx)
            obtain ⟨n1, n2, n3⟩ := loc_out HC.out ha
            obtain ⟨m1, m2, m3⟩ := loc_in HC.out hb
            have S1 := fun W hW hL => SC.out (2 * (a : Int) + 1) W hW hL
            have S2 := fun W hW hL => SC.out (2 * (b : Int)) W hW hL
            rw [n1, n2, n3, hab] at S1
            rw [m1, m2, m3] at S2
            clear n1 n2 n3 m1 m2 m3 hab
            generalize deepL g.l (loopV g b false) = dd at S1 S2
            generalize loopV g b false = ll at S1 S2
            replace S1 := Lib.hid S1
            replace S2 := Lib.hid S2
            obtain ⟨b1, o1, hA, -, -, -⟩ := at_ch (xdl.out w8x BX.out).2 hx
            subst hA
            obtain ⟨f, t⟩ := x
            dsimp only at hf ht
            subst hf ht
            have CHH : ∀ W, Below w9.heap.size w9 W → W.cell? ⟨b1, o1 + i * 2, none⟩ = some (.int .i64 a) ∧ W.cell? ⟨b1, o1 + i * 2 + 1, none⟩ = some (.int .i64 b) := fun W hW => by
              obtain ⟨b2, o2, hA2, -, e, e'⟩ := at_ch (xdl.out W hW).2 hx
              injection (Option.some.inj hA2) with e1 e2
              subst e1 e2
              exact ⟨e, e'⟩
            have CH := Lib.hid CHH
            clear CHH hx
            go_upto_region 17 with fail
            clear k0 k1 k2 k3
            have t0 : ∀ y : Since w8x, y.1.cell? ⟨gx, 0, none⟩ = some (.slice xa g.c.length xi) := fun y => (SX.out y.1 (then_below BX.out y.2)).1
            have t1 : ∀ y : Since w8x, y.1.cell? ⟨gx, 1, none⟩ = some (.slice xb g.l.length xj) := fun y => (SX.out y.1 (then_below BX.out y.2)).2.1
            have t2 : ∀ y : Since w8x, y.1.cell? ⟨gx, 2, none⟩ = some (.slice xd g.o.length xk) := fun y => (SX.out y.1 (then_below BX.out y.2)).2.2.1
            have t3 : ∀ y : Since w8x, y.1.cell? ⟨gx, 3, none⟩ = some (.slice (some ⟨b1, o1, none⟩) g.h.length xm) := fun y => (SX.out y.1 (then_below BX.out y.2)).2.2.2
            have t4 : ∀ y : Since w8x, y.1.cell? ⟨b1, o1 + i * 2, none⟩ = some (.int .i64 a) := fun y => (CH.out y.1 (then_below BX.out y.2)).1
            have L1 := Lib.hid fun (y : Since w8x) => since_at y (S1.out y.1 (S9.out y.1 (then_below BX.out y.2)).2.1 (S9.out y.1 (then_below BX.out y.2)).2.2)
            refine region_since w8x (by kernel_rfl) (by kernel_rfl) (Below.refl _ _) ?_
            repeat (go_big_quiet_step ((go_at_call 25; with_reducible exact L1.out _)))
            refine wpQuiet_nil ?_
            rintro w17 ⟨y, hy⟩
            have B17 := Lib.hid (then_below BX.out (hy ▸ y.2))
            clear t0 t1 t2 t3 t4 L1 y hy S1
            obtain ⟨k0, k1, k2, k3⟩ := SX.out w17 B17.out
            go_upto_region 18 with fail
            clear k0 k1 k2 k3
            have t0 : ∀ y : Since w17, y.1.cell? ⟨gx, 0, none⟩ = some (.slice xa g.c.length xi) := fun y => (SX.out y.1 (then_below B17.out y.2)).1
            have t1 : ∀ y : Since w17, y.1.cell? ⟨gx, 1, none⟩ = some (.slice xb g.l.length xj) := fun y => (SX.out y.1 (then_below B17.out y.2)).2.1
            have t2 : ∀ y : Since w17, y.1.cell? ⟨gx, 2, none⟩ = some (.slice xd g.o.length xk) := fun y => (SX.out y.1 (then_below B17.out y.2)).2.2.1
            have t3 : ∀ y : Since w17, y.1.cell? ⟨gx, 3, none⟩ = some (.slice (some ⟨b1, o1, none⟩) g.h.length xm) := fun y => (SX.out y.1 (then_below B17.out y.2)).2.2.2
            have t5 : ∀ y : Since w17, y.1.cell? ⟨b1, o1 + i * 2 + 1, none⟩ = some (.int .i64 b) := fun y => (CH.out y.1 (then_below B17.out y.2)).2
            have L2 := Lib.hid fun (y : Since w17) => since_at y (S2.out y.1 (S9.out y.1 (then_below B17.out y.2)).2.1 (S9.out y.1 (then_below B17.out y.2)).2.2)
            refine region_since w17 (by kernel_rfl) (by kernel_rfl) (Below.refl _ _) ?_
            repeat (go_big_quiet_step ((go_at_call 25; with_reducible exact L2.out _)))
            refine wpQuiet_nil ?_
            rintro w18 ⟨y, hy⟩
            have B18 := Lib.hid (then_below B17.out (hy ▸ y.2))
            clear t0 t1 t2 t3 t5 L2 y hy S2
            go_wp2_with fail
            go_roundw
            case rel => exact ⟨i + 1, by omega, by go_num, B18⟩
            case measure => simp [intOf]; omega
          · obtain rfl : i = g.h.length := by omega
            clear hlt hih
            go_wp2_with fail
            go_ret
            exact ⟨rfl, (S3.out _ (S9.out _ BX.out).1).1⟩
end Go.Proofs.YtpblpjopinllcaaGreatDoor.graph
