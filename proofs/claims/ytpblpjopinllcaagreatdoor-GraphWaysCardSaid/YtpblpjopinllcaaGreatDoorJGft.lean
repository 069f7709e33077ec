/-
  graph.Fits (by gen_ft.py).
  The law's own trial of a program (works): it comes out true (by gen_gw9.py).
-/
import Derived.Test.YtpblpjopinllcaaGreatDoorJMk2
import Derived.Test.YtpblpjopinllcaaGreatDoorJTm
import Derived.Test.YtpblpjopinllcaaGreatDoorJGp5l
import Derived.Test.YtpblpjopinllcaaGreatDoorJGflR
namespace Go.Proofs.YtpblpjopinllcaaGreatDoor.graph
open Go.ChangeShapes Go.WideShapes Go.ChangeAt Go.RowKit
open Go.Proofs.YtpblpjopinllcaaGreatDoor.opened Go.Proofs.YtpblpjopinllcaaGreatDoor.block Go.Proofs.YtpblpjopinllcaaGreatDoor.words
open Go.Proofs.YtpblpjopinllcaaGreatDoor.tm Go.Proofs.YtpblpjopinllcaaGreatDoor.pa
/-- Are the rounds of a time less than those of its loops, from a loop outwards? -/
def roundsB (L : List Lo) (t : Tm) : Nat → Int → Bool
  | 0, _ => true
  | d + 1, k => match L[k.toNat]? with
    | none => true
    | some x => decide (nth t d < x.r) && roundsB L t d x.u
def fitsB (g : Gr) (p : Int) (t : Tm) : Bool := decide (locE g p = 0) && (decide (chk t = 0) && (decide (t.d = locD g p) && roundsB g.l t (locD g p) (locL g p)))
theorem deep3 {g : Gr} (h : checkE g = 0) (k : Int) (h0 : -1 ≤ k) (h1 : k < g.l.length) : deepL g.l k ≤ 3 := by
  by_cases hk : k < 0
  · rw [deep_neg hk]; omega
  · obtain ⟨i, rfl⟩ : ∃ i : Nat, k = i := ⟨k.toNat, by omega⟩
    have hi : i < g.l.length := by omega
    have z := first_zero (check_parts h).2.2.1 i hi
    unfold loE at z
    rw [List.getElem?_eq_getElem hi] at z
    dsimp only at z
    split at z
    · rename_i n0; exact absurd z n0
    · split at z
      · cases z
      · split at z
        · cases z
        · omega
theorem loc_ok {g : Gr} {p : Int} (h : locE g p = 0) : checkE g = 0 := by
  unfold locE at h
  split at h
  · rename_i k; exact absurd h k
  · rename_i k; omega
/-- Where there is no loop, there is no depth, and else one. -/
theorem deep_zero {L : List Lo} (U : UpOk L L.length) (k : Int) (h0 : -1 ≤ k) (h1 : k < L.length) : deepL L k = 0 ↔ k = -1 := by
  constructor
  · intro h
    refine Classical.byContradiction fun hk => ?_
    obtain ⟨i, rfl⟩ : ∃ i : Nat, k = i := ⟨k.toNat, by omega⟩
    rw [deep_step U (by omega) (List.getElem?_eq_getElem (by omega))] at h
    omega
  · rintro rfl
    exact deep_neg (by omega)
set_option maxRecDepth 100000 in
set_option maxHeartbeats 2000000 in
theorem fits_any (v : Gv) (g : Gr) (F : Fit v g) (I : g.In) (p : Int) (t : Tm) (it : t.In) (w : World) (h : Lies4 w v g) (K : KT w) :
    Calls Tryz.prog 29 #[gV v g, .int .i64 p, .agg #[.int .u32 t.e, .int .i64 t.d, .int .u32 t.a, .int .u32 t.b, .int .u32 t.c]] w fun e w' => e = .returned (.bool (fitsB g p t)) ∧ Below w.heap.size w w' := by
  have SC := fun w1 (h1 : Lies4 w1 v g) (k1 : KT w1) => scope_any v g F I p w1 h1 k1
  have CT := fun w => Go.Proofs.YtpblpjopinllcaaGreatDoor.stamp.check_any t it w
  obtain ⟨va, vb, vd, ve, vi, vj, vk, vm⟩ := v
  unfold gV at SC ⊢
  dsimp only at SC ⊢
  obtain ⟨R, hR⟩ : ∃ R, fitsB g p t = R := ⟨_, rfl⟩
  rw [hR]
  unfold fitsB at hR
  have b1 := fresh1 w (.cells #[.slice va g.c.length vi, .slice vb g.l.length vj, .slice vd g.o.length vk, .slice ve g.h.length vm] 27)
  have OX := Whole.fresh w 27 #[.slice va g.c.length vi, .slice vb g.l.length vj, .slice vd g.o.length vk, .slice ve g.h.length vm]
  have hgg := OX.inside
  have H1 := h.below b1
  have K1 := K.below b1
  generalize hw1 : w.alloc (.cells #[.slice va g.c.length vi, .slice vb g.l.length vj, .slice vd g.o.length vk, .slice ve g.h.length vm] 27) = w1 at b1 OX hgg H1 K1
  have b2 := fresh1 w1 (.cells #[.int .u32 t.e, .int .i64 t.d, .int .u32 t.a, .int .u32 t.b, .int .u32 t.c] 63)
  have OT := Whole.fresh w1 63 #[.int .u32 t.e, .int .i64 t.d, .int .u32 t.a, .int .u32 t.b, .int .u32 t.c]
  have B1 := Lib.hid (b1.trans (b2.mono b1.size))
  have OX1 := Lib.hid (OX.below b2 OX.inside)
  have H2 := Lib.hid (H1.below b2)
  have K2 := Lib.hid (K1.below b2)
  clear h H1
  have LRG : Hid (checkE g = 0 → -1 ≤ loopV g (p / 2).toNat (locO p) ∧ loopV g (p / 2).toNat (locO p) < g.l.length) := Lib.hid fun q => loop_range q _ _
  have E0 : Hid (locE g p = 0 → checkE g = 0 ∧ locL g p = loopV g (p / 2).toNat (locO p) ∧ locD g p = deepL g.l (locL g p)) := Lib.hid fun e => ⟨loc_ok e, by unfold locL; rw [if_pos e], by unfold locD locL; rw [if_pos e, if_pos e]⟩
  generalize locE g p = E at SC hR E0
  generalize locL g p = L at SC hR E0
  generalize locD g p = D at SC hR E0
  replace SC := Lib.hid SC
  go_enter Tryz.func29, Tryz.ntmps29
  go_upto_region 1 with fail
  change Code.wp _ _ _ _ (w1.alloc (.cells #[.int .u32 t.e, .int .i64 t.d, .int .u32 t.a, .int .u32 t.b, .int .u32 t.c] 63))
  have hsw : w1.heap.size = w.heap.size + 1 := by rw [← hw1, size_alloc]
  generalize w1.alloc (.cells #[.int .u32 t.e, .int .i64 t.d, .int .u32 t.a, .int .u32 t.b, .int .u32 t.c] 63) = w2 at b2 OT B1 OX1 H2 K2 ⊢
  rw [hsw] at OT ⊢
  obtain ⟨gg, hg⟩ : ∃ gg, w.heap.size = gg := ⟨_, rfl⟩
  rw [hg] at OX1 OT ⊢
  obtain ⟨tt, htt⟩ : ∃ tt, gg + 1 = tt := ⟨_, rfl⟩
  rw [htt] at OT ⊢
  replace OT := Lib.hid OT
  clear hw1 b1 b2 OX hsw hg htt hgg K1 K
  have k := OX1.out.read
  have k0 : w2.cell? ⟨gg, 0, none⟩ = some (.slice va g.c.length vi) := k 0
  have k1 : w2.cell? ⟨gg, 1, none⟩ = some (.slice vb g.l.length vj) := k 1
  have k2 : w2.cell? ⟨gg, 2, none⟩ = some (.slice vd g.o.length vk) := k 2
  have k3 : w2.cell? ⟨gg, 3, none⟩ = some (.slice ve g.h.length vm) := k 3
  clear k
  have hB0 := B1.out.size
  replace SC := Lib.hid (SC.out w2 H2.out K2.out)
  go_upto_region 2 with (go_at_call 25; refine SC.out.mono ?_; rintro e w3 ⟨rfl, b3⟩)
  have OT3 := Lib.hid (OT.out.below b3 OT.out.inside)
  have B3 := Lib.hid (B1.out.trans (b3.mono hB0))
  have H3 := Lib.hid (H2.out.below b3)
  have OX3 := Lib.hid (OX1.out.below b3 OX1.out.inside)
  clear k0 k1 k2 k3 SC b3 OT B1 H2 OX1
  replace hB0 := B3.out.size
  have d0 := OT3.out.read 0
  have d1 := OT3.out.read 1
  have d2 := OT3.out.read 2
  have d3 := OT3.out.read 3
  have d4 := OT3.out.read 4
  by_cases e0 : E = 0
  case neg =>
    obtain rfl : false = R := by rw [← hR, decide_eq_false e0]; rfl
    have ne : (E != 0) = true := by simpa using e0
    clear hR E0 e0
    go_wp2_with fail
    go_ret
    exact ⟨rfl, B3.out⟩
  subst e0
  obtain ⟨q, eL, eD⟩ := E0.out rfl
  obtain ⟨l0, l1⟩ := LRG.out q
  rw [← eL] at l0 l1
  have HU := Lib.hid (up_of (check_parts q).2.2.1)
  have hd3 := deep3 q L l0 l1
  rw [← eD] at hd3
  have eD' := Lib.hid eD
  clear eD
  rw [decide_eq_true rfl, Bool.true_and] at hR
  clear E0 LRG eL q
  obtain ⟨ce, hce⟩ : ∃ ce, chk t = ce := ⟨_, rfl⟩
  rw [hce] at CT hR
  replace CT := Lib.hid CT
  by_cases c0 : ce = 0
  case neg =>
    obtain rfl : false = R := by rw [← hR, decide_eq_false c0]; rfl
    have ne : (ce != 0) = true := by simpa using c0
    clear hR c0 hce
    go_wp2_with (go_at_call 103; refine (CT.out _).mono ?_; rintro e w4 ⟨rfl, b4⟩)
    go_ret
    exact ⟨rfl, B3.out.trans (b4.mono hB0)⟩
  subst c0
  rw [decide_eq_true rfl, Bool.true_and] at hR
  by_cases td : t.d = (D : Int)
  case neg =>
    obtain rfl : false = R := by rw [← hR, decide_eq_false td]; rfl
    have ne : (t.d != (D : Int)) = true := by simpa using td
    clear hR hce td
    go_wp2_with (go_at_call 103; refine (CT.out _).mono ?_; rintro e w4 ⟨rfl, b4⟩; have f1 := (OT3.out.below b4 OT3.out.inside).read 1)
    go_ret
    exact ⟨rfl, B3.out.trans (b4.mono hB0)⟩
  rw [decide_eq_true td, Bool.true_and] at hR
  replace hR := Lib.hid hR
  have TD : (t.d != (D : Int)) = false := by simpa using td
  clear hce td
  go_upto_region 4 with (go_at_call 103; refine (CT.out _).mono ?_; rintro e w4 ⟨rfl, b4⟩; have f1 := (OT3.out.below b4 OT3.out.inside).read 1)
  have OT4 := Lib.hid (OT3.out.below b4 OT3.out.inside)
  have B4 := Lib.hid (B3.out.trans (b4.mono hB0))
  have H4 := Lib.hid (H3.out.below b4)
  have OX4 := Lib.hid (OX3.out.below b4 OX3.out.inside)
  clear d0 d1 d2 d3 d4 f1 CT b4 OT3 B3 H3 OX3 TD
  replace hB0 := B4.out.size
  have k1 : w4.cell? ⟨gg, 1, none⟩ = some (.slice vb g.l.length vj) := OX4.out.read 1
  have IT := Lib.hid it
  clear it
  go_wp2_with fail
  go_loopw [7, 8] (fun a b wr => ∃ (k : Int) (d : Nat), -1 ≤ k ∧ k < g.l.length ∧ d ≤ 3 ∧ a = .int .i64 k ∧ b = .int .i64 d ∧ Hid (deepL g.l k = d) ∧ Hid (roundsB g.l t d k = R) ∧ Hid (Below w4.heap.size w4 wr)) (fun _ b _ => (intOf b).toNat)
  case atStart => exact ⟨L, D, l0, l1, hd3, rfl, rfl, Lib.hid eD'.out.symm, hR, Lib.hid (Below.refl _ _)⟩
  clear k1 hR eD' l0 l1 hd3
  case round =>
    obtain ⟨k, d, k0, kl, hd3, rfl, rfl, HD, HR, Br⟩ := hrel
    have OTr := Lib.hid (OT4.out.below Br.out OT4.out.inside)
    have OXr := Lib.hid (OX4.out.below Br.out OX4.out.inside)
    have Hr := Lib.hid (H4.out.below Br.out)
    have Bx := Lib.hid (B4.out.trans (Br.out.mono hB0))
    cases d with
    | zero =>
      obtain rfl : k = -1 := (deep_zero HU.out k k0 kl).1 HD.out
      obtain rfl : true = R := HR.out
      go_wp2_with fail
      go_ret
      exact ⟨rfl, Bx.out⟩
    | succ d =>
      have hk : k ≠ -1 := fun e => by
        have := (deep_zero HU.out k k0 kl).2 e
        have := HD.out
        omega
      obtain ⟨n, rfl⟩ : ∃ n : Nat, k = n := ⟨k.toNat, by omega⟩
      have hn : n < g.l.length := by omega
      obtain ⟨x, hx⟩ : ∃ x, g.l[n]? = some x := ⟨g.l[n], List.getElem?_eq_getElem hn⟩
      have hux := HU.out n x hn hx
      have HD2 : Hid (deepL g.l x.u = d) := Lib.hid (by have := HD.out; rw [deep_step HU.out hn hx] at this; omega)
      have HR2 : Hid ((decide (nth t d < x.r) && roundsB g.l t d x.u) = R) := Lib.hid (by rw [← HR.out]; show _ = (match g.l[(n : Int).toNat]? with | none => true | some x => decide (nth t d < x.r) && roundsB g.l t d x.u); rw [Int.toNat_natCast, hx])
      obtain ⟨b1, o1, hA, hb1, c0, c1, c2⟩ := at_lo Hr.out.l hx
      change vb = _ at hA
      subst hA
      clear HD HR hx c0
      have hk2 : ((n : Int) == -1) = false := by rw [beq_eq_false_iff_ne]; omega
      have g1 : ∀ y : Since wr, y.1.cell? ⟨gg, 1, none⟩ = some (.slice (some ⟨b1, o1, none⟩) g.l.length vj) := fun y => (OXr.out.below y.2 OXr.out.inside).read 1
      have x2 : ∀ y : Since wr, y.1.cell? ⟨b1, o1 + n * 3 + 2, none⟩ = some (.int .i64 x.r) := fun y => (y.2.cell (p := ⟨b1, o1 + n * 3 + 2, none⟩) hb1).trans c2
      clear c2
      have T2 : ∀ y : Since wr, y.1.cell? ⟨tt, 2, none⟩ = some (.int .u32 t.a) := fun y => (OTr.out.below y.2 OTr.out.inside).read 2
      have T3 : ∀ y : Since wr, y.1.cell? ⟨tt, 3, none⟩ = some (.int .u32 t.b) := fun y => (OTr.out.below y.2 OTr.out.inside).read 3
      have T4 : ∀ y : Since wr, y.1.cell? ⟨tt, 4, none⟩ = some (.int .u32 t.c) := fun y => (OTr.out.below y.2 OTr.out.inside).read 4
      have it := IT.out
      obtain ⟨-, -, -, -, ha0, ha1, hb0', hb1', hc0, hc1⟩ := it
      have hd2 : d = 0 ∨ d = 1 ∨ d = 2 := by omega
      rcases hd2 with rfl | rfl | rfl
      · have HN : Hid ((decide (t.a < x.r) && roundsB g.l t 0 x.u) = R) := HR2
        clear HR2
        have wa : IntKind.i64.wrap t.a = t.a := by rw [IntKind.wrap_i64]; omega
        by_cases cr : t.a < x.r
        · have HN2 : Hid (roundsB g.l t 0 x.u = R) := Lib.hid (by have := HN.out; rwa [decide_eq_true cr, Bool.true_and] at this)
          have cr' : ¬ x.r ≤ t.a := by omega
          clear HN cr
          go_upto_region 7 with fail
          refine region_since wr (by kernel_rfl) (by kernel_rfl) (Below.refl _ _) ?_
          repeat (go_big_quiet_step (fail))
          refine wpQuiet_nil ?_
          rintro w6 ⟨y, hw⟩
          have b6 : Below wr.heap.size wr w6 := hw ▸ y.2
          clear hw y x2 T2 T3 T4 g1 wa cr'
          have g1 : w6.cell? ⟨gg, 1, none⟩ = some (.slice (some ⟨b1, o1, none⟩) g.l.length vj) := (OXr.out.below b6 OXr.out.inside).read 1
          have u1 : w6.cell? ⟨b1, o1 + n * 3 + 1, none⟩ = some (.int .i64 x.u) := (b6.cell (p := ⟨b1, o1 + n * 3 + 1, none⟩) hb1).trans c1
          go_wp2_with fail
          go_roundw
          case rel => exact ⟨x.u, 0, hux.1, by omega, by omega, rfl, by go_num, HD2, HN2, Lib.hid (Br.out.trans (b6.mono Br.out.size))⟩
          case measure => simp [intOf]
        · obtain rfl : false = R := by rw [← HN.out, decide_eq_false cr]; rfl
          have cr' : x.r ≤ t.a := by omega
          clear HN cr
          go_upto_region 7 with fail
          refine region_since wr (by kernel_rfl) (by kernel_rfl) (Below.refl _ _) ?_
          repeat (go_big_quiet_step (fail))
          refine wpQuiet_nil ?_
          rintro w6 ⟨y, hw⟩
          have b6 : Below wr.heap.size wr w6 := hw ▸ y.2
          clear hw y x2 T2 T3 T4 g1 wa cr'
          go_wp2_with fail
          go_ret
          exact ⟨rfl, Bx.out.trans (b6.mono Bx.out.size)⟩
      · have HN : Hid ((decide (t.b < x.r) && roundsB g.l t 1 x.u) = R) := HR2
        clear HR2
        have wa : IntKind.i64.wrap t.b = t.b := by rw [IntKind.wrap_i64]; omega
        by_cases cr : t.b < x.r
        · have HN2 : Hid (roundsB g.l t 1 x.u = R) := Lib.hid (by have := HN.out; rwa [decide_eq_true cr, Bool.true_and] at this)
          have cr' : ¬ x.r ≤ t.b := by omega
          clear HN cr
          go_upto_region 7 with fail
          refine region_since wr (by kernel_rfl) (by kernel_rfl) (Below.refl _ _) ?_
          repeat (go_big_quiet_step (fail))
          refine wpQuiet_nil ?_
          rintro w6 ⟨y, hw⟩
          have b6 : Below wr.heap.size wr w6 := hw ▸ y.2
          clear hw y x2 T2 T3 T4 g1 wa cr'
          have g1 : w6.cell? ⟨gg, 1, none⟩ = some (.slice (some ⟨b1, o1, none⟩) g.l.length vj) := (OXr.out.below b6 OXr.out.inside).read 1
          have u1 : w6.cell? ⟨b1, o1 + n * 3 + 1, none⟩ = some (.int .i64 x.u) := (b6.cell (p := ⟨b1, o1 + n * 3 + 1, none⟩) hb1).trans c1
          go_wp2_with fail
          go_roundw
          case rel => exact ⟨x.u, 1, hux.1, by omega, by omega, rfl, by go_num, HD2, HN2, Lib.hid (Br.out.trans (b6.mono Br.out.size))⟩
          case measure => simp [intOf]
        · obtain rfl : false = R := by rw [← HN.out, decide_eq_false cr]; rfl
          have cr' : x.r ≤ t.b := by omega
          clear HN cr
          go_upto_region 7 with fail
          refine region_since wr (by kernel_rfl) (by kernel_rfl) (Below.refl _ _) ?_
          repeat (go_big_quiet_step (fail))
          refine wpQuiet_nil ?_
          rintro w6 ⟨y, hw⟩
          have b6 : Below wr.heap.size wr w6 := hw ▸ y.2
          clear hw y x2 T2 T3 T4 g1 wa cr'
          go_wp2_with fail
          go_ret
          exact ⟨rfl, Bx.out.trans (b6.mono Bx.out.size)⟩
      · have HN : Hid ((decide (t.c < x.r) && roundsB g.l t 2 x.u) = R) := HR2
        clear HR2
        have wa : IntKind.i64.wrap t.c = t.c := by rw [IntKind.wrap_i64]; omega
        by_cases cr : t.c < x.r
        · have HN2 : Hid (roundsB g.l t 2 x.u = R) := Lib.hid (by have := HN.out; rwa [decide_eq_true cr, Bool.true_and] at this)
          have cr' : ¬ x.r ≤ t.c := by omega
          clear HN cr
          go_upto_region 7 with fail
          refine region_since wr (by kernel_rfl) (by kernel_rfl) (Below.refl _ _) ?_
          repeat (go_big_quiet_step (fail))
          refine wpQuiet_nil ?_
          rintro w6 ⟨y, hw⟩
          have b6 : Below wr.heap.size wr w6 := hw ▸ y.2
          clear hw y x2 T2 T3 T4 g1 wa cr'
          have g1 : w6.cell? ⟨gg, 1, none⟩ = some (.slice (some ⟨b1, o1, none⟩) g.l.length vj) := (OXr.out.below b6 OXr.out.inside).read 1
          have u1 : w6.cell? ⟨b1, o1 + n * 3 + 1, none⟩ = some (.int .i64 x.u) := (b6.cell (p := ⟨b1, o1 + n * 3 + 1, none⟩) hb1).trans c1
          go_wp2_with fail
          go_roundw
          case rel => exact ⟨x.u, 2, hux.1, by omega, by omega, rfl, by go_num, HD2, HN2, Lib.hid (Br.out.trans (b6.mono Br.out.size))⟩
          case measure => simp [intOf]
        · obtain rfl : false = R := by rw [← HN.out, decide_eq_false cr]; rfl
          have cr' : x.r ≤ t.c := by omega
          clear HN cr
          go_upto_region 7 with fail
          refine region_since wr (by kernel_rfl) (by kernel_rfl) (Below.refl _ _) ?_
          repeat (go_big_quiet_step (fail))
          refine wpQuiet_nil ?_
          rintro w6 ⟨y, hw⟩
          have b6 : Below wr.heap.size wr w6 := hw ▸ y.2
          clear hw y x2 T2 T3 T4 g1 wa cr'
          go_wp2_with fail
          go_ret
          exact ⟨rfl, Bx.out.trans (b6.mono Bx.out.size)⟩
end Go.Proofs.YtpblpjopinllcaaGreatDoor.graph
set_option linter.unusedSimpArgs false
set_option linter.unusedVariables false
namespace Go.Proofs.YtpblpjopinllcaaGreatDoor.graph
open Go.ChangeShapes Go.WideShapes Go.ChangeAt Go.RowKit
open Go.Proofs.YtpblpjopinllcaaGreatDoor.opened Go.Proofs.YtpblpjopinllcaaGreatDoor.block Go.Proofs.YtpblpjopinllcaaGreatDoor.words Go.Proofs.YtpblpjopinllcaaGreatDoor.region Go.Proofs.YtpblpjopinllcaaGreatDoor.tm
/-- What the listed variables give. -/
structure EnvG (w : World) : Prop where
  e : Env w
  k : KT w
theorem EnvG.below {w w' : World} (h : EnvG w) (hb : Below w.heap.size w w') : EnvG w' := ⟨h.e.below hb, h.k.below hb⟩
def smallL : Bs := [99, 108, 117, 115, 116, 101, 114, 32, 97, 32, 119, 111, 114, 107, 101, 114, 115, 61, 49, 10, 111, 112, 32, 120, 32, 105, 110, 112, 117, 116, 32, 105, 110, 61, 45, 32, 97, 116, 61, 97, 10, 111, 112, 32, 121, 32, 99, 97, 112, 116, 117, 114, 101, 32, 105, 110, 61, 45, 32, 97, 116, 61, 97, 10, 102, 114, 111, 109, 32, 120, 32, 116, 111, 32, 121, 10]
def badL : Bs := [99, 108, 117, 115, 116, 101, 114, 32, 97, 32, 119, 111, 114, 107, 101, 114, 115, 61, 49, 10, 111, 112, 32, 120, 32, 119, 104, 97, 116, 32, 105, 110, 61, 45, 32, 97, 116, 61, 97]
def loneL : Bs := [99, 108, 117, 115, 116, 101, 114, 32, 97, 32, 119, 111, 114, 107, 101, 114, 115, 61, 57]
abbrev G0 : Gr := ⟨[⟨[97], 1⟩], [], [⟨[120], 1, -1, 0, 0, 0⟩, ⟨[121], 2, -1, 0, 0, 0⟩], [⟨0, 1⟩]⟩
theorem in0 : G0.In := ⟨by decide, by decide, by decide, by decide⟩
theorem it1 : Lib.itoa 1 = [49] := by rw [show (1 : Int) = ((1 : Nat) : Int) from rfl, Lib.itoa_nonneg, Lib.decDigits_one (by omega)]; rfl
theorem it9 : Lib.itoa 9 = [57] := by rw [show (9 : Int) = ((9 : Nat) : Int) from rfl, Lib.itoa_nonneg, Lib.decDigits_one (by omega)]; rfl
theorem check0 : checkE G0 = 0 := by decide
theorem text0 : textG G0 = smallL := by
  unfold textG
  simp only [List.map_cons, List.map_nil, clWords, it1]
  decide
theorem textV0 : textV G0 = smallL := by unfold textV; rw [if_pos check0, text0]
theorem parse0 : parseV lastIx smallL = (G0, 0, 0) := by rw [← text0]; exact parse_text ok_last in0 check0
theorem num1 : numE kwWorkers (kwWorkers ++ [49]) = 0 ∧ numV kwWorkers (kwWorkers ++ [49]) = 1 := by
  have := num_front kwWorkers 1 ⟨by omega, by omega⟩
  rwa [it1] at this
theorem num9 : numE kwWorkers (kwWorkers ++ [57]) = 0 ∧ numV kwWorkers (kwWorkers ++ [57]) = 9 := by
  have := num_front kwWorkers 9 ⟨by omega, by omega⟩
  rwa [it9] at this
theorem line1 : lineF lastIx noG (splitL [99, 108, 117, 115, 116, 101, 114, 32, 97, 32, 119, 111, 114, 107, 101, 114, 115, 61, 49]) = (0, ⟨[⟨[97], 1⟩], [], [], []⟩) := by
  have e : splitL [99, 108, 117, 115, 116, 101, 114, 32, 97, 32, 119, 111, 114, 107, 101, 114, 115, 61, 49] = [kwCluster, [97], kwWorkers ++ [49]] := by decide
  rw [e]
  unfold lineF
  dsimp only
  rw [if_pos rfl]
  unfold clF
  dsimp only
  rw [num1.1, num1.2]
  rfl
theorem line9 : lineF lastIx noG (splitL [99, 108, 117, 115, 116, 101, 114, 32, 97, 32, 119, 111, 114, 107, 101, 114, 115, 61, 57]) = (0, ⟨[⟨[97], 9⟩], [], [], []⟩) := by
  have e : splitL [99, 108, 117, 115, 116, 101, 114, 32, 97, 32, 119, 111, 114, 107, 101, 114, 115, 61, 57] = [kwCluster, [97], kwWorkers ++ [57]] := by decide
  rw [e]
  unfold lineF
  dsimp only
  rw [if_pos rfl]
  unfold clF
  dsimp only
  rw [num9.1, num9.2]
  rfl
theorem line2 (g : Gr) : lineF lastIx g (splitL [111, 112, 32, 120, 32, 119, 104, 97, 116, 32, 105, 110, 61, 45, 32, 97, 116, 61, 97]) = (6, g) := by
  have e : splitL [111, 112, 32, 120, 32, 119, 104, 97, 116, 32, 105, 110, 61, 45, 32, 97, 116, 61, 97] = [kwOp, [120], [119, 104, 97, 116], kwInNo, kwAt ++ [97]] := by decide
  rw [e]
  unfold lineF
  dsimp only
  rw [if_neg (by decide), if_neg (by decide), if_pos rfl]
  unfold opF
  dsimp only
  rw [if_pos (.inl (by decide))]
theorem parse1 : parseV lastIx badL = (noG, 2, 6) := by
  have e : linesL badL = [[99, 108, 117, 115, 116, 101, 114, 32, 97, 32, 119, 111, 114, 107, 101, 114, 115, 61, 49], [111, 112, 32, 120, 32, 119, 104, 97, 116, 32, 105, 110, 61, 45, 32, 97, 116, 61, 97]] := by decide
  unfold parseV
  rw [e, parseF, line1, if_neg (by decide), parseF, line2, if_pos (by decide)]
  rfl
theorem parse2 : parseV lastIx loneL = (noG, 0, 3) := by
  have e : linesL loneL = [[99, 108, 117, 115, 116, 101, 114, 32, 97, 32, 119, 111, 114, 107, 101, 114, 115, 61, 57]] := by decide
  unfold parseV
  rw [e, parseF, line9, if_neg (by decide), parseF]
  rfl
theorem fits0 : fitsB G0 0 ⟨5, 0, 0, 0, 0⟩ = true := by decide
theorem fits1 : fitsB G0 9 ⟨0, 0, 0, 0, 0⟩ = false := by decide
theorem flows0 : flV G0 = [] := by decide
theorem in5 : (⟨5, 0, 0, 0, 0⟩ : Tm).In := ⟨by decide, by decide, by decide, by decide, by decide, by decide, by decide, by decide, by decide, by decide⟩
theorem inT0 : (⟨0, 0, 0, 0, 0⟩ : Tm).In := ⟨by decide, by decide, by decide, by decide, by decide, by decide, by decide, by decide, by decide, by decide⟩
theorem fit0 {v : Gv} (R : Rooms v G0) : Fit v G0 := ⟨R.i, R.j, R.k, R.m, by simp, by simp, by simp⟩
set_option maxRecDepth 100000 in
set_option maxHeartbeats 4000000 in
theorem works9_any (w : World) (hE : EnvG w) : Calls Tryz.prog 19 #[] w fun e w' => e = .returned (.bool true) ∧ Below w.heap.size w w' := by
  have E0 := Lib.hid hE
  have P0 : Hid (∀ W, EnvG W → Calls Tryz.prog 15 #[.string ⟨#[99, 108, 117, 115, 116, 101, 114, 32, 97, 32, 119, 111, 114, 107, 101, 114, 115, 61, 49, 10, 111, 112, 32, 120, 32, 105, 110, 112, 117, 116, 32, 105, 110, 61, 45, 32, 97, 116, 61, 97, 10, 111, 112, 32, 121, 32, 99, 97, 112, 116, 117, 114, 101, 32, 105, 110, 61, 45, 32, 97, 116, 61, 97, 10, 102, 114, 111, 109, 32, 120, 32, 116, 111, 32, 121, 10]⟩] W fun e w' => ∃ v', e = .returned (.tuple #[gV v' G0, .int .i64 0, .int .i64 0]) ∧ Lies4 w' v' G0 ∧ Rooms v' G0 ∧ Below W.heap.size W w') := Lib.hid fun W hW => by
    have h := parseP_any smallL (by decide) W hW.e hW.k
    rw [parse0] at h
    exact h
  have P1 : Hid (∀ W, EnvG W → Calls Tryz.prog 15 #[.string ⟨#[99, 108, 117, 115, 116, 101, 114, 32, 97, 32, 119, 111, 114, 107, 101, 114, 115, 61, 49, 10, 111, 112, 32, 120, 32, 119, 104, 97, 116, 32, 105, 110, 61, 45, 32, 97, 116, 61, 97]⟩] W fun e w' => ∃ v', e = .returned (.tuple #[gV v' noG, .int .i64 2, .int .i64 6]) ∧ Below W.heap.size W w') := Lib.hid fun W hW => by
    have h := parseP_any badL (by decide) W hW.e hW.k
    rw [parse1] at h
    exact h.mono fun e w' ⟨v', h1, _, _, h4⟩ => ⟨v', h1, h4⟩
  have P2 : Hid (∀ W, EnvG W → Calls Tryz.prog 15 #[.string ⟨#[99, 108, 117, 115, 116, 101, 114, 32, 97, 32, 119, 111, 114, 107, 101, 114, 115, 61, 57]⟩] W fun e w' => ∃ v', e = .returned (.tuple #[gV v' noG, .int .i64 0, .int .i64 3]) ∧ Below W.heap.size W w') := Lib.hid fun W hW => by
    have h := parseP_any loneL (by decide) W hW.e hW.k
    rw [parse2] at h
    exact h.mono fun e w' ⟨v', h1, _, _, h4⟩ => ⟨v', h1, h4⟩
  clear hE
  go_enter Tryz.func19, Tryz.ntmps19
  go_upto_region 2 with (go_at_call 15; refine (P0.out _ E0.out).mono ?_; rintro e w1 ⟨x, rfl, L1, R1, b1⟩)
  have FT := fit0 R1
  have TX : Hid (∀ W, EnvG W → Lies4 W x G0 → Calls Tryz.prog 21 #[.agg #[.slice x.a 1 x.i, .slice x.b 0 x.j, .slice x.d 2 x.k, .slice x.e 1 x.m]] W fun e w' => e = .returned (.tuple #[.string ⟨#[99, 108, 117, 115, 116, 101, 114, 32, 97, 32, 119, 111, 114, 107, 101, 114, 115, 61, 49, 10, 111, 112, 32, 120, 32, 105, 110, 112, 117, 116, 32, 105, 110, 61, 45, 32, 97, 116, 61, 97, 10, 111, 112, 32, 121, 32, 99, 97, 112, 116, 117, 114, 101, 32, 105, 110, 61, 45, 32, 97, 116, 61, 97, 10, 102, 114, 111, 109, 32, 120, 32, 116, 111, 32, 121, 10]⟩, .int .i64 0]) ∧ Below W.heap.size W w') := Lib.hid fun W hW hL => by
    have h := text_any x G0 FT in0 W hL hW.k hW.e.tab
    rw [textV0, check0] at h
    exact h
  have CK : Hid (∀ W, EnvG W → Lies4 W x G0 → Calls Tryz.prog 23 #[.agg #[.slice x.a 1 x.i, .slice x.b 0 x.j, .slice x.d 2 x.k, .slice x.e 1 x.m]] W fun e w' => e = .returned (.int .i64 0) ∧ Below W.heap.size W w') := Lib.hid fun W hW hL => by
    have h := check_any x G0 FT in0 W hL hW.k
    rw [check0] at h
    exact h
  have FL : Hid (∀ W, EnvG W → Lies4 W x G0 → Calls Tryz.prog 80 #[.agg #[.slice x.a 1 x.i, .slice x.b 0 x.j, .slice x.d 2 x.k, .slice x.e 1 x.m]] W fun e w' => (∃ D c, e = .returned (.slice D 0 c)) ∧ Below W.heap.size W w') := Lib.hid fun W hW hL => by
    have h := flows_any x G0 FT in0 W hL hW.k
    rw [flows0] at h
    exact h.mono fun e w' ⟨D, c, h1, _, h3⟩ => ⟨⟨D, c, h1⟩, h3⟩
  have F5 : Hid (∀ W, EnvG W → Lies4 W x G0 → Calls Tryz.prog 29 #[.agg #[.slice x.a 1 x.i, .slice x.b 0 x.j, .slice x.d 2 x.k, .slice x.e 1 x.m], .int .i64 0, .agg #[.int .u32 5, .int .i64 0, .int .u32 0, .int .u32 0, .int .u32 0]] W fun e w' => e = .returned (.bool true) ∧ Below W.heap.size W w') := Lib.hid fun W hW hL => by
    have h := fits_any x G0 FT in0 0 ⟨5, 0, 0, 0, 0⟩ in5 W hL hW.k
    rw [fits0] at h
    exact h
  have F9 : Hid (∀ W, EnvG W → Lies4 W x G0 → Calls Tryz.prog 29 #[.agg #[.slice x.a 1 x.i, .slice x.b 0 x.j, .slice x.d 2 x.k, .slice x.e 1 x.m], .int .i64 9, .agg #[.int .u32 0, .int .i64 0, .int .u32 0, .int .u32 0, .int .u32 0]] W fun e w' => e = .returned (.bool false) ∧ Below W.heap.size W w') := Lib.hid fun W hW hL => by
    have h := fits_any x G0 FT in0 9 ⟨0, 0, 0, 0, 0⟩ inT0 W hL hW.k
    rw [fits1] at h
    exact h
  clear FT R1
  have B1 := Lib.hid b1
  have W1 := Lib.hid (Whole.fresh w1 27 #[.slice x.a 1 x.i, .slice x.b 0 x.j, .slice x.d 2 x.k, .slice x.e 1 x.m])
  have f1 := fresh1 w1 (.cells #[.slice x.a 1 x.i, .slice x.b 0 x.j, .slice x.d 2 x.k, .slice x.e 1 x.m] 27)
  change Code.wp _ _ _ _ (w1.alloc (.cells #[.slice x.a 1 x.i, .slice x.b 0 x.j, .slice x.d 2 x.k, .slice x.e 1 x.m] 27))
  generalize w1.alloc (.cells #[.slice x.a 1 x.i, .slice x.b 0 x.j, .slice x.d 2 x.k, .slice x.e 1 x.m] 27) = w2 at W1 f1 ⊢
  have B2 := Lib.hid (then_below b1 f1)
  have L2 := Lib.hid (L1.below f1)
  generalize w1.heap.size = gx at W1 ⊢
  clear b1 L1 f1 B1
  have S2 : Hid (∀ W, Below w2.heap.size w2 W → Below w.heap.size w W ∧ EnvG W ∧ Lies4 W x G0 ∧ Whole W gx 27 #[.slice x.a 1 x.i, .slice x.b 0 x.j, .slice x.d 2 x.k, .slice x.e 1 x.m]) := Lib.hid fun W hW => ⟨then_below B2.out hW, E0.out.below (then_below B2.out hW), L2.out.below hW, W1.out.below hW W1.out.inside⟩
  clear B2 L2 W1
  have h2 := S2.out w2 (Below.refl _ _)
  have k0 : w2.cell? ⟨gx, 0, none⟩ = some (.slice x.a 1 x.i) := h2.2.2.2.read 0
  have k1 : w2.cell? ⟨gx, 1, none⟩ = some (.slice x.b 0 x.j) := h2.2.2.2.read 1
  have k2 : w2.cell? ⟨gx, 2, none⟩ = some (.slice x.d 2 x.k) := h2.2.2.2.read 2
  have k3 : w2.cell? ⟨gx, 3, none⟩ = some (.slice x.e 1 x.m) := h2.2.2.2.read 3
  replace h2 := Lib.hid h2
  go_upto_region 3 with (go_at_call 21; refine (TX.out _ h2.out.2.1 h2.out.2.2.1).mono ?_; rintro e w3 ⟨rfl, b3⟩)
  have B3 := Lib.hid b3
  clear k0 k1 k2 k3 h2 b3 TX
  have E3 := Lib.hid (S2.out w3 B3.out).2.1
  go_upto_region 4 with (go_at_call 15; refine (P1.out _ E3.out).mono ?_; rintro e w4 ⟨y, rfl, b4⟩)
  have f4 := fresh1 w4 (.cells #[.slice y.a 0 y.i, .slice y.b 0 y.j, .slice y.d 0 y.k, .slice y.e 0 y.m] 27)
  change Code.wp _ _ _ _ (w4.alloc (.cells #[.slice y.a 0 y.i, .slice y.b 0 y.j, .slice y.d 0 y.k, .slice y.e 0 y.m] 27))
  generalize w4.alloc (.cells #[.slice y.a 0 y.i, .slice y.b 0 y.j, .slice y.d 0 y.k, .slice y.e 0 y.m] 27) = w5 at f4 ⊢
  have B5 := Lib.hid (then_below B3.out (then_below b4 f4))
  clear b4 f4 E3 B3
  have E5 := Lib.hid (S2.out w5 B5.out).2.1
  go_upto_region 5 with (go_at_call 15; refine (P2.out _ E5.out).mono ?_; rintro e w6 ⟨z, rfl, b6⟩)
  have f6 := fresh1 w6 (.cells #[.slice z.a 0 z.i, .slice z.b 0 z.j, .slice z.d 0 z.k, .slice z.e 0 z.m] 27)
  change Code.wp _ _ _ _ (w6.alloc (.cells #[.slice z.a 0 z.i, .slice z.b 0 z.j, .slice z.d 0 z.k, .slice z.e 0 z.m] 27))
  generalize w6.alloc (.cells #[.slice z.a 0 z.i, .slice z.b 0 z.j, .slice z.d 0 z.k, .slice z.e 0 z.m] 27) = w7 at f6 ⊢
  have B7 := Lib.hid (then_below B5.out (then_below b6 f6))
  clear b6 f6 E5 B5
  have h7 := S2.out w7 B7.out
  have k0 : w7.cell? ⟨gx, 0, none⟩ = some (.slice x.a 1 x.i) := h7.2.2.2.read 0
  have k1 : w7.cell? ⟨gx, 1, none⟩ = some (.slice x.b 0 x.j) := h7.2.2.2.read 1
  have k2 : w7.cell? ⟨gx, 2, none⟩ = some (.slice x.d 2 x.k) := h7.2.2.2.read 2
  have k3 : w7.cell? ⟨gx, 3, none⟩ = some (.slice x.e 1 x.m) := h7.2.2.2.read 3
  replace h7 := Lib.hid h7
  have STEP : Hid (∀ W W', Below w2.heap.size w2 W → Below W.heap.size W W' → Below w2.heap.size w2 W') := Lib.hid fun W W' a b => then_below a b
  go_wp2_with (first
    | (go_at_call 29; refine (F9.out _ H9.out.2.1 H9.out.2.2.1).mono ?_; rintro e w11 ⟨rfl, b11⟩; have B11 := Lib.hid (STEP.out _ _ B10.out b11); clear b11)
    | (go_at_call 29; refine (F5.out _ h9.out.2.1 h9.out.2.2.1).mono ?_; rintro e w10 ⟨rfl, b10⟩; have B10 := Lib.hid (STEP.out _ _ B9.out b10); have H9 := Lib.hid (S2.out _ B10.out); have k0 : w10.cell? ⟨gx, 0, none⟩ = some (.slice x.a 1 x.i) := H9.out.2.2.2.read 0; have k1 : w10.cell? ⟨gx, 1, none⟩ = some (.slice x.b 0 x.j) := H9.out.2.2.2.read 1; have k2 : w10.cell? ⟨gx, 2, none⟩ = some (.slice x.d 2 x.k) := H9.out.2.2.2.read 2; have k3 : w10.cell? ⟨gx, 3, none⟩ = some (.slice x.e 1 x.m) := H9.out.2.2.2.read 3; clear b10)
    | (go_at_call 80; refine (FL.out _ h8.out.2.1 h8.out.2.2.1).mono ?_; rintro e w9 ⟨⟨D9, c9, rfl⟩, b9⟩; have B9 := Lib.hid (STEP.out _ _ B8.out b9); have h9 := Lib.hid (S2.out _ B9.out); have k0 : w9.cell? ⟨gx, 0, none⟩ = some (.slice x.a 1 x.i) := h9.out.2.2.2.read 0; have k1 : w9.cell? ⟨gx, 1, none⟩ = some (.slice x.b 0 x.j) := h9.out.2.2.2.read 1; have k2 : w9.cell? ⟨gx, 2, none⟩ = some (.slice x.d 2 x.k) := h9.out.2.2.2.read 2; have k3 : w9.cell? ⟨gx, 3, none⟩ = some (.slice x.e 1 x.m) := h9.out.2.2.2.read 3; clear b9)
    | (go_at_call 23; refine (CK.out _ h7.out.2.1 h7.out.2.2.1).mono ?_; rintro e w8 ⟨rfl, b8⟩; have B8 := Lib.hid (STEP.out _ _ B7.out b8); have h8 := Lib.hid (S2.out _ B8.out); have k0 : w8.cell? ⟨gx, 0, none⟩ = some (.slice x.a 1 x.i) := h8.out.2.2.2.read 0; have k1 : w8.cell? ⟨gx, 1, none⟩ = some (.slice x.b 0 x.j) := h8.out.2.2.2.read 1; have k2 : w8.cell? ⟨gx, 2, none⟩ = some (.slice x.d 2 x.k) := h8.out.2.2.2.read 2; have k3 : w8.cell? ⟨gx, 3, none⟩ = some (.slice x.e 1 x.m) := h8.out.2.2.2.read 3; clear b8))
  go_ret
  exact ⟨rfl, (S2.out _ B11.out).1⟩
end Go.Proofs.YtpblpjopinllcaaGreatDoor.graph
