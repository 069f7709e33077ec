/-
  graph.Fits (by gen_ft.py).
-/
import Derived.Test.YtlbphlhbofjfgaaDoorJGin
import Derived.Test.YtlbphlhbofjfgaaDoorJChk
namespace Go.Proofs.YtlbphlhbofjfgaaDoor.graph
open Go.ChangeShapes Go.WideShapes Go.ChangeAt Go.RowKit
open Go.Proofs.YtlbphlhbofjfgaaDoor.opened Go.Proofs.YtlbphlhbofjfgaaDoor.block Go.Proofs.YtlbphlhbofjfgaaDoor.words
open Go.Proofs.YtlbphlhbofjfgaaDoor.tm Go.Proofs.YtlbphlhbofjfgaaDoor.pa
/-- Are the rounds of a time less than those of its loops, from a loop outwards? -/
def roundsB (L : List Lo) (t : Tm) : Nat → Int → Bool
  | 0, _ => true
  | d + 1, k => match L[k.toNat]? with
    | none => true
    | some x => decide (nth t d < x.r) && roundsB L t d x.u
def fitsB (g : Gr) (p : Int) (t : Tm) : Bool := decide (locE g p = 0) && (decide (chk t = 0) && (decide (t.d = locD g p) && roundsB g.l t (locD g p) (locL g p)))
theorem deep3 {g : Gr} (h : checkE g = 0) (k : Int) (h0 : -1 ≤ k) (h1 : k < g.l.length) : deepL g.l k ≤ 3 := by
  by_cases hk : k < 0
  · rw [deep_neg hk]; omega
  · obtain ⟨i, rfl⟩ : ∃ i : Nat, k = i := ⟨k.toNat, by omega⟩
    have hi : i < g.l.length := by omega
    have z := first_zero (check_parts h).2.2.1 i hi
    unfold loE at z
    rw [List.getElem?_eq_getElem hi] at z
    dsimp only at z
    split at z
    · rename_i n0; exact absurd z n0
    · split at z
      · cases z
      · split at z
        · cases z
        · omega
theorem loc_ok {g : Gr} {p : Int} (h : locE g p = 0) : checkE g = 0 := by
  unfold locE at h
  split at h
  · rename_i k; exact absurd h k
  · rename_i k; omega
/-- Where there is no loop, there is no depth, and else one. -/
theorem deep_zero {L : List Lo} (U : UpOk L L.length) (k : Int) (h0 : -1 ≤ k) (h1 : k < L.length) : deepL L k = 0 ↔ k = -1 := by
  constructor
  · intro h
    refine Classical.byContradiction fun hk => ?_
    obtain ⟨i, rfl⟩ : ∃ i : Nat, k = i := ⟨k.toNat, by omega⟩
    rw [deep_step U (by omega) (List.getElem?_eq_getElem (by omega))] at h
    omega
  · rintro rfl
    exact deep_neg (by omega)
set_option maxRecDepth 100000 in
set_option maxHeartbeats 2000000 in
theorem fits_any (v : Gv) (g : Gr) (F : Fit v g) (I : g.In) (p : Int) (t : Tm) (it : t.In) (w : World) (h : Lies4 w v g) (K : KT w) :
    Calls Tryd.prog 21 #[gV v g, .int .i64 p, .agg #[.int .u32 t.e, .int .i64 t.d, .int .u32 t.a, .int .u32 t.b, .int .u32 t.c]] w fun e w' => e = .returned (.bool (fitsB g p t)) ∧ Below w.heap.size w w' := by
  have SC := fun w1 (h1 : Lies4 w1 v g) (k1 : KT w1) => scope_any v g F I p w1 h1 k1
  have CT := fun w => Go.Proofs.YtlbphlhbofjfgaaDoor.stamp.check_any t it w
  obtain ⟨va, vb, vd, ve, vi, vj, vk, vm⟩ := v
  unfold gV at SC ⊢
  dsimp only at SC ⊢
  obtain ⟨R, hR⟩ : ∃ R, fitsB g p t = R := ⟨_, rfl⟩
  rw [hR]
  unfold fitsB at hR
  have b1 := fresh1 w (.cells #[.slice va g.c.length vi, .slice vb g.l.length vj, .slice vd g.o.length vk, .slice ve g.h.length vm] 34)
  have OX := Whole.fresh w 34 #[.slice va g.c.length vi, .slice vb g.l.length vj, .slice vd g.o.length vk, .slice ve g.h.length vm]
  have hgg := OX.inside
  have H1 := h.below b1
  have K1 := K.below b1
  generalize hw1 : w.alloc (.cells #[.slice va g.c.length vi, .slice vb g.l.length vj, .slice vd g.o.length vk, .slice ve g.h.length vm] 34) = w1 at b1 OX hgg H1 K1
  have b2 := fresh1 w1 (.cells #[.int .u32 t.e, .int .i64 t.d, .int .u32 t.a, .int .u32 t.b, .int .u32 t.c] 51)
  have OT := Whole.fresh w1 51 #[.int .u32 t.e, .int .i64 t.d, .int .u32 t.a, .int .u32 t.b, .int .u32 t.c]
  have B1 := Lib.hid (b1.trans (b2.mono b1.size))
  have OX1 := Lib.hid (OX.below b2 OX.inside)
  have H2 := Lib.hid (H1.below b2)
  have K2 := Lib.hid (K1.below b2)
  clear h H1
  have LRG : Hid (checkE g = 0 → -1 ≤ loopV g (p / 2).toNat (locO p) ∧ loopV g (p / 2).toNat (locO p) < g.l.length) := Lib.hid fun q => loop_range q _ _
  have E0 : Hid (locE g p = 0 → checkE g = 0 ∧ locL g p = loopV g (p / 2).toNat (locO p) ∧ locD g p = deepL g.l (locL g p)) := Lib.hid fun e => ⟨loc_ok e, by unfold locL; rw [if_pos e], by unfold locD locL; rw [if_pos e, if_pos e]⟩
  generalize locE g p = E at SC hR E0
  generalize locL g p = L at SC hR E0
  generalize locD g p = D at SC hR E0
  replace SC := Lib.hid SC
  go_enter Tryd.func21, Tryd.ntmps21
  go_upto_region 1 with fail
  change Code.wp _ _ _ _ (w1.alloc (.cells #[.int .u32 t.e, .int .i64 t.d, .int .u32 t.a, .int .u32 t.b, .int .u32 t.c] 51))
  have hsw : w1.heap.size = w.heap.size + 1 := by rw [← hw1, size_alloc]
  generalize w1.alloc (.cells #[.int .u32 t.e, .int .i64 t.d, .int .u32 t.a, .int .u32 t.b, .int .u32 t.c] 51) = w2 at b2 OT B1 OX1 H2 K2 ⊢
  rw [hsw] at OT ⊢
  obtain ⟨gg, hg⟩ : ∃ gg, w.heap.size = gg := ⟨_, rfl⟩
  rw [hg] at OX1 OT ⊢
  obtain ⟨tt, htt⟩ : ∃ tt, gg + 1 = tt := ⟨_, rfl⟩
  rw [htt] at OT ⊢
  replace OT := Lib.hid OT
  clear hw1 b1 b2 OX hsw hg htt hgg K1 K
  have k := OX1.out.read
  have k0 : w2.cell? ⟨gg, 0, none⟩ = some (.slice va g.c.length vi) := k 0
  have k1 : w2.cell? ⟨gg, 1, none⟩ = some (.slice vb g.l.length vj) := k 1
  have k2 : w2.cell? ⟨gg, 2, none⟩ = some (.slice vd g.o.length vk) := k 2
  have k3 : w2.cell? ⟨gg, 3, none⟩ = some (.slice ve g.h.length vm) := k 3
  clear k
  have hB0 := B1.out.size
  replace SC := Lib.hid (SC.out w2 H2.out K2.out)
  go_upto_region 2 with (go_at_call 16; refine SC.out.mono ?_; rintro e w3 ⟨rfl, b3⟩)
  have OT3 := Lib.hid (OT.out.below b3 OT.out.inside)
  have B3 := Lib.hid (B1.out.trans (b3.mono hB0))
  have H3 := Lib.hid (H2.out.below b3)
  have OX3 := Lib.hid (OX1.out.below b3 OX1.out.inside)
  clear k0 k1 k2 k3 SC b3 OT B1 H2 OX1
  replace hB0 := B3.out.size
  have d0 := OT3.out.read 0
  have d1 := OT3.out.read 1
  have d2 := OT3.out.read 2
  have d3 := OT3.out.read 3
  have d4 := OT3.out.read 4
  by_cases e0 : E = 0
  case neg =>
    obtain rfl : false = R := by rw [← hR, decide_eq_false e0]; rfl
    have ne : (E != 0) = true := by simpa using e0
    clear hR E0 e0
    go_wp2_with fail
    go_ret
    exact ⟨rfl, B3.out⟩
  subst e0
  obtain ⟨q, eL, eD⟩ := E0.out rfl
  obtain ⟨l0, l1⟩ := LRG.out q
  rw [← eL] at l0 l1
  have HU := Lib.hid (up_of (check_parts q).2.2.1)
  have hd3 := deep3 q L l0 l1
  rw [← eD] at hd3
  have eD' := Lib.hid eD
  clear eD
  rw [decide_eq_true rfl, Bool.true_and] at hR
  clear E0 LRG eL q
  obtain ⟨ce, hce⟩ : ∃ ce, chk t = ce := ⟨_, rfl⟩
  rw [hce] at CT hR
  replace CT := Lib.hid CT
  by_cases c0 : ce = 0
  case neg =>
    obtain rfl : false = R := by rw [← hR, decide_eq_false c0]; rfl
    have ne : (ce != 0) = true := by simpa using c0
    clear hR c0 hce
    go_wp2_with (go_at_call 57; refine (CT.out _).mono ?_; rintro e w4 ⟨rfl, b4⟩)
    go_ret
    exact ⟨rfl, B3.out.trans (b4.mono hB0)⟩
  subst c0
  rw [decide_eq_true rfl, Bool.true_and] at hR
  by_cases td : t.d = (D : Int)
  case neg =>
    obtain rfl : false = R := by rw [← hR, decide_eq_false td]; rfl
    have ne : (t.d != (D : Int)) = true := by simpa using td
    clear hR hce td
    go_wp2_with (go_at_call 57; refine (CT.out _).mono ?_; rintro e w4 ⟨rfl, b4⟩; have f1 := (OT3.out.below b4 OT3.out.inside).read 1)
    go_ret
    exact ⟨rfl, B3.out.trans (b4.mono hB0)⟩
  rw [decide_eq_true td, Bool.true_and] at hR
  replace hR := Lib.hid hR
  have TD : (t.d != (D : Int)) = false := by simpa using td
  clear hce td
  go_upto_region 4 with (go_at_call 57; refine (CT.out _).mono ?_; rintro e w4 ⟨rfl, b4⟩; have f1 := (OT3.out.below b4 OT3.out.inside).read 1)
  have OT4 := Lib.hid (OT3.out.below b4 OT3.out.inside)
  have B4 := Lib.hid (B3.out.trans (b4.mono hB0))
  have H4 := Lib.hid (H3.out.below b4)
  have OX4 := Lib.hid (OX3.out.below b4 OX3.out.inside)
  clear d0 d1 d2 d3 d4 f1 CT b4 OT3 B3 H3 OX3 TD
  replace hB0 := B4.out.size
  have k1 : w4.cell? ⟨gg, 1, none⟩ = some (.slice vb g.l.length vj) := OX4.out.read 1
  have IT := Lib.hid it
  clear it
  go_wp2_with fail
  go_loopw [7, 8] (fun a b wr => ∃ (k : Int) (d : Nat), -1 ≤ k ∧ k < g.l.length ∧ d ≤ 3 ∧ a = .int .i64 k ∧ b = .int .i64 d ∧ Hid (deepL g.l k = d) ∧ Hid (roundsB g.l t d k = R) ∧ Hid (Below w4.heap.size w4 wr)) (fun _ b _ => (intOf b).toNat)
  case atStart => exact ⟨L, D, l0, l1, hd3, rfl, rfl, Lib.hid eD'.out.symm, hR, Lib.hid (Below.refl _ _)⟩
  clear k1 hR eD' l0 l1 hd3
  case round =>
    obtain ⟨k, d, k0, kl, hd3, rfl, rfl, HD, HR, Br⟩ := hrel
    have OTr := Lib.hid (OT4.out.below Br.out OT4.out.inside)
    have OXr := Lib.hid (OX4.out.below Br.out OX4.out.inside)
    have Hr := Lib.hid (H4.out.below Br.out)
    have Bx := Lib.hid (B4.out.trans (Br.out.mono hB0))
    cases d with
    | zero =>
      obtain rfl : k = -1 := (deep_zero HU.out k k0 kl).1 HD.out
      obtain rfl : true = R := HR.out
      go_wp2_with fail
      go_ret
      exact ⟨rfl, Bx.out⟩
    | succ d =>
      have hk : k ≠ -1 := fun e => by
        have := (deep_zero HU.out k k0 kl).2 e
        have := HD.out
        omega
      obtain ⟨n, rfl⟩ : ∃ n : Nat, k = n := ⟨k.toNat, by omega⟩
      have hn : n < g.l.length := by omega
      obtain ⟨x, hx⟩ : ∃ x, g.l[n]? = some x := ⟨g.l[n], List.getElem?_eq_getElem hn⟩
      have hux := HU.out n x hn hx
      have HD2 : Hid (deepL g.l x.u = d) := Lib.hid (by have := HD.out; rw [deep_step HU.out hn hx] at this; omega)
      have HR2 : Hid ((decide (nth t d < x.r) && roundsB g.l t d x.u) = R) := Lib.hid (by rw [← HR.out]; show _ = (match g.l[(n : Int).toNat]? with | none => true | some x => decide (nth t d < x.r) && roundsB g.l t d x.u); rw [Int.toNat_natCast, hx])
      obtain ⟨b1, o1, hA, hb1, c0, c1, c2⟩ := at_lo Hr.out.l hx
      change vb = _ at hA
      subst hA
      clear HD HR hx c0
      have hk2 : ((n : Int) == -1) = false := by rw [beq_eq_false_iff_ne]; omega
      have g1 : ∀ y : Since wr, y.1.cell? ⟨gg, 1, none⟩ = some (.slice (some ⟨b1, o1, none⟩) g.l.length vj) := fun y => (OXr.out.below y.2 OXr.out.inside).read 1
      have x2 : ∀ y : Since wr, y.1.cell? ⟨b1, o1 + n * 3 + 2, none⟩ = some (.int .i64 x.r) := fun y => (y.2.cell (p := ⟨b1, o1 + n * 3 + 2, none⟩) hb1).trans c2
      clear c2
      have T2 : ∀ y : Since wr, y.1.cell? ⟨tt, 2, none⟩ = some (.int .u32 t.a) := fun y => (OTr.out.below y.2 OTr.out.inside).read 2
      have T3 : ∀ y : Since wr, y.1.cell? ⟨tt, 3, none⟩ = some (.int .u32 t.b) := fun y => (OTr.out.below y.2 OTr.out.inside).read 3
      have T4 : ∀ y : Since wr, y.1.cell? ⟨tt, 4, none⟩ = some (.int .u32 t.c) := fun y => (OTr.out.below y.2 OTr.out.inside).read 4
      have it := IT.out
      obtain ⟨-, -, -, -, ha0, ha1, hb0', hb1', hc0, hc1⟩ := it
      have hd2 : d = 0 ∨ d = 1 ∨ d = 2 := by omega
      rcases hd2 with rfl | rfl | rfl
      · have HN : Hid ((decide (t.a < x.r) && roundsB g.l t 0 x.u) = R) := HR2
        clear HR2
        have wa : IntKind.i64.wrap t.a = t.a := by rw [IntKind.wrap_i64]; omega
        by_cases cr : t.a < x.r
        · have HN2 : Hid (roundsB g.l t 0 x.u = R) := Lib.hid (by have := HN.out; rwa [decide_eq_true cr, Bool.true_and] at this)
          have cr' : ¬ x.r ≤ t.a := by omega
          clear HN cr
          go_upto_region 7 with fail
          refine region_since wr (by kernel_rfl) (by kernel_rfl) (Below.refl _ _) ?_
          repeat (go_big_quiet_step (fail))
          refine wpQuiet_nil ?_
          rintro w6 ⟨y, hw⟩
          have b6 : Below wr.heap.size wr w6 := hw ▸ y.2
          clear hw y x2 T2 T3 T4 g1 wa cr'
          have g1 : w6.cell? ⟨gg, 1, none⟩ = some (.slice (some ⟨b1, o1, none⟩) g.l.length vj) := (OXr.out.below b6 OXr.out.inside).read 1
          have u1 : w6.cell? ⟨b1, o1 + n * 3 + 1, none⟩ = some (.int .i64 x.u) := (b6.cell (p := ⟨b1, o1 + n * 3 + 1, none⟩) hb1).trans c1
          go_wp2_with fail
          go_roundw
          case rel => exact ⟨x.u, 0, hux.1, by omega, by omega, rfl, by go_num, HD2, HN2, Lib.hid (Br.out.trans (b6.mono Br.out.size))⟩
          case measure => simp [intOf]
        · obtain rfl : false = R := by rw [← HN.out, decide_eq_false cr]; rfl
          have cr' : x.r ≤ t.a := by omega
          clear HN cr
          go_upto_region 7 with fail
          refine region_since wr (by kernel_rfl) (by kernel_rfl) (Below.refl _ _) ?_
          repeat (go_big_quiet_step (fail))
          refine wpQuiet_nil ?_
          rintro w6 ⟨y, hw⟩
          have b6 : Below wr.heap.size wr w6 := hw ▸ y.2
          clear hw y x2 T2 T3 T4 g1 wa cr'
          go_wp2_with fail
          go_ret
          exact ⟨rfl, Bx.out.trans (b6.mono Bx.out.size)⟩
      · have HN : Hid ((decide (t.b < x.r) && roundsB g.l t 1 x.u) = R) := HR2
        clear HR2
        have wa : IntKind.i64.wrap t.b = t.b := by rw [IntKind.wrap_i64]; omega
        by_cases cr : t.b < x.r
        · have HN2 : Hid (roundsB g.l t 1 x.u = R) := Lib.hid (by have := HN.out; rwa [decide_eq_true cr, Bool.true_and] at this)
          have cr' : ¬ x.r ≤ t.b := by omega
          clear HN cr
          go_upto_region 7 with fail
          refine region_since wr (by kernel_rfl) (by kernel_rfl) (Below.refl _ _) ?_
          repeat (go_big_quiet_step (fail))
          refine wpQuiet_nil ?_
          rintro w6 ⟨y, hw⟩
          have b6 : Below wr.heap.size wr w6 := hw ▸ y.2
          clear hw y x2 T2 T3 T4 g1 wa cr'
          have g1 : w6.cell? ⟨gg, 1, none⟩ = some (.slice (some ⟨b1, o1, none⟩) g.l.length vj) := (OXr.out.below b6 OXr.out.inside).read 1
          have u1 : w6.cell? ⟨b1, o1 + n * 3 + 1, none⟩ = some (.int .i64 x.u) := (b6.cell (p := ⟨b1, o1 + n * 3 + 1, none⟩) hb1).trans c1
          go_wp2_with fail
          go_roundw
          case rel => exact ⟨x.u, 1, hux.1, by omega, by omega, rfl, by go_num, HD2, HN2, Lib.hid (Br.out.trans (b6.mono Br.out.size))⟩
          case measure => simp [intOf]
        · obtain rfl : false = R := by rw [← HN.out, decide_eq_false cr]; rfl
          have cr' : x.r ≤ t.b := by omega
          clear HN cr
          go_upto_region 7 with fail
          refine region_since wr (by kernel_rfl) (by kernel_rfl) (Below.refl _ _) ?_
          repeat (go_big_quiet_step (fail))
          refine wpQuiet_nil ?_
          rintro w6 ⟨y, hw⟩
          have b6 : Below wr.heap.size wr w6 := hw ▸ y.2
          clear hw y x2 T2 T3 T4 g1 wa cr'
          go_wp2_with fail
          go_ret
          exact ⟨rfl, Bx.out.trans (b6.mono Bx.out.size)⟩
      · have HN : Hid ((decide (t.c < x.r) && roundsB g.l t 2 x.u) = R) := HR2
        clear HR2
        have wa : IntKind.i64.wrap t.c = t.c := by rw [IntKind.wrap_i64]; omega
        by_cases cr : t.c < x.r
        · have HN2 : Hid (roundsB g.l t 2 x.u = R) := Lib.hid (by have := HN.out; rwa [decide_eq_true cr, Bool.true_and] at this)
          have cr' : ¬ x.r ≤ t.c := by omega
          clear HN cr
          go_upto_region 7 with fail
          refine region_since wr (by kernel_rfl) (by kernel_rfl) (Below.refl _ _) ?_
          repeat (go_big_quiet_step (fail))
          refine wpQuiet_nil ?_
          rintro w6 ⟨y, hw⟩
          have b6 : Below wr.heap.size wr w6 := hw ▸ y.2
          clear hw y x2 T2 T3 T4 g1 wa cr'
          have g1 : w6.cell? ⟨gg, 1, none⟩ = some (.slice (some ⟨b1, o1, none⟩) g.l.length vj) := (OXr.out.below b6 OXr.out.inside).read 1
          have u1 : w6.cell? ⟨b1, o1 + n * 3 + 1, none⟩ = some (.int .i64 x.u) := (b6.cell (p := ⟨b1, o1 + n * 3 + 1, none⟩) hb1).trans c1
          go_wp2_with fail
          go_roundw
          case rel => exact ⟨x.u, 2, hux.1, by omega, by omega, rfl, by go_num, HD2, HN2, Lib.hid (Br.out.trans (b6.mono Br.out.size))⟩
          case measure => simp [intOf]
        · obtain rfl : false = R := by rw [← HN.out, decide_eq_false cr]; rfl
          have cr' : x.r ≤ t.c := by omega
          clear HN cr
          go_upto_region 7 with fail
          refine region_since wr (by kernel_rfl) (by kernel_rfl) (Below.refl _ _) ?_
          repeat (go_big_quiet_step (fail))
          refine wpQuiet_nil ?_
          rintro w6 ⟨y, hw⟩
          have b6 : Below wr.heap.size wr w6 := hw ▸ y.2
          clear hw y x2 T2 T3 T4 g1 wa cr'
          go_wp2_with fail
          go_ret
          exact ⟨rfl, Bx.out.trans (b6.mono Bx.out.size)⟩
end Go.Proofs.YtlbphlhbofjfgaaDoor.graph
