/-
  The contract of watershedref04.Compare, at any two times.
  The contract of watershedref06.Make.
  The contract of watershedref06.Make, at any list.
-/
import Derived.Test.YtomekndinopoaaaJCmpL
import Derived.Test.YtomekndinopoaaaJNm
import Derived.Test.YtomekndinopoaaaJOw
import Derived.WalkMore
import Derived.Deep.CutBlock
import Derived.Test.YtomekndinopoaaaJFr
namespace Go.Proofs.Ytomekndinopoaaa.stamp
open Go.ChangeShapes Go.WideShapes Go.ChangeAt Go.RowKit
open Go.Proofs.Ytomekndinopoaaa.tm Go.Proofs.Ytomekndinopoaaa.opened Go.Proofs.Ytomekndinopoaaa.block

theorem order_any (x y : Int) (w : World) : Calls Try.prog 66 #[.int .u32 x, .int .u32 y] w fun e w' => e = .returned (.int .i64 (cmpI x y)) ∧ w = w' := by
  by_cases h : x < y
  · rw [cmpI_lt h]
    go_enter Try.func66, Try.ntmps66
    go_wp2
    go_ret
    exact ⟨rfl, rfl⟩
  · by_cases k : y < x
    · rw [cmpI_gt k]
      go_enter Try.func66, Try.ntmps66
      go_wp2
      go_ret
      exact ⟨rfl, rfl⟩
    · obtain rfl : x = y := by omega
      rw [cmpI_self]
      clear h k
      go_enter Try.func66, Try.ntmps66
      go_wp2
      go_ret
      exact ⟨rfl, rfl⟩
theorem still_at {P : Program} {f : FuncId} {args : Array Value} {w : World} {a n : Nat} {v : Value} (h : ∀ W : World, Calls P f args W fun e w' => e = .returned v ∧ W = w') :
    Calls P f args (w.drewN (a + n)) fun e w' => e = .returned v ∧ ∃ m, w' = w.drewN (a + m) := (h _).mono fun _ _ ⟨he, hm⟩ => ⟨he, n, hm.symm⟩
theorem compareR_lt (s t : Tm) (_i : s.In) (_j : t.In) (h : s.d < t.d) (w : World) : Calls Try.prog 38 #[.agg #[.int .u32 s.e, .int .i64 s.d, .int .u32 s.a, .int .u32 s.b, .int .u32 s.c], .agg #[.int .u32 t.e, .int .i64 t.d, .int .u32 t.a, .int .u32 t.b, .int .u32 t.c]] w fun e w' => e = .returned (.int .i64 (-1)) ∧ Below w.heap.size w w' := by
  go_enter Try.func38, Try.ntmps38
  go_wp2
  go_ret
  exact ⟨rfl, fresh2 _ _ _⟩
theorem compareR_gt (s t : Tm) (_i : s.In) (_j : t.In) (h : t.d < s.d) (w : World) : Calls Try.prog 38 #[.agg #[.int .u32 s.e, .int .i64 s.d, .int .u32 s.a, .int .u32 s.b, .int .u32 s.c], .agg #[.int .u32 t.e, .int .i64 t.d, .int .u32 t.a, .int .u32 t.b, .int .u32 t.c]] w fun e w' => e = .returned (.int .i64 1) ∧ Below w.heap.size w w' := by
  go_enter Try.func38, Try.ntmps38
  go_wp2
  go_ret
  exact ⟨rfl, fresh2 _ _ _⟩
theorem compareR_e (s t : Tm) (_i : s.In) (_j : t.In) (h : s.d = t.d) (he : s.e ≠ t.e) (w : World) : Calls Try.prog 38 #[.agg #[.int .u32 s.e, .int .i64 s.d, .int .u32 s.a, .int .u32 s.b, .int .u32 s.c], .agg #[.int .u32 t.e, .int .i64 t.d, .int .u32 t.a, .int .u32 t.b, .int .u32 t.c]] w fun e w' => e = .returned (.int .i64 (cmpI s.e t.e)) ∧ Below w.heap.size w w' := by
  obtain ⟨se, sd, sa, sb, sc⟩ := s
  obtain ⟨te, td, ta, tb, tc⟩ := t
  dsimp only at *
  subst h
  have he' : (se != te) = true := by simpa using he
  clear he
  go_enter Try.func38, Try.ntmps38
  go_wp2_with (go_at_call 66; refine (order_any _ _ _).mono ?_; rintro e w' ⟨rfl, rfl⟩)
  go_ret
  exact ⟨rfl, fresh2 _ _ _⟩
theorem compareR_a (s t : Tm) (_i : s.In) (_j : t.In) (h : s.d = t.d) (he : s.e = t.e) (ha : s.a ≠ t.a) (w : World) : Calls Try.prog 38 #[.agg #[.int .u32 s.e, .int .i64 s.d, .int .u32 s.a, .int .u32 s.b, .int .u32 s.c], .agg #[.int .u32 t.e, .int .i64 t.d, .int .u32 t.a, .int .u32 t.b, .int .u32 t.c]] w fun e w' => e = .returned (.int .i64 (cmpI s.a t.a)) ∧ Below w.heap.size w w' := by
  obtain ⟨se, sd, sa, sb, sc⟩ := s
  obtain ⟨te, td, ta, tb, tc⟩ := t
  dsimp only at *
  subst h he
  have ha' : (sa != ta) = true := by simpa using ha
  clear ha
  go_enter Try.func38, Try.ntmps38
  go_wp2
  refine wp_loop_rounds 4 ?_
  rw [rounds_succ]
  go_wp2
  go_quiet (fail)
  go_wp2
  go_quiet ((go_at_call 66; exact still_at (order_any _ _)))
  go_wp2
  go_ret
  exact ⟨rfl, by repeat (first | exact fresh2 _ _ _ | apply below_drewN)⟩
theorem compareR_b (s t : Tm) (_i : s.In) (_j : t.In) (h : s.d = t.d) (he : s.e = t.e) (ha : s.a = t.a) (hb : s.b ≠ t.b) (w : World) : Calls Try.prog 38 #[.agg #[.int .u32 s.e, .int .i64 s.d, .int .u32 s.a, .int .u32 s.b, .int .u32 s.c], .agg #[.int .u32 t.e, .int .i64 t.d, .int .u32 t.a, .int .u32 t.b, .int .u32 t.c]] w fun e w' => e = .returned (.int .i64 (cmpI s.b t.b)) ∧ Below w.heap.size w w' := by
  obtain ⟨se, sd, sa, sb, sc⟩ := s
  obtain ⟨te, td, ta, tb, tc⟩ := t
  dsimp only at *
  subst h he
  subst ha
  have hb' : (sb != tb) = true := by simpa using hb
  clear hb
  go_enter Try.func38, Try.ntmps38
  go_wp2
  refine wp_loop_rounds 4 ?_
  rw [rounds_succ]
  go_wp2
  go_quiet (fail)
  go_wp2
  rw [rounds_succ]
  go_wp2
  go_quiet (fail)
  go_wp2
  go_quiet ((go_at_call 66; exact still_at (order_any _ _)))
  go_wp2
  go_ret
  exact ⟨rfl, by repeat (first | exact fresh2 _ _ _ | apply below_drewN)⟩
theorem compareR_c (s t : Tm) (_i : s.In) (_j : t.In) (h : s.d = t.d) (he : s.e = t.e) (ha : s.a = t.a) (hb : s.b = t.b) (hc : s.c ≠ t.c) (w : World) : Calls Try.prog 38 #[.agg #[.int .u32 s.e, .int .i64 s.d, .int .u32 s.a, .int .u32 s.b, .int .u32 s.c], .agg #[.int .u32 t.e, .int .i64 t.d, .int .u32 t.a, .int .u32 t.b, .int .u32 t.c]] w fun e w' => e = .returned (.int .i64 (cmpI s.c t.c)) ∧ Below w.heap.size w w' := by
  obtain ⟨se, sd, sa, sb, sc⟩ := s
  obtain ⟨te, td, ta, tb, tc⟩ := t
  dsimp only at *
  subst h he
  subst ha hb
  have hc' : (sc != tc) = true := by simpa using hc
  clear hc
  go_enter Try.func38, Try.ntmps38
  go_wp2
  refine wp_loop_rounds 4 ?_
  rw [rounds_succ]
  go_wp2
  go_quiet (fail)
  go_wp2
  rw [rounds_succ]
  go_wp2
  go_quiet (fail)
  go_wp2
  rw [rounds_succ]
  go_wp2
  go_quiet (fail)
  go_wp2
  go_quiet ((go_at_call 66; exact still_at (order_any _ _)))
  go_wp2
  go_ret
  exact ⟨rfl, by repeat (first | exact fresh2 _ _ _ | apply below_drewN)⟩
theorem compareR_o (s t : Tm) (_i : s.In) (_j : t.In) (h : s.d = t.d) (he : s.e = t.e) (ha : s.a = t.a) (hb : s.b = t.b) (hc : s.c = t.c) (w : World) : Calls Try.prog 38 #[.agg #[.int .u32 s.e, .int .i64 s.d, .int .u32 s.a, .int .u32 s.b, .int .u32 s.c], .agg #[.int .u32 t.e, .int .i64 t.d, .int .u32 t.a, .int .u32 t.b, .int .u32 t.c]] w fun e w' => e = .returned (.int .i64 (0)) ∧ Below w.heap.size w w' := by
  obtain ⟨se, sd, sa, sb, sc⟩ := s
  obtain ⟨te, td, ta, tb, tc⟩ := t
  dsimp only at *
  subst h he
  subst ha hb hc
  go_enter Try.func38, Try.ntmps38
  go_wp2
  refine wp_loop_rounds 4 ?_
  rw [rounds_succ]
  go_wp2
  go_quiet (fail)
  go_wp2
  rw [rounds_succ]
  go_wp2
  go_quiet (fail)
  go_wp2
  rw [rounds_succ]
  go_wp2
  go_quiet (fail)
  go_wp2
  rw [rounds_succ]
  go_wp2
  go_ret
  exact ⟨rfl, by repeat (first | exact fresh2 _ _ _ | apply below_drewN)⟩
theorem compareR_any (s t : Tm) (i : s.In) (j : t.In) (w : World) : Calls Try.prog 38 #[.agg #[.int .u32 s.e, .int .i64 s.d, .int .u32 s.a, .int .u32 s.b, .int .u32 s.c], .agg #[.int .u32 t.e, .int .i64 t.d, .int .u32 t.a, .int .u32 t.b, .int .u32 t.c]] w fun e w' => e = .returned (.int .i64 (cmpT s t)) ∧ Below w.heap.size w w' := by
  by_cases h1 : s.d < t.d
  · rw [show cmpT s t = -1 by simp [cmpT, cmpI_lt h1, orI]]
    exact compareR_lt s t i j h1 w
  · by_cases h2 : t.d < s.d
    · rw [show cmpT s t = 1 by simp [cmpT, cmpI_gt h2, orI]]
      exact compareR_gt s t i j h2 w
    · have h : s.d = t.d := by omega
      by_cases he : s.e = t.e
      · by_cases ha : s.a = t.a
        · by_cases hb : s.b = t.b
          · by_cases hc : s.c = t.c
            · rw [show cmpT s t = 0 by simp [cmpT, h, he, ha, hb, hc, cmpI_self, orI]]
              exact compareR_o s t i j h he ha hb hc w
            · rw [show cmpT s t = cmpI s.c t.c by simp [cmpT, h, he, ha, hb, cmpI_self, orI]]
              exact compareR_c s t i j h he ha hb hc w
          · rw [show cmpT s t = cmpI s.b t.b by simp [cmpT, h, he, ha, cmpI_self, cmpI_ne hb, orI]]
            exact compareR_b s t i j h he ha hb w
        · rw [show cmpT s t = cmpI s.a t.a by simp [cmpT, h, he, cmpI_self, cmpI_ne ha, orI]]
          exact compareR_a s t i j h he ha w
      · rw [show cmpT s t = cmpI s.e t.e by simp [cmpT, h, cmpI_self, cmpI_ne he, orI]]
        exact compareR_e s t i j h he w
end Go.Proofs.Ytomekndinopoaaa.stamp
namespace Go.Proofs.Ytomekndinopoaaa.chain
open Go.ChangeShapes Go.WideShapes Go.ChangeAt Go.RowKit
open Go.Proofs.Ytomekndinopoaaa.tm Go.Proofs.Ytomekndinopoaaa.opened Go.Proofs.Ytomekndinopoaaa.block Go.Proofs.Ytomekndinopoaaa.stamp

def IsGood (b : Bool) (L : List Tm) (i : Nat) (x : Tm) (k : Nat) : Prop := b = true ↔ Good L i x k
theorem good_step {L : List Tm} {i k : Nat} {x y : Tm} {b : Bool} (hk : L[k]? = some y) (h : IsGood b L i x k) : IsGood (b && good i x k y) L i x (k + 1) := by
  unfold IsGood at *
  rw [Bool.and_eq_true, h]
  constructor
  · rintro ⟨h1, h2⟩ j z hj hz
    by_cases e : j = k
    · subst e; rw [hk] at hz; rw [← Option.some.inj hz]; exact h2
    · exact h1 j z (by omega) hz
  · intro h1
    exact ⟨fun j z hj hz => h1 j z (by omega) hz, h1 k y (by omega) hk⟩
theorem isgood_gall {b : Bool} {L : List Tm} {i : Nat} {x : Tm} (h : IsGood b L i x L.length) : gall L i x = b := bool_ext ((gall_iff L i x).trans (Iff.symm h))
theorem ref_end {L N : List Tm} (hl : ¬ 4096 < L.length) (ht : timesE L = 0) (hN : refF L L.length = N) : (64 < N.length → refE L = 7 ∧ refV L = []) ∧ (¬ 64 < N.length → refE L = 0 ∧ refV L = N) := by
  have hn : ¬ timesE L ≠ 0 := fun q => q ht
  have e : refE L = if 64 < N.length then 7 else 0 := by unfold refE; rw [if_neg hl, if_neg hn, hN]
  constructor
  · intro h
    rw [if_pos h] at e
    exact ⟨e, by unfold refV; rw [if_neg (by rw [e]; decide)]⟩
  · intro h
    rw [if_neg h] at e
    exact ⟨e, by unfold refV; rw [if_pos e, hN]⟩
theorem ref_bad {L : List Tm} (hl : ¬ 4096 < L.length) (ht : timesE L ≠ 0) : refE L = timesE L ∧ refV L = [] := by
  have e : refE L = timesE L := by unfold refE; rw [if_neg hl, if_pos ht]
  exact ⟨e, by unfold refV; rw [if_neg (by rw [e]; exact ht)]⟩
theorem ref_long {L : List Tm} (hl : 4096 < L.length) : refE L = 7 ∧ refV L = [] := by
  have e : refE L = 7 := by unfold refE; rw [if_pos hl]
  exact ⟨e, by unfold refV; rw [if_neg (by rw [e]; decide)]⟩
set_option maxRecDepth 100000 in
set_option maxHeartbeats 4000000 in
theorem makeR_ok (A : Option Addr) (c : Nat) (L : List Tm) (iL : InL L) (mL : L.length ≤ 4096) (ht : timesE L = 0) (w : World) (hL : Lt w A L) :
    Calls Try.prog 68 #[.slice A L.length c] w fun e W' => ∃ B c', e = .returned (.tuple #[.slice B (refV L).length c', .int .i64 (refE L)]) ∧ Lt W' B (refV L) ∧ Below w.heap.size w W' := by
  have RE := Lib.hid (fun N => ref_end (N := N) (by omega : ¬ 4096 < L.length) ht)
  have HL := Lib.hid hL
  have CT := Lib.hid (timesR_any A c L iL (by omega))
  rw [ht] at CT
  clear hL ht
  go_enter Try.func68, Try.ntmps68
  go_wp2_with fail
  refine (CT.out _ HL.out).mono ?_
  rintro e w1 ⟨rfl, b1⟩
  have HL1 := Lib.hid (HL.out.below b1)
  go_wp2_with fail
  go_loopw [5, 6] (fun o s wr => ∃ (i : Nat) (N : List Tm) (B : Option Addr) (c' : Nat), i ≤ L.length ∧ o = .slice B N.length c' ∧ s = .int .i64 i ∧ Hid (OwnT wr w1.heap.size (.slice B N.length c') N) ∧ Hid (refF L i = N) ∧ Below w1.heap.size w1 wr) (fun _ s _ => L.length - (intOf s).toNat)
  case atStart => exact ⟨0, [], none, 0, Nat.zero_le _, rfl, rfl, Lib.hid (World.ownsRow_nil _ _ _ _), Lib.hid rfl, Below.refl _ _⟩
  case round =>
    obtain ⟨i, N, B, c', hi, rfl, rfl, HO, HR, hb0⟩ := hrel
    rename World => W1
    by_cases hlt : i < L.length
    · obtain ⟨x, hx, hm⟩ := get_lt hlt
      have HX := Lib.hid hx
      have ix := Lib.hid (iL x hm)
      clear hx hm
      go_wp2_with fail
      go_loopw [7, 8] (fun ls s w2 => ∃ (k : Nat) (b : Bool), k ≤ L.length ∧ ls = .bool b ∧ s = .int .i64 k ∧ Hid (IsGood b L i x k) ∧ Below W1.heap.size W1 w2) (fun _ s _ => L.length - (intOf s).toNat)
      case atStart => exact ⟨0, true, Nat.zero_le _, rfl, rfl, Lib.hid (by simp [IsGood, Good]), Below.refl _ _⟩
      case round =>
        obtain ⟨k, b, hk, rfl, rfl, HG, b2⟩ := hrel
        by_cases hlk : k < L.length
        · obtain ⟨y, hy, hm⟩ := get_lt hlk
          have HB := (hb0.trans (b2.mono hb0.size))
          obtain ⟨b1', o1, hA, hb1, c0, c1, c2, c3, c4⟩ := (HL1.out.below HB).at hy
          obtain ⟨b2', o2, hA2, hb2, d0, d1, d2, d3, d4⟩ := (HL1.out.below HB).at HX.out
          subst hA
          injection (Option.some.inj hA2) with e1 e2
          subst e1 e2
          clear hA2
          have HY := Lib.hid hy
          have LE := Lib.hid (leR_any y x (iL y hm) ix.out)
          clear hy hm
          cases b
          · go_wp2_with fail
            have s0 : ∀ z : Since wr, z.1.cell? ⟨b1', o1 + k * 5, none⟩ = some (.int .u32 y.e) := fun z => (z.2.cell hb1).trans c0
            have s1 : ∀ z : Since wr, z.1.cell? ⟨b1', o1 + k * 5 + 1, none⟩ = some (.int .i64 y.d) := fun z => (z.2.cell hb1).trans c1
            have s2 : ∀ z : Since wr, z.1.cell? ⟨b1', o1 + k * 5 + 2, none⟩ = some (.int .u32 y.a) := fun z => (z.2.cell hb1).trans c2
            have s3 : ∀ z : Since wr, z.1.cell? ⟨b1', o1 + k * 5 + 3, none⟩ = some (.int .u32 y.b) := fun z => (z.2.cell hb1).trans c3
            have s4 : ∀ z : Since wr, z.1.cell? ⟨b1', o1 + k * 5 + 4, none⟩ = some (.int .u32 y.c) := fun z => (z.2.cell hb1).trans c4
            have t0 : ∀ z : Since wr, z.1.cell? ⟨b1', o1 + i * 5, none⟩ = some (.int .u32 x.e) := fun z => (z.2.cell hb2).trans d0
            have t1 : ∀ z : Since wr, z.1.cell? ⟨b1', o1 + i * 5 + 1, none⟩ = some (.int .i64 x.d) := fun z => (z.2.cell hb2).trans d1
            have t2 : ∀ z : Since wr, z.1.cell? ⟨b1', o1 + i * 5 + 2, none⟩ = some (.int .u32 x.a) := fun z => (z.2.cell hb2).trans d2
            have t3 : ∀ z : Since wr, z.1.cell? ⟨b1', o1 + i * 5 + 3, none⟩ = some (.int .u32 x.b) := fun z => (z.2.cell hb2).trans d3
            have t4 : ∀ z : Since wr, z.1.cell? ⟨b1', o1 + i * 5 + 4, none⟩ = some (.int .u32 x.c) := fun z => (z.2.cell hb2).trans d4
            clear c0 c1 c2 c3 c4 d0 d1 d2 d3 d4
            refine region_since wr (by kernel_rfl) (by kernel_rfl) (Below.refl _ _) ?_
            repeat (go_big_quiet_step (fail))
            refine wpQuiet_nil ?_
            rintro w4 ⟨z, hw⟩
            have B4 : Below W1.heap.size W1 w4 := b2.trans ((hw ▸ z.2 : Below wr.heap.size wr w4).mono b2.size)
            clear hw z s0 s1 s2 s3 s4 t0 t1 t2 t3 t4 b2 HB
            go_wp2_with fail
            go_roundw
            case rel => exact ⟨k + 1, false, by omega, by first | rfl | simp, by go_num, Lib.hid (by have := good_step HY.out HG.out; rwa [Bool.false_and] at this), B4⟩
            case measure => simp [intOf]; omega
          · by_cases hyx : y = x
            · have eq1 : ∀ w, (binOp .eql 33 (.agg #[.int .u32 y.e, .int .i64 y.d, .int .u32 y.a, .int .u32 y.b, .int .u32 y.c]) (.agg #[.int .u32 x.e, .int .i64 x.d, .int .u32 x.a, .int .u32 x.b, .int .u32 x.c])).run Try.prog w = .ok (.bool true) w := by intro w; rw [run_eqT, hyx, eqT_self]
              have ne1 : ∀ w, (binOp .neq 33 (.agg #[.int .u32 y.e, .int .i64 y.d, .int .u32 y.a, .int .u32 y.b, .int .u32 y.c]) (.agg #[.int .u32 x.e, .int .i64 x.d, .int .u32 x.a, .int .u32 x.b, .int .u32 x.c])).run Try.prog w = .ok (.bool false) w := by intro w; rw [run_neT, hyx, eqT_self]; rfl
              have HYX := Lib.hid hyx
              clear hyx
              by_cases hik : i ≤ k
              · have hik2 : (i : Int) ≤ (k : Int) := by omega
                have g1 : (true && good i x k y) = true := by unfold good; rw [if_pos HYX.out]; simpa using hik
                have g1 := Lib.hid g1
                go_wp2_with fail
                have s0 : ∀ z : Since wr, z.1.cell? ⟨b1', o1 + k * 5, none⟩ = some (.int .u32 y.e) := fun z => (z.2.cell hb1).trans c0
                have s1 : ∀ z : Since wr, z.1.cell? ⟨b1', o1 + k * 5 + 1, none⟩ = some (.int .i64 y.d) := fun z => (z.2.cell hb1).trans c1
                have s2 : ∀ z : Since wr, z.1.cell? ⟨b1', o1 + k * 5 + 2, none⟩ = some (.int .u32 y.a) := fun z => (z.2.cell hb1).trans c2
                have s3 : ∀ z : Since wr, z.1.cell? ⟨b1', o1 + k * 5 + 3, none⟩ = some (.int .u32 y.b) := fun z => (z.2.cell hb1).trans c3
                have s4 : ∀ z : Since wr, z.1.cell? ⟨b1', o1 + k * 5 + 4, none⟩ = some (.int .u32 y.c) := fun z => (z.2.cell hb1).trans c4
                have t0 : ∀ z : Since wr, z.1.cell? ⟨b1', o1 + i * 5, none⟩ = some (.int .u32 x.e) := fun z => (z.2.cell hb2).trans d0
                have t1 : ∀ z : Since wr, z.1.cell? ⟨b1', o1 + i * 5 + 1, none⟩ = some (.int .i64 x.d) := fun z => (z.2.cell hb2).trans d1
                have t2 : ∀ z : Since wr, z.1.cell? ⟨b1', o1 + i * 5 + 2, none⟩ = some (.int .u32 x.a) := fun z => (z.2.cell hb2).trans d2
                have t3 : ∀ z : Since wr, z.1.cell? ⟨b1', o1 + i * 5 + 3, none⟩ = some (.int .u32 x.b) := fun z => (z.2.cell hb2).trans d3
                have t4 : ∀ z : Since wr, z.1.cell? ⟨b1', o1 + i * 5 + 4, none⟩ = some (.int .u32 x.c) := fun z => (z.2.cell hb2).trans d4
                clear c0 c1 c2 c3 c4 d0 d1 d2 d3 d4
                refine region_since wr (by kernel_rfl) (by kernel_rfl) (Below.refl _ _) ?_
                repeat (go_big_quiet_step (fail))
                refine wpQuiet_nil ?_
                rintro w4 ⟨z, hw⟩
                have B4 : Below W1.heap.size W1 w4 := b2.trans ((hw ▸ z.2 : Below wr.heap.size wr w4).mono b2.size)
                clear hw z s0 s1 s2 s3 s4 t0 t1 t2 t3 t4 b2 HB
                go_wp2_with fail
                go_roundw
                case rel => exact ⟨k + 1, true, by omega, by first | rfl | simp, by go_num, Lib.hid (by have := good_step HY.out HG.out; rwa [g1.out] at this), B4⟩
                case measure => simp [intOf]; omega
              · have hik2 : (k : Int) < (i : Int) := by omega
                have g1 : (true && good i x k y) = false := by unfold good; rw [if_pos HYX.out]; simpa using hik
                have g1 := Lib.hid g1
                go_wp2_with fail
                have s0 : ∀ z : Since wr, z.1.cell? ⟨b1', o1 + k * 5, none⟩ = some (.int .u32 y.e) := fun z => (z.2.cell hb1).trans c0
                have s1 : ∀ z : Since wr, z.1.cell? ⟨b1', o1 + k * 5 + 1, none⟩ = some (.int .i64 y.d) := fun z => (z.2.cell hb1).trans c1
                have s2 : ∀ z : Since wr, z.1.cell? ⟨b1', o1 + k * 5 + 2, none⟩ = some (.int .u32 y.a) := fun z => (z.2.cell hb1).trans c2
                have s3 : ∀ z : Since wr, z.1.cell? ⟨b1', o1 + k * 5 + 3, none⟩ = some (.int .u32 y.b) := fun z => (z.2.cell hb1).trans c3
                have s4 : ∀ z : Since wr, z.1.cell? ⟨b1', o1 + k * 5 + 4, none⟩ = some (.int .u32 y.c) := fun z => (z.2.cell hb1).trans c4
                have t0 : ∀ z : Since wr, z.1.cell? ⟨b1', o1 + i * 5, none⟩ = some (.int .u32 x.e) := fun z => (z.2.cell hb2).trans d0
                have t1 : ∀ z : Since wr, z.1.cell? ⟨b1', o1 + i * 5 + 1, none⟩ = some (.int .i64 x.d) := fun z => (z.2.cell hb2).trans d1
                have t2 : ∀ z : Since wr, z.1.cell? ⟨b1', o1 + i * 5 + 2, none⟩ = some (.int .u32 x.a) := fun z => (z.2.cell hb2).trans d2
                have t3 : ∀ z : Since wr, z.1.cell? ⟨b1', o1 + i * 5 + 3, none⟩ = some (.int .u32 x.b) := fun z => (z.2.cell hb2).trans d3
                have t4 : ∀ z : Since wr, z.1.cell? ⟨b1', o1 + i * 5 + 4, none⟩ = some (.int .u32 x.c) := fun z => (z.2.cell hb2).trans d4
                clear c0 c1 c2 c3 c4 d0 d1 d2 d3 d4
                refine region_since wr (by kernel_rfl) (by kernel_rfl) (Below.refl _ _) ?_
                repeat (go_big_quiet_step (fail))
                refine wpQuiet_nil ?_
                rintro w4 ⟨z, hw⟩
                have B4 : Below W1.heap.size W1 w4 := b2.trans ((hw ▸ z.2 : Below wr.heap.size wr w4).mono b2.size)
                clear hw z s0 s1 s2 s3 s4 t0 t1 t2 t3 t4 b2 HB
                go_wp2_with fail
                go_roundw
                case rel => exact ⟨k + 1, false, by omega, by first | rfl | simp, by go_num, Lib.hid (by have := good_step HY.out HG.out; rwa [g1.out] at this), B4⟩
                case measure => simp [intOf]; omega
            · have eq1 : ∀ w, (binOp .eql 33 (.agg #[.int .u32 y.e, .int .i64 y.d, .int .u32 y.a, .int .u32 y.b, .int .u32 y.c]) (.agg #[.int .u32 x.e, .int .i64 x.d, .int .u32 x.a, .int .u32 x.b, .int .u32 x.c])).run Try.prog w = .ok (.bool false) w := by intro w; rw [run_eqT, eqT_no hyx]
              have ne1 : ∀ w, (binOp .neq 33 (.agg #[.int .u32 y.e, .int .i64 y.d, .int .u32 y.a, .int .u32 y.b, .int .u32 y.c]) (.agg #[.int .u32 x.e, .int .i64 x.d, .int .u32 x.a, .int .u32 x.b, .int .u32 x.c])).run Try.prog w = .ok (.bool true) w := by intro w; rw [run_neT, eqT_no hyx]; rfl
              obtain ⟨u, hu⟩ : ∃ u, leB y x = u := ⟨_, rfl⟩
              have g1 : (true && good i x k y) = !u := by unfold good; rw [if_neg hyx, hu]; simp
              have g1 := Lib.hid g1
              rw [hu] at LE
              clear hyx hu
              cases u
              · go_wp2_with fail
                have s0 : ∀ z : Since wr, z.1.cell? ⟨b1', o1 + k * 5, none⟩ = some (.int .u32 y.e) := fun z => (z.2.cell hb1).trans c0
                have s1 : ∀ z : Since wr, z.1.cell? ⟨b1', o1 + k * 5 + 1, none⟩ = some (.int .i64 y.d) := fun z => (z.2.cell hb1).trans c1
                have s2 : ∀ z : Since wr, z.1.cell? ⟨b1', o1 + k * 5 + 2, none⟩ = some (.int .u32 y.a) := fun z => (z.2.cell hb1).trans c2
                have s3 : ∀ z : Since wr, z.1.cell? ⟨b1', o1 + k * 5 + 3, none⟩ = some (.int .u32 y.b) := fun z => (z.2.cell hb1).trans c3
                have s4 : ∀ z : Since wr, z.1.cell? ⟨b1', o1 + k * 5 + 4, none⟩ = some (.int .u32 y.c) := fun z => (z.2.cell hb1).trans c4
                have t0 : ∀ z : Since wr, z.1.cell? ⟨b1', o1 + i * 5, none⟩ = some (.int .u32 x.e) := fun z => (z.2.cell hb2).trans d0
                have t1 : ∀ z : Since wr, z.1.cell? ⟨b1', o1 + i * 5 + 1, none⟩ = some (.int .i64 x.d) := fun z => (z.2.cell hb2).trans d1
                have t2 : ∀ z : Since wr, z.1.cell? ⟨b1', o1 + i * 5 + 2, none⟩ = some (.int .u32 x.a) := fun z => (z.2.cell hb2).trans d2
                have t3 : ∀ z : Since wr, z.1.cell? ⟨b1', o1 + i * 5 + 3, none⟩ = some (.int .u32 x.b) := fun z => (z.2.cell hb2).trans d3
                have t4 : ∀ z : Since wr, z.1.cell? ⟨b1', o1 + i * 5 + 4, none⟩ = some (.int .u32 x.c) := fun z => (z.2.cell hb2).trans d4
                clear c0 c1 c2 c3 c4 d0 d1 d2 d3 d4
                refine region_since wr (by kernel_rfl) (by kernel_rfl) (Below.refl _ _) ?_
                repeat (go_big_quiet_step ((go_at_call 89; with_reducible exact since_call LE.out _)))
                refine wpQuiet_nil ?_
                rintro w4 ⟨z, hw⟩
                have B4 : Below W1.heap.size W1 w4 := b2.trans ((hw ▸ z.2 : Below wr.heap.size wr w4).mono b2.size)
                clear hw z s0 s1 s2 s3 s4 t0 t1 t2 t3 t4 b2 HB
                go_wp2_with fail
                go_roundw
                case rel => exact ⟨k + 1, true, by omega, by first | rfl | simp, by go_num, Lib.hid (by have := good_step HY.out HG.out; rw [g1.out] at this; exact this), B4⟩
                case measure => simp [intOf]; omega
              · go_wp2_with fail
                have s0 : ∀ z : Since wr, z.1.cell? ⟨b1', o1 + k * 5, none⟩ = some (.int .u32 y.e) := fun z => (z.2.cell hb1).trans c0
                have s1 : ∀ z : Since wr, z.1.cell? ⟨b1', o1 + k * 5 + 1, none⟩ = some (.int .i64 y.d) := fun z => (z.2.cell hb1).trans c1
                have s2 : ∀ z : Since wr, z.1.cell? ⟨b1', o1 + k * 5 + 2, none⟩ = some (.int .u32 y.a) := fun z => (z.2.cell hb1).trans c2
                have s3 : ∀ z : Since wr, z.1.cell? ⟨b1', o1 + k * 5 + 3, none⟩ = some (.int .u32 y.b) := fun z => (z.2.cell hb1).trans c3
                have s4 : ∀ z : Since wr, z.1.cell? ⟨b1', o1 + k * 5 + 4, none⟩ = some (.int .u32 y.c) := fun z => (z.2.cell hb1).trans c4
                have t0 : ∀ z : Since wr, z.1.cell? ⟨b1', o1 + i * 5, none⟩ = some (.int .u32 x.e) := fun z => (z.2.cell hb2).trans d0
                have t1 : ∀ z : Since wr, z.1.cell? ⟨b1', o1 + i * 5 + 1, none⟩ = some (.int .i64 x.d) := fun z => (z.2.cell hb2).trans d1
                have t2 : ∀ z : Since wr, z.1.cell? ⟨b1', o1 + i * 5 + 2, none⟩ = some (.int .u32 x.a) := fun z => (z.2.cell hb2).trans d2
                have t3 : ∀ z : Since wr, z.1.cell? ⟨b1', o1 + i * 5 + 3, none⟩ = some (.int .u32 x.b) := fun z => (z.2.cell hb2).trans d3
                have t4 : ∀ z : Since wr, z.1.cell? ⟨b1', o1 + i * 5 + 4, none⟩ = some (.int .u32 x.c) := fun z => (z.2.cell hb2).trans d4
                clear c0 c1 c2 c3 c4 d0 d1 d2 d3 d4
                refine region_since wr (by kernel_rfl) (by kernel_rfl) (Below.refl _ _) ?_
                repeat (go_big_quiet_step ((go_at_call 89; with_reducible exact since_call LE.out _)))
                refine wpQuiet_nil ?_
                rintro w4 ⟨z, hw⟩
                have B4 : Below W1.heap.size W1 w4 := b2.trans ((hw ▸ z.2 : Below wr.heap.size wr w4).mono b2.size)
                clear hw z s0 s1 s2 s3 s4 t0 t1 t2 t3 t4 b2 HB
                go_wp2_with fail
                go_roundw
                case rel => exact ⟨k + 1, false, by omega, by first | rfl | simp, by go_num, Lib.hid (by have := good_step HY.out HG.out; rw [g1.out] at this; exact this), B4⟩
                case measure => simp [intOf]; omega
        · have hkk : k = L.length := by omega
          subst hkk
          have HB := hb0.trans (b2.mono hb0.size)
          have HO2 := Lib.hid (HO.out.below b2)
          clear HO hb0
          cases b
          · go_wp2_with fail
            go_roundw
            case rel => exact ⟨i + 1, N, B, c', by omega, rfl, by go_num, HO2, Lib.hid (by rw [refF_skip HX.out (isgood_gall HG.out)]; exact HR.out), HB⟩
            case measure => simp [intOf]; omega
          · obtain ⟨b2', o2, hA2, hb2, d0, d1, d2, d3, d4⟩ := (HL1.out.below HB).at HX.out
            subst hA2
            have HN := Lib.hid HO2.out.lies
            have mN : N.length ≤ 4096 := by have := refF_len L i; rw [HR.out] at this; omega
            have iN : Hid (InL N) := Lib.hid (by rw [← HR.out]; exact refF_in iL i)
            have e0 : ((0 : Nat) : Int) = 0 := rfl
            obtain ⟨p, hp⟩ : ∃ p, posn N x N.length = p := ⟨_, rfl⟩
            have HP := Lib.hid hp
            clear hp
            go_upto_block 4 with fail
            go_cut [9] from 91 to 90 (fun s wx => s = .int .i64 p ∧ Below wr.heap.size wr wx)
            case first =>
              go_wp2_with fail
              go_loopw [9] (fun s w3 => ∃ a : Nat, a ≤ N.length ∧ s = .int .i64 a ∧ Hid (posn N x a = p) ∧ Below wr.heap.size wr w3) (fun s _ => (intOf s).toNat)
              case atStart => exact ⟨N.length, Nat.le_refl _, rfl, HP, Below.refl _ _⟩
              case round =>
                rename World => W3
                obtain ⟨a, ha, rfl, HQ, b3⟩ := hrel
                cases a with
                | zero =>
                  have hq : p = 0 := HQ.out.symm
                  subst hq
                  go_wp2_with fail
                  refine region_since W3 (by kernel_rfl) (by kernel_rfl) (Below.refl _ _) ?_
                  repeat (go_big_quiet_step (fail))
                  refine wpQuiet_nil ?_
                  rintro w4 ⟨z, hw⟩
                  have B4 : Below wr.heap.size wr w4 := b3.trans ((hw ▸ z.2 : Below W3.heap.size W3 w4).mono b3.size)
                  clear hw z
                  go_wp2_with fail
                  go_meet
                  exact ⟨rfl, B4⟩
                | succ a =>
                  obtain ⟨y, hy, hm⟩ := get_lt (L := N) (k := a) (by omega)
                  obtain ⟨g, og, hA, hg, f0, f1, f2, f3, f4⟩ := (HN.out.below b3).at hy
                  subst hA
                  have HY := Lib.hid hy
                  have CP := Lib.hid (compareR_any y x (iN.out y hm) ix.out)
                  have e5 : b2' < W3.heap.size := Nat.lt_of_lt_of_le hb2 b3.size
                  have s0 : ∀ z : Since W3, z.1.cell? ⟨g, og + a * 5, none⟩ = some (.int .u32 y.e) := fun z => (z.2.cell hg).trans f0
                  have s1 : ∀ z : Since W3, z.1.cell? ⟨g, og + a * 5 + 1, none⟩ = some (.int .i64 y.d) := fun z => (z.2.cell hg).trans f1
                  have s2 : ∀ z : Since W3, z.1.cell? ⟨g, og + a * 5 + 2, none⟩ = some (.int .u32 y.a) := fun z => (z.2.cell hg).trans f2
                  have s3 : ∀ z : Since W3, z.1.cell? ⟨g, og + a * 5 + 3, none⟩ = some (.int .u32 y.b) := fun z => (z.2.cell hg).trans f3
                  have s4 : ∀ z : Since W3, z.1.cell? ⟨g, og + a * 5 + 4, none⟩ = some (.int .u32 y.c) := fun z => (z.2.cell hg).trans f4
                  have t0 : ∀ z : Since W3, z.1.cell? ⟨b2', o2 + i * 5, none⟩ = some (.int .u32 x.e) := fun z => (z.2.cell e5).trans ((b3.cell hb2).trans d0)
                  have t1 : ∀ z : Since W3, z.1.cell? ⟨b2', o2 + i * 5 + 1, none⟩ = some (.int .i64 x.d) := fun z => (z.2.cell e5).trans ((b3.cell hb2).trans d1)
                  have t2 : ∀ z : Since W3, z.1.cell? ⟨b2', o2 + i * 5 + 2, none⟩ = some (.int .u32 x.a) := fun z => (z.2.cell e5).trans ((b3.cell hb2).trans d2)
                  have t3 : ∀ z : Since W3, z.1.cell? ⟨b2', o2 + i * 5 + 3, none⟩ = some (.int .u32 x.b) := fun z => (z.2.cell e5).trans ((b3.cell hb2).trans d3)
                  have t4 : ∀ z : Since W3, z.1.cell? ⟨b2', o2 + i * 5 + 4, none⟩ = some (.int .u32 x.c) := fun z => (z.2.cell e5).trans ((b3.cell hb2).trans d4)
                  obtain ⟨v, hv⟩ : ∃ v, cmpT y x = v := ⟨_, rfl⟩
                  rw [hv] at CP
                  have HV := Lib.hid hv
                  clear hv hy hm f0 f1 f2 f3 f4
                  by_cases hv0 : 0 < v
                  · go_wp2_with fail
                    refine region_since W3 (by kernel_rfl) (by kernel_rfl) (Below.refl _ _) ?_
                    repeat (go_big_quiet_step ((go_at_call 38; with_reducible exact since_call CP.out _)))
                    refine wpQuiet_nil ?_
                    rintro w4 ⟨z, hw⟩
                    have B4 : Below wr.heap.size wr w4 := b3.trans ((hw ▸ z.2 : Below W3.heap.size W3 w4).mono b3.size)
                    clear hw z s0 s1 s2 s3 s4 t0 t1 t2 t3 t4
                    go_wp2_with fail
                    go_roundw
                    case rel => exact ⟨a, by omega, by go_num, Lib.hid (posn_more HY.out (by rw [HV.out]; exact hv0) HQ.out), B4⟩
                    case measure => simp [intOf]
                  · have hv1 : v ≤ 0 := by omega
                    go_wp2_with fail
                    refine region_since W3 (by kernel_rfl) (by kernel_rfl) (Below.refl _ _) ?_
                    repeat (go_big_quiet_step ((go_at_call 38; with_reducible exact since_call CP.out _)))
                    refine wpQuiet_nil ?_
                    rintro w4 ⟨z, hw⟩
                    have B4 : Below wr.heap.size wr w4 := b3.trans ((hw ▸ z.2 : Below W3.heap.size W3 w4).mono b3.size)
                    clear hw z s0 s1 s2 s3 s4 t0 t1 t2 t3 t4
                    go_wp2_with fail
                    go_meet
                    exact ⟨by rw [← posn_stop HY.out (by rw [HV.out]; omega) HQ.out]; first | rfl | simp, B4⟩
            case rest =>
              obtain ⟨rfl, b3⟩ := hcut
              rename World => W4
              have HO4 := Lib.hid (HO2.out.below b3)
              have HB4 := HB.trans (b3.mono HB.size)
              have x0 := (b3.cell hb2).trans d0
              have x1 := (b3.cell hb2).trans d1
              have x2 := (b3.cell hb2).trans d2
              have x3 := (b3.cell hb2).trans d3
              have x4 := (b3.cell hb2).trans d4
              have hb4 : b2' < W4.heap.size := Nat.lt_of_lt_of_le hb2 b3.size
              have hp : p ≤ N.length := by rw [← HP.out]; exact posn_le N x _
              clear b3 b2 HO2 HB HN d0 d1 d2 d3 d4 hb2
              obtain ⟨i0, hi0, hz0, hz1, hz2⟩ := info_parts infoT
              have own0 : Hid (OwnT (W4.alloc (.cells #[] 33)) W4.heap.size (.slice (some ⟨W4.heap.size, 0, none⟩) 0 0) []) := Lib.hid ⟨rfl, .inr ⟨W4.heap.size, 0, #[], rfl, Nat.le_refl _, heap_new W4 _, Nat.le_refl _, by simp [maxLen], rfl, rfl⟩⟩
              have hsz : w1.heap.size ≤ W4.heap.size := HB4.size
              go_upto_region 19 with fail
              go_cut [10] from 300 (fun n w => ∃ (B4 : Option Addr) (c4 : Nat), n = .slice B4 p c4 ∧ Hid (OwnT w W4.heap.size (.slice B4 p c4) (N.take p)) ∧ Hid (Below W4.heap.size W4 w))
              case first =>
                rcases HO4.out.2 with ⟨hv, hn⟩ | ⟨g, cap, cur, hv, hg0, hg, hc1, hc2, hc3, hc4⟩
                · obtain rfl : N = [] := List.eq_nil_of_length_eq_zero hn
                  injection hv with q1 q2 q3
                  subst q1 q3
                  obtain rfl : p = 0 := by simpa using hp
                  go_wp2_with fail
                  go_meet
                  exact ⟨_, _, rfl, own0, Lib.hid (fresh1 _ _)⟩
                · injection hv with q1 q2 q3
                  subst q1 q3
                  have hlt2 : (N.take p).length = p := List.length_take_of_le hp
                  have HF := Lib.hid ((HO4.out.below (fresh1 W4 (.cells #[] 33))).first (p := p))
                  have hpc : p ≤ c' := Nat.le_trans hp hc1
                  clear hg hc3 hc4 q2 hg0
                  go_wp2_with (at_builtin; refine wpList_append_own _ rfl _ _ 37 rfl W4.heap.size 33 i0 (.agg #[.int .u32 T0.e, .int .i64 T0.d, .int .u32 T0.a, .int .u32 T0.b, .int .u32 T0.c]) 5 32 Try.underlying37 hi0 hz0 hz1 hz2 rfl (by decide) _ 0 [] rfl own0.out ⟨g, 0, none⟩ p _ ((N.take p).flatMap cT) rfl (by rw [flat_len, hlt2]) HF.out (one_flat _) (by simp [maxLen]; omega) (by omega) (by simp) ?_; intro v' w5 hown' hgrow _; have b5 := Lib.hid (((Below.refl W4.heap.size W4).alloc (Nat.le_refl _) (.cells #[] 33)).grown hgrow (by simp) (fun j ej => by cases ej; exact Nat.le_refl _)); have HO5 : Hid (OwnT w5 W4.heap.size v' (N.take p)) := Lib.hid (by unfold OwnT; rw [hlt2]; simpa using hown'); obtain ⟨B4, c4, hv5⟩ := HO5.out.shape; rw [hlt2] at hv5; subst hv5; clear hown' hgrow)
                  go_meet
                  exact ⟨_, _, rfl, HO5, b5⟩
              case rest =>
                obtain ⟨B4, c4, rfl, HO5, HB5⟩ := hcut
                rename World => W5
                have hlt2 : Hid ((N.take p).length = p) := Lib.hid (List.length_take_of_le hp)
                have HO6 : Hid (W5.ownsRow W4.heap.size 33 5 (.slice B4 p c4) p ((N.take p).flatMap cT)) := Lib.hid (by have := HO5.out; unfold OwnT at this; rwa [hlt2.out] at this)
                have y0 := (HB5.out.cell hb4).trans x0
                have y1 := (HB5.out.cell hb4).trans x1
                have y2 := (HB5.out.cell hb4).trans x2
                have y3 := (HB5.out.cell hb4).trans x3
                have y4 := (HB5.out.cell hb4).trans x4
                have hs5 : W4.heap.size ≤ W5.heap.size := HB5.out.size
                clear x0 x1 x2 x3 x4 own0
                go_upto_region 20 with fail
                go_cut [10] from 300 (fun n w => ∃ (B5 : Option Addr) (c5 : Nat), n = .slice B5 (p + 1) c5 ∧ Hid (OwnT w W4.heap.size (.slice B5 (p + 1) c5) (N.take p ++ [x])) ∧ Hid (Below W4.heap.size W4 w))
                case first =>
                  go_wp2_with (at_builtin; refine wpList_append_own _ rfl _ _ 37 rfl W4.heap.size 33 i0 (.agg #[.int .u32 T0.e, .int .i64 T0.d, .int .u32 T0.a, .int .u32 T0.b, .int .u32 T0.c]) 5 32 Try.underlying37 hi0 hz0 hz1 hz2 rfl (by decide) _ _ _ rfl (HO6.out.alloc _) ⟨_, 0, none⟩ 1 1 (cT x) rfl rfl (cells_new _ _ _) (one_cT x) (by simp [maxLen]; omega) (by omega) (by simp; omega) ?_; intro v' w6 hown' hgrow _; have b6 := Lib.hid (HB5.out.trans (HO5.out.grown hs5 hgrow)); have HO7 : Hid (OwnT w6 W4.heap.size v' (N.take p ++ [x])) := Lib.hid (by unfold OwnT; rw [List.length_append, hlt2.out]; simpa using hown'); obtain ⟨B5, c5, hv6⟩ := HO7.out.shape; rw [List.length_append, hlt2.out] at hv6; subst hv6; clear hown' hgrow)
                  go_meet
                  exact ⟨_, _, rfl, HO7, b6⟩
                case rest =>
                  obtain ⟨B5, c5, rfl, HO7, HB7⟩ := hcut
                  rename World => W6
                  have HO8 : Hid (W6.ownsRow W4.heap.size 33 5 (.slice B5 (p + 1) c5) (p + 1) ((N.take p ++ [x]).flatMap cT)) := Lib.hid (by have := HO7.out; unfold OwnT at this; rwa [List.length_append, hlt2.out] at this)
                  have EN : Hid (refF L (i + 1) = N.take p ++ [x] ++ N.drop p) := Lib.hid (by rw [refF_add HX.out (isgood_gall HG.out), HR.out]; unfold insT; rw [HP.out])
                  have hs6 : W4.heap.size ≤ W6.heap.size := HB7.out.size
                  have HBW := Lib.hid (HB4.trans (HB7.out.mono hsz))
                  clear y0 y1 y2 y3 y4 HO5 HO6 HB5
                  rcases (HO4.out.below HB7.out).2 with ⟨hv, hn⟩ | ⟨g, cap, cur, hv, hg0, hg, hc1, hc2, hc3, hc4⟩
                  · obtain rfl : N = [] := List.eq_nil_of_length_eq_zero hn
                    injection hv with q1 q2 q3
                    subst q1 q3
                    obtain rfl : p = 0 := by simpa using hp
                    rcases HO8.out.2 with ⟨hv2, hn2⟩ | ⟨g2, cap2, cur2, hv2, hg2, hgg2, hd1, hd2, hd3, hd4⟩
                    · omega
                    · injection hv2 with r1 r2 r3
                      subst r1 r3
                      clear r2 hgg2 hd2 hd3 hd4 hn
                      go_wp2_with fail
                      go_roundw
                      case rel => exact ⟨i + 1, [x], some ⟨g2, 0, none⟩, c5, by omega, rfl, by go_num, Lib.hid (HO7.out.low hsz), Lib.hid (by rw [EN.out]; rfl), HBW.out⟩
                      case measure => simp [intOf]; omega
                  · injection hv with q1 q2 q3
                    subst q1 q3
                    by_cases hpn : p < N.length
                    · have hpc : p < c' := by omega
                      have hpc2 : (p : Int) < (c' : Int) := by omega
                      have HC : Hid (∀ j u, ((N.drop p).flatMap cT)[j]? = some u → W6.cell? ((⟨g, p * 5, none⟩ : Addr).add j) = some u) := Lib.hid (by
                        intro j u hj
                        rw [flat_drop, List.getElem?_drop] at hj
                        have := (HO4.out.below HB7.out).cells _ u hj
                        rw [show (⟨g, p * 5, none⟩ : Addr).add j = ⟨g, p * 5 + j, none⟩ by cases j <;> simp [Addr.add]]
                        exact this)
                      clear hg hc3 hc4 q2 hg0
                      go_wp2_with (at_builtin; refine wpList_append_own _ rfl _ _ 37 rfl W4.heap.size 33 i0 (.agg #[.int .u32 T0.e, .int .i64 T0.d, .int .u32 T0.a, .int .u32 T0.b, .int .u32 T0.c]) 5 32 Try.underlying37 hi0 hz0 hz1 hz2 rfl (by decide) _ _ _ rfl HO8.out ⟨g, p * 5, none⟩ _ _ ((N.drop p).flatMap cT) rfl (by rw [flat_len, List.length_drop]) HC.out (one_flat _) (by simp [maxLen]; omega) (by omega) (by omega) ?_; intro v' w7 hown' hgrow _; have b8 := Lib.hid (HBW.out.trans ((HO7.out.grown0 hs6 hgrow).mono hsz)); have HO9 : Hid (OwnT w7 w1.heap.size v' (N.take p ++ [x] ++ N.drop p)) := Lib.hid (OwnT.low (by unfold OwnT; rw [List.length_append, List.length_append, hlt2.out, List.length_drop, List.flatMap_append]; simpa using hown') hsz); obtain ⟨B6, c6, hv6⟩ := HO9.out.shape; subst hv6; clear hown' hgrow)
                      go_roundw
                      case rel => exact ⟨i + 1, N.take p ++ [x] ++ N.drop p, B6, c6, by omega, congrArg (Value.slice _ · _) (by simp; omega), by go_num, HO9, EN, b8.out⟩
                      case measure => simp [intOf]; omega
                    · have hnp : N.length - p = 0 := by omega
                      have ED : Hid (refF L (i + 1) = N.take p ++ [x]) := Lib.hid (by rw [EN.out, List.drop_of_length_le (by omega : N.length ≤ p), List.append_nil])
                      rcases HO8.out.2 with ⟨hv2, hn2⟩ | ⟨g2, cap2, cur2, hv2, hg2, hgg2, hd1, hd2, hd3, hd4⟩
                      · omega
                      · injection hv2 with r1 r2 r3
                        subst r1 r3
                        clear r2 hgg2 hd2 hd3 hd4 hg hc3 hc4 q2 hg0
                        by_cases hpc : p < c'
                        · have hpc2 : (p : Int) < (c' : Int) := by omega
                          go_wp2_with fail
                          go_roundw
                          case rel => exact ⟨i + 1, N.take p ++ [x], some ⟨g2, 0, none⟩, c5, by omega, congrArg (Value.slice _ · _) (by simp; omega), by go_num, Lib.hid (by have := HO7.out.low hsz; rwa [show (N.take p ++ [x]).length = p + 1 by simp; omega]), ED, HBW.out⟩
                          case measure => simp [intOf]; omega
                        · have hpc2 : ¬ (p : Int) < (c' : Int) := by omega
                          go_wp2_with fail
                          go_roundw
                          case rel => exact ⟨i + 1, N.take p ++ [x], some ⟨g2, 0, none⟩, c5, by omega, congrArg (Value.slice _ · _) (by simp; omega), by go_num, Lib.hid (by have := HO7.out.low hsz; rwa [show (N.take p ++ [x]).length = p + 1 by simp; omega]), ED, HBW.out⟩
                          case measure => simp [intOf]; omega
    · have hii : i = L.length := by omega
      subst hii
      obtain ⟨re1, re2⟩ := RE.out N HR.out
      have HL2 := Lib.hid HO.out.lies
      clear RE
      by_cases hs : 64 < N.length
      · obtain ⟨e1, e2⟩ := re1 hs
        have E1 := Lib.hid e1
        have E2 := Lib.hid e2
        clear re1 re2 e1 e2
        go_wp2_with fail
        go_ret2
        exact ⟨none, 0, by rw [E1.out, E2.out]; rfl, by rw [E2.out]; exact Lt.nil _ _, b1.trans (hb0.mono b1.size)⟩
      · obtain ⟨e1, e2⟩ := re2 hs
        have E1 := Lib.hid e1
        have E2 := Lib.hid e2
        clear re1 re2 e1 e2
        go_wp2_with fail
        go_ret2
        exact ⟨B, c', by rw [E1.out, E2.out]; rfl, by rw [E2.out]; exact HL2.out, b1.trans (hb0.mono b1.size)⟩
end Go.Proofs.Ytomekndinopoaaa.chain
namespace Go.Proofs.Ytomekndinopoaaa.chain
open Go.ChangeShapes Go.WideShapes Go.ChangeAt Go.RowKit Go.Shelf Go.Sort
open Go.Proofs.Ytomekndinopoaaa.tm Go.Proofs.Ytomekndinopoaaa.opened Go.Proofs.Ytomekndinopoaaa.block Go.Proofs.Ytomekndinopoaaa.stamp

set_option maxRecDepth 100000 in
theorem makeR_any (A : Option Addr) (c : Nat) (L : List Tm) (iL : InL L) (mL : L.length ≤ 4611686018427387903) (w : World) (hL : Lt w A L) :
    Calls Try.prog 68 #[.slice A L.length c] w fun e W' => ∃ B c', e = .returned (.tuple #[.slice B (makeV L iL).length c', .int .i64 (makeE L iL)]) ∧ Lt W' B (makeV L iL) ∧ Below w.heap.size w W' := by
  obtain ⟨r1, r2⟩ := ref_make L iL
  rw [← r1, ← r2]
  clear r1 r2
  by_cases hl : 4096 < L.length
  · obtain ⟨e1, e2⟩ := ref_long hl
    rw [e1, e2]
    clear e1 e2 hL
    go_enter Try.func68, Try.ntmps68
    go_wp2
    go_ret2
    exact ⟨none, 0, rfl, Lt.nil _ _, Below.refl _ _⟩
  · by_cases ht : timesE L = 0
    · exact makeR_ok A c L iL (by omega) ht w hL
    · obtain ⟨e1, e2⟩ := ref_bad hl ht
      rw [e1, e2]
      have HL := Lib.hid hL
      have CT := Lib.hid (timesR_any A c L iL (by omega))
      clear e1 e2 hL
      generalize timesE L = t at CT ht ⊢
      go_enter Try.func68, Try.ntmps68
      go_wp2_with fail
      refine (CT.out _ HL.out).mono ?_
      rintro e w1 ⟨rfl, b1⟩
      go_wp2_with fail
      go_ret2
      exact ⟨none, 0, rfl, Lt.nil _ _, b1⟩
end Go.Proofs.Ytomekndinopoaaa.chain
