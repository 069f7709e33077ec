/-
  The walk of DataBytes.
-/
import Derived.Test.YtaiaadojnoipfaaRt8
import Derived.Test.YtaiaadojnoipfaaDlb
import Derived.Test.YtaiaadojnoipfaaDrd
import Derived.Test.YtaiaadojnoipfaaDrdR
import Derived.Test.YtaiaadojnoipfaaDwr
import Derived.Test.YtaiaadojnoipfaaDwrR
namespace Go.Proofs.Ytaiaadojnoipfaa.data
open Go.ChangeShapes Go.WideShapes Go.ChangeAt Go.RowKit
open Go.Proofs.Ytaiaadojnoipfaa.tm Go.Proofs.Ytaiaadojnoipfaa.opened Go.Proofs.Ytaiaadojnoipfaa.block Go.Proofs.Ytaiaadojnoipfaa.region Go.Proofs.Ytaiaadojnoipfaa.stamp Go.Proofs.Ytaiaadojnoipfaa.code Go.Proofs.Ytaiaadojnoipfaa.enc

def BtO (l : Int) (t : Tm) (L : List Rc) : Value → World → Prop := fun u w => ∃ B c, u = .agg (bt l t B L.length c) ∧ Lr w B L
theorem keeps_btO (l : Int) (t : Tm) (L : List Rc) : Keeps (BtO l t L) := fun _ _ _ hb ⟨B, c, h1, h2⟩ => ⟨B, c, h1, h2.below hb⟩
/-- A value, and where two readers are. -/
def IsS (gp gq : Nat) (q : Rq) (u0 : Value) : Value → World → Prop := fun u w => u = u0 ∧ QA w gp q ∧ QB w gq q
theorem keeps_isS (gp gq : Nat) (q : Rq) (u0 : Value) : Keeps (IsS gp gq q u0) := fun _ _ _ hb ⟨h1, h2, h3⟩ => ⟨h1, QA.later h2 hb, QB.later h3 hb⟩
def BtA (gp : Nat) (l : Int) (t : Tm) (L : List Rc) (q : Rq) : Value → World → Prop := fun u w => BtO l t L u w ∧ QA w gp q
theorem keeps_btA (gp : Nat) (l : Int) (t : Tm) (L : List Rc) (q : Rq) : Keeps (BtA gp l t L q) := fun _ _ _ hb ⟨h1, h2⟩ => ⟨keeps_btO _ _ _ _ _ _ hb h1, QA.later h2 hb⟩
theorem reader_both (w : World) (s : ByteArray) (hs : s.size ≤ 5000) : QA ((w.alloc (.cells #[.string s, .int .i64 0] 82)).alloc (.cells #[.string s, .int .i64 0, .int .i64 0] 49)) w.heap.size (s.data.toList, 0) ∧ QB ((w.alloc (.cells #[.string s, .int .i64 0] 82)).alloc (.cells #[.string s, .int .i64 0, .int .i64 0] 49)) (w.alloc (.cells #[.string s, .int .i64 0] 82)).heap.size (s.data.toList, 0) := by
  refine ⟨QA.alloc ?_ _, s, 0, Nat.zero_le _, by omega, by simp, Whole.fresh _ _ _⟩
  have e : (⟨s.data.toList.toArray⟩ : ByteArray) = s := by cases s; simp
  show Whole _ _ _ #[.string ⟨s.data.toList.toArray⟩, .int .i64 0]
  rw [e]
  exact Whole.fresh w _ _
/-- A batch that is newer than a place, and where a reader is. -/
def BtF (gp gq : Nat) (l : Int) (t : Tm) (L : List Rc) (q : Rq) : Value → World → Prop := fun u w => (∃ B c, u = .agg (bt l t B L.length c) ∧ Lr w B L ∧ ∀ a, B = some a → a.block ≠ gq) ∧ QA w gp q
theorem keeps_btF (gp gq : Nat) (l : Int) (t : Tm) (L : List Rc) (q : Rq) : Keeps (BtF gp gq l t L q) := fun _ _ _ hb ⟨⟨B, c, h1, h2, h3⟩, h4⟩ => ⟨⟨B, c, h1, h2.below hb, h3⟩, QA.later h4 hb⟩
set_option maxRecDepth 100000 in
set_option maxHeartbeats 8000000 in
theorem walkB (l : Int) (_il : -9223372036854775808 ≤ l ∧ l ≤ 9223372036854775807) (t : Tm) (it : t.In) (A : Option Addr) (c : Nat) (L : List Rc) (iL : InR L) (s : ByteArray) (_ws : s.size ≤ 140737488351232) (w : World) (hL : Lr w A L) :
    Calls Try.prog 4 #[.agg (bt l t A L.length c), .string s] w fun e w' => e = .returned (.bool true) ∧ Below w.heap.size w w' := by
  by_cases hl : L.length ≤ 300
  rotate_left
  · have hl' : (300 : Int) < (L.length : Int) := by omega
    have b1 := fresh0 w (.cells (bt l t A L.length c) 37)
    clear hL hl iL
    generalize L.length = m at hl' b1 ⊢
    go_enter Try.func4, Try.ntmps4
    go_wp2_with fail
    go_ret
    exact ⟨rfl, b1⟩
  have hl' : ¬ (300 : Int) < (L.length : Int) := by omega
  by_cases hs : s.size ≤ 5000
  rotate_left
  · have hs' : (5000 : Int) < (s.size : Int) := by omega
    have b1 := fresh0 w (.cells (bt l t A L.length c) 37)
    clear hL hl hs iL
    generalize L.length = m at hl' b1 ⊢
    go_enter Try.func4, Try.ntmps4
    go_wp2_with fail
    go_ret
    exact ⟨rfl, b1⟩
  have hs' : ¬ (5000 : Int) < (s.size : Int) := by omega
  have b1 := fresh0 w (.cells (bt l t A L.length c) 37)
  have W1 := Lib.hid (Whole.fresh w 37 (bt l t A L.length c))
  have HL1 := Lib.hid (hL.below b1)
  have HB1 := Lib.hid b1
  have TO := Lib.hid (fun W (h : Lr W A L) => to_any l t L A c (by omega) W h)
  have WA := Lib.hid (fun B d W (h : Lr W B L) => writeB_any l t it L iL B d W h)
  have WB := Lib.hid (fun B d W (h : Lr W B L) => writeRB_any l t it L iL B d W h)
  have CA := Lib.hid (fun B d W => check_any l t it B L.length d W)
  have CB := Lib.hid (fun B d W => checkR_any l t it B L.length d W)
  clear hL b1 iL
  generalize wrV l t L = x at WA WB
  generalize chkB l t L.length = ck at WA WB CA CB
  go_enter Try.func4, Try.ntmps4
  go_upto_region 3 with fail
  change Code.wp _ _ _ _ (w.alloc (.cells (bt l t A L.length c) 37))
  generalize w.alloc (.cells (bt l t A L.length c) 37) = w1 at W1 HL1 HB1 ⊢
  obtain ⟨gb, hgb⟩ : ∃ gb, gb = w.heap.size := ⟨_, rfl⟩
  rw [← hgb] at W1 ⊢
  clear hgb
  obtain ⟨k0, k1, k2, k3, k4, k5, k6, -⟩ := facts7 W1.out
  go_upto_region 5 with (first
    | (go_at_call 17; refine (TO.out _ HL1.out).mono ?_; rintro e w2 ⟨B2, c2, rfl, l2, b2⟩; have HL2 := Lib.hid l2; have W2 := Lib.hid (W1.out.below b2 W1.out.inside); have HA2 := Lib.hid (HL1.out.below b2); have HB2 := Lib.hid (HB1.out.trans (b2.mono HB1.out.size)); clear l2 b2 k0 k1 k2 k3 k4 k5 k6)
    | (go_at_call 16; refine (WA.out B2 c2 _ HL2.out).mono ?_; rintro e w3 ⟨rfl, b3⟩; have W3 := Lib.hid (W2.out.below b3 W2.out.inside); have HA3 := Lib.hid (HA2.out.below b3); have HB3 := Lib.hid (HB2.out.trans (b3.mono HB2.out.size)); clear b3; obtain ⟨k0, k1, k2, k3, k4, k5, k6, -⟩ := facts7 W3.out)
    | (go_at_call 18; refine (WB.out A c _ HA3.out).mono ?_; rintro e w4 ⟨rfl, b4⟩; have W4 := Lib.hid (W3.out.below b4 W3.out.inside); have HA4 := Lib.hid (HA3.out.below b4); have HB4 := Lib.hid (HB3.out.trans (b4.mono HB3.out.size)); clear b4 k0 k1 k2 k3 k4 k5 k6))
  clear W1 HL1 HB1 W2 HL2 HA2 HB2 W3 HA3 HB3 WA WB
  refine region_fullQ 79 [] [] (fun _ => false) (fun w7 => Below w.heap.size w w7 ∧ Whole w7 gb 37 (bt l t A L.length c) ∧ Lr w7 A L) ?hR ?r0 [pdOne 0 (Is (.agg (bt l t A L.length c))), pdOne 1 (BtO l t L), pdOne 2 (Is (.int .i64 ck)), pdOne 3 (Is (.agg (bt l t A L.length c))), pdOne 4 (Is (.int .i64 ck)), pdOne 5 (Is (.bool false)), pdOne 6 (Is (.bool false)), pdOne 7 (Is (sB x)), pdOne 8 (Is (sB x)), pdOne 9 (Is (.bool false)), pdOne 10 (Is (.bool false)), pdOne 11 (Is (.bool false)), pdOne 12 (Is (.int .i64 ck)), pdOne 13 (Is (.int .i64 ck)), pdOne 14 (Is (.bool false)), pdOne 15 (Is (.bool false))] (fun _ _ => True) (by kernel_rfl) rfl (by kernel_rfl) (by kernel_rfl) (by kernel_rfl) (by kernel_rfl) ?keep ?hO ?h0 ?tell
  case hR => exact fun wa wb hb ⟨h1, h2, h3⟩ => ⟨h1.trans (hb.mono h1.size), h2.below hb h2.inside, h3.below hb⟩
  case r0 => exact ⟨HB4.out, W4.out, HA4.out⟩
  case keep => exact ⟨keep_one (keeps_is _), keep_one (keeps_btO _ _ _), keep_one (keeps_is _), keep_one (keeps_is _), keep_one (keeps_is _), keep_one (keeps_is _), keep_one (keeps_is _), keep_one (keeps_is _), keep_one (keeps_is _), keep_one (keeps_is _), keep_one (keeps_is _), keep_one (keeps_is _), keep_one (keeps_is _), keep_one (keeps_is _), keep_one (keeps_is _), keep_one (keeps_is _), trivial⟩
  case hO => exact fun _ _ _ _ h => h
  case h0 => exact fun _ _ => trivial
  case tell =>
    intro fin hfin
    simp [lexPut, Act.put] at hfin
    simp only [TellQ]
    refine ⟨⟨?_, ?_, ?_, ?_, ?_, ?_, ?_, ?_, ?_, ?_, ?_, ?_, ?_, ?_, ?_, ?_, trivial⟩, ?_⟩
    · intro v2 w7 hr hd
      refine ⟨by intro j b e; simp at e, ?_⟩
      obtain ⟨k0, k1, k2, k3, k4, k5, k6, -⟩ := facts7 hr.2.1
      refine yields_run (u := .agg (bt l t A L.length c)) (w' := w7) ?_ (Below.refl _ _) rfl
      unfold execOp
      simp [go_sem, Act.eval, k0, k1, k2, k3, k4, k5, k6]
    · intro v2 w7 hr hd
      refine ⟨by intro j b e; simp at e, ?_⟩
      have h0 : v2 0 = _ := hd 0 (by kernel_rfl)
      refine yields_call (f := 17) rfl (vs := #[.agg (bt l t A L.length c)]) (by simp [Act.eval, Act.put, h0]) rfl Try.func17 (by kernel_rfl) (by kernel_rfl) ?_
      exact (TO.out w7 hr.2.2).mono fun e w' ⟨B, c', he, hl, hb⟩ => ⟨_, he, hb, B, c', rfl, hl⟩
    · intro v2 w7 hr hd
      refine ⟨by intro j b e; simp at e, ?_⟩
      obtain ⟨B, c', e1, l1⟩ : BtO l t L (v2 1) w7 := hd 1 (by kernel_rfl)
      refine yields_call (f := 19) rfl (vs := #[.agg (bt l t B L.length c')]) (by simp [Act.eval, Act.put, e1]) rfl Try.func19 (by kernel_rfl) (by kernel_rfl) ?_
      exact (CA.out B c' w7).mono fun e w' ⟨he, hb⟩ => ⟨_, he, hb, rfl⟩
    · intro v2 w7 hr hd
      refine ⟨by intro j b e; simp at e, ?_⟩
      obtain ⟨k0, k1, k2, k3, k4, k5, k6, -⟩ := facts7 hr.2.1
      refine yields_run (u := .agg (bt l t A L.length c)) (w' := w7) ?_ (Below.refl _ _) rfl
      unfold execOp
      simp [go_sem, Act.eval, Act.put, k0, k1, k2, k3, k4, k5, k6]
    · intro v2 w7 hr hd
      refine ⟨by intro j b e; simp at e, ?_⟩
      have h3 : v2 3 = _ := hd 3 (by kernel_rfl)
      refine yields_call (f := 20) rfl (vs := #[.agg (bt l t A L.length c)]) (by simp [Act.eval, Act.put, h3]) rfl Try.func20 (by kernel_rfl) (by kernel_rfl) ?_
      exact (CB.out A c w7).mono fun e w' ⟨he, hb⟩ => ⟨_, he, hb, rfl⟩
    · intro v2 w7 hr hd
      refine ⟨by intro j b e; simp at e, ?_⟩
      have h2 : v2 2 = _ := hd 2 (by kernel_rfl)
      have h4 : v2 4 = _ := hd 4 (by kernel_rfl)
      refine yields_run (u := .bool false) (w' := w7) ?_ (Below.refl _ _) rfl
      unfold execOp
      simp [go_sem, Act.eval, Act.put, h2, h4]
    · intro v2 w7 hr hd
      refine ⟨by intro j b e; simp at e, ?_⟩
      have h5 : v2 5 = _ := hd 5 (by kernel_rfl)
      refine yields_run (u := .bool false) (w' := w7) ?_ (Below.refl _ _) rfl
      unfold execOp
      simp [go_sem, Act.eval, Act.put, h5]
    · intro v2 w7 hr hd
      refine ⟨(by
        intro j b e
        simp only [Option.some.injEq, Prod.mk.injEq] at e
        obtain ⟨rfl, rfl⟩ := e
        exact hd 6 (by kernel_rfl)), ?_⟩
      refine yields_run (u := sB x) (w' := w7) ?_ (Below.refl _ _) rfl
      unfold execOp
      simp [go_sem, Act.eval, Act.put]
    · intro v2 w7 hr hd
      refine ⟨(by
        intro j b e
        simp only [Option.some.injEq, Prod.mk.injEq] at e
        obtain ⟨rfl, rfl⟩ := e
        exact hd 6 (by kernel_rfl)), ?_⟩
      refine yields_run (u := sB x) (w' := w7) ?_ (Below.refl _ _) rfl
      unfold execOp
      simp [go_sem, Act.eval, Act.put]
    · intro v2 w7 hr hd
      refine ⟨(by
        intro j b e
        simp only [Option.some.injEq, Prod.mk.injEq] at e
        obtain ⟨rfl, rfl⟩ := e
        exact hd 6 (by kernel_rfl)), ?_⟩
      have h7 : v2 7 = _ := hd 7 (by kernel_rfl)
      have h8 : v2 8 = _ := hd 8 (by kernel_rfl)
      refine yields_run (u := .bool false) (w' := w7) ?_ (Below.refl _ _) rfl
      unfold execOp
      simp [go_sem, Act.eval, Act.put, h7, h8]
    · intro v2 w7 hr hd
      refine ⟨by intro j b e; simp at e, ?_⟩
      have h6 : v2 6 = _ := hd 6 (by kernel_rfl)
      have h9 : v2 9 = _ := hd 9 (by kernel_rfl)
      refine yields_run (u := .bool false) (w' := w7) ?_ (Below.refl _ _) rfl
      unfold execOp
      simp [go_sem, Act.eval, Act.put, h6, h9]
    · intro v2 w7 hr hd
      refine ⟨by intro j b e; simp at e, ?_⟩
      have h10 : v2 10 = _ := hd 10 (by kernel_rfl)
      refine yields_run (u := .bool false) (w' := w7) ?_ (Below.refl _ _) rfl
      unfold execOp
      simp [go_sem, Act.eval, Act.put, h10]
    · intro v2 w7 hr hd
      refine ⟨(by
        intro j b e
        simp only [Option.some.injEq, Prod.mk.injEq] at e
        obtain ⟨rfl, rfl⟩ := e
        exact hd 11 (by kernel_rfl)), ?_⟩
      refine yields_run (u := .int .i64 ck) (w' := w7) ?_ (Below.refl _ _) rfl
      unfold execOp
      simp [go_sem, Act.eval, Act.put]
    · intro v2 w7 hr hd
      refine ⟨(by
        intro j b e
        simp only [Option.some.injEq, Prod.mk.injEq] at e
        obtain ⟨rfl, rfl⟩ := e
        exact hd 11 (by kernel_rfl)), ?_⟩
      refine yields_run (u := .int .i64 ck) (w' := w7) ?_ (Below.refl _ _) rfl
      unfold execOp
      simp [go_sem, Act.eval, Act.put]
    · intro v2 w7 hr hd
      refine ⟨(by
        intro j b e
        simp only [Option.some.injEq, Prod.mk.injEq] at e
        obtain ⟨rfl, rfl⟩ := e
        exact hd 11 (by kernel_rfl)), ?_⟩
      have h12 : v2 12 = _ := hd 12 (by kernel_rfl)
      have h13 : v2 13 = _ := hd 13 (by kernel_rfl)
      refine yields_run (u := .bool false) (w' := w7) ?_ (Below.refl _ _) rfl
      unfold execOp
      simp [go_sem, Act.eval, Act.put, h12, h13]
    · intro v2 w7 hr hd
      refine ⟨by intro j b e; simp at e, ?_⟩
      have h11 : v2 11 = _ := hd 11 (by kernel_rfl)
      have h14 : v2 14 = _ := hd 14 (by kernel_rfl)
      refine yields_run (u := .bool false) (w' := w7) ?_ (Below.refl _ _) rfl
      unfold execOp
      simp [go_sem, Act.eval, Act.put, h11, h14]
    · intro v2 w7 hr hv
      have h15 : v2 15 = .bool false := hv 15 (by decide)
      rw [hfin, h15]
      clear hfin hv
      have HB7 := Lib.hid hr.1
      clear hr h15 TO CA CB W4 HA4 HB4
      generalize v2 = vz
      go_upto_region 8 with (go_at_call 21; refine (new_any s _).mono ?_; rintro e w8 ⟨rfl, rfl⟩)
      change Code.wp _ _ _ _ ((w7.alloc (.cells #[.string s, .int .i64 0] 82)).alloc (.cells #[.string s, .int .i64 0, .int .i64 0] 49))
      obtain ⟨qa, qb⟩ := reader_both w7 s hs
      have HB8 := Lib.hid ((HB7.out.alloc HB7.out.size (.cells #[.string s, .int .i64 0] 82)).alloc (by have := HB7.out.size; simp; omega) (.cells #[.string s, .int .i64 0, .int .i64 0] 49))
      have HQA := Lib.hid qa
      have HQB := Lib.hid qb
      have hs7 := HB7.out.size
      clear qa qb
      have e2 : (w7.alloc (.cells #[.string s, .int .i64 0] 82)).heap.size = w7.heap.size + 1 := by simp
      rw [e2] at HQB
      clear e2
      generalize (w7.alloc (.cells #[.string s, .int .i64 0] 82)).alloc (.cells #[.string s, .int .i64 0, .int .i64 0] 49) = w8 at HB8 HQA HQB ⊢
      obtain ⟨gp, hgp⟩ : ∃ gp, gp = w7.heap.size := ⟨_, rfl⟩
      obtain ⟨gq, hgq⟩ : ∃ gq, gq = w7.heap.size + 1 := ⟨_, rfl⟩
      try rw [← hgq]
      try rw [← hgp]
      rw [← hgp] at HQA
      rw [← hgq] at HQB
      have hpq : gp ≠ gq := by omega
      have hpw : w.heap.size ≤ gp := by omega
      have hqw : w.heap.size ≤ gq := by omega
      have hql : s.data.toList.length ≤ 9223372036854775807 := by have : s.data.toList.length = s.size := rfl; omega
      generalize s.data.toList = bs at HQA HQB hql
      clear hgp hgq HB7 hs7 hs'
      go_wp2_with fail
      go_loopw [11] (fun i wr => ∃ (k : Nat) (q : Rq), k ≤ 2 ∧ i = .int .i64 k ∧ q.1.length ≤ 9223372036854775807 ∧ Hid (QA wr gp q) ∧ Hid (QB wr gq q) ∧ Hid (Below w.heap.size w wr)) (fun i _ => 2 - (intOf i).toNat)
      case atStart => exact ⟨0, (bs, 0), by omega, rfl, hql, HQA, HQB, HB8⟩
      case round =>
        clear HQA HQB HB8 hql
        obtain ⟨k, q, hk, rfl, hq, HP, HQ, HB⟩ := hrel
        by_cases hlt : k < 2
        · have RA := Lib.hid (fun W (h : QA W gp q) => readB_any gp q hq W h)
          have RB := Lib.hid (fun W (h : QB W gq q) => readRB_any gq q hq W h)
          have hqn := Nat.le_trans (bQ_len q) hq
          have hx64 := vR_len q
          generalize bQ q = qn at RA RB hqn
          generalize vL q = xl at RA RB
          generalize vT q = xt at RA RB
          generalize vR q = xr at RA RB hx64
          have AK := Lib.hid (fun B D c1 c3 W (h1 : Lr W B xr) (h2 : Lr W D xr) => alikeB_self xl xt B D c1 c3 xr (by omega) W h1 h2)
          have hgpw := HP.out.inside
          have hgqw := HQ.out.inside
          go_upto_region 11 with fail
          refine region_fullQ 79 [(1, 3), (1, 4), (1, 5), (1, 6), (1, 7), (1, 8), (1, 9), (1, 10), (1, 11), (1, 12), (1, 13), (1, 14), (1, 15), (1, 16), (1, 17), (1, 18), (1, 19), (1, 20), (1, 21), (3, 4), (3, 5), (3, 6), (3, 7), (3, 8), (3, 9), (3, 10), (3, 11), (3, 12), (3, 13), (3, 14), (3, 15), (3, 16), (3, 17), (3, 18), (3, 19), (3, 20), (3, 21)] [(3, 1)] (fun k => k == 1 || k == 3) (fun w7 => Below w.heap.size w w7 ∧ wr.heap.size ≤ w7.heap.size) ?hR ?r0 [pdOne 0 (Is (.pointer (some ⟨gp, 0, none⟩))), pdOne 1 (BtF gp gq xl xt xr qn), pdOne 2 (Is (.pointer (some ⟨gq, 0, none⟩))), pdOne 3 (fun u w => BtO xl xt xr u w ∧ QB w gq qn), pdOne 4 (IsS gp gq qn (.bool true)), pdOne 5 (IsS gp gq qn (.bool false)), pdOne 6 (IsS gp gq qn (.bool false)), pdOne 7 (Is (.pointer (some ⟨gp, 0, none⟩))), pdOne 8 (Is (.int .i64 qn.2)), pdOne 9 (Is (.pointer (some ⟨gq, 0, none⟩))), pdOne 10 (Is (.pointer (some ⟨gq, 0, none⟩))), pdOne 11 (Is (.pointer (some ⟨gq, 2, none⟩))), pdOne 12 (Is (.int .i64 qn.2)), pdOne 13 (Is (.bool false)), pdOne 14 (IsS gp gq qn (.bool false)), pdOne 15 (IsS gp gq qn (.bool false)), pdOne 16 (Is (.pointer (some ⟨gp, 0, none⟩))), pdOne 17 (Is (.int .i64 (qn.1.length : Nat))), pdOne 18 (Is (.pointer (some ⟨gq, 0, none⟩))), pdOne 19 (Is (.int .i64 (qn.1.length : Nat))), pdOne 20 (Is (.bool false)), pdOne 21 (IsS gp gq qn (.bool false))] (fun k w7 => (k = 1 → QA w7 gp q) ∧ (k = 3 → QB w7 gq q)) (by kernel_rfl) rfl (by kernel_rfl) (by kernel_rfl) (by kernel_rfl) (by kernel_rfl) ?keep ?hO ?h0 ?tell
          case hR => exact fun wa wb hb ⟨h1, h2⟩ => ⟨h1.trans (hb.mono h1.size), Nat.le_trans h2 hb.size⟩
          case r0 => exact ⟨HB.out, Nat.le_refl _⟩
          case keep => exact ⟨keep_one (keeps_is _), keep_one (keeps_btF _ _ _ _ _ _), keep_one (keeps_is _), keep_one (fun _ _ _ hb ⟨h1, h2⟩ => ⟨keeps_btO _ _ _ _ _ _ hb h1, QB.later h2 hb⟩), keep_one (keeps_isS _ _ _ _), keep_one (keeps_isS _ _ _ _), keep_one (keeps_isS _ _ _ _), keep_one (keeps_is _), keep_one (keeps_is _), keep_one (keeps_is _), keep_one (keeps_is _), keep_one (keeps_is _), keep_one (keeps_is _), keep_one (keeps_is _), keep_one (keeps_isS _ _ _ _), keep_one (keeps_isS _ _ _ _), keep_one (keeps_is _), keep_one (keeps_is _), keep_one (keeps_is _), keep_one (keeps_is _), keep_one (keeps_is _), keep_one (keeps_isS _ _ _ _), trivial⟩
          case hO => exact fun k wa wb hb ⟨h1, h2⟩ => ⟨fun e => QA.later (h1 e) hb, fun e => QB.later (h2 e) hb⟩
          case h0 => exact fun k _ => ⟨fun _ => HP.out, fun _ => HQ.out⟩
          case tell =>
            intro fin hfin
            simp [lexPut, Act.put] at hfin
            simp only [TellQ]
            refine ⟨⟨?_, ?_, ?_, ?_, ?_, ?_, ?_, ?_, ?_, ?_, ?_, ?_, ?_, ?_, ?_, ?_, ?_, ?_, ?_, ?_, ?_, ?_, trivial⟩, ?_⟩
            · intro v2 w7 hr hd
              refine ⟨by intro j b e; simp at e, ?_⟩
              exact yields_move rfl (by rfl)
            · intro v2 w7 hr ho hd
              refine ⟨by intro j b e; simp at e, ?_⟩
              have h0 : v2 0 = _ := hd 0 (by kernel_rfl)
              refine .inl (yieldsW_callR (f := 23) rfl (vs := #[.pointer (some ⟨gp, 0, none⟩)]) (by simp [Act.eval, Act.put, h0]) rfl Try.func23 (by kernel_rfl) (by kernel_rfl) ?_)
              refine (RA.out w7 (ho.1 (by first | rfl | trivial))).mono fun e1 w8 ⟨B, c1, he, hl, hf, hq, hg⟩ => ⟨_, he, ⟨hr.1.grown hg (by have := hr.2; omega) (fun j e => by cases e; omega), Nat.le_trans hr.2 hg.size⟩, ?_, ?_, ⟨B, c1, rfl, hl, fun a ea => by have := hf a ea; have := hr.2; omega⟩, hq⟩
              · intro k2 u hk2 hc hu
                exact match k2, hk2, hc, hu with
                  | 0, _, _, hu => hu
                  | 1, hk2, _, _ => absurd rfl hk2
                  | 2, _, _, hu => hu
                  | 3, _, hc, _ => absurd hc (by decide)
                  | 4, _, hc, _ => absurd hc (by decide)
                  | 5, _, hc, _ => absurd hc (by decide)
                  | 6, _, hc, _ => absurd hc (by decide)
                  | 7, _, hc, _ => absurd hc (by decide)
                  | 8, _, hc, _ => absurd hc (by decide)
                  | 9, _, hc, _ => absurd hc (by decide)
                  | 10, _, hc, _ => absurd hc (by decide)
                  | 11, _, hc, _ => absurd hc (by decide)
                  | 12, _, hc, _ => absurd hc (by decide)
                  | 13, _, hc, _ => absurd hc (by decide)
                  | 14, _, hc, _ => absurd hc (by decide)
                  | 15, _, hc, _ => absurd hc (by decide)
                  | 16, _, hc, _ => absurd hc (by decide)
                  | 17, _, hc, _ => absurd hc (by decide)
                  | 18, _, hc, _ => absurd hc (by decide)
                  | 19, _, hc, _ => absurd hc (by decide)
                  | 20, _, hc, _ => absurd hc (by decide)
                  | 21, _, hc, _ => absurd hc (by decide)
                  | _ + 22, _, _, _ => trivial
              · intro k2 hk2 hn hc2 ⟨h1, h2⟩
                exact ⟨fun e => absurd e hk2, fun e => QB.turned (h2 e) hg (by simp; omega)⟩
            · intro v2 w7 hr hd
              refine ⟨by intro j b e; simp at e, ?_⟩
              exact yields_move rfl (by rfl)
            · intro v2 w7 hr ho hd
              refine ⟨by intro j b e; simp at e, ?_⟩
              have h2 : v2 2 = _ := hd 2 (by kernel_rfl)
              refine .inl (yieldsW_callR (f := 24) rfl (vs := #[.pointer (some ⟨gq, 0, none⟩)]) (by simp [Act.eval, Act.put, h2]) rfl Try.func24 (by kernel_rfl) (by kernel_rfl) ?_)
              refine (RB.out w7 (ho.2 (by first | rfl | trivial))).mono fun e1 w8 ⟨B, c1, he, hl, hf, hq, hg⟩ => ⟨_, he, ⟨hr.1.grown hg (by have := hr.2; omega) (fun j e => by cases e; omega), Nat.le_trans hr.2 hg.size⟩, ?_, ?_, ⟨B, c1, rfl, hl⟩, hq⟩
              · intro k2 u hk2 hc hu
                exact match k2, hk2, hc, hu with
                  | 0, _, _, hu => hu
                  | 1, _, _, ⟨⟨B, c, h1, h2, h4⟩, h3⟩ => ⟨⟨B, c, h1, lg_past h2 hg h4, h4⟩, QA.turned h3 hg (by simp; omega)⟩
                  | 2, _, _, hu => hu
                  | 3, hk2, _, _ => absurd rfl hk2
                  | 4, _, hc, _ => absurd hc (by decide)
                  | 5, _, hc, _ => absurd hc (by decide)
                  | 6, _, hc, _ => absurd hc (by decide)
                  | 7, _, hc, _ => absurd hc (by decide)
                  | 8, _, hc, _ => absurd hc (by decide)
                  | 9, _, hc, _ => absurd hc (by decide)
                  | 10, _, hc, _ => absurd hc (by decide)
                  | 11, _, hc, _ => absurd hc (by decide)
                  | 12, _, hc, _ => absurd hc (by decide)
                  | 13, _, hc, _ => absurd hc (by decide)
                  | 14, _, hc, _ => absurd hc (by decide)
                  | 15, _, hc, _ => absurd hc (by decide)
                  | 16, _, hc, _ => absurd hc (by decide)
                  | 17, _, hc, _ => absurd hc (by decide)
                  | 18, _, hc, _ => absurd hc (by decide)
                  | 19, _, hc, _ => absurd hc (by decide)
                  | 20, _, hc, _ => absurd hc (by decide)
                  | 21, _, hc, _ => absurd hc (by decide)
                  | _ + 22, _, _, _ => trivial
              · intro k2 hk2 hn hc2 ⟨h1, h2⟩
                exact ⟨fun e => by subst e; exact absurd hc2 (by decide), fun e => absurd e hk2⟩
            · intro v2 w7 hr hd
              refine ⟨by intro j b e; simp at e, ?_⟩
              obtain ⟨⟨B, c1, e1, l1, -⟩, qa⟩ : BtF gp gq xl xt xr qn (v2 1) w7 := hd 1 (by kernel_rfl)
              obtain ⟨⟨D, c3, e3, l3⟩, qb⟩ : BtO xl xt xr (v2 3) w7 ∧ QB w7 gq qn := hd 3 (by kernel_rfl)
              refine yields_call (f := 22) rfl (vs := #[.agg (bt xl xt B xr.length c1), .agg (bt xl xt D xr.length c3)]) (by simp [Act.eval, Act.put, e1, e3]) rfl Try.func22 (by kernel_rfl) (by kernel_rfl) ?_
              exact (AK.out B D c1 c3 w7 l1 l3).mono fun e w' ⟨he, hb⟩ => ⟨_, he, hb, rfl, QA.later qa hb, QB.later qb hb⟩
            · intro v2 w7 hr hd
              refine ⟨by intro j b e; simp at e, ?_⟩
              have h4 : v2 4 = _ := (hd 4 (by kernel_rfl)).1
              refine yields_run (u := .bool false) (w' := w7) ?_ (Below.refl _ _) ⟨rfl, (hd 4 (by kernel_rfl)).2⟩
              unfold execOp
              simp [go_sem, Act.eval, Act.put, h4]
            · intro v2 w7 hr hd
              refine ⟨by intro j b e; simp at e, ?_⟩
              have h5 : v2 5 = _ := (hd 5 (by kernel_rfl)).1
              refine yields_run (u := .bool false) (w' := w7) ?_ (Below.refl _ _) ⟨rfl, (hd 5 (by kernel_rfl)).2⟩
              unfold execOp
              simp [go_sem, Act.eval, Act.put, h5]
            · intro v2 w7 hr hd
              refine ⟨(by
                intro j b e
                simp only [Option.some.injEq, Prod.mk.injEq] at e
                obtain ⟨rfl, rfl⟩ := e
                exact (hd 6 (by kernel_rfl)).1), ?_⟩
              refine yields_run (u := .pointer (some ⟨gp, 0, none⟩)) (w' := w7) ?_ (Below.refl _ _) rfl
              unfold execOp
              simp [go_sem, Act.eval, Act.put]
            · intro v2 w7 hr hd
              refine ⟨(by
                intro j b e
                simp only [Option.some.injEq, Prod.mk.injEq] at e
                obtain ⟨rfl, rfl⟩ := e
                exact (hd 6 (by kernel_rfl)).1), ?_⟩
              have h7 : v2 7 = _ := hd 7 (by kernel_rfl)
              have hS : IsS gp gq qn (.bool false) (v2 6) w7 := hd 6 (by kernel_rfl)
              refine yields_call (f := 25) rfl (vs := #[.pointer (some ⟨gp, 0, none⟩)]) (by simp [Act.eval, Act.put, h7]) rfl Try.func25 (by kernel_rfl) (by kernel_rfl) ?_
              exact (errQA gp qn w7 hS.2.1).mono fun e w' ⟨he, hw⟩ => ⟨_, he, by rw [← hw]; exact Below.refl _ _, rfl⟩
            · intro v2 w7 hr hd
              refine ⟨(by
                intro j b e
                simp only [Option.some.injEq, Prod.mk.injEq] at e
                obtain ⟨rfl, rfl⟩ := e
                exact (hd 6 (by kernel_rfl)).1), ?_⟩
              refine yields_run (u := .pointer (some ⟨gq, 0, none⟩)) (w' := w7) ?_ (Below.refl _ _) rfl
              unfold execOp
              simp [go_sem, Act.eval, Act.put]
            · intro v2 w7 hr hd
              refine ⟨(by
                intro j b e
                simp only [Option.some.injEq, Prod.mk.injEq] at e
                obtain ⟨rfl, rfl⟩ := e
                exact (hd 6 (by kernel_rfl)).1), ?_⟩
              have h9 : v2 9 = _ := hd 9 (by kernel_rfl)
              refine yields_run (u := .pointer (some ⟨gq, 0, none⟩)) (w' := w7) ?_ (Below.refl _ _) rfl
              unfold execOp
              simp [go_sem, Act.eval, Act.put, h9]
            · intro v2 w7 hr hd
              refine ⟨(by
                intro j b e
                simp only [Option.some.injEq, Prod.mk.injEq] at e
                obtain ⟨rfl, rfl⟩ := e
                exact (hd 6 (by kernel_rfl)).1), ?_⟩
              have h10 : v2 10 = _ := hd 10 (by kernel_rfl)
              refine yields_run (u := .pointer (some ⟨gq, 2, none⟩)) (w' := w7) ?_ (Below.refl _ _) rfl
              unfold execOp
              simp [go_sem, Act.eval, Act.put, h10]
            · intro v2 w7 hr hd
              refine ⟨(by
                intro j b e
                simp only [Option.some.injEq, Prod.mk.injEq] at e
                obtain ⟨rfl, rfl⟩ := e
                exact (hd 6 (by kernel_rfl)).1), ?_⟩
              have h11 : v2 11 = _ := hd 11 (by kernel_rfl)
              have hS : IsS gp gq qn (.bool false) (v2 6) w7 := hd 6 (by kernel_rfl)
              have ke := hS.2.2.err
              refine yields_run (u := .int .i64 qn.2) (w' := w7) ?_ (Below.refl _ _) rfl
              unfold execOp
              simp [go_sem, Act.eval, Act.put, h11, ke]
            · intro v2 w7 hr hd
              refine ⟨(by
                intro j b e
                simp only [Option.some.injEq, Prod.mk.injEq] at e
                obtain ⟨rfl, rfl⟩ := e
                exact (hd 6 (by kernel_rfl)).1), ?_⟩
              have h8 : v2 8 = _ := hd 8 (by kernel_rfl)
              have h12 : v2 12 = _ := hd 12 (by kernel_rfl)
              refine yields_run (u := .bool false) (w' := w7) ?_ (Below.refl _ _) rfl
              unfold execOp
              simp [go_sem, Act.eval, Act.put, h8, h12]
            · intro v2 w7 hr hd
              refine ⟨by intro j b e; simp at e, ?_⟩
              have h6 : v2 6 = _ := (hd 6 (by kernel_rfl)).1
              have h13 : v2 13 = _ := hd 13 (by kernel_rfl)
              refine yields_run (u := .bool false) (w' := w7) ?_ (Below.refl _ _) ⟨rfl, (hd 6 (by kernel_rfl)).2⟩
              unfold execOp
              simp [go_sem, Act.eval, Act.put, h6, h13]
            · intro v2 w7 hr hd
              refine ⟨by intro j b e; simp at e, ?_⟩
              have h14 : v2 14 = _ := (hd 14 (by kernel_rfl)).1
              refine yields_run (u := .bool false) (w' := w7) ?_ (Below.refl _ _) ⟨rfl, (hd 14 (by kernel_rfl)).2⟩
              unfold execOp
              simp [go_sem, Act.eval, Act.put, h14]
            · intro v2 w7 hr hd
              refine ⟨(by
                intro j b e
                simp only [Option.some.injEq, Prod.mk.injEq] at e
                obtain ⟨rfl, rfl⟩ := e
                exact (hd 15 (by kernel_rfl)).1), ?_⟩
              refine yields_run (u := .pointer (some ⟨gp, 0, none⟩)) (w' := w7) ?_ (Below.refl _ _) rfl
              unfold execOp
              simp [go_sem, Act.eval, Act.put]
            · intro v2 w7 hr hd
              refine ⟨(by
                intro j b e
                simp only [Option.some.injEq, Prod.mk.injEq] at e
                obtain ⟨rfl, rfl⟩ := e
                exact (hd 15 (by kernel_rfl)).1), ?_⟩
              have h16 : v2 16 = _ := hd 16 (by kernel_rfl)
              have hS : IsS gp gq qn (.bool false) (v2 15) w7 := hd 15 (by kernel_rfl)
              refine yields_call (f := 26) rfl (vs := #[.pointer (some ⟨gp, 0, none⟩)]) (by simp [Act.eval, Act.put, h16]) rfl Try.func26 (by kernel_rfl) (by kernel_rfl) ?_
              exact (leftQA gp qn w7 hS.2.1).mono fun e w' ⟨he, hw⟩ => ⟨_, he, by rw [← hw]; exact Below.refl _ _, rfl⟩
            · intro v2 w7 hr hd
              refine ⟨(by
                intro j b e
                simp only [Option.some.injEq, Prod.mk.injEq] at e
                obtain ⟨rfl, rfl⟩ := e
                exact (hd 15 (by kernel_rfl)).1), ?_⟩
              refine yields_run (u := .pointer (some ⟨gq, 0, none⟩)) (w' := w7) ?_ (Below.refl _ _) rfl
              unfold execOp
              simp [go_sem, Act.eval, Act.put]
            · intro v2 w7 hr hd
              refine ⟨(by
                intro j b e
                simp only [Option.some.injEq, Prod.mk.injEq] at e
                obtain ⟨rfl, rfl⟩ := e
                exact (hd 15 (by kernel_rfl)).1), ?_⟩
              have h18 : v2 18 = _ := hd 18 (by kernel_rfl)
              have hS : IsS gp gq qn (.bool false) (v2 15) w7 := hd 15 (by kernel_rfl)
              refine yields_call (f := 27) rfl (vs := #[.pointer (some ⟨gq, 0, none⟩)]) (by simp [Act.eval, Act.put, h18]) rfl Try.func27 (by kernel_rfl) (by kernel_rfl) ?_
              exact (leftQB gq qn w7 hS.2.2).mono fun e w' ⟨he, hb⟩ => ⟨_, he, hb, rfl⟩
            · intro v2 w7 hr hd
              refine ⟨(by
                intro j b e
                simp only [Option.some.injEq, Prod.mk.injEq] at e
                obtain ⟨rfl, rfl⟩ := e
                exact (hd 15 (by kernel_rfl)).1), ?_⟩
              have h17 : v2 17 = _ := hd 17 (by kernel_rfl)
              have h19 : v2 19 = _ := hd 19 (by kernel_rfl)
              refine yields_run (u := .bool false) (w' := w7) ?_ (Below.refl _ _) rfl
              unfold execOp
              simp [go_sem, Act.eval, Act.put, h17, h19]
            · intro v2 w7 hr hd
              refine ⟨by intro j b e; simp at e, ?_⟩
              have h15 : v2 15 = _ := (hd 15 (by kernel_rfl)).1
              have h20 : v2 20 = _ := hd 20 (by kernel_rfl)
              refine yields_run (u := .bool false) (w' := w7) ?_ (Below.refl _ _) ⟨rfl, (hd 15 (by kernel_rfl)).2⟩
              unfold execOp
              simp [go_sem, Act.eval, Act.put, h15, h20]
            · intro v2 w7 hr hv
              have h21 : v2 21 = .bool false := (hv 21 (by decide)).1
              obtain ⟨-, qa, qb⟩ : IsS gp gq qn (.bool false) (v2 15) w7 := hv 15 (by decide)
              rw [hfin, h21]
              clear hfin hv
              have QA7 := Lib.hid qa
              have QB7 := Lib.hid qb
              have HB7 := Lib.hid hr.1
              clear qa qb hr h21 RA RB AK
              generalize v2 = vy
              go_wp2_with fail
              go_roundw
              case rel => exact ⟨k + 1, qn, by omega, by go_num, hqn, QA7, QB7, HB7⟩
              case measure => simp [intOf]; omega
        · obtain rfl : k = 2 := by omega
          go_wp2_with fail
          go_ret
          exact ⟨rfl, HB.out⟩
end Go.Proofs.Ytaiaadojnoipfaa.data
