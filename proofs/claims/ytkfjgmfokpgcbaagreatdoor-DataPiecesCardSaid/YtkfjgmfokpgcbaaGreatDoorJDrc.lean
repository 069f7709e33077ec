/-
  The contract of the readers of data and watershedref11, in common.
  The contract of data.Read.
-/
import Derived.Test.YtkfjgmfokpgcbaaGreatDoorJDto
import Derived.Test.YtkfjgmfokpgcbaaGreatDoorJDw
import Derived.Handy
import Derived.BigQuiet
import Derived.Deep.CutBlock
namespace Go.Proofs.YtkfjgmfokpgcbaaGreatDoor.data
open Go.ChangeShapes Go.WideShapes Go.ChangeAt Go.RowKit
open Go.Proofs.YtkfjgmfokpgcbaaGreatDoor.tm Go.Proofs.YtkfjgmfokpgcbaaGreatDoor.opened Go.Proofs.YtkfjgmfokpgcbaaGreatDoor.block Go.Proofs.YtkfjgmfokpgcbaaGreatDoor.region Go.Proofs.YtkfjgmfokpgcbaaGreatDoor.stamp Go.Proofs.YtkfjgmfokpgcbaaGreatDoor.code Go.Proofs.YtkfjgmfokpgcbaaGreatDoor.enc

/-- What a Read answers: a batch, and the reader behind it. -/
def BtAns (Q : World → Nat → Rq → Prop) (g : Nat) (w : World) (l : Int) (t : Tm) (L : List Rc) (q : Rq) : Ending → World → Prop := fun e w' => ∃ B c, e = .returned (.agg (bt l t B L.length c)) ∧ Lr w' B L ∧ (∀ a, B = some a → w.heap.size ≤ a.block) ∧ Q w' g q ∧ w.grownBy w' (some g)
theorem btAns_of {Q : World → Nat → Rq → Prop} {g : Nat} {w w' : World} {l : Int} {t : Tm} {L : List Rc} {q : Rq} {e : Ending} {B : Option Addr} {c : Nat} (h : e = .returned (.agg (bt l t B L.length c))) (h1 : Lr w' B L) (h4 : ∀ a, B = some a → w.heap.size ≤ a.block) (h2 : Q w' g q) (h3 : w.grownBy w' (some g)) : BtAns Q g w l t L q e w' := ⟨B, c, h, h1, h4, h2, h3⟩
theorem facts7 {w : World} {g : Nat} {T : TypeId} {a b c d e f s : Value} (h : Whole w g T #[a, b, c, d, e, f, s]) :
    w.cell? ⟨g, 0, none⟩ = some a ∧ w.cell? ⟨g, 1, none⟩ = some b ∧ w.cell? ⟨g, 2, none⟩ = some c ∧ w.cell? ⟨g, 3, none⟩ = some d ∧ w.cell? ⟨g, 4, none⟩ = some e ∧ w.cell? ⟨g, 5, none⟩ = some f ∧ w.cell? ⟨g, 6, none⟩ = some s ∧
    w.frozen? ⟨g, 0, none⟩ = false ∧ w.frozen? ⟨g, 1, none⟩ = false ∧ w.frozen? ⟨g, 2, none⟩ = false ∧ w.frozen? ⟨g, 3, none⟩ = false ∧ w.frozen? ⟨g, 4, none⟩ = false ∧ w.frozen? ⟨g, 5, none⟩ = false ∧ w.frozen? ⟨g, 6, none⟩ = false :=
  ⟨h.read 0, h.read 1, h.read 2, h.read 3, h.read 4, h.read 5, h.read 6, h.soft 0, h.soft 1, h.soft 2, h.soft 3, h.soft 4, h.soft 5, h.soft 6⟩
/-- A time is stored into a batch. -/
def set5 (w : World) (g : Nat) (t : Tm) : World := ((((w.setCell ⟨g, 1, none⟩ (.int .u32 t.e)).setCell ⟨g, 2, none⟩ (.int .i64 t.d)).setCell ⟨g, 3, none⟩ (.int .u32 t.a)).setCell ⟨g, 4, none⟩ (.int .u32 t.b)).setCell ⟨g, 5, none⟩ (.int .u32 t.c)
theorem grown_set5 (w : World) (g : Nat) (t : Tm) : w.grownBy (set5 w g t) (some g) := only_store (only_store (only_store (only_store (only_store (World.grownBy.refl w _) _) _) _) _) _
theorem whole_set5 {w : World} {g : Nat} {T : TypeId} {l : Int} {s : Tm} {A : Option Addr} {n c : Nat} (h : Whole w g T (bt l s A n c)) (t : Tm) : Whole (set5 w g t) g T (bt l t A n c) := ((((h.store 1 _).store 2 _).store 3 _).store 4 _).store 5 _
/-- A batch is stored. -/
def set7 (w : World) (g : Nat) (l : Int) (t : Tm) (A : Option Addr) (n c : Nat) : World := ((((((w.setCell ⟨g, 0, none⟩ (.int .i64 l)).setCell ⟨g, 1, none⟩ (.int .u32 t.e)).setCell ⟨g, 2, none⟩ (.int .i64 t.d)).setCell ⟨g, 3, none⟩ (.int .u32 t.a)).setCell ⟨g, 4, none⟩ (.int .u32 t.b)).setCell ⟨g, 5, none⟩ (.int .u32 t.c)).setCell ⟨g, 6, none⟩ (.slice A n c)
theorem grown_set7 (w : World) (g : Nat) (l : Int) (t : Tm) (A : Option Addr) (n c : Nat) : w.grownBy (set7 w g l t A n c) (some g) := only_store (only_store (only_store (only_store (only_store (only_store (only_store (World.grownBy.refl w _) _) _) _) _) _) _) _
theorem whole_set7 {w : World} {g : Nat} {T : TypeId} {l0 : Int} {s : Tm} {A0 : Option Addr} {n0 c0 : Nat} (h : Whole w g T (bt l0 s A0 n0 c0)) (l : Int) (t : Tm) (A : Option Addr) (n c : Nat) : Whole (set7 w g l t A n c) g T (bt l t A n c) := by
  have h0 : Whole _ g T (bt l s A0 n0 c0) := h.store 0 (.int .i64 l)
  have h1 := whole_set5 h0 t
  have h2 : Whole _ g T (bt l t A n c) := h1.store 6 (.slice A n c)
  exact h2
theorem QA.later {w w' : World} {g : Nat} {q : Rq} (h : QA w g q) (hb : Below w.heap.size w w') : QA w' g q := Whole.below h hb (Whole.inside h)
theorem QA.turned {w w' : World} {g : Nat} {q : Rq} {row : Option Nat} (h : QA w g q) (hg : w.grownBy w' row) (hn : some g ≠ row) : QA w' g q := Whole.grown h hg hn
theorem sgA (g : Nat) (q : Rq) (hl : q.1.length ≤ 9223372036854775807) (w : World) (h : QA w g q) :
    Calls Tryz.prog 33 #[.pointer (some ⟨g, 0, none⟩)] w fun r w' => r = .returned (.int .i64 (sg q).1) ∧ QA w' g (sg q).2 ∧ w.grownBy w' (some g) := signedA g q.1 q.2 hl w h
theorem failQA (g : Nat) (q : Rq) (x : Int) (w : World) (h : QA w g q) :
    Calls Tryz.prog 34 #[.pointer (some ⟨g, 0, none⟩), .int .i64 x] w fun r w' => r = .returned (.tuple #[]) ∧ QA w' g (q.1, rFail q.2 x) ∧ w.grownBy w' (some g) := failA g q.1 q.2 x w h
theorem leftQA (g : Nat) (q : Rq) (w : World) (h : QA w g q) : Calls Tryz.prog 18 #[.pointer (some ⟨g, 0, none⟩)] w fun r w' => r = .returned (.int .i64 q.1.length) ∧ w = w' := leftA g q.1 q.2 w h
end Go.Proofs.YtkfjgmfokpgcbaaGreatDoor.data
namespace Go.Proofs.YtkfjgmfokpgcbaaGreatDoor.data
open Go.ChangeShapes Go.WideShapes Go.ChangeAt Go.RowKit
open Go.Proofs.YtkfjgmfokpgcbaaGreatDoor.tm Go.Proofs.YtkfjgmfokpgcbaaGreatDoor.opened Go.Proofs.YtkfjgmfokpgcbaaGreatDoor.block Go.Proofs.YtkfjgmfokpgcbaaGreatDoor.region Go.Proofs.YtkfjgmfokpgcbaaGreatDoor.stamp Go.Proofs.YtkfjgmfokpgcbaaGreatDoor.code Go.Proofs.YtkfjgmfokpgcbaaGreatDoor.enc

def SgQA (g : Nat) (v : Int) (q : Rq) : Value → World → Prop := fun u w => u = .int .i64 v ∧ QA w g q
theorem keeps_sgQA (g : Nat) (v : Int) (q : Rq) : Keeps (SgQA g v q) := fun _ _ _ hb ⟨h1, h2⟩ => ⟨h1, QA.later h2 hb⟩
set_option maxRecDepth 100000 in
set_option maxHeartbeats 8000000 in
theorem readB_any (g : Nat) (q : Rq) (hl : q.1.length ≤ 9223372036854775807) (w : World) (h : QA w g q) :
    Calls Tryz.prog 16 #[.pointer (some ⟨g, 0, none⟩)] w (BtAns QA g w (vL q) (vT q) (vR q) (bQ q)) := by
  obtain ⟨i0, hi0, hz0, hz1, hz2⟩ := infoR_parts
  obtain ⟨n0, n1, nl⟩ := nx_bd q (m := 1000) (by omega)
  obtain ⟨m0, m1, -⟩ := nx_bd (bQ1 q) (m := 64) (by omega)
  have hgw := h.inside
  have hmN : (nx (bQ1 q) 64).1 = (bN q : Int) := by unfold bN; omega
  have hN := bN_le q
  have H0 := Lib.hid h
  have ST : Hid (∀ W, QA W g q → Calls Tryz.prog 31 #[.pointer (some ⟨g, 0, none⟩), .int .i64 1000] W fun r w' => r = .returned (.int .i64 (bL q)) ∧ QA w' g (nx q 1000).2 ∧ W.grownBy w' (some g)) := Lib.hid (fun W hW => stepA g q 1000 hl (by omega) (by omega) W hW)
  have RA : Hid (∀ W, QA W g (nx q 1000).2 → Calls Tryz.prog 32 #[.pointer (some ⟨g, 0, none⟩)] W fun r w' => r = .returned (.agg #[.int .u32 (bT q).e, .int .i64 (bT q).d, .int .u32 (bT q).a, .int .u32 (bT q).b, .int .u32 (bT q).c]) ∧ QA w' g (bQ1 q) ∧ W.grownBy w' (some g)) := Lib.hid (fun W hW => readA g (nx q 1000).2 (Nat.le_trans nl hl) W hW)
  have ST2 : Hid (∀ W, QA W g (bQ1 q) → Calls Tryz.prog 31 #[.pointer (some ⟨g, 0, none⟩), .int .i64 64] W fun r w' => r = .returned (.int .i64 (bN q : Int)) ∧ QA w' g (bQ2 q) ∧ W.grownBy w' (some g)) := Lib.hid (fun W hW => by
    have := stepA g (bQ1 q) 64 (Nat.le_trans (bQ1_len q) hl) (by omega) (by omega) W hW
    rwa [hmN] at this)
  have hlq := Lib.hid (fun k => Nat.le_trans (rdR_left (bQ2 q) k) (Nat.le_trans (bQ2_len q) hl))
  have HL : Hid ((rdR (bQ2 q) (bN q)).1 = bR q) := Lib.hid rfl
  have HQ : Hid ((rdR (bQ2 q) (bN q)).2 = bQ3 q) := Lib.hid rfl
  have HZ0 : Hid (bN q = 0 → ((bQ3 q).1, rFail (bQ3 q).2 3) = bQ q) := Lib.hid (fun h => by unfold bQ; rw [if_pos h])
  have HZ1 : Hid (bN q ≠ 0 → bQ3 q = bQ q) := Lib.hid (fun h => by unfold bQ; rw [if_neg h])
  have HV0 : Hid ((bQ q).2 = 0 → vL q = bL q ∧ vT q = bT q ∧ vR q = bR q) := Lib.hid (fun h => ⟨by unfold vL; rw [if_pos h], by unfold vT; rw [if_pos h], by unfold vR; rw [if_pos h]⟩)
  have HV1 : Hid ((bQ q).2 ≠ 0 → vL q = 0 ∧ vT q = T0 ∧ vR q = []) := Lib.hid (fun h => ⟨by unfold vL; rw [if_neg h], by unfold vT; rw [if_neg h], by unfold vR; rw [if_neg h]⟩)
  clear h n0 n1 m0 m1 hmN nl
  generalize vL q = xl at HV0 HV1 ⊢
  generalize vT q = xt at HV0 HV1 ⊢
  generalize vR q = xr at HV0 HV1 ⊢
  generalize bQ q = qz at HV0 HV1 HZ0 HZ1 ⊢
  generalize bQ3 q = qf at HZ0 HZ1 HQ
  generalize bR q = LR at HV0 HL
  generalize bQ2 q = q2 at ST2 hlq HL HQ
  generalize bQ1 q = q1 at RA ST2
  generalize bN q = n at ST2 hN HL HQ HZ0 HZ1
  generalize bL q = l at ST HV0
  generalize bT q = t at RA HV0
  generalize (nx q 1000).2 = q0 at ST RA
  go_enter Tryz.func16, Tryz.ntmps16
  go_upto_region 2 with (go_at_call 31; refine (ST.out _ (QA.alloc H0.out _)).mono ?_; rintro e w1 ⟨rfl, h1, g1⟩; have Q1 := Lib.hid h1; have G1 := Lib.hid g1; clear h1 g1)
  change Code.wp _ _ _ _ (w1.alloc (.cells (bt l T0 none 0 0) 46))
  have R1 : Whole w1 w.heap.size 46 (bt 0 T0 none 0 0) := (Whole.fresh w 46 _).grown G1.out (by simp; omega)
  have O1 : w.grownBy w1 (some g) := only_trans (only_alloc (World.grownBy.refl w _) _) G1.out
  have hrb : w.heap.size < w1.heap.size := R1.inside
  have W2 := Lib.hid (Whole.fresh w1 46 (bt l T0 none 0 0))
  have Q2 := Lib.hid (QA.alloc Q1.out (.cells (bt l T0 none 0 0) 46))
  have R2 := Lib.hid (R1.alloc (.cells (bt l T0 none 0 0) 46))
  have O2 := Lib.hid (only_alloc O1 (.cells (bt l T0 none 0 0) 46))
  generalize w1.alloc (.cells (bt l T0 none 0 0) 46) = w2 at W2 Q2 R2 O2 ⊢
  obtain ⟨gb, hgb⟩ : ∃ gb, gb = w1.heap.size := ⟨_, rfl⟩
  obtain ⟨gr, hgr⟩ : ∃ gr, gr = w.heap.size := ⟨_, rfl⟩
  rw [← hgb] at W2 hrb ⊢
  rw [← hgr] at R2 hrb hgw ⊢
  have hgr0 : w.heap.size ≤ gr := by omega
  have hgb0 : w.heap.size ≤ gb := by omega
  clear hgb hgr R1 O1 G1 Q1 ST H0
  go_upto_region 3 with (go_at_call 32; refine (RA.out _ Q2.out).mono ?_; rintro e w3 ⟨rfl, h3, g3⟩; have Q3 := Lib.hid h3; have G3 := Lib.hid g3; clear h3 g3; have W3 := Lib.hid (W2.out.grown G3.out (by simp; omega)); obtain ⟨-, -, -, -, -, -, -, f0, f1, f2, f3, f4, f5, f6⟩ := facts7 W3.out; obtain ⟨c0, c1, c2, c3, c4, c5, c6, -⟩ := facts7 W3.out)
  change Code.wp _ _ _ _ (set5 w3 gb t)
  clear f0 f1 f2 f3 f4 f5 f6 c0 c1 c2 c3 c4 c5 c6
  have hset := grown_set5 w3 gb t
  have W4 := Lib.hid (whole_set5 W3.out t)
  have R4 := Lib.hid ((R2.out.grown G3.out (by simp; omega)).grown hset (by simp; omega))
  have Q4 := Lib.hid (QA.turned Q3.out hset (by simp; omega))
  have O4 := Lib.hid (grown_own (only_trans O2.out G3.out) hset (fun j e => by cases e; exact hgb0))
  generalize set5 w3 gb t = w4 at W4 R4 Q4 O4 ⊢
  clear hset W2 R2 Q2 O2 W3 G3 Q3 RA
  go_wp2_with (go_at_call 31; refine (ST2.out _ Q4.out).mono ?_; rintro e w5 ⟨rfl, h5, g5⟩; have Q5 := Lib.hid h5; have W5 := Lib.hid (W4.out.grown g5 (by simp; omega)); have R5 := Lib.hid (R4.out.grown g5 (by simp; omega)); have O5 := Lib.hid (only_trans O4.out g5); clear h5 g5)
  clear W4 R4 Q4 O4 ST2
  obtain ⟨zb, hzb⟩ : ∃ zb, zb = w5.heap.size := ⟨_, rfl⟩
  have hgbz : gb < zb := by have := W5.out.inside; omega
  have hgrz : gr < zb := by omega
  have hgz : g < zb := by omega
  go_loopw [13] (fun s wr => ∃ (k : Nat) (N : List Rc) (D : Option Addr) (c1 : Nat), k ≤ n ∧ Hid (N.length = k) ∧ s = .int .i64 k ∧ Hid (N = (rdR q2 k).1) ∧ Hid (Whole wr gb 46 (bt l t D N.length c1)) ∧ Hid (OwnR wr zb (.slice D N.length c1) N) ∧ Hid (QA wr g (rdR q2 k).2) ∧ Hid (w.grownBy wr (some g)) ∧ Hid (Whole wr gr 46 (bt 0 T0 none 0 0)) ∧ zb ≤ wr.heap.size) (fun s _ => n - (intOf s).toNat)
  case atStart => exact ⟨0, [], none, 0, Nat.zero_le _, Lib.hid rfl, rfl, Lib.hid rfl, W5, Lib.hid (ownG_nil _ _), Q5, O5, R5, by omega⟩
  case round =>
    clear W5 Q5 O5 R5 hzb
    obtain ⟨k, N, D, c1, hk, HNk, rfl, HN, HW, HO, HR, HB, HGR, hzw⟩ := hrel
    have hNle : N.length ≤ 64 := by have := HNk.out; omega
    by_cases hlt : k < n
    · have SS := Lib.hid (fun W (hW : QA W g (rdR q2 k).2) => sgA g (rdR q2 k).2 (hlq.out k) W hW)
      have SA := Lib.hid (fun W (hW : QA W g (sg (rdR q2 k).2).2) => sgA g (sg (rdR q2 k).2).2 (Nat.le_trans (sg_bd _).2.2 (hlq.out k)) W hW)
      have EN : Hid ((rdR q2 (k + 1)).1 = N ++ [⟨(sg (rdR q2 k).2).1, (sg (sg (rdR q2 k).2).2).1⟩]) := Lib.hid (by rw [HN.out]; rfl)
      have EQ : Hid ((rdR q2 (k + 1)).2 = (sg (sg (rdR q2 k).2).2).2) := Lib.hid rfl
      generalize (sg (sg (rdR q2 k).2).2).1 = vl at SA EN
      generalize (sg (sg (rdR q2 k).2).2).2 = qn at SA EQ
      generalize (sg (rdR q2 k).2).1 = ky at SS EN
      generalize (sg (rdR q2 k).2).2 = qm at SS SA
      go_upto_region 6 with (go_at_call 33; refine (SS.out _ HR.out).mono ?_; rintro e wx ⟨rfl, h5, g5⟩; have QX := Lib.hid h5; have HOX := Lib.hid (HO.out.keptG g5 hgz); have HWX := Lib.hid (HW.out.grown g5 (by simp; omega)); have BX := Lib.hid (only_trans HB.out g5); have RX := Lib.hid (HGR.out.grown g5 (by simp; omega)); have hzx := Nat.le_trans hzw g5.size; clear h5 g5)
      clear SS HO HW HB HGR HR
      refine region_full 38 [(4, 9), (7, 9)] [(7, 1), (7, 4), (9, 1), (9, 4), (9, 7)] (fun k => k == 1 || k == 4 || k == 7 || k == 9) (fun w7 => w.grownBy w7 (some g) ∧ wx.heap.size ≤ w7.heap.size ∧ Whole w7 gr 46 (bt 0 T0 none 0 0)) ?hR ?r0 [pdOne 0 (Is (.pointer (some ⟨gb, 6, none⟩))), pdOne 1 (Is (.slice D N.length c1)), pdOne 2 (Is (.int .i64 ky)), pdOne 3 (Is (.pointer (some ⟨g, 0, none⟩))), pdOne 4 (SgQA g vl qn), pdOne 5 (Is (.agg #[.int .i64 ky, .int .i64 vl])), pdOne 6 (LoneG 33 cR wx.heap.size (⟨ky, vl⟩ : Rc)), pdOne 7 (NewG 33 2 cR zb (N ++ [(⟨ky, vl⟩ : Rc)])), pdOne 8 (Is (.pointer (some ⟨gb, 6, none⟩))), pdOne 9 (fun _ w7 => ∃ g' c', Whole w7 gb 46 (bt l t (some ⟨g', 0, none⟩) (N ++ [(⟨ky, vl⟩ : Rc)]).length c') ∧ OwnR w7 zb (.slice (some ⟨g', 0, none⟩) (N ++ [(⟨ky, vl⟩ : Rc)]).length c') (N ++ [(⟨ky, vl⟩ : Rc)]))] (fun k w7 => (k = 4 → QA w7 g qm) ∧ (k = 7 → OwnR w7 zb (.slice D N.length c1) N) ∧ ((k = 1 ∨ k = 9) → Whole w7 gb 46 (bt l t D N.length c1))) (by kernel_rfl) rfl (by kernel_rfl) (by kernel_rfl) (by kernel_rfl) (by kernel_rfl) ?keep ?hO ?h0 ?tell
      case hR => exact fun wa wb hb ⟨h1, h2, h3⟩ => ⟨grown_own h1 (grown_below hb (row := none)) (fun j e => by cases e), Nat.le_trans h2 hb.size, h3.below hb h3.inside⟩
      case r0 => exact ⟨BX.out, Nat.le_refl _, RX.out⟩
      case keep => exact ⟨keep_one (keeps_is _), keep_one (keeps_is _), keep_one (keeps_is _), keep_one (keeps_is _), keep_one (keeps_sgQA _ _ _), keep_one (keeps_is _), keep_one (keeps_loneG _ _), keep_one (keeps_newG _ _), keep_one (keeps_is _), keep_one (fun _ _ _ hb ⟨g', c', h1, h2⟩ => ⟨g', c', h1.below hb h1.inside, h2.below hb⟩), trivial⟩
      case hO => exact fun k wa wb hb ⟨h1, h2, h3⟩ => ⟨fun e => QA.later (h1 e) hb, fun e => (h2 e).below hb, fun e => (h3 e).below hb (h3 e).inside⟩
      case h0 => exact fun k _ => ⟨fun _ => QX.out, fun _ => HOX.out, fun _ => HWX.out⟩
      case tell =>
        intro fin hfin
        simp [lexPut, Act.put] at hfin
        simp only [TellF]
        refine ⟨⟨?_, ?_, ?_, ?_, ?_, ?_, ?_, ?_, ?_, ?_, trivial⟩, ?_⟩
        · intro v2 w7 hr hd
          refine yields_run (u := .pointer (some ⟨gb, 6, none⟩)) (w' := w7) ?_ (Below.refl _ _) rfl
          unfold execOp
          simp [go_sem, Act.eval]
        · intro v2 w7 hr ho hd
          have h0 : v2 0 = _ := hd 0 (by kernel_rfl)
          have k6 := (ho.2.2 (.inl (by first | rfl | trivial))).read 6
          refine .inl (.inl ⟨.slice D N.length c1, w7, ?_, hr, fun _ _ _ _ hu => hu, fun _ _ _ _ hu => hu, rfl⟩)
          unfold execOp
          simp [go_sem, Act.eval, Act.put, h0, k6]
        · intro v2 w7 hr hd
          exact yields_move rfl (by rfl)
        · intro v2 w7 hr hd
          exact yields_move rfl (by rfl)
        · intro v2 w7 hr ho hd
          have h3 : v2 3 = _ := hd 3 (by kernel_rfl)
          refine .inl (yieldsW_callR (f := 33) rfl (vs := #[.pointer (some ⟨g, 0, none⟩)]) (by simp [Act.eval, Act.put, h3]) rfl Tryz.func33 (by kernel_rfl) (by kernel_rfl) ?_)
          refine (SA.out w7 (ho.1 (by first | rfl | trivial))).mono fun e1 w8 ⟨he, hq, hg⟩ => ⟨_, he, ⟨only_trans hr.1 hg, Nat.le_trans hr.2.1 hg.size, hr.2.2.grown hg (by simp; omega)⟩, ?_, ?_, rfl, hq⟩
          · intro k2 u hk hc hu
            exact match k2, hk, hc, hu with
              | 0, _, _, hu => hu
              | 1, _, _, hu => hu
              | 2, _, _, hu => hu
              | 3, _, _, hu => hu
              | 4, hk, _, _ => absurd rfl hk
              | 5, _, _, hu => hu
              | 6, _, _, ⟨gx, h1, h2, h3⟩ => ⟨gx, h1, h2, h3.grown hg (by simp; omega)⟩
              | 7, _, _, ⟨g', c', h1, h2⟩ => ⟨g', c', h1, h2.keptG hg hgz⟩
              | 8, _, _, hu => hu
              | 9, _, hc, _ => absurd hc (by decide)
              | _ + 10, _, _, _ => trivial
          · intro k2 hk _ _ ⟨h1, h2, h4⟩
            exact ⟨fun e => absurd e hk, fun e => (h2 e).keptG hg hgz, fun e => (h4 e).grown hg (by simp; omega)⟩
        · intro v2 w7 hr hd
          have h2 : v2 2 = _ := hd 2 (by kernel_rfl)
          have h4 : v2 4 = _ := (hd 4 (by kernel_rfl)).1
          refine yields_run (u := .agg #[.int .i64 ky, .int .i64 vl]) (w' := w7) ?_ (Below.refl _ _) rfl
          unfold execOp
          simp [go_sem, Act.eval, Act.put, h2, h4]
        · intro v2 w7 hr hd
          have h5 : v2 5 = _ := hd 5 (by kernel_rfl)
          refine yields_run (u := .slice (some ⟨w7.heap.size, 0, none⟩) 1 1) (w' := w7.alloc (.cells (cR (⟨ky, vl⟩ : Rc)).toArray 33)) ?_ (fresh0 w7 _) ⟨w7.heap.size, rfl, hr.2.1, Whole.fresh w7 _ _⟩
          unfold execOp
          simp [go_sem, Act.eval, Act.put, h5, cR]
        · intro v2 w7 hr ho hd
          have h1 : v2 1 = _ := hd 1 (by kernel_rfl)
          obtain ⟨gy, hz, hyl, hw⟩ : LoneG 33 cR wx.heap.size (⟨ky, vl⟩ : Rc) (v2 6) w7 := hd 6 (by kernel_rfl)
          have ho7 := ho.2.1 (by first | rfl | trivial)
          refine .inl (yields_appendA (.tmp 18) (.tmp 23) 22 rfl zb 33 i0 (.agg #[.int .i64 0, .int .i64 0]) 2 16 Tryz.underlying22 hi0 hz0 hz1 hz2 rfl (by decide) (.slice D N.length c1) N.length (N.flatMap cR) (by simp [Act.eval, Act.put, h1]) ho7 ⟨gy, 0, none⟩ 1 1 (cR (⟨ky, vl⟩ : Rc)) (by simp [Act.eval, Act.put, hz]) rfl (whole_cells hw) (cellsR.one (⟨ky, vl⟩ : Rc)) (by decide) (by unfold maxLen; omega) (by omega) (Nat.le_trans hzx hr.2.1) ?_)
          intro g8 cap8 w8 hown hgrow hat
          have hab : ∀ j, (Value.slice D N.length c1).ownBlock = some j → zb ≤ j := fun j e => ho7.above e
          have hgn : some g ≠ (Value.slice D N.length c1).ownBlock := fun e => by have := hab g e.symm; omega
          have hbn : some gb ≠ (Value.slice D N.length c1).ownBlock := fun e => by have := hab gb e.symm; omega
          have hrn : some gr ≠ (Value.slice D N.length c1).ownBlock := fun e => by have := hab gr e.symm; omega
          refine ⟨⟨grown_own hr.1 hgrow (fun j e => by have := hab j e; omega), Nat.le_trans hr.2.1 hgrow.size, hr.2.2.grown hgrow hrn⟩, ?_, ?_, g8, cap8, by rw [List.length_append]; rfl, own_snoc hown⟩
          · intro k2 u hk hc hu
            exact match k2, hk, hc, hu with
              | 0, _, _, hu => hu
              | 1, _, _, hu => hu
              | 2, _, _, hu => hu
              | 3, _, _, hu => hu
              | 4, _, _, ⟨h1, h2⟩ => ⟨h1, QA.turned h2 hgrow hgn⟩
              | 5, _, _, hu => hu
              | 6, _, _, ⟨gx, h1, h2, h3⟩ => ⟨gx, h1, h2, h3.grown hgrow (HOX.out.away h2)⟩
              | 7, hk, _, _ => absurd rfl hk
              | 8, _, _, hu => hu
              | 9, _, hc, _ => absurd hc (by decide)
              | _ + 10, _, _, _ => trivial
          · intro k2 hk _ hc2 ⟨h1, h2, h4⟩
            exact ⟨fun e => QA.turned (h1 e) hgrow hgn, fun e => absurd e hk, fun e => (h4 e).grown hgrow hbn⟩
        · intro v2 w7 hr hd
          refine yields_run (u := .pointer (some ⟨gb, 6, none⟩)) (w' := w7) ?_ (Below.refl _ _) rfl
          unfold execOp
          simp [go_sem, Act.eval, Act.put]
        · intro v2 w7 hr ho hd
          have h8 : v2 8 = _ := hd 8 (by kernel_rfl)
          have hb7 : Whole w7 gb 46 (bt l t D N.length c1) := ho.2.2 (.inr (by first | rfl | trivial))
          obtain ⟨g8, c8, e8, ho8⟩ : NewG 33 2 cR zb (N ++ [(⟨ky, vl⟩ : Rc)]) (v2 7) w7 := hd 7 (by kernel_rfl)
          have k6 := hb7.read 6
          have f6 := hb7.soft 6
          have hset : w7.grownBy (w7.setCell ⟨gb, 6, none⟩ (v2 7)) (some gb) := only_store (World.grownBy.refl w7 (some gb)) _
          have hgn : some g ≠ some gb := by simp; omega
          refine .inr ⟨w7.setCell ⟨gb, 6, none⟩ (v2 7), ?_, ⟨grown_own hr.1 hset (fun j e => by cases e; exact hgb0), Nat.le_trans hr.2.1 hset.size, hr.2.2.grown hset (by simp; omega)⟩, ?_, ?_, ?_⟩
          · clear hset hb7
            rw [e8] at ho8 ⊢
            unfold execOp
            simp [go_sem, Act.eval, Act.put, h8, k6, f6]
          · intro k2 u hk hc hu
            exact match k2, hk, hc, hu with
              | 0, _, _, hu => hu
              | 1, _, _, hu => hu
              | 2, _, _, hu => hu
              | 3, _, _, hu => hu
              | 4, _, _, ⟨h1, h2⟩ => ⟨h1, QA.turned h2 hset hgn⟩
              | 5, _, _, hu => hu
              | 6, _, _, ⟨gx, h1, h2, h3⟩ => ⟨gx, h1, h2, h3.grown hset (by simp; omega)⟩
              | 7, _, _, ⟨g', c', h1, h2⟩ => ⟨g', c', h1, h2.keptG hset hgbz⟩
              | 8, _, _, hu => hu
              | 9, hk, _, _ => absurd rfl hk
              | _ + 10, _, _, _ => trivial
          · intro k2 hk _ hc2 ⟨h1, h2, h4⟩
            refine ⟨fun e => QA.turned (h1 e) hset hgn, fun e => (h2 e).keptG hset hgbz, fun e => ?_⟩
            rcases e with rfl | rfl
            · exact absurd hc2 (by decide)
            · exact absurd rfl hk
          · refine ⟨g8, c8, ?_, ?_⟩
            · have := hb7.store 6 (v2 7)
              rw [e8] at this ⊢
              exact this
            · have := ho8.keptG hset hgbz
              rw [e8] at this ⊢
              exact this
        · intro v2 w7 hr hv
          obtain ⟨g8, c8, hw8, ho8⟩ : ∃ g' c', Whole w7 gb 46 (bt l t (some ⟨g', 0, none⟩) (N ++ [(⟨ky, vl⟩ : Rc)]).length c') ∧ OwnR w7 zb (.slice (some ⟨g', 0, none⟩) (N ++ [(⟨ky, vl⟩ : Rc)]).length c') (N ++ [(⟨ky, vl⟩ : Rc)]) := hv 9 (by decide)
          obtain ⟨h4, q7⟩ : SgQA g vl qn (v2 4) w7 := hv 4 (by decide)
          rw [hfin]
          clear hfin hv
          have HO8 := Lib.hid ho8
          have HW8 := Lib.hid hw8
          have HB8 := Lib.hid hr.1
          have hs8 := hr.2.1
          have HR8 := Lib.hid hr.2.2
          have Q8 := Lib.hid q7
          clear ho8 hw8 hr q7 h4
          go_wp2_with fail
          go_roundw
          case rel => exact ⟨k + 1, N ++ [(⟨ky, vl⟩ : Rc)], some ⟨g8, 0, none⟩, c8, by omega, Lib.hid (by have := HNk.out; simp; omega), by go_num, by rw [EN.out]; exact Lib.hid rfl, HW8, HO8, by rw [EQ.out]; exact Q8, HB8, HR8, by omega⟩
          case measure => simp [intOf]; omega
    · have hkk : k = n := by omega
      subst hkk
      rw [HQ.out] at HR
      have hNL : N = LR := HN.out.trans HL.out
      subst hNL
      have LP := Lib.hid (HO.out.lg cellsR)
      have DG := Lib.hid HO.out.gap
      have k6 := HW.out.read 6
      clear HL HQ HN HO hlq hlt
      by_cases hz : N.length = 0
      · have x1 : (((N.length : Nat) : Int) == 0) = true := by rw [hz]; rfl
        have eqz := HZ0.out (by have := HNk.out; omega)
        have FA : Hid (∀ W, QA W g qf → Calls Tryz.prog 34 #[.pointer (some ⟨g, 0, none⟩), .int .i64 3] W fun r w' => r = .returned (.tuple #[]) ∧ QA w' g qz ∧ W.grownBy w' (some g)) := Lib.hid (fun W hW => by have := failQA g qf 3 W hW; rwa [eqz] at this)
        clear eqz HZ0 HZ1 hz
        go_upto_region 10 with (go_at_call 34; refine (FA.out _ HR.out).mono ?_; rintro e w6 ⟨rfl, h6, g6⟩; have Q6 := Lib.hid h6; have O6 := Lib.hid (only_trans HB.out g6); have W6 := Lib.hid (HW.out.grown g6 (by simp; omega)); have R6 := Lib.hid (HGR.out.grown g6 (by simp; omega)); have L6 := Lib.hid (lg_past LP.out g6 (fun a ea => by have := DG.out a ea; omega)); clear h6 g6)
        clear FA HR HB HW HGR LP k6
        by_cases he : qz.2 = 0
        · obtain ⟨el, et, er⟩ := HV0.out he
          have el := el.symm
          have et := et.symm
          have er := er.symm
          subst el et er
          obtain ⟨r0, r1, r2, r3, r4, r5, r6, s0, s1, s2, s3, s4, s5, s6⟩ := facts7 R6.out
          obtain ⟨b0, b1, b2, b3, b4, b5, b6, -⟩ := facts7 W6.out
          have e1 : (qz.2 != 0) = false := by simp [he]
          clear HV0 HV1
          go_wp2_with (go_at_call 35; refine (errQA g qz _ Q6.out).mono ?_; rintro e w8 ⟨rfl, rfl⟩)
          have hset : w6.grownBy (((((((w6.setCell ⟨gr, 0, none⟩ (.int .i64 l)).setCell ⟨gr, 1, none⟩ (.int .u32 (t.e))).setCell ⟨gr, 2, none⟩ (.int .i64 (t.d))).setCell ⟨gr, 3, none⟩ (.int .u32 (t.a))).setCell ⟨gr, 4, none⟩ (.int .u32 (t.b))).setCell ⟨gr, 5, none⟩ (.int .u32 (t.c))).setCell ⟨gr, 6, none⟩ (.slice D N.length c1)) (some gr) := grown_set7 w6 gr l t D N.length c1
          have hwz : Whole (((((((w6.setCell ⟨gr, 0, none⟩ (.int .i64 l)).setCell ⟨gr, 1, none⟩ (.int .u32 (t.e))).setCell ⟨gr, 2, none⟩ (.int .i64 (t.d))).setCell ⟨gr, 3, none⟩ (.int .u32 (t.a))).setCell ⟨gr, 4, none⟩ (.int .u32 (t.b))).setCell ⟨gr, 5, none⟩ (.int .u32 (t.c))).setCell ⟨gr, 6, none⟩ (.slice D N.length c1)) gr 46 (bt l t D N.length c1) := whole_set7 R6.out l t D N.length c1
          generalize (((((((w6.setCell ⟨gr, 0, none⟩ (.int .i64 l)).setCell ⟨gr, 1, none⟩ (.int .u32 (t.e))).setCell ⟨gr, 2, none⟩ (.int .i64 (t.d))).setCell ⟨gr, 3, none⟩ (.int .u32 (t.a))).setCell ⟨gr, 4, none⟩ (.int .u32 (t.b))).setCell ⟨gr, 5, none⟩ (.int .u32 (t.c))).setCell ⟨gr, 6, none⟩ (.slice D N.length c1)) = wz at hset hwz ⊢
          have QZ := QA.turned Q6.out hset (by simp; omega)
          have OZ := grown_own O6.out hset (fun j e => by cases e; omega)
          obtain ⟨z0, z1, z2, z3, z4, z5, z6, -⟩ := facts7 hwz
          exact bodyPost_ret (v := .agg (bt l t D N.length c1)) (by simp [results, Tryz.results16, go_sem, z0, z1, z2, z3, z4, z5, z6]) rfl (btAns_of rfl (lg_past L6.out hset (fun a ea => by have := DG.out a ea; omega)) (fun a ea => by have := DG.out a ea; omega) QZ OZ)
        · obtain ⟨el, et, er⟩ := HV1.out he
          have el := el.symm
          have et := et.symm
          have er := er.symm
          subst el et er
          obtain ⟨r0, r1, r2, r3, r4, r5, r6, s0, s1, s2, s3, s4, s5, s6⟩ := facts7 R6.out
          have e1 : (qz.2 != 0) = true := by simpa using he
          clear HV0 HV1
          go_wp2_with (go_at_call 35; refine (errQA g qz _ Q6.out).mono ?_; rintro e w8 ⟨rfl, rfl⟩)
          have hset : w6.grownBy (((((((w6.setCell ⟨gr, 0, none⟩ (.int .i64 0)).setCell ⟨gr, 1, none⟩ (.int .u32 0)).setCell ⟨gr, 2, none⟩ (.int .i64 0)).setCell ⟨gr, 3, none⟩ (.int .u32 0)).setCell ⟨gr, 4, none⟩ (.int .u32 0)).setCell ⟨gr, 5, none⟩ (.int .u32 0)).setCell ⟨gr, 6, none⟩ (.slice none 0 0)) (some gr) := grown_set7 w6 gr 0 T0 none 0 0
          have hwz : Whole (((((((w6.setCell ⟨gr, 0, none⟩ (.int .i64 0)).setCell ⟨gr, 1, none⟩ (.int .u32 0)).setCell ⟨gr, 2, none⟩ (.int .i64 0)).setCell ⟨gr, 3, none⟩ (.int .u32 0)).setCell ⟨gr, 4, none⟩ (.int .u32 0)).setCell ⟨gr, 5, none⟩ (.int .u32 0)).setCell ⟨gr, 6, none⟩ (.slice none 0 0)) gr 46 (bt 0 T0 none 0 0) := whole_set7 R6.out 0 T0 none 0 0
          generalize (((((((w6.setCell ⟨gr, 0, none⟩ (.int .i64 0)).setCell ⟨gr, 1, none⟩ (.int .u32 0)).setCell ⟨gr, 2, none⟩ (.int .i64 0)).setCell ⟨gr, 3, none⟩ (.int .u32 0)).setCell ⟨gr, 4, none⟩ (.int .u32 0)).setCell ⟨gr, 5, none⟩ (.int .u32 0)).setCell ⟨gr, 6, none⟩ (.slice none 0 0)) = wz at hset hwz ⊢
          have QZ := QA.turned Q6.out hset (by simp; omega)
          have OZ := grown_own O6.out hset (fun j e => by cases e; omega)
          obtain ⟨z0, z1, z2, z3, z4, z5, z6, -⟩ := facts7 hwz
          exact bodyPost_ret (v := .agg (bt 0 T0 none 0 0)) (by simp [results, Tryz.results16, go_sem, z0, z1, z2, z3, z4, z5, z6]) rfl (btAns_of rfl (lg_nil _ none) (fun a ea => by cases ea) QZ OZ)
      · have x1 : (((N.length : Nat) : Int) == 0) = false := by have := HNk.out; rw [beq_eq_false_iff_ne]; omega
        have eqz := HZ1.out (by have := HNk.out; omega)
        rw [eqz] at HR
        clear eqz HZ0 HZ1 hz
        go_upto_region 10 with fail
        have Q6 := HR
        have O6 := HB
        have W6 := HW
        have R6 := HGR
        have L6 := LP
        clear HR HB HW HGR LP k6
        generalize wr = w6 at Q6 O6 W6 R6 L6 ⊢
        by_cases he : qz.2 = 0
        · obtain ⟨el, et, er⟩ := HV0.out he
          have el := el.symm
          have et := et.symm
          have er := er.symm
          subst el et er
          obtain ⟨r0, r1, r2, r3, r4, r5, r6, s0, s1, s2, s3, s4, s5, s6⟩ := facts7 R6.out
          obtain ⟨b0, b1, b2, b3, b4, b5, b6, -⟩ := facts7 W6.out
          have e1 : (qz.2 != 0) = false := by simp [he]
          clear HV0 HV1
          go_wp2_with (go_at_call 35; refine (errQA g qz _ Q6.out).mono ?_; rintro e w8 ⟨rfl, rfl⟩)
          have hset : w6.grownBy (((((((w6.setCell ⟨gr, 0, none⟩ (.int .i64 l)).setCell ⟨gr, 1, none⟩ (.int .u32 (t.e))).setCell ⟨gr, 2, none⟩ (.int .i64 (t.d))).setCell ⟨gr, 3, none⟩ (.int .u32 (t.a))).setCell ⟨gr, 4, none⟩ (.int .u32 (t.b))).setCell ⟨gr, 5, none⟩ (.int .u32 (t.c))).setCell ⟨gr, 6, none⟩ (.slice D N.length c1)) (some gr) := grown_set7 w6 gr l t D N.length c1
          have hwz : Whole (((((((w6.setCell ⟨gr, 0, none⟩ (.int .i64 l)).setCell ⟨gr, 1, none⟩ (.int .u32 (t.e))).setCell ⟨gr, 2, none⟩ (.int .i64 (t.d))).setCell ⟨gr, 3, none⟩ (.int .u32 (t.a))).setCell ⟨gr, 4, none⟩ (.int .u32 (t.b))).setCell ⟨gr, 5, none⟩ (.int .u32 (t.c))).setCell ⟨gr, 6, none⟩ (.slice D N.length c1)) gr 46 (bt l t D N.length c1) := whole_set7 R6.out l t D N.length c1
          generalize (((((((w6.setCell ⟨gr, 0, none⟩ (.int .i64 l)).setCell ⟨gr, 1, none⟩ (.int .u32 (t.e))).setCell ⟨gr, 2, none⟩ (.int .i64 (t.d))).setCell ⟨gr, 3, none⟩ (.int .u32 (t.a))).setCell ⟨gr, 4, none⟩ (.int .u32 (t.b))).setCell ⟨gr, 5, none⟩ (.int .u32 (t.c))).setCell ⟨gr, 6, none⟩ (.slice D N.length c1)) = wz at hset hwz ⊢
          have QZ := QA.turned Q6.out hset (by simp; omega)
          have OZ := grown_own O6.out hset (fun j e => by cases e; omega)
          obtain ⟨z0, z1, z2, z3, z4, z5, z6, -⟩ := facts7 hwz
          exact bodyPost_ret (v := .agg (bt l t D N.length c1)) (by simp [results, Tryz.results16, go_sem, z0, z1, z2, z3, z4, z5, z6]) rfl (btAns_of rfl (lg_past L6.out hset (fun a ea => by have := DG.out a ea; omega)) (fun a ea => by have := DG.out a ea; omega) QZ OZ)
        · obtain ⟨el, et, er⟩ := HV1.out he
          have el := el.symm
          have et := et.symm
          have er := er.symm
          subst el et er
          obtain ⟨r0, r1, r2, r3, r4, r5, r6, s0, s1, s2, s3, s4, s5, s6⟩ := facts7 R6.out
          have e1 : (qz.2 != 0) = true := by simpa using he
          clear HV0 HV1
          go_wp2_with (go_at_call 35; refine (errQA g qz _ Q6.out).mono ?_; rintro e w8 ⟨rfl, rfl⟩)
          have hset : w6.grownBy (((((((w6.setCell ⟨gr, 0, none⟩ (.int .i64 0)).setCell ⟨gr, 1, none⟩ (.int .u32 0)).setCell ⟨gr, 2, none⟩ (.int .i64 0)).setCell ⟨gr, 3, none⟩ (.int .u32 0)).setCell ⟨gr, 4, none⟩ (.int .u32 0)).setCell ⟨gr, 5, none⟩ (.int .u32 0)).setCell ⟨gr, 6, none⟩ (.slice none 0 0)) (some gr) := grown_set7 w6 gr 0 T0 none 0 0
          have hwz : Whole (((((((w6.setCell ⟨gr, 0, none⟩ (.int .i64 0)).setCell ⟨gr, 1, none⟩ (.int .u32 0)).setCell ⟨gr, 2, none⟩ (.int .i64 0)).setCell ⟨gr, 3, none⟩ (.int .u32 0)).setCell ⟨gr, 4, none⟩ (.int .u32 0)).setCell ⟨gr, 5, none⟩ (.int .u32 0)).setCell ⟨gr, 6, none⟩ (.slice none 0 0)) gr 46 (bt 0 T0 none 0 0) := whole_set7 R6.out 0 T0 none 0 0
          generalize (((((((w6.setCell ⟨gr, 0, none⟩ (.int .i64 0)).setCell ⟨gr, 1, none⟩ (.int .u32 0)).setCell ⟨gr, 2, none⟩ (.int .i64 0)).setCell ⟨gr, 3, none⟩ (.int .u32 0)).setCell ⟨gr, 4, none⟩ (.int .u32 0)).setCell ⟨gr, 5, none⟩ (.int .u32 0)).setCell ⟨gr, 6, none⟩ (.slice none 0 0)) = wz at hset hwz ⊢
          have QZ := QA.turned Q6.out hset (by simp; omega)
          have OZ := grown_own O6.out hset (fun j e => by cases e; omega)
          obtain ⟨z0, z1, z2, z3, z4, z5, z6, -⟩ := facts7 hwz
          exact bodyPost_ret (v := .agg (bt 0 T0 none 0 0)) (by simp [results, Tryz.results16, go_sem, z0, z1, z2, z3, z4, z5, z6]) rfl (btAns_of rfl (lg_nil _ none) (fun a ea => by cases ea) QZ OZ)
end Go.Proofs.YtkfjgmfokpgcbaaGreatDoor.data
