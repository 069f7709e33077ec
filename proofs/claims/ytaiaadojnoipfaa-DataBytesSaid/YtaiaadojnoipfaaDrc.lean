/-
  The contract of the readers of data and watershedref11, in common.
-/
import Derived.Test.YtaiaadojnoipfaaDto
import Derived.Test.YtaiaadojnoipfaaDw
import Derived.Handy
import Derived.BigQuiet
import Derived.Deep.CutBlock
namespace Go.Proofs.Ytaiaadojnoipfaa.data
open Go.ChangeShapes Go.WideShapes Go.ChangeAt Go.RowKit
open Go.Proofs.Ytaiaadojnoipfaa.tm Go.Proofs.Ytaiaadojnoipfaa.opened Go.Proofs.Ytaiaadojnoipfaa.block Go.Proofs.Ytaiaadojnoipfaa.region Go.Proofs.Ytaiaadojnoipfaa.stamp Go.Proofs.Ytaiaadojnoipfaa.code Go.Proofs.Ytaiaadojnoipfaa.enc

/-- What a Read answers: a batch, and the reader behind it. -/
def BtAns (Q : World → Nat → Rq → Prop) (g : Nat) (w : World) (l : Int) (t : Tm) (L : List Rc) (q : Rq) : Ending → World → Prop := fun e w' => ∃ B c, e = .returned (.agg (bt l t B L.length c)) ∧ Lr w' B L ∧ (∀ a, B = some a → w.heap.size ≤ a.block) ∧ Q w' g q ∧ w.grownBy w' (some g)
theorem btAns_of {Q : World → Nat → Rq → Prop} {g : Nat} {w w' : World} {l : Int} {t : Tm} {L : List Rc} {q : Rq} {e : Ending} {B : Option Addr} {c : Nat} (h : e = .returned (.agg (bt l t B L.length c))) (h1 : Lr w' B L) (h4 : ∀ a, B = some a → w.heap.size ≤ a.block) (h2 : Q w' g q) (h3 : w.grownBy w' (some g)) : BtAns Q g w l t L q e w' := ⟨B, c, h, h1, h4, h2, h3⟩
theorem facts7 {w : World} {g : Nat} {T : TypeId} {a b c d e f s : Value} (h : Whole w g T #[a, b, c, d, e, f, s]) :
    w.cell? ⟨g, 0, none⟩ = some a ∧ w.cell? ⟨g, 1, none⟩ = some b ∧ w.cell? ⟨g, 2, none⟩ = some c ∧ w.cell? ⟨g, 3, none⟩ = some d ∧ w.cell? ⟨g, 4, none⟩ = some e ∧ w.cell? ⟨g, 5, none⟩ = some f ∧ w.cell? ⟨g, 6, none⟩ = some s ∧
    w.frozen? ⟨g, 0, none⟩ = false ∧ w.frozen? ⟨g, 1, none⟩ = false ∧ w.frozen? ⟨g, 2, none⟩ = false ∧ w.frozen? ⟨g, 3, none⟩ = false ∧ w.frozen? ⟨g, 4, none⟩ = false ∧ w.frozen? ⟨g, 5, none⟩ = false ∧ w.frozen? ⟨g, 6, none⟩ = false :=
  ⟨h.read 0, h.read 1, h.read 2, h.read 3, h.read 4, h.read 5, h.read 6, h.soft 0, h.soft 1, h.soft 2, h.soft 3, h.soft 4, h.soft 5, h.soft 6⟩
/-- A time is stored into a batch. -/
def set5 (w : World) (g : Nat) (t : Tm) : World := ((((w.setCell ⟨g, 1, none⟩ (.int .u32 t.e)).setCell ⟨g, 2, none⟩ (.int .i64 t.d)).setCell ⟨g, 3, none⟩ (.int .u32 t.a)).setCell ⟨g, 4, none⟩ (.int .u32 t.b)).setCell ⟨g, 5, none⟩ (.int .u32 t.c)
theorem grown_set5 (w : World) (g : Nat) (t : Tm) : w.grownBy (set5 w g t) (some g) := only_store (only_store (only_store (only_store (only_store (World.grownBy.refl w _) _) _) _) _) _
theorem whole_set5 {w : World} {g : Nat} {T : TypeId} {l : Int} {s : Tm} {A : Option Addr} {n c : Nat} (h : Whole w g T (bt l s A n c)) (t : Tm) : Whole (set5 w g t) g T (bt l t A n c) := ((((h.store 1 _).store 2 _).store 3 _).store 4 _).store 5 _
/-- A batch is stored. -/
def set7 (w : World) (g : Nat) (l : Int) (t : Tm) (A : Option Addr) (n c : Nat) : World := ((((((w.setCell ⟨g, 0, none⟩ (.int .i64 l)).setCell ⟨g, 1, none⟩ (.int .u32 t.e)).setCell ⟨g, 2, none⟩ (.int .i64 t.d)).setCell ⟨g, 3, none⟩ (.int .u32 t.a)).setCell ⟨g, 4, none⟩ (.int .u32 t.b)).setCell ⟨g, 5, none⟩ (.int .u32 t.c)).setCell ⟨g, 6, none⟩ (.slice A n c)
theorem grown_set7 (w : World) (g : Nat) (l : Int) (t : Tm) (A : Option Addr) (n c : Nat) : w.grownBy (set7 w g l t A n c) (some g) := only_store (only_store (only_store (only_store (only_store (only_store (only_store (World.grownBy.refl w _) _) _) _) _) _) _) _
theorem whole_set7 {w : World} {g : Nat} {T : TypeId} {l0 : Int} {s : Tm} {A0 : Option Addr} {n0 c0 : Nat} (h : Whole w g T (bt l0 s A0 n0 c0)) (l : Int) (t : Tm) (A : Option Addr) (n c : Nat) : Whole (set7 w g l t A n c) g T (bt l t A n c) := by
  have h0 : Whole _ g T (bt l s A0 n0 c0) := h.store 0 (.int .i64 l)
  have h1 := whole_set5 h0 t
  have h2 : Whole _ g T (bt l t A n c) := h1.store 6 (.slice A n c)
  exact h2
theorem QA.later {w w' : World} {g : Nat} {q : Rq} (h : QA w g q) (hb : Below w.heap.size w w') : QA w' g q := Whole.below h hb (Whole.inside h)
theorem QA.turned {w w' : World} {g : Nat} {q : Rq} {row : Option Nat} (h : QA w g q) (hg : w.grownBy w' row) (hn : some g ≠ row) : QA w' g q := Whole.grown h hg hn
theorem sgA (g : Nat) (q : Rq) (hl : q.1.length ≤ 9223372036854775807) (w : World) (h : QA w g q) :
    Calls Try.prog 48 #[.pointer (some ⟨g, 0, none⟩)] w fun r w' => r = .returned (.int .i64 (sg q).1) ∧ QA w' g (sg q).2 ∧ w.grownBy w' (some g) := signedA g q.1 q.2 hl w h
theorem failQA (g : Nat) (q : Rq) (x : Int) (w : World) (h : QA w g q) :
    Calls Try.prog 49 #[.pointer (some ⟨g, 0, none⟩), .int .i64 x] w fun r w' => r = .returned (.tuple #[]) ∧ QA w' g (q.1, rFail q.2 x) ∧ w.grownBy w' (some g) := failA g q.1 q.2 x w h
theorem leftQA (g : Nat) (q : Rq) (w : World) (h : QA w g q) : Calls Try.prog 26 #[.pointer (some ⟨g, 0, none⟩)] w fun r w' => r = .returned (.int .i64 q.1.length) ∧ w = w' := leftA g q.1 q.2 w h
theorem leftQB (g : Nat) (q : Rq) (w : World) (h : QB w g q) : Calls Try.prog 27 #[.pointer (some ⟨g, 0, none⟩)] w fun r w' => r = .returned (.int .i64 q.1.length) ∧ Below w.heap.size w w' := by
  obtain ⟨s, n, hn, hs, hq, h⟩ := h
  obtain ⟨c0, c1, c2, f0, f1, f2⟩ := h.facts
  rw [hq]
  clear h hq
  go_enter Try.func27, Try.ntmps27
  go_wp2
  go_quiet (fail)
  go_wp2
  go_ret
  exact ⟨code.ret_i64 (by simp; omega), below_drewN (Below.refl _ _) _⟩
theorem QB.later {w w' : World} {g : Nat} {q : Rq} (h : QB w g q) (hb : Below w.heap.size w w') : QB w' g q := by
  obtain ⟨s, n, a, b, c, h⟩ := h
  exact ⟨s, n, a, b, c, Whole.below h hb (Whole.inside h)⟩
theorem QB.turned {w w' : World} {g : Nat} {q : Rq} {row : Option Nat} (h : QB w g q) (hg : w.grownBy w' row) (hn : some g ≠ row) : QB w' g q := by
  obtain ⟨s, n, a, b, c, h⟩ := h
  exact ⟨s, n, a, b, c, Whole.grown h hg hn⟩
theorem sgB (g : Nat) (q : Rq) (_hl : q.1.length ≤ 9223372036854775807) (w : World) (h : QB w g q) :
    Calls Try.prog 52 #[.pointer (some ⟨g, 0, none⟩)] w fun r w' => r = .returned (.int .i64 (sg q).1) ∧ QB w' g (sg q).2 ∧ w.grownBy w' (some g) := by
  obtain ⟨s, n, a, b, c, h⟩ := h
  have k := signedB g s n q.2 b a w h
  have hb := (rNum_bd (s.data.toList.drop n) q.2).2.2
  unfold sg
  rw [c]
  refine k.mono fun r w' ⟨e, r1, g1⟩ => ⟨e, ⟨s, _, ?_, b, ?_, r1⟩, g1⟩
  · rw [List.length_drop] at hb
    have h3 : s.data.toList.length = s.size := rfl
    omega
  · simp [List.drop_drop]
theorem failQB (g : Nat) (q : Rq) (x : Int) (w : World) (h : QB w g q) :
    Calls Try.prog 53 #[.pointer (some ⟨g, 0, none⟩), .int .i64 x] w fun r w' => r = .returned (.tuple #[]) ∧ QB w' g (q.1, rFail q.2 x) ∧ w.grownBy w' (some g) := by
  obtain ⟨s, n, a, b, c, h⟩ := h
  exact (failB g s n q.2 x w h).mono fun r w' ⟨hr, hb, hg⟩ => ⟨hr, ⟨s, n, a, b, c, hb⟩, hg⟩
end Go.Proofs.Ytaiaadojnoipfaa.data
