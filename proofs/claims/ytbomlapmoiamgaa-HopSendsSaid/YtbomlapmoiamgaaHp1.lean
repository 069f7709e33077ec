/-
  A sender and a receiver in the world; the contracts of Last, Take, NewReceiver, within.
-/
import Derived.Test.YtbomlapmoiamgaaHp0
import Derived.Test.YtbomlapmoiamgaaTs
import Derived.Test.YtbomlapmoiamgaaRt9
import Derived.Deep.QuietTactic
import Derived.BigQuiet
import Derived.StillTailTactics
import Derived.WalkLawsBesides
import Derived.Deep.Cut
import Derived.Test.YtbomlapmoiamgaaChecked
set_option linter.unusedSimpArgs false
set_option linter.unusedVariables false
namespace Go.Proofs.Ytbomlapmoiamgaa.hop
open Go.ChangeShapes Go.WideShapes Go.ChangeAt Go.RowKit
open Go.Proofs.Ytbomlapmoiamgaa.opened Go.Proofs.Ytbomlapmoiamgaa.block Go.Proofs.Ytbomlapmoiamgaa.words Go.Proofs.Ytbomlapmoiamgaa.region
def IntIn (n : Int) : Prop := -9223372036854775808 ≤ n ∧ n ≤ 9223372036854775807
abbrev rvC (R : Rv) : Array Value := #[.int .i64 R.e, .int .i64 R.l]
theorem whole_turn {w w' : World} {S : Nat → Prop} {g : Nat} {t : TypeId} {cs : Array Value} (h : Whole w g t cs) (k : TurnS w w' S) (hn : ¬ S g) : Whole w' g t cs := (k.block g h.inside hn).trans h
theorem below_more (w : World) (q : Nat) : Below w.heap.size w (w.drewN q) := ⟨rfl, rfl, rfl, Nat.le_refl _, fun _ _ => rfl⟩
section
variable {w : World} {g : Nat} {R : Rv}
theorem within_any (v a b : Int) : Calls Try.prog 48 #[.int .i64 v, .int .i64 a, .int .i64 b] w fun e w' => e = .returned (.bool (decide (a ≤ v ∧ v ≤ b))) ∧ Below w.heap.size w w' := by
  by_cases h1 : a ≤ v
  · by_cases h2 : v ≤ b
    · rw [decide_eq_true ⟨h1, h2⟩]
      go_enter Try.func48, Try.ntmps48
      go_wp2_with fail
      go_ret
      exact ⟨rfl, Below.refl _ _⟩
    · rw [decide_eq_false (fun h => h2 h.2)]
      go_enter Try.func48, Try.ntmps48
      go_wp2_with fail
      go_ret
      exact ⟨rfl, Below.refl _ _⟩
  · rw [decide_eq_false (fun h => h1 h.1)]
    go_enter Try.func48, Try.ntmps48
    go_wp2_with fail
    go_ret
    exact ⟨rfl, Below.refl _ _⟩
theorem newR_good (l : Int) (h : 0 ≤ l ∧ l ≤ 1099511627776) : Calls Try.prog 40 #[.int .i64 l] w fun e w' => ∃ g, e = .returned (.tuple #[.pointer (some ⟨g, 0, none⟩), .int .i64 0]) ∧ Below w.heap.size w w' ∧ w.heap.size ≤ g ∧ Whole w' g 109 (rvC ⟨0, l⟩) := by
  have HW := Lib.hid (within_any (w := w) l 0 1099511627776)
  rw [decide_eq_true h] at HW
  clear h
  go_enter Try.func40, Try.ntmps40
  go_wp2_with (go_at_call 48; (with_reducible refine HW.out.mono ?_); rintro e w1 ⟨rfl, b1⟩; have B1 := Lib.hid b1; clear b1)
  go_ret2
  exact ⟨_, rfl, then_below B1.out (fresh1 w1 _), B1.out.size, Whole.fresh w1 109 (rvC ⟨0, l⟩)⟩
theorem newR_bad (l : Int) (h : ¬ (0 ≤ l ∧ l ≤ 1099511627776)) : Calls Try.prog 40 #[.int .i64 l] w fun e w' => e = .returned (.tuple #[.pointer none, .int .i64 1]) ∧ Below w.heap.size w w' := by
  have HW := Lib.hid (within_any (w := w) l 0 1099511627776)
  rw [decide_eq_false h] at HW
  clear h
  go_enter Try.func40, Try.ntmps40
  go_wp2_with (go_at_call 48; (with_reducible refine HW.out.mono ?_); rintro e w1 ⟨rfl, b1⟩; have B1 := Lib.hid b1; clear b1)
  go_ret2
  exact ⟨rfl, B1.out⟩
theorem last_any (h : Whole w g 109 (rvC R)) : Calls Try.prog 41 #[.pointer (some ⟨g, 0, none⟩)] w fun e w' => e = .returned (.tuple #[.int .i64 R.e, .int .i64 R.l]) ∧ Below w.heap.size w w' := by
  have c0 : w.cell? ⟨g, 0, none⟩ = some (.int .i64 R.e) := h.read 0
  have c1 : w.cell? ⟨g, 1, none⟩ = some (.int .i64 R.l) := h.read 1
  clear h
  go_enter Try.func41, Try.ntmps41
  go_upto_region 1 with fail
  go_quiet (fail)
  go_wp2_with fail
  go_ret2
  exact ⟨rfl, below_more w nq⟩
theorem take_any (h : Whole w g 109 (rvC R)) (hl : R.l < 4611686018427387904) (hl0 : 0 ≤ R.l) (e n : Int) : Calls Try.prog 42 #[.pointer (some ⟨g, 0, none⟩), .int .i64 e, .int .i64 n] w fun x w' => x = .returned (.bool (takeB R e n)) ∧ Whole w' g 109 (rvC (takeV R e n)) ∧ TurnS w w' (· = g) := by
  have c0 : w.cell? ⟨g, 0, none⟩ = some (.int .i64 R.e) := h.read 0
  have c1 : w.cell? ⟨g, 1, none⟩ = some (.int .i64 R.l) := h.read 1
  have f0 : w.frozen? ⟨g, 0, none⟩ = false := h.soft 0
  have H := Lib.hid h
  unfold takeB takeV
  by_cases h1 : e < R.e
  · rw [if_pos h1, decide_eq_false (by omega)]
    clear h
    go_enter Try.func42, Try.ntmps42
    go_wp2_with fail
    go_ret
    exact ⟨rfl, H.out, TurnS.refl _ _⟩
  · rw [if_neg h1]
    have s1 : Whole (w.setCell ⟨g, 0, none⟩ (.int .i64 e)) g 109 #[.int .i64 e, .int .i64 R.l] := h.store 0 (.int .i64 e)
    have S1 := Lib.hid s1
    have G1 : Hid (TurnS w (w.setCell ⟨g, 0, none⟩ (.int .i64 e)) (· = g)) := Lib.hid (turnS_grown (only_store (only_of_below (Below.refl _ w) (some g)) _) (fun k hk => (Option.some.inj hk).symm))
    have d1 : (w.setCell ⟨g, 0, none⟩ (.int .i64 e)).cell? ⟨g, 1, none⟩ = some (.int .i64 R.l) := s1.read 1
    have f1 : (w.setCell ⟨g, 0, none⟩ (.int .i64 e)).frozen? ⟨g, 1, none⟩ = false := s1.soft 1
    clear h s1
    by_cases h2 : n = R.l + 1
    · subst h2
      rw [if_pos rfl, decide_eq_true ⟨by omega, rfl⟩]
      go_enter Try.func42, Try.ntmps42
      go_upto_region 4 with fail
      clear c0 c1 f0
      generalize w.setCell ⟨g, 0, none⟩ (.int .i64 e) = w1 at S1 G1 d1 f1 ⊢
      go_wp2_with fail
      go_ret
      exact ⟨rfl, S1.out.store 1 (.int .i64 (R.l + 1)), G1.out.grown (only_store (only_of_below (Below.refl _ w1) (some g)) _) (fun j hj => .inl (Option.some.inj hj).symm)⟩
    · rw [if_neg h2, decide_eq_false (fun h => h2 h.2)]
      go_enter Try.func42, Try.ntmps42
      go_upto_region 4 with fail
      clear c0 c1 f0
      generalize w.setCell ⟨g, 0, none⟩ (.int .i64 e) = w1 at S1 G1 d1 f1 ⊢
      go_wp2_with fail
      go_ret
      exact ⟨rfl, S1.out, G1.out⟩
end
end Go.Proofs.Ytbomlapmoiamgaa.hop
