/-
  The kinds of operators, as the program's table has them: where they may be, what their numbers may be.
-/
import Derived.Test.YtlbphlhbofjfgaaDoorJGl
namespace Go.Proofs.YtlbphlhbofjfgaaDoor.graph
open Go.ChangeShapes Go.WideShapes Go.ChangeAt Go.RowKit Go.Shelf
open Go.Proofs.YtlbphlhbofjfgaaDoor.opened Go.Proofs.YtlbphlhbofjfgaaDoor.block Go.Proofs.YtlbphlhbofjfgaaDoor.words
/-- A kind's row in the table: its word, where, how many numbers, the spans of A and of B. -/
def kRow : Nat → List Value
  | 1 => [sV [105, 110, 112, 117, 116], .int .i64 1, .int .i64 0, .int .i64 0, .int .i64 0, .int .i64 0, .int .i64 0]
  | 2 => [sV [99, 97, 112, 116, 117, 114, 101], .int .i64 1, .int .i64 0, .int .i64 0, .int .i64 0, .int .i64 0, .int .i64 0]
  | 3 => [sV [109, 97, 112], .int .i64 0, .int .i64 2, .int .i64 (-9223372036854775808), .int .i64 9223372036854775807, .int .i64 (-9223372036854775808), .int .i64 9223372036854775807]
  | 4 => [sV [102, 105, 108, 116, 101, 114], .int .i64 0, .int .i64 2, .int .i64 1, .int .i64 1000, .int .i64 0, .int .i64 999]
  | 5 => [sV [115, 119, 97, 112], .int .i64 0, .int .i64 0, .int .i64 0, .int .i64 0, .int .i64 0, .int .i64 0]
  | 6 => [sV [114, 101, 107, 101, 121], .int .i64 0, .int .i64 1, .int .i64 1, .int .i64 1000, .int .i64 0, .int .i64 0]
  | 7 => [sV [101, 110, 116, 101, 114], .int .i64 2, .int .i64 0, .int .i64 0, .int .i64 0, .int .i64 0, .int .i64 0]
  | 8 => [sV [108, 101, 97, 118, 101], .int .i64 2, .int .i64 0, .int .i64 0, .int .i64 0, .int .i64 0, .int .i64 0]
  | 9 => [sV [110, 101, 120, 116], .int .i64 2, .int .i64 0, .int .i64 0, .int .i64 0, .int .i64 0, .int .i64 0]
  | 10 => [sV [100, 101, 108, 97, 121], .int .i64 0, .int .i64 1, .int .i64 0, .int .i64 1000, .int .i64 0, .int .i64 0]
  | 11 => [sV [115, 117, 109], .int .i64 0, .int .i64 0, .int .i64 0, .int .i64 0, .int .i64 0, .int .i64 0]
  | 12 => [sV [99, 111, 117, 110, 116], .int .i64 0, .int .i64 0, .int .i64 0, .int .i64 0, .int .i64 0, .int .i64 0]
  | 13 => [sV [108, 101, 97, 115, 116], .int .i64 0, .int .i64 0, .int .i64 0, .int .i64 0, .int .i64 0, .int .i64 0]
  | 14 => [sV [109, 111, 115, 116], .int .i64 0, .int .i64 0, .int .i64 0, .int .i64 0, .int .i64 0, .int .i64 0]
  | _ => [sV [], .int .i64 0, .int .i64 0, .int .i64 0, .int .i64 0, .int .i64 0, .int .i64 0]
/-- The world holds the table of kinds. -/
structure KT (w : World) : Prop where
  lo : 0 < w.heap.size
  c : ∀ k, k < 15 → ∀ i, i < 7 → w.cell? ⟨0, k * 7 + i, none⟩ = (kRow k)[i]?
theorem KT.below {w w' : World} (h : KT w) (hb : Below w.heap.size w w') : KT w' :=
  ⟨Nat.lt_of_lt_of_le h.lo hb.size, fun k hk i hi => (hb.cell (p := ⟨0, k * 7 + i, none⟩) h.lo).trans (h.c k hk i hi)⟩
def whereK (k : Nat) : Int := if k ≤ 2 then 1 else if 7 ≤ k ∧ k ≤ 9 then 2 else 0
theorem kind_where {w : World} (h : KT w) (k : Nat) (h1 : 1 ≤ k) (h2 : k ≤ 14) : w.cell? ⟨0, k * 7 + 1, none⟩ = some (.int .i64 (whereK k)) := by
  rw [h.c k (by omega) 1 (by decide)]
  match k, h1, h2 with
  | 1, _, _ => rfl
  | 2, _, _ => rfl
  | 3, _, _ => rfl
  | 4, _, _ => rfl
  | 5, _, _ => rfl
  | 6, _, _ => rfl
  | 7, _, _ => rfl
  | 8, _, _ => rfl
  | 9, _, _ => rfl
  | 10, _, _ => rfl
  | 11, _, _ => rfl
  | 12, _, _ => rfl
  | 13, _, _ => rfl
  | 14, _, _ => rfl
  | k + 15, _, h => omega
set_option maxRecDepth 100000 in
theorem where_any (k : Nat) (h1 : 1 ≤ k) (h2 : k ≤ 14) (l : Int) (w : World) (K : KT w) :
    Calls Tryd.prog 65 #[.int .i64 k, .int .i64 l] w fun e w' => e = .returned (.bool (whereB k l)) ∧ Below w.heap.size w w' := by
  have c := kind_where K k h1 h2
  have hv : whereB k l = if whereK k = 1 then decide (l = -1) else if whereK k = 2 then decide (l ≠ -1) else true := by
    unfold whereB whereK
    by_cases a : k ≤ 2
    · rw [if_pos (by omega), if_pos a, if_pos rfl]
    · rw [if_neg (by omega), if_neg a]
      by_cases b : 7 ≤ k ∧ k ≤ 9
      · rw [if_pos (by omega), if_pos b, if_neg (by decide), if_pos rfl]
      · rw [if_neg (by omega), if_neg b, if_neg (by decide), if_neg (by decide)]
  rw [hv]
  have hw : whereK k = 0 ∨ whereK k = 1 ∨ whereK k = 2 := by unfold whereK; split; · simp
                                                             · split <;> simp
  clear hv K
  by_cases hl : l = -1
  · subst hl
    rcases hw with e | e | e <;> rw [e] at c ⊢ <;> clear e
    · go_enter Tryd.func65, Tryd.ntmps65
      go_wp2_with fail
      go_ret
      exact ⟨rfl, Below.refl _ _⟩
    · go_enter Tryd.func65, Tryd.ntmps65
      go_wp2_with fail
      go_ret
      exact ⟨rfl, Below.refl _ _⟩
    · go_enter Tryd.func65, Tryd.ntmps65
      go_wp2_with fail
      go_ret
      exact ⟨rfl, Below.refl _ _⟩
  · have hl2 : (l == -1) = false := by rw [beq_eq_false_iff_ne]; exact hl
    rcases hw with e | e | e <;> rw [e] at c ⊢ <;> clear e
    · go_enter Tryd.func65, Tryd.ntmps65
      go_wp2_with fail
      go_ret
      exact ⟨rfl, Below.refl _ _⟩
    · go_enter Tryd.func65, Tryd.ntmps65
      go_wp2_with fail
      go_ret
      exact ⟨by simp, Below.refl _ _⟩
    · go_enter Tryd.func65, Tryd.ntmps65
      go_wp2_with fail
      go_ret
      exact ⟨by simp [hl], Below.refl _ _⟩
theorem holds_any (a b v : Int) (w : World) : Calls Tryd.prog 85 #[.agg #[.int .i64 a, .int .i64 b], .int .i64 v] w fun e w' => e = .returned (.bool (decide (a ≤ v ∧ v ≤ b))) ∧ Below w.heap.size w w' := by
  by_cases h1 : a ≤ v
  · by_cases h2 : v ≤ b
    · rw [decide_eq_true (And.intro h1 h2)]
      go_enter Tryd.func85, Tryd.ntmps85
      go_wp2
      go_ret
      exact ⟨rfl, fresh1 _ _⟩
    · rw [decide_eq_false (fun h => h2 h.2)]
      go_enter Tryd.func85, Tryd.ntmps85
      go_wp2
      go_ret
      exact ⟨rfl, fresh1 _ _⟩
  · rw [decide_eq_false (fun h => h1 h.1)]
    go_enter Tryd.func85, Tryd.ntmps85
    go_wp2
    go_ret
    exact ⟨rfl, fresh1 _ _⟩
end Go.Proofs.YtlbphlhbofjfgaaDoor.graph
