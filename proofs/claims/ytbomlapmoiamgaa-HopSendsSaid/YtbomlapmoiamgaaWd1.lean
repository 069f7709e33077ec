/-
  A network in the world; what turns; the contracts of isEnd, isLink, Out, Waits, Lost.
-/
import Derived.Test.YtbomlapmoiamgaaWd0
import Derived.Test.YtbomlapmoiamgaaOg
set_option linter.unusedSimpArgs false
set_option linter.unusedVariables false
namespace Go.Proofs.Ytbomlapmoiamgaa.wan
open Go.ChangeShapes Go.WideShapes Go.ChangeAt Go.RowKit
open Go.Proofs.Ytbomlapmoiamgaa.opened Go.Proofs.Ytbomlapmoiamgaa.block Go.Proofs.Ytbomlapmoiamgaa.words Go.Proofs.Ytbomlapmoiamgaa.region

structure Wn where
  n : Int
  L : List Lt
  O : List Bool
  c : Int
def endB (W : Wn) (k : Int) : Bool := decide (0 ≤ k) && decide (k < W.n)
def linkB (W : Wn) (a b : Int) : Bool := (endB W a && endB W b) && (a != b)
def outB (W : Wn) (a b : Int) : Bool := linkB W a b && (W.O[a.toNat * 16 + b.toNat]?).getD false
structure GoodW (W : Wn) : Prop where
  n0 : 2 ≤ W.n
  n1 : W.n ≤ 16
  o : W.O.length = 256
  l : W.L.length ≤ 96
  c0 : 0 ≤ W.c
  c1 : W.c ≤ 1000000
theorem cellsL : Cells 3 cL := ⟨fun _ => rfl, fun x v hv => by
  simp only [cL, List.mem_cons, List.mem_singleton, List.not_mem_nil, or_false] at hv
  rcases hv with rfl | rfl | rfl <;> rfl⟩
/-- A network at a place: its block and its row. -/
structure WanE (tw tl : TypeId) (B : Nat) (w : World) (g : Nat) (W : Wn) (A : Option Addr) (c : Nat) : Prop where
  cell : Whole w g tw (wanC W.n (.slice A W.L.length c) W.O W.c)
  row : OwnG tl 3 cL w B (.slice A W.L.length c) W.L
  low : B ≤ g
def WanP (tw tl : TypeId) (B : Nat) (w : World) (g : Nat) (W : Wn) : Prop := ∃ A c, WanE tw tl B w g W A c
/-- What a network lies in. -/
def WObj (tw tl : TypeId) (o : Obj) : Prop := ∃ cs f, o = .cells cs tw f ∨ o = .cells cs tl f
structure WB (tw tl : TypeId) (B : Nat) (w w' : World) : Prop where
  below : Below B w w'
  keep : ∀ (k : Nat) (o : Obj), w.heap[k]? = some o → ¬ WObj tw tl o → w'.heap[k]? = some o
theorem WB.trans {tw tl : TypeId} {B : Nat} {a b c : World} (h : WB tw tl B a b) (k : WB tw tl B b c) : WB tw tl B a c := ⟨h.below.trans k.below, fun j o ho hn => k.keep j o (h.keep j o ho hn) hn⟩
theorem WB.of {tw tl : TypeId} {B : Nat} {w w' : World} (h : Below w.heap.size w w') (hB : B ≤ w.heap.size) : WB tw tl B w w' := ⟨h.mono hB, fun k o ho _ => (h.block k (Array.getElem?_eq_some_iff.1 ho).1).trans ho⟩
theorem not_wobj {tw tl : TypeId} {cs : Array Value} {t : TypeId} {f : Nat × Nat} (h1 : t ≠ tw) (h2 : t ≠ tl) : ¬ WObj tw tl (.cells cs t f) := by
  rintro ⟨_, _, h | h⟩
  · injection h with _ h; exact h1 h
  · injection h with _ h; exact h2 h
theorem Whole.wb {tw tl : TypeId} {B : Nat} {w w' : World} {g : Nat} {t : TypeId} {cs : Array Value} (h : Whole w g t cs) (k : WB tw tl B w w') (h1 : t ≠ tw) (h2 : t ≠ tl) : Whole w' g t cs := k.keep g _ h (not_wobj h1 h2)
theorem WanE.below {tw tl : TypeId} {B : Nat} {w w' : World} {g : Nat} {W : Wn} {A : Option Addr} {c : Nat} (h : WanE tw tl B w g W A c) (hb : Below w.heap.size w w') : WanE tw tl B w' g W A c := ⟨h.cell.below hb h.cell.inside, h.row.below hb, h.low⟩
theorem WanP.below {tw tl : TypeId} {B : Nat} {w w' : World} {g : Nat} {W : Wn} (h : WanP tw tl B w g W) (hb : Below w.heap.size w w') : WanP tw tl B w' g W := by
  obtain ⟨A, c, h⟩ := h
  exact ⟨A, c, h.below hb⟩
theorem WanP.le {tw tl : TypeId} {B : Nat} {w : World} {g : Nat} {W : Wn} (h : WanP tw tl B w g W) : B ≤ w.heap.size := by
  obtain ⟨A, c, h⟩ := h
  have := h.cell.inside
  have := h.low
  omega
section
variable {tw tl : TypeId} {B g : Nat} {W : Wn} {A : Option Addr} {c : Nat} {w : World}
theorem wan_n (h : WanE tw tl B w g W A c) : w.cell? ⟨g, 0, none⟩ = some (.int .i64 W.n) := h.cell.read 0
theorem wan_l (h : WanE tw tl B w g W A c) : w.cell? ⟨g, 1, none⟩ = some (.slice A W.L.length c) := h.cell.read 1
theorem wan_o (h : WanE tw tl B w g W A c) (G : GoodW W) {k : Nat} (hk : k < 256) : w.cell? ⟨g, 2 + k, none⟩ = some (.bool ((W.O[k]?).getD false)) := by
  rw [h.cell.read]
  unfold wanC
  have ho := G.o
  rw [List.getElem?_toArray, List.append_assoc, List.cons_append, List.cons_append, List.nil_append, show 2 + k = (k + 1) + 1 by omega, List.getElem?_cons_succ, List.getElem?_cons_succ, List.getElem?_append_left (by rw [List.length_map]; omega), List.getElem?_map, List.getElem?_eq_getElem (by omega)]
  rfl
theorem wan_c (h : WanE tw tl B w g W A c) (G : GoodW W) : w.cell? ⟨g, 258, none⟩ = some (.int .i64 W.c) := by
  rw [h.cell.read]
  unfold wanC
  have ho := G.o
  rw [List.getElem?_toArray, List.getElem?_append_right (by simp [ho])]
  simp [ho]
theorem isEnd_any (h : WanE 94 34 B w g W A c) (k : Int) : Calls Try.prog 56 #[.pointer (some ⟨g, 0, none⟩), .int .i64 k] w fun e w' => e = .returned (.bool (endB W k)) ∧ Below w.heap.size w w' := by
  have c0 := wan_n h
  have f0 : w.frozen? ⟨g, 0, none⟩ = false := h.cell.soft 0
  clear h
  unfold endB
  generalize W.n = n at c0 ⊢
  by_cases h1 : 0 ≤ k
  · rw [decide_eq_true h1, Bool.true_and]
    go_enter Try.func56, Try.ntmps56
    go_wp2_with fail
    go_ret
    exact ⟨rfl, Below.refl _ _⟩
  · rw [decide_eq_false h1, Bool.false_and]
    go_enter Try.func56, Try.ntmps56
    go_wp2_with fail
    go_ret
    exact ⟨rfl, Below.refl _ _⟩
theorem isLink_any (h : WanE 94 34 B w g W A c) (a b : Int) : Calls Try.prog 43 #[.pointer (some ⟨g, 0, none⟩), .int .i64 a, .int .i64 b] w fun e w' => e = .returned (.bool (linkB W a b)) ∧ Below w.heap.size w w' := by
  have HA := Lib.hid (isEnd_any h a)
  have HB : Hid (∀ w1, Below w.heap.size w w1 → Calls Try.prog 56 #[.pointer (some ⟨g, 0, none⟩), .int .i64 b] w1 fun e w' => e = .returned (.bool (endB W b)) ∧ Below w1.heap.size w1 w') := Lib.hid fun w1 hb => isEnd_any (h.below hb) b
  clear h
  unfold linkB
  generalize endB W a = x at HA ⊢
  generalize endB W b = y at HB ⊢
  cases x with
  | false =>
    rw [Bool.false_and, Bool.false_and]
    go_enter Try.func43, Try.ntmps43
    go_wp2_with (go_at_call 56; (with_reducible refine HA.out.mono ?_); rintro e w1 ⟨rfl, b1⟩; have B1 := Lib.hid b1; clear b1)
    go_ret
    exact ⟨rfl, B1.out⟩
  | true =>
    rw [Bool.true_and]
    cases y with
    | false =>
      rw [Bool.false_and]
      go_enter Try.func43, Try.ntmps43
      go_wp2_with (first
        | (go_at_call 56; (with_reducible refine (HB.out _ B1.out).mono ?_); rintro e w2 ⟨rfl, b2⟩; have B2 := Lib.hid (then_below B1.out b2); clear b2)
        | (go_at_call 56; (with_reducible refine HA.out.mono ?_); rintro e w1 ⟨rfl, b1⟩; have B1 := Lib.hid b1; clear b1))
      go_ret
      exact ⟨rfl, B2.out⟩
    | true =>
      rw [Bool.true_and]
      go_enter Try.func43, Try.ntmps43
      go_wp2_with (first
        | (go_at_call 56; (with_reducible refine (HB.out _ B1.out).mono ?_); rintro e w2 ⟨rfl, b2⟩; have B2 := Lib.hid (then_below B1.out b2); clear b2)
        | (go_at_call 56; (with_reducible refine HA.out.mono ?_); rintro e w1 ⟨rfl, b1⟩; have B1 := Lib.hid b1; clear b1))
      go_ret
      exact ⟨rfl, B2.out⟩
theorem waits_any (h : WanE 94 34 B w g W A c) : Calls Try.prog 18 #[.pointer (some ⟨g, 0, none⟩)] w fun e w' => e = .returned (.int .i64 (W.L.length : Int)) ∧ Below w.heap.size w w' := by
  have c1 := wan_l h
  have f1 : w.frozen? ⟨g, 1, none⟩ = false := h.cell.soft 1
  clear h
  generalize W.L.length = n at c1 ⊢
  go_enter Try.func18, Try.ntmps18
  go_wp2_with fail
  go_ret
  exact ⟨rfl, Below.refl _ _⟩
theorem lost_any (h : WanE 94 34 B w g W A c) (G : GoodW W) : Calls Try.prog 19 #[.pointer (some ⟨g, 0, none⟩)] w fun e w' => e = .returned (.int .i64 W.c) ∧ Below w.heap.size w w' := by
  have c1 := wan_c h G
  have f1 : w.frozen? ⟨g, 258, none⟩ = false := h.cell.soft 258
  clear h G
  generalize W.c = n at c1 ⊢
  go_enter Try.func19, Try.ntmps19
  go_wp2_with fail
  go_ret
  exact ⟨rfl, Below.refl _ _⟩
theorem link_of {a b : Int} (h : linkB W a b = true) : 0 ≤ a ∧ a < W.n ∧ 0 ≤ b ∧ b < W.n ∧ a ≠ b := by
  unfold linkB endB at h
  simp only [Bool.and_eq_true, decide_eq_true_eq, bne_iff_ne] at h
  exact ⟨h.1.1.1, h.1.1.2, h.1.2.1, h.1.2.2, h.2⟩
theorem out_any (h : WanE 94 34 B w g W A c) (G : GoodW W) (a b : Int) : Calls Try.prog 20 #[.pointer (some ⟨g, 0, none⟩), .int .i64 a, .int .i64 b] w fun e w' => e = .returned (.bool (outB W a b)) ∧ Below w.heap.size w w' := by
  have HL := Lib.hid (isLink_any h a b)
  unfold outB
  cases hl : linkB W a b with
  | false =>
    rw [hl] at HL
    rw [Bool.false_and]
    go_enter Try.func20, Try.ntmps20
    go_wp2_with (go_at_call 43; (with_reducible refine HL.out.mono ?_); rintro e w1 ⟨rfl, b1⟩; have B1 := Lib.hid b1; clear b1)
    go_ret
    exact ⟨rfl, B1.out⟩
  | true =>
    rw [hl] at HL
    rw [Bool.true_and]
    obtain ⟨a0, a1, b0, b1, hne⟩ := link_of hl
    have hn := G.n1
    obtain ⟨i, rfl⟩ : ∃ i : Nat, a = i := ⟨a.toNat, by omega⟩
    obtain ⟨j, rfl⟩ : ∃ j : Nat, b = j := ⟨b.toNat, by omega⟩
    have hi : i < 16 := by omega
    have hj : j < 16 := by omega
    have HC : Hid (∀ w1, Below w.heap.size w w1 → w1.cell? ⟨g, 2 + i * 16 + j, none⟩ = some (.bool ((W.O[i * 16 + j]?).getD false)) ∧ w1.frozen? ⟨g, 2 + i * 16 + j, none⟩ = false) := Lib.hid fun w1 hb => by
      have := wan_o (h.below hb) G (k := i * 16 + j) (by omega)
      rw [← Nat.add_assoc] at this
      exact ⟨this, (h.below hb).cell.soft _⟩
    simp only [Int.toNat_natCast]
    clear hl a0 a1 b0 b1 hne hn h G
    generalize (W.O[i * 16 + j]?).getD false = x at HC ⊢
    have hi2 : (i : Int) < 16 := by omega
    have hj2 : (j : Int) < 16 := by omega
    go_enter Try.func20, Try.ntmps20
    go_wp2_with (go_at_call 43; (with_reducible refine HL.out.mono ?_); rintro e w1 ⟨rfl, b1⟩; have B1 := Lib.hid b1; obtain ⟨z, y⟩ := HC.out w1 b1; clear b1)
    go_ret
    exact ⟨rfl, B1.out⟩
end
end Go.Proofs.Ytbomlapmoiamgaa.wan
