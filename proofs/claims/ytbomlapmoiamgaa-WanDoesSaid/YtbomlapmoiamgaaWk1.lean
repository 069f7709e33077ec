/-
  The walk of WanCuts.
-/
import Derived.Test.YtbomlapmoiamgaaWop
import Derived.Deep.CutRange
import Derived.Deep.CutBlock
import Derived.LoopTactic
set_option linter.unusedSimpArgs false
set_option linter.unusedVariables false
namespace Go.Proofs.Ytbomlapmoiamgaa.wan
open Go.ChangeShapes Go.WideShapes Go.ChangeAt Go.RowKit
open Go.Proofs.Ytbomlapmoiamgaa.opened Go.Proofs.Ytbomlapmoiamgaa.block Go.Proofs.Ytbomlapmoiamgaa.words Go.Proofs.Ytbomlapmoiamgaa.region
theorem below_more (w : World) (q : Nat) : Below w.heap.size w (w.drewN q) := ⟨rfl, rfl, rfl, Nat.le_refl _, fun _ _ => rfl⟩
/-- Behind so many sends: nothing was cut. -/
structure Sent (n : Int) (k : Nat) (W : Wn) : Prop where
  good : GoodW W
  n : W.n = n
  O : W.O = O0
  c : W.c ≤ k
theorem sent_new {n : Int} (h0 : 2 ≤ n) (h1 : n ≤ 16) : Sent n 0 ⟨n, [], O0, 0⟩ := ⟨⟨h0, h1, List.length_replicate, Nat.zero_le _, Int.le_refl _, by show (0 : Int) ≤ 1000000; omega⟩, rfl, rfl, Int.le_refl _⟩
theorem good_lay {W : Wn} (G : GoodW W) (l : Lt) : GoodW (layV W l) := by
  unfold layV
  split
  · exact G
  · exact ⟨G.n0, G.n1, G.o, by simp only [List.length_append, List.length_cons, List.length_nil]; omega, G.c0, G.c1⟩
theorem good_lost {W : Wn} (G : GoodW W) {x : Int} (h0 : 0 ≤ x) (h1 : x ≤ 1000000) : GoodW { W with c := x } := ⟨G.n0, G.n1, G.o, G.l, h0, h1⟩
theorem Sent.send {n : Int} {k : Nat} {W : Wn} (h : Sent n k W) (hk : k < 1000) (l : Lt) : Sent n (k + 1) (sendV W l) := by
  have G := h.good
  have hc := h.c
  have hs : Sent n (k + 1) W := ⟨G, h.n, h.O, by omega⟩
  have hl : Sent n (k + 1) { W with c := W.c + 1 } := ⟨good_lost G (by have := G.c0; omega) (by omega), h.n, h.O, by show W.c + 1 ≤ _; omega⟩
  unfold sendV
  split
  · split
    · exact hs
    · split
      · exact hl
      · split
        · exact hl
        · refine ⟨good_lay G l, ?_, ?_, ?_⟩ <;> (unfold layV; split)
          · exact h.n
          · exact h.n
          · exact h.O
          · exact h.O
          · omega
          · show W.c ≤ _; omega
  · exact hs
theorem notP_succ (p : Lt → Bool) (L : List Lt) {j : Nat} (hj : j < L.length) : (notP p (L.take (j + 1))).length = (notP p (L.take j)).length + (if p L[j] = true then 0 else 1) := by
  unfold notP
  rw [List.take_succ_eq_append_getElem hj, List.filter_append, List.length_append]
  cases h : p L[j] <;> simp [h]
theorem notP_le (p : Lt → Bool) (L : List Lt) (j : Nat) : (notP p (L.take j)).length ≤ L.length := Nat.le_trans (List.length_filter_le _ _) (by rw [List.length_take]; omega)
/-- What is known of a network whose link from a to b was cut. -/
structure IsCut (W : Wn) (a b : Nat) (V : Wn) : Prop where
  good : GoodW V
  n : V.n = W.n
  L : V.L = notP (pL a b) W.L
  O : V.O = O0.set (a * 16 + b) true
  c : V.c ≤ 200
theorem cut_is {m : Nat} {W : Wn} (h : Sent m 60 W) {a b : Nat} (ham : a < m) (hbm : b < m) (hne : a ≠ b) : cutE W a b = 0 ∧ IsCut W a b (cutV W a b true) := by
  have hl : linkB W a b = true := by
    unfold linkB endB
    rw [h.n]
    simp only [Bool.and_eq_true, decide_eq_true_eq, bne_iff_ne]
    omega
  have hfl : (notP (pL a b) W.L).length ≤ W.L.length := List.length_filter_le _ _
  have h96 := h.good.l
  have hc := h.c
  have hc0 := h.good.c0
  unfold cutE cutV
  rw [if_pos hl, if_pos hl, if_pos rfl]
  refine ⟨rfl, ⟨h.good.n0, h.good.n1, ?_, ?_, ?_, ?_⟩, rfl, rfl, ?_, ?_⟩
  · show (W.O.set _ _).length = 256
    rw [List.length_set]
    exact h.good.o
  · show (notP (pL a b) W.L).length ≤ 96
    omega
  · show 0 ≤ W.c + (lostN _ a b : Nat)
    omega
  · show W.c + (lostN { W with O := _ } a b : Nat) ≤ 1000000
    unfold lostN
    dsimp only
    omega
  · show W.O.set _ _ = _
    rw [h.O, Int.toNat_natCast, Int.toNat_natCast]
  · show W.c + (lostN { W with O := _ } a b : Nat) ≤ 200
    unfold lostN
    dsimp only
    omega
theorem link_is {m : Nat} {V : Wn} (hn : V.n = m) {a b : Nat} (ham : a < m) (hbm : b < m) (hne : a ≠ b) : linkB V a b = true := by
  unfold linkB endB
  rw [hn]
  simp only [Bool.and_eq_true, decide_eq_true_eq, bne_iff_ne]
  omega
theorem out_is {m : Nat} {V : Wn} (hn : V.n = m) {a b : Nat} (ham : a < m) (hbm : b < m) (hne : a ≠ b) : outB V a b = (V.O[a * 16 + b]?).getD false := by
  unfold outB
  rw [link_is hn ham hbm hne, Bool.true_and, Int.toNat_natCast, Int.toNat_natCast]
theorem o0_at (k : Nat) : (O0[k]?).getD false = false := by
  unfold O0
  rw [List.getElem?_replicate]
  split <;> rfl
end Go.Proofs.Ytbomlapmoiamgaa.wan
