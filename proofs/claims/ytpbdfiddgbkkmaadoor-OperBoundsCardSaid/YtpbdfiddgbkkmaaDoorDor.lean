/-
  The contract of the document's Order.
-/
import Derived.Test.YtpbdfiddgbkkmaaDoorDg
import Derived.Test.YtpbdfiddgbkkmaaDoorDc
import Derived.Deep.CutBlock
namespace Go.Proofs.YtpbdfiddgbkkmaaDoor.data
open Go.ChangeShapes Go.WideShapes Go.ChangeAt Go.RowKit
open Go.Proofs.YtpbdfiddgbkkmaaDoor.opened Go.Proofs.YtpbdfiddgbkkmaaDoor.block Go.Proofs.YtpbdfiddgbkkmaaDoor.region

theorem since_callS {P : Program} {f : FuncId} {args : Array Value} {v : Value} {w0 : World} (h : ∀ x : Since w0, Calls P f args x.1 fun e w' => e = .returned v ∧ Below x.1.heap.size x.1 w') (x : Since w0) :
    Calls P f args x.1 fun e w' => e = .returned v ∧ ∃ y : Since w0, w' = y.1 :=
  (h x).mono fun _ w' ⟨he, hb⟩ => ⟨he, ⟨w', then_below x.2 hb⟩, rfl⟩
/-- All from n on are greater than x. -/
def Over (N : List Rc) (x : Rc) (n : Nat) : Prop := n ≤ N.length ∧ ∀ j y, n ≤ j → N[j]? = some y → ltR x y = true
theorem over_down {N : List Rc} {x y : Rc} {n : Nat} (h : Over N x (n + 1)) (hy : N[n]? = some y) (hl : ltR x y = true) : Over N x n := by
  refine ⟨Nat.le_of_succ_le h.1, fun j z hj hz => ?_⟩
  by_cases e : j = n
  · subst e; rw [hy] at hz; rw [← Option.some.inj hz]; exact hl
  · exact h.2 j z (by omega) hz
/-- As the elements behind are moved on: a hole at k. -/
def Hole (N M : List Rc) (k : Nat) : Prop := k ≤ N.length ∧ ∃ z, M = N.take k ++ z :: N.drop k
theorem hole_at {N M : List Rc} {k : Nat} (h : Hole N M (k + 1)) : ∃ y, N[k]? = some y ∧ M[k]? = some y ∧ Hole N (M.set (k + 1) y) k ∧ M.length = N.length + 1 := by
  obtain ⟨hk, z, rfl⟩ := h
  obtain ⟨y, hy, -⟩ := get_ltR (show k < N.length by omega)
  have hl : (N.take (k + 1)).length = k + 1 := by rw [List.length_take]; omega
  refine ⟨y, hy, ?_, ⟨by omega, y, ?_⟩, ?_⟩
  · rw [List.getElem?_append_left (by omega), List.getElem?_take, if_pos (by omega)]
    exact hy
  · rw [List.set_append_right _ _ (by omega), hl, Nat.sub_self, List.set_cons_zero, take_next hy, drop_next hy]
    simp
  · simp
    omega
theorem hole_fill {N M : List Rc} {k : Nat} (x : Rc) (h : Hole N M k) : M.set k x = N.take k ++ x :: N.drop k ∧ M.length = N.length + 1 := by
  obtain ⟨hk, z, rfl⟩ := h
  have hl : (N.take k).length = k := by rw [List.length_take]; omega
  constructor
  · rw [List.set_append_right _ _ (by omega), hl, Nat.sub_self, List.set_cons_zero]
  · simp
    omega
theorem hole_new (N : List Rc) (x : Rc) : Hole N (N ++ [x]) N.length := ⟨Nat.le_refl _, x, by simp⟩
theorem flat_set (M : List Rc) : ∀ (k : Nat) (x : Rc), k < M.length → (M.set k x).flatMap cR = ((M.flatMap cR).set (k * 2) (.int .i64 x.k)).set (k * 2 + 1) (.int .i64 x.v) := by
  induction M with
  | nil => intro k x h; simp at h
  | cons y M ih =>
    intro k x h
    cases k with
    | zero => simp [cR]
    | succ k =>
      rw [List.set_cons_succ, List.flatMap_cons, ih k x (by simpa using h), List.flatMap_cons]
      rw [show (k + 1) * 2 = k * 2 + 2 by omega]
      simp [cR]
/-- A record is stored into a row of one's own. -/
theorem own_stored {w : World} {base g cap : Nat} {M : List Rc} {k : Nat} {x : Rc} (h : OwnR w base (.slice (some ⟨g, 0, none⟩) M.length cap) M) (hk : k < M.length) :
    OwnR ((w.setCell ⟨g, k * 2, none⟩ (.int .i64 x.k)).setCell ⟨g, k * 2 + 1, none⟩ (.int .i64 x.v)) base (.slice (some ⟨g, 0, none⟩) (M.set k x).length cap) (M.set k x) ∧
      w.grownBy ((w.setCell ⟨g, k * 2, none⟩ (.int .i64 x.k)).setCell ⟨g, k * 2 + 1, none⟩ (.int .i64 x.v)) (some g) := by
  have h1 := World.ownsRow.stored h (k * 2) (.int .i64 x.k)
  have h2 := World.ownsRow.stored h1.1 (k * 2 + 1) (.int .i64 x.v)
  unfold OwnR OwnG
  rw [List.length_set, flat_set M k x hk]
  exact ⟨h2.1, h1.2.trans h2.2⟩
end Go.Proofs.YtpbdfiddgbkkmaaDoor.data
