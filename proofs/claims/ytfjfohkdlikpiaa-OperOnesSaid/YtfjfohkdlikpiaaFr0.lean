/-
  All records of a time by keys: the document's Fold, what it leans on (by gen_fr.py).
-/
import Derived.Test.YtfjfohkdlikpiaaTot
import Derived.Test.YtfjfohkdlikpiaaDor
import Derived.Handy
import Derived.BigQuiet
import Derived.BigRegion
import Derived.Deep.CutBlock
namespace Go.Proofs.Ytfjfohkdlikpiaa.oper
open Go.ChangeShapes Go.WideShapes Go.ChangeAt Go.RowKit
open Go.Proofs.Ytfjfohkdlikpiaa.tm Go.Proofs.Ytfjfohkdlikpiaa.opened Go.Proofs.Ytfjfohkdlikpiaa.block Go.Proofs.Ytfjfohkdlikpiaa.region Go.Proofs.Ytfjfohkdlikpiaa.data

theorem flat_set (u : Int) : ∀ (M : List Rc) (k : Nat) (r : Rc), M[k]? = some r → (M.flatMap cR).set (k * 2 + 1) (.int .i64 u) = (M.set k ⟨r.k, u⟩).flatMap cR
  | [], _, _, h => by simp at h
  | y :: M, 0, r, h => by
    have e : y = r := by simpa using h
    subst e
    simp [cR]
  | y :: M, k + 1, r, h => by
    have ih := flat_set u M k r (by simpa using h)
    rw [List.flatMap_cons, List.set_cons_succ, List.flatMap_cons, ← ih]
    show ((.int .i64 y.k) :: (.int .i64 y.v) :: (M.flatMap cR)).set ((k + 1) * 2 + 1) _ = _
    rw [show (k + 1) * 2 + 1 = (k * 2 + 1) + 1 + 1 by omega, List.set_cons_succ, List.set_cons_succ]
    rfl
/-- The value of a record of one's own is stored anew. -/
theorem own_val {w : World} {base g cap m n : Nat} {M : List Rc} {r : Rc} (hn : M.length = n) (h : OwnR w base (.slice (some ⟨g, 0, none⟩) n cap) M) (hr : M[m]? = some r) (u : Int) :
    OwnR (w.setCell ⟨g, m * 2 + 1, none⟩ (.int .i64 u)) base (.slice (some ⟨g, 0, none⟩) (M.set m ⟨r.k, u⟩).length cap) (M.set m ⟨r.k, u⟩) ∧ w.grownBy (w.setCell ⟨g, m * 2 + 1, none⟩ (.int .i64 u)) (some g) := by
  subst hn
  have h1 := World.ownsRow.stored h (m * 2 + 1) (.int .i64 u)
  refine ⟨?_, h1.2⟩
  have h2 := h1.1
  rw [flat_set u M m r hr] at h2
  unfold OwnR OwnG
  rw [List.length_set]
  exact h2
theorem own_cell {w : World} {base g cap m n : Nat} {M : List Rc} {r : Rc} (hn : M.length = n) (h : OwnR w base (.slice (some ⟨g, 0, none⟩) n cap) M) (hr : M[m]? = some r) :
    w.cell? ⟨g, m * 2 + 1, none⟩ = some (.int .i64 r.v) ∧ w.frozen? ⟨g, m * 2 + 1, none⟩ = false := by
  subst hn
  obtain ⟨b2, o2, hA2, hb2, d0, d1⟩ := at_rc (h.lg cellsR) hr
  injection (Option.some.inj hA2) with e1 e2
  subst e1 e2
  rw [Nat.zero_add] at d1
  exact ⟨d1, World.ownsRow.frozenAt h (m * 2 + 1)⟩
theorem srt_prev {N : List Rc} {k : Nat} {x y : Rc} (hs : Srt N) (hx : N[k]? = some x) (hy : N[k - 1]? = some y) (h0 : 0 < k) : (∀ z ∈ N.take k, z.k ≤ y.k) ∧ y.k ≤ x.k ∧ y ∈ N.take k := by
  obtain ⟨hk, ex⟩ := List.getElem?_eq_some_iff.1 hx
  obtain ⟨hk1, ey⟩ := List.getElem?_eq_some_iff.1 hy
  refine ⟨fun z hz => ?_, ?_, ?_⟩
  · obtain ⟨i, hi⟩ := List.getElem?_of_mem hz
    rw [List.getElem?_take] at hi
    split at hi
    · rename_i hik
      by_cases e : i = k - 1
      · rw [e, hy] at hi
        rw [Option.some.inj hi]
        exact Int.le_refl _
      · obtain ⟨hi1, hi2⟩ := List.getElem?_eq_some_iff.1 hi
        have := List.pairwise_iff_getElem.1 hs i (k - 1) hi1 hk1 (by omega)
        rw [hi2, ey, leR_iff] at this
        omega
    · cases hi
  · have := List.pairwise_iff_getElem.1 hs (k - 1) k hk1 hk (by omega)
    rw [ey, ex, leR_iff] at this
    omega
  · refine List.mem_of_getElem? (i := k - 1) ?_
    rw [List.getElem?_take, if_pos (by omega)]
    exact hy
/-- A key that is new. -/
theorem step_new {kd : Int} {N out : List Rc} {k : Nat} {x : Rc} {u : Int} (hs : Srt N) (hx : N[k]? = some x) (h : IsF kd (N.take k) out) (hr : Rise out) (hf : k = 0 ∨ ∃ y, N[k - 1]? = some y ∧ y.k ≠ x.k) (hu : u = totV kd [x.v]) :
    IsF kd (N.take (k + 1)) ((out ++ [(⟨x.k, 0⟩ : Rc)]).set out.length ⟨x.k, u⟩) ∧ Rise ((out ++ [(⟨x.k, 0⟩ : Rc)]).set out.length ⟨x.k, u⟩) := by
  rw [List.set_append_right _ _ (Nat.le_refl _), Nat.sub_self, take_next hx, hu]
  refine isF_new h hr fun z hz => ?_
  rcases hf with rfl | ⟨y, hy, hne⟩
  · simp at hz
  · have h0 : 0 < k := by
      rcases Nat.eq_zero_or_pos k with e | e
      · rw [e] at hz; simp at hz
      · exact e
    obtain ⟨h1, h2, -⟩ := srt_prev hs hx hy h0
    have := h1 z hz
    omega
/-- A key that is there. -/
theorem step_more {kd : Int} {N out : List Rc} {k m : Nat} {x y r : Rc} {u : Int} (hs : Srt N) (hx : N[k]? = some x) (h : IsF kd (N.take k) out) (hr : Rise out) (h0 : 0 < k) (hy : N[k - 1]? = some y) (hxy : y.k = x.k) (hn : out.length = m + 1) (hl : out[m]? = some r) (hu : u = addV kd r.v x.v) :
    IsF kd (N.take (k + 1)) (out.set m ⟨r.k, u⟩) ∧ Rise (out.set m ⟨r.k, u⟩) := by
  have hs2 : Srt (N.take k ++ [x]) := by rw [← take_next hx]; exact hs.sublist (List.take_sublist _ _)
  have := isF_more h hr hs2 (srt_prev hs hx hy h0).2.2 hxy hn hl
  rw [take_next hx, hu]
  exact this.2
theorem out_pos {kd : Int} {N out : List Rc} {k : Nat} {y : Rc} (h : IsF kd (N.take k) out) (h0 : 0 < k) (hy : N[k - 1]? = some y) : ∃ m r, out.length = m + 1 ∧ out[m]? = some r ∧ (kd = 12 → 0 ≤ r.v ∧ r.v ≤ k) := by
  have hm : y ∈ N.take k := List.mem_of_getElem? (i := k - 1) (by rw [List.getElem?_take, if_pos (by omega)]; exact hy)
  obtain ⟨s, hs, -⟩ := h.all y hm
  obtain ⟨i, hi⟩ := List.getElem?_of_mem hs
  have hl := (List.getElem?_eq_some_iff.1 hi).1
  refine ⟨out.length - 1, out[out.length - 1]'(by omega), by omega, List.getElem?_eq_getElem _, fun e => ?_⟩
  have := (h.tot _ (List.getElem_mem (l := out) (n := out.length - 1) (by omega))).1
  rw [this, e]
  have h1 := vals_len (out[out.length - 1]'(by omega)).k (N.take k)
  rw [List.length_take] at h1
  simp only [totV, if_true]
  omega
theorem set_same {M : List Rc} {m : Nat} {r : Rc} (h : M[m]? = some r) : M.set m ⟨r.k, r.v⟩ = M := by
  apply List.ext_getElem?
  intro i
  rw [List.getElem?_set]
  split
  · rename_i e
    subst e
    rw [if_pos (List.getElem?_eq_some_iff.1 h).1, h]
  · rfl
theorem isF_len {kd : Int} {N out : List Rc} (h : IsF kd N out) (hr : Rise out) : out.length ≤ N.length := by
  rw [isF_rise h hr (List.Perm.refl _)]
  exact fold_len _ _
theorem foldR_no (kd : Int) (hk : keepsB kd = false) (A : Option Addr) (l c : Nat) (w : World) :
    Calls Try.prog 15 #[.int .i64 kd, .slice A l c] w fun e W' => e = .returned (.tuple #[.slice none 0 0, .int .i64 70]) ∧ Below w.heap.size w W' := by
  have KP := Lib.hid (fun w0 => keepsR_any kd w0)
  rw [hk] at KP
  clear hk
  go_enter Try.func15, Try.ntmps15
  go_wp2_with (go_at_call 9; refine (KP.out _).mono ?_; rintro e w2 ⟨rfl, b2⟩)
  go_ret2
  exact ⟨rfl, b2⟩
end Go.Proofs.Ytfjfohkdlikpiaa.oper
