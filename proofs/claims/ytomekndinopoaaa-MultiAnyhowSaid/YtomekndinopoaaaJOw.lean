/-
  Rows of times that are one's own.
  The contract of watershedlaw06.own.
-/
import Derived.Test.YtomekndinopoaaaJLe
import Derived.OwnWalk
import Derived.OwnWalkIn
import Derived.Maps.AppendAt
import Derived.WalkMore
namespace Go.Proofs.Ytomekndinopoaaa.chain
open Go.ChangeShapes Go.WideShapes Go.ChangeAt Go.RowKit
open Go.Proofs.Ytomekndinopoaaa.tm Go.Proofs.Ytomekndinopoaaa.opened Go.Proofs.Ytomekndinopoaaa.block Go.Proofs.Ytomekndinopoaaa.stamp

theorem heap_new (w : World) (o : Obj) : (w.alloc o).heap[w.heap.size]? = some o := by
  show (w.heap.push o)[w.heap.size]? = some o
  simp
theorem cells_new (w : World) (xs : List Value) (t : TypeId) : ∀ j u, xs[j]? = some u → (w.alloc (.cells xs.toArray t)).cell? ((⟨w.heap.size, 0, none⟩ : Addr).add j) = some u := by
  intro j u hj
  have hh : (w.alloc (.cells xs.toArray t)).heap[w.heap.size]? = some (.cells xs.toArray t (0, 0)) := heap_new w _
  generalize w.alloc (.cells xs.toArray t) = W at hh ⊢
  generalize w.heap.size = g at hh ⊢
  cases j with
  | zero => simp only [World.cell?, Addr.add, ↓reduceIte, hh]; simpa using hj
  | succ j => simp [World.cell?, Addr.add, hh, hj]
theorem infoT : (Try.prog.info? 33).map (fun i => (i.zero, i.size, i.bytes)) = some (some (.agg #[.int .u32 T0.e, .int .i64 T0.d, .int .u32 T0.a, .int .u32 T0.b, .int .u32 T0.c]), 5, 32) := by kernel_rfl
theorem flat_at (N : List Tm) : ∀ (i : Nat) (y : Tm) (j : Nat), N[i]? = some y → j < 5 → (N.flatMap cT)[i * 5 + j]? = (cT y)[j]? := by
  induction N with
  | nil => intro i y j h; simp at h
  | cons x r ih =>
    intro i y j h hj
    have h5 : (cT x).length = 5 := rfl
    rw [List.flatMap_cons]
    cases i with
    | zero =>
      simp at h
      subst h
      rw [List.getElem?_append_left (by rw [h5]; omega)]
      simp
    | succ i =>
      rw [List.getElem?_append_right (by rw [h5]; omega), h5, show (i + 1) * 5 + j - 5 = i * 5 + j by omega]
      exact ih i y j (by simpa using h) hj
/-- A slice of times that is one's own. -/
abbrev OwnT (w : World) (base : Nat) (v : Value) (N : List Tm) : Prop := w.ownsRow base 33 5 v N.length (N.flatMap cT)
theorem OwnT.lies {w : World} {base : Nat} {A : Option Addr} {n c : Nat} {N : List Tm} (h : OwnT w base (.slice A n c) N) : Lt w A N := by
  rcases h.2 with ⟨-, hn⟩ | ⟨g, cap, cur, hv, hb, hg, hc, hcm, hs, ht⟩
  · rw [List.eq_nil_of_length_eq_zero hn]; exact Lt.nil _ _
  · injection hv with h1 h2 h3
    subst h1
    refine .inr ⟨g, 0, rfl, (Array.getElem?_eq_some_iff.1 hg).1, fun i x hx => ?_⟩
    rw [List.getElem?_map, Option.map_eq_some_iff] at hx
    obtain ⟨y, hy, rfl⟩ := hx
    refine ⟨rfl, fun j hj => ?_⟩
    have e := flat_at N i y j hy hj
    have hi := (List.getElem?_eq_some_iff.1 hy).1
    rw [← ht, List.getElem?_take, if_pos (by omega), Array.getElem?_toList] at e
    rw [← e]
    simp [World.cell?, hg]
theorem OwnT.below {w w' : World} {base : Nat} {v : Value} {N : List Tm} (h : OwnT w base v N) (hb : Below w.heap.size w w') : OwnT w' base v N := by
  refine ⟨h.1, ?_⟩
  rcases h.2 with hn | ⟨g, cap, cur, hv, hg0, hg, rest⟩
  · exact .inl hn
  · exact .inr ⟨g, cap, cur, hv, hg0, (hb.block g (Array.getElem?_eq_some_iff.1 hg).1).trans hg, rest⟩
theorem OwnT.grown {W w1 : World} {base : Nat} {v : Value} {N : List Tm} {tmp : Obj} (h : OwnT W base v N) (hb0 : base ≤ W.heap.size) (hg : (W.alloc tmp).grownBy w1 v.ownBlock) : Below base W w1 :=
  ((Below.refl base W).alloc hb0 tmp).grown hg (by simp; omega) fun j ej => by
    rcases h.2 with ⟨rfl, _⟩ | ⟨g, cap, cur, rfl, hb, _, _⟩
    · simp [Value.ownBlock] at ej
    · obtain rfl : g = j := by simpa [Value.ownBlock] using ej
      exact hb
theorem one_cT (t : Tm) : ∀ v ∈ cT t, v.oneCell' = true := by
  intro v hv
  simp [cT] at hv
  rcases hv with rfl | rfl | rfl | rfl | rfl <;> rfl
theorem flat_len (N : List Tm) : (N.flatMap cT).length = N.length * 5 := by
  induction N with
  | nil => rfl
  | cons x r ih => rw [List.flatMap_cons, List.length_append, ih, List.length_cons]; have : (cT x).length = 5 := rfl; omega
theorem flat_drop (N : List Tm) : ∀ p, (N.drop p).flatMap cT = (N.flatMap cT).drop (p * 5) := by
  induction N with
  | nil => intro p; simp
  | cons x r ih =>
    intro p
    cases p with
    | zero => simp
    | succ p =>
      rw [List.drop_succ_cons, ih p, List.flatMap_cons, show (p + 1) * 5 = (cT x).length + p * 5 by have : (cT x).length = 5 := rfl; omega, List.drop_append]
      simp
theorem flat_take (N : List Tm) : ∀ p, (N.take p).flatMap cT = (N.flatMap cT).take (p * 5) := by
  induction N with
  | nil => intro p; simp
  | cons x r ih =>
    intro p
    cases p with
    | zero => simp
    | succ p =>
      rw [List.take_succ_cons, List.flatMap_cons, ih p, List.flatMap_cons, show (p + 1) * 5 = (cT x).length + p * 5 by have : (cT x).length = 5 := rfl; omega, List.take_append]
      rw [List.take_of_length_le (l := cT x) (by omega), Nat.add_sub_cancel_left]
theorem one_flat (N : List Tm) : ∀ v ∈ N.flatMap cT, v.oneCell' = true := by
  intro v hv
  obtain ⟨t, -, h⟩ := List.mem_flatMap.1 hv
  exact one_cT t v h
theorem OwnT.cells {w : World} {base g n c : Nat} {N : List Tm} (h : OwnT w base (.slice (some ⟨g, 0, none⟩) n c) N) : ∀ j u, (N.flatMap cT)[j]? = some u → w.cell? ⟨g, j, none⟩ = some u := by
  intro j u hj
  rcases h.2 with ⟨hv, -⟩ | ⟨g', cap, cur, hv, hb, hg, hc, hcm, hs, ht⟩
  · cases hv
  · injection hv with h1 h2 h3
    injection (Option.some.inj h1) with h1
    subst h1
    rw [← ht, List.getElem?_take] at hj
    split at hj
    · rw [Array.getElem?_toList] at hj
      simp [World.cell?, hg, hj]
    · cases hj
theorem OwnT.first {w : World} {base g n c p : Nat} {N : List Tm} (h : OwnT w base (.slice (some ⟨g, 0, none⟩) n c) N) : ∀ j u, ((N.take p).flatMap cT)[j]? = some u → w.cell? ((⟨g, 0, none⟩ : Addr).add j) = some u := by
  intro j u hj
  rw [flat_take, List.getElem?_take] at hj
  split at hj
  · have := h.cells j u hj
    rw [show (⟨g, 0, none⟩ : Addr).add j = ⟨g, j, none⟩ by cases j <;> simp [Addr.add]]
    exact this
  · cases hj
theorem OwnT.shape {w : World} {base : Nat} {v : Value} {N : List Tm} (h : OwnT w base v N) : ∃ B c, v = .slice B N.length c := by
  rcases h.2 with ⟨hv, hn⟩ | ⟨g, cap, cur, hv, -⟩
  · exact ⟨none, 0, by rw [hv, hn]⟩
  · exact ⟨_, _, hv⟩
theorem OwnT.low {w : World} {base base' : Nat} {v : Value} {N : List Tm} (h : OwnT w base v N) (hb : base' ≤ base) : OwnT w base' v N := by
  refine ⟨h.1, ?_⟩
  rcases h.2 with hn | ⟨g, cap, cur, hv, hg0, hg, rest⟩
  · exact .inl hn
  · exact .inr ⟨g, cap, cur, hv, Nat.le_trans hb hg0, hg, rest⟩
theorem OwnT.grown0 {W w1 : World} {base : Nat} {v : Value} {N : List Tm} (h : OwnT W base v N) (hb0 : base ≤ W.heap.size) (hg : W.grownBy w1 v.ownBlock) : Below base W w1 :=
  (Below.refl base W).grown hg hb0 fun j ej => by
    rcases h.2 with ⟨rfl, _⟩ | ⟨g, cap, cur, rfl, hb, _, _⟩
    · simp [Value.ownBlock] at ej
    · obtain rfl : g = j := by simpa [Value.ownBlock] using ej
      exact hb
end Go.Proofs.Ytomekndinopoaaa.chain
namespace Go.Proofs.Ytomekndinopoaaa.chain
open Go.ChangeShapes Go.WideShapes Go.ChangeAt Go.RowKit
open Go.Proofs.Ytomekndinopoaaa.tm Go.Proofs.Ytomekndinopoaaa.opened Go.Proofs.Ytomekndinopoaaa.block Go.Proofs.Ytomekndinopoaaa.stamp

theorem lt_flat {w : World} {L : List Tm} {b off : Nat} (h : Lt w (some ⟨b, off, none⟩) L) : ∀ j u, (L.flatMap cT)[j]? = some u → w.cell? ((⟨b, off, none⟩ : Addr).add j) = some u := by
  intro j u hj
  have hlt : j < L.length * 5 := by rw [← flat_len]; exact (List.getElem?_eq_some_iff.1 hj).1
  obtain ⟨y, hy, -⟩ := get_lt (L := L) (k := j / 5) (by omega)
  have e := flat_at L (j / 5) y (j % 5) hy (Nat.mod_lt _ (by omega))
  rw [show j / 5 * 5 + j % 5 = j by omega, hj] at e
  rcases h with h | ⟨b', o', hA, -, hc⟩
  · have : L = [] := by simpa using h
    subst this
    simp at hy
  · injection (Option.some.inj hA) with e1 e2
    subst e1 e2
    have := (hc (j / 5) (cT y) (by rw [List.getElem?_map, hy]; rfl)).2 (j % 5) (Nat.mod_lt _ (by omega))
    rw [show j / 5 * 5 + j % 5 = j by omega, ← e] at this
    rw [show (⟨b, off, none⟩ : Addr).add j = ⟨b, off + j, none⟩ by cases j <;> simp [Addr.add]]
    exact this
theorem own0 (W : World) : OwnT (W.alloc (.cells #[] 33)) W.heap.size (.slice (some ⟨W.heap.size, 0, none⟩) 0 0) [] := ⟨rfl, .inr ⟨W.heap.size, 0, #[], rfl, Nat.le_refl _, heap_new W _, Nat.le_refl _, by simp [maxLen], rfl, rfl⟩⟩
theorem OwnT.same {w : World} {base : Nat} {v : Value} {N M : List Tm} (h : OwnT w base v N) (e : N = M) : OwnT w base v M := e ▸ h
end Go.Proofs.Ytomekndinopoaaa.chain
