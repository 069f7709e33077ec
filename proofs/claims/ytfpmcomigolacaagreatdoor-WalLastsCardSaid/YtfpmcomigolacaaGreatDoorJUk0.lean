/-
  A row of numbers that is one's own; Mend by such a row.
-/
import Derived.Test.YtfpmcomigolacaaGreatDoorJKco
set_option linter.unusedSimpArgs false
set_option linter.unusedVariables false
namespace Go.Proofs.YtfpmcomigolacaaGreatDoor.disk
open Go.ChangeShapes Go.WideShapes Go.ChangeAt Go.RowKit Go.Maps Go.WideMaps
open Go.Proofs.YtfpmcomigolacaaGreatDoor.words Go.Proofs.YtfpmcomigolacaaGreatDoor.opened Go.Proofs.YtfpmcomigolacaaGreatDoor.block

theorem fin_step {w w2 w3 : World} {S : Nat → Prop} {g : Nat} {D' : Dk} (t2 : Turn w w2 S) (d : DiskP w3 (More w2 (More w S)) g D') (t3 : Turn w2 w3 (More w S)) : DiskP w3 (More w S) g D' ∧ Turn w w3 S :=
  ⟨d.wide fun k hk => by
    rcases hk with hk | hk
    · exact hk
    · exact .inr (Nat.le_trans t2.size hk), t2.trans t3 fun _ hj => hj⟩
/-- Mend by a row that is newer than w1. -/
theorem mendS {S : Nat → Prop} {g : Nat} {D : Dk} {w1 w : World} (G : GoodD D) (hF : D.F.length ≤ 1000) (K : Option Addr) (kc : Nat) (keep : List Int) (hk : ∀ x ∈ keep, x ≤ 9223372036854775807) (hkl : keep.length ≤ 100000) (h : DiskP w1 S g D) (hb : Below w1.heap.size w1 w) (hK : Lies w K (keep.map (Value.int .i64))) (hKn : ∀ a, K = some a → w1.heap.size ≤ a.block) :
    Calls Tryz.prog 15 #[.pointer (some ⟨g, 0, none⟩), .slice K keep.length kc] w fun e w' => e = .returned (.tuple #[]) ∧ DiskP w' (More w1 S) g (mendV D keep) ∧ Turn w1 w' S := by
  have h1 : DiskP w1 (fun k => S k ∧ k < w1.heap.size) g D := by
    obtain ⟨mb, E, h1, h2⟩ := h
    exact ⟨mb, E, h1, fun k hk => ⟨h2 k hk, h1.inside hk⟩⟩
  refine (mend_any G hF K kc keep hk hkl w (h1.below hb) hK (fun a ha hh => by have := hKn a ha; omega)).mono fun e w' ⟨e1, e2, e3⟩ => ⟨e1, e2.wide fun k hk => ?_, ((turn_below hb S).trans (e3.wide (Q := S) fun k hk => hk.1) fun _ hj => .inl hj)⟩
  rcases hk with hk | hk
  · exact .inl hk.1
  · exact .inr (Nat.le_trans hb.size hk)
theorem info3 : (Tryz.prog.info? 3).map (fun i => (i.zero, i.size, i.bytes)) = some (some (.int .i64 0), 1, 8) := by kernel_rfl
theorem own0I (W : World) : (W.alloc (.cells #[] 3)).ownsRow W.heap.size 3 1 (.slice (some ⟨W.heap.size, 0, none⟩) 0 0) 0 [] := ⟨rfl, .inr ⟨W.heap.size, 0, #[], rfl, Nat.le_refl _, heap_new W _, Nat.le_refl _, by simp [maxLen], rfl, rfl⟩⟩
theorem lies_own {w : World} {base n c : Nat} {A : Option Addr} {xs : List Value} {e : TypeId} (h : w.ownsRow base e 1 (.slice A n c) n xs) : Lies w A xs ∧ ∀ a, A = some a → base ≤ a.block := by
  refine ⟨?_, fun a ha => (World.ownsRow.lt h a.block (by rw [ha]; rfl)).1⟩
  rcases h.2 with ⟨-, hn⟩ | ⟨g, cap, cur, hv, hb, hg, hc, hcm, hs, ht⟩
  · left
    have := h.1
    rw [hn] at this
    exact List.eq_nil_of_length_eq_zero (by simpa using this)
  · injection hv with h1 h2 h3
    subst h1
    refine .inr ⟨g, 0, rfl, (Array.getElem?_eq_some_iff.1 hg).1, fun i x hx => ?_⟩
    have hi := (List.getElem?_eq_some_iff.1 hx).1
    have hl := h.1
    rw [← ht, List.getElem?_take, if_pos (by omega), Array.getElem?_toList] at hx
    rw [← hx]
    simp [World.cell?, hg]
/-- append([]int{}, xs...), by its run. -/
theorem own_ints (w0 : World) (K : Option Addr) (kc : Nat) (xs : List Int) (hl : xs.length ≤ 1000000) (hL : Lies w0 K (xs.map (Value.int .i64))) (ty : TypeId) :
    ∃ A' c' w', (Builtin.append_ #[23, 23] ty #[.slice (some ⟨w0.heap.size, 0, none⟩) 0 0, .slice K xs.length kc]).run Tryz.prog (w0.alloc (.cells #[] 3)) = .ok (.slice A' xs.length c') w' ∧ Lies w' A' (xs.map (Value.int .i64)) ∧ (∀ a, A' = some a → w0.heap.size ≤ a.block) ∧ Below w0.heap.size w0 w' := by
  obtain ⟨i0, hi, hz0, hz1, hz2⟩ : ∃ i, Tryz.prog.info? 3 = some i ∧ i.zero = some (.int .i64 0) ∧ i.size = 1 ∧ i.bytes = 8 := by
    have h := info3
    rw [Option.map_eq_some_iff] at h
    obtain ⟨i, hi, he⟩ := h
    simp only [Prod.mk.injEq] at he
    exact ⟨i, hi, he.1, he.2.1, he.2.2⟩
  have HO := own0I w0
  have b1 := fresh1' w0 (.cells #[] 3)
  have fin : ∀ ad : Addr, K = some ad → (∀ (j : Nat) (u : Value), (xs.map (Value.int .i64))[j]? = some u → (w0.alloc (.cells #[] 3)).cell? (ad.add j) = some u) →
      ∃ A' c' w', (Builtin.append_ #[23, 23] ty #[.slice (some ⟨w0.heap.size, 0, none⟩) 0 0, .slice K xs.length kc]).run Tryz.prog (w0.alloc (.cells #[] 3)) = .ok (.slice A' xs.length c') w' ∧ Lies w' A' (xs.map (Value.int .i64)) ∧ (∀ a, A' = some a → w0.heap.size ≤ a.block) ∧ Below w0.heap.size w0 w' := by
    intro ad hK hnews
    subst hK
    obtain ⟨v', w', hr, ho, hg, -⟩ := run_append_own (P := Tryz.prog) (w0.alloc (.cells #[] 3)) w0.heap.size 23 ty 3 i0 (.int .i64 0) 1 8 Tryz.underlying23 hi hz0 hz1 hz2 rfl (by decide) _ 0 [] HO ad xs.length kc (xs.map (Value.int .i64)) (by simp) hnews (fun u hu => by obtain ⟨x, -, rfl⟩ := List.mem_map.1 hu; rfl) (by unfold maxLen; omega) (by omega) (by simp)
    rw [Nat.zero_add, List.nil_append] at ho
    obtain ⟨A', c', rfl⟩ : ∃ A' c', v' = .slice A' xs.length c' := by
      rcases ho.2 with ⟨rfl, hn⟩ | ⟨g, cap, cur, rfl, -⟩
      · exact ⟨none, 0, by rw [hn]⟩
      · exact ⟨_, _, rfl⟩
    obtain ⟨l1, l2⟩ := lies_own ho
    exact ⟨A', c', w', hr, l1, l2, b1.grown hg (by simp) (fun j ej => by cases ej; exact Nat.le_refl _)⟩
  cases K with
  | none =>
    have hx : xs = [] := by
      rcases hL with h0 | ⟨b, off, hK, -⟩
      · simpa using h0
      · cases hK
    subst hx
    refine ⟨some ⟨w0.heap.size, 0, none⟩, 0, w0.alloc (.cells #[] 3), ?_, .inl rfl, fun a ha => by cases ha; exact Nat.le_refl _, b1⟩
    simp [Builtin.append_, run_underlying Tryz.underlying23, sizeOf, typeInfo, hi, Builtin.lenOf, Builtin.firstCells]
    rfl
  | some ad =>
    refine fin ad rfl fun j u hj => ?_
    rcases hL with h0 | ⟨b, off, hK, hb, hc⟩
    · rw [h0] at hj
      simp at hj
    · cases hK
      have e : (⟨b, off, none⟩ : Addr).add j = ⟨b, off + j, none⟩ := by cases j <;> simp [Addr.add]
      rw [e]
      exact (b1.cell (p := ⟨b, off + j, none⟩) hb).trans (hc j u hj)
end Go.Proofs.YtfpmcomigolacaaGreatDoor.disk
