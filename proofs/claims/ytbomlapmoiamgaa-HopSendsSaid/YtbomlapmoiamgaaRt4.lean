/-
  A region that draws its order, several operations of which write, each in what is its own.
-/
import Derived.Test.YtbomlapmoiamgaaRt3
set_option linter.unusedSimpArgs false
set_option linter.unusedVariables false
namespace Go.Proofs.Ytbomlapmoiamgaa.region
open Go.RowKit Go.Proofs.Ytbomlapmoiamgaa.block

section
variable {P : Program} {ops : Array Oper} {md : Region.Mode} {a0 : Act}
/-- What is asked of the operations of a list, one by one, each in the frame that the ones ahead of it leave: the one at n may write in what is its own alone. -/
def TellMany (P : Program) (n : Nat → Bool) (R : World → Prop) (O : Nat → World → Prop) (T : Nat → Value → World → Prop) : List Oper → Nat → ((Nat → Value) → Act) → Prop
  | [], _, _ => True
  | o :: l, i, env => (if n i = true then (∀ v w, R w → O i w → (∀ j, (o.after.any fun e => Region.binds .any e && e.on == j) = true → T j (v j) w) → YieldsW P o (env v).eval w fun u w' => R w' ∧ (∀ k x, k ≠ i → T k x w → T k x w') ∧ (∀ k, k ≠ i → n k = true → O k w → O k w') ∧ T i u w')
      else ∀ v w, R w → (∀ j, (o.after.any fun e => Region.binds .any e && e.on == j) = true → T j (v j) w) → Yields P o (env v).eval w (T i)) ∧ TellMany P n R O T l (i + 1) fun v => (env v).put o.dst (v i)
theorem tellMany_at {n : Nat → Bool} {R : World → Prop} {O : Nat → World → Prop} {T : Nat → Value → World → Prop} (hap : Apart ops) (hR : ∀ w w', Below w.heap.size w w' → R w → R w') (hk : ∀ i u w w', Below w.heap.size w w' → T i u w → T i u w') (hO : ∀ k w w', Below w.heap.size w w' → O k w → O k w') :
    ∀ (l : List Oper) (i : Nat) (env : (Nat → Value) → Act) (L : Array Bool), (∀ j, l[j]? = ops[i + j]?) → L.size = ops.size → (∀ j, j < i → L.getD j false = true) → (∀ j, L.getD j false = true → j < i) → (∀ v, Agr ops v a0 (env v) L) → TellMany P n R O T l i env → ∀ (j : Nat) (o : Oper), l[j]? = some o → ∀ v w, R w → (n (i + j) = true → O (i + j) w) →
    (∀ e ∈ o.after, Region.binds .any e = true → T e.on (v e.on) w) → ∃ (b : Act) (L : Array Bool), Agr ops v a0 b L ∧ (∀ k, k < i + j → L.getD k false = true) ∧ (∀ k, L.getD k false = true → k < i + j) ∧ YieldsW P o b.eval w fun u w' => R w' ∧ (∀ k x, (n (i + j) = true → k ≠ i + j) → T k x w → T k x w') ∧ (∀ k, k ≠ i + j → (n k = true → O k w) → n k = true → O k w') ∧ T (i + j) u w'
  | [], _, _, _, _, _, _, _, _, _, j, o, h => by simp at h
  | o :: l, i, env, L, _, _, h1, h2, hA, h, 0, o', h' => by
    obtain rfl : o = o' := by simpa using h'
    intro v w hb ho he
    refine ⟨env v, L, hA v, h1, h2, ?_⟩
    have hd : ∀ j, (o.after.any fun e => Region.binds .any e && e.on == j) = true → T j (v j) w := fun j hj => by
      obtain ⟨e, hm, hh⟩ := Array.any_eq_true'.1 hj
      simp only [Bool.and_eq_true, beq_iff_eq] at hh
      exact hh.2 ▸ he e hm hh.1
    have h1 := h.1
    by_cases e : n i = true
    · rw [if_pos e] at h1
      have hs : ∀ (u : Value) (w' : World), (R w' ∧ (∀ k x, k ≠ i → T k x w → T k x w') ∧ (∀ k, k ≠ i → n k = true → O k w → O k w') ∧ T i u w') → R w' ∧ (∀ k x, (n (i + 0) = true → k ≠ i + 0) → T k x w → T k x w') ∧ (∀ k, k ≠ i + 0 → (n k = true → O k w) → n k = true → O k w') ∧ T (i + 0) u w' := fun u w' ⟨h2, h3, h4, h5⟩ => ⟨h2, fun k x hk => h3 k x (hk e), fun k hne ho' e' => h4 k hne e' (ho' e'), h5⟩
      rcases h1 v w hb (ho e) hd with ⟨u, w', hr, ht⟩ | ⟨f, args, hr, hc⟩
      · exact .inl ⟨u, w', hr, hs u w' ht⟩
      · exact .inr ⟨f, args, hr, hc.mono fun x w' ⟨u, hx, ht⟩ => ⟨u, hx, hs u w' ht⟩⟩
    · rw [if_neg e] at h1
      exact (h1 v w hb hd).wide fun u w' hb' ht => ⟨hR w w' hb' hb, fun k x _ => hk k x w w' hb', fun k _ ho' e' => hO k w w' hb' (ho' e'), ht⟩
  | o :: l, i, env, L, hl, hs, h1, h2, hA, h, j + 1, o', h' => by
    have h0 : ops[i]? = some o := by simpa using (hl 0).symm
    have hlt : i < L.size := by rw [hs]; exact (Array.getElem?_eq_some_iff.1 h0).1
    have := tellMany_at hap hR hk hO l (i + 1) (fun v => (env v).put o.dst (v i)) (L.setIfInBounds i true) (fun j => by have := hl (j + 1); simpa [Nat.add_assoc, Nat.add_comm 1 j] using this) (by simpa using hs)
      (fun k hk => by
        by_cases e : k = i
        · subst e; exact getD_set_eq hlt
        · exact set_keep (h1 k (by omega)))
      (fun k hk => by
        rcases set_or hk with e | e
        · omega
        · have := h2 k e; omega)
      (fun v => (hA v).step hap h0 hlt fun _ _ => rfl) h.2 j o' (by simpa using h')
    rwa [show i + 1 + j = i + (j + 1) by omega] at this
/-- **A region that draws its order, one operation of which writes in what is its own.** -/
theorem region_many {id : Nat} {l : List Oper} {w : World} (N : Nat) (n : Nat → Bool) (R : World → Prop) (hR : ∀ w w', Below w.heap.size w w' → R w → R w') (r0 : R w) (T : List (Value → World → Prop)) (O : Nat → World → Prop) {Q : Exit → Act → World → Prop} (hm : P.follows .mixedOrders = true)
    (hN : a0.tmps.size = N) (hok : okB2 l.toArray N = true) (hkeep : KeepAll T) (hO : ∀ k w w', Below w.heap.size w w' → O k w → O k w') (h0 : ∀ k, n k = true → O k w)
    (h : ∀ fin : (Nat → Value) → Act, (∀ v, fin v = lexPut v l 0 a0) → TellMany P n R O (At T) l 0 (fun _ => a0) ∧ ∀ v w', R w' → (∀ i, i < l.length → At T i (v i) w') → Q .normal (fin v) w') :
    (Code.region id l.toArray true).wp P Q a0 w := by
  obtain ⟨h1, h2⟩ := h (fun v => lexPut v l 0 a0) (fun _ => rfl)
  have hap : Apart l.toArray := fun i j o o' t hi hj hd hd' => by
    have := ((okB2_at hok hi).1 t hd).1 j (mem_writes hj hd')
    exact this.symm
  have K : WTable P .any l.toArray a0 (fun i k => n i = true → k ≠ i) R (At T) (fun k w' => n k = true → O k w') (fun v => lexPut v l 0 a0) := by
    refine ⟨hap, fun i o hi => (okB2_at hok hi).2.1, fun i o hi => ⟨(okB2_at hok hi).2.2.1, (okB2_at hok hi).2.2.2.1, fun t ht j oj hj hd => ?_⟩,
      fun i o t hi hd => by rw [hN]; exact ((okB2_at hok hi).1 t hd).2, fun v => lexPut_last hap, ?_, ?_⟩
    · rcases (okB2_at hok hi).2.2.2.2 t ht j (mem_writes hj hd) with h | ⟨h, h'⟩
      · exact .inl h
      · refine .inr ⟨h, fun listed hc hl => ?_⟩
        rcases h' with h' | h'
        · rw [← h']; exact hl
        · exact reach_listed hc _ j i h' hl
    rotate_left
    · intro i k o hk hne hs
      exact absurd (fun _ => hne) hs
    intro i o hi v w' hb hu he
    have := tellMany_at hap hR (keepAll_at hkeep) hO l 0 (fun _ => a0) (Array.replicate l.toArray.size false) (fun j => by simp) (by simp) (fun j hj => absurd hj (Nat.not_lt_zero j)) (fun j hj => by rw [none_listed] at hj; cases hj) (fun v => ⟨rfl, rfl, (fun i o t _ _ hl => by rw [none_listed] at hl; cases hl), fun _ _ => rfl⟩) h1 i o (by simpa using hi) v w' hb (by simpa using hu) he
    simpa using this
  refine wp_region_any hm (run_wide K (fun v w' hb hv => h2 v w' hb (fun i hi => hv i (by simpa using hi))) _ _ (fun _ => undef) _ _ ⟨by simp, ⟨rfl, rfl, ?_, fun _ _ => rfl⟩, hR w w.drew (Below.refl _ w).drew r0, ?_, fun k _ hk => hO k w w.drew (Below.refl _ w).drew (h0 k hk), ?_⟩ (by simp))
  · intro i o t _ _ hl
    rw [none_listed] at hl
    cases hl
  · intro i hl
    rw [none_listed] at hl
    cases hl
  · intro k o _ hl
    rw [none_listed] at hl
    cases hl
end
end Go.Proofs.Ytbomlapmoiamgaa.region
