/-
  A region that draws its order, one operation of which writes in a row that is one's own.
-/
import Derived.Test.YtbomlapmoiamgaaRt
import Derived.Deep.AppendLies
set_option linter.unusedSimpArgs false
set_option linter.unusedVariables false
namespace Go.Proofs.Ytbomlapmoiamgaa.region
open Go.RowKit Go.Proofs.Ytbomlapmoiamgaa.block

section
variable {P : Program} {ops : Array Oper} {md : Region.Mode} {a0 : Act}
/-- Does the operation at j wait for the one at i, be it by others? -/
def reachB (ops : Array Oper) : Nat → Nat → Nat → Bool
  | 0, _, _ => false
  | f + 1, j, i => match ops[j]? with
    | none => false
    | some o => o.after.any fun e => Region.binds .any e && (e.on == i || reachB ops f e.on i)
def okB2 (ops : Array Oper) (N : Nat) : Bool := (List.range ops.size).all fun i =>
  match ops[i]? with
  | none => true
  | some o =>
    (match o.dst with
     | none => true
     | some t => (writes ops t).all (fun j => j == i) && decide (t < N)) &&
    (o.after.all fun e => !Region.binds .any e || decide (e.on < i)) &&
    o.guard.isNone && (match o.op with | .select .. => false | _ => true) &&
    (o.op.operands.all fun x => match x with
      | .tmp t => (writes ops t).all fun j => if j < i then o.after.any fun e => Region.binds .any e && e.on == j else (j == i || reachB ops ops.size j i)
      | _ => true)
theorem okB2_at {ops : Array Oper} {N : Nat} (h : okB2 ops N = true) {i : Nat} {o : Oper} (hi : ops[i]? = some o) :
    (∀ t, o.dst = some t → (∀ j ∈ writes ops t, j = i) ∧ t < N) ∧ (∀ e ∈ o.after, Region.binds .any e = true → e.on < i) ∧ o.guard = none ∧ (∀ cs b, o.op ≠ .select cs b) ∧
    (∀ t, .tmp t ∈ o.op.operands → ∀ j ∈ writes ops t, (j < i ∧ ∃ e ∈ o.after, Region.binds .any e = true ∧ e.on = j) ∨ (i ≤ j ∧ (j = i ∨ reachB ops ops.size j i = true))) := by
  have hlt : i < ops.size := (Array.getElem?_eq_some_iff.1 hi).1
  have h1 := List.all_eq_true.1 h i (List.mem_range.2 hlt)
  simp only [hi, Bool.and_eq_true] at h1
  obtain ⟨⟨⟨⟨a, b⟩, c⟩, d⟩, e⟩ := h1
  refine ⟨fun t ht => ?_, fun x hx hb => ?_, ?_, fun cs bb hh => ?_, fun t ht j hj => ?_⟩
  · simp only [ht, Bool.and_eq_true] at a
    exact ⟨fun j hj => by simpa using List.all_eq_true.1 a.1 j hj, by simpa using a.2⟩
  · have := Array.all_eq_true_iff_forall_mem.1 b x hx
    simpa [hb] using this
  · simpa using c
  · rw [hh] at d
    cases d
  · have := Array.all_eq_true_iff_forall_mem.1 e (.tmp t) (by simpa using ht)
    have := List.all_eq_true.1 this j hj
    by_cases hji : j < i
    · rw [if_pos hji] at this
      obtain ⟨x, hx, hb⟩ := Array.any_eq_true'.1 this
      simp only [Bool.and_eq_true, beq_iff_eq] at hb
      exact .inl ⟨hji, x, hx, hb.1, hb.2⟩
    · rw [if_neg hji] at this
      simp only [Bool.or_eq_true, beq_iff_eq] at this
      exact .inr ⟨by omega, this⟩
theorem reach_listed {ops : Array Oper} {listed : Array Bool} (hc : ∀ (k : Nat) (o : Oper), ops[k]? = some o → listed.getD k false = true → ∀ e ∈ o.after, Region.binds .any e = true → listed.getD e.on false = true) :
    ∀ (f j i : Nat), reachB ops f j i = true → listed.getD j false = true → listed.getD i false = true
  | 0, _, _, h, _ => by cases h
  | f + 1, j, i, h, hl => by
    unfold reachB at h
    split at h
    · cases h
    · rename_i o ho
      obtain ⟨e, he, hh⟩ := Array.any_eq_true'.1 h
      simp only [Bool.and_eq_true, Bool.or_eq_true, beq_iff_eq] at hh
      have h1 := hc j o ho hl e he hh.1
      rcases hh.2 with h2 | h2
      · rw [← h2]
        exact h1
      · exact reach_listed hc f e.on i h2 h1
/-- What an operation does in a world, by itself or by a call. -/
def YieldsW (P : Program) (o : Oper) (ρ : Operand → Value) (w : World) (T : Value → World → Prop) : Prop :=
  (∃ u w', (execOp ρ o).run P w = .ok (.value u) w' ∧ T u w') ∨
    ∃ f args, (execOp ρ o).run P w = .ok (.enter f args) w ∧ Calls P f args w fun e w' => ∃ u, e = .returned u ∧ T u w'
theorem Yields.wide {o : Oper} {ρ : Operand → Value} {w : World} {T S : Value → World → Prop} (h : Yields P o ρ w T) (hs : ∀ u w', Below w.heap.size w w' → T u w' → S u w') : YieldsW P o ρ w S := by
  rcases h with ⟨u, w', h, hb, ht⟩ | ⟨f, args, h, hc⟩
  · exact .inl ⟨u, w', h, hs u w' hb ht⟩
  · exact .inr ⟨f, args, h, hc.mono fun e w' ⟨u, he, hb, ht⟩ => ⟨u, he, hs u w' hb ht⟩⟩
/-- T: what each value is; U: what holds until an operation has run; R: what holds throughout. -/
structure WTable (P : Program) (md : Region.Mode) (ops : Array Oper) (a0 : Act) (S : Nat → Nat → Prop) (R : World → Prop) (T : Nat → Value → World → Prop) (U : Nat → World → Prop) (fin : (Nat → Value) → Act) : Prop where
  apart : Apart ops
  back : Back md ops
  free : ∀ (i : Nat) (o : Oper), ops[i]? = some o → o.guard = none ∧ (∀ cs b, o.op ≠ .select cs b) ∧
    ∀ t, .tmp t ∈ o.op.operands → ∀ (j : Nat) (oj : Oper), ops[j]? = some oj → oj.dst = some t → (j < i ∧ ∃ e ∈ o.after, Region.binds md e = true ∧ e.on = j) ∨
      (i ≤ j ∧ ∀ listed : Array Bool, (∀ (k : Nat) (o : Oper), ops[k]? = some o → listed.getD k false = true → ∀ e ∈ o.after, Region.binds md e = true → listed.getD e.on false = true) → listed.getD j false = true → listed.getD i false = true)
  fits : ∀ (i : Nat) (o : Oper) (t : Tmp), ops[i]? = some o → o.dst = some t → t < a0.tmps.size
  last : ∀ v, Agr ops v a0 (fin v) (Array.replicate ops.size true)
  tell : ∀ (i : Nat) (o : Oper), ops[i]? = some o → ∀ v w, R w → U i w → (∀ e ∈ o.after, Region.binds md e = true → T e.on (v e.on) w) →
    ∃ (b : Act) (L : Array Bool), Agr ops v a0 b L ∧ (∀ j, j < i → L.getD j false = true) ∧ (∀ j, L.getD j false = true → j < i) ∧
    YieldsW P o b.eval w fun u w' => R w' ∧ (∀ k x, S i k → T k x w → T k x w') ∧ (∀ k, k ≠ i → U k w → U k w') ∧ T i u w'
  late : ∀ (i k : Nat) (o : Oper), ops[k]? = some o → k ≠ i → ¬ S i k → ∃ e ∈ o.after, Region.binds md e = true ∧ e.on = i
structure WInv (md : Region.Mode) (ops : Array Oper) (a0 : Act) (R : World → Prop) (T : Nat → Value → World → Prop) (U : Nat → World → Prop) (listed : Array Bool) (v : Nat → Value) (a : Act) (w : World) : Prop where
  size : listed.size = ops.size
  agr : Agr ops v a0 a listed
  old : R w
  holds : ∀ i, listed.getD i false = true → T i (v i) w
  pend : ∀ i, listed.getD i true = false → U i w
  closed : ∀ (k : Nat) (o : Oper), ops[k]? = some o → listed.getD k false = true → ∀ e ∈ o.after, Region.binds md e = true → listed.getD e.on false = true
theorem WInv.sees {w : World} {S : Nat → Nat → Prop} {R : World → Prop} {T : Nat → Value → World → Prop} {U : Nat → World → Prop} {fin : (Nat → Value) → Act} {listed L : Array Bool} {v : Nat → Value} {a b : Act} {i : Nat} {o : Oper} (K : WTable P md ops a0 S R T U fin) (I : WInv md ops a0 R T U listed v a w)
    (hi : ops[i]? = some o) (hun : listed.getD i true = false) (hall : ∀ e ∈ o.after, Region.binds md e = true → listed.getD e.on false = true) (hb : Agr ops v a0 b L) (h1 : ∀ j, j < i → L.getD j false = true) (h2 : ∀ j, L.getD j false = true → j < i) : ∀ x ∈ o.op.operands, a.eval x = b.eval x := by
  intro x hx
  cases x with
  | tmp t =>
    show a.tmps.getD t undef = b.tmps.getD t undef
    by_cases hw : ∃ (j : Nat) (oj : Oper), ops[j]? = some oj ∧ oj.dst = some t
    · obtain ⟨j, oj, hj, hd⟩ := hw
      rcases (K.free i o hi).2.2 t (by simpa using hx) j oj hj hd with ⟨hji, e, he, hbd, hon⟩ | ⟨hij, hcl⟩
      · have hlj : listed.getD j false = true := hon ▸ hall e he hbd
        rw [I.agr.done j oj t hj hd hlj (K.fits j oj t hj hd), hb.done j oj t hj hd (h1 j hji) (K.fits j oj t hj hd)]
      · rw [I.agr.rest t fun i' o' hi' hl' hd' => ?_, hb.rest t fun i' o' hi' hl' hd' => ?_]
        · have := K.apart i' j o' oj t hi' hj hd' hd
          subst this
          have := h2 i' hl'
          omega
        · have := K.apart i' j o' oj t hi' hj hd' hd
          subst this
          have h3 := hcl listed I.closed hl'
          rw [(not_listed hun).1] at h3
          cases h3
    · rw [I.agr.rest t fun i o hi _ hd => hw ⟨i, o, hi, hd⟩, hb.rest t fun i o hi _ hd => hw ⟨i, o, hi, hd⟩]
  | _ => rfl
theorem unset_ne {listed : Array Bool} {i j : Nat} (h : (listed.setIfInBounds i true).getD j true = false) : j ≠ i ∧ listed.getD j true = false := by
  by_cases e : i = j
  · subst e
    by_cases hlt : i < listed.size
    · simp [hlt] at h
    · simp [hlt] at h
  · refine ⟨fun h' => e h'.symm, ?_⟩
    have hj : j < listed.size := by
      by_cases hj : j < listed.size
      · exact hj
      · simp [hj] at h
    simpa [hj, Array.getElem_setIfInBounds, e] using h
theorem set_true {listed : Array Bool} {i j : Nat} (h : listed.getD j false = true) : (listed.setIfInBounds i true).getD j false = true := by
  have hj : j < listed.size := by
    by_cases hj : j < listed.size
    · exact hj
    · simp [hj] at h
  by_cases e : i = j
  · subst e
    simp [hj]
  · simpa [hj, Array.getElem_setIfInBounds, e] using h
theorem WInv.next {w w' : World} {S : Nat → Nat → Prop} {R : World → Prop} {T : Nat → Value → World → Prop} {U : Nat → World → Prop} {fin : (Nat → Value) → Act} {listed : Array Bool} {v : Nat → Value} {a : Act} {i : Nat} {o : Oper} {u : Value} (K : WTable P md ops a0 S R T U fin) (I : WInv md ops a0 R T U listed v a w)
    (hi : ops[i]? = some o) (hun : listed.getD i true = false) (hr : R w') (hk : ∀ k x, S i k → T k x w → T k x w') (hp : ∀ k, k ≠ i → U k w → U k w') (ht : T i u w') (hall : ∀ e ∈ o.after, Region.binds md e = true → listed.getD e.on false = true) :
    WInv md ops a0 R T U (listed.setIfInBounds i true) (fun j => if j = i then u else v j) (a.put o.dst u) w' := by
  obtain ⟨hl, hlt⟩ := not_listed hun
  refine ⟨by simpa using I.size, ?_, hr, fun j hj => ?_, fun j hj => ?_, ?_⟩
  · have := I.agr.step (u' := fun j => if j = i then u else v j) K.apart hi hlt fun j hj => by
      have : j ≠ i := fun e => by rw [e, hl] at hj; cases hj
      simp [this]
    simpa using this
  · by_cases e : j = i
    · subst e
      simpa using ht
    · simp only [e, if_false]
      have hj0 := (set_or hj).resolve_left e
      refine hk j _ ?_ (I.holds j hj0)
      have hjl : j < ops.size := by
        rw [← I.size]
        by_cases hs : j < listed.size
        · exact hs
        · simp [hs] at hj0
      refine Classical.byContradiction fun hns => ?_
      obtain ⟨x, hx, hb, hon⟩ := K.late i j ops[j] (Array.getElem?_eq_getElem hjl) e hns
      have := I.closed j ops[j] (Array.getElem?_eq_getElem hjl) hj0 x hx hb
      rw [hon, hl] at this
      cases this
  · obtain ⟨hne, hj'⟩ := unset_ne hj
    exact hp j hne (I.pend j hj')
  · intro k o' ho' hk' x hx hb
    by_cases e : k = i
    · subst e
      obtain rfl : o' = o := Option.some.inj (ho'.symm.trans hi)
      exact set_true (hall x hx hb)
    · exact set_true (I.closed k o' ho' ((set_or hk').resolve_left e) x hx hb)
theorem run_wide {S : Nat → Nat → Prop} {R : World → Prop} {T : Nat → Value → World → Prop} {U : Nat → World → Prop} {fin : (Nat → Value) → Act} {Q : Exit → Act → World → Prop} (K : WTable P md ops a0 S R T U fin)
    (hQ : ∀ v w, R w → (∀ i, i < ops.size → T i (v i) w) → Q .normal (fin v) w) :
    ∀ (fuel : Nat) (listed : Array Bool) (v : Nat → Value) (a : Act) (w : World), WInv md ops a0 R T U listed v a w → listed.toList.count false ≤ fuel → wpAny P md ops Q fuel listed a w := by
  have ends : ∀ (listed : Array Bool) (v : Nat → Value) (a : Act) (w : World), WInv md ops a0 R T U listed v a w → (∀ i, i < ops.size → listed.getD i false = true) → Q .normal a w := by
    intro listed v a w I h
    have e : a = fin v := I.agr.all (K.last v) h (fun i hi => by simp [hi])
    rw [e]
    exact hQ v w I.old fun i hi => I.holds i (h i hi)
  intro fuel
  induction fuel with
  | zero =>
    intro listed v a w I hc
    have hall : ∀ i, i < ops.size → listed.getD i false = true := by
      intro i hi
      have h0 : false ∉ listed.toList := List.count_eq_zero.1 (Nat.le_zero.1 hc)
      have hi' : i < listed.size := by rw [I.size]; exact hi
      cases hv : listed.getD i false with
      | true => rfl
      | false =>
        have : listed[i] = false := by simpa [hi'] using hv
        exact absurd (this ▸ Array.getElem_mem_toList hi') h0
    refine ⟨List.eq_nil_iff_forall_not_mem.2 fun i hi => ?_, ends _ v _ _ I hall⟩
    obtain ⟨hun, o, ho, -⟩ := mem_ready.1 hi
    have := hall i (Array.getElem?_eq_some_iff.1 ho).1
    rw [(not_listed hun).1] at this
    cases this
  | succ fuel ih =>
    intro listed v a w I hc
    refine ⟨fun h => ends _ v _ _ I (all_listed K.back I.size h), fun i hi => ?_⟩
    obtain ⟨hun, o, ho, hall⟩ := mem_ready.1 hi
    obtain ⟨hg, hsel, hwt⟩ := K.free i o ho
    have hcount : (listed.setIfInBounds i true).toList.count false ≤ fuel := by have := unlisted_set hun; omega
    have hw : Region.wanted o (yielded ops a.tmps) = true := by simp [Region.wanted, hg]
    unfold wpOp
    simp only [ho, hw, if_true]
    left
    obtain ⟨b, L, hA, hL1, hL2, hY⟩ := K.tell i o ho v w I.old (I.pend i hun) (fun e he hb => I.holds _ (hall e he hb))
    have hex : execOp a.eval o = execOp b.eval o := execOp_congr o hsel (I.sees K ho hun hall hA hL1 hL2)
    rcases hY with ⟨u, w', h, hr, hk, hp, ht⟩ | ⟨f, args, h, hc'⟩
    · unfold Oper.wp
      rw [hex, h]
      exact ih _ _ _ w' (I.next K ho hun hr hk hp ht hall) hcount
    · unfold Oper.wp
      rw [hex, h]
      refine hc'.mono ?_
      rintro e w' ⟨u, rfl, hr, hk, hp, ht⟩
      exact ih _ _ _ w' (I.next K ho hun hr hk hp ht hall) hcount
/-- What is asked of the operations of a list, one by one, each in the frame that the ones ahead of it leave: the one at n may write in what is its own alone. -/
def TellOwn (P : Program) (n : Nat) (R O : World → Prop) (T : Nat → Value → World → Prop) : List Oper → Nat → ((Nat → Value) → Act) → Prop
  | [], _, _ => True
  | o :: l, i, env => (if i = n then (∀ v w, R w → O w → (∀ j, (o.after.any fun e => Region.binds .any e && e.on == j) = true → T j (v j) w) → YieldsW P o (env v).eval w fun u w' => R w' ∧ (∀ k x, k < n → T k x w → T k x w') ∧ T i u w')
      else ∀ v w, R w → (∀ j, (o.after.any fun e => Region.binds .any e && e.on == j) = true → T j (v j) w) → Yields P o (env v).eval w (T i)) ∧ TellOwn P n R O T l (i + 1) fun v => (env v).put o.dst (v i)
theorem tellOwn_at {n : Nat} {R O : World → Prop} {T : Nat → Value → World → Prop} (hap : Apart ops) (hR : ∀ w w', Below w.heap.size w w' → R w → R w') (hk : ∀ i u w w', Below w.heap.size w w' → T i u w → T i u w') (hO : ∀ w w', Below w.heap.size w w' → O w → O w') :
    ∀ (l : List Oper) (i : Nat) (env : (Nat → Value) → Act) (L : Array Bool), (∀ j, l[j]? = ops[i + j]?) → L.size = ops.size → (∀ j, j < i → L.getD j false = true) → (∀ j, L.getD j false = true → j < i) → (∀ v, Agr ops v a0 (env v) L) → TellOwn P n R O T l i env → ∀ (j : Nat) (o : Oper), l[j]? = some o → ∀ v w, R w → (i + j = n → O w) →
    (∀ e ∈ o.after, Region.binds .any e = true → T e.on (v e.on) w) → ∃ (b : Act) (L : Array Bool), Agr ops v a0 b L ∧ (∀ k, k < i + j → L.getD k false = true) ∧ (∀ k, L.getD k false = true → k < i + j) ∧ YieldsW P o b.eval w fun u w' => R w' ∧ (∀ k x, (i + j = n → k < n) → T k x w → T k x w') ∧ (∀ k, k ≠ i + j → (k = n → O w) → k = n → O w') ∧ T (i + j) u w'
  | [], _, _, _, _, _, _, _, _, _, j, o, h => by simp at h
  | o :: l, i, env, L, _, _, h1, h2, hA, h, 0, o', h' => by
    obtain rfl : o = o' := by simpa using h'
    intro v w hb ho he
    refine ⟨env v, L, hA v, h1, h2, ?_⟩
    have hd : ∀ j, (o.after.any fun e => Region.binds .any e && e.on == j) = true → T j (v j) w := fun j hj => by
      obtain ⟨e, hm, hh⟩ := Array.any_eq_true'.1 hj
      simp only [Bool.and_eq_true, beq_iff_eq] at hh
      exact hh.2 ▸ he e hm hh.1
    have h1 := h.1
    by_cases e : i = n
    · rw [if_pos e] at h1
      have hs : ∀ (u : Value) (w' : World), (R w' ∧ (∀ k x, k < n → T k x w → T k x w') ∧ T i u w') → R w' ∧ (∀ k x, (i + 0 = n → k < n) → T k x w → T k x w') ∧ (∀ k, k ≠ i + 0 → (k = n → O w) → k = n → O w') ∧ T (i + 0) u w' := fun u w' ⟨h2, h3, h4⟩ => ⟨h2, fun k x hk => h3 k x (hk e), fun k hne _ e' => absurd (e'.trans e.symm) hne, h4⟩
      rcases h1 v w hb (ho e) hd with ⟨u, w', hr, ht⟩ | ⟨f, args, hr, hc⟩
      · exact .inl ⟨u, w', hr, hs u w' ht⟩
      · exact .inr ⟨f, args, hr, hc.mono fun x w' ⟨u, hx, ht⟩ => ⟨u, hx, hs u w' ht⟩⟩
    · rw [if_neg e] at h1
      exact (h1 v w hb hd).wide fun u w' hb' ht => ⟨hR w w' hb' hb, fun k x _ => hk k x w w' hb', fun k _ ho' e' => hO w w' hb' (ho' e'), ht⟩
  | o :: l, i, env, L, hl, hs, h1, h2, hA, h, j + 1, o', h' => by
    have h0 : ops[i]? = some o := by simpa using (hl 0).symm
    have hlt : i < L.size := by rw [hs]; exact (Array.getElem?_eq_some_iff.1 h0).1
    have := tellOwn_at hap hR hk hO l (i + 1) (fun v => (env v).put o.dst (v i)) (L.setIfInBounds i true) (fun j => by have := hl (j + 1); simpa [Nat.add_assoc, Nat.add_comm 1 j] using this) (by simpa using hs)
      (fun k hk => by
        by_cases e : k = i
        · subst e; exact getD_set_eq hlt
        · exact set_keep (h1 k (by omega)))
      (fun k hk => by
        rcases set_or hk with e | e
        · omega
        · have := h2 k e; omega)
      (fun v => (hA v).step hap h0 hlt fun _ _ => rfl) h.2 j o' (by simpa using h')
    rwa [show i + 1 + j = i + (j + 1) by omega] at this
/-- **A region that draws its order, one operation of which writes in what is its own.** -/
theorem region_own {id : Nat} {l : List Oper} {w : World} (N n : Nat) (R : World → Prop) (hR : ∀ w w', Below w.heap.size w w' → R w → R w') (r0 : R w) (T : List (Value → World → Prop)) (O : World → Prop) {Q : Exit → Act → World → Prop} (hm : P.follows .mixedOrders = true)
    (hN : a0.tmps.size = N) (hok : okB2 l.toArray N = true) (hlate : ((l.drop (n + 1)).all fun o => o.after.any fun e => Region.binds .any e && e.on == n) = true) (hkeep : KeepAll T) (hO : ∀ w w', Below w.heap.size w w' → O w → O w') (h0 : O w)
    (h : ∀ fin : (Nat → Value) → Act, (∀ v, fin v = lexPut v l 0 a0) → TellOwn P n R O (At T) l 0 (fun _ => a0) ∧ ∀ v w', R w' → (∀ i, i < l.length → At T i (v i) w') → Q .normal (fin v) w') :
    (Code.region id l.toArray true).wp P Q a0 w := by
  obtain ⟨h1, h2⟩ := h (fun v => lexPut v l 0 a0) (fun _ => rfl)
  have hap : Apart l.toArray := fun i j o o' t hi hj hd hd' => by
    have := ((okB2_at hok hi).1 t hd).1 j (mem_writes hj hd')
    exact this.symm
  have K : WTable P .any l.toArray a0 (fun i k => i = n → k < n) R (At T) (fun k w' => k = n → O w') (fun v => lexPut v l 0 a0) := by
    refine ⟨hap, fun i o hi => (okB2_at hok hi).2.1, fun i o hi => ⟨(okB2_at hok hi).2.2.1, (okB2_at hok hi).2.2.2.1, fun t ht j oj hj hd => ?_⟩,
      fun i o t hi hd => by rw [hN]; exact ((okB2_at hok hi).1 t hd).2, fun v => lexPut_last hap, ?_, ?_⟩
    · rcases (okB2_at hok hi).2.2.2.2 t ht j (mem_writes hj hd) with h | ⟨h, h'⟩
      · exact .inl h
      · refine .inr ⟨h, fun listed hc hl => ?_⟩
        rcases h' with h' | h'
        · rw [← h']; exact hl
        · exact reach_listed hc _ j i h' hl
    rotate_left
    · intro i k o hk hne hs
      obtain ⟨e, hle⟩ := Classical.not_imp.1 hs
      subst e
      have hk' : l[k]? = some o := by simpa using hk
      have hm : o ∈ l.drop (i + 1) := by
        refine List.mem_of_getElem? (i := k - (i + 1)) ?_
        rw [List.getElem?_drop, show i + 1 + (k - (i + 1)) = k by omega]
        exact hk'
      have := List.all_eq_true.1 hlate o hm
      obtain ⟨e, he, hh⟩ := Array.any_eq_true'.1 this
      simp only [Bool.and_eq_true, beq_iff_eq] at hh
      exact ⟨e, he, hh.1, hh.2⟩
    intro i o hi v w' hb hu he
    have := tellOwn_at hap hR (keepAll_at hkeep) hO l 0 (fun _ => a0) (Array.replicate l.toArray.size false) (fun j => by simp) (by simp) (fun j hj => absurd hj (Nat.not_lt_zero j)) (fun j hj => by rw [none_listed] at hj; cases hj) (fun v => ⟨rfl, rfl, (fun i o t _ _ hl => by rw [none_listed] at hl; cases hl), fun _ _ => rfl⟩) h1 i o (by simpa using hi) v w' hb (by simpa using hu) he
    simpa using this
  refine wp_region_any hm (run_wide K (fun v w' hb hv => h2 v w' hb (fun i hi => hv i (by simpa using hi))) _ _ (fun _ => undef) _ _ ⟨by simp, ⟨rfl, rfl, ?_, fun _ _ => rfl⟩, hR w w.drew (Below.refl _ w).drew r0, ?_, fun k _ _ => hO w w.drew (Below.refl _ w).drew h0, ?_⟩ (by simp))
  · intro i o t _ _ hl
    rw [none_listed] at hl
    cases hl
  · intro i hl
    rw [none_listed] at hl
    cases hl
  · intro k o _ hl
    rw [none_listed] at hl
    cases hl
/-- append to a row that is one's own. -/
theorem yields_append {w : World} {o : Oper} {ρ : Operand → Value} {T : Value → World → Prop} (s x : Operand) (t : TypeId) (ho : o.op = .call { callee := .builtin .append, args := #[s, x], argTypes := #[t, t] })
    (base : Nat) (e : TypeId) (i : TypeInfo) (z : Value) (size bytes : Nat) (ht : P.underlying t = some (.slice e)) (hi : P.info? e = some i) (hz : i.zero = some z)
    (hsize : i.size = size) (hby : i.bytes = bytes) (hzs : z.cells.size = size) (hsz : 0 < size)
    (v : Value) (n : Nat) (xs : List Value) (hs : ρ s = v) (hown : w.ownsRow base e size v n xs)
    (ad : Addr) (m c : Nat) (news : List Value) (hx : ρ x = .slice (some ad) m c) (hl : news.length = m * size) (hnews : ∀ j u, news[j]? = some u → w.cell? (ad.add j) = some u) (h1 : ∀ u ∈ news, u.oneCell' = true)
    (hm : 0 < m) (h63 : n + m ≤ maxLen) (hbytes : (n + m) * bytes ≤ 140737488355328) (hbase : base ≤ w.heap.size)
    (h : ∀ g cap w', w'.ownsRow base e size (.slice (some ⟨g, 0, none⟩) (n + m) cap) (n + m) (xs ++ news) → w.grownBy w' v.ownBlock → T (.slice (some ⟨g, 0, none⟩) (n + m) cap) w') : YieldsW P o ρ w T := by
  obtain ⟨g, cap, w', hr, h2, h3, -, -⟩ := run_append_lies (P := P) w t o.type base e i z size bytes ht hi hz hsize hby hzs hsz v n xs hown ad m c news hl hnews h1 hm h63 hbytes hbase _ rfl
  refine .inl ⟨_, w', ?_, h g cap w' h2 h3⟩
  unfold execOp
  simp only [ho, resolve, invoke, builtin, Sem.run_bind, Sem.run_pure, Result.andThen_ok, List.map_toArray, List.map_cons, List.map_nil, hs, hx, hr]
end
end Go.Proofs.Ytbomlapmoiamgaa.region
