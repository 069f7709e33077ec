/-
  A region that draws its order, in the widest form: what an operation's value is asked to be may hang on the values that it waits for; several operations may write; what waits for a writing one, and what a writing one waits for, needs not last through it.
  The contract of Copy.
-/
import Derived.Test.YtcogehhjofgbiaaGreatDoorJRt4
import Derived.Test.YtcogehhjofgbiaaGreatDoorJKa
set_option linter.unusedSimpArgs false
set_option linter.unusedVariables false
namespace Go.Proofs.YtcogehhjofgbiaaGreatDoor.region
open Go.RowKit Go.Proofs.YtcogehhjofgbiaaGreatDoor.block

section
variable {P : Program} {ops : Array Oper} {a0 : Act}
/-- What an operation does in a world: by itself, by a call, or with no value (a store). -/
def YieldsS (P : Program) (o : Oper) (ρ : Operand → Value) (w : World) (T : Value → World → Prop) : Prop :=
  YieldsW P o ρ w T ∨ ∃ w', (execOp ρ o).run P w = .ok .skip w' ∧ T undef w'
def upd (v : Nat → Value) (i : Nat) (u : Value) : Nat → Value := fun j => if j = i then u else v j
structure FTable (P : Program) (ops : Array Oper) (a0 : Act) (S V : Nat → Nat → Prop) (R : World → Prop) (T : Nat → (Nat → Value) → World → Prop) (U : Nat → World → Prop) (fin : (Nat → Value) → Act) : Prop where
  apart : Apart ops
  back : Back .any ops
  free : ∀ (i : Nat) (o : Oper), ops[i]? = some o → o.guard = none ∧ (∀ cs b, o.op ≠ .select cs b) ∧
    ∀ t, .tmp t ∈ o.op.operands → ∀ (j : Nat) (oj : Oper), ops[j]? = some oj → oj.dst = some t → (j < i ∧ ∃ e ∈ o.after, Region.binds .any e = true ∧ e.on = j) ∨
      (i ≤ j ∧ ∀ listed : Array Bool, (∀ (k : Nat) (o : Oper), ops[k]? = some o → listed.getD k false = true → ∀ e ∈ o.after, Region.binds .any e = true → listed.getD e.on false = true) → listed.getD j false = true → listed.getD i false = true)
  fits : ∀ (i : Nat) (o : Oper) (t : Tmp), ops[i]? = some o → o.dst = some t → t < a0.tmps.size
  last : ∀ v, Agr ops v a0 (fin v) (Array.replicate ops.size true)
  tell : ∀ (i : Nat) (o : Oper), ops[i]? = some o → ∀ v w, R w → U i w → (∀ e ∈ o.after, Region.binds .any e = true → T e.on v w) →
    ∃ (b : Act) (L : Array Bool), Agr ops v a0 b L ∧ (∀ j, j < i → L.getD j false = true) ∧ (∀ j, L.getD j false = true → j < i) ∧
    YieldsS P o b.eval w fun u w' => R w' ∧ (∀ k v', S i k → T k v' w → T k v' w') ∧ (∀ k, V i k → U k w → U k w') ∧ T i (upd v i u) w'
  late : ∀ i k, k ≠ i → ¬ S i k → reachB ops ops.size k i = true
  early : ∀ i k, k ≠ i → ¬ V i k → reachB ops ops.size i k = true
  near : ∀ i k, k ≠ i → reachB ops ops.size k i = false → ∀ v u w, T k v w → T k (upd v i u) w
structure FInv (ops : Array Oper) (a0 : Act) (R : World → Prop) (T : Nat → (Nat → Value) → World → Prop) (U : Nat → World → Prop) (listed : Array Bool) (v : Nat → Value) (a : Act) (w : World) : Prop where
  size : listed.size = ops.size
  agr : Agr ops v a0 a listed
  old : R w
  holds : ∀ i, listed.getD i false = true → T i v w
  pend : ∀ i, listed.getD i true = false → U i w
  closed : ∀ (k : Nat) (o : Oper), ops[k]? = some o → listed.getD k false = true → ∀ e ∈ o.after, Region.binds .any e = true → listed.getD e.on false = true
theorem FInv.sees {w : World} {S V : Nat → Nat → Prop} {R : World → Prop} {T : Nat → (Nat → Value) → World → Prop} {U : Nat → World → Prop} {fin : (Nat → Value) → Act} {listed L : Array Bool} {v : Nat → Value} {a b : Act} {i : Nat} {o : Oper} (K : FTable P ops a0 S V R T U fin) (I : FInv ops a0 R T U listed v a w)
    (hi : ops[i]? = some o) (hun : listed.getD i true = false) (hall : ∀ e ∈ o.after, Region.binds .any e = true → listed.getD e.on false = true) (hb : Agr ops v a0 b L) (h1 : ∀ j, j < i → L.getD j false = true) (h2 : ∀ j, L.getD j false = true → j < i) : ∀ x ∈ o.op.operands, a.eval x = b.eval x := by
  intro x hx
  cases x with
  | tmp t =>
    show a.tmps.getD t undef = b.tmps.getD t undef
    by_cases hw : ∃ (j : Nat) (oj : Oper), ops[j]? = some oj ∧ oj.dst = some t
    · obtain ⟨j, oj, hj, hd⟩ := hw
      rcases (K.free i o hi).2.2 t (by simpa using hx) j oj hj hd with ⟨hji, e, he, hbd, hon⟩ | ⟨hij, hcl⟩
      · have hlj : listed.getD j false = true := hon ▸ hall e he hbd
        rw [I.agr.done j oj t hj hd hlj (K.fits j oj t hj hd), hb.done j oj t hj hd (h1 j hji) (K.fits j oj t hj hd)]
      · rw [I.agr.rest t fun i' o' hi' hl' hd' => ?_, hb.rest t fun i' o' hi' hl' hd' => ?_]
        · have := K.apart i' j o' oj t hi' hj hd' hd
          subst this
          have := h2 i' hl'
          omega
        · have := K.apart i' j o' oj t hi' hj hd' hd
          subst this
          have h3 := hcl listed I.closed hl'
          rw [(not_listed hun).1] at h3
          cases h3
    · rw [I.agr.rest t fun i o hi _ hd => hw ⟨i, o, hi, hd⟩, hb.rest t fun i o hi _ hd => hw ⟨i, o, hi, hd⟩]
  | _ => rfl
theorem reach_dep {ops : Array Oper} {listed : Array Bool} {i k : Nat} {o : Oper} (hc : ∀ (k : Nat) (o : Oper), ops[k]? = some o → listed.getD k false = true → ∀ e ∈ o.after, Region.binds .any e = true → listed.getD e.on false = true)
    (hi : ops[i]? = some o) (hall : ∀ e ∈ o.after, Region.binds .any e = true → listed.getD e.on false = true) : ∀ f, reachB ops f i k = true → listed.getD k false = true
  | 0, h => by cases h
  | f + 1, h => by
    unfold reachB at h
    rw [hi] at h
    obtain ⟨e, he, hh⟩ := Array.any_eq_true'.1 h
    simp only [Bool.and_eq_true, Bool.or_eq_true, beq_iff_eq] at hh
    have h1 := hall e he hh.1
    rcases hh.2 with h2 | h2
    · rw [← h2]
      exact h1
    · exact reach_listed hc f e.on k h2 h1
theorem FInv.next {w w' : World} {S V : Nat → Nat → Prop} {R : World → Prop} {T : Nat → (Nat → Value) → World → Prop} {U : Nat → World → Prop} {fin : (Nat → Value) → Act} {listed : Array Bool} {v : Nat → Value} {a : Act} {i : Nat} {o : Oper} {u : Value} (K : FTable P ops a0 S V R T U fin) (I : FInv ops a0 R T U listed v a w)
    (hi : ops[i]? = some o) (hun : listed.getD i true = false) (hr : R w') (hk : ∀ k v', S i k → T k v' w → T k v' w') (hp : ∀ k, V i k → U k w → U k w') (ht : T i (upd v i u) w') (hall : ∀ e ∈ o.after, Region.binds .any e = true → listed.getD e.on false = true) :
    FInv ops a0 R T U (listed.setIfInBounds i true) (upd v i u) (a.put o.dst u) w' := by
  obtain ⟨hl, hlt⟩ := not_listed hun
  refine ⟨by simpa using I.size, ?_, hr, fun j hj => ?_, fun j hj => ?_, ?_⟩
  · have := I.agr.step (u' := upd v i u) K.apart hi hlt fun j hj => by
      have : j ≠ i := fun e => by rw [e, hl] at hj; cases hj
      simp [upd, this]
    simpa [upd] using this
  · by_cases e : j = i
    · subst e
      exact ht
    · have hj0 := (set_or hj).resolve_left e
      have hnr : reachB ops ops.size j i = false := by
        cases h : reachB ops ops.size j i with
        | false => rfl
        | true =>
          have := reach_listed I.closed _ j i h hj0
          rw [hl] at this
          cases this
      refine K.near i j e hnr v u w' (hk j v ?_ (I.holds j hj0))
      refine Classical.byContradiction fun hns => ?_
      rw [K.late i j e hns] at hnr
      cases hnr
  · obtain ⟨hne, hj'⟩ := unset_ne hj
    refine hp j ?_ (I.pend j hj')
    refine Classical.byContradiction fun hns => ?_
    have h1 := reach_dep I.closed hi hall _ (K.early i j hne hns)
    rw [(not_listed hj').1] at h1
    cases h1
  · intro k o' ho' hk' x hx hb
    by_cases e : k = i
    · subst e
      obtain rfl : o' = o := Option.some.inj (ho'.symm.trans hi)
      exact set_true (hall x hx hb)
    · exact set_true (I.closed k o' ho' ((set_or hk').resolve_left e) x hx hb)
theorem run_full {S V : Nat → Nat → Prop} {R : World → Prop} {T : Nat → (Nat → Value) → World → Prop} {U : Nat → World → Prop} {fin : (Nat → Value) → Act} {Q : Exit → Act → World → Prop} (K : FTable P ops a0 S V R T U fin)
    (hQ : ∀ v w, R w → (∀ i, i < ops.size → T i v w) → Q .normal (fin v) w) :
    ∀ (fuel : Nat) (listed : Array Bool) (v : Nat → Value) (a : Act) (w : World), FInv ops a0 R T U listed v a w → listed.toList.count false ≤ fuel → wpAny P .any ops Q fuel listed a w := by
  have ends : ∀ (listed : Array Bool) (v : Nat → Value) (a : Act) (w : World), FInv ops a0 R T U listed v a w → (∀ i, i < ops.size → listed.getD i false = true) → Q .normal a w := by
    intro listed v a w I h
    have e : a = fin v := I.agr.all (K.last v) h (fun i hi => by simp [hi])
    rw [e]
    exact hQ v w I.old fun i hi => I.holds i (h i hi)
  intro fuel
  induction fuel with
  | zero =>
    intro listed v a w I hc
    have hall : ∀ i, i < ops.size → listed.getD i false = true := by
      intro i hi
      have h0 : false ∉ listed.toList := List.count_eq_zero.1 (Nat.le_zero.1 hc)
      have hi' : i < listed.size := by rw [I.size]; exact hi
      cases hv : listed.getD i false with
      | true => rfl
      | false =>
        have : listed[i] = false := by simpa [hi'] using hv
        exact absurd (this ▸ Array.getElem_mem_toList hi') h0
    refine ⟨List.eq_nil_iff_forall_not_mem.2 fun i hi => ?_, ends _ v _ _ I hall⟩
    obtain ⟨hun, o, ho, -⟩ := mem_ready.1 hi
    have := hall i (Array.getElem?_eq_some_iff.1 ho).1
    rw [(not_listed hun).1] at this
    cases this
  | succ fuel ih =>
    intro listed v a w I hc
    refine ⟨fun h => ends _ v _ _ I (all_listed K.back I.size h), fun i hi => ?_⟩
    obtain ⟨hun, o, ho, hall⟩ := mem_ready.1 hi
    obtain ⟨hg, hsel, hwt⟩ := K.free i o ho
    have hcount : (listed.setIfInBounds i true).toList.count false ≤ fuel := by have := unlisted_set hun; omega
    have hw : Region.wanted o (yielded ops a.tmps) = true := by simp [Region.wanted, hg]
    unfold wpOp
    simp only [ho, hw, if_true]
    left
    obtain ⟨b, L, hA, hL1, hL2, hY⟩ := K.tell i o ho v w I.old (I.pend i hun) (fun e he hb => I.holds _ (hall e he hb))
    have hex : execOp a.eval o = execOp b.eval o := execOp_congr o hsel (I.sees K ho hun hall hA hL1 hL2)
    rcases hY with (⟨u, w', h, hr, hk, hp, ht⟩ | ⟨f, args, h, hc'⟩) | ⟨w', h, hr, hk, hp, ht⟩
    · unfold Oper.wp
      rw [hex, h]
      exact ih _ _ _ w' (I.next K ho hun hr hk hp ht hall) hcount
    · unfold Oper.wp
      rw [hex, h]
      refine hc'.mono ?_
      rintro e w' ⟨u, rfl, hr, hk, hp, ht⟩
      exact ih _ _ _ w' (I.next K ho hun hr hk hp ht hall) hcount
    · unfold Oper.wp
      rw [hex, h]
      exact ih _ _ _ w' (I.next K ho hun hr hk hp ht hall) hcount
/-- What an operation's value is asked to be, by the values at some places (its own among them). -/
structure Pd where
  ds : List Nat
  p : List Value → World → Prop
def pdOne (k : Nat) (p : Value → World → Prop) : Pd := ⟨[k], fun l w => p (l.headD undef) w⟩
def pdTwo (j k : Nat) (p : Value → Value → World → Prop) : Pd := ⟨[j, k], fun l w => p (l.headD undef) (l.tail.headD undef) w⟩
def AtF (T : List Pd) (k : Nat) (v : Nat → Value) (w : World) : Prop := match T[k]? with
  | none => True
  | some d => d.p (d.ds.map v) w
def KeepF : List Pd → Prop
  | [] => True
  | d :: l => (∀ x w w', Below w.heap.size w w' → d.p x w → d.p x w') ∧ KeepF l
theorem keep_one {k : Nat} {p : Value → World → Prop} (h : Keeps p) : ∀ x w w', Below w.heap.size w w' → (pdOne k p).p x w → (pdOne k p).p x w' := fun _ w w' hb hp => h _ w w' hb hp
theorem keep_two {j k : Nat} {p : Value → Value → World → Prop} (h : ∀ x, Keeps (p x)) : ∀ x w w', Below w.heap.size w w' → (pdTwo j k p).p x w → (pdTwo j k p).p x w' := fun _ w w' hb hp => h _ _ w w' hb hp
theorem keepF_mem : ∀ {T : List Pd}, KeepF T → ∀ d ∈ T, ∀ x w w', Below w.heap.size w w' → d.p x w → d.p x w'
  | d :: l, h, e, he => by
    rcases List.mem_cons.1 he with rfl | he
    · exact h.1
    · exact keepF_mem h.2 e he
theorem keepF_at {T : List Pd} (h : KeepF T) (k : Nat) (v : Nat → Value) (w w' : World) (hb : Below w.heap.size w w') (ht : AtF T k v w) : AtF T k v w' := by
  unfold AtF at ht ⊢
  split
  · trivial
  · rename_i d hd
    rw [hd] at ht
    exact keepF_mem h d (List.mem_of_getElem? hd) _ w w' hb ht
/-- What is asked of the operations of a list, one by one, each in the frame that the ones ahead of it leave. -/
def TellF (P : Program) (pr qr : List (Nat × Nat)) (n : Nat → Bool) (R : World → Prop) (O : Nat → World → Prop) (T : List Pd) : List Oper → Nat → ((Nat → Value) → Act) → Prop
  | [], _, _ => True
  | o :: l, i, env => (if n i = true then (∀ v w, R w → O i w → (∀ j, (o.after.any fun e => Region.binds .any e && e.on == j) = true → AtF T j v w) → YieldsS P o (env v).eval w fun u w' => R w' ∧ (∀ k v', k ≠ i → pr.contains (i, k) = false → AtF T k v' w → AtF T k v' w') ∧ (∀ k, k ≠ i → n k = true → qr.contains (i, k) = false → O k w → O k w') ∧ AtF T i (upd v i u) w')
      else ∀ v w, R w → (∀ j, (o.after.any fun e => Region.binds .any e && e.on == j) = true → AtF T j v w) → Yields P o (env v).eval w fun u w' => AtF T i (upd v i u) w') ∧ TellF P pr qr n R O T l (i + 1) fun v => (env v).put o.dst (v i)
theorem tellF_at {pr qr : List (Nat × Nat)} {n : Nat → Bool} {R : World → Prop} {O : Nat → World → Prop} {T : List Pd} (hap : Apart ops) (hR : ∀ w w', Below w.heap.size w w' → R w → R w') (hk : ∀ i v w w', Below w.heap.size w w' → AtF T i v w → AtF T i v w') (hO : ∀ k w w', Below w.heap.size w w' → O k w → O k w') :
    ∀ (l : List Oper) (i : Nat) (env : (Nat → Value) → Act) (L : Array Bool), (∀ j, l[j]? = ops[i + j]?) → L.size = ops.size → (∀ j, j < i → L.getD j false = true) → (∀ j, L.getD j false = true → j < i) → (∀ v, Agr ops v a0 (env v) L) → TellF P pr qr n R O T l i env → ∀ (j : Nat) (o : Oper), l[j]? = some o → ∀ v w, R w → (n (i + j) = true → O (i + j) w) →
    (∀ e ∈ o.after, Region.binds .any e = true → AtF T e.on v w) → ∃ (b : Act) (L : Array Bool), Agr ops v a0 b L ∧ (∀ k, k < i + j → L.getD k false = true) ∧ (∀ k, L.getD k false = true → k < i + j) ∧ YieldsS P o b.eval w fun u w' => R w' ∧ (∀ k v', (n (i + j) = true → k ≠ i + j ∧ pr.contains (i + j, k) = false) → AtF T k v' w → AtF T k v' w') ∧ (∀ k, (k ≠ i + j ∧ (n (i + j) = true → qr.contains (i + j, k) = false)) → (n k = true → O k w) → n k = true → O k w') ∧ AtF T (i + j) (upd v (i + j) u) w'
  | [], _, _, _, _, _, _, _, _, _, j, o, h => by simp at h
  | o :: l, i, env, L, _, _, h1, h2, hA, h, 0, o', h' => by
    obtain rfl : o = o' := by simpa using h'
    intro v w hb ho he
    refine ⟨env v, L, hA v, h1, h2, ?_⟩
    have hd : ∀ j, (o.after.any fun e => Region.binds .any e && e.on == j) = true → AtF T j v w := fun j hj => by
      obtain ⟨e, hm, hh⟩ := Array.any_eq_true'.1 hj
      simp only [Bool.and_eq_true, beq_iff_eq] at hh
      exact hh.2 ▸ he e hm hh.1
    have h1 := h.1
    by_cases e : n i = true
    · rw [if_pos e] at h1
      have hs : ∀ (u : Value) (w' : World), (R w' ∧ (∀ k v', k ≠ i → pr.contains (i, k) = false → AtF T k v' w → AtF T k v' w') ∧ (∀ k, k ≠ i → n k = true → qr.contains (i, k) = false → O k w → O k w') ∧ AtF T i (upd v i u) w') → R w' ∧ (∀ k v', (n (i + 0) = true → k ≠ i + 0 ∧ pr.contains (i + 0, k) = false) → AtF T k v' w → AtF T k v' w') ∧ (∀ k, (k ≠ i + 0 ∧ (n (i + 0) = true → qr.contains (i + 0, k) = false)) → (n k = true → O k w) → n k = true → O k w') ∧ AtF T (i + 0) (upd v (i + 0) u) w' := fun u w' ⟨h2, h3, h4, h5⟩ => ⟨h2, fun k v' hk => h3 k v' (hk e).1 (hk e).2, fun k hne ho' e' => h4 k hne.1 e' (hne.2 e) (ho' e'), h5⟩
      rcases h1 v w hb (ho e) hd with (⟨u, w', hr, ht⟩ | ⟨f, args, hr, hc⟩) | ⟨w', hr, ht⟩
      · exact .inl (.inl ⟨u, w', hr, hs u w' ht⟩)
      · exact .inl (.inr ⟨f, args, hr, hc.mono fun x w' ⟨u, hx, ht⟩ => ⟨u, hx, hs u w' ht⟩⟩)
      · exact .inr ⟨w', hr, hs undef w' ht⟩
    · rw [if_neg e] at h1
      exact .inl <| (h1 v w hb hd).wide fun u w' hb' ht => ⟨hR w w' hb' hb, fun k v' _ => hk k v' w w' hb', fun k _ ho' e' => hO k w w' hb' (ho' e'), ht⟩
  | o :: l, i, env, L, hl, hs, h1, h2, hA, h, j + 1, o', h' => by
    have h0 : ops[i]? = some o := by simpa using (hl 0).symm
    have hlt : i < L.size := by rw [hs]; exact (Array.getElem?_eq_some_iff.1 h0).1
    have := tellF_at hap hR hk hO l (i + 1) (fun v => (env v).put o.dst (v i)) (L.setIfInBounds i true) (fun j => by have := hl (j + 1); simpa [Nat.add_assoc, Nat.add_comm 1 j] using this) (by simpa using hs)
      (fun k hk => by
        by_cases e : k = i
        · subst e; exact getD_set_eq hlt
        · exact set_keep (h1 k (by omega)))
      (fun k hk => by
        rcases set_or hk with e | e
        · omega
        · have := h2 k e; omega)
      (fun v => (hA v).step hap h0 hlt fun _ _ => rfl) h.2 j o' (by simpa using h')
    rwa [show i + 1 + j = i + (j + 1) by omega] at this
/-- **A region that draws its order, in the widest form.** -/
theorem region_full {id : Nat} {l : List Oper} {w : World} (N : Nat) (pr qr : List (Nat × Nat)) (n : Nat → Bool) (R : World → Prop) (hR : ∀ w w', Below w.heap.size w w' → R w → R w') (r0 : R w) (T : List Pd) (O : Nat → World → Prop) {Q : Exit → Act → World → Prop} (hm : P.follows .mixedOrders = true)
    (hN : a0.tmps.size = N) (hok : okB2 l.toArray N = true) (hpr : (pr.all fun p => reachB l.toArray l.length p.2 p.1) = true) (hqr : (qr.all fun p => reachB l.toArray l.length p.1 p.2) = true)
    (hds : ((List.range T.length).all fun k => match T[k]? with | none => true | some d => d.ds.all fun j => j == k || reachB l.toArray l.length k j) = true)
    (hkeep : KeepF T) (hO : ∀ k w w', Below w.heap.size w w' → O k w → O k w') (h0 : ∀ k, n k = true → O k w)
    (h : ∀ fin : (Nat → Value) → Act, (∀ v, fin v = lexPut v l 0 a0) → TellF P pr qr n R O T l 0 (fun _ => a0) ∧ ∀ v w', R w' → (∀ i, i < l.length → AtF T i v w') → Q .normal (fin v) w') :
    (Code.region id l.toArray true).wp P Q a0 w := by
  obtain ⟨h1, h2⟩ := h (fun v => lexPut v l 0 a0) (fun _ => rfl)
  have hsz : l.toArray.size = l.length := by simp
  have hap : Apart l.toArray := fun i j o o' t hi hj hd hd' => by
    have := ((okB2_at hok hi).1 t hd).1 j (mem_writes hj hd')
    exact this.symm
  have K : FTable P l.toArray a0 (fun i k => n i = true → k ≠ i ∧ pr.contains (i, k) = false) (fun i k => k ≠ i ∧ (n i = true → qr.contains (i, k) = false)) R (AtF T) (fun k w' => n k = true → O k w') (fun v => lexPut v l 0 a0) := by
    refine ⟨hap, fun i o hi => (okB2_at hok hi).2.1, fun i o hi => ⟨(okB2_at hok hi).2.2.1, (okB2_at hok hi).2.2.2.1, fun t ht j oj hj hd => ?_⟩,
      fun i o t hi hd => by rw [hN]; exact ((okB2_at hok hi).1 t hd).2, fun v => lexPut_last hap, ?_, ?_, ?_, ?_⟩
    · rcases (okB2_at hok hi).2.2.2.2 t ht j (mem_writes hj hd) with h | ⟨h, h'⟩
      · exact .inl h
      · refine .inr ⟨h, fun listed hc hl => ?_⟩
        rcases h' with h' | h'
        · rw [← h']; exact hl
        · exact reach_listed hc _ j i h' hl
    rotate_left
    · intro i k hne hs
      obtain ⟨-, hs⟩ := Classical.not_imp.1 hs
      have hc : pr.contains (i, k) = true := by
        cases hh : pr.contains (i, k) with
        | true => rfl
        | false => exact absurd ⟨hne, hh⟩ hs
      have hm : (i, k) ∈ pr := by simpa using hc
      rw [hsz]
      exact List.all_eq_true.1 hpr (i, k) hm
    · intro i k hne hs
      have hc : qr.contains (i, k) = true := by
        cases hh : qr.contains (i, k) with
        | true => rfl
        | false => exact absurd ⟨hne, fun _ => hh⟩ hs
      have hm : (i, k) ∈ qr := by simpa using hc
      rw [hsz]
      exact List.all_eq_true.1 hqr (i, k) hm
    · intro i k hne hr v u w' ht
      unfold AtF at ht ⊢
      split
      · trivial
      · rename_i d hd
        rw [hd] at ht
        have hk := List.all_eq_true.1 hds k (List.mem_range.2 (List.getElem?_eq_some_iff.1 hd).1)
        rw [hd] at hk
        have e : d.ds.map (upd v i u) = d.ds.map v := List.map_congr_left fun j hj => by
          have hj' := List.all_eq_true.1 hk j hj
          unfold upd
          split
          · rename_i e
            subst e
            rw [hsz] at hr
            simp only [Bool.or_eq_true, beq_iff_eq, hr, Bool.false_eq_true, or_false] at hj'
            exact absurd hj'.symm hne
          · rfl
        show d.p (d.ds.map (upd v i u)) w'
        rw [e]
        exact ht
    intro i o hi v w' hb hu he
    have := tellF_at hap hR (fun i v w w' hb' => keepF_at hkeep i v w w' hb') hO l 0 (fun _ => a0) (Array.replicate l.toArray.size false) (fun j => by simp) (by simp) (fun j hj => absurd hj (Nat.not_lt_zero j)) (fun j hj => by rw [none_listed] at hj; cases hj) (fun v => ⟨rfl, rfl, (fun i o t _ _ hl => by rw [none_listed] at hl; cases hl), fun _ _ => rfl⟩) h1 i o (by simpa using hi) v w' hb (by simpa using hu) he
    simpa using this
  refine wp_region_any hm (run_full K (fun v w' hb hv => h2 v w' hb (fun i hi => hv i (by simpa using hi))) _ _ (fun _ => undef) _ _ ⟨by simp, ⟨rfl, rfl, ?_, fun _ _ => rfl⟩, hR w w.drew (Below.refl _ w).drew r0, ?_, fun k _ hk => hO k w w.drew (Below.refl _ w).drew (h0 k hk), ?_⟩ (by simp))
  · intro i o t _ _ hl
    rw [none_listed] at hl
    cases hl
  · intro i hl
    rw [none_listed] at hl
    cases hl
  · intro k o _ hl
    rw [none_listed] at hl
    cases hl
end
end Go.Proofs.YtcogehhjofgbiaaGreatDoor.region
set_option linter.unusedSimpArgs false
set_option linter.unusedVariables false
namespace Go.Proofs.YtcogehhjofgbiaaGreatDoor.disk
open Go.ChangeShapes Go.WideShapes Go.ChangeAt Go.RowKit Go.Maps Go.WideMaps
open Go.Proofs.YtcogehhjofgbiaaGreatDoor.words Go.Proofs.YtcogehhjofgbiaaGreatDoor.opened Go.Proofs.YtcogehhjofgbiaaGreatDoor.block Go.Proofs.YtcogehhjofgbiaaGreatDoor.region

/-- The files that have come. -/
def comeF (E : List Fe) (left : Lit → Bool) : List Fl := (E.filter fun e => !left (kN e.f.n)).map Fe.f
theorem come_start {es : List (Lit × DataW Nat)} {E : List Fe} (hp : es.Perm (E.map pE)) : comeF E (Maps.has (.map es)) = [] := by
  unfold comeF
  rw [List.filter_eq_nil_iff.2 fun x hx => ?_]
  · rfl
  · rw [has_eq, List.any_eq_true.2 ⟨pE x, hp.mem_iff.2 (List.mem_map.2 ⟨x, hx, rfl⟩), WideAt.sameKey_self (isKN _)⟩]
    simp
theorem come_end {E : List Fe} {left : Lit → Bool} (h : ∀ kl, left kl = false) : comeF E left = E.map Fe.f := by
  unfold comeF
  rw [List.filter_eq_self.2 fun x _ => by rw [h]; rfl]
theorem come_filter : ∀ {E : List Fe} {e : Fe} {left : Lit → Bool}, E.Pairwise (fun x y => x.f.n ≠ y.f.n) → e ∈ E → left (kN e.f.n) = true →
    (E.filter fun x => !(left (kN x.f.n) && !(kN x.f.n).sameKey (kN e.f.n))).Perm (e :: E.filter fun x => !left (kN x.f.n))
  | x :: r, e, left, h, he, hl => by
    obtain ⟨h1, h2⟩ := List.pairwise_cons.1 h
    rcases List.mem_cons.1 he with rfl | he
    · rw [List.filter_cons, List.filter_cons, strike_same, hl]
      simp only [Bool.not_false, if_true, Bool.not_true, Bool.false_eq_true, if_false]
      refine List.Perm.cons _ (List.Perm.of_eq (List.filter_congr fun y hy => ?_))
      rw [strike_other (h1 y hy).symm]
    · have ih := come_filter h2 he hl
      have hne := h1 e he
      rw [List.filter_cons, List.filter_cons, strike_other hne]
      by_cases hx : left (kN x.f.n) = true
      · rw [hx]
        simp only [Bool.not_true, Bool.false_eq_true, if_false]
        exact ih
      · have hx' : left (kN x.f.n) = false := by simpa using hx
        rw [hx']
        simp only [Bool.not_false, if_true]
        exact (ih.cons x).trans (List.Perm.swap _ _ _)
theorem come_step {E : List Fe} {e : Fe} {left : Lit → Bool} {F : List Fl} (h : E.Pairwise (fun x y => x.f.n ≠ y.f.n)) (he : e ∈ E) (hl : left (kN e.f.n) = true) (hF : F.Perm (comeF E left)) : (put e.f F).Perm (comeF E fun z => left z && !z.sameKey (kN e.f.n)) := by
  have hn : lk F e.f.n = none := lk_none.2 fun x hx hxn => by
    obtain ⟨y, hy, rfl⟩ := List.mem_map.1 (hF.mem_iff.1 hx)
    obtain ⟨hy1, hy2⟩ := List.mem_filter.1 hy
    rw [hxn, hl] at hy2
    simp at hy2
  refine (put_perm e.f F).trans ?_
  rw [del_none hn]
  unfold comeF at hF ⊢
  exact (hF.cons e.f).trans ((come_filter h he hl).map Fe.f).symm
theorem srt_same {F H : List Fl} (h : Srt F) (k : Srt H) (p : F.Perm H) : F = H := by
  unfold Srt at h k
  refine List.Perm.eq_of_pairwise (le := fun a b => a.n < b.n) (fun _ _ _ _ h1 h2 => absurd (lt_tr h1 h2) (lt_irr _)) h k p
/-- A copy of a file's bytes, in a row of its own. -/
def RowN (z : Nat) (e : Fe) : Value → World → Prop := fun u w => ∃ A' c', u = .slice A' e.f.b.length c' ∧ RowE w ⟨e.f, A', c'⟩ ∧ ∀ a, A' = some a → z ≤ a.block
def ValN (z : Nat) (e : Fe) : Value → World → Prop := fun u w => ∃ A' c', u = .agg #[.slice A' e.f.b.length c', .int .i64 (e.f.l : Int)] ∧ RowE w ⟨e.f, A', c'⟩ ∧ ∀ a, A' = some a → z ≤ a.block
def PutN (z g mb : Nat) (D : Dk) (E : List Fe) (e : Fe) : Value → World → Prop := fun _ w => ∃ A' c', DiskE w g mb { D with F := put e.f D.F } (putE ⟨e.f, A', c'⟩ E) ∧ ∀ a, A' = some a → z ≤ a.block
theorem RowE.below {w w' : World} {e : Fe} (h : RowE w e) (hb : Below w.heap.size w w') : RowE w' e := h.same fun _ ha => hb.block _ (h.lt ha)
theorem keeps_rowN (z : Nat) (e : Fe) : Keeps (RowN z e) := fun _ _ _ hb ⟨A, c, h1, h2, h3⟩ => ⟨A, c, h1, h2.below hb, h3⟩
theorem keeps_valN (z : Nat) (e : Fe) : Keeps (ValN z e) := fun _ _ _ hb ⟨A, c, h1, h2, h3⟩ => ⟨A, c, h1, h2.below hb, h3⟩
theorem keeps_putN (z g mb : Nat) (D : Dk) (E : List Fe) (e : Fe) : Keeps (PutN z g mb D E e) := fun _ _ _ hb ⟨A, c, h1, h2⟩ => ⟨A, c, h1.below hb, h2⟩
theorem RowE.grown {w w' : World} {e : Fe} {m : Nat} (h : RowE w e) (hg : w.grownBy w' (some m)) (hm : ∀ a, e.A = some a → a.block ≠ m) : RowE w' e := h.same fun a ha => hg.block _ (h.lt ha) (by have := hm a ha; simpa using this)

set_option maxRecDepth 100000 in
set_option maxHeartbeats 8000000 in
theorem copy_any {g mb : Nat} {D : Dk} {E : List Fe} (G : GoodD D) (hF : D.F.length ≤ 1000) (w : World) (h : DiskE w g mb D E) :
    Calls Tryz.prog 46 #[.pointer (some ⟨g, 0, none⟩)] w fun e w' => e = .returned (.pointer (some ⟨w.heap.size + 1, 0, none⟩)) ∧ DiskP w' (fun k => w.heap.size ≤ k) (w.heap.size + 1) D ∧ Below w.heap.size w w' := by
  have hok := Lib.hid h.ok
  have H := Lib.hid h
  have hfs := Lib.hid h.fs
  have hgl := h.cells.inside
  have hml := h.own.lt
  have hmm := @run_makeMap Tryz.prog
  have hLen : Hid (∀ e ∈ E, e.f.b.length ≤ 262144) := Lib.hid (fun e he => G.len (by rw [← h.fs]; exact List.mem_map.2 ⟨e, he, rfl⟩))
  have hSrt := Lib.hid G.srt
  have hNl : Hid (∀ e ∈ E, e.f.n.length ≤ 100000) := Lib.hid (fun e he => by
    have := G.names e.f (by rw [← h.fs]; exact List.mem_map.2 ⟨e, he, rfl⟩)
    unfold nameB at this
    simp at this
    omega)
  have hEl : E.length ≤ 1000 := by rw [h.len]; exact hF
  have c1 : w.cell? ⟨g, 1, none⟩ = some (.bool D.off) := h.cells.read 1
  have c2 : w.cell? ⟨g, 2, none⟩ = some (.int .i64 D.left) := h.cells.read 2
  have B2 := Lib.hid ((((Below.refl w.heap.size w).alloc (Nat.le_refl _) (.map #[] 0)).alloc (by simp) (.cells #[.map (some w.heap.size), .bool D.off, .int .i64 D.left] 65)).drew)
  have N2 : Hid (DiskE ((w.alloc (.map #[] 0)).alloc (.cells #[.map (some w.heap.size), .bool D.off, .int .i64 D.left] 65)).drew (w.heap.size + 1) w.heap.size ⟨[], D.off, D.left⟩ []) := Lib.hid (by
    have W := Whole.fresh (w.alloc (.map #[] 0)) 65 #[.map (some w.heap.size), .bool D.off, .int .i64 D.left]
    have hz : (w.alloc (.map #[] 0)).heap.size = w.heap.size + 1 := by simp
    rw [hz] at W
    exact ⟨rfl, W, (ownF_made w).same ((Below.heap_alloc _ _ _ (by rw [hz]; omega))), fun _ h => (nomatch h), List.Pairwise.nil, by omega, fun _ h => (nomatch h)⟩)
  have S2 : Hid ((((w.alloc (.map #[] 0)).alloc (.cells #[.map (some w.heap.size), .bool D.off, .int .i64 D.left] 65)).drew).heap.size = w.heap.size + 2) := Lib.hid (by simp [World.drew])
  clear h G hF
  go_enter Tryz.func46, Tryz.ntmps46
  go_upto_region 1 with fail
  go_region
  generalize ((w.alloc (.map #[] 0)).alloc (.cells #[.map (some w.heap.size), .bool D.off, .int .i64 D.left] 65)).drew = w2 at B2 N2 S2 ⊢
  clear c1 c2
  have H2 := Lib.hid (H.out.below B2.out)
  obtain ⟨c0, f0⟩ : w2.cell? ⟨g, 0, none⟩ = some (.map (some mb)) ∧ w2.frozen? ⟨g, 0, none⟩ = false := ⟨H2.out.cells.read 0, H2.out.cells.soft 0⟩
  obtain ⟨es, hp, ho2⟩ := H2.out.own
  have ha := Lib.hid (keysF_apart ho2)
  have hP := Lib.hid hp
  have hAp := Lib.hid (names_apart hp (keysF_apart ho2))
  have hcs := Lib.hid (come_start hp)
  clear hp
  go_wp2_with (first | (at_range; refine wpList_range_own _ rfl _ 63 rfl 9 80 keyS Tryz.underlying63 _ mb E.length _ rfl ho2 ?_; intro w0 hrg0 hg0 hs0) | go_in)
  go_frame
  clear c0 f0 ho2
  have hs2 := S2.out
  have N0 := Lib.hid (N2.out.below (⟨hg0.os, hg0.tape, hg0.output, hg0.size, fun k hk => hg0.block k hk (by simp)⟩ : Below w2.heap.size w2 w0))
  have B0 := Lib.hid (B2.out.trans ((⟨hg0.os, hg0.tape, hg0.output, hg0.size, fun k hk => hg0.block k hk (by simp)⟩ : Below w2.heap.size w2 w0).mono B2.out.size))
  have hs0' : w0.heap.size = w.heap.size + 3 := by omega
  generalize hr : w2.heap.size = r at hrg0 ⊢
  have hrr : r = w.heap.size + 2 := by omega
  have HRR := Lib.hid hrr
  clear hr hrr hs2 hs0 hg0 N2 S2
  go_loopw [4, 5] (fun _ _ wr => ∃ (left : Lit → Bool) (cnt : Nat) (F2 : List Fl) (E2 : List Fe), wr.ranges Tryz.prog 9 fileR mb r E.length (.map es) left cnt ∧ Hid (DiskE wr (w.heap.size + 1) w.heap.size ⟨F2, D.off, D.left⟩ E2) ∧ Hid (∀ e ∈ E2, ∀ a, e.A = some a → w.heap.size + 3 ≤ a.block) ∧ Hid (F2.Perm (comeF E left)) ∧ Hid (Srt F2) ∧ Hid (Below w.heap.size w wr) ∧ w.heap.size + 3 ≤ wr.heap.size) (fun _ _ wr => wr.rangeLeft mb r)
  case atStart => exact ⟨_, _, [], [], hrg0, N0, Lib.hid (fun _ h => (nomatch h)), Lib.hid (by rw [hcs.out]), Lib.hid List.Pairwise.nil, B0, by omega⟩
  case round =>
    obtain ⟨left, cnt, F2, E2, hrg, HD, HA, HC, HS, HB, hsz⟩ := hrel
    go_wp2_with (first | (at_next; refine next_files rfl _ rfl mb r E.length hP.out ha.out hok.out left cnt rfl hrg ?_ ?_) | go_in)
    · intro _ hl0
      have HK : Hid (F2 = D.F) := Lib.hid (srt_same HS.out hSrt.out (by have := HC.out; rw [come_end hl0, hfs.out] at this; exact this))
      clear hrg
      go_wp2_with fail
      go_ret
      refine ⟨rfl, ⟨w.heap.size, E2, ?_, fun k hk => ?_⟩, HB.out⟩
      · have := HD.out
        rw [HK.out] at this
        exact this
      · rcases hk with rfl | rfl | ⟨e, he, a, ha', rfl⟩
        · omega
        · exact Nat.le_refl _
        · have := HA.out e he a ha'
          omega
    · intro e hem hlk w1 cnt1 hrg1 hlt hg1 hs1 hen
      have hr1 := Lib.hid hrg1
      have hm1 : Hid (wr.rangeLeft mb r = cnt) := Lib.hid hrg.left_eq
      have hb1 : Below w.heap.size w w1 := HB.out.grown hg1 HB.out.size (fun k e => by cases e; have := HRR.out; omega)
      have hsz1 : w.heap.size + 3 ≤ w1.heap.size := by omega
      have HS2 := Lib.hid (come_step hAp.out hem hlk HC.out)
      have D1 := Lib.hid (HD.out.turn (turn_grown hg1 (S := fun k => k = r) (fun k e => by cases e; rfl)) (fun k hk e => by
        have h0 := HRR.out
        rcases hk with rfl | rfl | ⟨x, hx, a, ha', rfl⟩
        · omega
        · omega
        · have := HA.out x hx a ha'
          omega))
      have hr2 := Lib.hid (hr1.out.alloc (.cells #[.slice e.A e.f.b.length e.c, .int .i64 (e.f.l : Int)] 80))
      have hb2 := Lib.hid (hb1.alloc hb1.size (.cells #[.slice e.A e.f.b.length e.c, .int .i64 (e.f.l : Int)] 80))
      have D2 := Lib.hid (D1.out.below (fresh1' w1 (.cells #[.slice e.A e.f.b.length e.c, .int .i64 (e.f.l : Int)] 80)))
      have OZ := Lib.hid (Whole.fresh w1 80 #[.slice e.A e.f.b.length e.c, .int .i64 (e.f.l : Int)])
      have RE := Lib.hid ((H.out.below hb2.out).rows e hem)
      have hfar := Lib.hid (fun a ha' => (H.out.rows e hem).lt (a := a) ha')
      have hel := hLen.out e hem
      have hcount : Hid (E2.length ≤ 1000000) := Lib.hid (by
        rw [HD.out.len]
        show F2.length ≤ _
        rw [HC.out.length_eq]
        unfold comeF
        rw [List.length_map]
        have : (E.filter fun e => !left (kN e.f.n)).length ≤ E.length := List.length_filter_le _ _
        omega)
      have hnl := Lib.hid (hNl.out e hem)
      have hsz2 : w1.heap.size + 1 = (w1.alloc (.cells #[.slice e.A e.f.b.length e.c, .int .i64 (e.f.l : Int)] 80)).heap.size := by simp
      clear hrg hrg1 hg1 hb1 hs1
      go_upto_region 5 with fail
      generalize (w1.alloc (.cells #[.slice e.A e.f.b.length e.c, .int .i64 (e.f.l : Int)] 80)) = w6 at hr2 hb2 D2 OZ RE hsz2 ⊢
      have hgz : w.heap.size + 3 ≤ w1.heap.size := hsz1
      generalize w1.heap.size = gz at OZ hsz2 hgz ⊢
      clear hen hsz1
      have hgm : gz ≠ w.heap.size := by omega
      have hz6 : w.heap.size + 4 ≤ w6.heap.size := by omega
      refine region_full 39 [] [] (fun k => k == 11) (fun w7 => w6.grownBy w7 (some w.heap.size)) ?hR ?r0 [pdOne 0 (Is (.pointer (some ⟨w.heap.size + 1, 0, none⟩))), pdOne 1 (Is (.pointer (some ⟨w.heap.size + 1, 0, none⟩))), pdOne 2 (Is (.pointer (some ⟨w.heap.size + 1, 0, none⟩))), pdOne 3 (Is (.map (some w.heap.size))), pdOne 4 (Is (sV e.f.n)), pdOne 5 (Is (.pointer (some ⟨gz, 0, none⟩))), pdOne 6 (Is (.slice e.A e.f.b.length e.c)), pdOne 7 (RowN w6.heap.size e), pdOne 8 (Is (.pointer (some ⟨gz, 1, none⟩))), pdOne 9 (Is (.int .i64 (e.f.l : Int))), pdOne 10 (ValN w6.heap.size e), pdOne 11 (PutN w6.heap.size (w.heap.size + 1) w.heap.size ⟨F2, D.off, D.left⟩ E2 e)] (fun _ w7 => Below w6.heap.size w6 w7) (by kernel_rfl) rfl (by kernel_rfl) (by kernel_rfl) (by kernel_rfl) (by kernel_rfl) ?keep ?hO (fun _ _ => Below.refl _ _) ?tell
      case hR => exact fun w7 w8 hb h => only_trans h (only_of_below hb _)
      case r0 => exact ⟨rfl, rfl, rfl, Nat.le_refl _, fun _ _ _ => rfl⟩
      case keep => exact ⟨keep_one (keeps_is _), keep_one (keeps_is _), keep_one (keeps_is _), keep_one (keeps_is _), keep_one (keeps_is _), keep_one (keeps_is _), keep_one (keeps_is _), keep_one (keeps_rowN _ _), keep_one (keeps_is _), keep_one (keeps_is _), keep_one (keeps_valN _ _), keep_one (keeps_putN _ _ _ _ _ _), trivial⟩
      case hO => exact fun _ w7 w8 hb h => then_below h hb
      case tell =>
        intro fin hfin
        simp [lexPut, Act.put] at hfin
        simp only [TellF]
        refine ⟨⟨?_, ?_, ?_, ?_, ?_, ?_, ?_, ?_, ?_, ?_, ?_, ?_, trivial⟩, ?_⟩
        · intro v w7 hr hd
          exact yields_move rfl (by rfl)
        · intro v w7 hr hd
          have h0 : v 0 = _ := hd 0 (by kernel_rfl)
          refine yields_run (u := .pointer (some ⟨w.heap.size + 1, 0, none⟩)) (w' := w7) ?_ (Below.refl _ _) rfl
          unfold execOp
          simp [go_sem, Act.eval, Act.put, h0]
        · intro v w7 hr hd
          have h0 : v 1 = _ := hd 1 (by kernel_rfl)
          refine yields_run (u := .pointer (some ⟨w.heap.size + 1, 0, none⟩)) (w' := w7) ?_ (Below.refl _ _) rfl
          unfold execOp
          simp [go_sem, Act.eval, Act.put, h0]
        · intro v w7 hr hd
          have h0 : v 2 = _ := hd 2 (by kernel_rfl)
          have hc : w7.cell? ⟨w.heap.size + 1, 0, none⟩ = some (.map (some w.heap.size)) := (Whole.grown D2.out.cells hr (by simp)).read 0
          refine yields_run (u := .map (some w.heap.size)) (w' := w7) ?_ (Below.refl _ _) rfl
          unfold execOp
          simp [go_sem, Act.eval, Act.put, h0, hc]
        · intro v w7 hr hd
          exact yields_move rfl (by rfl)
        · intro v w7 hr hd
          refine yields_run (u := .pointer (some ⟨gz, 0, none⟩)) (w' := w7) ?_ (Below.refl _ _) rfl
          unfold execOp
          simp [go_sem, Act.eval, Act.put]
        · intro v w7 hr hd
          have h0 : v 5 = _ := hd 5 (by kernel_rfl)
          have hc : w7.cell? ⟨gz, 0, none⟩ = some (.slice e.A e.f.b.length e.c) := (Whole.grown OZ.out hr (by simpa using hgm)).read 0
          refine yields_run (u := .slice e.A e.f.b.length e.c) (w' := w7) ?_ (Below.refl _ _) rfl
          unfold execOp
          simp [go_sem, Act.eval, Act.put, h0, hc]
        · intro v w7 hr hd
          have h0 : v 6 = _ := hd 6 (by kernel_rfl)
          refine yields_call (f := 75) rfl (vs := #[.slice e.A e.f.b.length e.c]) (by simp [Act.eval, Act.put, h0]) rfl Tryz.func75 (by kernel_rfl) (by kernel_rfl) ?_
          refine (clone_any hel w7 (RE.out.grown hr (fun a ha' => by have := hfar.out a ha'; omega))).mono fun x w8 ⟨A', c', h1, h2, h3, h4⟩ => ⟨_, h1, h3, A', c', rfl, h2, fun a ha' => Nat.le_trans hr.size (h4 a ha')⟩
        · intro v w7 hr hd
          refine yields_run (u := .pointer (some ⟨gz, 1, none⟩)) (w' := w7) ?_ (Below.refl _ _) rfl
          unfold execOp
          simp [go_sem, Act.eval, Act.put]
        · intro v w7 hr hd
          have h0 : v 8 = _ := hd 8 (by kernel_rfl)
          have hc : w7.cell? ⟨gz, 1, none⟩ = some (.int .i64 (e.f.l : Int)) := (Whole.grown OZ.out hr (by simpa using hgm)).read 1
          refine yields_run (u := .int .i64 (e.f.l : Int)) (w' := w7) ?_ (Below.refl _ _) rfl
          unfold execOp
          simp [go_sem, Act.eval, Act.put, h0, hc]
        · intro v w7 hr hd
          obtain ⟨A', c', h7, h2, h3⟩ : RowN w6.heap.size e (v 7) w7 := hd 7 (by kernel_rfl)
          have h9 : v 9 = _ := hd 9 (by kernel_rfl)
          refine yields_run (u := .agg #[.slice A' e.f.b.length c', .int .i64 (e.f.l : Int)]) (w' := w7) ?_ (Below.refl _ _) ⟨A', c', rfl, h2, h3⟩
          unfold execOp
          simp [go_sem, Act.eval, Act.put, h7, h9]
        · intro v w7 hr ho hd
          have h3 : v 3 = _ := hd 3 (by kernel_rfl)
          have h4 : v 4 = _ := hd 4 (by kernel_rfl)
          obtain ⟨A', c', h10, r2, r3⟩ : ValN w6.heap.size e (v 10) w7 := hd 10 (by kernel_rfl)
          have D7 := D2.out.below ho
          obtain ⟨w8, hput, O8, g8, s8⟩ := put_run D7.own hcount.out (e := ⟨e.f, A', c'⟩) r2.ok hnl.out
          have hput' : (Instr.mapUpdate 63 (.map (some w.heap.size)) (sV e.f.n) (.agg #[.slice A' e.f.b.length c', .int .i64 (e.f.l : Int)])).run Tryz.prog w7 = .ok () w8 := hput
          refine .inr ⟨w8, ?_, only_trans (only_of_below ho _) g8, ?_, fun k hne hk => absurd (by simpa using hk) hne, A', c', ?_, r3⟩
          · unfold execOp
            simp [go_sem, Act.eval, Act.put, h3, h4, h10, hput']
          · intro k2 x hk _ hx
            exact match k2, hk, hx with
              | 0, _, hx | 1, _, hx | 2, _, hx | 3, _, hx | 4, _, hx | 5, _, hx | 6, _, hx | 8, _, hx | 9, _, hx => hx
              | 7, _, ⟨A1, c1, q1, q2, q3⟩ => ⟨A1, c1, q1, q2.grown g8 (fun a ha' => by have := q3 a ha'; omega), q3⟩
              | 10, _, ⟨A1, c1, q1, q2, q3⟩ => ⟨A1, c1, q1, q2.grown g8 (fun a ha' => by have := q3 a ha'; omega), q3⟩
              | 11, hk, _ => absurd rfl hk
              | _ + 12, _, _ => trivial
          · refine D7.put (e := ⟨e.f, A', c'⟩) O8 g8 r2 (fun x hx _ a b hxa hb => ?_) (fun a ha' => ?_)
            · have q1 := (D2.out.rows x hx).lt hxa
              have q2 := r3 b hb
              omega
            · have q2 := r3 a ha'
              constructor <;> omega
        · intro v w7 hr hT
          obtain ⟨A', c', P7, P8⟩ : PutN w6.heap.size (w.heap.size + 1) w.heap.size ⟨F2, D.off, D.left⟩ E2 e (v 11) w7 := hT 11 (by simp)
          rw [hfin]
          clear hfin hT
          generalize v 11 = v11
          have HD7 := Lib.hid P7
          have HP8 := Lib.hid P8
          have hsr := hr.size
          have hr7 := Lib.hid (hr2.out.kept hr (by simp; omega) (by have := HRR.out; simp; omega))
          have HB7 := Lib.hid (hb2.out.grown hr hb2.out.size (fun k e => by cases e; exact Nat.le_refl _))
          have HS7 := Lib.hid (srt_put HS.out e.f)
          have HA7 : Hid (∀ x ∈ putE ⟨e.f, A', c'⟩ E2, ∀ a, x.A = some a → w.heap.size + 3 ≤ a.block) := Lib.hid (fun x hx a ha' => by
            rcases mem_putE.1 hx with rfl | ⟨hx, _⟩
            · have := P8 a ha'
              omega
            · exact HA.out x hx a ha')
          clear P7 P8 hr
          go_wp2_with fail
          go_roundw
          case rel => exact ⟨_, cnt1, put e.f F2, _, hr7.out, HD7, HA7, HS2, HS7, HB7, by omega⟩
          case measure => rw [hr7.out.left_eq, hm1.out]; exact hlt
end Go.Proofs.YtcogehhjofgbiaaGreatDoor.disk
