/-
  A region that draws its order, whose operations make memory at most: what each one's value is asked to be may hang on the world and on the values before it; whatever the order, all hold at the end.
-/
import Derived.Test.YtbomlapmoiamgaaRg2
set_option linter.unusedSimpArgs false
set_option linter.unusedVariables false
namespace Go.Proofs.Ytbomlapmoiamgaa.region
open Go.RowKit Go.Proofs.Ytbomlapmoiamgaa.block

section
variable {P : Program} {ops : Array Oper} {md : Region.Mode} {a0 : Act}
/-- What an operation does in a world: a value of its kind, by itself or by a call; nothing that was there has turned. -/
def Yields (P : Program) (o : Oper) (ρ : Operand → Value) (w : World) (T : Value → World → Prop) : Prop :=
  (∃ u w', (execOp ρ o).run P w = .ok (.value u) w' ∧ Below w.heap.size w w' ∧ T u w') ∨
    ∃ f args, (execOp ρ o).run P w = .ok (.enter f args) w ∧ Calls P f args w fun e w' => ∃ u, e = .returned u ∧ Below w.heap.size w w' ∧ T u w'
structure TTable (P : Program) (md : Region.Mode) (ops : Array Oper) (W0 : World) (a0 : Act) (T : Nat → Value → World → Prop) (fin : (Nat → Value) → Act) : Prop where
  apart : Apart ops
  back : Back md ops
  free : ∀ (i : Nat) (o : Oper), ops[i]? = some o → o.guard = none ∧ (∀ cs b, o.op ≠ .select cs b) ∧ Waits md ops o
  fits : ∀ (i : Nat) (o : Oper) (t : Tmp), ops[i]? = some o → o.dst = some t → t < a0.tmps.size
  last : ∀ v, Agr ops v a0 (fin v) (Array.replicate ops.size true)
  keep : ∀ i u w w', Below w.heap.size w w' → T i u w → T i u w'
  tell : ∀ (i : Nat) (o : Oper), ops[i]? = some o → ∀ v w, Below W0.heap.size W0 w → (∀ e ∈ o.after, Region.binds md e = true → T e.on (v e.on) w) → Yields P o (fin v).eval w (T i)
structure TInv (md : Region.Mode) (ops : Array Oper) (W0 : World) (a0 : Act) (T : Nat → Value → World → Prop) (listed : Array Bool) (v : Nat → Value) (a : Act) (w : World) : Prop where
  size : listed.size = ops.size
  agr : Agr ops v a0 a listed
  old : Below W0.heap.size W0 w
  holds : ∀ i, listed.getD i false = true → T i (v i) w
theorem TInv.sees {W0 w : World} {T : Nat → Value → World → Prop} {fin : (Nat → Value) → Act} {listed : Array Bool} {v : Nat → Value} {a : Act} {i : Nat} {o : Oper} (R : TTable P md ops W0 a0 T fin) (I : TInv md ops W0 a0 T listed v a w)
    (hi : ops[i]? = some o) (hall : ∀ e ∈ o.after, Region.binds md e = true → listed.getD e.on false = true) : ∀ x ∈ o.op.operands, a.eval x = (fin v).eval x := by
  intro x hx
  cases x with
  | tmp t =>
    show a.tmps.getD t undef = (fin v).tmps.getD t undef
    have L := R.last v
    have lt : ∀ {i : Nat} {o : Oper}, ops[i]? = some o → i < ops.size := fun hi => (Array.getElem?_eq_some_iff.1 hi).1
    by_cases hw : ∃ (j : Nat) (oj : Oper), ops[j]? = some oj ∧ oj.dst = some t
    · obtain ⟨j, oj, hj, hd⟩ := hw
      obtain ⟨e, he, hb, hon⟩ := (R.free i o hi).2.2 t (by simpa using hx) j oj hj hd
      have hlj : listed.getD j false = true := hon ▸ hall e he hb
      rw [I.agr.done j oj t hj hd hlj (R.fits j oj t hj hd), L.done j oj t hj hd (by simp [lt hj]) (R.fits j oj t hj hd)]
    · rw [I.agr.rest t fun i o hi _ hd => hw ⟨i, o, hi, hd⟩, L.rest t fun i o hi _ hd => hw ⟨i, o, hi, hd⟩]
  | _ => rfl
theorem TInv.next {W0 w w' : World} {T : Nat → Value → World → Prop} {fin : (Nat → Value) → Act} {listed : Array Bool} {v : Nat → Value} {a : Act} {i : Nat} {o : Oper} {u : Value} (R : TTable P md ops W0 a0 T fin) (I : TInv md ops W0 a0 T listed v a w)
    (hi : ops[i]? = some o) (hun : listed.getD i true = false) (hb : Below w.heap.size w w') (ht : T i u w') :
    TInv md ops W0 a0 T (listed.setIfInBounds i true) (fun j => if j = i then u else v j) (a.put o.dst u) w' := by
  obtain ⟨hl, hlt⟩ := not_listed hun
  refine ⟨by simpa using I.size, ?_, I.old.trans (hb.mono I.old.size), fun j hj => ?_⟩
  · have := I.agr.step (u' := fun j => if j = i then u else v j) R.apart hi hlt fun j hj => by
      have : j ≠ i := fun e => by rw [e, hl] at hj; cases hj
      simp [this]
    simpa using this
  · by_cases e : j = i
    · subst e
      simpa using ht
    · simp only [e, if_false]
      exact R.keep j _ _ _ hb (I.holds j ((set_or hj).resolve_left e))
theorem run_tells {W0 : World} {T : Nat → Value → World → Prop} {fin : (Nat → Value) → Act} {Q : Exit → Act → World → Prop} (R : TTable P md ops W0 a0 T fin)
    (hQ : ∀ v w, Below W0.heap.size W0 w → (∀ i, i < ops.size → T i (v i) w) → Q .normal (fin v) w) :
    ∀ (fuel : Nat) (listed : Array Bool) (v : Nat → Value) (a : Act) (w : World), TInv md ops W0 a0 T listed v a w → listed.toList.count false ≤ fuel → wpAny P md ops Q fuel listed a w := by
  have ends : ∀ (listed : Array Bool) (v : Nat → Value) (a : Act) (w : World), TInv md ops W0 a0 T listed v a w → (∀ i, i < ops.size → listed.getD i false = true) → Q .normal a w := by
    intro listed v a w I h
    have e : a = fin v := I.agr.all (R.last v) h (fun i hi => by simp [hi])
    rw [e]
    exact hQ v w I.old fun i hi => I.holds i (h i hi)
  intro fuel
  induction fuel with
  | zero =>
    intro listed v a w I hc
    have hall : ∀ i, i < ops.size → listed.getD i false = true := by
      intro i hi
      have h0 : false ∉ listed.toList := List.count_eq_zero.1 (Nat.le_zero.1 hc)
      have hi' : i < listed.size := by rw [I.size]; exact hi
      cases hv : listed.getD i false with
      | true => rfl
      | false =>
        have : listed[i] = false := by simpa [hi'] using hv
        exact absurd (this ▸ Array.getElem_mem_toList hi') h0
    refine ⟨List.eq_nil_iff_forall_not_mem.2 fun i hi => ?_, ends _ v _ _ I hall⟩
    obtain ⟨hun, o, ho, -⟩ := mem_ready.1 hi
    have := hall i (Array.getElem?_eq_some_iff.1 ho).1
    rw [(not_listed hun).1] at this
    cases this
  | succ fuel ih =>
    intro listed v a w I hc
    refine ⟨fun h => ends _ v _ _ I (all_listed R.back I.size h), fun i hi => ?_⟩
    obtain ⟨hun, o, ho, hall⟩ := mem_ready.1 hi
    obtain ⟨hg, hsel, hwt⟩ := R.free i o ho
    have hcount : (listed.setIfInBounds i true).toList.count false ≤ fuel := by have := unlisted_set hun; omega
    have hex : execOp a.eval o = execOp (fin v).eval o := execOp_congr o hsel (I.sees R ho hall)
    have hw : Region.wanted o (yielded ops a.tmps) = true := by simp [Region.wanted, hg]
    unfold wpOp
    simp only [ho, hw, if_true]
    left
    rcases R.tell i o ho v w I.old (fun e he hb => I.holds _ (hall e he hb)) with ⟨u, w', h, hb, ht⟩ | ⟨f, args, h, hc'⟩
    · unfold Oper.wp
      rw [hex, h]
      exact ih _ _ _ w' (I.next R ho hun hb ht) hcount
    · unfold Oper.wp
      rw [hex, h]
      refine hc'.mono ?_
      rintro e w' ⟨u, rfl, hb, ht⟩
      exact ih _ _ _ w' (I.next R ho hun hb ht) hcount
/-- What is asked of the operations of a list, one by one; what an operation waits for is told by its place. -/
def TellAll (P : Program) (W0 : World) (T : Nat → Value → World → Prop) (fin : (Nat → Value) → Act) : List Oper → Nat → Prop
  | [], _ => True
  | o :: l, i => (∀ v w, Below W0.heap.size W0 w → (∀ j, (o.after.any fun e => Region.binds .any e && e.on == j) = true → T j (v j) w) → Yields P o (fin v).eval w (T i)) ∧ TellAll P W0 T fin l (i + 1)
theorem tellAll_at {W0 : World} {T : Nat → Value → World → Prop} {fin : (Nat → Value) → Act} : ∀ (l : List Oper) (i : Nat), TellAll P W0 T fin l i → ∀ (j : Nat) (o : Oper), l[j]? = some o → ∀ v w, Below W0.heap.size W0 w →
    (∀ e ∈ o.after, Region.binds .any e = true → T e.on (v e.on) w) → Yields P o (fin v).eval w (T (i + j))
  | [], _, _, j, o, h => by simp at h
  | o :: l, i, h, 0, o', h' => by
    obtain rfl : o = o' := by simpa using h'
    intro v w hb he
    refine h.1 v w hb fun j hj => ?_
    obtain ⟨e, hm, hh⟩ := Array.any_eq_true'.1 hj
    simp only [Bool.and_eq_true, beq_iff_eq] at hh
    exact hh.2 ▸ he e hm hh.1
  | o :: l, i, h, j + 1, o', h' => by
    have := tellAll_at l (i + 1) h.2 j o' (by simpa using h')
    rwa [show i + 1 + j = i + (j + 1) by omega] at this
/-- **A region that draws its order**: each operation's value is of its kind, whatever the order. -/
theorem region_tell {id : Nat} {l : List Oper} {w : World} (N : Nat) (T : Nat → Value → World → Prop) {Q : Exit → Act → World → Prop} (hm : P.follows .mixedOrders = true)
    (hN : a0.tmps.size = N) (hok : okB l.toArray N = true) (hkeep : ∀ i u w w', Below w.heap.size w w' → T i u w → T i u w')
    (h : ∀ fin : (Nat → Value) → Act, (∀ v, fin v = lexPut v l 0 a0) → TellAll P w T fin l 0 ∧ ∀ v w', Below w.heap.size w w' → (∀ i, i < l.length → T i (v i) w') → Q .normal (fin v) w') :
    (Code.region id l.toArray true).wp P Q a0 w := by
  obtain ⟨h1, h2⟩ := h (fun v => lexPut v l 0 a0) (fun _ => rfl)
  have hap : Apart l.toArray := fun i j o o' t hi hj hd hd' => by
    have := ((okB_at hok hi).1 t hd).1 j (mem_writes hj hd')
    exact this.symm
  have R : TTable P .any l.toArray w.drew a0 T (fun v => lexPut v l 0 a0) := by
    refine ⟨hap, fun i o hi => (okB_at hok hi).2.1, fun i o hi => ⟨(okB_at hok hi).2.2.1, (okB_at hok hi).2.2.2.1, fun t ht j oj hj hd => (okB_at hok hi).2.2.2.2 t ht j (mem_writes hj hd)⟩,
      fun i o t hi hd => by rw [hN]; exact ((okB_at hok hi).1 t hd).2, fun v => lexPut_last hap, hkeep, ?_⟩
    intro i o hi v w' hb he
    have := tellAll_at l 0 h1 i o (by simpa using hi) v w' ⟨hb.os, hb.tape, hb.output, hb.size, hb.block⟩ he
    simpa using this
  refine wp_region_any hm (run_tells R (fun v w' hb hv => h2 v w' ⟨hb.os, hb.tape, hb.output, hb.size, hb.block⟩ (fun i hi => hv i (by simpa using hi))) _ _ (fun _ => undef) _ _ ⟨by simp, ⟨rfl, rfl, ?_, fun _ _ => rfl⟩, Below.refl _ _, ?_⟩ (by simp))
  · intro i o t _ _ hl
    rw [none_listed] at hl
    cases hl
  · intro i hl
    rw [none_listed] at hl
    cases hl
/-! ### Kinds -/
def Keeps (p : Value → World → Prop) : Prop := ∀ u w w', Below w.heap.size w w' → p u w → p u w'
def KeepAll : List (Value → World → Prop) → Prop
  | [] => True
  | p :: l => Keeps p ∧ KeepAll l
/-- The kind at a place of a list; none is asked behind its end. -/
def At (l : List (Value → World → Prop)) (i : Nat) : Value → World → Prop := l.getD i fun _ _ => True
theorem keepAll_at : ∀ {l : List (Value → World → Prop)}, KeepAll l → ∀ i u w w', Below w.heap.size w w' → At l i u w → At l i u w'
  | [], _, _, _, _, _, _, _ => trivial
  | _ :: _, h, 0, u, w, w', hb, ht => h.1 u w w' hb ht
  | _ :: l, h, i + 1, u, w, w', hb, ht => keepAll_at (l := l) h.2 i u w w' hb ht
/-- The same, the kinds by a list. -/
theorem region_kinds {id : Nat} {l : List Oper} {w : World} (N : Nat) (T : List (Value → World → Prop)) {Q : Exit → Act → World → Prop} (hm : P.follows .mixedOrders = true)
    (hN : a0.tmps.size = N) (hok : okB l.toArray N = true) (hkeep : KeepAll T)
    (h : ∀ fin : (Nat → Value) → Act, (∀ v, fin v = lexPut v l 0 a0) → TellAll P w (At T) fin l 0 ∧ ∀ v w', Below w.heap.size w w' → (∀ i, i < l.length → At T i (v i) w') → Q .normal (fin v) w') :
    (Code.region id l.toArray true).wp P Q a0 w := region_tell N (At T) hm hN hok (keepAll_at hkeep) h
/-- Just this value. -/
def Is (x : Value) : Value → World → Prop := fun u _ => u = x
theorem keeps_is (x : Value) : Keeps (Is x) := fun _ _ _ _ h => h
theorem yields_is {W0 w : World} {o : Oper} {ρ : Operand → Value} {u : Value} (h : Tells P W0 o ρ u) (hb : Below W0.heap.size W0 w) : Yields P o ρ w (Is u) := by
  rcases h w hb with h | ⟨f, args, h, hc⟩
  · exact .inl ⟨u, w, h, Below.refl _ _, rfl⟩
  · exact .inr ⟨f, args, h, hc.mono fun e w' ⟨he, hb'⟩ => ⟨u, he, hb', rfl⟩⟩
theorem yields_move {w : World} {o : Oper} {ρ : Operand → Value} {x : Operand} {T : Value → World → Prop} (ho : o.op = .move x) (h : T (ρ x) w) : Yields P o ρ w T := by
  refine .inl ⟨ρ x, w, ?_, Below.refl _ _, h⟩
  unfold execOp
  simp [ho, go_sem]
theorem yields_assign {w : World} {o : Oper} {ρ : Operand → Value} {x : Operand} {T : Value → World → Prop} (ho : o.op = .assign x) (h : T (ρ x) w) : Yields P o ρ w T := by
  refine .inl ⟨ρ x, w, ?_, Below.refl _ _, h⟩
  unfold execOp
  simp [ho, go_sem]
theorem yields_call {w : World} {o : Oper} {ρ : Operand → Value} {f : FuncId} {xs : Array Operand} {ts : Array TypeId} {T : Value → World → Prop} (ho : o.op = .call { callee := .value (.func f), args := xs, argTypes := ts }) {vs : Array Value} (hx : xs.map ρ = vs) (hf : ρ (.func f) = .func (.func f) #[] #[]) {fn : Func} (hfn : P.funcs[f]? = some fn) (hname : (fn.name == "runtime.NumGoroutine") = false) (hbody : fn.body.isNone = false)
    (h : Calls P f vs w fun e w' => ∃ u, e = .returned u ∧ Below w.heap.size w w' ∧ T u w') : Yields P o ρ w T := by
  have h1 : ¬ fn.name = "runtime.NumGoroutine" := by simpa using hname
  have h2 : ¬ fn.body = none := by
    intro e
    rw [e] at hbody
    cases hbody
  refine .inr ⟨f, vs, ?_, h⟩
  unfold execOp
  simp [ho, hx, hf, resolve, go_sem, callFunc, hfn, h1, h2]
/-- Any other operation, by its run. -/
theorem yields_run {w w' : World} {o : Oper} {ρ : Operand → Value} {T : Value → World → Prop} {u : Value} (h : (execOp ρ o).run P w = .ok (.value u) w') (hb : Below w.heap.size w w') (ht : T u w') : Yields P o ρ w T := .inl ⟨u, w', h, hb, ht⟩
end
end Go.Proofs.Ytbomlapmoiamgaa.region
