/-
  A region that draws its order, some operations of which are guarded, guards within guards among them ('a && (b || c)'); its operations make memory at most.
-/
import Derived.Test.YtbomlapmoiamgaaRt6
set_option linter.unusedSimpArgs false
set_option linter.unusedVariables false
namespace Go.Proofs.Ytbomlapmoiamgaa.region
open Go.RowKit Go.Proofs.Ytbomlapmoiamgaa.block

section
variable {P : Program} {ops : Array Oper} {md : Region.Mode} {a0 : Act}
/-- It is wanted and does what it is asked, or it is skipped. -/
def DoneU (P : Program) (o : Oper) (v : Nat → Value) (ρ : Operand → Value) (w : World) (T : Value → World → Prop) : Prop :=
  ((∀ j b, o.guard = some (j, b) → v j = .bool b) ∧ Yields P o ρ w T) ∨ (∃ j b c, o.guard = some (j, b) ∧ v j = .bool c ∧ c ≠ b ∧ T undef w) ∨ ∃ j b, o.guard = some (j, b) ∧ v j = undef ∧ T undef w
structure HTable (P : Program) (md : Region.Mode) (ops : Array Oper) (W0 : World) (a0 : Act) (T : Nat → Value → World → Prop) (fin : (Nat → Value) → Act) : Prop where
  apart : Apart ops
  back : Back md ops
  free : ∀ (i : Nat) (o : Oper), ops[i]? = some o → (∀ j b, o.guard = some (j, b) → (∃ e ∈ o.after, Region.binds md e = true ∧ e.on = j) ∧ ∃ oj t, ops[j]? = some oj ∧ oj.dst = some t) ∧ (∀ cs b, o.op ≠ .select cs b) ∧ Waits md ops o
  fits : ∀ (i : Nat) (o : Oper) (t : Tmp), ops[i]? = some o → o.dst = some t → t < a0.tmps.size
  last : ∀ v, Agr ops v a0 (fin v) (Array.replicate ops.size true)
  keep : ∀ i u w w', Below w.heap.size w w' → T i u w → T i u w'
  tell : ∀ (i : Nat) (o : Oper), ops[i]? = some o → ∀ v w, Below W0.heap.size W0 w → (∀ e ∈ o.after, Region.binds md e = true → T e.on (v e.on) w) → DoneU P o v (fin v).eval w (T i)
structure HInv (md : Region.Mode) (ops : Array Oper) (W0 : World) (a0 : Act) (T : Nat → Value → World → Prop) (listed : Array Bool) (v : Nat → Value) (a : Act) (w : World) : Prop where
  size : listed.size = ops.size
  agr : Agr ops v a0 a listed
  old : Below W0.heap.size W0 w
  holds : ∀ i, listed.getD i false = true → T i (v i) w
theorem HInv.sees {W0 w : World} {T : Nat → Value → World → Prop} {fin : (Nat → Value) → Act} {listed : Array Bool} {v : Nat → Value} {a : Act} {i : Nat} {o : Oper} (R : HTable P md ops W0 a0 T fin) (I : HInv md ops W0 a0 T listed v a w)
    (hi : ops[i]? = some o) (hall : ∀ e ∈ o.after, Region.binds md e = true → listed.getD e.on false = true) : ∀ x ∈ o.op.operands, a.eval x = (fin v).eval x := by
  intro x hx
  cases x with
  | tmp t =>
    show a.tmps.getD t undef = (fin v).tmps.getD t undef
    have L := R.last v
    have lt : ∀ {i : Nat} {o : Oper}, ops[i]? = some o → i < ops.size := fun hi => (Array.getElem?_eq_some_iff.1 hi).1
    by_cases hw : ∃ (j : Nat) (oj : Oper), ops[j]? = some oj ∧ oj.dst = some t
    · obtain ⟨j, oj, hj, hd⟩ := hw
      obtain ⟨e, he, hb, hon⟩ := (R.free i o hi).2.2 t (by simpa using hx) j oj hj hd
      have hlj : listed.getD j false = true := hon ▸ hall e he hb
      rw [I.agr.done j oj t hj hd hlj (R.fits j oj t hj hd), L.done j oj t hj hd (by simp [lt hj]) (R.fits j oj t hj hd)]
    · rw [I.agr.rest t fun i o hi _ hd => hw ⟨i, o, hi, hd⟩, L.rest t fun i o hi _ hd => hw ⟨i, o, hi, hd⟩]
  | _ => rfl
theorem HInv.next {W0 w w' : World} {T : Nat → Value → World → Prop} {fin : (Nat → Value) → Act} {listed : Array Bool} {v : Nat → Value} {a : Act} {i : Nat} {o : Oper} {u : Value} (R : HTable P md ops W0 a0 T fin) (I : HInv md ops W0 a0 T listed v a w)
    (hi : ops[i]? = some o) (hun : listed.getD i true = false) (hb : Below w.heap.size w w') (ht : T i u w') :
    HInv md ops W0 a0 T (listed.setIfInBounds i true) (fun j => if j = i then u else v j) (a.put o.dst u) w' := by
  obtain ⟨hl, hlt⟩ := not_listed hun
  refine ⟨by simpa using I.size, ?_, I.old.trans (hb.mono I.old.size), fun j hj => ?_⟩
  · have := I.agr.step (u' := fun j => if j = i then u else v j) R.apart hi hlt fun j hj => by
      have : j ≠ i := fun e => by rw [e, hl] at hj; cases hj
      simp [this]
    simpa using this
  · by_cases e : j = i
    · subst e
      simpa using ht
    · simp only [e, if_false]
      exact R.keep j _ _ _ hb (I.holds j ((set_or hj).resolve_left e))
theorem run_guardsU {W0 : World} {T : Nat → Value → World → Prop} {fin : (Nat → Value) → Act} {Q : Exit → Act → World → Prop} (R : HTable P md ops W0 a0 T fin)
    (hQ : ∀ v w, Below W0.heap.size W0 w → (∀ i, i < ops.size → T i (v i) w) → Q .normal (fin v) w) :
    ∀ (fuel : Nat) (listed : Array Bool) (v : Nat → Value) (a : Act) (w : World), HInv md ops W0 a0 T listed v a w → listed.toList.count false ≤ fuel → wpAny P md ops Q fuel listed a w := by
  have ends : ∀ (listed : Array Bool) (v : Nat → Value) (a : Act) (w : World), HInv md ops W0 a0 T listed v a w → (∀ i, i < ops.size → listed.getD i false = true) → Q .normal a w := by
    intro listed v a w I h
    have e : a = fin v := I.agr.all (R.last v) h (fun i hi => by simp [hi])
    rw [e]
    exact hQ v w I.old fun i hi => I.holds i (h i hi)
  intro fuel
  induction fuel with
  | zero =>
    intro listed v a w I hc
    have hall : ∀ i, i < ops.size → listed.getD i false = true := by
      intro i hi
      have h0 : false ∉ listed.toList := List.count_eq_zero.1 (Nat.le_zero.1 hc)
      have hi' : i < listed.size := by rw [I.size]; exact hi
      cases hv : listed.getD i false with
      | true => rfl
      | false =>
        have : listed[i] = false := by simpa [hi'] using hv
        exact absurd (this ▸ Array.getElem_mem_toList hi') h0
    refine ⟨List.eq_nil_iff_forall_not_mem.2 fun i hi => ?_, ends _ v _ _ I hall⟩
    obtain ⟨hun, o, ho, -⟩ := mem_ready.1 hi
    have := hall i (Array.getElem?_eq_some_iff.1 ho).1
    rw [(not_listed hun).1] at this
    cases this
  | succ fuel ih =>
    intro listed v a w I hc
    refine ⟨fun h => ends _ v _ _ I (all_listed R.back I.size h), fun i hi => ?_⟩
    obtain ⟨hun, o, ho, hall⟩ := mem_ready.1 hi
    obtain ⟨hg, hsel, hwt⟩ := R.free i o ho
    have hcount : (listed.setIfInBounds i true).toList.count false ≤ fuel := by have := unlisted_set hun; omega
    have hex : execOp a.eval o = execOp (fin v).eval o := execOp_congr o hsel (I.sees R ho hall)
    have hyd : ∀ j b, o.guard = some (j, b) → ∀ c, v j = .bool c → yielded ops a.tmps j = some c := by
      intro j b hgd c hv
      obtain ⟨⟨e, he, hbd, hon⟩, oj, t, hoj, hdt⟩ := hg j b hgd
      have hl : listed.getD j false = true := hon ▸ hall e he hbd
      have hfit := R.fits j oj t hoj hdt
      have hval := I.agr.done j oj t hoj hdt hl hfit
      have hsz : t < a.tmps.size := by rw [I.agr.size]; exact hfit
      unfold yielded
      simp only [hoj, hdt, Option.bind_some]
      have : a.tmps[t]? = some (.bool c) := by
        rw [hv] at hval
        simpa [hsz] using hval
      rw [this]
    have hyu : ∀ j b, o.guard = some (j, b) → v j = undef → yielded ops a.tmps j = none := by
      intro j b hgd hv
      obtain ⟨⟨e, he, hbd, hon⟩, oj, t, hoj, hdt⟩ := hg j b hgd
      have hl : listed.getD j false = true := hon ▸ hall e he hbd
      have hfit := R.fits j oj t hoj hdt
      have hval := I.agr.done j oj t hoj hdt hl hfit
      have hsz : t < a.tmps.size := by rw [I.agr.size]; exact hfit
      unfold yielded
      simp only [hoj, hdt, Option.bind_some]
      have : a.tmps[t]? = some undef := by
        rw [hv] at hval
        simpa [hsz] using hval
      rw [this]
      rfl
    rcases R.tell i o ho v w I.old (fun e he hb => I.holds _ (hall e he hb)) with ⟨hgw, hY⟩ | ⟨j, b, c, hgd, hv, hne, ht⟩ | ⟨j, b, hgd, hv, ht⟩
    rotate_left
    · have hw : Region.wanted o (yielded ops a.tmps) = false := by
        have := hyd j b hgd c hv
        simp [Region.wanted, hgd, this, hne]
      unfold wpOp
      simp only [ho, hw, Bool.false_eq_true, if_false]
      exact ih _ _ _ w (I.next R ho hun (Below.refl _ _) ht) hcount
    · have hw : Region.wanted o (yielded ops a.tmps) = false := by
        have := hyu j b hgd hv
        simp [Region.wanted, hgd, this]
      unfold wpOp
      simp only [ho, hw, Bool.false_eq_true, if_false]
      exact ih _ _ _ w (I.next R ho hun (Below.refl _ _) ht) hcount
    have hw : Region.wanted o (yielded ops a.tmps) = true := by
      cases hgd : o.guard with
      | none => simp [Region.wanted, hgd]
      | some p =>
        obtain ⟨j, b⟩ := p
        have := hyd j b hgd b (hgw j b hgd)
        simp [Region.wanted, hgd, this]
    unfold wpOp
    simp only [ho, hw, if_true]
    left
    rcases hY with ⟨u, w', h, hb, ht⟩ | ⟨f, args, h, hc'⟩
    · unfold Oper.wp
      rw [hex, h]
      exact ih _ _ _ w' (I.next R ho hun hb ht) hcount
    · unfold Oper.wp
      rw [hex, h]
      refine hc'.mono ?_
      rintro e w' ⟨u, rfl, hb, ht⟩
      exact ih _ _ _ w' (I.next R ho hun hb ht) hcount
/-- What is asked of the operations of a list, one by one; what an operation waits for is told by its place. -/
def TellU (P : Program) (W0 : World) (T : Nat → Value → World → Prop) (fin : (Nat → Value) → Act) : List Oper → Nat → Prop
  | [], _ => True
  | o :: l, i => (∀ v w, Below W0.heap.size W0 w → (∀ j, (o.after.any fun e => Region.binds .any e && e.on == j) = true → T j (v j) w) → DoneU P o v (fin v).eval w (T i)) ∧ TellU P W0 T fin l (i + 1)
theorem tellU_at {W0 : World} {T : Nat → Value → World → Prop} {fin : (Nat → Value) → Act} : ∀ (l : List Oper) (i : Nat), TellU P W0 T fin l i → ∀ (j : Nat) (o : Oper), l[j]? = some o → ∀ v w, Below W0.heap.size W0 w →
    (∀ e ∈ o.after, Region.binds .any e = true → T e.on (v e.on) w) → DoneU P o v (fin v).eval w (T (i + j))
  | [], _, _, j, o, h => by simp at h
  | o :: l, i, h, 0, o', h' => by
    obtain rfl : o = o' := by simpa using h'
    intro v w hb he
    refine h.1 v w hb fun j hj => ?_
    obtain ⟨e, hm, hh⟩ := Array.any_eq_true'.1 hj
    simp only [Bool.and_eq_true, beq_iff_eq] at hh
    exact hh.2 ▸ he e hm hh.1
  | o :: l, i, h, j + 1, o', h' => by
    have := tellU_at l (i + 1) h.2 j o' (by simpa using h')
    rwa [show i + 1 + j = i + (j + 1) by omega] at this
/-- **A region that draws its order**: each operation's value is of its kind, whatever the order. -/
theorem region_guardU {id : Nat} {l : List Oper} {w : World} (N : Nat) (T : Nat → Value → World → Prop) {Q : Exit → Act → World → Prop} (hm : P.follows .mixedOrders = true)
    (hN : a0.tmps.size = N) (hok : okG l.toArray N = true) (hkeep : ∀ i u w w', Below w.heap.size w w' → T i u w → T i u w')
    (h : ∀ fin : (Nat → Value) → Act, (∀ v, fin v = lexPut v l 0 a0) → TellU P w T fin l 0 ∧ ∀ v w', Below w.heap.size w w' → (∀ i, i < l.length → T i (v i) w') → Q .normal (fin v) w') :
    (Code.region id l.toArray true).wp P Q a0 w := by
  obtain ⟨h1, h2⟩ := h (fun v => lexPut v l 0 a0) (fun _ => rfl)
  have hap : Apart l.toArray := fun i j o o' t hi hj hd hd' => by
    have := ((okG_at hok hi).1 t hd).1 j (mem_writes hj hd')
    exact this.symm
  have R : HTable P .any l.toArray w.drew a0 T (fun v => lexPut v l 0 a0) := by
    refine ⟨hap, fun i o hi => (okG_at hok hi).2.1, fun i o hi => ⟨(okG_at hok hi).2.2.1, (okG_at hok hi).2.2.2.1, fun t ht j oj hj hd => (okG_at hok hi).2.2.2.2 t ht j (mem_writes hj hd)⟩,
      fun i o t hi hd => by rw [hN]; exact ((okG_at hok hi).1 t hd).2, fun v => lexPut_last hap, hkeep, ?_⟩
    intro i o hi v w' hb he
    have := tellU_at l 0 h1 i o (by simpa using hi) v w' ⟨hb.os, hb.tape, hb.output, hb.size, hb.block⟩ he
    simpa using this
  refine wp_region_any hm (run_guardsU R (fun v w' hb hv => h2 v w' ⟨hb.os, hb.tape, hb.output, hb.size, hb.block⟩ (fun i hi => hv i (by simpa using hi))) _ _ (fun _ => undef) _ _ ⟨by simp, ⟨rfl, rfl, ?_, fun _ _ => rfl⟩, Below.refl _ _, ?_⟩ (by simp))
  · intro i o t _ _ hl
    rw [none_listed] at hl
    cases hl
  · intro i hl
    rw [none_listed] at hl
    cases hl
/-- The same, the kinds by a list. -/
theorem region_wantU {id : Nat} {l : List Oper} {w : World} (N : Nat) (T : List (Value → World → Prop)) {Q : Exit → Act → World → Prop} (hm : P.follows .mixedOrders = true)
    (hN : a0.tmps.size = N) (hok : okG l.toArray N = true) (hkeep : KeepAll T)
    (h : ∀ fin : (Nat → Value) → Act, (∀ v, fin v = lexPut v l 0 a0) → TellU P w (At T) fin l 0 ∧ ∀ v w', Below w.heap.size w w' → (∀ i, i < l.length → At T i (v i) w') → Q .normal (fin v) w') :
    (Code.region id l.toArray true).wp P Q a0 w := region_guardU N (At T) hm hN hok (keepAll_at hkeep) h
theorem doneU_plain {o : Oper} {v : Nat → Value} {ρ : Operand → Value} {w : World} {T : Value → World → Prop} (hg : o.guard = none) (h : Yields P o ρ w T) : DoneU P o v ρ w T := .inl ⟨fun j b e => (by rw [hg] at e; cases e), h⟩
theorem doneU_want {o : Oper} {v : Nat → Value} {ρ : Operand → Value} {w : World} {T : Value → World → Prop} (j : Nat) (b : Bool) (hg : o.guard = some (j, b)) (hv : v j = .bool b) (h : Yields P o ρ w T) : DoneU P o v ρ w T := .inl ⟨fun j' b' e => (by rw [hg] at e; cases e; exact hv), h⟩
theorem doneU_skip {o : Oper} {v : Nat → Value} {ρ : Operand → Value} {w : World} {T : Value → World → Prop} (j : Nat) (b c : Bool) (hg : o.guard = some (j, b)) (hv : v j = .bool c) (hne : c ≠ b) (ht : T undef w) : DoneU P o v ρ w T := .inr (.inl ⟨j, b, c, hg, hv, hne, ht⟩)
theorem doneU_none {o : Oper} {v : Nat → Value} {ρ : Operand → Value} {w : World} {T : Value → World → Prop} (j : Nat) (b : Bool) (hg : o.guard = some (j, b)) (hv : v j = undef) (ht : T undef w) : DoneU P o v ρ w T := .inr (.inr ⟨j, b, hg, hv, ht⟩)
end
end Go.Proofs.Ytbomlapmoiamgaa.region
