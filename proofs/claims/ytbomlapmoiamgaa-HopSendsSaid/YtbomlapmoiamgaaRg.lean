/-
  A region that draws its order, whose calls make memory at most, and that makes variables of its own and lays them: whatever the order, each operation's value is that of a table, and each variable holds at the end what was stored.
-/
import Derived.Test.YtbomlapmoiamgaaWh
import Derived.Orders
set_option linter.unusedSimpArgs false
set_option linter.unusedVariables false
namespace Go.Proofs.Ytbomlapmoiamgaa.region
open Go.RowKit Go.Proofs.Ytbomlapmoiamgaa.block

/-- What an operation is to the region: one that makes a variable (of what type, what it holds at first, which operation stores into it, and what); the one that stores; or any other. -/
inductive Kind where
  | plain
  | make (ty : TypeId) (zero : Array Value) (j : Nat) (cs : Array Value)
  | lay (i : Nat)
/-- The value of an operation: the variable's address, or the table's. -/
def val (k : Nat → Kind) (v : Nat → Value) (n : Nat → Nat) (i : Nat) : Value :=
  match k i with
  | .make .. => .pointer (some ⟨n i, 0, none⟩)
  | _ => v i
/-- What is asked of any other operation: one value in every world behind the first. -/
def Tells (P : Program) (W0 : World) (o : Oper) (ρ : Operand → Value) (u : Value) : Prop :=
  ∀ w, Below W0.heap.size W0 w →
    (execOp ρ o).run P w = .ok (.value u) w ∨ ∃ f args, (execOp ρ o).run P w = .ok (.enter f args) w ∧ Calls P f args w fun e w' => e = .returned u ∧ Below w.heap.size w w'
section
variable {P : Program} {ops : Array Oper} {md : Region.Mode} {a0 : Act} {k : Nat → Kind} {v : Nat → Value}
/-- A frame in which the listed operations' values lie in their slots, and nothing else has turned. -/
structure Agr (ops : Array Oper) (u : Nat → Value) (a0 a : Act) (listed : Array Bool) : Prop where
  defers : a.defers = a0.defers
  size : a.tmps.size = a0.tmps.size
  done : ∀ i o t, ops[i]? = some o → o.dst = some t → listed.getD i false = true → t < a0.tmps.size → a.tmps.getD t undef = u i
  rest : ∀ t, (∀ i o, ops[i]? = some o → listed.getD i false = true → o.dst ≠ some t) → a.tmps.getD t undef = a0.tmps.getD t undef
/-- No two operations have one slot. -/
def Apart (ops : Array Oper) : Prop := ∀ (i j : Nat) (o o' : Oper) (t : Tmp), ops[i]? = some o → ops[j]? = some o' → o.dst = some t → o'.dst = some t → i = j
theorem getD_set_eq {l : Array Bool} {i : Nat} (h : i < l.size) : (l.setIfInBounds i true).getD i false = true := by simp [h]
theorem set_or {l : Array Bool} {i j : Nat} (h : (l.setIfInBounds i true).getD j false = true) : j = i ∨ l.getD j false = true := by
  by_cases e : i = j
  · exact .inl e.symm
  · rw [getD_set_ne false e] at h
    exact .inr h
theorem set_keep {l : Array Bool} {i j : Nat} (h : l.getD j false = true) : (l.setIfInBounds i true).getD j false = true := getD_set_true h
theorem Agr.step {u u' : Nat → Value} {a : Act} {listed : Array Bool} {i : Nat} {o : Oper} (h : Agr ops u a0 a listed) (hap : Apart ops) (hi : ops[i]? = some o) (hl : i < listed.size)
    (hu : ∀ j, listed.getD j false = true → u' j = u j) : Agr ops u' a0 (a.put o.dst (u' i)) (listed.setIfInBounds i true) := by
  refine ⟨?_, ?_, ?_, ?_⟩
  · cases o.dst <;> exact h.defers
  · cases o.dst with
    | none => exact h.size
    | some d => simpa [Act.put] using h.size
  · intro j o' t hj hd hlj ht
    by_cases e : j = i
    · subst e
      obtain rfl : o = o' := Option.some.inj (hi.symm.trans hj)
      rw [hd]
      have : t < a.tmps.size := by rw [h.size]; exact ht
      simp [Act.put, this]
    · have hlj' : listed.getD j false = true := (set_or hlj).resolve_left e
      have hne : o.dst ≠ some t := fun hh => e (hap j i o' o t hj hi hd hh)
      rw [hu j hlj']
      rw [← h.done j o' t hj hd hlj' ht]
      cases hod : o.dst with
      | none => rfl
      | some d =>
        have : d ≠ t := fun hh => hne (by rw [hod, hh])
        simp [Act.put, Array.getElem?_setIfInBounds_ne this]
  · intro t ht
    have hne : o.dst ≠ some t := ht i o hi (getD_set_eq hl)
    rw [← h.rest t fun j o' hj hlj => ht j o' hj (set_keep hlj)]
    cases hod : o.dst with
    | none => rfl
    | some d =>
      have : d ≠ t := fun hh => hne (by rw [hod, hh])
      simp [Act.put, Array.getElem?_setIfInBounds_ne this]
/-- Each operation waits for those before it alone. -/
def Back (md : Region.Mode) (ops : Array Oper) : Prop := ∀ i o, ops[i]? = some o → ∀ e ∈ o.after, Region.binds md e = true → e.on < i
theorem all_listed {listed : Array Bool} (hb : Back md ops) (hs : listed.size = ops.size) (h : Region.ready md ops listed = []) : ∀ i, i < ops.size → listed.getD i false = true := by
  intro i
  induction i using Nat.strongRecOn with
  | _ i ih =>
    intro hi
    cases hl : listed.getD i false with
    | true => rfl
    | false =>
      have hm : i ∈ Region.ready md ops listed := by
        refine mem_ready.2 ⟨?_, ops[i], by simp [hi], fun e he hbd => ?_⟩
        · have : i < listed.size := by omega
          simpa [this] using hl
        · have := hb i ops[i] (by simp [hi]) e he hbd
          exact ih e.on this (by omega)
      rw [h] at hm
      cases hm
/-- Two frames that agree with one table at all slots are one. -/
theorem Agr.all {u : Nat → Value} {a b : Act} {l l' : Array Bool} (h : Agr ops u a0 a l) (h' : Agr ops u a0 b l') (hl : ∀ i, i < ops.size → l.getD i false = true) (hl' : ∀ i, i < ops.size → l'.getD i false = true) : a = b := by
  have lt : ∀ {i : Nat} {o : Oper}, ops[i]? = some o → i < ops.size := fun hi => (Array.getElem?_eq_some_iff.1 hi).1
  have hg : ∀ t, t < a0.tmps.size → a.tmps.getD t undef = b.tmps.getD t undef := by
    intro t ht
    by_cases hw : ∃ (i : Nat) (o : Oper), ops[i]? = some o ∧ o.dst = some t
    · obtain ⟨i, o, hi, hd⟩ := hw
      rw [h.done i o t hi hd (hl i (lt hi)) ht, h'.done i o t hi hd (hl' i (lt hi)) ht]
    · have hno : ∀ (i : Nat) (o : Oper), ops[i]? = some o → o.dst ≠ some t := fun i o hi hd => hw ⟨i, o, hi, hd⟩
      rw [h.rest t fun i o hi _ => hno i o hi, h'.rest t fun i o hi _ => hno i o hi]
  obtain ⟨x, dx⟩ := a
  obtain ⟨y, dy⟩ := b
  have e1 : x = y := by
    refine Array.ext (by rw [h.size, h'.size]) fun t h1 h2 => ?_
    have := hg t (by rw [← h.size]; exact h1)
    simpa [h1, h2] using this
  have e2 : dx = dy := h.defers.trans h'.defers.symm
  rw [e1, e2]
/-- What an operation's operands hold is what they hold at the end: each slot that it looks at is written by an operation that it waits for, or by none. -/
def Waits (md : Region.Mode) (ops : Array Oper) (o : Oper) : Prop :=
  ∀ t, .tmp t ∈ o.op.operands → ∀ (j : Nat) (oj : Oper), ops[j]? = some oj → oj.dst = some t → ∃ e ∈ o.after, Region.binds md e = true ∧ e.on = j
/-- The table of a region, and what is asked of it. -/
structure Table (P : Program) (md : Region.Mode) (ops : Array Oper) (W0 : World) (a0 : Act) (k : Nat → Kind) (v : Nat → Value) (fin : (Nat → Nat) → Act) : Prop where
  apart : Apart ops
  back : Back md ops
  free : ∀ (i : Nat) (o : Oper), ops[i]? = some o → o.guard = none ∧ (∀ cs b, o.op ≠ .select cs b) ∧ Waits md ops o
  fits : ∀ (i : Nat) (o : Oper) (t : Tmp), ops[i]? = some o → o.dst = some t → t < a0.tmps.size
  last : ∀ n, Agr ops (val k v n) a0 (fin n) (Array.replicate ops.size true)
  plain : ∀ (i : Nat) (o : Oper), ops[i]? = some o → k i = .plain → ∀ n, Tells P W0 o (fin n).eval (v i)
  make : ∀ (i : Nat) (o : Oper) ty z j cs, ops[i]? = some o → k i = .make ty z j cs → k j = .lay i ∧ (∃ oj, ops[j]? = some oj ∧ ∃ e ∈ oj.after, Region.binds md e = true ∧ e.on = i) ∧
    ∀ w ρ, (execOp ρ o).run P w = .ok (.value (.pointer (some ⟨w.heap.size, 0, none⟩))) (w.alloc (.cells z ty))
  lay : ∀ (j : Nat) (o : Oper) i, ops[j]? = some o → k j = .lay i → o.dst = none ∧ ∃ ty z cs tys d y, k i = .make ty z j cs ∧ o.op = .store tys (.tmp d) y ∧ (∃ oi, ops[i]? = some oi ∧ oi.dst = some d) ∧
    (∀ n, (fin n).eval y = .agg cs) ∧ (P.info? tys).map (·.size) = some cs.size ∧ z.size = cs.size ∧ cs.all (·.oneCell') = true
/-- What holds of a frame and a world while the region runs. -/
structure Inv (P : Program) (md : Region.Mode) (ops : Array Oper) (W0 : World) (a0 : Act) (k : Nat → Kind) (v : Nat → Value) (listed : Array Bool) (n : Nat → Nat) (a : Act) (w : World) : Prop where
  size : listed.size = ops.size
  closed : ∀ (j : Nat) (oj : Oper), ops[j]? = some oj → listed.getD j false = true → ∀ e ∈ oj.after, Region.binds md e = true → listed.getD e.on false = true
  agr : Agr ops (val k v n) a0 a listed
  old : Below W0.heap.size W0 w
  blk : ∀ i ty z j cs, k i = .make ty z j cs → listed.getD i false = true → Whole w (n i) ty (if listed.getD j false = true then cs else z) ∧ W0.heap.size ≤ n i
  inj : ∀ i i' ty z j cs ty' z' j' cs', k i = .make ty z j cs → k i' = .make ty' z' j' cs' → listed.getD i false = true → listed.getD i' false = true → i ≠ i' → n i ≠ n i'
theorem Inv.sees {W0 w : World} {fin : (Nat → Nat) → Act} {listed : Array Bool} {n : Nat → Nat} {a : Act} {i : Nat} {o : Oper} (T : Table P md ops W0 a0 k v fin) (I : Inv P md ops W0 a0 k v listed n a w)
    (hi : ops[i]? = some o) (hall : ∀ e ∈ o.after, Region.binds md e = true → listed.getD e.on false = true) : ∀ x ∈ o.op.operands, a.eval x = (fin n).eval x := by
  intro x hx
  cases x with
  | tmp t =>
    show a.tmps.getD t undef = (fin n).tmps.getD t undef
    have L := T.last n
    have lt : ∀ {i : Nat} {o : Oper}, ops[i]? = some o → i < ops.size := fun hi => (Array.getElem?_eq_some_iff.1 hi).1
    by_cases hw : ∃ (j : Nat) (oj : Oper), ops[j]? = some oj ∧ oj.dst = some t
    · obtain ⟨j, oj, hj, hd⟩ := hw
      obtain ⟨e, he, hb, hon⟩ := (T.free i o hi).2.2 t (by simpa using hx) j oj hj hd
      have hlj : listed.getD j false = true := hon ▸ hall e he hb
      rw [I.agr.done j oj t hj hd hlj (T.fits j oj t hj hd), L.done j oj t hj hd (by simp [lt hj]) (T.fits j oj t hj hd)]
    · rw [I.agr.rest t fun i o hi _ hd => hw ⟨i, o, hi, hd⟩, L.rest t fun i o hi _ hd => hw ⟨i, o, hi, hd⟩]
  | _ => rfl
theorem unlisted_set {l : Array Bool} {i : Nat} (h : l.getD i true = false) : (l.setIfInBounds i true).toList.count false + 1 = l.toList.count false := by
  have hi : i < l.size := by
    rcases Nat.lt_or_ge i l.size with h' | h'
    · exact h'
    · simp [Array.getElem?_eq_none h'] at h
  have hv : l[i] = false := by simpa [hi] using h
  have hp : 0 < l.toList.count false := List.count_pos_iff.2 (hv ▸ Array.getElem_mem_toList hi)
  rw [Array.toList_setIfInBounds, List.count_set (by simpa using hi)]
  rw [Array.count_toList] at hp
  simp [hv]
  omega
theorem Inv.at {W0 w : World} {listed : Array Bool} {n : Nat → Nat} {a : Act} {i : Nat} (I : Inv P md ops W0 a0 k v listed n a w) (h : listed.getD i false = true) : ∃ o, ops[i]? = some o := by
  have : i < listed.size := by
    rcases Nat.lt_or_ge i listed.size with h' | h'
    · exact h'
    · simp [Array.getElem?_eq_none h'] at h
  exact ⟨ops[i]'(by rw [← I.size]; exact this), by simp [← I.size, this]⟩
theorem not_listed {l : Array Bool} {i : Nat} (h : l.getD i true = false) : l.getD i false = false ∧ i < l.size := by
  rcases Nat.lt_or_ge i l.size with h' | h'
  · simp [h'] at h ⊢; exact h
  · simp [Array.getElem?_eq_none h'] at h
/-- One operation more is listed. -/
theorem Inv.next {W0 w w' : World} {fin : (Nat → Nat) → Act} {listed : Array Bool} {n n' : Nat → Nat} {a : Act} {i : Nat} {o : Oper} (T : Table P md ops W0 a0 k v fin) (I : Inv P md ops W0 a0 k v listed n a w)
    (hi : ops[i]? = some o) (hun : listed.getD i true = false) (hall : ∀ e ∈ o.after, Region.binds md e = true → listed.getD e.on false = true)
    (hn : ∀ j, j ≠ i → n' j = n j) (hb : Below W0.heap.size W0 w')
    (blk : ∀ i' ty z j cs, k i' = .make ty z j cs → (listed.setIfInBounds i true).getD i' false = true → Whole w' (n' i') ty (if (listed.setIfInBounds i true).getD j false = true then cs else z) ∧ W0.heap.size ≤ n' i')
    (inj : ∀ p q ty z j cs ty' z' j' cs', k p = .make ty z j cs → k q = .make ty' z' j' cs' → (listed.setIfInBounds i true).getD p false = true → (listed.setIfInBounds i true).getD q false = true → p ≠ q → n' p ≠ n' q) :
    Inv P md ops W0 a0 k v (listed.setIfInBounds i true) n' (a.put o.dst (val k v n' i)) w' := by
  obtain ⟨hl, hlt⟩ := not_listed hun
  refine ⟨by simpa using I.size, ?_, ?_, hb, blk, inj⟩
  · intro j oj hj hlj e he hbd
    rcases set_or hlj with rfl | h
    · obtain rfl : o = oj := Option.some.inj (hi.symm.trans hj)
      exact set_keep (hall e he hbd)
    · exact set_keep (I.closed j oj hj h e he hbd)
  · refine I.agr.step T.apart hi hlt fun j hj => ?_
    have : j ≠ i := fun e => by rw [e, hl] at hj; cases hj
    unfold val
    cases k j <;> simp [hn j this]
end
section
variable {P : Program} {ops : Array Oper} {md : Region.Mode} {a0 : Act} {k : Nat → Kind} {v : Nat → Value}
theorem Inv.ends {W0 w : World} {fin : (Nat → Nat) → Act} {listed : Array Bool} {n : Nat → Nat} {a : Act} {Q : Exit → Act → World → Prop} (T : Table P md ops W0 a0 k v fin) (I : Inv P md ops W0 a0 k v listed n a w)
    (hQ : ∀ n w, Below W0.heap.size W0 w → (∀ i ty z j cs, k i = .make ty z j cs → i < ops.size → j < ops.size → Whole w (n i) ty cs ∧ W0.heap.size ≤ n i) → Q .normal (fin n) w)
    (h : ∀ i, i < ops.size → listed.getD i false = true) : Q .normal a w := by
  have e : a = fin n := I.agr.all (T.last n) h (fun i hi => by simp [hi])
  rw [e]
  refine hQ n w I.old fun i ty z j cs hk hi hj => ?_
  have b := I.blk i ty z j cs hk (h i hi)
  rwa [if_pos (h j hj)] at b
theorem run_table {W0 : World} {fin : (Nat → Nat) → Act} {Q : Exit → Act → World → Prop} (T : Table P md ops W0 a0 k v fin)
    (hQ : ∀ n w, Below W0.heap.size W0 w → (∀ i ty z j cs, k i = .make ty z j cs → i < ops.size → j < ops.size → Whole w (n i) ty cs ∧ W0.heap.size ≤ n i) → Q .normal (fin n) w) :
    ∀ (fuel : Nat) (listed : Array Bool) (n : Nat → Nat) (a : Act) (w : World), Inv P md ops W0 a0 k v listed n a w → listed.toList.count false ≤ fuel → wpAny P md ops Q fuel listed a w := by
  intro fuel
  induction fuel with
  | zero =>
    intro listed n a w I hc
    have hall : ∀ i, i < ops.size → listed.getD i false = true := by
      intro i hi
      have h0 : false ∉ listed.toList := List.count_eq_zero.1 (Nat.le_zero.1 hc)
      have hi' : i < listed.size := by rw [I.size]; exact hi
      cases hv : listed.getD i false with
      | true => rfl
      | false =>
        have : listed[i] = false := by simpa [hi'] using hv
        exact absurd (this ▸ Array.getElem_mem_toList hi') h0
    refine ⟨List.eq_nil_iff_forall_not_mem.2 fun i hi => ?_, I.ends T hQ hall⟩
    obtain ⟨hun, o, ho, -⟩ := mem_ready.1 hi
    have := hall i (Array.getElem?_eq_some_iff.1 ho).1
    rw [(not_listed hun).1] at this
    cases this
  | succ fuel ih =>
    intro listed n a w I hc
    refine ⟨fun h => I.ends T hQ (all_listed T.back I.size h), fun i hi => ?_⟩
    obtain ⟨hun, o, ho, hall⟩ := mem_ready.1 hi
    obtain ⟨hl, hlt⟩ := not_listed hun
    obtain ⟨hg, hsel, hwt⟩ := T.free i o ho
    have hcount : (listed.setIfInBounds i true).toList.count false ≤ fuel := by have := unlisted_set hun; omega
    have hsee := I.sees T ho hall
    have hex : execOp a.eval o = execOp (fin n).eval o := execOp_congr o hsel hsee
    have hw : Region.wanted o (yielded ops a.tmps) = true := by simp [Region.wanted, hg]
    unfold wpOp
    simp only [ho, hw, if_true]
    left
    cases hk : k i with
    | plain =>
      have hv : val k v n i = v i := by simp [val, hk]
      have keep : ∀ w', Below w.heap.size w w' → Inv P md ops W0 a0 k v (listed.setIfInBounds i true) n (a.put o.dst (v i)) w' := by
        intro w' hb
        rw [← hv]
        refine I.next T ho hun hall (fun _ _ => rfl) (I.old.trans (hb.mono I.old.size)) ?_ ?_
        · intro i' ty z j cs hk' hl'
          have hli : listed.getD i' false = true := (set_or hl').resolve_left (fun e => by rw [e, hk] at hk'; cases hk')
          obtain ⟨o', ho'⟩ := I.at hli
          have hj : j ≠ i := fun e => by have := (T.make i' o' ty z j cs ho' hk').1; rw [e, hk] at this; cases this
          obtain ⟨b1, b2⟩ := I.blk i' ty z j cs hk' hli
          rw [getD_set_ne false (Ne.symm hj)]
          exact ⟨b1.below hb b1.inside, b2⟩
        · intro p q ty z j cs ty' z' j' cs' hp hq lp lq hne
          exact I.inj p q ty z j cs ty' z' j' cs' hp hq ((set_or lp).resolve_left (fun e => by rw [e, hk] at hp; cases hp)) ((set_or lq).resolve_left (fun e => by rw [e, hk] at hq; cases hq)) hne
      rcases T.plain i o ho hk n w I.old with h | ⟨f, args, h, hc'⟩
      · unfold Oper.wp
        rw [hex, h]
        exact ih _ n _ w (keep w (Below.refl _ _)) hcount
      · unfold Oper.wp
        rw [hex, h]
        refine hc'.mono ?_
        rintro e w' ⟨rfl, hb⟩
        exact ih _ n _ w' (keep w' hb) hcount
    | make ty z j cs =>
      obtain ⟨hkj, ⟨oj, hoj, ej, hej, hbj, honj⟩, hrun⟩ := T.make i o ty z j cs ho hk
      have hji : j ≠ i := fun e => by rw [e, hk] at hkj; cases hkj
      have hlj : listed.getD j false = false := by
        cases hh : listed.getD j false with
        | false => rfl
        | true =>
          have := I.closed j oj hoj hh ej hej hbj
          rw [honj, hl] at this
          cases this
      unfold Oper.wp
      rw [hrun]
      refine ih _ (fun m => if m = i then w.heap.size else n m) _ _ ?_ hcount
      have hv : val k v (fun m => if m = i then w.heap.size else n m) i = .pointer (some ⟨w.heap.size, 0, none⟩) := by simp [val, hk]
      rw [← hv]
      refine I.next T ho hun hall (fun m hm => by simp [hm]) (I.old.alloc I.old.size _) ?_ ?_
      · intro i' ty' z' j' cs' hk' hl'
        by_cases e : i' = i
        · subst e
          rw [hk] at hk'
          cases hk'
          rw [getD_set_ne false (Ne.symm hji), hlj]
          simpa using ⟨Whole.fresh w ty z, I.old.size⟩
        · have hli := (set_or hl').resolve_left e
          obtain ⟨o', ho'⟩ := I.at hli
          have hj' : j' ≠ i := fun e => by have := (T.make i' o' ty' z' j' cs' ho' hk').1; rw [e, hk] at this; cases this
          obtain ⟨b1, b2⟩ := I.blk i' ty' z' j' cs' hk' hli
          rw [getD_set_ne false (Ne.symm hj')]
          simp only [e, if_false]
          exact ⟨b1.alloc _, b2⟩
      · intro p q ty1 z1 j1 cs1 ty2 z2 j2 cs2 hp hq lp lq hne
        by_cases ep : p = i
        · have eq : q ≠ i := fun h => hne (ep.trans h.symm)
          have b := (I.blk q ty2 z2 j2 cs2 hq ((set_or lq).resolve_left eq)).1.inside
          simp [ep, eq]
          omega
        · by_cases eq : q = i
          · have b := (I.blk p ty1 z1 j1 cs1 hp ((set_or lp).resolve_left ep)).1.inside
            simp [ep, eq]
            omega
          · simp [ep, eq]
            exact I.inj p q ty1 z1 j1 cs1 ty2 z2 j2 cs2 hp hq ((set_or lp).resolve_left ep) ((set_or lq).resolve_left eq) hne
    | lay i0 =>
      obtain ⟨hdst, ty, z, cs, tys, d, y, hk0, hop, ⟨oi, hoi, hdi⟩, hy, hinfo, hzs, hone⟩ := T.lay i o i0 ho hk
      obtain ⟨-, ⟨oj, hoj, ej, hej, hbj, honj⟩, -⟩ := T.make i0 oi ty z i cs hoi hk0
      obtain rfl : o = oj := Option.some.inj (ho.symm.trans hoj)
      have hl0 : listed.getD i0 false = true := honj ▸ hall ej hej hbj
      obtain ⟨b1, b2⟩ := I.blk i0 ty z i cs hk0 hl0
      rw [hl] at b1
      simp only [Bool.false_eq_true, if_false] at b1
      have hx : a.eval (.tmp d) = .pointer (some ⟨n i0, 0, none⟩) := by
        have := I.agr.done i0 oi d hoi hdi hl0 (T.fits i0 oi d hoi hdi)
        show a.tmps.getD d undef = _
        rw [this]
        simp [val, hk0]
      have hyv : a.eval y = .agg cs := by
        rw [hsee y (by rw [hop]; simp [Op.operands]), hy n]
      refine wp_store_row tys (.tmp d) y hop (n i0) cs hx hyv ty z b1 hinfo hzs hone ?_
      have hp : a.put o.dst undef = a.put o.dst (val k v n i) := by rw [hdst]; rfl
      rw [hp]
      refine ih _ n _ _ (I.next T ho hun hall (fun _ _ => rfl) (below_setRow I.old b2 cs) ?_ ?_) hcount
      · intro i' ty' z' j' cs' hk' hl'
        have hli : listed.getD i' false = true := (set_or hl').resolve_left (fun e => by rw [e, hk] at hk'; cases hk')
        obtain ⟨o', ho'⟩ := I.at hli
        by_cases e : i' = i0
        · subst e
          rw [hk0] at hk'
          cases hk'
          rw [if_pos (getD_set_eq hlt)]
          exact ⟨b1.setRow cs, b2⟩
        · have hj' : j' ≠ i := fun h => by
            have := (T.make i' o' ty' z' j' cs' ho' hk').1
            rw [h, hk] at this
            cases this
            exact e rfl
          obtain ⟨c1, c2⟩ := I.blk i' ty' z' j' cs' hk' hli
          rw [getD_set_ne false (Ne.symm hj')]
          exact ⟨c1.past (I.inj i' i0 _ _ _ _ _ _ _ _ hk' hk0 hli hl0 e) cs, c2⟩
      · intro p q ty1 z1 j1 cs1 ty2 z2 j2 cs2 hp' hq' lp lq hne
        exact I.inj p q ty1 z1 j1 cs1 ty2 z2 j2 cs2 hp' hq' ((set_or lp).resolve_left (fun e => by rw [e, hk] at hp'; cases hp')) ((set_or lq).resolve_left (fun e => by rw [e, hk] at hq'; cases hq')) hne
theorem none_listed (m j : Nat) : (Array.replicate m false).getD j false = false := by
  rcases Nat.lt_or_ge j m with h | h
  · simp [h]
  · simp [h]
/-- **A region that draws its order**, by its table. -/
theorem region_table {id : Nat} {w : World} {fin : (Nat → Nat) → Act} {Q : Exit → Act → World → Prop} (hm : P.follows .mixedOrders = true) (T : Table P .any ops w.drew a0 k v fin)
    (hQ : ∀ n w', Below w.heap.size w w' → (∀ i ty z j cs, k i = .make ty z j cs → i < ops.size → j < ops.size → Whole w' (n i) ty cs ∧ w.heap.size ≤ n i) → Q .normal (fin n) w') : (Code.region id ops true).wp P Q a0 w := by
  refine wp_region_any hm (run_table T (fun n w' hb hk => hQ n w' ⟨hb.os, hb.tape, hb.output, hb.size, hb.block⟩ hk) _ _ (fun _ => 0) _ _ ⟨by simp, ?_, ⟨rfl, rfl, ?_, fun _ _ => rfl⟩, Below.refl _ _, ?_, ?_⟩ (by simp))
  · intro j oj _ hl
    rw [none_listed] at hl
    cases hl
  · intro i o t _ _ hl
    rw [none_listed] at hl
    cases hl
  · intro i ty z j cs _ hl
    rw [none_listed] at hl
    cases hl
  · intro p q _ _ _ _ _ _ _ _ _ _ hl
    rw [none_listed] at hl
    cases hl
end
end Go.Proofs.Ytbomlapmoiamgaa.region
