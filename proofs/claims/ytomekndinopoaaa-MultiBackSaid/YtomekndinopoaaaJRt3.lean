/-
  A region that draws its order, some operations of which are guarded ('&&', '||'), whose operations make memory at most.
  works: what a Multi tells of two times.
-/
import Derived.Test.YtomekndinopoaaaJMuP
import Derived.Test.YtomekndinopoaaaJMuN
namespace Go.Proofs.Ytomekndinopoaaa.region
open Go.RowKit Go.Proofs.Ytomekndinopoaaa.block

section
variable {P : Program} {ops : Array Oper} {md : Region.Mode} {a0 : Act}
def okG (ops : Array Oper) (N : Nat) : Bool := (List.range ops.size).all fun i =>
  match ops[i]? with
  | none => true
  | some o =>
    (match o.dst with
     | none => true
     | some t => (writes ops t).all (fun j => j == i) && decide (t < N)) &&
    (o.after.all fun e => !Region.binds .any e || decide (e.on < i)) &&
    (match o.guard with
     | none => true
     | some (j, _) => (o.after.any fun e => Region.binds .any e && e.on == j) && ((ops[j]?).bind (·.dst)).isSome) &&
    (match o.op with | .select .. => false | _ => true) &&
    (o.op.operands.all fun x => match x with
      | .tmp t => (writes ops t).all fun j => o.after.any fun e => Region.binds .any e && e.on == j
      | _ => true)
theorem okG_at {ops : Array Oper} {N : Nat} (h : okG ops N = true) {i : Nat} {o : Oper} (hi : ops[i]? = some o) :
    (∀ t, o.dst = some t → (∀ j ∈ writes ops t, j = i) ∧ t < N) ∧ (∀ e ∈ o.after, Region.binds .any e = true → e.on < i) ∧
    (∀ j b, o.guard = some (j, b) → (∃ e ∈ o.after, Region.binds .any e = true ∧ e.on = j) ∧ ∃ oj t, ops[j]? = some oj ∧ oj.dst = some t) ∧ (∀ cs b, o.op ≠ .select cs b) ∧
    (∀ t, .tmp t ∈ o.op.operands → ∀ j ∈ writes ops t, ∃ e ∈ o.after, Region.binds .any e = true ∧ e.on = j) := by
  have hlt : i < ops.size := (Array.getElem?_eq_some_iff.1 hi).1
  have h1 := List.all_eq_true.1 h i (List.mem_range.2 hlt)
  simp only [hi, Bool.and_eq_true] at h1
  obtain ⟨⟨⟨⟨a, b⟩, c⟩, d⟩, e⟩ := h1
  refine ⟨fun t ht => ?_, fun x hx hb => ?_, fun j bb hg => ?_, fun cs bb hh => ?_, fun t ht j hj => ?_⟩
  · simp only [ht, Bool.and_eq_true] at a
    exact ⟨fun j hj => by simpa using List.all_eq_true.1 a.1 j hj, by simpa using a.2⟩
  · have := Array.all_eq_true_iff_forall_mem.1 b x hx
    simpa [hb] using this
  · simp only [hg, Bool.and_eq_true] at c
    obtain ⟨x, hx, hb⟩ := Array.any_eq_true'.1 c.1
    simp only [Bool.and_eq_true, beq_iff_eq] at hb
    obtain ⟨t, ht⟩ := Option.isSome_iff_exists.1 c.2
    obtain ⟨oj, h1, h2⟩ := Option.bind_eq_some_iff.1 ht
    exact ⟨⟨x, hx, hb.1, hb.2⟩, oj, t, h1, h2⟩
  · rw [hh] at d
    cases d
  · have := Array.all_eq_true_iff_forall_mem.1 e (.tmp t) (by simpa using ht)
    have := List.all_eq_true.1 this j hj
    obtain ⟨x, hx, hb⟩ := Array.any_eq_true'.1 this
    simp only [Bool.and_eq_true, beq_iff_eq] at hb
    exact ⟨x, hx, hb.1, hb.2⟩
/-- It is wanted and does what it is asked, or it is skipped. -/
def Done (P : Program) (o : Oper) (v : Nat → Value) (ρ : Operand → Value) (w : World) (T : Value → World → Prop) : Prop :=
  ((∀ j b, o.guard = some (j, b) → v j = .bool b) ∧ Yields P o ρ w T) ∨ ∃ j b c, o.guard = some (j, b) ∧ v j = .bool c ∧ c ≠ b ∧ T undef w
structure GTable (P : Program) (md : Region.Mode) (ops : Array Oper) (W0 : World) (a0 : Act) (T : Nat → Value → World → Prop) (fin : (Nat → Value) → Act) : Prop where
  apart : Apart ops
  back : Back md ops
  free : ∀ (i : Nat) (o : Oper), ops[i]? = some o → (∀ j b, o.guard = some (j, b) → (∃ e ∈ o.after, Region.binds md e = true ∧ e.on = j) ∧ ∃ oj t, ops[j]? = some oj ∧ oj.dst = some t) ∧ (∀ cs b, o.op ≠ .select cs b) ∧ Waits md ops o
  fits : ∀ (i : Nat) (o : Oper) (t : Tmp), ops[i]? = some o → o.dst = some t → t < a0.tmps.size
  last : ∀ v, Agr ops v a0 (fin v) (Array.replicate ops.size true)
  keep : ∀ i u w w', Below w.heap.size w w' → T i u w → T i u w'
  tell : ∀ (i : Nat) (o : Oper), ops[i]? = some o → ∀ v w, Below W0.heap.size W0 w → (∀ e ∈ o.after, Region.binds md e = true → T e.on (v e.on) w) → Done P o v (fin v).eval w (T i)
structure GInv (md : Region.Mode) (ops : Array Oper) (W0 : World) (a0 : Act) (T : Nat → Value → World → Prop) (listed : Array Bool) (v : Nat → Value) (a : Act) (w : World) : Prop where
  size : listed.size = ops.size
  agr : Agr ops v a0 a listed
  old : Below W0.heap.size W0 w
  holds : ∀ i, listed.getD i false = true → T i (v i) w
theorem GInv.sees {W0 w : World} {T : Nat → Value → World → Prop} {fin : (Nat → Value) → Act} {listed : Array Bool} {v : Nat → Value} {a : Act} {i : Nat} {o : Oper} (R : GTable P md ops W0 a0 T fin) (I : GInv md ops W0 a0 T listed v a w)
    (hi : ops[i]? = some o) (hall : ∀ e ∈ o.after, Region.binds md e = true → listed.getD e.on false = true) : ∀ x ∈ o.op.operands, a.eval x = (fin v).eval x := by
  intro x hx
  cases x with
  | tmp t =>
    show a.tmps.getD t undef = (fin v).tmps.getD t undef
    have L := R.last v
    have lt : ∀ {i : Nat} {o : Oper}, ops[i]? = some o → i < ops.size := fun hi => (Array.getElem?_eq_some_iff.1 hi).1
    by_cases hw : ∃ (j : Nat) (oj : Oper), ops[j]? = some oj ∧ oj.dst = some t
    · obtain ⟨j, oj, hj, hd⟩ := hw
      obtain ⟨e, he, hb, hon⟩ := (R.free i o hi).2.2 t (by simpa using hx) j oj hj hd
      have hlj : listed.getD j false = true := hon ▸ hall e he hb
      rw [I.agr.done j oj t hj hd hlj (R.fits j oj t hj hd), L.done j oj t hj hd (by simp [lt hj]) (R.fits j oj t hj hd)]
    · rw [I.agr.rest t fun i o hi _ hd => hw ⟨i, o, hi, hd⟩, L.rest t fun i o hi _ hd => hw ⟨i, o, hi, hd⟩]
  | _ => rfl
theorem GInv.next {W0 w w' : World} {T : Nat → Value → World → Prop} {fin : (Nat → Value) → Act} {listed : Array Bool} {v : Nat → Value} {a : Act} {i : Nat} {o : Oper} {u : Value} (R : GTable P md ops W0 a0 T fin) (I : GInv md ops W0 a0 T listed v a w)
    (hi : ops[i]? = some o) (hun : listed.getD i true = false) (hb : Below w.heap.size w w') (ht : T i u w') :
    GInv md ops W0 a0 T (listed.setIfInBounds i true) (fun j => if j = i then u else v j) (a.put o.dst u) w' := by
  obtain ⟨hl, hlt⟩ := not_listed hun
  refine ⟨by simpa using I.size, ?_, I.old.trans (hb.mono I.old.size), fun j hj => ?_⟩
  · have := I.agr.step (u' := fun j => if j = i then u else v j) R.apart hi hlt fun j hj => by
      have : j ≠ i := fun e => by rw [e, hl] at hj; cases hj
      simp [this]
    simpa using this
  · by_cases e : j = i
    · subst e
      simpa using ht
    · simp only [e, if_false]
      exact R.keep j _ _ _ hb (I.holds j ((set_or hj).resolve_left e))
theorem run_guards {W0 : World} {T : Nat → Value → World → Prop} {fin : (Nat → Value) → Act} {Q : Exit → Act → World → Prop} (R : GTable P md ops W0 a0 T fin)
    (hQ : ∀ v w, Below W0.heap.size W0 w → (∀ i, i < ops.size → T i (v i) w) → Q .normal (fin v) w) :
    ∀ (fuel : Nat) (listed : Array Bool) (v : Nat → Value) (a : Act) (w : World), GInv md ops W0 a0 T listed v a w → listed.toList.count false ≤ fuel → wpAny P md ops Q fuel listed a w := by
  have ends : ∀ (listed : Array Bool) (v : Nat → Value) (a : Act) (w : World), GInv md ops W0 a0 T listed v a w → (∀ i, i < ops.size → listed.getD i false = true) → Q .normal a w := by
    intro listed v a w I h
    have e : a = fin v := I.agr.all (R.last v) h (fun i hi => by simp [hi])
    rw [e]
    exact hQ v w I.old fun i hi => I.holds i (h i hi)
  intro fuel
  induction fuel with
  | zero =>
    intro listed v a w I hc
    have hall : ∀ i, i < ops.size → listed.getD i false = true := by
      intro i hi
      have h0 : false ∉ listed.toList := List.count_eq_zero.1 (Nat.le_zero.1 hc)
      have hi' : i < listed.size := by rw [I.size]; exact hi
      cases hv : listed.getD i false with
      | true => rfl
      | false =>
        have : listed[i] = false := by simpa [hi'] using hv
        exact absurd (this ▸ Array.getElem_mem_toList hi') h0
    refine ⟨List.eq_nil_iff_forall_not_mem.2 fun i hi => ?_, ends _ v _ _ I hall⟩
    obtain ⟨hun, o, ho, -⟩ := mem_ready.1 hi
    have := hall i (Array.getElem?_eq_some_iff.1 ho).1
    rw [(not_listed hun).1] at this
    cases this
  | succ fuel ih =>
    intro listed v a w I hc
    refine ⟨fun h => ends _ v _ _ I (all_listed R.back I.size h), fun i hi => ?_⟩
    obtain ⟨hun, o, ho, hall⟩ := mem_ready.1 hi
    obtain ⟨hg, hsel, hwt⟩ := R.free i o ho
    have hcount : (listed.setIfInBounds i true).toList.count false ≤ fuel := by have := unlisted_set hun; omega
    have hex : execOp a.eval o = execOp (fin v).eval o := execOp_congr o hsel (I.sees R ho hall)
    have hyd : ∀ j b, o.guard = some (j, b) → ∀ c, v j = .bool c → yielded ops a.tmps j = some c := by
      intro j b hgd c hv
      obtain ⟨⟨e, he, hbd, hon⟩, oj, t, hoj, hdt⟩ := hg j b hgd
      have hl : listed.getD j false = true := hon ▸ hall e he hbd
      have hfit := R.fits j oj t hoj hdt
      have hval := I.agr.done j oj t hoj hdt hl hfit
      have hsz : t < a.tmps.size := by rw [I.agr.size]; exact hfit
      unfold yielded
      simp only [hoj, hdt, Option.bind_some]
      have : a.tmps[t]? = some (.bool c) := by
        rw [hv] at hval
        simpa [hsz] using hval
      rw [this]
    rcases R.tell i o ho v w I.old (fun e he hb => I.holds _ (hall e he hb)) with ⟨hgw, hY⟩ | ⟨j, b, c, hgd, hv, hne, ht⟩
    rotate_left
    · have hw : Region.wanted o (yielded ops a.tmps) = false := by
        have := hyd j b hgd c hv
        simp [Region.wanted, hgd, this, hne]
      unfold wpOp
      simp only [ho, hw, Bool.false_eq_true, if_false]
      exact ih _ _ _ w (I.next R ho hun (Below.refl _ _) ht) hcount
    have hw : Region.wanted o (yielded ops a.tmps) = true := by
      cases hgd : o.guard with
      | none => simp [Region.wanted, hgd]
      | some p =>
        obtain ⟨j, b⟩ := p
        have := hyd j b hgd b (hgw j b hgd)
        simp [Region.wanted, hgd, this]
    unfold wpOp
    simp only [ho, hw, if_true]
    left
    rcases hY with ⟨u, w', h, hb, ht⟩ | ⟨f, args, h, hc'⟩
    · unfold Oper.wp
      rw [hex, h]
      exact ih _ _ _ w' (I.next R ho hun hb ht) hcount
    · unfold Oper.wp
      rw [hex, h]
      refine hc'.mono ?_
      rintro e w' ⟨u, rfl, hb, ht⟩
      exact ih _ _ _ w' (I.next R ho hun hb ht) hcount
/-- What is asked of the operations of a list, one by one; what an operation waits for is told by its place. -/
def TellG (P : Program) (W0 : World) (T : Nat → Value → World → Prop) (fin : (Nat → Value) → Act) : List Oper → Nat → Prop
  | [], _ => True
  | o :: l, i => (∀ v w, Below W0.heap.size W0 w → (∀ j, (o.after.any fun e => Region.binds .any e && e.on == j) = true → T j (v j) w) → Done P o v (fin v).eval w (T i)) ∧ TellG P W0 T fin l (i + 1)
theorem tellG_at {W0 : World} {T : Nat → Value → World → Prop} {fin : (Nat → Value) → Act} : ∀ (l : List Oper) (i : Nat), TellG P W0 T fin l i → ∀ (j : Nat) (o : Oper), l[j]? = some o → ∀ v w, Below W0.heap.size W0 w →
    (∀ e ∈ o.after, Region.binds .any e = true → T e.on (v e.on) w) → Done P o v (fin v).eval w (T (i + j))
  | [], _, _, j, o, h => by simp at h
  | o :: l, i, h, 0, o', h' => by
    obtain rfl : o = o' := by simpa using h'
    intro v w hb he
    refine h.1 v w hb fun j hj => ?_
    obtain ⟨e, hm, hh⟩ := Array.any_eq_true'.1 hj
    simp only [Bool.and_eq_true, beq_iff_eq] at hh
    exact hh.2 ▸ he e hm hh.1
  | o :: l, i, h, j + 1, o', h' => by
    have := tellG_at l (i + 1) h.2 j o' (by simpa using h')
    rwa [show i + 1 + j = i + (j + 1) by omega] at this
/-- **A region that draws its order**: each operation's value is of its kind, whatever the order. -/
theorem region_guard {id : Nat} {l : List Oper} {w : World} (N : Nat) (T : Nat → Value → World → Prop) {Q : Exit → Act → World → Prop} (hm : P.follows .mixedOrders = true)
    (hN : a0.tmps.size = N) (hok : okG l.toArray N = true) (hkeep : ∀ i u w w', Below w.heap.size w w' → T i u w → T i u w')
    (h : ∀ fin : (Nat → Value) → Act, (∀ v, fin v = lexPut v l 0 a0) → TellG P w T fin l 0 ∧ ∀ v w', Below w.heap.size w w' → (∀ i, i < l.length → T i (v i) w') → Q .normal (fin v) w') :
    (Code.region id l.toArray true).wp P Q a0 w := by
  obtain ⟨h1, h2⟩ := h (fun v => lexPut v l 0 a0) (fun _ => rfl)
  have hap : Apart l.toArray := fun i j o o' t hi hj hd hd' => by
    have := ((okG_at hok hi).1 t hd).1 j (mem_writes hj hd')
    exact this.symm
  have R : GTable P .any l.toArray w.drew a0 T (fun v => lexPut v l 0 a0) := by
    refine ⟨hap, fun i o hi => (okG_at hok hi).2.1, fun i o hi => ⟨(okG_at hok hi).2.2.1, (okG_at hok hi).2.2.2.1, fun t ht j oj hj hd => (okG_at hok hi).2.2.2.2 t ht j (mem_writes hj hd)⟩,
      fun i o t hi hd => by rw [hN]; exact ((okG_at hok hi).1 t hd).2, fun v => lexPut_last hap, hkeep, ?_⟩
    intro i o hi v w' hb he
    have := tellG_at l 0 h1 i o (by simpa using hi) v w' ⟨hb.os, hb.tape, hb.output, hb.size, hb.block⟩ he
    simpa using this
  refine wp_region_any hm (run_guards R (fun v w' hb hv => h2 v w' ⟨hb.os, hb.tape, hb.output, hb.size, hb.block⟩ (fun i hi => hv i (by simpa using hi))) _ _ (fun _ => undef) _ _ ⟨by simp, ⟨rfl, rfl, ?_, fun _ _ => rfl⟩, Below.refl _ _, ?_⟩ (by simp))
  · intro i o t _ _ hl
    rw [none_listed] at hl
    cases hl
  · intro i hl
    rw [none_listed] at hl
    cases hl
/-- The same, the kinds by a list. -/
theorem region_want {id : Nat} {l : List Oper} {w : World} (N : Nat) (T : List (Value → World → Prop)) {Q : Exit → Act → World → Prop} (hm : P.follows .mixedOrders = true)
    (hN : a0.tmps.size = N) (hok : okG l.toArray N = true) (hkeep : KeepAll T)
    (h : ∀ fin : (Nat → Value) → Act, (∀ v, fin v = lexPut v l 0 a0) → TellG P w (At T) fin l 0 ∧ ∀ v w', Below w.heap.size w w' → (∀ i, i < l.length → At T i (v i) w') → Q .normal (fin v) w') :
    (Code.region id l.toArray true).wp P Q a0 w := region_guard N (At T) hm hN hok (keepAll_at hkeep) h
theorem done_plain {o : Oper} {v : Nat → Value} {ρ : Operand → Value} {w : World} {T : Value → World → Prop} (hg : o.guard = none) (h : Yields P o ρ w T) : Done P o v ρ w T := .inl ⟨fun j b e => (by rw [hg] at e; cases e), h⟩
theorem done_want {o : Oper} {v : Nat → Value} {ρ : Operand → Value} {w : World} {T : Value → World → Prop} (j : Nat) (b : Bool) (hg : o.guard = some (j, b)) (hv : v j = .bool b) (h : Yields P o ρ w T) : Done P o v ρ w T := .inl ⟨fun j' b' e => (by rw [hg] at e; cases e; exact hv), h⟩
end
end Go.Proofs.Ytomekndinopoaaa.region
namespace Go.Proofs.Ytomekndinopoaaa.multi
open Go.ChangeShapes Go.WideShapes Go.ChangeAt Go.RowKit
open Go.Proofs.Ytomekndinopoaaa.region
open Go.Proofs.Ytomekndinopoaaa.tm Go.Proofs.Ytomekndinopoaaa.opened Go.Proofs.Ytomekndinopoaaa.block Go.Proofs.Ytomekndinopoaaa.stamp Go.Proofs.Ytomekndinopoaaa.chain

/-- A row of one. -/
def One1 : Value → World → Prop := fun u _ => ∃ B c, u = .slice B 1 c
theorem keeps_one : Keeps One1 := fun _ _ _ _ h => h
set_option maxRecDepth 100000 in
set_option maxHeartbeats 4000000 in
theorem works_any (w : World) : Calls Try.prog 28 #[] w fun e w' => e = .returned (.bool true) ∧ Below w.heap.size w w' := by
  have hN := Lib.hid (new_good 0 (by decide) (by decide) w)
  go_enter Try.func28, Try.ntmps28
  go_upto_region 5 with ((go_at_call 8; refine hN.out.mono ?_; rintro e W1 ⟨g, b, rfl, h1, b1, hg1, hb1⟩; have H1 := Lib.hid h1; have B1 := Lib.hid b1; have HG := Lib.hid (And.intro hg1 hb1); clear h1 b1 hg1 hb1))
  have S1 : Hid (Sta w ((W1.alloc (.cells #[.int .u32 tz.e, .int .i64 tz.d, .int .u32 tz.a, .int .u32 tz.b, .int .u32 tz.c] 33)).alloc (.cells #[.int .u32 t1.e, .int .i64 t1.d, .int .u32 t1.a, .int .u32 t1.b, .int .u32 t1.c] 33)) g b W1.heap.size 0 none [] []) := Lib.hid (by
    have hb2 := (fresh1 W1 (.cells #[.int .u32 tz.e, .int .i64 tz.d, .int .u32 tz.a, .int .u32 tz.b, .int .u32 tz.c] 33)).trans ((fresh1 (W1.alloc (.cells #[.int .u32 tz.e, .int .i64 tz.d, .int .u32 tz.a, .int .u32 tz.b, .int .u32 tz.c] 33)) (.cells #[.int .u32 t1.e, .int .i64 t1.d, .int .u32 t1.a, .int .u32 t1.b, .int .u32 t1.c] 33)).mono (by simp))
    have oz := Whole.fresh W1 33 #[.int .u32 tz.e, .int .i64 tz.d, .int .u32 tz.a, .int .u32 tz.b, .int .u32 tz.c]
    have oo := Whole.fresh (W1.alloc (.cells #[.int .u32 tz.e, .int .i64 tz.d, .int .u32 tz.a, .int .u32 tz.b, .int .u32 tz.c] 33)) 33 #[.int .u32 t1.e, .int .i64 t1.d, .int .u32 t1.a, .int .u32 t1.b, .int .u32 t1.c]
    rw [size_alloc] at oo
    exact ⟨H1.out.below hb2, oz.below (fresh1 _ _) oz.inside, oo, B1.out.trans (hb2.mono B1.out.size), HG.out.1, HG.out.2, H1.out.cells.inside, H1.out.own.lt⟩)
  change Code.wp _ _ _ _ ((W1.alloc (.cells #[.int .u32 tz.e, .int .i64 tz.d, .int .u32 tz.a, .int .u32 tz.b, .int .u32 tz.c] 33)).alloc (.cells #[.int .u32 t1.e, .int .i64 t1.d, .int .u32 t1.a, .int .u32 t1.b, .int .u32 t1.c] 33))
  generalize (W1.alloc (.cells #[.int .u32 tz.e, .int .i64 tz.d, .int .u32 tz.a, .int .u32 tz.b, .int .u32 tz.c] 33)).alloc (.cells #[.int .u32 t1.e, .int .i64 t1.d, .int .u32 t1.a, .int .u32 t1.b, .int .u32 t1.c] 33) = W2 at S1 ⊢
  generalize W1.heap.size = z at S1 ⊢
  clear H1 B1 HG hN
  have E1 := run_eqT tz tz
  have E2 := run_eqT t1 t1
  obtain ⟨zc, zf⟩ := path.all_of S1.out.zz
  obtain ⟨oc, of⟩ := path.all_of S1.out.oo
  go_upto_region 7 with ((go_at_call 10; first
    | (with_reducible refine (c1 _ S1.out.m).mono ?_; rintro e W3 ⟨rfl, h3, k3⟩; have S2 := Lib.hid (S1.out.add h3 k3); clear h3 k3; clear zc zf oc of; obtain ⟨zc, zf⟩ := path.all_of S2.out.zz; obtain ⟨oc, of⟩ := path.all_of S2.out.oo)
    | (with_reducible refine (c2 _ S2.out.m).mono ?_; rintro e W4 ⟨rfl, h4, k4⟩; have S3 := Lib.hid (S2.out.add h4 k4); clear h4 k4; clear zc zf oc of; obtain ⟨zc, zf⟩ := path.all_of S3.out.zz; obtain ⟨oc, of⟩ := path.all_of S3.out.oo)))
  go_upto_region 10 with (first
    | (go_at_call 12; refine (m1 _ S3.out.m).mono ?_; rintro e W5 ⟨D1, d1, p2, q2, d2, B5, d5, rfl, l5, h5, k5⟩; have S4 := Lib.hid (S3.out.moves h5 k5); have L4 := Lib.hid l5; clear l5 h5 k5; clear zc zf oc of; obtain ⟨zc, zf⟩ := path.all_of S4.out.zz; obtain ⟨oc, of⟩ := path.all_of S4.out.oo)
    | (go_at_call 10; refine (c3 _ S4.out.m).mono ?_; rintro e W6 ⟨rfl, h6, k6⟩; have S5 := Lib.hid (S4.out.add h6 k6); have L5 := Lib.hid (S4.out.rowA L4.out k6); clear h6 k6; clear zc zf oc of; obtain ⟨zc, zf⟩ := path.all_of S5.out.zz; obtain ⟨oc, of⟩ := path.all_of S5.out.oo))
  go_upto_region 11 with ((go_at_call 12; refine (m2 _ S5.out.m).mono ?_; rintro e W7 ⟨p3, q3, d3, p4, q4, d4, B7, d7, rfl, l7, n7, h7, k7⟩; have S6 := Lib.hid (S5.out.moves h7 k7); have L6 := Lib.hid (S5.out.rowM L5.out k7); have LC := Lib.hid l7; have LD := Lib.hid n7; clear l7 n7 h7 k7; clear zc zf oc of; obtain ⟨zc, zf⟩ := path.all_of S6.out.zz; obtain ⟨oc, of⟩ := path.all_of S6.out.oo))
  clear zc zf oc of E1 E2
  refine region_want 120 [Is (.slice D1 0 d1), Is (.int .i64 0), Is (.bool true), Is (.bool true), Is (.slice (some ⟨p2, q2, none⟩) 1 d2), Is (.int .i64 1), Is (.bool true), Is (.bool true), Is (.bool true), Is (.slice (some ⟨p2, q2, none⟩) 1 d2), Is (.pointer (some ⟨p2, q2, none⟩)), Is (.agg #[.int .u32 tz.e, .int .i64 tz.d, .int .u32 tz.a, .int .u32 tz.b, .int .u32 tz.c]), Is (.agg #[.int .u32 tz.e, .int .i64 tz.d, .int .u32 tz.a, .int .u32 tz.b, .int .u32 tz.c]), Is (.bool true), Is (.bool true), Is (.bool true), Is (.int .i64 0), Is (.bool true), Is (.bool true), Is (.bool true), Is (.slice (some ⟨p3, q3, none⟩) 1 d3), Is (.int .i64 1), Is (.bool true), Is (.bool true), Is (.bool true), Is (.slice (some ⟨p3, q3, none⟩) 1 d3), Is (.pointer (some ⟨p3, q3, none⟩)), Is (.agg #[.int .u32 tz.e, .int .i64 tz.d, .int .u32 tz.a, .int .u32 tz.b, .int .u32 tz.c]), Is (.agg #[.int .u32 tz.e, .int .i64 tz.d, .int .u32 tz.a, .int .u32 tz.b, .int .u32 tz.c]), Is (.bool true), Is (.bool true), Is (.bool true), Is (.slice (some ⟨p4, q4, none⟩) 1 d4), Is (.int .i64 1), Is (.bool true), Is (.bool true), Is (.bool true), Is (.slice (some ⟨p4, q4, none⟩) 1 d4), Is (.pointer (some ⟨p4, q4, none⟩)), Is (.agg #[.int .u32 t1.e, .int .i64 t1.d, .int .u32 t1.a, .int .u32 t1.b, .int .u32 t1.c]), Is (.agg #[.int .u32 t1.e, .int .i64 t1.d, .int .u32 t1.a, .int .u32 t1.b, .int .u32 t1.c]), Is (.bool true), Is (.bool true), Is (.bool true), Is (.int .i64 0), Is (.bool true), Is (.bool true), Is (.bool true), Is (.pointer (some ⟨g, 0, none⟩)), Is (.agg #[.int .u32 t1.e, .int .i64 t1.d, .int .u32 t1.a, .int .u32 t1.b, .int .u32 t1.c]), Is (.int .i64 1), Is (.bool true), Is (.bool true), Is (.bool true), Is (.pointer (some ⟨g, 0, none⟩)), Is (.agg #[.int .u32 tz.e, .int .i64 tz.d, .int .u32 tz.a, .int .u32 tz.b, .int .u32 tz.c]), Is (.int .i64 0), Is (.bool true), Is (.bool true), Is (.bool true), Is (.pointer (some ⟨g, 0, none⟩)), One1, Is (.int .i64 1), Is (.bool true), Is (.bool true), Is (.bool true), Is (.pointer (some ⟨g, 0, none⟩)), Is (.agg #[.int .u32 tq.e, .int .i64 tq.d, .int .u32 tq.a, .int .u32 tq.b, .int .u32 tq.c]), Is (.int .i64 10), Is (.bool true), Is (.bool true), Is (.bool true)] (by kernel_rfl) rfl (by kernel_rfl) ?_ ?_
  · exact ⟨keeps_is _, keeps_is _, keeps_is _, keeps_is _, keeps_is _, keeps_is _, keeps_is _, keeps_is _, keeps_is _, keeps_is _, keeps_is _, keeps_is _, keeps_is _, keeps_is _, keeps_is _, keeps_is _, keeps_is _, keeps_is _, keeps_is _, keeps_is _, keeps_is _, keeps_is _, keeps_is _, keeps_is _, keeps_is _, keeps_is _, keeps_is _, keeps_is _, keeps_is _, keeps_is _, keeps_is _, keeps_is _, keeps_is _, keeps_is _, keeps_is _, keeps_is _, keeps_is _, keeps_is _, keeps_is _, keeps_is _, keeps_is _, keeps_is _, keeps_is _, keeps_is _, keeps_is _, keeps_is _, keeps_is _, keeps_is _, keeps_is _, keeps_is _, keeps_is _, keeps_is _, keeps_is _, keeps_is _, keeps_is _, keeps_is _, keeps_is _, keeps_is _, keeps_is _, keeps_is _, keeps_is _, keeps_one, keeps_is _, keeps_is _, keeps_is _, keeps_is _, keeps_is _, keeps_is _, keeps_is _, keeps_is _, keeps_is _, keeps_is _, trivial⟩
  · intro fin hfin
    simp [lexPut, Act.put] at hfin
    refine ⟨⟨?_, ?_, ?_, ?_, ?_, ?_, ?_, ?_, ?_, ?_, ?_, ?_, ?_, ?_, ?_, ?_, ?_, ?_, ?_, ?_, ?_, ?_, ?_, ?_, ?_, ?_, ?_, ?_, ?_, ?_, ?_, ?_, ?_, ?_, ?_, ?_, ?_, ?_, ?_, ?_, ?_, ?_, ?_, ?_, ?_, ?_, ?_, ?_, ?_, ?_, ?_, ?_, ?_, ?_, ?_, ?_, ?_, ?_, ?_, ?_, ?_, ?_, ?_, ?_, ?_, ?_, ?_, ?_, ?_, ?_, ?_, ?_, trivial⟩, ?_⟩
    · intro v w2 hb hd
      exact done_plain rfl (yields_is (tells_move rfl (by rw [hfin]; rfl)) hb)
    · intro v w2 hb hd
      have h0 : v 0 = _ := hd 0 (by kernel_rfl)
      refine done_plain rfl (yields_run (u := .int .i64 0) (w' := w2) ?_ (Below.refl _ _) rfl)
      rw [hfin]
      unfold execOp
      simp [go_sem, Act.eval, h0]
    · intro v w2 hb hd
      have h1 : v 1 = _ := hd 1 (by kernel_rfl)
      refine done_plain rfl (yields_run (u := .bool true) (w' := w2) ?_ (Below.refl _ _) rfl)
      rw [hfin]
      unfold execOp
      simp [go_sem, Act.eval, h1]
    · intro v w2 hb hd
      have h2 : v 2 = _ := hd 2 (by kernel_rfl)
      exact done_plain rfl (yields_is (tells_move rfl (by rw [hfin]; exact h2)) hb)
    · intro v w2 hb hd
      exact done_want 3 true rfl (hd 3 (by kernel_rfl)) (yields_is (tells_move rfl (by rw [hfin]; rfl)) hb)
    · intro v w2 hb hd
      have h4 : v 4 = _ := hd 4 (by kernel_rfl)
      refine done_want 3 true rfl (hd 3 (by kernel_rfl)) (yields_run (u := .int .i64 1) (w' := w2) ?_ (Below.refl _ _) rfl)
      rw [hfin]
      unfold execOp
      simp [go_sem, Act.eval, h4]
    · intro v w2 hb hd
      have h5 : v 5 = _ := hd 5 (by kernel_rfl)
      refine done_want 3 true rfl (hd 3 (by kernel_rfl)) (yields_run (u := .bool true) (w' := w2) ?_ (Below.refl _ _) rfl)
      rw [hfin]
      unfold execOp
      simp [go_sem, Act.eval, h5]
    · intro v w2 hb hd
      have h3 : v 3 = _ := hd 3 (by kernel_rfl)
      have h6 : v 6 = _ := hd 6 (by kernel_rfl)
      refine done_plain rfl (yields_run (u := .bool true) (w' := w2) ?_ (Below.refl _ _) rfl)
      rw [hfin]
      unfold execOp
      simp [go_sem, Act.eval, h3, h6]
    · intro v w2 hb hd
      have h7 : v 7 = _ := hd 7 (by kernel_rfl)
      exact done_plain rfl (yields_is (tells_move rfl (by rw [hfin]; exact h7)) hb)
    · intro v w2 hb hd
      exact done_want 8 true rfl (hd 8 (by kernel_rfl)) (yields_is (tells_move rfl (by rw [hfin]; rfl)) hb)
    · intro v w2 hb hd
      have h9 : v 9 = _ := hd 9 (by kernel_rfl)
      refine done_want 8 true rfl (hd 8 (by kernel_rfl)) (yields_run (u := .pointer (some ⟨p2, q2, none⟩)) (w' := w2) ?_ (Below.refl _ _) rfl)
      rw [hfin]
      unfold execOp
      simp [go_sem, Act.eval, h9]
    · intro v w2 hb hd
      have h10 : v 10 = _ := hd 10 (by kernel_rfl)
      obtain ⟨a0, a1, a2, a3, a4⟩ := lt_cells (L6.out.below hb)
      refine done_want 8 true rfl (hd 8 (by kernel_rfl)) (yields_run (u := .agg #[.int .u32 tz.e, .int .i64 tz.d, .int .u32 tz.a, .int .u32 tz.b, .int .u32 tz.c]) (w' := w2) ?_ (Below.refl _ _) rfl)
      rw [hfin]
      unfold execOp
      simp [go_sem, Act.eval, h10, a0, a1, a2, a3, a4]
    · intro v w2 hb hd
      exact done_want 8 true rfl (hd 8 (by kernel_rfl)) (yields_is (W0 := w2) (tells_load rfl (by rw [hfin]; rfl) (S6.out.later hb).zz Try.underlying33 rfl (by kernel_rfl)) (Below.refl _ _))
    · intro v w2 hb hd
      have h11 : v 11 = _ := hd 11 (by kernel_rfl)
      have h12 : v 12 = _ := hd 12 (by kernel_rfl)
      refine done_want 8 true rfl (hd 8 (by kernel_rfl)) (yields_run (u := .bool true) (w' := w2) ?_ (Below.refl _ _) rfl)
      rw [hfin]
      unfold execOp
      simp [go_sem, Act.eval, h11, h12, run_eqT tz tz, show eqT tz tz = true from by decide]
    · intro v w2 hb hd
      have h8 : v 8 = _ := hd 8 (by kernel_rfl)
      have h13 : v 13 = _ := hd 13 (by kernel_rfl)
      refine done_plain rfl (yields_run (u := .bool true) (w' := w2) ?_ (Below.refl _ _) rfl)
      rw [hfin]
      unfold execOp
      simp [go_sem, Act.eval, h8, h13]
    · intro v w2 hb hd
      have h14 : v 14 = _ := hd 14 (by kernel_rfl)
      exact done_plain rfl (yields_is (tells_move rfl (by rw [hfin]; exact h14)) hb)
    · intro v w2 hb hd
      exact done_want 15 true rfl (hd 15 (by kernel_rfl)) (yields_is (tells_move rfl (by rw [hfin]; rfl)) hb)
    · intro v w2 hb hd
      have h16 : v 16 = _ := hd 16 (by kernel_rfl)
      refine done_want 15 true rfl (hd 15 (by kernel_rfl)) (yields_run (u := .bool true) (w' := w2) ?_ (Below.refl _ _) rfl)
      rw [hfin]
      unfold execOp
      simp [go_sem, Act.eval, h16]
    · intro v w2 hb hd
      have h15 : v 15 = _ := hd 15 (by kernel_rfl)
      have h17 : v 17 = _ := hd 17 (by kernel_rfl)
      refine done_plain rfl (yields_run (u := .bool true) (w' := w2) ?_ (Below.refl _ _) rfl)
      rw [hfin]
      unfold execOp
      simp [go_sem, Act.eval, h15, h17]
    · intro v w2 hb hd
      have h18 : v 18 = _ := hd 18 (by kernel_rfl)
      exact done_plain rfl (yields_is (tells_move rfl (by rw [hfin]; exact h18)) hb)
    · intro v w2 hb hd
      exact done_want 19 true rfl (hd 19 (by kernel_rfl)) (yields_is (tells_move rfl (by rw [hfin]; rfl)) hb)
    · intro v w2 hb hd
      have h20 : v 20 = _ := hd 20 (by kernel_rfl)
      refine done_want 19 true rfl (hd 19 (by kernel_rfl)) (yields_run (u := .int .i64 1) (w' := w2) ?_ (Below.refl _ _) rfl)
      rw [hfin]
      unfold execOp
      simp [go_sem, Act.eval, h20]
    · intro v w2 hb hd
      have h21 : v 21 = _ := hd 21 (by kernel_rfl)
      refine done_want 19 true rfl (hd 19 (by kernel_rfl)) (yields_run (u := .bool true) (w' := w2) ?_ (Below.refl _ _) rfl)
      rw [hfin]
      unfold execOp
      simp [go_sem, Act.eval, h21]
    · intro v w2 hb hd
      have h19 : v 19 = _ := hd 19 (by kernel_rfl)
      have h22 : v 22 = _ := hd 22 (by kernel_rfl)
      refine done_plain rfl (yields_run (u := .bool true) (w' := w2) ?_ (Below.refl _ _) rfl)
      rw [hfin]
      unfold execOp
      simp [go_sem, Act.eval, h19, h22]
    · intro v w2 hb hd
      have h23 : v 23 = _ := hd 23 (by kernel_rfl)
      exact done_plain rfl (yields_is (tells_move rfl (by rw [hfin]; exact h23)) hb)
    · intro v w2 hb hd
      exact done_want 24 true rfl (hd 24 (by kernel_rfl)) (yields_is (tells_move rfl (by rw [hfin]; rfl)) hb)
    · intro v w2 hb hd
      have h25 : v 25 = _ := hd 25 (by kernel_rfl)
      refine done_want 24 true rfl (hd 24 (by kernel_rfl)) (yields_run (u := .pointer (some ⟨p3, q3, none⟩)) (w' := w2) ?_ (Below.refl _ _) rfl)
      rw [hfin]
      unfold execOp
      simp [go_sem, Act.eval, h25]
    · intro v w2 hb hd
      have h26 : v 26 = _ := hd 26 (by kernel_rfl)
      obtain ⟨a0, a1, a2, a3, a4⟩ := lt_cells (LC.out.below hb)
      refine done_want 24 true rfl (hd 24 (by kernel_rfl)) (yields_run (u := .agg #[.int .u32 tz.e, .int .i64 tz.d, .int .u32 tz.a, .int .u32 tz.b, .int .u32 tz.c]) (w' := w2) ?_ (Below.refl _ _) rfl)
      rw [hfin]
      unfold execOp
      simp [go_sem, Act.eval, h26, a0, a1, a2, a3, a4]
    · intro v w2 hb hd
      exact done_want 24 true rfl (hd 24 (by kernel_rfl)) (yields_is (W0 := w2) (tells_load rfl (by rw [hfin]; rfl) (S6.out.later hb).zz Try.underlying33 rfl (by kernel_rfl)) (Below.refl _ _))
    · intro v w2 hb hd
      have h27 : v 27 = _ := hd 27 (by kernel_rfl)
      have h28 : v 28 = _ := hd 28 (by kernel_rfl)
      refine done_want 24 true rfl (hd 24 (by kernel_rfl)) (yields_run (u := .bool true) (w' := w2) ?_ (Below.refl _ _) rfl)
      rw [hfin]
      unfold execOp
      simp [go_sem, Act.eval, h27, h28, run_eqT tz tz, show eqT tz tz = true from by decide]
    · intro v w2 hb hd
      have h24 : v 24 = _ := hd 24 (by kernel_rfl)
      have h29 : v 29 = _ := hd 29 (by kernel_rfl)
      refine done_plain rfl (yields_run (u := .bool true) (w' := w2) ?_ (Below.refl _ _) rfl)
      rw [hfin]
      unfold execOp
      simp [go_sem, Act.eval, h24, h29]
    · intro v w2 hb hd
      have h30 : v 30 = _ := hd 30 (by kernel_rfl)
      exact done_plain rfl (yields_is (tells_move rfl (by rw [hfin]; exact h30)) hb)
    · intro v w2 hb hd
      exact done_want 31 true rfl (hd 31 (by kernel_rfl)) (yields_is (tells_move rfl (by rw [hfin]; rfl)) hb)
    · intro v w2 hb hd
      have h32 : v 32 = _ := hd 32 (by kernel_rfl)
      refine done_want 31 true rfl (hd 31 (by kernel_rfl)) (yields_run (u := .int .i64 1) (w' := w2) ?_ (Below.refl _ _) rfl)
      rw [hfin]
      unfold execOp
      simp [go_sem, Act.eval, h32]
    · intro v w2 hb hd
      have h33 : v 33 = _ := hd 33 (by kernel_rfl)
      refine done_want 31 true rfl (hd 31 (by kernel_rfl)) (yields_run (u := .bool true) (w' := w2) ?_ (Below.refl _ _) rfl)
      rw [hfin]
      unfold execOp
      simp [go_sem, Act.eval, h33]
    · intro v w2 hb hd
      have h31 : v 31 = _ := hd 31 (by kernel_rfl)
      have h34 : v 34 = _ := hd 34 (by kernel_rfl)
      refine done_plain rfl (yields_run (u := .bool true) (w' := w2) ?_ (Below.refl _ _) rfl)
      rw [hfin]
      unfold execOp
      simp [go_sem, Act.eval, h31, h34]
    · intro v w2 hb hd
      have h35 : v 35 = _ := hd 35 (by kernel_rfl)
      exact done_plain rfl (yields_is (tells_move rfl (by rw [hfin]; exact h35)) hb)
    · intro v w2 hb hd
      exact done_want 36 true rfl (hd 36 (by kernel_rfl)) (yields_is (tells_move rfl (by rw [hfin]; rfl)) hb)
    · intro v w2 hb hd
      have h37 : v 37 = _ := hd 37 (by kernel_rfl)
      refine done_want 36 true rfl (hd 36 (by kernel_rfl)) (yields_run (u := .pointer (some ⟨p4, q4, none⟩)) (w' := w2) ?_ (Below.refl _ _) rfl)
      rw [hfin]
      unfold execOp
      simp [go_sem, Act.eval, h37]
    · intro v w2 hb hd
      have h38 : v 38 = _ := hd 38 (by kernel_rfl)
      obtain ⟨a0, a1, a2, a3, a4⟩ := lt_cells (LD.out.below hb)
      refine done_want 36 true rfl (hd 36 (by kernel_rfl)) (yields_run (u := .agg #[.int .u32 t1.e, .int .i64 t1.d, .int .u32 t1.a, .int .u32 t1.b, .int .u32 t1.c]) (w' := w2) ?_ (Below.refl _ _) rfl)
      rw [hfin]
      unfold execOp
      simp [go_sem, Act.eval, h38, a0, a1, a2, a3, a4]
    · intro v w2 hb hd
      exact done_want 36 true rfl (hd 36 (by kernel_rfl)) (yields_is (W0 := w2) (tells_load rfl (by rw [hfin]; rfl) (S6.out.later hb).oo Try.underlying33 rfl (by kernel_rfl)) (Below.refl _ _))
    · intro v w2 hb hd
      have h39 : v 39 = _ := hd 39 (by kernel_rfl)
      have h40 : v 40 = _ := hd 40 (by kernel_rfl)
      refine done_want 36 true rfl (hd 36 (by kernel_rfl)) (yields_run (u := .bool true) (w' := w2) ?_ (Below.refl _ _) rfl)
      rw [hfin]
      unfold execOp
      simp [go_sem, Act.eval, h39, h40, run_eqT t1 t1, show eqT t1 t1 = true from by decide]
    · intro v w2 hb hd
      have h36 : v 36 = _ := hd 36 (by kernel_rfl)
      have h41 : v 41 = _ := hd 41 (by kernel_rfl)
      refine done_plain rfl (yields_run (u := .bool true) (w' := w2) ?_ (Below.refl _ _) rfl)
      rw [hfin]
      unfold execOp
      simp [go_sem, Act.eval, h36, h41]
    · intro v w2 hb hd
      have h42 : v 42 = _ := hd 42 (by kernel_rfl)
      exact done_plain rfl (yields_is (tells_move rfl (by rw [hfin]; exact h42)) hb)
    · intro v w2 hb hd
      exact done_want 43 true rfl (hd 43 (by kernel_rfl)) (yields_is (tells_move rfl (by rw [hfin]; rfl)) hb)
    · intro v w2 hb hd
      have h44 : v 44 = _ := hd 44 (by kernel_rfl)
      refine done_want 43 true rfl (hd 43 (by kernel_rfl)) (yields_run (u := .bool true) (w' := w2) ?_ (Below.refl _ _) rfl)
      rw [hfin]
      unfold execOp
      simp [go_sem, Act.eval, h44]
    · intro v w2 hb hd
      have h43 : v 43 = _ := hd 43 (by kernel_rfl)
      have h45 : v 45 = _ := hd 45 (by kernel_rfl)
      refine done_plain rfl (yields_run (u := .bool true) (w' := w2) ?_ (Below.refl _ _) rfl)
      rw [hfin]
      unfold execOp
      simp [go_sem, Act.eval, h43, h45]
    · intro v w2 hb hd
      have h46 : v 46 = _ := hd 46 (by kernel_rfl)
      exact done_plain rfl (yields_is (tells_move rfl (by rw [hfin]; exact h46)) hb)
    · intro v w2 hb hd
      exact done_want 47 true rfl (hd 47 (by kernel_rfl)) (yields_is (tells_move rfl (by rw [hfin]; rfl)) hb)
    · intro v w2 hb hd
      exact done_want 47 true rfl (hd 47 (by kernel_rfl)) (yields_is (W0 := w2) (tells_load rfl (by rw [hfin]; rfl) (S6.out.later hb).oo Try.underlying33 rfl (by kernel_rfl)) (Below.refl _ _))
    · intro v w2 hb hd
      have h48 : v 48 = _ := hd 48 (by kernel_rfl)
      have h49 : v 49 = _ := hd 49 (by kernel_rfl)
      refine done_want 47 true rfl (hd 47 (by kernel_rfl)) (yields_call (f := 17) rfl (vs := #[.pointer (some ⟨g, 0, none⟩), .agg #[.int .u32 t1.e, .int .i64 t1.d, .int .u32 t1.a, .int .u32 t1.b, .int .u32 t1.c]]) (by rw [hfin]; simp [Act.eval, h48, h49]) rfl Try.func17 (by kernel_rfl) (by kernel_rfl) ?_)
      exact (k1 w2 (S6.out.later hb).m).mono fun e w' ⟨he, hb'⟩ => ⟨_, he, hb', rfl⟩
    · intro v w2 hb hd
      have h50 : v 50 = _ := hd 50 (by kernel_rfl)
      refine done_want 47 true rfl (hd 47 (by kernel_rfl)) (yields_run (u := .bool true) (w' := w2) ?_ (Below.refl _ _) rfl)
      rw [hfin]
      unfold execOp
      simp [go_sem, Act.eval, h50]
    · intro v w2 hb hd
      have h47 : v 47 = _ := hd 47 (by kernel_rfl)
      have h51 : v 51 = _ := hd 51 (by kernel_rfl)
      refine done_plain rfl (yields_run (u := .bool true) (w' := w2) ?_ (Below.refl _ _) rfl)
      rw [hfin]
      unfold execOp
      simp [go_sem, Act.eval, h47, h51]
    · intro v w2 hb hd
      have h52 : v 52 = _ := hd 52 (by kernel_rfl)
      exact done_plain rfl (yields_is (tells_move rfl (by rw [hfin]; exact h52)) hb)
    · intro v w2 hb hd
      exact done_want 53 true rfl (hd 53 (by kernel_rfl)) (yields_is (tells_move rfl (by rw [hfin]; rfl)) hb)
    · intro v w2 hb hd
      exact done_want 53 true rfl (hd 53 (by kernel_rfl)) (yields_is (W0 := w2) (tells_load rfl (by rw [hfin]; rfl) (S6.out.later hb).zz Try.underlying33 rfl (by kernel_rfl)) (Below.refl _ _))
    · intro v w2 hb hd
      have h54 : v 54 = _ := hd 54 (by kernel_rfl)
      have h55 : v 55 = _ := hd 55 (by kernel_rfl)
      refine done_want 53 true rfl (hd 53 (by kernel_rfl)) (yields_call (f := 17) rfl (vs := #[.pointer (some ⟨g, 0, none⟩), .agg #[.int .u32 tz.e, .int .i64 tz.d, .int .u32 tz.a, .int .u32 tz.b, .int .u32 tz.c]]) (by rw [hfin]; simp [Act.eval, h54, h55]) rfl Try.func17 (by kernel_rfl) (by kernel_rfl) ?_)
      exact (k2 w2 (S6.out.later hb).m).mono fun e w' ⟨he, hb'⟩ => ⟨_, he, hb', rfl⟩
    · intro v w2 hb hd
      have h56 : v 56 = _ := hd 56 (by kernel_rfl)
      refine done_want 53 true rfl (hd 53 (by kernel_rfl)) (yields_run (u := .bool true) (w' := w2) ?_ (Below.refl _ _) rfl)
      rw [hfin]
      unfold execOp
      simp [go_sem, Act.eval, h56]
    · intro v w2 hb hd
      have h53 : v 53 = _ := hd 53 (by kernel_rfl)
      have h57 : v 57 = _ := hd 57 (by kernel_rfl)
      refine done_plain rfl (yields_run (u := .bool true) (w' := w2) ?_ (Below.refl _ _) rfl)
      rw [hfin]
      unfold execOp
      simp [go_sem, Act.eval, h53, h57]
    · intro v w2 hb hd
      have h58 : v 58 = _ := hd 58 (by kernel_rfl)
      exact done_plain rfl (yields_is (tells_move rfl (by rw [hfin]; exact h58)) hb)
    · intro v w2 hb hd
      exact done_want 59 true rfl (hd 59 (by kernel_rfl)) (yields_is (tells_move rfl (by rw [hfin]; rfl)) hb)
    · intro v w2 hb hd
      have h60 : v 60 = _ := hd 60 (by kernel_rfl)
      refine done_want 59 true rfl (hd 59 (by kernel_rfl)) (yields_call (f := 32) rfl (vs := #[.pointer (some ⟨g, 0, none⟩)]) (by rw [hfin]; simp [Act.eval, h60]) rfl Try.func32 (by kernel_rfl) (by kernel_rfl) ?_)
      exact (l1 w2 (S6.out.later hb).m).mono fun e w' ⟨B, c', he, hb'⟩ => ⟨_, he, hb', B, c', rfl⟩
    · intro v w2 hb hd
      have h61 : ∃ B c, v 61 = .slice B 1 c := hd 61 (by kernel_rfl)
      obtain ⟨B9, c9, h9⟩ := h61
      refine done_want 59 true rfl (hd 59 (by kernel_rfl)) (yields_run (u := .int .i64 1) (w' := w2) ?_ (Below.refl _ _) rfl)
      rw [hfin]
      unfold execOp
      simp [go_sem, Act.eval, h9]
    · intro v w2 hb hd
      have h62 : v 62 = _ := hd 62 (by kernel_rfl)
      refine done_want 59 true rfl (hd 59 (by kernel_rfl)) (yields_run (u := .bool true) (w' := w2) ?_ (Below.refl _ _) rfl)
      rw [hfin]
      unfold execOp
      simp [go_sem, Act.eval, h62]
    · intro v w2 hb hd
      have h59 : v 59 = _ := hd 59 (by kernel_rfl)
      have h63 : v 63 = _ := hd 63 (by kernel_rfl)
      refine done_plain rfl (yields_run (u := .bool true) (w' := w2) ?_ (Below.refl _ _) rfl)
      rw [hfin]
      unfold execOp
      simp [go_sem, Act.eval, h59, h63]
    · intro v w2 hb hd
      have h64 : v 64 = _ := hd 64 (by kernel_rfl)
      exact done_plain rfl (yields_is (tells_move rfl (by rw [hfin]; exact h64)) hb)
    · intro v w2 hb hd
      exact done_want 65 true rfl (hd 65 (by kernel_rfl)) (yields_is (tells_move rfl (by rw [hfin]; rfl)) hb)
    · intro v w2 hb hd
      refine done_want 65 true rfl (hd 65 (by kernel_rfl)) (yields_run (u := .agg #[.int .u32 tq.e, .int .i64 tq.d, .int .u32 tq.a, .int .u32 tq.b, .int .u32 tq.c]) (w' := w2) ?_ (Below.refl _ _) rfl)
      rw [hfin]
      unfold execOp
      simp [go_sem, Act.eval]
    · intro v w2 hb hd
      have h66 : v 66 = _ := hd 66 (by kernel_rfl)
      have h67 : v 67 = _ := hd 67 (by kernel_rfl)
      refine done_want 65 true rfl (hd 65 (by kernel_rfl)) (yields_call (f := 10) rfl (vs := #[.pointer (some ⟨g, 0, none⟩), .agg #[.int .u32 tq.e, .int .i64 tq.d, .int .u32 tq.a, .int .u32 tq.b, .int .u32 tq.c], .int .i64 1]) (by rw [hfin]; simp [Act.eval, h66, h67]) rfl Try.func10 (by kernel_rfl) (by kernel_rfl) ?_)
      exact (c4b w2 (S6.out.later hb).m).mono fun e w' ⟨he, hb'⟩ => ⟨_, he, hb', rfl⟩
    · intro v w2 hb hd
      have h68 : v 68 = _ := hd 68 (by kernel_rfl)
      refine done_want 65 true rfl (hd 65 (by kernel_rfl)) (yields_run (u := .bool true) (w' := w2) ?_ (Below.refl _ _) rfl)
      rw [hfin]
      unfold execOp
      simp [go_sem, Act.eval, h68]
    · intro v w2 hb hd
      have h65 : v 65 = _ := hd 65 (by kernel_rfl)
      have h69 : v 69 = _ := hd 69 (by kernel_rfl)
      refine done_plain rfl (yields_run (u := .bool true) (w' := w2) ?_ (Below.refl _ _) rfl)
      rw [hfin]
      unfold execOp
      simp [go_sem, Act.eval, h65, h69]
    · intro v w2 hb hd
      have h70 : v 70 = _ := hd 70 (by kernel_rfl)
      exact done_plain rfl (yields_is (tells_assign rfl (by rw [hfin]; exact h70)) hb)
    · intro v w2 hb hv
      have h71 : v 71 = _ := hv 71 (by decide)
      rw [hfin]
      clear hfin hv
      have B2 := Lib.hid (S6.out.later hb).below
      rw [h71]
      clear h71 hb
      go_wp2_with fail
      go_ret
      exact ⟨rfl, B2.out⟩
end Go.Proofs.Ytomekndinopoaaa.multi
