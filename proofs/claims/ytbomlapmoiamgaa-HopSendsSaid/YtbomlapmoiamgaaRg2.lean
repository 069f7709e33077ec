/-
  The table of a drawn region: what is closed is decided; what each kind of operation tells.
-/
import Derived.Test.YtbomlapmoiamgaaRg
import Derived.Tactics
import Derived.WalkKit
set_option linter.unusedSimpArgs false
set_option linter.unusedVariables false
namespace Go.Proofs.Ytbomlapmoiamgaa.region
open Go.RowKit Go.Proofs.Ytbomlapmoiamgaa.block

/-! ### What is decided -/
def writes (ops : Array Oper) (t : Tmp) : List Nat := (List.range ops.size).filter fun j => ((ops[j]?).bind (·.dst)) == some t
def okB (ops : Array Oper) (N : Nat) : Bool := (List.range ops.size).all fun i =>
  match ops[i]? with
  | none => true
  | some o =>
    (match o.dst with
     | none => true
     | some t => (writes ops t).all (fun j => j == i) && decide (t < N)) &&
    (o.after.all fun e => !Region.binds .any e || decide (e.on < i)) &&
    o.guard.isNone && (match o.op with | .select .. => false | _ => true) &&
    (o.op.operands.all fun x => match x with
      | .tmp t => (writes ops t).all fun j => o.after.any fun e => Region.binds .any e && e.on == j
      | _ => true)
theorem mem_writes {ops : Array Oper} {t : Tmp} {j : Nat} {o : Oper} (h : ops[j]? = some o) (hd : o.dst = some t) : j ∈ writes ops t := by
  have hlt : j < ops.size := (Array.getElem?_eq_some_iff.1 h).1
  unfold writes
  rw [List.mem_filter, List.mem_range]
  exact ⟨hlt, by simp [h, hd]⟩
theorem okB_at {ops : Array Oper} {N : Nat} (h : okB ops N = true) {i : Nat} {o : Oper} (hi : ops[i]? = some o) :
    (∀ t, o.dst = some t → (∀ j ∈ writes ops t, j = i) ∧ t < N) ∧ (∀ e ∈ o.after, Region.binds .any e = true → e.on < i) ∧ o.guard = none ∧ (∀ cs b, o.op ≠ .select cs b) ∧
    (∀ t, .tmp t ∈ o.op.operands → ∀ j ∈ writes ops t, ∃ e ∈ o.after, Region.binds .any e = true ∧ e.on = j) := by
  have hlt : i < ops.size := (Array.getElem?_eq_some_iff.1 hi).1
  have h1 := List.all_eq_true.1 h i (List.mem_range.2 hlt)
  simp only [hi, Bool.and_eq_true] at h1
  obtain ⟨⟨⟨⟨a, b⟩, c⟩, d⟩, e⟩ := h1
  refine ⟨fun t ht => ?_, fun x hx hb => ?_, ?_, fun cs bb hh => ?_, fun t ht j hj => ?_⟩
  · simp only [ht, Bool.and_eq_true] at a
    exact ⟨fun j hj => by simpa using List.all_eq_true.1 a.1 j hj, by simpa using a.2⟩
  · have := Array.all_eq_true_iff_forall_mem.1 b x hx
    simpa [hb] using this
  · simpa using c
  · rw [hh] at d
    cases d
  · have := Array.all_eq_true_iff_forall_mem.1 e (.tmp t) (by simpa using ht)
    have := List.all_eq_true.1 this j hj
    obtain ⟨x, hx, hb⟩ := Array.any_eq_true'.1 this
    simp only [Bool.and_eq_true, beq_iff_eq] at hb
    exact ⟨x, hx, hb.1, hb.2⟩
/-! ### The frame at the end -/
def lexPut (u : Nat → Value) : List Oper → Nat → Act → Act
  | [], _, a => a
  | o :: l, i, a => lexPut u l (i + 1) (a.put o.dst (u i))
def upto : Nat → Nat → Array Bool → Array Bool
  | 0, _, l => l
  | m + 1, i, l => upto m (i + 1) (l.setIfInBounds i true)
theorem upto_size : ∀ (m i : Nat) (l : Array Bool), (upto m i l).size = l.size
  | 0, _, _ => rfl
  | m + 1, i, l => by rw [upto, upto_size m]; simp
theorem upto_get : ∀ (m i : Nat) (l : Array Bool) (j : Nat), j < l.size → ((i ≤ j ∧ j < i + m) ∨ l.getD j false = true) → (upto m i l).getD j false = true
  | 0, i, l, j, _, h => h.resolve_left (by omega)
  | m + 1, i, l, j, hj, h => by
    refine upto_get m (i + 1) _ j (by simpa using hj) ?_
    by_cases e : j = i
    · subst e
      exact .inr (getD_set_eq hj)
    · rcases h with h | h
      · exact .inl (by omega)
      · exact .inr (set_keep h)
theorem lexPut_agr {ops : Array Oper} {u : Nat → Value} {a0 : Act} (hap : Apart ops) : ∀ (l : List Oper) (i : Nat) (a : Act) (listed : Array Bool), (∀ j, l[j]? = ops[i + j]?) → listed.size = ops.size →
    Agr ops u a0 a listed → Agr ops u a0 (lexPut u l i a) (upto l.length i listed)
  | [], _, _, _, _, _, h => h
  | o :: l, i, a, listed, hl, hs, h => by
    have h0 : ops[i]? = some o := by simpa using (hl 0).symm
    have hlt : i < listed.size := by rw [hs]; exact (Array.getElem?_eq_some_iff.1 h0).1
    exact lexPut_agr hap l (i + 1) _ _ (fun j => by have := hl (j + 1); simpa [Nat.add_assoc, Nat.add_comm 1 j] using this) (by simpa using hs) (h.step hap h0 hlt fun _ _ => rfl)
theorem Agr.relist {ops : Array Oper} {u : Nat → Value} {a0 a : Act} {l l' : Array Bool} (h : Agr ops u a0 a l) (e : ∀ i, l.getD i false = l'.getD i false) : Agr ops u a0 a l' :=
  ⟨h.defers, h.size, fun i o t hi hd hl => h.done i o t hi hd (by rw [e]; exact hl), fun t ht => h.rest t fun i o hi hl => ht i o hi (by rw [← e]; exact hl)⟩
theorem getD_out {l : Array Bool} {i : Nat} (h : l.size ≤ i) : l.getD i false = false := by simp [Array.getElem?_eq_none h]
theorem lexPut_last {ops : Array Oper} {u : Nat → Value} {a0 : Act} (hap : Apart ops) : Agr ops u a0 (lexPut u ops.toList 0 a0) (Array.replicate ops.size true) := by
  have h := lexPut_agr (u := u) (a0 := a0) hap ops.toList 0 a0 (Array.replicate ops.size false) (fun j => by simp) (by simp) ⟨rfl, rfl, (fun i o t _ _ hl => by rw [none_listed] at hl; cases hl), fun _ _ => rfl⟩
  refine h.relist fun i => ?_
  by_cases hi : i < ops.size
  · rw [upto_get _ _ _ i (by simpa using hi) (.inl (by simpa using hi))]
    simp [hi]
  · have h1 : (upto ops.toList.length 0 (Array.replicate ops.size false)).size ≤ i := by rw [upto_size]; simpa using hi
    have h2 : (Array.replicate ops.size true).size ≤ i := by simpa using hi
    rw [getD_out h1, getD_out h2]
/-! ### What each kind of operation tells -/
section
variable {P : Program} {W0 : World} {o : Oper} {ρ : Operand → Value}
theorem tells_load {ty : TypeId} {x : Operand} (ho : o.op = .load ty x) {g : Nat} {t : TypeId} {cs : Array Value} (hx : ρ x = .pointer (some ⟨g, 0, none⟩)) (hw : Whole W0 g t cs) {d : TypeDesc}
    (hu : P.underlying ty = some d) (hd : (match d with | .struct _ | .array _ _ => true | _ => false) = true) (hi : (P.info? ty).map (·.size) = some cs.size) : Tells P W0 o ρ (.agg cs) := by
  intro w hb
  left
  have h := loaded (hw.below hb hw.inside) hu hd hi
  unfold execOp
  simp only [ho, hx, Instr.loadAt, Instr.sureAddr, Sem.run_bind, Sem.run_pure, Result.andThen_ok, h]
theorem tells_call {f : FuncId} {xs : Array Operand} {ts : Array TypeId} (ho : o.op = .call { callee := .value (.func f), args := xs, argTypes := ts }) {vs : Array Value} (hx : xs.map ρ = vs) (hf : ρ (.func f) = .func (.func f) #[] #[]) {fn : Func} (hfn : P.funcs[f]? = some fn) (hname : (fn.name == "runtime.NumGoroutine") = false) (hbody : fn.body.isNone = false) {u : Value}
    (h : ∀ w, Calls P f vs w fun e w' => e = .returned u ∧ Below w.heap.size w w') : Tells P W0 o ρ u := by
  intro w hb
  right
  have h1 : ¬ fn.name = "runtime.NumGoroutine" := by simpa using hname
  have h2 : ¬ fn.body = none := by
    intro e
    rw [e] at hbody
    cases hbody
  refine ⟨f, vs, ?_, h w⟩
  unfold execOp
  simp [ho, hx, hf, resolve, go_sem, callFunc, hfn, h1, h2]
theorem tells_move {x : Operand} (ho : o.op = .move x) {u : Value} (hx : ρ x = u) : Tells P W0 o ρ u := by
  intro w hb
  left
  unfold execOp
  simp [ho, hx, go_sem]
theorem tells_assign {x : Operand} (ho : o.op = .assign x) {u : Value} (hx : ρ x = u) : Tells P W0 o ρ u := by
  intro w hb
  left
  unfold execOp
  simp [ho, hx, go_sem]
theorem tells_extract {x : Operand} {k : Nat} (ho : o.op = .extract x k) {vs : Array Value} (hx : ρ x = .tuple vs) {u : Value} (hk : vs[k]? = some u) : Tells P W0 o ρ u := by
  intro w hb
  left
  unfold execOp
  simp [ho, hx, hk, go_sem]
end
/-! ### A region with one variable of its own -/
def kind1 (iA iS : Nat) (ty : TypeId) (z cs : Array Value) (i : Nat) : Kind := if i = iA then .make ty z iS cs else if i = iS then .lay iA else .plain
def PlainAll (P : Program) (W0 : World) (k : Nat → Kind) (v : Nat → Value) (fin : (Nat → Nat) → Act) : List Oper → Nat → Prop
  | [], _ => True
  | o :: l, i => (k i = .plain → ∀ n, Tells P W0 o (fin n).eval (v i)) ∧ PlainAll P W0 k v fin l (i + 1)
theorem plainAll_at {P : Program} {W0 : World} {k : Nat → Kind} {v : Nat → Value} {fin : (Nat → Nat) → Act} : ∀ (l : List Oper) (i : Nat), PlainAll P W0 k v fin l i → ∀ (j : Nat) (o : Oper), l[j]? = some o → k (i + j) = .plain → ∀ n, Tells P W0 o (fin n).eval (v (i + j))
  | [], _, _, j, o, h => by simp at h
  | o :: l, i, h, 0, o', h' => by
    obtain rfl : o = o' := by simpa using h'
    exact h.1
  | o :: l, i, h, j + 1, o', h' => by
    have := plainAll_at l (i + 1) h.2 j o' (by simpa using h')
    rwa [show i + 1 + j = i + (j + 1) by omega] at this
theorem table1 {P : Program} {l : List Oper} {W0 : World} {a0 : Act} {iA iS N : Nat} {ty : TypeId} {z cs : Array Value} {v : Nat → Value} {oA oS : Oper} {d : Tmp} {tys : TypeId} {y : Operand} (fin : (Nat → Nat) → Act)
    (hN : a0.tmps.size = N) (hok : okB l.toArray N = true) (hfin : ∀ n, lexPut (val (kind1 iA iS ty z cs) v n) l 0 a0 = fin n)
    (hA : l[iA]? = some oA) (hS : l[iS]? = some oS) (hne : (iA == iS) = false) (hdA : oA.dst = some d) (hdS : oS.dst = none) (hopS : oS.op = .store tys (.tmp d) y)
    (hdep : (oS.after.any fun e => Region.binds .any e && e.on == iA) = true)
    (hrun : ∀ w ρ, (execOp ρ oA).run P w = .ok (.value (.pointer (some ⟨w.heap.size, 0, none⟩))) (w.alloc (.cells z ty)))
    (hy : ∀ n, (fin n).eval y = .agg cs) (hinfo : (P.info? tys).map (·.size) = some cs.size) (hz : z.size = cs.size) (hone : cs.all (·.oneCell') = true)
    (hplain : PlainAll P W0 (kind1 iA iS ty z cs) v fin l 0) : Table P .any l.toArray W0 a0 (kind1 iA iS ty z cs) v fin := by
  have hap : Apart l.toArray := fun i j o o' t hi hj hd hd' => by
    have := ((okB_at hok hi).1 t hd).1 j (mem_writes hj hd')
    exact this.symm
  have hne' : iA ≠ iS := by simpa using hne
  have hAS : kind1 iA iS ty z cs iA = .make ty z iS cs := by simp [kind1]
  have hSA : kind1 iA iS ty z cs iS = .lay iA := by simp [kind1, Ne.symm hne']
  refine ⟨hap, fun i o hi => (okB_at hok hi).2.1, fun i o hi => ⟨(okB_at hok hi).2.2.1, (okB_at hok hi).2.2.2.1, fun t ht j oj hj hd => (okB_at hok hi).2.2.2.2 t ht j (mem_writes hj hd)⟩,
    fun i o t hi hd => by rw [hN]; exact ((okB_at hok hi).1 t hd).2, fun n => by rw [← hfin n]; exact lexPut_last hap, ?_, ?_, ?_⟩
  · intro i o hi hk n
    have := plainAll_at l 0 hplain i o (by simpa using hi) (by simpa using hk) n
    simpa using this
  · intro i o ty' z' j cs' hi hk
    have hi' : i = iA := by
      unfold kind1 at hk
      split at hk
      · assumption
      · split at hk <;> cases hk
    subst hi'
    rw [hAS] at hk
    cases hk
    obtain rfl : oA = o := Option.some.inj (hA.symm.trans (by simpa using hi))
    obtain ⟨e, he, hb⟩ := Array.any_eq_true'.1 hdep
    simp only [Bool.and_eq_true, beq_iff_eq] at hb
    exact ⟨hSA, ⟨oS, by simpa using hS, e, he, hb.1, hb.2⟩, hrun⟩
  · intro j o i hj hk
    have hj' : j = iS := by
      unfold kind1 at hk
      split at hk
      · cases hk
      · split at hk
        · assumption
        · cases hk
    subst hj'
    rw [hSA] at hk
    cases hk
    obtain rfl : oS = o := Option.some.inj (hS.symm.trans (by simpa using hj))
    exact ⟨hdS, ty, z, cs, tys, d, y, hAS, hopS, ⟨oA, by simpa using hA, hdA⟩, hy, hinfo, hz, hone⟩
/-- **A region that draws its order and makes one variable of its own.** -/
theorem region_one {P : Program} {id : Nat} {l : List Oper} {w : World} {a0 : Act} {iA iS : Nat} {ty : TypeId} {z cs : Array Value} {v : Nat → Value} {fin : (Nat → Nat) → Act} {Q : Exit → Act → World → Prop} (hm : P.follows .mixedOrders = true)
    (T : Table P .any l.toArray w.drew a0 (kind1 iA iS ty z cs) v fin) (hl : (decide (iA < l.length) && decide (iS < l.length)) = true)
    (hQ : ∀ n w' (m : Nat), n iA = m → Below w.heap.size w w' → Whole w' m ty cs → w.heap.size ≤ m → Q .normal (fin n) w') : (Code.region id l.toArray true).wp P Q a0 w := by
  simp only [Bool.and_eq_true, decide_eq_true_eq] at hl
  refine region_table hm T fun n w' hb h => ?_
  obtain ⟨h1, h2⟩ := h iA ty z iS cs (by simp [kind1]) (by simpa using hl.1) (by simpa using hl.2)
  exact hQ n w' _ rfl hb h1 h2
/-- The same, the frame at the end a letter: what is asked of it may first be computed. -/
theorem region_one2 {P : Program} {id : Nat} {l : List Oper} {w : World} {a0 : Act} (iA iS N : Nat) (ty : TypeId) (z cs : Array Value) (vs : List Value) {oA oS : Oper} {d : Tmp} {tys : TypeId} {y : Operand} {Q : Exit → Act → World → Prop} (hm : P.follows .mixedOrders = true)
    (hN : a0.tmps.size = N) (hok : okB l.toArray N = true) (hA : l[iA]? = some oA) (hS : l[iS]? = some oS) (hne : (iA == iS) = false) (hdA : oA.dst = some d) (hdS : oS.dst = none) (hopS : oS.op = .store tys (.tmp d) y)
    (hdep : (oS.after.any fun e => Region.binds .any e && e.on == iA) = true) (hinfo : (P.info? tys).map (·.size) = some cs.size) (hz : z.size = cs.size) (hone : cs.all (·.oneCell') = true) (hl : (decide (iA < l.length) && decide (iS < l.length)) = true)
    (hrun : ∀ w ρ, (execOp ρ oA).run P w = .ok (.value (.pointer (some ⟨w.heap.size, 0, none⟩))) (w.alloc (.cells z ty)))
    (h : ∀ fin : (Nat → Nat) → Act, (∀ n, fin n = lexPut (val (kind1 iA iS ty z cs) (fun i => vs.getD i undef) n) l 0 a0) →
      (∀ n, (fin n).eval y = .agg cs) ∧ PlainAll P w.drew (kind1 iA iS ty z cs) (fun i => vs.getD i undef) fin l 0 ∧
      ∀ n w' (m : Nat), n iA = m → Below w.heap.size w w' → Whole w' m ty cs → w.heap.size ≤ m → Q .normal (fin n) w') : (Code.region id l.toArray true).wp P Q a0 w := by
  obtain ⟨h1, h2, h3⟩ := h (fun n => lexPut (val (kind1 iA iS ty z cs) (fun i => vs.getD i undef) n) l 0 a0) (fun _ => rfl)
  exact region_one hm (table1 _ hN hok (fun _ => rfl) hA hS hne hdA hdS hopS hdep hrun h1 hinfo hz hone h2) hl h3
end Go.Proofs.Ytbomlapmoiamgaa.region
