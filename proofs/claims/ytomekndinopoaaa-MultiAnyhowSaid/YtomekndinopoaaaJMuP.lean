/-
  Rows of pairs that are one's own; what the document's Add makes of them.
  A region that draws its order, one operation of which writes in a row that is one's own.
  The contract of (*multi.Multi).All.
-/
import Derived.Test.YtomekndinopoaaaJMuX
import Derived.Test.YtomekndinopoaaaJRg
import Derived.Deep.AppendLies
import Derived.Test.YtomekndinopoaaaJKy
namespace Go.Proofs.Ytomekndinopoaaa.multi
open Go.ChangeShapes Go.WideShapes Go.ChangeAt Go.RowKit Go.Maps Go.WideMaps
open Go.Proofs.Ytomekndinopoaaa.tm Go.Proofs.Ytomekndinopoaaa.opened Go.Proofs.Ytomekndinopoaaa.block Go.Proofs.Ytomekndinopoaaa.stamp Go.Proofs.Ytomekndinopoaaa.chain

abbrev P0 : TN := (T0, 0)
theorem infoP (T : TypeId) (h : (Try.prog.info? T).map (fun i => (i.zero, i.size, i.bytes)) = some (some (.agg (cP P0).toArray), 6, 40)) : ∃ i, Try.prog.info? T = some i ∧ i.zero = some (.agg (cP P0).toArray) ∧ i.size = 6 ∧ i.bytes = 40 := by
  rw [Option.map_eq_some_iff] at h
  obtain ⟨i, hi, he⟩ := h
  simp only [Prod.mk.injEq] at he
  exact ⟨i, hi, he.1, he.2.1, he.2.2⟩
theorem infoP1 : (Try.prog.info? 79).map (fun i => (i.zero, i.size, i.bytes)) = some (some (.agg (cP P0).toArray), 6, 40) := by kernel_rfl
theorem infoP2 : (Try.prog.info? 86).map (fun i => (i.zero, i.size, i.bytes)) = some (some (.agg (cP P0).toArray), 6, 40) := by kernel_rfl
/-- A slice of pairs that is one's own. -/
abbrev OwnP (T : TypeId) (w : World) (base : Nat) (v : Value) (N : List TN) : Prop := w.ownsRow base T 6 v N.length (N.flatMap cP)
theorem flatP_len (N : List TN) : (N.flatMap cP).length = N.length * 6 := by
  induction N with
  | nil => rfl
  | cons x r ih => rw [List.flatMap_cons, List.length_append, ih, List.length_cons]; have : (cP x).length = 6 := rfl; omega
theorem flatP_at (N : List TN) : ∀ (i : Nat) (y : TN) (j : Nat), N[i]? = some y → j < 6 → (N.flatMap cP)[i * 6 + j]? = (cP y)[j]? := by
  induction N with
  | nil => intro i y j h; simp at h
  | cons x r ih =>
    intro i y j h hj
    have h5 : (cP x).length = 6 := rfl
    rw [List.flatMap_cons]
    cases i with
    | zero =>
      simp at h
      subst h
      rw [List.getElem?_append_left (by rw [h5]; omega)]
      simp
    | succ i =>
      rw [List.getElem?_append_right (by rw [h5]; omega), h5, show (i + 1) * 6 + j - 6 = i * 6 + j by omega]
      exact ih i y j (by simpa using h) hj
theorem one_cP (p : TN) : ∀ v ∈ cP p, v.oneCell' = true := by
  intro v hv
  simp [cP] at hv
  rcases hv with rfl | rfl | rfl | rfl | rfl | rfl <;> rfl
theorem one_flatP (N : List TN) : ∀ v ∈ N.flatMap cP, v.oneCell' = true := by
  intro v hv
  obtain ⟨t, -, h⟩ := List.mem_flatMap.1 hv
  exact one_cP t v h
section
variable {T : TypeId}
theorem OwnP.lies {w : World} {base : Nat} {A : Option Addr} {n c : Nat} {N : List TN} (h : OwnP T w base (.slice A n c) N) : Lp w A N := by
  rcases h.2 with ⟨-, hn⟩ | ⟨g, cap, cur, hv, hb, hg, hc, hcm, hs, ht⟩
  · rw [List.eq_nil_of_length_eq_zero hn]; exact .inl rfl
  · injection hv with h1 h2 h3
    subst h1
    refine .inr ⟨g, 0, rfl, (Array.getElem?_eq_some_iff.1 hg).1, fun i x hx => ?_⟩
    rw [List.getElem?_map, Option.map_eq_some_iff] at hx
    obtain ⟨y, hy, rfl⟩ := hx
    refine ⟨rfl, fun j hj => ?_⟩
    have e := flatP_at N i y j hy hj
    have hi := (List.getElem?_eq_some_iff.1 hy).1
    rw [← ht, List.getElem?_take, if_pos (by omega), Array.getElem?_toList] at e
    rw [← e]
    simp [World.cell?, hg]
theorem OwnP.below {w w' : World} {base : Nat} {v : Value} {N : List TN} (h : OwnP T w base v N) (hb : Below w.heap.size w w') : OwnP T w' base v N := by
  refine ⟨h.1, ?_⟩
  rcases h.2 with hn | ⟨g, cap, cur, hv, hg0, hg, rest⟩
  · exact .inl hn
  · exact .inr ⟨g, cap, cur, hv, hg0, (hb.block g (Array.getElem?_eq_some_iff.1 hg).1).trans hg, rest⟩
theorem OwnP.grown {W w1 : World} {base : Nat} {v : Value} {N : List TN} {tmp : Obj} (h : OwnP T W base v N) (hb0 : base ≤ W.heap.size) (hg : (W.alloc tmp).grownBy w1 v.ownBlock) : Below base W w1 :=
  ((Below.refl base W).alloc hb0 tmp).grown hg (by simp; omega) fun j ej => by
    rcases h.2 with ⟨rfl, _⟩ | ⟨g, cap, cur, rfl, hb, _, _⟩
    · simp [Value.ownBlock] at ej
    · obtain rfl : g = j := by simpa [Value.ownBlock] using ej
      exact hb
/-- Its block is none that is newer. -/
theorem OwnP.away {w : World} {base gz : Nat} {v : Value} {N : List TN} (h : OwnP T w base v N) (hz : w.heap.size ≤ gz) : some gz ≠ v.ownBlock := by
  rcases h.2 with ⟨rfl, _⟩ | ⟨g, cap, cur, rfl, hb, hg, _⟩
  · simp [Value.ownBlock]
  · have := (Array.getElem?_eq_some_iff.1 hg).1
    simp [Value.ownBlock]
    omega
theorem OwnP.succ {W : World} {base k : Nat} {v : Value} {xs : List Value} (h : W.ownsRow base T 6 v (k + 1) xs) : ∃ g cap, v = .slice (some ⟨g, 0, none⟩) (k + 1) cap := by
  rcases h.2 with ⟨-, h0⟩ | ⟨g, cap, cur, hv, -⟩
  · omega
  · exact ⟨g, cap, hv⟩
theorem ownP_nil (w : World) (base : Nat) : OwnP T w base (.slice none 0 0) [] := World.ownsRow_nil _ _ _ _
end
/-! ### What Add makes -/
def geB (t : Tm) (P : List TN) : Bool := P.any fun p => !decide (numT p.1 < numT t)
def newP (t : Tm) (n : Int) : List TN := if n = 0 then [] else [(t, n)]
/-- What is laid behind the pairs that have come, where the new one has been met and where not. -/
def outM (P : List TN) (t : Tm) (n : Int) (q : Bool) : List TN := P.filter (fun p => decide (numT p.1 < numT t)) ++ ((if q then newP t n else []) ++ P.filter (fun p => decide (numT t < numT p.1)))
theorem out_end {M : List TN} (t : Tm) (n : Int) : (geB t M = true → outM M t n true = putM M t n) ∧ (geB t M = false → outM M t n false ++ newP t n = putM M t n) := by
  refine ⟨fun _ => rfl, fun h => ?_⟩
  have hn : M.filter (fun p => decide (numT t < numT p.1)) = [] := by
    rw [List.filter_eq_nil_iff]
    intro p hp
    have := List.any_eq_false.1 h p hp
    simp at this
    simp
    omega
  unfold outM putM newP
  rw [hn]
  simp
theorem ge_more {t : Tm} {M : List TN} {k : Nat} {p : TN} (h : M[k]? = some p) : geB t (M.take (k + 1)) = (geB t (M.take k) || !decide (numT p.1 < numT t)) := by
  unfold geB
  rw [List.take_add_one, h]
  simp
theorem lt_all {t : Tm} {P : List TN} (h : geB t P = false) : P.filter (fun p => decide (numT t < numT p.1)) = [] := by
  rw [List.filter_eq_nil_iff]
  intro p hp
  have := List.any_eq_false.1 h p hp
  simp at this
  simp
  omega
/-- Behind one pair more: it is less, and nothing has been met. -/
theorem out_less {t : Tm} {n : Int} {M : List TN} {k : Nat} {p : TN} (h : M[k]? = some p) (hq : geB t (M.take k) = false) (hp : numT p.1 < numT t) : outM (M.take (k + 1)) t n false = outM (M.take k) t n false ++ [p] := by
  have h2 : ¬ numT t < numT p.1 := by omega
  unfold outM
  rw [List.take_add_one, h, List.filter_append, List.filter_append, lt_all hq]
  simp [hp, h2]
theorem out_same {t : Tm} {n : Int} {M : List TN} {k : Nat} {p : TN} (h : M[k]? = some p) (hq : geB t (M.take k) = false) (hp : numT p.1 = numT t) : outM (M.take (k + 1)) t n true = outM (M.take k) t n false ++ newP t n := by
  have h1 : ¬ numT p.1 < numT t := by omega
  have h2 : ¬ numT t < numT p.1 := by omega
  unfold outM
  rw [List.take_add_one, h, List.filter_append, List.filter_append, lt_all hq]
  simp [h1, h2]
theorem out_first {t : Tm} {n : Int} {M : List TN} {k : Nat} {p : TN} (h : M[k]? = some p) (hq : geB t (M.take k) = false) (hp : numT t < numT p.1) : outM (M.take (k + 1)) t n true = outM (M.take k) t n false ++ newP t n ++ [p] := by
  have h1 : ¬ numT p.1 < numT t := by omega
  unfold outM
  rw [List.take_add_one, h, List.filter_append, List.filter_append, lt_all hq]
  simp [h1, hp]
theorem out_more {t : Tm} {n : Int} {M : List TN} {k : Nat} {p : TN} (h : M[k]? = some p) (hp : numT t < numT p.1) : outM (M.take (k + 1)) t n true = outM (M.take k) t n true ++ [p] := by
  have h1 : ¬ numT p.1 < numT t := by omega
  unfold outM
  rw [List.take_add_one, h, List.filter_append, List.filter_append]
  simp [h1, hp]
/-- Behind one that is not less all are greater. -/
theorem ge_then {t : Tm} {M : List TN} (hs : M.Pairwise (fun p q => numT p.1 < numT q.1)) {k : Nat} {p : TN} (h : M[k]? = some p) (hq : geB t (M.take k) = true) : numT t < numT p.1 := by
  obtain ⟨x, hx, hge⟩ := List.any_eq_true.1 hq
  simp at hge
  obtain ⟨i, hi⟩ := List.getElem?_of_mem hx
  rw [List.getElem?_take] at hi
  split at hi
  · obtain ⟨h1, e1⟩ := List.getElem?_eq_some_iff.1 hi
    obtain ⟨h2, e2⟩ := List.getElem?_eq_some_iff.1 h
    have := List.pairwise_iff_getElem.1 hs i k h1 h2 (by omega)
    rw [e1, e2] at this
    omega
  · cases hi
theorem outM_len (P : List TN) (t : Tm) (n : Int) (q : Bool) : (outM P t n q).length ≤ P.length + 1 := by
  unfold outM newP
  rw [List.length_append, List.length_append]
  have h : (P.filter (fun p => decide (numT p.1 < numT t))).length + (P.filter (fun p => decide (numT t < numT p.1))).length ≤ P.length := by
    induction P with
    | nil => simp
    | cons x r ih =>
      by_cases h1 : numT x.1 < numT t
      · have h2 : ¬ numT t < numT x.1 := by omega
        simp [h1, h2]
        omega
      · by_cases h2 : numT t < numT x.1
        · simp [h1, h2]
          omega
        · simp [h1, h2]
          omega
  cases q <;> (simp; try (split <;> simp)) <;> omega
end Go.Proofs.Ytomekndinopoaaa.multi
namespace Go.Proofs.Ytomekndinopoaaa.region
open Go.RowKit Go.Proofs.Ytomekndinopoaaa.block

section
variable {P : Program} {ops : Array Oper} {md : Region.Mode} {a0 : Act}
/-- Does the operation at j wait for the one at i, be it by others? -/
def reachB (ops : Array Oper) : Nat → Nat → Nat → Bool
  | 0, _, _ => false
  | f + 1, j, i => match ops[j]? with
    | none => false
    | some o => o.after.any fun e => Region.binds .any e && (e.on == i || reachB ops f e.on i)
def okB2 (ops : Array Oper) (N : Nat) : Bool := (List.range ops.size).all fun i =>
  match ops[i]? with
  | none => true
  | some o =>
    (match o.dst with
     | none => true
     | some t => (writes ops t).all (fun j => j == i) && decide (t < N)) &&
    (o.after.all fun e => !Region.binds .any e || decide (e.on < i)) &&
    o.guard.isNone && (match o.op with | .select .. => false | _ => true) &&
    (o.op.operands.all fun x => match x with
      | .tmp t => (writes ops t).all fun j => if j < i then o.after.any fun e => Region.binds .any e && e.on == j else (j == i || reachB ops ops.size j i)
      | _ => true)
theorem okB2_at {ops : Array Oper} {N : Nat} (h : okB2 ops N = true) {i : Nat} {o : Oper} (hi : ops[i]? = some o) :
    (∀ t, o.dst = some t → (∀ j ∈ writes ops t, j = i) ∧ t < N) ∧ (∀ e ∈ o.after, Region.binds .any e = true → e.on < i) ∧ o.guard = none ∧ (∀ cs b, o.op ≠ .select cs b) ∧
    (∀ t, .tmp t ∈ o.op.operands → ∀ j ∈ writes ops t, (j < i ∧ ∃ e ∈ o.after, Region.binds .any e = true ∧ e.on = j) ∨ (i ≤ j ∧ (j = i ∨ reachB ops ops.size j i = true))) := by
  have hlt : i < ops.size := (Array.getElem?_eq_some_iff.1 hi).1
  have h1 := List.all_eq_true.1 h i (List.mem_range.2 hlt)
  simp only [hi, Bool.and_eq_true] at h1
  obtain ⟨⟨⟨⟨a, b⟩, c⟩, d⟩, e⟩ := h1
  refine ⟨fun t ht => ?_, fun x hx hb => ?_, ?_, fun cs bb hh => ?_, fun t ht j hj => ?_⟩
  · simp only [ht, Bool.and_eq_true] at a
    exact ⟨fun j hj => by simpa using List.all_eq_true.1 a.1 j hj, by simpa using a.2⟩
  · have := Array.all_eq_true_iff_forall_mem.1 b x hx
    simpa [hb] using this
  · simpa using c
  · rw [hh] at d
    cases d
  · have := Array.all_eq_true_iff_forall_mem.1 e (.tmp t) (by simpa using ht)
    have := List.all_eq_true.1 this j hj
    by_cases hji : j < i
    · rw [if_pos hji] at this
      obtain ⟨x, hx, hb⟩ := Array.any_eq_true'.1 this
      simp only [Bool.and_eq_true, beq_iff_eq] at hb
      exact .inl ⟨hji, x, hx, hb.1, hb.2⟩
    · rw [if_neg hji] at this
      simp only [Bool.or_eq_true, beq_iff_eq] at this
      exact .inr ⟨by omega, this⟩
theorem reach_listed {ops : Array Oper} {listed : Array Bool} (hc : ∀ (k : Nat) (o : Oper), ops[k]? = some o → listed.getD k false = true → ∀ e ∈ o.after, Region.binds .any e = true → listed.getD e.on false = true) :
    ∀ (f j i : Nat), reachB ops f j i = true → listed.getD j false = true → listed.getD i false = true
  | 0, _, _, h, _ => by cases h
  | f + 1, j, i, h, hl => by
    unfold reachB at h
    split at h
    · cases h
    · rename_i o ho
      obtain ⟨e, he, hh⟩ := Array.any_eq_true'.1 h
      simp only [Bool.and_eq_true, Bool.or_eq_true, beq_iff_eq] at hh
      have h1 := hc j o ho hl e he hh.1
      rcases hh.2 with h2 | h2
      · rw [← h2]
        exact h1
      · exact reach_listed hc f e.on i h2 h1
/-- What an operation does in a world, by itself or by a call. -/
def YieldsW (P : Program) (o : Oper) (ρ : Operand → Value) (w : World) (T : Value → World → Prop) : Prop :=
  (∃ u w', (execOp ρ o).run P w = .ok (.value u) w' ∧ T u w') ∨
    ∃ f args, (execOp ρ o).run P w = .ok (.enter f args) w ∧ Calls P f args w fun e w' => ∃ u, e = .returned u ∧ T u w'
theorem Yields.wide {o : Oper} {ρ : Operand → Value} {w : World} {T S : Value → World → Prop} (h : Yields P o ρ w T) (hs : ∀ u w', Below w.heap.size w w' → T u w' → S u w') : YieldsW P o ρ w S := by
  rcases h with ⟨u, w', h, hb, ht⟩ | ⟨f, args, h, hc⟩
  · exact .inl ⟨u, w', h, hs u w' hb ht⟩
  · exact .inr ⟨f, args, h, hc.mono fun e w' ⟨u, he, hb, ht⟩ => ⟨u, he, hs u w' hb ht⟩⟩
/-- T: what each value is; U: what holds until an operation has run; R: what holds throughout. -/
structure WTable (P : Program) (md : Region.Mode) (ops : Array Oper) (a0 : Act) (S : Nat → Nat → Prop) (R : World → Prop) (T : Nat → Value → World → Prop) (U : Nat → World → Prop) (fin : (Nat → Value) → Act) : Prop where
  apart : Apart ops
  back : Back md ops
  free : ∀ (i : Nat) (o : Oper), ops[i]? = some o → o.guard = none ∧ (∀ cs b, o.op ≠ .select cs b) ∧
    ∀ t, .tmp t ∈ o.op.operands → ∀ (j : Nat) (oj : Oper), ops[j]? = some oj → oj.dst = some t → (j < i ∧ ∃ e ∈ o.after, Region.binds md e = true ∧ e.on = j) ∨
      (i ≤ j ∧ ∀ listed : Array Bool, (∀ (k : Nat) (o : Oper), ops[k]? = some o → listed.getD k false = true → ∀ e ∈ o.after, Region.binds md e = true → listed.getD e.on false = true) → listed.getD j false = true → listed.getD i false = true)
  fits : ∀ (i : Nat) (o : Oper) (t : Tmp), ops[i]? = some o → o.dst = some t → t < a0.tmps.size
  last : ∀ v, Agr ops v a0 (fin v) (Array.replicate ops.size true)
  tell : ∀ (i : Nat) (o : Oper), ops[i]? = some o → ∀ v w, R w → U i w → (∀ e ∈ o.after, Region.binds md e = true → T e.on (v e.on) w) →
    ∃ (b : Act) (L : Array Bool), Agr ops v a0 b L ∧ (∀ j, j < i → L.getD j false = true) ∧ (∀ j, L.getD j false = true → j < i) ∧
    YieldsW P o b.eval w fun u w' => R w' ∧ (∀ k x, S i k → T k x w → T k x w') ∧ (∀ k, k ≠ i → U k w → U k w') ∧ T i u w'
  late : ∀ (i k : Nat) (o : Oper), ops[k]? = some o → k ≠ i → ¬ S i k → ∃ e ∈ o.after, Region.binds md e = true ∧ e.on = i
structure WInv (md : Region.Mode) (ops : Array Oper) (a0 : Act) (R : World → Prop) (T : Nat → Value → World → Prop) (U : Nat → World → Prop) (listed : Array Bool) (v : Nat → Value) (a : Act) (w : World) : Prop where
  size : listed.size = ops.size
  agr : Agr ops v a0 a listed
  old : R w
  holds : ∀ i, listed.getD i false = true → T i (v i) w
  pend : ∀ i, listed.getD i true = false → U i w
  closed : ∀ (k : Nat) (o : Oper), ops[k]? = some o → listed.getD k false = true → ∀ e ∈ o.after, Region.binds md e = true → listed.getD e.on false = true
theorem WInv.sees {w : World} {S : Nat → Nat → Prop} {R : World → Prop} {T : Nat → Value → World → Prop} {U : Nat → World → Prop} {fin : (Nat → Value) → Act} {listed L : Array Bool} {v : Nat → Value} {a b : Act} {i : Nat} {o : Oper} (K : WTable P md ops a0 S R T U fin) (I : WInv md ops a0 R T U listed v a w)
    (hi : ops[i]? = some o) (hun : listed.getD i true = false) (hall : ∀ e ∈ o.after, Region.binds md e = true → listed.getD e.on false = true) (hb : Agr ops v a0 b L) (h1 : ∀ j, j < i → L.getD j false = true) (h2 : ∀ j, L.getD j false = true → j < i) : ∀ x ∈ o.op.operands, a.eval x = b.eval x := by
  intro x hx
  cases x with
  | tmp t =>
    show a.tmps.getD t undef = b.tmps.getD t undef
    by_cases hw : ∃ (j : Nat) (oj : Oper), ops[j]? = some oj ∧ oj.dst = some t
    · obtain ⟨j, oj, hj, hd⟩ := hw
      rcases (K.free i o hi).2.2 t (by simpa using hx) j oj hj hd with ⟨hji, e, he, hbd, hon⟩ | ⟨hij, hcl⟩
      · have hlj : listed.getD j false = true := hon ▸ hall e he hbd
        rw [I.agr.done j oj t hj hd hlj (K.fits j oj t hj hd), hb.done j oj t hj hd (h1 j hji) (K.fits j oj t hj hd)]
      · rw [I.agr.rest t fun i' o' hi' hl' hd' => ?_, hb.rest t fun i' o' hi' hl' hd' => ?_]
        · have := K.apart i' j o' oj t hi' hj hd' hd
          subst this
          have := h2 i' hl'
          omega
        · have := K.apart i' j o' oj t hi' hj hd' hd
          subst this
          have h3 := hcl listed I.closed hl'
          rw [(not_listed hun).1] at h3
          cases h3
    · rw [I.agr.rest t fun i o hi _ hd => hw ⟨i, o, hi, hd⟩, hb.rest t fun i o hi _ hd => hw ⟨i, o, hi, hd⟩]
  | _ => rfl
theorem unset_ne {listed : Array Bool} {i j : Nat} (h : (listed.setIfInBounds i true).getD j true = false) : j ≠ i ∧ listed.getD j true = false := by
  by_cases e : i = j
  · subst e
    by_cases hlt : i < listed.size
    · simp [hlt] at h
    · simp [hlt] at h
  · refine ⟨fun h' => e h'.symm, ?_⟩
    have hj : j < listed.size := by
      by_cases hj : j < listed.size
      · exact hj
      · simp [hj] at h
    simpa [hj, Array.getElem_setIfInBounds, e] using h
theorem set_true {listed : Array Bool} {i j : Nat} (h : listed.getD j false = true) : (listed.setIfInBounds i true).getD j false = true := by
  have hj : j < listed.size := by
    by_cases hj : j < listed.size
    · exact hj
    · simp [hj] at h
  by_cases e : i = j
  · subst e
    simp [hj]
  · simpa [hj, Array.getElem_setIfInBounds, e] using h
theorem WInv.next {w w' : World} {S : Nat → Nat → Prop} {R : World → Prop} {T : Nat → Value → World → Prop} {U : Nat → World → Prop} {fin : (Nat → Value) → Act} {listed : Array Bool} {v : Nat → Value} {a : Act} {i : Nat} {o : Oper} {u : Value} (K : WTable P md ops a0 S R T U fin) (I : WInv md ops a0 R T U listed v a w)
    (hi : ops[i]? = some o) (hun : listed.getD i true = false) (hr : R w') (hk : ∀ k x, S i k → T k x w → T k x w') (hp : ∀ k, k ≠ i → U k w → U k w') (ht : T i u w') (hall : ∀ e ∈ o.after, Region.binds md e = true → listed.getD e.on false = true) :
    WInv md ops a0 R T U (listed.setIfInBounds i true) (fun j => if j = i then u else v j) (a.put o.dst u) w' := by
  obtain ⟨hl, hlt⟩ := not_listed hun
  refine ⟨by simpa using I.size, ?_, hr, fun j hj => ?_, fun j hj => ?_, ?_⟩
  · have := I.agr.step (u' := fun j => if j = i then u else v j) K.apart hi hlt fun j hj => by
      have : j ≠ i := fun e => by rw [e, hl] at hj; cases hj
      simp [this]
    simpa using this
  · by_cases e : j = i
    · subst e
      simpa using ht
    · simp only [e, if_false]
      have hj0 := (set_or hj).resolve_left e
      refine hk j _ ?_ (I.holds j hj0)
      have hjl : j < ops.size := by
        rw [← I.size]
        by_cases hs : j < listed.size
        · exact hs
        · simp [hs] at hj0
      refine Classical.byContradiction fun hns => ?_
      obtain ⟨x, hx, hb, hon⟩ := K.late i j ops[j] (Array.getElem?_eq_getElem hjl) e hns
      have := I.closed j ops[j] (Array.getElem?_eq_getElem hjl) hj0 x hx hb
      rw [hon, hl] at this
      cases this
  · obtain ⟨hne, hj'⟩ := unset_ne hj
    exact hp j hne (I.pend j hj')
  · intro k o' ho' hk' x hx hb
    by_cases e : k = i
    · subst e
      obtain rfl : o' = o := Option.some.inj (ho'.symm.trans hi)
      exact set_true (hall x hx hb)
    · exact set_true (I.closed k o' ho' ((set_or hk').resolve_left e) x hx hb)
theorem run_wide {S : Nat → Nat → Prop} {R : World → Prop} {T : Nat → Value → World → Prop} {U : Nat → World → Prop} {fin : (Nat → Value) → Act} {Q : Exit → Act → World → Prop} (K : WTable P md ops a0 S R T U fin)
    (hQ : ∀ v w, R w → (∀ i, i < ops.size → T i (v i) w) → Q .normal (fin v) w) :
    ∀ (fuel : Nat) (listed : Array Bool) (v : Nat → Value) (a : Act) (w : World), WInv md ops a0 R T U listed v a w → listed.toList.count false ≤ fuel → wpAny P md ops Q fuel listed a w := by
  have ends : ∀ (listed : Array Bool) (v : Nat → Value) (a : Act) (w : World), WInv md ops a0 R T U listed v a w → (∀ i, i < ops.size → listed.getD i false = true) → Q .normal a w := by
    intro listed v a w I h
    have e : a = fin v := I.agr.all (K.last v) h (fun i hi => by simp [hi])
    rw [e]
    exact hQ v w I.old fun i hi => I.holds i (h i hi)
  intro fuel
  induction fuel with
  | zero =>
    intro listed v a w I hc
    have hall : ∀ i, i < ops.size → listed.getD i false = true := by
      intro i hi
      have h0 : false ∉ listed.toList := List.count_eq_zero.1 (Nat.le_zero.1 hc)
      have hi' : i < listed.size := by rw [I.size]; exact hi
      cases hv : listed.getD i false with
      | true => rfl
      | false =>
        have : listed[i] = false := by simpa [hi'] using hv
        exact absurd (this ▸ Array.getElem_mem_toList hi') h0
    refine ⟨List.eq_nil_iff_forall_not_mem.2 fun i hi => ?_, ends _ v _ _ I hall⟩
    obtain ⟨hun, o, ho, -⟩ := mem_ready.1 hi
    have := hall i (Array.getElem?_eq_some_iff.1 ho).1
    rw [(not_listed hun).1] at this
    cases this
  | succ fuel ih =>
    intro listed v a w I hc
    refine ⟨fun h => ends _ v _ _ I (all_listed K.back I.size h), fun i hi => ?_⟩
    obtain ⟨hun, o, ho, hall⟩ := mem_ready.1 hi
    obtain ⟨hg, hsel, hwt⟩ := K.free i o ho
    have hcount : (listed.setIfInBounds i true).toList.count false ≤ fuel := by have := unlisted_set hun; omega
    have hw : Region.wanted o (yielded ops a.tmps) = true := by simp [Region.wanted, hg]
    unfold wpOp
    simp only [ho, hw, if_true]
    left
    obtain ⟨b, L, hA, hL1, hL2, hY⟩ := K.tell i o ho v w I.old (I.pend i hun) (fun e he hb => I.holds _ (hall e he hb))
    have hex : execOp a.eval o = execOp b.eval o := execOp_congr o hsel (I.sees K ho hun hall hA hL1 hL2)
    rcases hY with ⟨u, w', h, hr, hk, hp, ht⟩ | ⟨f, args, h, hc'⟩
    · unfold Oper.wp
      rw [hex, h]
      exact ih _ _ _ w' (I.next K ho hun hr hk hp ht hall) hcount
    · unfold Oper.wp
      rw [hex, h]
      refine hc'.mono ?_
      rintro e w' ⟨u, rfl, hr, hk, hp, ht⟩
      exact ih _ _ _ w' (I.next K ho hun hr hk hp ht hall) hcount
/-- What is asked of the operations of a list, one by one, each in the frame that the ones ahead of it leave: the one at n may write in what is its own alone. -/
def TellOwn (P : Program) (n : Nat) (R O : World → Prop) (T : Nat → Value → World → Prop) : List Oper → Nat → ((Nat → Value) → Act) → Prop
  | [], _, _ => True
  | o :: l, i, env => (if i = n then (∀ v w, R w → O w → (∀ j, (o.after.any fun e => Region.binds .any e && e.on == j) = true → T j (v j) w) → YieldsW P o (env v).eval w fun u w' => R w' ∧ (∀ k x, k < n → T k x w → T k x w') ∧ T i u w')
      else ∀ v w, R w → (∀ j, (o.after.any fun e => Region.binds .any e && e.on == j) = true → T j (v j) w) → Yields P o (env v).eval w (T i)) ∧ TellOwn P n R O T l (i + 1) fun v => (env v).put o.dst (v i)
theorem tellOwn_at {n : Nat} {R O : World → Prop} {T : Nat → Value → World → Prop} (hap : Apart ops) (hR : ∀ w w', Below w.heap.size w w' → R w → R w') (hk : ∀ i u w w', Below w.heap.size w w' → T i u w → T i u w') (hO : ∀ w w', Below w.heap.size w w' → O w → O w') :
    ∀ (l : List Oper) (i : Nat) (env : (Nat → Value) → Act) (L : Array Bool), (∀ j, l[j]? = ops[i + j]?) → L.size = ops.size → (∀ j, j < i → L.getD j false = true) → (∀ j, L.getD j false = true → j < i) → (∀ v, Agr ops v a0 (env v) L) → TellOwn P n R O T l i env → ∀ (j : Nat) (o : Oper), l[j]? = some o → ∀ v w, R w → (i + j = n → O w) →
    (∀ e ∈ o.after, Region.binds .any e = true → T e.on (v e.on) w) → ∃ (b : Act) (L : Array Bool), Agr ops v a0 b L ∧ (∀ k, k < i + j → L.getD k false = true) ∧ (∀ k, L.getD k false = true → k < i + j) ∧ YieldsW P o b.eval w fun u w' => R w' ∧ (∀ k x, (i + j = n → k < n) → T k x w → T k x w') ∧ (∀ k, k ≠ i + j → (k = n → O w) → k = n → O w') ∧ T (i + j) u w'
  | [], _, _, _, _, _, _, _, _, _, j, o, h => by simp at h
  | o :: l, i, env, L, _, _, h1, h2, hA, h, 0, o', h' => by
    obtain rfl : o = o' := by simpa using h'
    intro v w hb ho he
    refine ⟨env v, L, hA v, h1, h2, ?_⟩
    have hd : ∀ j, (o.after.any fun e => Region.binds .any e && e.on == j) = true → T j (v j) w := fun j hj => by
      obtain ⟨e, hm, hh⟩ := Array.any_eq_true'.1 hj
      simp only [Bool.and_eq_true, beq_iff_eq] at hh
      exact hh.2 ▸ he e hm hh.1
    have h1 := h.1
    by_cases e : i = n
    · rw [if_pos e] at h1
      have hs : ∀ (u : Value) (w' : World), (R w' ∧ (∀ k x, k < n → T k x w → T k x w') ∧ T i u w') → R w' ∧ (∀ k x, (i + 0 = n → k < n) → T k x w → T k x w') ∧ (∀ k, k ≠ i + 0 → (k = n → O w) → k = n → O w') ∧ T (i + 0) u w' := fun u w' ⟨h2, h3, h4⟩ => ⟨h2, fun k x hk => h3 k x (hk e), fun k hne _ e' => absurd (e'.trans e.symm) hne, h4⟩
      rcases h1 v w hb (ho e) hd with ⟨u, w', hr, ht⟩ | ⟨f, args, hr, hc⟩
      · exact .inl ⟨u, w', hr, hs u w' ht⟩
      · exact .inr ⟨f, args, hr, hc.mono fun x w' ⟨u, hx, ht⟩ => ⟨u, hx, hs u w' ht⟩⟩
    · rw [if_neg e] at h1
      exact (h1 v w hb hd).wide fun u w' hb' ht => ⟨hR w w' hb' hb, fun k x _ => hk k x w w' hb', fun k _ ho' e' => hO w w' hb' (ho' e'), ht⟩
  | o :: l, i, env, L, hl, hs, h1, h2, hA, h, j + 1, o', h' => by
    have h0 : ops[i]? = some o := by simpa using (hl 0).symm
    have hlt : i < L.size := by rw [hs]; exact (Array.getElem?_eq_some_iff.1 h0).1
    have := tellOwn_at hap hR hk hO l (i + 1) (fun v => (env v).put o.dst (v i)) (L.setIfInBounds i true) (fun j => by have := hl (j + 1); simpa [Nat.add_assoc, Nat.add_comm 1 j] using this) (by simpa using hs)
      (fun k hk => by
        by_cases e : k = i
        · subst e; exact getD_set_eq hlt
        · exact set_keep (h1 k (by omega)))
      (fun k hk => by
        rcases set_or hk with e | e
        · omega
        · have := h2 k e; omega)
      (fun v => (hA v).step hap h0 hlt fun _ _ => rfl) h.2 j o' (by simpa using h')
    rwa [show i + 1 + j = i + (j + 1) by omega] at this
/-- **A region that draws its order, one operation of which writes in what is its own.** -/
theorem region_own {id : Nat} {l : List Oper} {w : World} (N n : Nat) (R : World → Prop) (hR : ∀ w w', Below w.heap.size w w' → R w → R w') (r0 : R w) (T : List (Value → World → Prop)) (O : World → Prop) {Q : Exit → Act → World → Prop} (hm : P.follows .mixedOrders = true)
    (hN : a0.tmps.size = N) (hok : okB2 l.toArray N = true) (hlate : ((l.drop (n + 1)).all fun o => o.after.any fun e => Region.binds .any e && e.on == n) = true) (hkeep : KeepAll T) (hO : ∀ w w', Below w.heap.size w w' → O w → O w') (h0 : O w)
    (h : ∀ fin : (Nat → Value) → Act, (∀ v, fin v = lexPut v l 0 a0) → TellOwn P n R O (At T) l 0 (fun _ => a0) ∧ ∀ v w', R w' → (∀ i, i < l.length → At T i (v i) w') → Q .normal (fin v) w') :
    (Code.region id l.toArray true).wp P Q a0 w := by
  obtain ⟨h1, h2⟩ := h (fun v => lexPut v l 0 a0) (fun _ => rfl)
  have hap : Apart l.toArray := fun i j o o' t hi hj hd hd' => by
    have := ((okB2_at hok hi).1 t hd).1 j (mem_writes hj hd')
    exact this.symm
  have K : WTable P .any l.toArray a0 (fun i k => i = n → k < n) R (At T) (fun k w' => k = n → O w') (fun v => lexPut v l 0 a0) := by
    refine ⟨hap, fun i o hi => (okB2_at hok hi).2.1, fun i o hi => ⟨(okB2_at hok hi).2.2.1, (okB2_at hok hi).2.2.2.1, fun t ht j oj hj hd => ?_⟩,
      fun i o t hi hd => by rw [hN]; exact ((okB2_at hok hi).1 t hd).2, fun v => lexPut_last hap, ?_, ?_⟩
    · rcases (okB2_at hok hi).2.2.2.2 t ht j (mem_writes hj hd) with h | ⟨h, h'⟩
      · exact .inl h
      · refine .inr ⟨h, fun listed hc hl => ?_⟩
        rcases h' with h' | h'
        · rw [← h']; exact hl
        · exact reach_listed hc _ j i h' hl
    rotate_left
    · intro i k o hk hne hs
      obtain ⟨e, hle⟩ := Classical.not_imp.1 hs
      subst e
      have hk' : l[k]? = some o := by simpa using hk
      have hm : o ∈ l.drop (i + 1) := by
        refine List.mem_of_getElem? (i := k - (i + 1)) ?_
        rw [List.getElem?_drop, show i + 1 + (k - (i + 1)) = k by omega]
        exact hk'
      have := List.all_eq_true.1 hlate o hm
      obtain ⟨e, he, hh⟩ := Array.any_eq_true'.1 this
      simp only [Bool.and_eq_true, beq_iff_eq] at hh
      exact ⟨e, he, hh.1, hh.2⟩
    intro i o hi v w' hb hu he
    have := tellOwn_at hap hR (keepAll_at hkeep) hO l 0 (fun _ => a0) (Array.replicate l.toArray.size false) (fun j => by simp) (by simp) (fun j hj => absurd hj (Nat.not_lt_zero j)) (fun j hj => by rw [none_listed] at hj; cases hj) (fun v => ⟨rfl, rfl, (fun i o t _ _ hl => by rw [none_listed] at hl; cases hl), fun _ _ => rfl⟩) h1 i o (by simpa using hi) v w' hb (by simpa using hu) he
    simpa using this
  refine wp_region_any hm (run_wide K (fun v w' hb hv => h2 v w' hb (fun i hi => hv i (by simpa using hi))) _ _ (fun _ => undef) _ _ ⟨by simp, ⟨rfl, rfl, ?_, fun _ _ => rfl⟩, hR w w.drew (Below.refl _ w).drew r0, ?_, fun k _ _ => hO w w.drew (Below.refl _ w).drew h0, ?_⟩ (by simp))
  · intro i o t _ _ hl
    rw [none_listed] at hl
    cases hl
  · intro i hl
    rw [none_listed] at hl
    cases hl
  · intro k o _ hl
    rw [none_listed] at hl
    cases hl
/-- append to a row that is one's own. -/
theorem yields_append {w : World} {o : Oper} {ρ : Operand → Value} {T : Value → World → Prop} (s x : Operand) (t : TypeId) (ho : o.op = .call { callee := .builtin .append, args := #[s, x], argTypes := #[t, t] })
    (base : Nat) (e : TypeId) (i : TypeInfo) (z : Value) (size bytes : Nat) (ht : P.underlying t = some (.slice e)) (hi : P.info? e = some i) (hz : i.zero = some z)
    (hsize : i.size = size) (hby : i.bytes = bytes) (hzs : z.cells.size = size) (hsz : 0 < size)
    (v : Value) (n : Nat) (xs : List Value) (hs : ρ s = v) (hown : w.ownsRow base e size v n xs)
    (ad : Addr) (m c : Nat) (news : List Value) (hx : ρ x = .slice (some ad) m c) (hl : news.length = m * size) (hnews : ∀ j u, news[j]? = some u → w.cell? (ad.add j) = some u) (h1 : ∀ u ∈ news, u.oneCell' = true)
    (hm : 0 < m) (h63 : n + m ≤ maxLen) (hbytes : (n + m) * bytes ≤ 140737488355328) (hbase : base ≤ w.heap.size)
    (h : ∀ g cap w', w'.ownsRow base e size (.slice (some ⟨g, 0, none⟩) (n + m) cap) (n + m) (xs ++ news) → w.grownBy w' v.ownBlock → T (.slice (some ⟨g, 0, none⟩) (n + m) cap) w') : YieldsW P o ρ w T := by
  obtain ⟨g, cap, w', hr, h2, h3, -, -⟩ := run_append_lies (P := P) w t o.type base e i z size bytes ht hi hz hsize hby hzs hsz v n xs hown ad m c news hl hnews h1 hm h63 hbytes hbase _ rfl
  refine .inl ⟨_, w', ?_, h g cap w' h2 h3⟩
  unfold execOp
  simp only [ho, resolve, invoke, builtin, Sem.run_bind, Sem.run_pure, Result.andThen_ok, List.map_toArray, List.map_cons, List.map_nil, hs, hx, hr]
end
end Go.Proofs.Ytomekndinopoaaa.region
namespace Go.Proofs.Ytomekndinopoaaa.multi
open Go.ChangeShapes Go.WideShapes Go.ChangeAt Go.RowKit Go.Maps Go.WideMaps
open Go.Proofs.Ytomekndinopoaaa.region
open Go.Proofs.Ytomekndinopoaaa.tm Go.Proofs.Ytomekndinopoaaa.opened Go.Proofs.Ytomekndinopoaaa.block Go.Proofs.Ytomekndinopoaaa.stamp Go.Proofs.Ytomekndinopoaaa.chain

theorem whole_cells {w : World} {g : Nat} {t : TypeId} {xs : List Value} (h : Whole w g t xs.toArray) : ∀ j u, xs[j]? = some u → w.cell? ((⟨g, 0, none⟩ : Addr).add j) = some u := by
  intro j u hj
  unfold Whole at h
  rcases j with _ | j <;> simp [World.cell?, Addr.add, h, hj]
theorem OwnP.above {T : TypeId} {w : World} {base k : Nat} {v : Value} {N : List TN} (h : OwnP T w base v N) (e : v.ownBlock = some k) : base ≤ k := by
  rcases h.2 with ⟨rfl, _⟩ | ⟨g, cap, cur, rfl, hb, _, _⟩
  · simp [Value.ownBlock] at e
  · obtain rfl : g = k := by simpa [Value.ownBlock] using e
    exact hb
/-- A row of one pair, apart from another row. -/
def LoneP (row : Option Nat) (p : TN) (u : Value) (w : World) : Prop := ∃ g, u = .slice (some ⟨g, 0, none⟩) 1 1 ∧ Whole w g 86 (cP p).toArray ∧ some g ≠ row
theorem keeps_lone (row : Option Nat) (p : TN) : Keeps (LoneP row p) := fun _ _ _ hb ⟨g, h1, h2, h3⟩ => ⟨g, h1, h2.below hb h2.inside, h3⟩
/-- A row of pairs that is one's own. -/
def NewP (base : Nat) (N : List TN) (u : Value) (w : World) : Prop := ∃ g cap, u = .slice (some ⟨g, 0, none⟩) N.length cap ∧ OwnP 86 w base u N
theorem keeps_new (base : Nat) (N : List TN) : Keeps (NewP base N) := fun _ _ _ hb ⟨g, cap, h1, h2⟩ => ⟨g, cap, h1, OwnP.below h2 hb⟩
set_option maxRecDepth 100000 in
set_option maxHeartbeats 4000000 in
theorem all_any {g b c : Nat} {d : Int} {A : Option Addr} {L : List Tm} {M : List TN} (G : GoodM d M) (hm : M.length ≤ 4096) (w : World) (h : MulP w g d b A c L M) :
    Calls Try.prog 32 #[.pointer (some ⟨g, 0, none⟩)] w fun e w' => ∃ (B : Option Addr) (c' : Nat), e = .returned (.slice B M.length c') ∧ Lp w' B M ∧ Below w.heap.size w w' := by
  obtain ⟨i0, hi, hz0, hz1, hz2⟩ := infoP _ infoP2
  have H := Lib.hid h
  have hG := Lib.hid G
  have c1 : w.cell? ⟨g, 1, none⟩ = some (.map (some b)) := h.cells.read 1
  have f1 : w.frozen? ⟨g, 1, none⟩ = false := h.cells.soft 1
  clear h G
  have K1 := Lib.hid (keys_call (some b) w)
  have S1 := Lib.hid (sortedK w.heap.size b hG.out hm (w.alloc (.cells #[.map (some b)] 72)) (by simp) (Boxed.new w 72 _).cell (H.out.own.below (fresh1 w (.cells #[.map (some b)] 72)) H.out.own.lt))
  go_enter Try.func32, Try.ntmps32
  go_wp2_with fail
  refine K1.out.mono ?_
  rintro e w1 ⟨rfl, rfl⟩
  go_wp2_with fail
  refine S1.out.mono ?_
  rintro e w3 ⟨B, c3, rfl, h3, b3⟩
  have HL := Lib.hid h3
  have B3 := Lib.hid ((fresh1 w (.cells #[.map (some b)] 72)).trans (b3.mono (by simp)))
  have H3 := Lib.hid (H.out.below B3.out)
  clear h3 b3 S1 K1 c1 f1
  go_wp2_with fail
  go_loopw [3, 13] (fun v s wr => ∃ (k : Nat) (N : List TN) (D : Option Addr) (c' : Nat), k ≤ M.length ∧ v = .slice D N.length c' ∧ s = .int .i64 k ∧ Hid (N = M.take k) ∧ Hid (OwnP 86 wr w3.heap.size (.slice D N.length c') N) ∧ Below w3.heap.size w3 wr) (fun _ s _ => M.length - (intOf s).toNat)
  case atStart => exact ⟨0, [], none, 0, Nat.zero_le _, rfl, rfl, Lib.hid rfl, Lib.hid (World.ownsRow_nil _ _ _ _), Below.refl _ _⟩
  case round =>
    obtain ⟨k, N, D, c', hk, rfl, rfl, HN, HO, BB⟩ := hrel
    have hkt : N.length = k := by rw [HN.out, List.length_take]; omega
    by_cases hlt : k < M.length
    · obtain ⟨p, hp, hpm⟩ : ∃ p, M[k]? = some p ∧ p ∈ M := ⟨M[k], by simp [hlt], List.getElem_mem hlt⟩
      have HP : Hid (N ++ [p] = M.take (k + 1)) := Lib.hid (by rw [HN.out, List.take_add_one, hp]; rfl)
      have hx : (M.map (·.1))[k]? = some p.1 := by rw [List.getElem?_map, hp]; rfl
      have iT := hG.out.inn p hpm
      have hcm := count_mem hG.out.srt hpm
      obtain ⟨t, n⟩ := p
      simp only at hx iT hcm
      obtain ⟨b1, o1, hA, hb1, c0, c1, c2, c3, c4⟩ := (HL.out.below BB).at hx
      subst hA
      clear hx hp hpm HN
      have bb := fresh1 wr (.cells (#[.int .u32 t.e, .int .i64 t.d, .int .u32 t.a, .int .u32 t.b, .int .u32 t.c]) 33)
      have BW := Lib.hid (BB.trans (bb.mono BB.size))
      have HO2 := Lib.hid (HO.out.below bb)
      have OX := Whole.fresh wr 33 (#[.int .u32 t.e, .int .i64 t.d, .int .u32 t.a, .int .u32 t.b, .int .u32 t.c])
      have hne := Lib.hid (HO.out.away (gz := wr.heap.size) (Nat.le_refl _))
      clear bb HO
      go_upto_region 5 with fail
      change Code.wp _ _ _ _ (wr.alloc (.cells (#[.int .u32 t.e, .int .i64 t.d, .int .u32 t.a, .int .u32 t.b, .int .u32 t.c]) 33))
      generalize wr.alloc (.cells (#[.int .u32 t.e, .int .i64 t.d, .int .u32 t.a, .int .u32 t.b, .int .u32 t.c]) 33) = W6 at HO2 BW OX ⊢
      generalize wr.heap.size = gz at OX hne ⊢
      clear BB c0 c1 c2 c3 c4
      have HX := Lib.hid OX
      clear OX
      generalize hrow : (Value.slice D N.length c').ownBlock = row at hne
      have hrow := Lib.hid hrow
      have hbase := Lib.hid BW.out.size
      refine region_own 30 10 (fun w2 => Below w3.heap.size W6 w2 ∧ W6.heap.size ≤ w2.heap.size ∧ Whole w2 gz 33 #[.int .u32 t.e, .int .i64 t.d, .int .u32 t.a, .int .u32 t.b, .int .u32 t.c]) ?hR ?r0 [Is (.slice D N.length c'), Is (.agg #[.int .u32 t.e, .int .i64 t.d, .int .u32 t.a, .int .u32 t.b, .int .u32 t.c]), Is (.pointer (some ⟨g, 0, none⟩)), Is (.pointer (some ⟨g, 0, none⟩)), Is (.pointer (some ⟨g, 1, none⟩)), Is (.map (some b)), Is (.agg #[.int .u32 t.e, .int .i64 t.d, .int .u32 t.a, .int .u32 t.b, .int .u32 t.c]), Is (.int .i64 n), Is (.agg (cP (t, n)).toArray), LoneP row (t, n), NewP w3.heap.size (N ++ [(t, n)]), NewP w3.heap.size (N ++ [(t, n)])] (fun w2 => OwnP 86 w2 w3.heap.size (.slice D N.length c') N) (by kernel_rfl) rfl (by kernel_rfl) (by kernel_rfl) ?keep ?hO HO2.out ?tell
      case hR => exact fun w2 w4 hb ⟨h1, h2, h3⟩ => ⟨h1.trans (hb.mono (Nat.le_trans hbase.out h2)), Nat.le_trans h2 hb.size, h3.below hb h3.inside⟩
      case r0 => exact ⟨Below.refl _ _, Nat.le_refl _, HX.out⟩
      case keep => exact ⟨keeps_is _, keeps_is _, keeps_is _, keeps_is _, keeps_is _, keeps_is _, keeps_is _, keeps_is _, keeps_is _, keeps_lone _ _, keeps_new _ _, keeps_new _ _, trivial⟩
      case hO => exact fun w2 w4 hb h => OwnP.below h hb
      case tell =>
        intro fin hfin
        simp [lexPut, Act.put] at hfin
        simp only [TellOwn]
        refine ⟨⟨?_, ?_, ?_, ?_, ?_, ?_, ?_, ?_, ?_, ?_, ?_, ?_, trivial⟩, ?_⟩
        · intro v w2 hr hd
          exact yields_move rfl (by rfl)
        · intro v w2 hr hd
          exact yields_is (W0 := w2) (tells_load rfl (by rfl) hr.2.2 Try.underlying33 rfl (by kernel_rfl)) (Below.refl _ _)
        · intro v w2 hr hd
          exact yields_move rfl (by rfl)
        · intro v w2 hr hd
          have h0 : v 2 = _ := hd 2 (by kernel_rfl)
          refine yields_run (u := .pointer (some ⟨g, 0, none⟩)) (w' := w2) ?_ (Below.refl _ _) rfl
          unfold execOp
          simp [go_sem, Act.eval, Act.put, h0]
        · intro v w2 hr hd
          have h0 : v 3 = _ := hd 3 (by kernel_rfl)
          refine yields_run (u := .pointer (some ⟨g, 1, none⟩)) (w' := w2) ?_ (Below.refl _ _) rfl
          unfold execOp
          simp [go_sem, Act.eval, Act.put, h0]
        · intro v w2 hr hd
          have h0 : v 4 = _ := hd 4 (by kernel_rfl)
          have hc : w2.cell? ⟨g, 1, none⟩ = some (.map (some b)) := (H3.out.below (BW.out.trans hr.1)).cells.read 1
          refine yields_run (u := .map (some b)) (w' := w2) ?_ (Below.refl _ _) rfl
          unfold execOp
          simp [go_sem, Act.eval, Act.put, h0, hc]
        · intro v w2 hr hd
          exact yields_is (W0 := w2) (tells_load rfl (by rfl) hr.2.2 Try.underlying33 rfl (by kernel_rfl)) (Below.refl _ _)
        · intro v w2 hr hd
          have h0 : v 5 = _ := hd 5 (by kernel_rfl)
          have h6 : v 6 = _ := hd 6 (by kernel_rfl)
          have hl := look_run (H3.out.below (BW.out.trans hr.1)).own hG.out t iT
          rw [hcm] at hl
          refine yields_run (u := .int .i64 n) (w' := w2) ?_ (Below.refl _ _) rfl
          unfold execOp
          simp only [Act.eval, Act.put]
          simp [go_sem, h0, h6, hl]
        · intro v w2 hr hd
          have h1 : v 1 = _ := hd 1 (by kernel_rfl)
          have h7 : v 7 = _ := hd 7 (by kernel_rfl)
          refine yields_run (u := .agg (cP (t, n)).toArray) (w' := w2) ?_ (Below.refl _ _) rfl
          unfold execOp
          simp [go_sem, Act.eval, Act.put, h1, h7]
          rfl
        · intro v w2 hr hd
          have h8 : v 8 = _ := hd 8 (by kernel_rfl)
          refine yields_run (u := .slice (some ⟨w2.heap.size, 0, none⟩) 1 1) (w' := w2.alloc (.cells (cP (t, n)).toArray 86)) ?_ (fresh1 w2 _) ⟨w2.heap.size, rfl, Whole.fresh w2 _ _, ?_⟩
          · unfold execOp
            simp [go_sem, Act.eval, Act.put, h8, cP]
          · rw [← hrow.out]
            exact HO2.out.away hr.2.1
        · intro v w2 hr ho hd
          have h0 : v 0 = _ := hd 0 (by kernel_rfl)
          obtain ⟨gy, hz, hw, hny⟩ : LoneP row (t, n) (v 9) w2 := hd 9 (by kernel_rfl)
          refine yields_append (.tmp 17) (.tmp 26) 63 rfl w3.heap.size 86 i0 (.agg (cP P0).toArray) 6 40 Try.underlying63 hi hz0 hz1 hz2 rfl (by decide) (.slice D N.length c') N.length (N.flatMap cP) (by simp [Act.eval, Act.put, h0]) ho ⟨gy, 0, none⟩ 1 1 (cP (t, n)) (by simp [Act.eval, Act.put, hz]) rfl (whole_cells hw) (one_cP (t, n)) (by decide) (by unfold maxLen; omega) (by omega) (Nat.le_trans hbase.out hr.2.1) ?_
          intro g8 cap8 w8 hown hgrow
          rw [hrow.out] at hgrow
          refine ⟨⟨hr.1.grown hgrow (Nat.le_trans hbase.out hr.2.1) ?_, Nat.le_trans hr.2.1 hgrow.size, hr.2.2.grown hgrow hne.out⟩, ?_, g8, cap8, by simp, by unfold OwnP; simpa using hown⟩
          · intro k' ek
            rw [← hrow.out] at ek
            exact OwnP.above ho ek
          · intro k' x hk' hx
            match k', hk' with
            | 0, _ | 1, _ | 2, _ | 3, _ | 4, _ | 5, _ | 6, _ | 7, _ | 8, _ => exact hx
            | 9, _ =>
              obtain ⟨gx, h1, h2, h3⟩ := hx
              exact ⟨gx, h1, h2.grown hgrow h3, h3⟩
        · intro v w2 hr hd
          have h10 : NewP w3.heap.size (N ++ [(t, n)]) (v 10) w2 := hd 10 (by kernel_rfl)
          refine yields_assign rfl ?_
          change NewP w3.heap.size (N ++ [(t, n)]) _ w2
          simpa [Act.eval, Act.put] using h10
        · intro v w2 hr hv
          have h11 : NewP w3.heap.size (N ++ [(t, n)]) (v 11) w2 := hv 11 (by decide)
          rw [hfin]
          clear hfin hv
          generalize v 11 = v11 at h11 ⊢
          obtain ⟨g8, cap8, rfl, ho⟩ := h11
          have HO8 := Lib.hid ho
          have HB := Lib.hid (BW.out.trans hr.1)
          clear ho hr
          go_wp2_with fail
          go_roundw
          case rel => exact ⟨k + 1, N ++ [(t, n)], some ⟨g8, 0, none⟩, cap8, by omega, rfl, by go_num, HP, HO8, HB.out⟩
          case measure => simp [intOf]; omega
    · obtain rfl : k = M.length := by omega
      have : N = M := by rw [HN.out, List.take_length]
      subst this
      go_wp2_with fail
      go_ret
      exact ⟨D, ⟨c', rfl⟩, HO.out.lies, B3.out.trans (BB.mono B3.out.size)⟩
end Go.Proofs.Ytomekndinopoaaa.multi
