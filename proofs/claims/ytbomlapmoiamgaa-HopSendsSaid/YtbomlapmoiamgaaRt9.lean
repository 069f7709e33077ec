/-
  A region that draws its order, in the widest form, with guards that hold, where what an operation has told needs not last behind a writing one that waits for all who use it.
-/
import Derived.Test.YtbomlapmoiamgaaRt8
set_option linter.unusedSimpArgs false
set_option linter.unusedVariables false
namespace Go.Proofs.Ytbomlapmoiamgaa.region
open Go.RowKit Go.Proofs.Ytbomlapmoiamgaa.block

/-! ### Who waits for whom, by masks -/
def maskOf (ms : List Nat) (o : Oper) : Nat := o.after.toList.foldl (fun m e => if Region.binds .any e then (m ||| 2 ^ e.on) ||| ms.getD e.on 0 else m) 0
def masksF : List Oper → List Nat → List Nat
  | [], ms => ms
  | o :: r, ms => masksF r (ms ++ [maskOf ms o])
def rch (ops : Array Oper) (j i : Nat) : Bool := ((masksF ops.toList []).getD j 0).testBit i
theorem mask_bit (ms : List Nat) (i : Nat) : ∀ (l : List Edge) (m : Nat), (l.foldl (fun m e => if Region.binds .any e then (m ||| 2 ^ e.on) ||| ms.getD e.on 0 else m) m).testBit i = true →
    m.testBit i = true ∨ ∃ e ∈ l, Region.binds .any e = true ∧ (e.on = i ∨ (ms.getD e.on 0).testBit i = true)
  | [], m, h => .inl h
  | e :: l, m, h => by
    rw [List.foldl_cons] at h
    rcases mask_bit ms i l _ h with h1 | ⟨e', he, hb, hx⟩
    · by_cases hb : Region.binds .any e = true
      · rw [if_pos hb, Nat.testBit_or, Nat.testBit_or, Bool.or_eq_true, Bool.or_eq_true] at h1
        rcases h1 with (h1 | h1) | h1
        · exact .inl h1
        · rw [Nat.testBit_two_pow] at h1
          exact .inr ⟨e, by simp, hb, .inl (of_decide_eq_true h1)⟩
        · exact .inr ⟨e, by simp, hb, .inr h1⟩
      · rw [if_neg hb] at h1
        exact .inl h1
    · exact .inr ⟨e', List.mem_cons_of_mem _ he, hb, hx⟩
theorem masks_sound {ops : Array Oper} {listed : Array Bool} (hc : ∀ (k : Nat) (o : Oper), ops[k]? = some o → listed.getD k false = true → ∀ e ∈ o.after, Region.binds .any e = true → listed.getD e.on false = true) :
    ∀ (l : List Oper) (ms : List Nat), (∀ n, l[n]? = ops[ms.length + n]?) → (∀ j i, (ms.getD j 0).testBit i = true → listed.getD j false = true → listed.getD i false = true) →
      ∀ j i, ((masksF l ms).getD j 0).testBit i = true → listed.getD j false = true → listed.getD i false = true
  | [], ms, _, hs => hs
  | o :: r, ms, hl, hs => by
    refine masks_sound hc r (ms ++ [maskOf ms o]) (fun n => by have := hl (n + 1); rw [List.length_append]; simpa [Nat.add_assoc, Nat.add_comm 1 n] using this) fun j i hb hj => ?_
    rcases Nat.lt_trichotomy j ms.length with h | h | h
    · rw [List.getD_eq_getElem?_getD, List.getElem?_append_left h, ← List.getD_eq_getElem?_getD] at hb
      exact hs j i hb hj
    · subst h
      rw [List.getD_eq_getElem?_getD, List.getElem?_append_right (Nat.le_refl _), Nat.sub_self] at hb
      have ho : ops[ms.length]? = some o := by simpa using (hl 0).symm
      rcases mask_bit ms i o.after.toList 0 hb with h1 | ⟨e, he, hbd, hx⟩
      · simp at h1
      · have h2 := hc _ o ho hj e (by simpa using he) hbd
        rcases hx with rfl | hx
        · exact h2
        · exact hs _ i hx h2
    · rw [List.getD_eq_getElem?_getD, List.getElem?_eq_none (by simp; omega)] at hb
      simp at hb
theorem rch_listed {ops : Array Oper} {listed : Array Bool} (hc : ∀ (k : Nat) (o : Oper), ops[k]? = some o → listed.getD k false = true → ∀ e ∈ o.after, Region.binds .any e = true → listed.getD e.on false = true) (j i : Nat) (h : rch ops j i = true) (hj : listed.getD j false = true) : listed.getD i false = true :=
  masks_sound hc ops.toList [] (fun n => by simp) (fun j i h => by simp at h) j i h hj
theorem rch_dep {ops : Array Oper} {listed : Array Bool} {i k : Nat} {o : Oper} (hc : ∀ (k : Nat) (o : Oper), ops[k]? = some o → listed.getD k false = true → ∀ e ∈ o.after, Region.binds .any e = true → listed.getD e.on false = true)
    (hi : ops[i]? = some o) (hlt : i < listed.size) (hall : ∀ e ∈ o.after, Region.binds .any e = true → listed.getD e.on false = true) (hne : k ≠ i) (h : rch ops i k = true) : listed.getD k false = true := by
  have h1 := rch_listed (listed := listed.setIfInBounds i true) (fun k' o' ho' hk' e he hb => by
    by_cases e9 : k' = i
    · subst e9
      obtain rfl : o' = o := Option.some.inj (ho'.symm.trans hi)
      exact set_keep (hall e he hb)
    · exact set_keep (hc k' o' ho' ((set_or hk').resolve_left e9) e he hb)) i k h (getD_set_eq hlt)
  exact (set_or h1).resolve_left hne
section
variable {P : Program} {ops : Array Oper} {a0 : Act}
structure ZTab (P : Program) (ops : Array Oper) (a0 : Act) (S V Z : Nat → Nat → Prop) (R : World → Prop) (T : Nat → (Nat → Value) → World → Prop) (U : Nat → World → Prop) (fin : (Nat → Value) → Act) : Prop where
  apart : Apart ops
  back : Back .any ops
  free : ∀ (i : Nat) (o : Oper), ops[i]? = some o → (∀ j b, o.guard = some (j, b) → (∃ e ∈ o.after, Region.binds .any e = true ∧ e.on = j) ∧ ∃ oj t, ops[j]? = some oj ∧ oj.dst = some t) ∧ (∀ cs b, o.op ≠ .select cs b) ∧
    ∀ t, .tmp t ∈ o.op.operands → ∀ (j : Nat) (oj : Oper), ops[j]? = some oj → oj.dst = some t → (j < i ∧ ∃ e ∈ o.after, Region.binds .any e = true ∧ e.on = j) ∨
      (i ≤ j ∧ ∀ listed : Array Bool, (∀ (k : Nat) (o : Oper), ops[k]? = some o → listed.getD k false = true → ∀ e ∈ o.after, Region.binds .any e = true → listed.getD e.on false = true) → listed.getD j false = true → listed.getD i false = true)
  fits : ∀ (i : Nat) (o : Oper) (t : Tmp), ops[i]? = some o → o.dst = some t → t < a0.tmps.size
  last : ∀ v, Agr ops v a0 (fin v) (Array.replicate ops.size true)
  tell : ∀ (i : Nat) (o : Oper), ops[i]? = some o → ∀ v w, R w → U i w → (∀ e ∈ o.after, Region.binds .any e = true → (∀ z, Z z e.on → rch ops i z = false) → T e.on v w) →
    ∃ (b : Act) (L : Array Bool), Agr ops v a0 b L ∧ (∀ j, j < i → L.getD j false = true) ∧ (∀ j, L.getD j false = true → j < i) ∧ (∀ j b, o.guard = some (j, b) → v j = .bool b) ∧
    YieldsS P o b.eval w fun u w' => R w' ∧ (∀ k v', S i k → T k v' w → T k v' w') ∧ (∀ k, V i k → U k w → U k w') ∧ T i (upd v i u) w'
  late : ∀ i k, k ≠ i → ¬ S i k → rch ops k i = true ∨ Z i k
  dies : ∀ i k, Z i k → ∀ (j : Nat) (o : Oper), ops[j]? = some o → j ≠ i → (∃ e ∈ o.after, Region.binds .any e = true ∧ e.on = k) → rch ops i j = true ∨ rch ops j i = true
  early : ∀ i k, k ≠ i → ¬ V i k → rch ops i k = true
  near : ∀ i k, k ≠ i → rch ops k i = false → ∀ v u w, T k v w → T k (upd v i u) w
structure ZInv (ops : Array Oper) (a0 : Act) (Z : Nat → Nat → Prop) (R : World → Prop) (T : Nat → (Nat → Value) → World → Prop) (U : Nat → World → Prop) (listed : Array Bool) (v : Nat → Value) (a : Act) (w : World) : Prop where
  size : listed.size = ops.size
  agr : Agr ops v a0 a listed
  old : R w
  holds : ∀ i, listed.getD i false = true → (∃ z, listed.getD z false = true ∧ Z z i) ∨ T i v w
  pend : ∀ i, listed.getD i true = false → U i w
  closed : ∀ (k : Nat) (o : Oper), ops[k]? = some o → listed.getD k false = true → ∀ e ∈ o.after, Region.binds .any e = true → listed.getD e.on false = true
theorem ZInv.sees {w : World} {S V Z : Nat → Nat → Prop} {R : World → Prop} {T : Nat → (Nat → Value) → World → Prop} {U : Nat → World → Prop} {fin : (Nat → Value) → Act} {listed L : Array Bool} {v : Nat → Value} {a b : Act} {i : Nat} {o : Oper} (K : ZTab P ops a0 S V Z R T U fin) (I : ZInv ops a0 Z R T U listed v a w)
    (hi : ops[i]? = some o) (hun : listed.getD i true = false) (hall : ∀ e ∈ o.after, Region.binds .any e = true → listed.getD e.on false = true) (hb : Agr ops v a0 b L) (h1 : ∀ j, j < i → L.getD j false = true) (h2 : ∀ j, L.getD j false = true → j < i) : ∀ x ∈ o.op.operands, a.eval x = b.eval x := by
  intro x hx
  cases x with
  | tmp t =>
    show a.tmps.getD t undef = b.tmps.getD t undef
    by_cases hw : ∃ (j : Nat) (oj : Oper), ops[j]? = some oj ∧ oj.dst = some t
    · obtain ⟨j, oj, hj, hd⟩ := hw
      rcases (K.free i o hi).2.2 t (by simpa using hx) j oj hj hd with ⟨hji, e, he, hbd, hon⟩ | ⟨hij, hcl⟩
      · have hlj : listed.getD j false = true := hon ▸ hall e he hbd
        rw [I.agr.done j oj t hj hd hlj (K.fits j oj t hj hd), hb.done j oj t hj hd (h1 j hji) (K.fits j oj t hj hd)]
      · rw [I.agr.rest t fun i' o' hi' hl' hd' => ?_, hb.rest t fun i' o' hi' hl' hd' => ?_]
        · have := K.apart i' j o' oj t hi' hj hd' hd
          subst this
          have := h2 i' hl'
          omega
        · have := K.apart i' j o' oj t hi' hj hd' hd
          subst this
          have h3 := hcl listed I.closed hl'
          rw [(not_listed hun).1] at h3
          cases h3
    · rw [I.agr.rest t fun i o hi _ hd => hw ⟨i, o, hi, hd⟩, hb.rest t fun i o hi _ hd => hw ⟨i, o, hi, hd⟩]
  | _ => rfl
theorem ZInv.next {w w' : World} {S V Z : Nat → Nat → Prop} {R : World → Prop} {T : Nat → (Nat → Value) → World → Prop} {U : Nat → World → Prop} {fin : (Nat → Value) → Act} {listed : Array Bool} {v : Nat → Value} {a : Act} {i : Nat} {o : Oper} {u : Value} (K : ZTab P ops a0 S V Z R T U fin) (I : ZInv ops a0 Z R T U listed v a w)
    (hi : ops[i]? = some o) (hun : listed.getD i true = false) (hr : R w') (hk : ∀ k v', S i k → T k v' w → T k v' w') (hp : ∀ k, V i k → U k w → U k w') (ht : T i (upd v i u) w') (hall : ∀ e ∈ o.after, Region.binds .any e = true → listed.getD e.on false = true) :
    ZInv ops a0 Z R T U (listed.setIfInBounds i true) (upd v i u) (a.put o.dst u) w' := by
  obtain ⟨hl, hlt⟩ := not_listed hun
  refine ⟨by simpa using I.size, ?_, hr, fun j hj => ?_, fun j hj => ?_, ?_⟩
  · have := I.agr.step (u' := upd v i u) K.apart hi hlt fun j hj => by
      have : j ≠ i := fun e => by rw [e, hl] at hj; cases hj
      simp [upd, this]
    simpa [upd] using this
  · by_cases e : j = i
    · subst e
      exact .inr ht
    · have hj0 := (set_or hj).resolve_left e
      rcases I.holds j hj0 with ⟨z, hz1, hz2⟩ | hT
      · exact .inl ⟨z, set_keep hz1, hz2⟩
      by_cases hZ : Z i j
      · exact .inl ⟨i, by
          have : i < listed.size := hlt
          exact getD_set_eq this, hZ⟩
      have hnr : rch ops j i = false := by
        cases h : rch ops j i with
        | false => rfl
        | true =>
          have := rch_listed I.closed j i h hj0
          rw [hl] at this
          cases this
      refine .inr (K.near i j e hnr v u w' (hk j v ?_ hT))
      refine Classical.byContradiction fun hns => ?_
      rcases K.late i j e hns with h | h
      · rw [h] at hnr
        cases hnr
      · exact hZ h
  · obtain ⟨hne, hj'⟩ := unset_ne hj
    refine hp j ?_ (I.pend j hj')
    refine Classical.byContradiction fun hns => ?_
    have h1 := rch_dep I.closed hi hlt hall hne (K.early i j hne hns)
    rw [(not_listed hj').1] at h1
    cases h1
  · intro k o' ho' hk' x hx hb
    by_cases e : k = i
    · subst e
      obtain rfl : o' = o := Option.some.inj (ho'.symm.trans hi)
      exact set_true (hall x hx hb)
    · exact set_true (I.closed k o' ho' ((set_or hk').resolve_left e) x hx hb)
theorem run_fullZ {S V Z : Nat → Nat → Prop} {R : World → Prop} {T : Nat → (Nat → Value) → World → Prop} {U : Nat → World → Prop} {fin : (Nat → Value) → Act} {Q : Exit → Act → World → Prop} (K : ZTab P ops a0 S V Z R T U fin)
    (hQ : ∀ v w, R w → (∀ i, i < ops.size → (∃ z, Z z i) ∨ T i v w) → Q .normal (fin v) w) :
    ∀ (fuel : Nat) (listed : Array Bool) (v : Nat → Value) (a : Act) (w : World), ZInv ops a0 Z R T U listed v a w → listed.toList.count false ≤ fuel → wpAny P .any ops Q fuel listed a w := by
  have ends : ∀ (listed : Array Bool) (v : Nat → Value) (a : Act) (w : World), ZInv ops a0 Z R T U listed v a w → (∀ i, i < ops.size → listed.getD i false = true) → Q .normal a w := by
    intro listed v a w I h
    have e : a = fin v := I.agr.all (K.last v) h (fun i hi => by simp [hi])
    rw [e]
    exact hQ v w I.old fun i hi => (I.holds i (h i hi)).imp (fun ⟨z, _, hz⟩ => ⟨z, hz⟩) id
  intro fuel
  induction fuel with
  | zero =>
    intro listed v a w I hc
    have hall : ∀ i, i < ops.size → listed.getD i false = true := by
      intro i hi
      have h0 : false ∉ listed.toList := List.count_eq_zero.1 (Nat.le_zero.1 hc)
      have hi' : i < listed.size := by rw [I.size]; exact hi
      cases hv : listed.getD i false with
      | true => rfl
      | false =>
        have : listed[i] = false := by simpa [hi'] using hv
        exact absurd (this ▸ Array.getElem_mem_toList hi') h0
    refine ⟨List.eq_nil_iff_forall_not_mem.2 fun i hi => ?_, ends _ v _ _ I hall⟩
    obtain ⟨hun, o, ho, -⟩ := mem_ready.1 hi
    have := hall i (Array.getElem?_eq_some_iff.1 ho).1
    rw [(not_listed hun).1] at this
    cases this
  | succ fuel ih =>
    intro listed v a w I hc
    refine ⟨fun h => ends _ v _ _ I (all_listed K.back I.size h), fun i hi => ?_⟩
    obtain ⟨hun, o, ho, hall⟩ := mem_ready.1 hi
    obtain ⟨hg, hsel, hwt⟩ := K.free i o ho
    have hcount : (listed.setIfInBounds i true).toList.count false ≤ fuel := by have := unlisted_set hun; omega
    obtain ⟨b, L, hA, hL1, hL2, hgw, hY⟩ := K.tell i o ho v w I.old (I.pend i hun) (fun e he hb hnz => (I.holds _ (hall e he hb)).resolve_left fun ⟨z, hz1, hz2⟩ => by
      have hne : i ≠ z := fun e9 => by rw [← e9, (not_listed hun).1] at hz1; cases hz1
      rcases K.dies z _ hz2 i o ho hne ⟨e, he, hb, rfl⟩ with h8 | h8
      · have h9 := rch_listed I.closed z i h8 hz1
        rw [(not_listed hun).1] at h9
        cases h9
      · rw [hnz z hz2] at h8
        cases h8)
    have hw : Region.wanted o (yielded ops a.tmps) = true := by
      cases hgd : o.guard with
      | none => simp [Region.wanted, hgd]
      | some p =>
        obtain ⟨j, c⟩ := p
        obtain ⟨⟨e, he, hbd, hon⟩, oj, t, hoj, hdt⟩ := hg j c hgd
        have hl : listed.getD j false = true := hon ▸ hall e he hbd
        have hfit := K.fits j oj t hoj hdt
        have hval := I.agr.done j oj t hoj hdt hl hfit
        have hsz : t < a.tmps.size := by rw [I.agr.size]; exact hfit
        have hv := hgw j c hgd
        have hyd : yielded ops a.tmps j = some c := by
          unfold yielded
          simp only [hoj, hdt, Option.bind_some]
          have : a.tmps[t]? = some (.bool c) := by
            rw [hv] at hval
            simpa [hsz] using hval
          rw [this]
        simp [Region.wanted, hgd, hyd]
    unfold wpOp
    simp only [ho, hw, if_true]
    left
    have hex : execOp a.eval o = execOp b.eval o := execOp_congr o hsel (I.sees K ho hun hall hA hL1 hL2)
    rcases hY with (⟨u, w', h, hr, hk, hp, ht⟩ | ⟨f, args, h, hc'⟩) | ⟨w', h, hr, hk, hp, ht⟩
    · unfold Oper.wp
      rw [hex, h]
      exact ih _ _ _ w' (I.next K ho hun hr hk hp ht hall) hcount
    · unfold Oper.wp
      rw [hex, h]
      refine hc'.mono ?_
      rintro e w' ⟨u, rfl, hr, hk, hp, ht⟩
      exact ih _ _ _ w' (I.next K ho hun hr hk hp ht hall) hcount
    · unfold Oper.wp
      rw [hex, h]
      exact ih _ _ _ w' (I.next K ho hun hr hk hp ht hall) hcount
/-- What is asked of the operations of a list, one by one, each in the frame that the ones ahead of it leave. -/
def TellZ (P : Program) (need : Nat → Nat → Bool) (pr qr : List (Nat × Nat)) (n : Nat → Bool) (R : World → Prop) (O : Nat → World → Prop) (T : List Pd) : List Oper → Nat → ((Nat → Value) → Act) → Prop
  | [], _, _ => True
  | o :: l, i, env => (if n i = true then (∀ v w, R w → O i w → (∀ j, ((o.after.any fun e => Region.binds .any e && e.on == j) && need i j) = true → AtF T j v w) → (∀ j b, o.guard = some (j, b) → v j = .bool b) ∧ YieldsS P o (env v).eval w fun u w' => R w' ∧ (∀ k v', k ≠ i → pr.contains (i, k) = false → AtF T k v' w → AtF T k v' w') ∧ (∀ k, k ≠ i → n k = true → qr.contains (i, k) = false → O k w → O k w') ∧ AtF T i (upd v i u) w')
      else ∀ v w, R w → (∀ j, ((o.after.any fun e => Region.binds .any e && e.on == j) && need i j) = true → AtF T j v w) → (∀ j b, o.guard = some (j, b) → v j = .bool b) ∧ Yields P o (env v).eval w fun u w' => AtF T i (upd v i u) w') ∧ TellZ P need pr qr n R O T l (i + 1) fun v => (env v).put o.dst (v i)
theorem tellZ_at {need : Nat → Nat → Bool} {pr qr : List (Nat × Nat)} {n : Nat → Bool} {R : World → Prop} {O : Nat → World → Prop} {T : List Pd} (hap : Apart ops) (hR : ∀ w w', Below w.heap.size w w' → R w → R w') (hk : ∀ i v w w', Below w.heap.size w w' → AtF T i v w → AtF T i v w') (hO : ∀ k w w', Below w.heap.size w w' → O k w → O k w') :
    ∀ (l : List Oper) (i : Nat) (env : (Nat → Value) → Act) (L : Array Bool), (∀ j, l[j]? = ops[i + j]?) → L.size = ops.size → (∀ j, j < i → L.getD j false = true) → (∀ j, L.getD j false = true → j < i) → (∀ v, Agr ops v a0 (env v) L) → TellZ P need pr qr n R O T l i env → ∀ (j : Nat) (o : Oper), l[j]? = some o → ∀ v w, R w → (n (i + j) = true → O (i + j) w) →
    (∀ e ∈ o.after, Region.binds .any e = true → need (i + j) e.on = true → AtF T e.on v w) → ∃ (b : Act) (L : Array Bool), Agr ops v a0 b L ∧ (∀ k, k < i + j → L.getD k false = true) ∧ (∀ k, L.getD k false = true → k < i + j) ∧ (∀ j b, o.guard = some (j, b) → v j = .bool b) ∧ YieldsS P o b.eval w fun u w' => R w' ∧ (∀ k v', (n (i + j) = true → k ≠ i + j ∧ pr.contains (i + j, k) = false) → AtF T k v' w → AtF T k v' w') ∧ (∀ k, (k ≠ i + j ∧ (n (i + j) = true → qr.contains (i + j, k) = false)) → (n k = true → O k w) → n k = true → O k w') ∧ AtF T (i + j) (upd v (i + j) u) w'
  | [], _, _, _, _, _, _, _, _, _, j, o, h => by simp at h
  | o :: l, i, env, L, _, _, h1, h2, hA, h, 0, o', h' => by
    obtain rfl : o = o' := by simpa using h'
    intro v w hb ho he
    refine ⟨env v, L, hA v, h1, h2, ?_⟩
    have hd : ∀ j, ((o.after.any fun e => Region.binds .any e && e.on == j) && need i j) = true → AtF T j v w := fun j hj => by
      rw [Bool.and_eq_true] at hj
      obtain ⟨e, hm, hh⟩ := Array.any_eq_true'.1 hj.1
      simp only [Bool.and_eq_true, beq_iff_eq] at hh
      obtain ⟨h1, rfl⟩ := hh
      exact he e hm h1 hj.2
    have h1 := h.1
    by_cases e : n i = true
    · rw [if_pos e] at h1
      have hs : ∀ (u : Value) (w' : World), (R w' ∧ (∀ k v', k ≠ i → pr.contains (i, k) = false → AtF T k v' w → AtF T k v' w') ∧ (∀ k, k ≠ i → n k = true → qr.contains (i, k) = false → O k w → O k w') ∧ AtF T i (upd v i u) w') → R w' ∧ (∀ k v', (n (i + 0) = true → k ≠ i + 0 ∧ pr.contains (i + 0, k) = false) → AtF T k v' w → AtF T k v' w') ∧ (∀ k, (k ≠ i + 0 ∧ (n (i + 0) = true → qr.contains (i + 0, k) = false)) → (n k = true → O k w) → n k = true → O k w') ∧ AtF T (i + 0) (upd v (i + 0) u) w' := fun u w' ⟨h2, h3, h4, h5⟩ => ⟨h2, fun k v' hk => h3 k v' (hk e).1 (hk e).2, fun k hne ho' e' => h4 k hne.1 e' (hne.2 e) (ho' e'), h5⟩
      obtain ⟨hgq, h1⟩ := h1 v w hb (ho e) hd
      refine ⟨hgq, ?_⟩
      rcases h1 with (⟨u, w', hr, ht⟩ | ⟨f, args, hr, hc⟩) | ⟨w', hr, ht⟩
      · exact .inl (.inl ⟨u, w', hr, hs u w' ht⟩)
      · exact .inl (.inr ⟨f, args, hr, hc.mono fun x w' ⟨u, hx, ht⟩ => ⟨u, hx, hs u w' ht⟩⟩)
      · exact .inr ⟨w', hr, hs undef w' ht⟩
    · rw [if_neg e] at h1
      obtain ⟨hgq, h1⟩ := h1 v w hb hd
      exact ⟨hgq, .inl <| h1.wide fun u w' hb' ht => ⟨hR w w' hb' hb, fun k v' _ => hk k v' w w' hb', fun k _ ho' e' => hO k w w' hb' (ho' e'), ht⟩⟩
  | o :: l, i, env, L, hl, hs, h1, h2, hA, h, j + 1, o', h' => by
    have h0 : ops[i]? = some o := by simpa using (hl 0).symm
    have hlt : i < L.size := by rw [hs]; exact (Array.getElem?_eq_some_iff.1 h0).1
    have := tellZ_at hap hR hk hO l (i + 1) (fun v => (env v).put o.dst (v i)) (L.setIfInBounds i true) (fun j => by have := hl (j + 1); simpa [Nat.add_assoc, Nat.add_comm 1 j] using this) (by simpa using hs)
      (fun k hk => by
        by_cases e : k = i
        · subst e; exact getD_set_eq hlt
        · exact set_keep (h1 k (by omega)))
      (fun k hk => by
        rcases set_or hk with e | e
        · omega
        · have := h2 k e; omega)
      (fun v => (hA v).step hap h0 hlt fun _ _ => rfl) h.2 j o' (by simpa using h')
    rwa [show i + 1 + j = i + (j + 1) by omega] at this
/-- **A region that draws its order, in the widest form.** -/
theorem region_fullZ {id : Nat} {l : List Oper} {w : World} (N : Nat) (pr qr dr : List (Nat × Nat)) (n : Nat → Bool) (R : World → Prop) (hR : ∀ w w', Below w.heap.size w w' → R w → R w') (r0 : R w) (T : List Pd) (O : Nat → World → Prop) {Q : Exit → Act → World → Prop} (hm : P.follows .mixedOrders = true)
    (hN : a0.tmps.size = N) (hok : okG2 l.toArray N = true) (hpr : (pr.all fun p => rch l.toArray p.2 p.1 || dr.contains p) = true) (hdr : (dr.all fun p => (List.range l.length).all fun j => match l[j]? with | none => true | some o => j == p.1 || !(o.after.any fun e => Region.binds .any e && e.on == p.2) || rch l.toArray p.1 j || rch l.toArray j p.1) = true) (hqr : (qr.all fun p => rch l.toArray p.1 p.2) = true)
    (hds : ((List.range T.length).all fun k => match T[k]? with | none => true | some d => d.ds.all fun j => j == k || rch l.toArray k j) = true)
    (hkeep : KeepF T) (hO : ∀ k w w', Below w.heap.size w w' → O k w → O k w') (h0 : ∀ k, n k = true → O k w)
    (h : ∀ fin : (Nat → Value) → Act, (∀ v, fin v = lexPut v l 0 a0) → TellZ P (fun i k => dr.all fun p => p.2 != k || !rch l.toArray i p.1) pr qr n R O T l 0 (fun _ => a0) ∧ ∀ v w', R w' → (∀ i, i < l.length → (dr.all fun p => p.2 != i) = true → AtF T i v w') → Q .normal (fin v) w') :
    (Code.region id l.toArray true).wp P Q a0 w := by
  obtain ⟨h1, h2⟩ := h (fun v => lexPut v l 0 a0) (fun _ => rfl)
  have hap : Apart l.toArray := fun i j o o' t hi hj hd hd' => by
    have := ((okG2_at hok hi).1 t hd).1 j (mem_writes hj hd')
    exact this.symm
  have K : ZTab P l.toArray a0 (fun i k => n i = true → k ≠ i ∧ pr.contains (i, k) = false) (fun i k => k ≠ i ∧ (n i = true → qr.contains (i, k) = false)) (fun i k => dr.contains (i, k) = true) R (AtF T) (fun k w' => n k = true → O k w') (fun v => lexPut v l 0 a0) := by
    refine ⟨hap, fun i o hi => (okG2_at hok hi).2.1, fun i o hi => ⟨(okG2_at hok hi).2.2.1, (okG2_at hok hi).2.2.2.1, fun t ht j oj hj hd => ?_⟩,
      fun i o t hi hd => by rw [hN]; exact ((okG2_at hok hi).1 t hd).2, fun v => lexPut_last hap, ?_, ?_, ?_, ?_, ?_⟩
    · rcases (okG2_at hok hi).2.2.2.2 t ht j (mem_writes hj hd) with h | ⟨h, h'⟩
      · exact .inl h
      · refine .inr ⟨h, fun listed hc hl => ?_⟩
        rcases h' with h' | h'
        · rw [← h']; exact hl
        · exact reach_listed hc _ j i h' hl
    rotate_left
    · intro i k hne hs
      obtain ⟨-, hs⟩ := Classical.not_imp.1 hs
      have hc : pr.contains (i, k) = true := by
        cases hh : pr.contains (i, k) with
        | true => rfl
        | false => exact absurd ⟨hne, hh⟩ hs
      have hm : (i, k) ∈ pr := by simpa using hc
      have := List.all_eq_true.1 hpr (i, k) hm
      rw [Bool.or_eq_true] at this
      exact this
    · intro i k hz j o hj hne hex
      have hm : (i, k) ∈ dr := by simpa using hz
      have hj' : l[j]? = some o := by simpa using hj
      have hlt : j < l.length := (List.getElem?_eq_some_iff.1 hj').1
      have h3 := List.all_eq_true.1 (List.all_eq_true.1 hdr (i, k) hm) j (List.mem_range.2 hlt)
      rw [hj'] at h3
      simp only [Bool.or_eq_true, beq_iff_eq, Bool.not_eq_true'] at h3
      rcases h3 with ((h3 | h3) | h3) | h3
      · exact absurd h3 hne
      · obtain ⟨e, he, hb, hon⟩ := hex
        have : (o.after.any fun e => Region.binds .any e && e.on == k) = true := Array.any_eq_true'.2 ⟨e, he, by simp [hb, hon]⟩
        rw [this] at h3
        cases h3
      · exact .inl h3
      · exact .inr h3
    · intro i k hne hs
      have hc : qr.contains (i, k) = true := by
        cases hh : qr.contains (i, k) with
        | true => rfl
        | false => exact absurd ⟨hne, fun _ => hh⟩ hs
      have hm : (i, k) ∈ qr := by simpa using hc
      exact List.all_eq_true.1 hqr (i, k) hm
    · intro i k hne hr v u w' ht
      unfold AtF at ht ⊢
      split
      · trivial
      · rename_i d hd
        rw [hd] at ht
        have hk := List.all_eq_true.1 hds k (List.mem_range.2 (List.getElem?_eq_some_iff.1 hd).1)
        rw [hd] at hk
        have e : d.ds.map (upd v i u) = d.ds.map v := List.map_congr_left fun j hj => by
          have hj' := List.all_eq_true.1 hk j hj
          unfold upd
          split
          · rename_i e
            subst e
            simp only [Bool.or_eq_true, beq_iff_eq, hr, Bool.false_eq_true, or_false] at hj'
            exact absurd hj'.symm hne
          · rfl
        show d.p (d.ds.map (upd v i u)) w'
        rw [e]
        exact ht
    intro i o hi v w' hb hu he
    have := tellZ_at hap hR (fun i v w w' hb' => keepF_at hkeep i v w w' hb') hO l 0 (fun _ => a0) (Array.replicate l.toArray.size false) (fun j => by simp) (by simp) (fun j hj => absurd hj (Nat.not_lt_zero j)) (fun j hj => by rw [none_listed] at hj; cases hj) (fun v => ⟨rfl, rfl, (fun i o t _ _ hl => by rw [none_listed] at hl; cases hl), fun _ _ => rfl⟩) h1 i o (by simpa using hi) v w' hb (by simpa using hu) (fun e he' hb' hn => he e he' hb' fun z hz => by
      have hm : (z, e.on) ∈ dr := by simpa using hz
      have := List.all_eq_true.1 hn (z, e.on) hm
      simpa using this)
    simpa using this
  refine wp_region_any hm (run_fullZ K (fun v w' hb hv => h2 v w' hb (fun i hi hd => (hv i (by simpa using hi)).resolve_left fun ⟨z, hz⟩ => by
    have hm : (z, i) ∈ dr := by simpa using hz
    have := List.all_eq_true.1 hd (z, i) hm
    simp at this)) _ _ (fun _ => undef) _ _ ⟨by simp, ⟨rfl, rfl, ?_, fun _ _ => rfl⟩, hR w w.drew (Below.refl _ w).drew r0, ?_, fun k _ hk => hO k w w.drew (Below.refl _ w).drew (h0 k hk), ?_⟩ (by simp))
  · intro i o t _ _ hl
    rw [none_listed] at hl
    cases hl
  · intro i hl
    rw [none_listed] at hl
    cases hl
  · intro k o _ hl
    rw [none_listed] at hl
    cases hl
end
end Go.Proofs.Ytbomlapmoiamgaa.region
