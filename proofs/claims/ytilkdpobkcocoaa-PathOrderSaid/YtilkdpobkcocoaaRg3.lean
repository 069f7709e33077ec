/-
  A drawn region that makes any number of variables of its own and lays them: its table, off a list.
-/
import Derived.Test.YtilkdpobkcocoaaRg2
namespace Go.Proofs.Ytilkdpobkcocoaa.region
open Go.RowKit Go.Proofs.Ytilkdpobkcocoaa.block

/-- A variable that a region makes: which operation makes it, which one stores, its type, what it holds at first, what is stored. -/
structure Var where
  iA : Nat
  iS : Nat
  ty : TypeId
  z : Array Value
  cs : Array Value
def kindL (vs : List Var) (i : Nat) : Kind := match vs.find? (fun x => x.iA == i) with
  | some x => .make x.ty x.z x.iS x.cs
  | none => match vs.find? (fun x => x.iS == i) with
    | some x => .lay x.iA
    | none => .plain
theorem find_nodup {f : Var → Nat} : ∀ {vs : List Var} {x : Var}, x ∈ vs → (vs.map f).Nodup → vs.find? (fun y => f y == f x) = some x
  | [], x, h, _ => by cases h
  | y :: r, x, h, hn => by
    rw [List.map_cons, List.nodup_cons] at hn
    rcases List.mem_cons.1 h with rfl | h
    · simp
    · have hne : (f y == f x) = false := by
        rw [beq_eq_false_iff_ne]
        intro e
        exact hn.1 (e ▸ List.mem_map_of_mem h)
      rw [List.find?_cons, hne]
      exact find_nodup h hn.2
theorem find_none {f : Var → Nat} {vs : List Var} {k : Nat} (h : k ∉ vs.map f) : vs.find? (fun y => f y == k) = none := by
  rw [List.find?_eq_none]
  intro y hy e
  exact h (by rw [← beq_iff_eq.1 e]; exact List.mem_map_of_mem hy)
theorem kindL_make {vs : List Var} {i : Nat} {ty : TypeId} {z : Array Value} {j : Nat} {cs : Array Value} (h : kindL vs i = .make ty z j cs) : ∃ x ∈ vs, x.iA = i ∧ x.ty = ty ∧ x.z = z ∧ x.iS = j ∧ x.cs = cs := by
  unfold kindL at h
  split at h
  · rename_i x hx
    cases h
    exact ⟨x, List.mem_of_find?_eq_some hx, by simpa using List.find?_some hx, rfl, rfl, rfl, rfl⟩
  · split at h <;> cases h
theorem kindL_lay {vs : List Var} {i j : Nat} (h : kindL vs j = .lay i) : ∃ x ∈ vs, x.iS = j ∧ x.iA = i := by
  unfold kindL at h
  split at h
  · cases h
  · split at h
    · rename_i x hx
      cases h
      exact ⟨x, List.mem_of_find?_eq_some hx, by simpa using List.find?_some hx, rfl⟩
    · cases h
theorem kindL_at {vs : List Var} (hn : (vs.map (·.iA) ++ vs.map (·.iS)).Nodup) {x : Var} (h : x ∈ vs) : kindL vs x.iA = .make x.ty x.z x.iS x.cs ∧ kindL vs x.iS = .lay x.iA := by
  obtain ⟨n1, n2, n3⟩ := List.nodup_append.1 hn
  have a := find_nodup (f := (·.iA)) h n1
  have b := find_nodup (f := (·.iS)) h n2
  have c : vs.find? (fun y => y.iA == x.iS) = none := find_none (f := (·.iA)) fun hm => n3 _ hm _ (List.mem_map_of_mem (f := (·.iS)) h) rfl
  unfold kindL
  rw [a, c, b]
  exact ⟨rfl, rfl⟩
/-- What is asked of a variable. -/
def VarOk (P : Program) (l : List Oper) (fin : (Nat → Nat) → Act) (x : Var) : Prop := ∃ oA oS d tys y, l[x.iA]? = some oA ∧ l[x.iS]? = some oS ∧ oA.dst = some d ∧ oS.dst = none ∧ oS.op = .store tys (.tmp d) y ∧
  (oS.after.any fun e => Region.binds .any e && e.on == x.iA) = true ∧ (∀ w ρ, (execOp ρ oA).run P w = .ok (.value (.pointer (some ⟨w.heap.size, 0, none⟩))) (w.alloc (.cells x.z x.ty))) ∧
  (∀ n, (fin n).eval y = .agg x.cs) ∧ (P.info? tys).map (·.size) = some x.cs.size ∧ x.z.size = x.cs.size ∧ x.cs.all (·.oneCell') = true
theorem tableL {P : Program} {l : List Oper} {W0 : World} {a0 : Act} {N : Nat} {vs : List Var} {v : Nat → Value} (fin : (Nat → Nat) → Act)
    (hN : a0.tmps.size = N) (hok : okB l.toArray N = true) (hfin : ∀ n, lexPut (val (kindL vs) v n) l 0 a0 = fin n) (hn : (vs.map (·.iA) ++ vs.map (·.iS)).Nodup)
    (hv : ∀ x ∈ vs, VarOk P l fin x) (hplain : PlainAll P W0 (kindL vs) v fin l 0) : Table P .any l.toArray W0 a0 (kindL vs) v fin := by
  have hap : Apart l.toArray := fun i j o o' t hi hj hd hd' => by
    have := ((okB_at hok hi).1 t hd).1 j (mem_writes hj hd')
    exact this.symm
  refine ⟨hap, fun i o hi => (okB_at hok hi).2.1, fun i o hi => ⟨(okB_at hok hi).2.2.1, (okB_at hok hi).2.2.2.1, fun t ht j oj hj hd => (okB_at hok hi).2.2.2.2 t ht j (mem_writes hj hd)⟩,
    fun i o t hi hd => by rw [hN]; exact ((okB_at hok hi).1 t hd).2, fun n => by rw [← hfin n]; exact lexPut_last hap, ?_, ?_, ?_⟩
  · intro i o hi hk n
    have := plainAll_at l 0 hplain i o (by simpa using hi) (by simpa using hk) n
    simpa using this
  · intro i o ty' z' j cs' hi hk
    obtain ⟨x, hx, rfl, rfl, rfl, rfl, rfl⟩ := kindL_make hk
    obtain ⟨oA, oS, d, tys, y, hA, hS, hdA, hdS, hop, hdep, hrun, -⟩ := hv x hx
    obtain rfl : oA = o := Option.some.inj (hA.symm.trans (by simpa using hi))
    obtain ⟨e, he, hb⟩ := Array.any_eq_true'.1 hdep
    simp only [Bool.and_eq_true, beq_iff_eq] at hb
    exact ⟨(kindL_at hn hx).2, ⟨oS, by simpa using hS, e, he, hb.1, hb.2⟩, hrun⟩
  · intro j o i hj hk
    obtain ⟨x, hx, rfl, rfl⟩ := kindL_lay hk
    obtain ⟨oA, oS, d, tys, y, hA, hS, hdA, hdS, hop, hdep, hrun, hy, hinfo, hz, hone⟩ := hv x hx
    obtain rfl : oS = o := Option.some.inj (hS.symm.trans (by simpa using hj))
    exact ⟨hdS, x.ty, x.z, x.cs, tys, d, y, (kindL_at hn hx).1, hop, ⟨oA, by simpa using hA, hdA⟩, hy, hinfo, hz, hone⟩
/-- **A region that draws its order and makes variables of its own**; the frame at the end is a letter. -/
theorem region_vars {P : Program} {id : Nat} {l : List Oper} {w : World} {a0 : Act} (N : Nat) (vars : List Var) (vs : List Value) {Q : Exit → Act → World → Prop} (hm : P.follows .mixedOrders = true)
    (hN : a0.tmps.size = N) (hok : okB l.toArray N = true) (hn : (vars.map (·.iA) ++ vars.map (·.iS)).Nodup) (hl : (vars.all fun x => decide (x.iA < l.length) && decide (x.iS < l.length)) = true)
    (h : ∀ fin : (Nat → Nat) → Act, (∀ n, fin n = lexPut (val (kindL vars) (fun i => vs.getD i undef) n) l 0 a0) →
      (∀ x ∈ vars, VarOk P l fin x) ∧ PlainAll P w.drew (kindL vars) (fun i => vs.getD i undef) fin l 0 ∧
      ∀ n w', Below w.heap.size w w' → (∀ x ∈ vars, Whole w' (n x.iA) x.ty x.cs ∧ w.heap.size ≤ n x.iA) → Q .normal (fin n) w') : (Code.region id l.toArray true).wp P Q a0 w := by
  obtain ⟨h1, h2, h3⟩ := h (fun n => lexPut (val (kindL vars) (fun i => vs.getD i undef) n) l 0 a0) (fun _ => rfl)
  refine region_table hm (tableL _ hN hok (fun _ => rfl) hn h1 h2) fun n w' hb k => h3 n w' hb fun x hx => ?_
  have hx2 := List.all_eq_true.1 hl x hx
  simp only [Bool.and_eq_true, decide_eq_true_eq] at hx2
  exact k x.iA x.ty x.z x.iS x.cs (kindL_at hn hx).1 (by simpa using hx2.1) (by simpa using hx2.2)
end Go.Proofs.Ytilkdpobkcocoaa.region
