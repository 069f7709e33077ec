/-
  Arguments that came in, over any program: what each kind of type tells of its cells, and a law's frame over arguments that are only read.
-/
import Derived.WalkKit
import Derived.ProofKit
import Derived.OpenShut
import Derived.SizedLaws
import Derived.Carry
import Derived.ChangeOld
import Derived.Deep.QuietTactic
import Derived.BigQuiet
set_option linter.unusedSimpArgs false
set_option linter.unusedVariables false
namespace Go.Proofs.Ytbomlapmoiamgaa.opened
open Go.ChangeShapes Go.WideShapes Go.RowKit

/-- A way of reading cells as an α. -/
def Reader (α : Type) : Type := World → List Value → α → Prop
/-- Whatever cells hold a datum of type t are read by R. -/
def Opens {α : Type} (P : Program) (t : TypeId) (R : Reader α) : Prop :=
  ∀ {H : Type} (enc : TypeId × Value → H) (w : World) (fuel : Nat) (cs : List Value) (x : DataW H × List MemPlace),
    DataW.trod enc P w 0 (fun _ => true) true fuel t cs = some x → (∀ n ∈ x.1.weights P t, n ≤ reachBytes) → ∃ a, R w cs a

def intR (k : IntKind) : Reader Int := fun _ cs n => cs = [.int k n] ∧ (Lit.int k n).wf = true
def boolR : Reader Bool := fun _ cs b => cs = [.bool b]
def strR : Reader ByteArray := fun _ cs s => cs = [.string s] ∧ s.size ≤ 140737488351232
def nilR : Reader Unit := fun _ cs _ => cs = []
def consR {α β : Type} (m : Nat) (R : Reader α) (S : Reader β) : Reader (α × β) := fun w cs p => R w (cs.take m) p.1 ∧ S w (cs.drop m) p.2
def arrR {α : Type} (n m : Nat) (R : Reader α) : Reader (List α) := fun w cs l => cs.length = n * m ∧ l.length = n ∧ ∀ i a, l[i]? = some a → R w ((cs.drop (i * m)).take m) a
/-- A slice: where it lies, its length, its capacity, its elements (not the spare ones). -/
structure Row (α : Type) where
  ptr : Option Addr
  len : Nat
  cap : Nat
  elems : List α
def Row.val {α : Type} (r : Row α) : Value := .slice r.ptr r.len r.cap
def sliceR {α : Type} (m bytes : Nat) (R : Reader α) : Reader (Row α) := fun w cs r =>
  cs = [r.val] ∧ r.elems.length = r.len ∧ r.len ≤ r.cap ∧ r.cap ≤ maxLen ∧ r.cap * bytes ≤ 140737488351232 ∧
    ((r.ptr = none ∧ r.len = 0 ∧ r.cap = 0) ∨ ∃ ad : Addr, r.ptr = some ad ∧
      ∀ i a, r.elems[i]? = some a → ∃ cs', cs'.length = m ∧ (∀ j, j < m → w.cell? (ad.add (i * m + j)) = cs'[j]?) ∧ R w cs' a)

section
variable {P : Program} {t : TypeId}
theorem opens_int {k : IntKind} (ht : P.underlying t = some (.int k)) : Opens P t (intR k) := by
  intro H enc w fuel cs x h _
  obtain ⟨n, hcs, _, hw⟩ := DataW.trod_int ht h
  exact ⟨n, hcs, hw⟩
theorem opens_bool (ht : P.underlying t = some .bool) : Opens P t boolR := by
  intro H enc w fuel cs x h _
  obtain ⟨b, hcs, _⟩ := DataW.trod_bool ht h
  exact ⟨b, hcs⟩
theorem opens_str (ht : P.underlying t = some .string) : Opens P t strR := by
  intro H enc w fuel cs x h hz
  obtain ⟨s, hcs, hx, _⟩ := DataW.trod_string ht h
  refine ⟨s, hcs, ?_⟩
  subst hx
  have h1 := hz s.size (by simp [DataW.weights])
  unfold reachBytes at h1
  exact h1

/-- The offsets of fields of these types, one behind the other. -/
def offOf (P : Program) : List TypeId → Nat → Nat
  | [], _ => 0
  | _ :: _, 0 => 0
  | t :: ts, i + 1 => P.cellsOf t + offOf P ts i
def sumOf (P : Program) : List TypeId → Nat
  | [] => 0
  | t :: ts => P.cellsOf t + sumOf P ts
def OpensFs {β : Type} (P : Program) (ts : List TypeId) (S : Reader β) : Prop :=
  ∀ {H : Type} (enc : TypeId × Value → H) (w : World) (n : Nat) (cs : List Value) (xs : List (DataW H × List MemPlace)),
    xs.length = ts.length → cs.length = sumOf P ts → (∀ i t, ts[i]? = some t → DataW.trod enc P w 0 (fun _ => true) true n t ((cs.drop (offOf P ts i)).take (P.cellsOf t)) = xs[i]?) →
    (∀ n ∈ DataW.weightsEach P ts (xs.map (·.1)), n ≤ reachBytes) → ∃ b, S w cs b
theorem opensFs_nil : OpensFs P [] nilR := by
  intro H enc w n cs xs _ hc _ _
  exact ⟨(), List.eq_nil_of_length_eq_zero (by simpa [sumOf] using hc)⟩
theorem opensFs_cons {α β : Type} {R : Reader α} {S : Reader β} {ts : List TypeId} {m : Nat} (hR : Opens P t R) (hm : P.cellsOf t = m) (hS : OpensFs P ts S) : OpensFs P (t :: ts) (consR m R S) := by
  intro H enc w n cs xs hl hc h hz
  subst hm
  match xs, hl with
  | x :: xs, hl =>
    have h0 := h 0 t rfl
    simp only [offOf, List.drop_zero, List.getElem?_cons_zero] at h0
    obtain ⟨a, ha⟩ := hR enc w n _ x h0 (fun k hk => hz k (by simp only [List.map_cons, DataW.weightsEach, List.mem_append]; exact .inl hk))
    obtain ⟨b, hb⟩ := hS enc w n (cs.drop (P.cellsOf t)) xs (by simpa using hl) (by simp only [sumOf] at hc; simp; omega)
      (fun i u hu => by
        have := h (i + 1) u hu
        simp only [offOf, List.getElem?_cons_succ] at this
        rw [List.drop_drop]
        exact this)
      (fun k hk => hz k (by simp only [List.map_cons, DataW.weightsEach, List.mem_append]; exact .inr hk))
    exact ⟨(a, b), ha, hb⟩
def offsetsOk (P : Program) (fs : Array Field) (ts : List TypeId) : Bool :=
  (fs.toList.map (·.type)) == ts && (List.range fs.size).all fun i => match fs[i]? with
    | some f => f.offset == offOf P ts i
    | none => false
theorem opens_struct {β : Type} {S : Reader β} {fs : Array Field} {ts : List TypeId} (ht : P.underlying t = some (.struct fs)) (ho : offsetsOk P fs ts = true) (hc : P.cellsOf t = sumOf P ts) (hS : OpensFs P ts S) : Opens P t S := by
  intro H enc w fuel cs x h hz
  obtain ⟨xs, n, _, hx, hlen, hxl, hf⟩ := DataW.trod_struct ht h
  simp only [offsetsOk, Bool.and_eq_true, beq_iff_eq] at ho
  obtain ⟨hts, ho⟩ := ho
  refine hS enc w n cs xs ?_ (hlen.trans hc) ?_ ?_
  · rw [← hts]; simpa using hxl
  · intro i u hu
    have hi : i < fs.size := by
      have := (List.getElem?_eq_some_iff.1 hu).1
      rw [← hts] at this
      simpa using this
    have hf' := hf i fs[i] (Array.getElem?_eq_getElem hi)
    have hoo := List.all_eq_true.1 ho i (List.mem_range.2 hi)
    rw [Array.getElem?_eq_getElem hi] at hoo
    simp only [beq_iff_eq] at hoo
    have hty : fs[i].type = u := by
      rw [← hts] at hu
      simp only [List.getElem?_map, Array.getElem?_toList, Array.getElem?_eq_getElem hi, Option.map_some, Option.some.injEq] at hu
      exact hu
    rw [hoo, hty] at hf'
    exact hf'
  · intro k hk
    refine hz k ?_
    subst hx
    simp only [DataW.weights, ht, hts]
    exact hk
theorem weightsAll_mem {H : Type} {e : TypeId} : ∀ {l : List (DataW H)} {i : Nat} {d : DataW H}, l[i]? = some d → ∀ n ∈ d.weights P e, n ∈ DataW.weightsAll P e l
  | d0 :: l, 0, d, hd, n, hn => by
    simp only [List.getElem?_cons_zero, Option.some.injEq] at hd
    subst hd
    simp only [DataW.weightsAll, List.mem_append]
    exact .inl hn
  | d0 :: l, i + 1, d, hd, n, hn => by
    simp only [List.getElem?_cons_succ] at hd
    simp only [DataW.weightsAll, List.mem_append]
    exact .inr (weightsAll_mem hd n hn)
  | [], _, _, hd, _, _ => by simp at hd
theorem exists_list {α : Type} {p : Nat → α → Prop} : ∀ (n : Nat), (∀ i, i < n → ∃ a, p i a) → ∃ l : List α, l.length = n ∧ ∀ i a, l[i]? = some a → p i a
  | 0, _ => ⟨[], rfl, fun i a h => by simp at h⟩
  | n + 1, h => by
    obtain ⟨l, hl, hp⟩ := exists_list n (fun i hi => h i (by omega))
    obtain ⟨a, ha⟩ := h n (by omega)
    refine ⟨l ++ [a], by simp [hl], fun i b hb => ?_⟩
    by_cases hi : i < n
    · rw [List.getElem?_append_left (by omega)] at hb
      exact hp i b hb
    · have hin : i = n := by
        have := (List.getElem?_eq_some_iff.1 hb).1
        simp at this; omega
      subst hin
      rw [List.getElem?_append_right (by omega), hl] at hb
      simp at hb
      subst hb
      exact ha
theorem opens_array {α : Type} {R : Reader α} {n m : Nat} {e : TypeId} (ht : P.underlying t = some (.array n e)) (hc : P.cellsOf t = n * m) (hm : P.cellsOf e = m) (hR : Opens P e R) : Opens P t (arrR n m R) := by
  intro H enc w fuel cs x h hz
  subst hm
  obtain ⟨xs, k, _, hx, hlen, hxl, hf⟩ := DataW.trod_array ht h
  obtain ⟨l, hl, hp⟩ := exists_list (p := fun i a => R w ((cs.drop (i * P.cellsOf e)).take (P.cellsOf e)) a) n (fun i hi => by
    have hxi : xs[i]? = some (xs[i]'(by omega)) := List.getElem?_eq_getElem (by omega)
    refine hR enc w k _ _ ((hf i hi).trans hxi) (fun q hq => hz q ?_)
    subst hx
    simp only [DataW.weights, ht]
    exact weightsAll_mem (i := i) (by rw [List.getElem?_map, hxi]; rfl) q hq)
  exact ⟨l, hlen.trans hc, hl, hp⟩
theorem opens_slice {α : Type} {R : Reader α} {m bytes : Nat} {e : TypeId} (ht : P.underlying t = some (.slice e)) (hm : P.cellsOf e = m) (hb : P.bytesOf e = bytes) (hR : Opens P e R) : Opens P t (sliceR m bytes R) := by
  intro H enc w fuel cs x h hz
  subst hm; subst hb
  rcases DataW.trod_slice ht h with ⟨hcs, _⟩ | ⟨a, len, cap, elems, rest, k, _, hcs, hx, _, hl, hc, hel, hat, hrest, _⟩
  · exact ⟨⟨none, 0, 0, []⟩, hcs, rfl, Nat.le_refl _, by simp [maxLen], by simp, .inl ⟨rfl, rfl, rfl⟩⟩
  · have hrl := (hrest rfl).1
    subst hx
    have hw : ∀ q ∈ DataW.weights P t (.slice (elems.map (·.1)) (rest.map (·.1))), q ≤ reachBytes := hz
    simp only [DataW.weights, ht, List.length_map, List.mem_cons, List.mem_append] at hw
    have hsz := hw _ (.inl rfl)
    obtain ⟨l, hll, hp⟩ := exists_list (p := fun i b => ∃ cs', cs'.length = P.cellsOf e ∧ (∀ j, j < P.cellsOf e → w.cell? (a.add (i * P.cellsOf e + j)) = cs'[j]?) ∧ R w cs' b) len (fun i hi => by
      have hxi : elems[i]? = some (elems[i]'(by omega)) := List.getElem?_eq_getElem (by omega)
      have h1 := (hat i hi).trans hxi
      rw [Option.bind_eq_some_iff] at h1
      obtain ⟨cs', hcs', ht'⟩ := h1
      obtain ⟨_, hcl, hcell⟩ := World.cells?_some hcs'
      obtain ⟨b, hbR⟩ := hR enc w k _ _ ht' (fun q hq => hw q (.inr (.inl (weightsAll_mem (i := i) (by rw [List.getElem?_map, hxi]; rfl) q hq))))
      refine ⟨b, cs', hcl, fun j hj => ?_, hbR⟩
      rw [← hcell j hj]
      unfold Addr.add
      by_cases h1 : i * P.cellsOf e = 0 <;> by_cases h2 : j = 0 <;> simp [h1, h2, Nat.add_assoc])
    refine ⟨⟨some a, len, cap, l⟩, hcs, hll, hl, hc, ?_, .inr ⟨a, rfl, hp⟩⟩
    unfold reachBytes at hsz
    rw [hel, hrl] at hsz
    have : len + (cap - len) = cap := by omega
    rw [this] at hsz
    exact hsz
end

/-! ### From cells back to the value of a parameter -/
section
variable {P : Program} {t : TypeId} {w : World} {r : Reach} {b : Nat} {v : Value}
theorem top_int {k : IntKind} {n : Int} (ht : P.underlying t = some (.int k)) (hv : Value.okWide P w r b t v) (h : intR k w v.cells.toList n) : v = .int k n ∧ (Lit.int k n).wf = true := by
  obtain ⟨m, rfl⟩ := okWide_int ht hv
  obtain ⟨h1, h2⟩ := h
  simp [Value.cells] at h1
  subst h1
  exact ⟨rfl, h2⟩
theorem top_bool {x : Bool} (ht : P.underlying t = some .bool) (hv : Value.okWide P w r b t v) (h : boolR w v.cells.toList x) : v = .bool x := by
  obtain ⟨m, rfl⟩ := okWide_bool ht hv
  unfold boolR at h
  simp [Value.cells] at h
  subst h
  rfl
theorem top_str {s : ByteArray} (ht : P.underlying t = some .string) (hv : Value.okWide P w r b t v) (h : strR w v.cells.toList s) : v = .string s ∧ s.size ≤ 140737488351232 := by
  obtain ⟨m, rfl⟩ := okWide_string ht hv
  obtain ⟨h1, h2⟩ := h
  simp [Value.cells] at h1
  subst h1
  exact ⟨rfl, h2⟩
theorem top_slice {α : Type} {R : Reader α} {m bytes : Nat} {e : TypeId} {row : Row α} (ht : P.underlying t = some (.slice e)) (hv : Value.okWide P w r b t v) (h : sliceR m bytes R w v.cells.toList row) : v = row.val := by
  obtain ⟨a, len, cap, rfl⟩ := okWide_slice ht hv
  have h1 := h.1
  simp [Value.cells] at h1
  exact h1
theorem top_struct {fs : Array Field} (ht : P.underlying t = some (.struct fs)) (hv : Value.okWide P w r b t v) : v = .agg v.cells := by
  obtain ⟨cs, rfl, _⟩ := okWide_struct ht hv
  rfl
theorem top_array {n : Nat} {e : TypeId} (ht : P.underlying t = some (.array n e)) (hv : Value.okWide P w r b t v) : v = .agg v.cells := by
  simp only [Value.okWide, ht] at hv
  obtain ⟨cs, rfl, _⟩ := hv
  rfl
end

/-! ### A law whose arguments are only read: its frame -/
section
variable {H : Type} {enc : TypeId × Value → H}
theorem trodAll_below {P : Program} (hl : laidOutB P = true) {W W' : World} (hb : Below W.heap.size W W') : ∀ {ts : List TypeId} {vs : List Value} {ds : List (DataW H)} {ps : List MemPlace},
    (∀ t ∈ ts, P.readableRec t = true ∧ t < P.types.size) → DataW.TrodAll enc P W 0 (fun _ => true) true ts vs ds ps → DataW.TrodAll enc P W' 0 (fun b => decide (b < W.heap.size)) true ts vs ds ps
  | [], vs, ds, ps, _, h => by
    obtain ⟨rfl, rfl, rfl⟩ := trodAll_nil h
    exact trodAll_mk0
  | t :: ts, vs, ds, ps, hr, h => by
    obtain ⟨v, vs', d, ds', p, q, rfl, rfl, rfl, h0, r0⟩ := trodAll_cons h
    exact trodAll_cons_mk (Below.trod hl (hr t (by simp)).1 (hr t (by simp)).2 h0 hb (by obtain ⟨m, hm⟩ := h0; exact DataW.trod_lt m _ _ _ hm)) (trodAll_below hl hb (fun u hu => hr u (by simp [hu])) r0)
/-- What the walk of a law is told of its arguments. -/
structure Fed (P : Program) (W : World) (ts : List TypeId) (args : Array Value) : Prop where
  count : args.size = ts.length
  each : ∀ (j : Nat) (t : TypeId) (v : Value), ts[j]? = some t → args[j]? = some v → (∃ b, Value.okWide P W .any b t v) ∧
    ∀ {α : Type} {R : Reader α}, Opens P t R → ∃ a, R W v.cells.toList a
theorem trodAll_at {P : Program} {W : World} : ∀ {ts : List TypeId} {vs : List Value} {ds : List (DataW H)} {ps : List MemPlace},
    DataW.TrodAll enc P W 0 (fun _ => true) true ts vs ds ps → vs.length = ts.length ∧ ds.length = ts.length ∧
      ∀ (j : Nat) (t : TypeId) (v : Value), ts[j]? = some t → vs[j]? = some v → ∃ d p, ds[j]? = some d ∧ DataW.Trod enc P W 0 (fun _ => true) true t v d p
  | [], vs, ds, ps, h => by
    obtain ⟨rfl, rfl, rfl⟩ := trodAll_nil h
    exact ⟨rfl, rfl, fun j t v hj => by simp at hj⟩
  | t :: ts, vs, ds, ps, h => by
    obtain ⟨v, vs', d, ds', p, q, rfl, rfl, rfl, h0, r0⟩ := trodAll_cons h
    obtain ⟨h1, h2, h3⟩ := trodAll_at r0
    refine ⟨by simp [h1], by simp [h2], fun j u x hj hx => ?_⟩
    cases j with
    | zero =>
      simp only [List.getElem?_cons_zero, Option.some.injEq] at hj hx
      subst hj; subst hx
      exact ⟨d, p, rfl, h0⟩
    | succ j =>
      simp only [List.getElem?_cons_succ] at hj hx ⊢
      exact h3 j u x hj hx
end
/-- THE FRAME: a law over arguments that are only read. -/
theorem lift {C : Checked} {os : Os} {f : FuncId} {fn : Func} {s : ChangeSpec} {tb : TypeId} {H : Type} {enc : TypeId × Value → H} {ts : List TypeId} {dom : List PathCond}
    (own : ownKnob C.prog.godebug = none) (started : os.Started) (noInit : C.prog.inits.idxOf? f = none) (hfn : C.prog.funcs[f]? = some fn)
    (hl : laidOutB C.prog = true) (hts : fn.params.toList = ts) (hrB : (ts.all fun t => C.prog.readableRec t && decide (t < C.prog.types.size)) = true)
    (hres : fn.resultTypes = #[tb]) (hb : C.prog.underlying tb = some .bool) (hv : s.vars = [])
    (hspec : ∀ ds : List (DataW H), ds.length = ts.length → s.fn H (ds ++ []) = { results := [.lit (.bool true)], args := ds })
    (witness : ∃ (w : World) (tape : Tape) (i : Input), w.os = os ∧ (w.forCall tape i).Shaped C.prog ∧ i.vars = [] ∧ Input.okWide C.prog (w.forCall tape i) .any w.heap.size f i ∧
      s.pre6 enc C.prog fn dom false (w.forCall tape i).memory i.args ∧ ({} : Assume).holds C.prog (lone (Frame.enter C.prog f i.args .normal) [] (w.forCall tape i)))
    (walk : ∀ (W : World) (args : Array Value), Fed C.prog W ts args → Calls C.prog f args W fun e W' => e = .returned (.bool true) ∧ Below W.heap.size W W') :
    ReturnsInHanded {} C os f .any (s.pre6 enc C.prog fn dom false) (s.post enc C.prog fn false true false false) := by
  have hr : ∀ t ∈ ts, C.prog.readableRec t = true ∧ t < C.prog.types.size := fun t ht => by
    have := List.all_eq_true.1 hrB t ht
    simpa using this
  refine returnsInHanded_of_change_sized (C := C) own started noInit hfn witness ?_
  intro W base args ds gs before hval hW _ hsz _
  have hW' := hW
  obtain ⟨p, q, hA, hV, rfl, _, _⟩ := hW
  rw [hv] at hV
  obtain ⟨rfl, rfl⟩ := trodVars_none hV
  have hA' := hA
  rw [hts] at hA'
  obtain ⟨n1, n2, n3⟩ := trodAll_at hA'
  have hvt : s.plain.varTypes C.prog = [] := by simp [ChangeSpec.plain, DataSpec.varTypes, hv]
  rw [hts, hvt, List.append_nil, List.append_nil] at hsz
  refine (walk W args ⟨by simpa using n1, fun j t v hj hjv => ?_⟩).mono fun e W' ⟨he, bel⟩ => ?_
  · have hjv' : args.toList[j]? = some v := by simpa using hjv
    obtain ⟨d, pl, hd, fuel, hf⟩ := n3 j t v hj hjv'
    refine ⟨⟨base, hval j t v (by rw [← Array.getElem?_toList, hts]; exact hj) hjv⟩, fun hO => hO enc W fuel _ _ hf (fun k hk => ?_)⟩
    have := List.all_eq_true.1 hsz _ (DataW.weights_mem_each hj hd k hk)
    simpa using this
  · subst he
    refine ⟨_, rfl, ds, [], _, [], p, [], hW', ?_, ?_, ?_, bel.frame _, fun h => by cases h⟩
    · rw [hspec ds n2, hres]
      exact trodAll_mk1 (shut_bool hb _)
    · rw [hspec ds n2]
      have h3 := trodAll_below hl bel hr hA'
      rw [hts]
      exact h3
    · rw [hspec ds n2, hv]
      rfl
theorem args1 {args : Array Value} (h : args.size = 1) : ∃ a, args = #[a] := by
  obtain ⟨l⟩ := args
  match l, h with
  | [a], _ => exact ⟨a, rfl⟩
theorem args2 {args : Array Value} (h : args.size = 2) : ∃ a b, args = #[a, b] := by
  obtain ⟨l⟩ := args
  match l, h with
  | [a, b], _ => exact ⟨a, b, rfl⟩
theorem args3 {args : Array Value} (h : args.size = 3) : ∃ a b c, args = #[a, b, c] := by
  obtain ⟨l⟩ := args
  match l, h with
  | [a, b, c], _ => exact ⟨a, b, c, rfl⟩
theorem args4 {args : Array Value} (h : args.size = 4) : ∃ a b c d, args = #[a, b, c, d] := by
  obtain ⟨l⟩ := args
  match l, h with
  | [a, b, c, d], _ => exact ⟨a, b, c, d, rfl⟩
theorem args5 {args : Array Value} (h : args.size = 5) : ∃ a b c d e, args = #[a, b, c, d, e] := by
  obtain ⟨l⟩ := args
  match l, h with
  | [a, b, c, d, e], _ => exact ⟨a, b, c, d, e, rfl⟩
theorem then_below {a b c : World} (h : Below a.heap.size a b) (k : Below b.heap.size b c) : Below a.heap.size a c := h.trans (k.mono h.size)

/-! ### Slices that came in, as the walk wants them -/
/-- A slice of one-cell elements that came in: its cells. -/
def Lies (w : World) (A : Option Addr) (xs : List Value) : Prop :=
  xs = [] ∨ ∃ b off, A = some ⟨b, off, none⟩ ∧ b < w.heap.size ∧ ∀ (i : Nat) x, xs[i]? = some x → w.cell? ⟨b, off + i, none⟩ = some x
/-- A slice of elements of m cells each that came in: the cells of each element. -/
def LiesN (w : World) (A : Option Addr) (m : Nat) (xs : List (List Value)) : Prop :=
  xs = [] ∨ ∃ b off, A = some ⟨b, off, none⟩ ∧ b < w.heap.size ∧ ∀ (i : Nat) x, xs[i]? = some x → x.length = m ∧ ∀ j, j < m → w.cell? ⟨b, off + (i * m + j), none⟩ = x[j]?
section
variable {α : Type} {R : Reader α} {w : World} {cs : List Value} {r : Row α} {m bytes : Nat}
theorem cell_plain {a : Addr} {u : Value} (h : w.cell? (a.add 0) = some u) : ∃ b off, a = ⟨b, off, none⟩ ∧ b < w.heap.size ∧ ∀ j, w.cell? (a.add j) = w.cell? ⟨b, off + j, none⟩ := by
  obtain ⟨b, off, spot⟩ := a
  have hs : spot = none := by
    have := World.cell?_spot h
    simpa [Addr.add] using this
  subst hs
  refine ⟨b, off, rfl, ?_, fun j => ?_⟩
  · have := World.block_lt_of_cell? w _ h
    simpa [Addr.add] using this
  · unfold Addr.add
    by_cases hj : j = 0
    · simp [hj]
    · simp [hj]
theorem liesN_of {f : α → List Value} (hR : ∀ w cs a, R w cs a → cs = f a) (hm : 0 < m) (h : sliceR m bytes R w cs r) : LiesN w r.ptr m (r.elems.map f) := by
  obtain ⟨_, hl, _, _, _, hcase⟩ := h
  rcases hcase with ⟨_, h0, _⟩ | ⟨ad, hp, hat⟩
  · left
    rw [List.eq_nil_of_length_eq_zero (hl.trans h0)]
    rfl
  · by_cases he : r.elems = []
    · left; rw [he]; rfl
    · right
      have hpos : 0 < r.elems.length := by
        rcases Nat.eq_zero_or_pos r.elems.length with h0 | h0
        · exact absurd (List.eq_nil_of_length_eq_zero h0) he
        · exact h0
      obtain ⟨c0, hc0, hcell0, _⟩ := hat 0 _ (List.getElem?_eq_getElem hpos)
      have h00 := hcell0 0 hm
      have hc00 : c0[0]? = some (c0[0]'(by omega)) := List.getElem?_eq_getElem (by omega)
      rw [hc00] at h00
      rw [Nat.zero_mul] at h00
      obtain ⟨b, off, rfl, hb, hadd⟩ := cell_plain h00
      refine ⟨b, off, hp, hb, fun i x hx => ?_⟩
      rw [List.getElem?_map] at hx
      obtain ⟨a, ha, rfl⟩ := Option.map_eq_some_iff.1 hx
      obtain ⟨c, hcl, hcell, hRc⟩ := hat i a ha
      have := hR _ _ _ hRc
      subst this
      exact ⟨hcl, fun j hj => by rw [← hadd]; exact hcell j hj⟩
theorem lies_of {f : α → Value} (hR : ∀ w cs a, R w cs a → cs = [f a]) (h : sliceR 1 bytes R w cs r) : Lies w r.ptr (r.elems.map f) := by
  rcases liesN_of (f := fun a => [f a]) hR (by omega) h with h0 | ⟨b, off, hp, hb, hc⟩
  · left
    have : r.elems.length = 0 := by simpa using congrArg List.length h0
    rw [List.eq_nil_of_length_eq_zero this]
    rfl
  · right
    refine ⟨b, off, hp, hb, fun i x hx => ?_⟩
    rw [List.getElem?_map] at hx
    obtain ⟨a, ha, rfl⟩ := Option.map_eq_some_iff.1 hx
    have := (hc i [f a] (by rw [List.getElem?_map, ha]; rfl)).2 0 (by omega)
    simpa using this
theorem elem_of (h : sliceR m bytes R w cs r) : ∀ a ∈ r.elems, ∃ cs', R w cs' a := by
  intro a ha
  obtain ⟨i, hi⟩ := List.getElem?_of_mem ha
  obtain ⟨_, hl, _, _, _, hcase⟩ := h
  rcases hcase with ⟨_, h0, _⟩ | ⟨_, _, hat⟩
  · rw [List.eq_nil_of_length_eq_zero (hl.trans h0)] at ha
    cases ha
  · obtain ⟨c, _, _, hc⟩ := hat i a hi
    exact ⟨c, hc⟩
theorem row_max (h : sliceR m bytes R w cs r) : r.elems.length ≤ 9223372036854775807 := by
  obtain ⟨_, hl, h1, h2, _⟩ := h
  unfold maxLen at h2
  omega
theorem row_val (h : sliceR m bytes R w cs r) : r.val = .slice r.ptr r.elems.length r.cap := by
  unfold Row.val
  rw [h.2.1]
end

/-! ### Regions that draw their order -/
/-- A world in which nothing of w has turned; blocks may be new. -/
def Since (w : World) : Type := { w' : World // Below w.heap.size w w' }
instance (w : World) : Nonempty (Since w) := ⟨⟨w, Below.refl _ _⟩⟩
/-- A region that draws its order, whose operations only read and whose calls make memory at most. -/
theorem region_since {P : Program} {id : Nat} {Q : Exit → Act → World → Prop} {a : Act} (w0 : World) {w : World} {l : List Oper} (hm : P.follows .mixedOrders = true) (hB : Region.lexB .any l.toArray = true) (hw : Below w0.heap.size w0 w)
    (h : wpQuiet P l.toArray (fun w' => ∃ x : Since w0, w' = x.1) (fun a' => ∀ w', (∃ x : Since w0, w' = x.1) → Q .normal a' w') l a) : (Code.region id l.toArray true).wp P Q a w :=
  wp_region_quiet (C := fun w' => ∃ x : Since w0, w' = x.1) hm hB ⟨⟨_, hw.drew⟩, rfl⟩ (by simpa using h)
theorem since_call {P : Program} {f : FuncId} {args : Array Value} {v : Value} {w0 : World} (h : ∀ w, Calls P f args w fun e w' => e = .returned v ∧ Below w.heap.size w w') (x : Since w0) :
    Calls P f args x.1 fun e w' => e = .returned v ∧ ∃ y : Since w0, w' = y.1 :=
  (h x.1).mono fun _ w' ⟨he, hb⟩ => ⟨he, ⟨w', then_below x.2 hb⟩, rfl⟩

end Go.Proofs.Ytbomlapmoiamgaa.opened
