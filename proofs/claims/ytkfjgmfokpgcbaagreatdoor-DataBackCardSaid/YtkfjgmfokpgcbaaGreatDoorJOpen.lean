/-
  Arguments that came in, over any program: what each kind of type tells of its cells, and a law's frame over arguments that are only read.
  Rows of elements of any kind, those that came in and those that are one's own. It names no number of a program.
  Rows of rows: a row of slices, each of which is a row of its own. It names no number of a program.
-/
import Derived.WalkKit
import Derived.ProofKit
import Derived.OpenShut
import Derived.SizedLaws
import Derived.Carry
import Derived.ChangeOld
import Derived.Deep.QuietTactic
import Derived.BigQuiet
import Derived.Test.YtkfjgmfokpgcbaaGreatDoorJRt5
import Derived.OwnWalk
import Derived.OwnWalkIn
import Derived.Maps.AppendAt
import Derived.Lib.Hide
import Derived.Laws.OwnMore
namespace Go.Proofs.YtkfjgmfokpgcbaaGreatDoor.opened
open Go.ChangeShapes Go.WideShapes Go.RowKit

/-- A way of reading cells as an α. -/
def Reader (α : Type) : Type := World → List Value → α → Prop
/-- Whatever cells hold a datum of type t are read by R. -/
def Opens {α : Type} (P : Program) (t : TypeId) (R : Reader α) : Prop :=
  ∀ {H : Type} (enc : TypeId × Value → H) (w : World) (fuel : Nat) (cs : List Value) (x : DataW H × List MemPlace),
    DataW.trod enc P w 0 (fun _ => true) true fuel t cs = some x → (∀ n ∈ x.1.weights P t, n ≤ reachBytes) → ∃ a, R w cs a

def intR (k : IntKind) : Reader Int := fun _ cs n => cs = [.int k n] ∧ (Lit.int k n).wf = true
def boolR : Reader Bool := fun _ cs b => cs = [.bool b]
def strR : Reader ByteArray := fun _ cs s => cs = [.string s] ∧ s.size ≤ 140737488351232
def nilR : Reader Unit := fun _ cs _ => cs = []
def consR {α β : Type} (m : Nat) (R : Reader α) (S : Reader β) : Reader (α × β) := fun w cs p => R w (cs.take m) p.1 ∧ S w (cs.drop m) p.2
def arrR {α : Type} (n m : Nat) (R : Reader α) : Reader (List α) := fun w cs l => cs.length = n * m ∧ l.length = n ∧ ∀ i a, l[i]? = some a → R w ((cs.drop (i * m)).take m) a
/-- A slice: where it lies, its length, its capacity, its elements (not the spare ones). -/
structure Row (α : Type) where
  ptr : Option Addr
  len : Nat
  cap : Nat
  elems : List α
def Row.val {α : Type} (r : Row α) : Value := .slice r.ptr r.len r.cap
def sliceR {α : Type} (m bytes : Nat) (R : Reader α) : Reader (Row α) := fun w cs r =>
  cs = [r.val] ∧ r.elems.length = r.len ∧ r.len ≤ r.cap ∧ r.cap ≤ maxLen ∧ r.cap * bytes ≤ 140737488351232 ∧
    ((r.ptr = none ∧ r.len = 0 ∧ r.cap = 0) ∨ ∃ ad : Addr, r.ptr = some ad ∧
      ∀ i a, r.elems[i]? = some a → ∃ cs', cs'.length = m ∧ (∀ j, j < m → w.cell? (ad.add (i * m + j)) = cs'[j]?) ∧ R w cs' a)

section
variable {P : Program} {t : TypeId}
theorem opens_int {k : IntKind} (ht : P.underlying t = some (.int k)) : Opens P t (intR k) := by
  intro H enc w fuel cs x h _
  obtain ⟨n, hcs, _, hw⟩ := DataW.trod_int ht h
  exact ⟨n, hcs, hw⟩
theorem opens_bool (ht : P.underlying t = some .bool) : Opens P t boolR := by
  intro H enc w fuel cs x h _
  obtain ⟨b, hcs, _⟩ := DataW.trod_bool ht h
  exact ⟨b, hcs⟩
theorem opens_str (ht : P.underlying t = some .string) : Opens P t strR := by
  intro H enc w fuel cs x h hz
  obtain ⟨s, hcs, hx, _⟩ := DataW.trod_string ht h
  refine ⟨s, hcs, ?_⟩
  subst hx
  have h1 := hz s.size (by simp [DataW.weights])
  unfold reachBytes at h1
  exact h1

/-- The offsets of fields of these types, one behind the other. -/
def offOf (P : Program) : List TypeId → Nat → Nat
  | [], _ => 0
  | _ :: _, 0 => 0
  | t :: ts, i + 1 => P.cellsOf t + offOf P ts i
def sumOf (P : Program) : List TypeId → Nat
  | [] => 0
  | t :: ts => P.cellsOf t + sumOf P ts
def OpensFs {β : Type} (P : Program) (ts : List TypeId) (S : Reader β) : Prop :=
  ∀ {H : Type} (enc : TypeId × Value → H) (w : World) (n : Nat) (cs : List Value) (xs : List (DataW H × List MemPlace)),
    xs.length = ts.length → cs.length = sumOf P ts → (∀ i t, ts[i]? = some t → DataW.trod enc P w 0 (fun _ => true) true n t ((cs.drop (offOf P ts i)).take (P.cellsOf t)) = xs[i]?) →
    (∀ n ∈ DataW.weightsEach P ts (xs.map (·.1)), n ≤ reachBytes) → ∃ b, S w cs b
theorem opensFs_nil : OpensFs P [] nilR := by
  intro H enc w n cs xs _ hc _ _
  exact ⟨(), List.eq_nil_of_length_eq_zero (by simpa [sumOf] using hc)⟩
theorem opensFs_cons {α β : Type} {R : Reader α} {S : Reader β} {ts : List TypeId} {m : Nat} (hR : Opens P t R) (hm : P.cellsOf t = m) (hS : OpensFs P ts S) : OpensFs P (t :: ts) (consR m R S) := by
  intro H enc w n cs xs hl hc h hz
  subst hm
  match xs, hl with
  | x :: xs, hl =>
    have h0 := h 0 t rfl
    simp only [offOf, List.drop_zero, List.getElem?_cons_zero] at h0
    obtain ⟨a, ha⟩ := hR enc w n _ x h0 (fun k hk => hz k (by simp only [List.map_cons, DataW.weightsEach, List.mem_append]; exact .inl hk))
    obtain ⟨b, hb⟩ := hS enc w n (cs.drop (P.cellsOf t)) xs (by simpa using hl) (by simp only [sumOf] at hc; simp; omega)
      (fun i u hu => by
        have := h (i + 1) u hu
        simp only [offOf, List.getElem?_cons_succ] at this
        rw [List.drop_drop]
        exact this)
      (fun k hk => hz k (by simp only [List.map_cons, DataW.weightsEach, List.mem_append]; exact .inr hk))
    exact ⟨(a, b), ha, hb⟩
def offsetsOk (P : Program) (fs : Array Field) (ts : List TypeId) : Bool :=
  (fs.toList.map (·.type)) == ts && (List.range fs.size).all fun i => match fs[i]? with
    | some f => f.offset == offOf P ts i
    | none => false
theorem opens_struct {β : Type} {S : Reader β} {fs : Array Field} {ts : List TypeId} (ht : P.underlying t = some (.struct fs)) (ho : offsetsOk P fs ts = true) (hc : P.cellsOf t = sumOf P ts) (hS : OpensFs P ts S) : Opens P t S := by
  intro H enc w fuel cs x h hz
  obtain ⟨xs, n, _, hx, hlen, hxl, hf⟩ := DataW.trod_struct ht h
  simp only [offsetsOk, Bool.and_eq_true, beq_iff_eq] at ho
  obtain ⟨hts, ho⟩ := ho
  refine hS enc w n cs xs ?_ (hlen.trans hc) ?_ ?_
  · rw [← hts]; simpa using hxl
  · intro i u hu
    have hi : i < fs.size := by
      have := (List.getElem?_eq_some_iff.1 hu).1
      rw [← hts] at this
      simpa using this
    have hf' := hf i fs[i] (Array.getElem?_eq_getElem hi)
    have hoo := List.all_eq_true.1 ho i (List.mem_range.2 hi)
    rw [Array.getElem?_eq_getElem hi] at hoo
    simp only [beq_iff_eq] at hoo
    have hty : fs[i].type = u := by
      rw [← hts] at hu
      simp only [List.getElem?_map, Array.getElem?_toList, Array.getElem?_eq_getElem hi, Option.map_some, Option.some.injEq] at hu
      exact hu
    rw [hoo, hty] at hf'
    exact hf'
  · intro k hk
    refine hz k ?_
    subst hx
    simp only [DataW.weights, ht, hts]
    exact hk
theorem weightsAll_mem {H : Type} {e : TypeId} : ∀ {l : List (DataW H)} {i : Nat} {d : DataW H}, l[i]? = some d → ∀ n ∈ d.weights P e, n ∈ DataW.weightsAll P e l
  | d0 :: l, 0, d, hd, n, hn => by
    simp only [List.getElem?_cons_zero, Option.some.injEq] at hd
    subst hd
    simp only [DataW.weightsAll, List.mem_append]
    exact .inl hn
  | d0 :: l, i + 1, d, hd, n, hn => by
    simp only [List.getElem?_cons_succ] at hd
    simp only [DataW.weightsAll, List.mem_append]
    exact .inr (weightsAll_mem hd n hn)
  | [], _, _, hd, _, _ => by simp at hd
theorem exists_list {α : Type} {p : Nat → α → Prop} : ∀ (n : Nat), (∀ i, i < n → ∃ a, p i a) → ∃ l : List α, l.length = n ∧ ∀ i a, l[i]? = some a → p i a
  | 0, _ => ⟨[], rfl, fun i a h => by simp at h⟩
  | n + 1, h => by
    obtain ⟨l, hl, hp⟩ := exists_list n (fun i hi => h i (by omega))
    obtain ⟨a, ha⟩ := h n (by omega)
    refine ⟨l ++ [a], by simp [hl], fun i b hb => ?_⟩
    by_cases hi : i < n
    · rw [List.getElem?_append_left (by omega)] at hb
      exact hp i b hb
    · have hin : i = n := by
        have := (List.getElem?_eq_some_iff.1 hb).1
        simp at this; omega
      subst hin
      rw [List.getElem?_append_right (by omega), hl] at hb
      simp at hb
      subst hb
      exact ha
theorem opens_array {α : Type} {R : Reader α} {n m : Nat} {e : TypeId} (ht : P.underlying t = some (.array n e)) (hc : P.cellsOf t = n * m) (hm : P.cellsOf e = m) (hR : Opens P e R) : Opens P t (arrR n m R) := by
  intro H enc w fuel cs x h hz
  subst hm
  obtain ⟨xs, k, _, hx, hlen, hxl, hf⟩ := DataW.trod_array ht h
  obtain ⟨l, hl, hp⟩ := exists_list (p := fun i a => R w ((cs.drop (i * P.cellsOf e)).take (P.cellsOf e)) a) n (fun i hi => by
    have hxi : xs[i]? = some (xs[i]'(by omega)) := List.getElem?_eq_getElem (by omega)
    refine hR enc w k _ _ ((hf i hi).trans hxi) (fun q hq => hz q ?_)
    subst hx
    simp only [DataW.weights, ht]
    exact weightsAll_mem (i := i) (by rw [List.getElem?_map, hxi]; rfl) q hq)
  exact ⟨l, hlen.trans hc, hl, hp⟩
theorem opens_slice {α : Type} {R : Reader α} {m bytes : Nat} {e : TypeId} (ht : P.underlying t = some (.slice e)) (hm : P.cellsOf e = m) (hb : P.bytesOf e = bytes) (hR : Opens P e R) : Opens P t (sliceR m bytes R) := by
  intro H enc w fuel cs x h hz
  subst hm; subst hb
  rcases DataW.trod_slice ht h with ⟨hcs, _⟩ | ⟨a, len, cap, elems, rest, k, _, hcs, hx, _, hl, hc, hel, hat, hrest, _⟩
  · exact ⟨⟨none, 0, 0, []⟩, hcs, rfl, Nat.le_refl _, by simp [maxLen], by simp, .inl ⟨rfl, rfl, rfl⟩⟩
  · have hrl := (hrest rfl).1
    subst hx
    have hw : ∀ q ∈ DataW.weights P t (.slice (elems.map (·.1)) (rest.map (·.1))), q ≤ reachBytes := hz
    simp only [DataW.weights, ht, List.length_map, List.mem_cons, List.mem_append] at hw
    have hsz := hw _ (.inl rfl)
    obtain ⟨l, hll, hp⟩ := exists_list (p := fun i b => ∃ cs', cs'.length = P.cellsOf e ∧ (∀ j, j < P.cellsOf e → w.cell? (a.add (i * P.cellsOf e + j)) = cs'[j]?) ∧ R w cs' b) len (fun i hi => by
      have hxi : elems[i]? = some (elems[i]'(by omega)) := List.getElem?_eq_getElem (by omega)
      have h1 := (hat i hi).trans hxi
      rw [Option.bind_eq_some_iff] at h1
      obtain ⟨cs', hcs', ht'⟩ := h1
      obtain ⟨_, hcl, hcell⟩ := World.cells?_some hcs'
      obtain ⟨b, hbR⟩ := hR enc w k _ _ ht' (fun q hq => hw q (.inr (.inl (weightsAll_mem (i := i) (by rw [List.getElem?_map, hxi]; rfl) q hq))))
      refine ⟨b, cs', hcl, fun j hj => ?_, hbR⟩
      rw [← hcell j hj]
      unfold Addr.add
      by_cases h1 : i * P.cellsOf e = 0 <;> by_cases h2 : j = 0 <;> simp [h1, h2, Nat.add_assoc])
    refine ⟨⟨some a, len, cap, l⟩, hcs, hll, hl, hc, ?_, .inr ⟨a, rfl, hp⟩⟩
    unfold reachBytes at hsz
    rw [hel, hrl] at hsz
    have : len + (cap - len) = cap := by omega
    rw [this] at hsz
    exact hsz
end

/-! ### From cells back to the value of a parameter -/
section
variable {P : Program} {t : TypeId} {w : World} {r : Reach} {b : Nat} {v : Value}
theorem top_int {k : IntKind} {n : Int} (ht : P.underlying t = some (.int k)) (hv : Value.okWide P w r b t v) (h : intR k w v.cells.toList n) : v = .int k n ∧ (Lit.int k n).wf = true := by
  obtain ⟨m, rfl⟩ := okWide_int ht hv
  obtain ⟨h1, h2⟩ := h
  simp [Value.cells] at h1
  subst h1
  exact ⟨rfl, h2⟩
theorem top_bool {x : Bool} (ht : P.underlying t = some .bool) (hv : Value.okWide P w r b t v) (h : boolR w v.cells.toList x) : v = .bool x := by
  obtain ⟨m, rfl⟩ := okWide_bool ht hv
  unfold boolR at h
  simp [Value.cells] at h
  subst h
  rfl
theorem top_str {s : ByteArray} (ht : P.underlying t = some .string) (hv : Value.okWide P w r b t v) (h : strR w v.cells.toList s) : v = .string s ∧ s.size ≤ 140737488351232 := by
  obtain ⟨m, rfl⟩ := okWide_string ht hv
  obtain ⟨h1, h2⟩ := h
  simp [Value.cells] at h1
  subst h1
  exact ⟨rfl, h2⟩
theorem top_slice {α : Type} {R : Reader α} {m bytes : Nat} {e : TypeId} {row : Row α} (ht : P.underlying t = some (.slice e)) (hv : Value.okWide P w r b t v) (h : sliceR m bytes R w v.cells.toList row) : v = row.val := by
  obtain ⟨a, len, cap, rfl⟩ := okWide_slice ht hv
  have h1 := h.1
  simp [Value.cells] at h1
  exact h1
theorem top_struct {fs : Array Field} (ht : P.underlying t = some (.struct fs)) (hv : Value.okWide P w r b t v) : v = .agg v.cells := by
  obtain ⟨cs, rfl, _⟩ := okWide_struct ht hv
  rfl
theorem top_array {n : Nat} {e : TypeId} (ht : P.underlying t = some (.array n e)) (hv : Value.okWide P w r b t v) : v = .agg v.cells := by
  simp only [Value.okWide, ht] at hv
  obtain ⟨cs, rfl, _⟩ := hv
  rfl
end

/-! ### A law whose arguments are only read: its frame -/
section
variable {H : Type} {enc : TypeId × Value → H}
theorem trodAll_below {P : Program} (hl : laidOutB P = true) {W W' : World} (hb : Below W.heap.size W W') : ∀ {ts : List TypeId} {vs : List Value} {ds : List (DataW H)} {ps : List MemPlace},
    (∀ t ∈ ts, P.readableRec t = true ∧ t < P.types.size) → DataW.TrodAll enc P W 0 (fun _ => true) true ts vs ds ps → DataW.TrodAll enc P W' 0 (fun b => decide (b < W.heap.size)) true ts vs ds ps
  | [], vs, ds, ps, _, h => by
    obtain ⟨rfl, rfl, rfl⟩ := trodAll_nil h
    exact trodAll_mk0
  | t :: ts, vs, ds, ps, hr, h => by
    obtain ⟨v, vs', d, ds', p, q, rfl, rfl, rfl, h0, r0⟩ := trodAll_cons h
    exact trodAll_cons_mk (Below.trod hl (hr t (by simp)).1 (hr t (by simp)).2 h0 hb (by obtain ⟨m, hm⟩ := h0; exact DataW.trod_lt m _ _ _ hm)) (trodAll_below hl hb (fun u hu => hr u (by simp [hu])) r0)
/-- What the walk of a law is told of its arguments. -/
structure Fed (P : Program) (W : World) (ts : List TypeId) (args : Array Value) : Prop where
  count : args.size = ts.length
  each : ∀ (j : Nat) (t : TypeId) (v : Value), ts[j]? = some t → args[j]? = some v → (∃ b, Value.okWide P W .any b t v) ∧
    ∀ {α : Type} {R : Reader α}, Opens P t R → ∃ a, R W v.cells.toList a
theorem trodAll_at {P : Program} {W : World} : ∀ {ts : List TypeId} {vs : List Value} {ds : List (DataW H)} {ps : List MemPlace},
    DataW.TrodAll enc P W 0 (fun _ => true) true ts vs ds ps → vs.length = ts.length ∧ ds.length = ts.length ∧
      ∀ (j : Nat) (t : TypeId) (v : Value), ts[j]? = some t → vs[j]? = some v → ∃ d p, ds[j]? = some d ∧ DataW.Trod enc P W 0 (fun _ => true) true t v d p
  | [], vs, ds, ps, h => by
    obtain ⟨rfl, rfl, rfl⟩ := trodAll_nil h
    exact ⟨rfl, rfl, fun j t v hj => by simp at hj⟩
  | t :: ts, vs, ds, ps, h => by
    obtain ⟨v, vs', d, ds', p, q, rfl, rfl, rfl, h0, r0⟩ := trodAll_cons h
    obtain ⟨h1, h2, h3⟩ := trodAll_at r0
    refine ⟨by simp [h1], by simp [h2], fun j u x hj hx => ?_⟩
    cases j with
    | zero =>
      simp only [List.getElem?_cons_zero, Option.some.injEq] at hj hx
      subst hj; subst hx
      exact ⟨d, p, rfl, h0⟩
    | succ j =>
      simp only [List.getElem?_cons_succ] at hj hx ⊢
      exact h3 j u x hj hx
end
/-- THE FRAME: a law over arguments that are only read. -/
theorem lift {C : Checked} {os : Os} {f : FuncId} {fn : Func} {s : ChangeSpec} {tb : TypeId} {H : Type} {enc : TypeId × Value → H} {ts : List TypeId} {dom : List PathCond}
    (own : ownKnob C.prog.godebug = none) (started : os.Started) (noInit : C.prog.inits.idxOf? f = none) (hfn : C.prog.funcs[f]? = some fn)
    (hl : laidOutB C.prog = true) (hts : fn.params.toList = ts) (hrB : (ts.all fun t => C.prog.readableRec t && decide (t < C.prog.types.size)) = true)
    (hres : fn.resultTypes = #[tb]) (hb : C.prog.underlying tb = some .bool) (hv : s.vars = [])
    (hspec : ∀ ds : List (DataW H), ds.length = ts.length → s.fn H (ds ++ []) = { results := [.lit (.bool true)], args := ds })
    (witness : ∃ (w : World) (tape : Tape) (i : Input), w.os = os ∧ (w.forCall tape i).Shaped C.prog ∧ i.vars = [] ∧ Input.okWide C.prog (w.forCall tape i) .any w.heap.size f i ∧
      s.pre6 enc C.prog fn dom false (w.forCall tape i).memory i.args ∧ ({} : Assume).holds C.prog (lone (Frame.enter C.prog f i.args .normal) [] (w.forCall tape i)))
    (walk : ∀ (W : World) (args : Array Value), Fed C.prog W ts args → Calls C.prog f args W fun e W' => e = .returned (.bool true) ∧ Below W.heap.size W W') :
    ReturnsInHanded {} C os f .any (s.pre6 enc C.prog fn dom false) (s.post enc C.prog fn false true false false) := by
  have hr : ∀ t ∈ ts, C.prog.readableRec t = true ∧ t < C.prog.types.size := fun t ht => by
    have := List.all_eq_true.1 hrB t ht
    simpa using this
  refine returnsInHanded_of_change_sized (C := C) own started noInit hfn witness ?_
  intro W base args ds gs before hval hW _ hsz _
  have hW' := hW
  obtain ⟨p, q, hA, hV, rfl, _, _⟩ := hW
  rw [hv] at hV
  obtain ⟨rfl, rfl⟩ := trodVars_none hV
  have hA' := hA
  rw [hts] at hA'
  obtain ⟨n1, n2, n3⟩ := trodAll_at hA'
  have hvt : s.plain.varTypes C.prog = [] := by simp [ChangeSpec.plain, DataSpec.varTypes, hv]
  rw [hts, hvt, List.append_nil, List.append_nil] at hsz
  refine (walk W args ⟨by simpa using n1, fun j t v hj hjv => ?_⟩).mono fun e W' ⟨he, bel⟩ => ?_
  · have hjv' : args.toList[j]? = some v := by simpa using hjv
    obtain ⟨d, pl, hd, fuel, hf⟩ := n3 j t v hj hjv'
    refine ⟨⟨base, hval j t v (by rw [← Array.getElem?_toList, hts]; exact hj) hjv⟩, fun hO => hO enc W fuel _ _ hf (fun k hk => ?_)⟩
    have := List.all_eq_true.1 hsz _ (DataW.weights_mem_each hj hd k hk)
    simpa using this
  · subst he
    refine ⟨_, rfl, ds, [], _, [], p, [], hW', ?_, ?_, ?_, bel.frame _, fun h => by cases h⟩
    · rw [hspec ds n2, hres]
      exact trodAll_mk1 (shut_bool hb _)
    · rw [hspec ds n2]
      have h3 := trodAll_below hl bel hr hA'
      rw [hts]
      exact h3
    · rw [hspec ds n2, hv]
      rfl
theorem args1 {args : Array Value} (h : args.size = 1) : ∃ a, args = #[a] := by
  obtain ⟨l⟩ := args
  match l, h with
  | [a], _ => exact ⟨a, rfl⟩
theorem args2 {args : Array Value} (h : args.size = 2) : ∃ a b, args = #[a, b] := by
  obtain ⟨l⟩ := args
  match l, h with
  | [a, b], _ => exact ⟨a, b, rfl⟩
theorem args3 {args : Array Value} (h : args.size = 3) : ∃ a b c, args = #[a, b, c] := by
  obtain ⟨l⟩ := args
  match l, h with
  | [a, b, c], _ => exact ⟨a, b, c, rfl⟩
theorem args4 {args : Array Value} (h : args.size = 4) : ∃ a b c d, args = #[a, b, c, d] := by
  obtain ⟨l⟩ := args
  match l, h with
  | [a, b, c, d], _ => exact ⟨a, b, c, d, rfl⟩
theorem args5 {args : Array Value} (h : args.size = 5) : ∃ a b c d e, args = #[a, b, c, d, e] := by
  obtain ⟨l⟩ := args
  match l, h with
  | [a, b, c, d, e], _ => exact ⟨a, b, c, d, e, rfl⟩
theorem then_below {a b c : World} (h : Below a.heap.size a b) (k : Below b.heap.size b c) : Below a.heap.size a c := h.trans (k.mono h.size)

/-! ### Slices that came in, as the walk wants them -/
/-- A slice of one-cell elements that came in: its cells. -/
def Lies (w : World) (A : Option Addr) (xs : List Value) : Prop :=
  xs = [] ∨ ∃ b off, A = some ⟨b, off, none⟩ ∧ b < w.heap.size ∧ ∀ (i : Nat) x, xs[i]? = some x → w.cell? ⟨b, off + i, none⟩ = some x
/-- A slice of elements of m cells each that came in: the cells of each element. -/
def LiesN (w : World) (A : Option Addr) (m : Nat) (xs : List (List Value)) : Prop :=
  xs = [] ∨ ∃ b off, A = some ⟨b, off, none⟩ ∧ b < w.heap.size ∧ ∀ (i : Nat) x, xs[i]? = some x → x.length = m ∧ ∀ j, j < m → w.cell? ⟨b, off + (i * m + j), none⟩ = x[j]?
section
variable {α : Type} {R : Reader α} {w : World} {cs : List Value} {r : Row α} {m bytes : Nat}
theorem cell_plain {a : Addr} {u : Value} (h : w.cell? (a.add 0) = some u) : ∃ b off, a = ⟨b, off, none⟩ ∧ b < w.heap.size ∧ ∀ j, w.cell? (a.add j) = w.cell? ⟨b, off + j, none⟩ := by
  obtain ⟨b, off, spot⟩ := a
  have hs : spot = none := by
    have := World.cell?_spot h
    simpa [Addr.add] using this
  subst hs
  refine ⟨b, off, rfl, ?_, fun j => ?_⟩
  · have := World.block_lt_of_cell? w _ h
    simpa [Addr.add] using this
  · unfold Addr.add
    by_cases hj : j = 0
    · simp [hj]
    · simp [hj]
theorem liesN_of {f : α → List Value} (hR : ∀ w cs a, R w cs a → cs = f a) (hm : 0 < m) (h : sliceR m bytes R w cs r) : LiesN w r.ptr m (r.elems.map f) := by
  obtain ⟨_, hl, _, _, _, hcase⟩ := h
  rcases hcase with ⟨_, h0, _⟩ | ⟨ad, hp, hat⟩
  · left
    rw [List.eq_nil_of_length_eq_zero (hl.trans h0)]
    rfl
  · by_cases he : r.elems = []
    · left; rw [he]; rfl
    · right
      have hpos : 0 < r.elems.length := by
        rcases Nat.eq_zero_or_pos r.elems.length with h0 | h0
        · exact absurd (List.eq_nil_of_length_eq_zero h0) he
        · exact h0
      obtain ⟨c0, hc0, hcell0, _⟩ := hat 0 _ (List.getElem?_eq_getElem hpos)
      have h00 := hcell0 0 hm
      have hc00 : c0[0]? = some (c0[0]'(by omega)) := List.getElem?_eq_getElem (by omega)
      rw [hc00] at h00
      rw [Nat.zero_mul] at h00
      obtain ⟨b, off, rfl, hb, hadd⟩ := cell_plain h00
      refine ⟨b, off, hp, hb, fun i x hx => ?_⟩
      rw [List.getElem?_map] at hx
      obtain ⟨a, ha, rfl⟩ := Option.map_eq_some_iff.1 hx
      obtain ⟨c, hcl, hcell, hRc⟩ := hat i a ha
      have := hR _ _ _ hRc
      subst this
      exact ⟨hcl, fun j hj => by rw [← hadd]; exact hcell j hj⟩
theorem lies_of {f : α → Value} (hR : ∀ w cs a, R w cs a → cs = [f a]) (h : sliceR 1 bytes R w cs r) : Lies w r.ptr (r.elems.map f) := by
  rcases liesN_of (f := fun a => [f a]) hR (by omega) h with h0 | ⟨b, off, hp, hb, hc⟩
  · left
    have : r.elems.length = 0 := by simpa using congrArg List.length h0
    rw [List.eq_nil_of_length_eq_zero this]
    rfl
  · right
    refine ⟨b, off, hp, hb, fun i x hx => ?_⟩
    rw [List.getElem?_map] at hx
    obtain ⟨a, ha, rfl⟩ := Option.map_eq_some_iff.1 hx
    have := (hc i [f a] (by rw [List.getElem?_map, ha]; rfl)).2 0 (by omega)
    simpa using this
theorem elem_of (h : sliceR m bytes R w cs r) : ∀ a ∈ r.elems, ∃ cs', R w cs' a := by
  intro a ha
  obtain ⟨i, hi⟩ := List.getElem?_of_mem ha
  obtain ⟨_, hl, _, _, _, hcase⟩ := h
  rcases hcase with ⟨_, h0, _⟩ | ⟨_, _, hat⟩
  · rw [List.eq_nil_of_length_eq_zero (hl.trans h0)] at ha
    cases ha
  · obtain ⟨c, _, _, hc⟩ := hat i a hi
    exact ⟨c, hc⟩
theorem row_max (h : sliceR m bytes R w cs r) : r.elems.length ≤ 9223372036854775807 := by
  obtain ⟨_, hl, h1, h2, _⟩ := h
  unfold maxLen at h2
  omega
theorem row_val (h : sliceR m bytes R w cs r) : r.val = .slice r.ptr r.elems.length r.cap := by
  unfold Row.val
  rw [h.2.1]
end

/-! ### Regions that draw their order -/
/-- A world in which nothing of w has turned; blocks may be new. -/
def Since (w : World) : Type := { w' : World // Below w.heap.size w w' }
instance (w : World) : Nonempty (Since w) := ⟨⟨w, Below.refl _ _⟩⟩
/-- A region that draws its order, whose operations only read and whose calls make memory at most. -/
theorem region_since {P : Program} {id : Nat} {Q : Exit → Act → World → Prop} {a : Act} (w0 : World) {w : World} {l : List Oper} (hm : P.follows .mixedOrders = true) (hB : Region.lexB .any l.toArray = true) (hw : Below w0.heap.size w0 w)
    (h : wpQuiet P l.toArray (fun w' => ∃ x : Since w0, w' = x.1) (fun a' => ∀ w', (∃ x : Since w0, w' = x.1) → Q .normal a' w') l a) : (Code.region id l.toArray true).wp P Q a w :=
  wp_region_quiet (C := fun w' => ∃ x : Since w0, w' = x.1) hm hB ⟨⟨_, hw.drew⟩, rfl⟩ (by simpa using h)
theorem since_call {P : Program} {f : FuncId} {args : Array Value} {v : Value} {w0 : World} (h : ∀ w, Calls P f args w fun e w' => e = .returned v ∧ Below w.heap.size w w') (x : Since w0) :
    Calls P f args x.1 fun e w' => e = .returned v ∧ ∃ y : Since w0, w' = y.1 :=
  (h x.1).mono fun _ w' ⟨he, hb⟩ => ⟨he, ⟨w', then_below x.2 hb⟩, rfl⟩

end Go.Proofs.YtkfjgmfokpgcbaaGreatDoor.opened
namespace Go.Proofs.YtkfjgmfokpgcbaaGreatDoor.data
open Go.ChangeShapes Go.WideShapes Go.ChangeAt Go.RowKit
open Go.Proofs.YtkfjgmfokpgcbaaGreatDoor.opened Go.Proofs.YtkfjgmfokpgcbaaGreatDoor.block Go.Proofs.YtkfjgmfokpgcbaaGreatDoor.region

/-- A row of parts. -/
def Lg {α : Type} (m : Nat) (f : α → List Value) (w : World) (A : Option Addr) (M : List α) : Prop := LiesN w A m (M.map f)
theorem Lg.below {α : Type} {m : Nat} {f : α → List Value} {w w' : World} {A : Option Addr} {M : List α} (h : Lg m f w A M) (hb : Below w.heap.size w w') : Lg m f w' A M := by
  rcases h with h | ⟨b, off, hA, hbl, hc⟩
  · exact .inl h
  · exact .inr ⟨b, off, hA, Nat.lt_of_lt_of_le hbl hb.size, fun i x hx => ⟨(hc i x hx).1, fun j hj => (hb.cell (p := ⟨b, off + (i * m + j), none⟩) hbl).trans ((hc i x hx).2 j hj)⟩⟩
theorem Lg.cells {α : Type} {m : Nat} {f : α → List Value} {w : World} {A : Option Addr} {M : List α} (h : Lg m f w A M) {k : Nat} {p : α} (hk : M[k]? = some p) :
    ∃ b off, A = some ⟨b, off, none⟩ ∧ b < w.heap.size ∧ ∀ j, j < m → w.cell? ⟨b, off + (k * m + j), none⟩ = (f p)[j]? := by
  rcases h with h | ⟨b, off, hA, hbl, hc⟩
  · have : M = [] := by simpa using h
    subst this
    simp at hk
  · have hx : (M.map f)[k]? = some (f p) := by rw [List.getElem?_map, hk]; rfl
    exact ⟨b, off, hA, hbl, (hc k (f p) hx).2⟩
theorem lg_nil {α : Type} {m : Nat} {f : α → List Value} (w : World) (A : Option Addr) : Lg m f w A [] := .inl rfl
/-- A part of a row, by its place. -/
theorem Lg.part {α : Type} {m : Nat} {f : α → List Value} {w : World} {b off : Nat} {M : List α} (h : Lg m f w (some ⟨b, off, none⟩) M) (i n : Nat) (hb : b < w.heap.size) : Lg m f w (some ⟨b, off + i * m, none⟩) ((M.drop i).take n) := by
  rcases h with h | ⟨b', off', hA, hbl, hc⟩
  · have : M = [] := by simpa using h
    subst this
    simp only [List.drop_nil, List.take_nil]
    exact .inl rfl
  · injection (Option.some.inj hA) with e1 e2
    subst e1 e2
    refine .inr ⟨b, off + i * m, rfl, hb, fun k x hx => ?_⟩
    rw [List.getElem?_map, List.getElem?_take] at hx
    split at hx
    · rw [List.getElem?_drop] at hx
      have h2 := hc (i + k) x (by rw [List.getElem?_map]; exact hx)
      refine ⟨h2.1, fun j hj => ?_⟩
      rw [← h2.2 j hj, Nat.add_mul]
      simp [Nat.add_assoc]
    · cases hx
theorem yieldsW_callR {P : Program} {w : World} {o : Oper} {ρ : Operand → Value} {f : FuncId} {xs : Array Operand} {ts : Array TypeId} {T : Value → World → Prop} (ho : o.op = .call { callee := .value (.func f), args := xs, argTypes := ts }) {vs : Array Value} (hx : xs.map ρ = vs) (hf : ρ (.func f) = .func (.func f) #[] #[]) {fn : Func} (hfn : P.funcs[f]? = some fn) (hname : (fn.name == "runtime.NumGoroutine") = false) (hbody : fn.body.isNone = false)
    (h : Calls P f vs w fun e w' => ∃ u, e = .returned u ∧ T u w') : YieldsW P o ρ w T := by
  have h1 : ¬ fn.name = "runtime.NumGoroutine" := by simpa using hname
  have h2 : ¬ fn.body = none := by
    intro e
    rw [e] at hbody
    cases hbody
  refine .inr ⟨f, vs, ?_, h⟩
  unfold execOp
  simp [ho, hx, hf, resolve, go_sem, callFunc, hfn, h1, h2]
theorem grown_below {a b : World} {row : Option Nat} (h : Below a.heap.size a b) : a.grownBy b row := ⟨h.os, h.tape, h.output, h.size, fun k hk _ => h.block k hk⟩
theorem grown_own {a b c : World} {g : Nat} {row : Option Nat} (h : a.grownBy b (some g)) (k : b.grownBy c row) (hr : ∀ j, row = some j → a.heap.size ≤ j) : a.grownBy c (some g) :=
  ⟨k.os.trans h.os, k.tape.trans h.tape, k.output.trans h.output, Nat.le_trans h.size k.size, fun j hj hne => (k.block j (Nat.lt_of_lt_of_le hj h.size) (fun e => by have := hr j e.symm; omega)).trans (h.block j hj hne)⟩
theorem whole_cells {w : World} {g : Nat} {t : TypeId} {xs : List Value} (h : Whole w g t xs.toArray) : ∀ j u, xs[j]? = some u → w.cell? ((⟨g, 0, none⟩ : Addr).add j) = some u := by
  intro j u hj
  unfold Whole at h
  rcases j with _ | j <;> simp [World.cell?, Addr.add, h, hj]
theorem fresh0 (w : World) (o : Obj) : Below w.heap.size w (w.alloc o) := (Below.refl _ _).alloc (Nat.le_refl _) _
theorem cell_newG (w : World) (xs : List Value) (t : TypeId) : ∀ j u, xs[j]? = some u → (w.alloc (.cells xs.toArray t)).cell? ((⟨w.heap.size, 0, none⟩ : Addr).add j) = some u := whole_cells (Whole.fresh w t xs.toArray)
/-- What an element's cells are to be: so many, each of one cell. -/
structure Cells {α : Type} (m : Nat) (f : α → List Value) : Prop where
  len : ∀ x, (f x).length = m
  one : ∀ x, ∀ v ∈ f x, v.oneCell' = true
/-- A slice of elements that is one's own. -/
abbrev OwnG {α : Type} (T : TypeId) (m : Nat) (f : α → List Value) (w : World) (base : Nat) (v : Value) (N : List α) : Prop := w.ownsRow base T m v N.length (N.flatMap f)
section
variable {α : Type} {m : Nat} {f : α → List Value} {T : TypeId}
theorem flatG_len (F : Cells m f) (N : List α) : (N.flatMap f).length = N.length * m := by
  induction N with
  | nil => simp
  | cons x r ih => rw [List.flatMap_cons, List.length_append, ih, List.length_cons, F.len, Nat.add_mul]; omega
theorem flatG_at (F : Cells m f) (N : List α) : ∀ (i : Nat) (y : α) (j : Nat), N[i]? = some y → j < m → (N.flatMap f)[i * m + j]? = (f y)[j]? := by
  induction N with
  | nil => intro i y j h; simp at h
  | cons x r ih =>
    intro i y j h hj
    have h5 := F.len x
    rw [List.flatMap_cons]
    cases i with
    | zero =>
      simp at h
      subst h
      rw [List.getElem?_append_left (by rw [h5]; omega)]
      simp
    | succ i =>
      rw [List.getElem?_append_right (by rw [h5, Nat.add_mul]; omega), h5, show (i + 1) * m + j - m = i * m + j by rw [Nat.add_mul]; omega]
      exact ih i y j (by simpa using h) hj
theorem OwnG.lg (F : Cells m f) {w : World} {base : Nat} {A : Option Addr} {n c : Nat} {N : List α} (h : OwnG T m f w base (.slice A n c) N) : Lg m f w A N := by
  rcases h.2 with ⟨-, hn⟩ | ⟨g, cap, cur, hv, hb, hg, hc, hcm, hs, ht⟩
  · rw [List.eq_nil_of_length_eq_zero hn]; exact .inl rfl
  · injection hv with h1 h2 h3
    subst h1
    refine .inr ⟨g, 0, rfl, (Array.getElem?_eq_some_iff.1 hg).1, fun i x hx => ?_⟩
    rw [List.getElem?_map, Option.map_eq_some_iff] at hx
    obtain ⟨y, hy, rfl⟩ := hx
    refine ⟨F.len y, fun j hj => ?_⟩
    have e := flatG_at F N i y j hy hj
    have hi := (List.getElem?_eq_some_iff.1 hy).1
    have hlt : i * m + j < N.length * m := by
      have : (i + 1) * m ≤ N.length * m := Nat.mul_le_mul_right m hi
      rw [Nat.add_mul] at this
      omega
    rw [← ht, List.getElem?_take, if_pos hlt, Array.getElem?_toList] at e
    rw [← e]
    simp [World.cell?, hg]
theorem OwnG.below {w w' : World} {base : Nat} {v : Value} {N : List α} (h : OwnG T m f w base v N) (hb : Below w.heap.size w w') : OwnG T m f w' base v N := by
  refine ⟨h.1, ?_⟩
  rcases h.2 with hn | ⟨g, cap, cur, hv, hg0, hg, rest⟩
  · exact .inl hn
  · exact .inr ⟨g, cap, cur, hv, hg0, (hb.block g (Array.getElem?_eq_some_iff.1 hg).1).trans hg, rest⟩
theorem OwnG.past {w w' : World} {base : Nat} {row : Option Nat} {v : Value} {N : List α} (h : OwnG T m f w base v N) (hg : w.grownBy w' row) (hn : ∀ k, row = some k → some k ≠ v.ownBlock) : OwnG T m f w' base v N := by
  refine ⟨h.1, ?_⟩
  rcases h.2 with hx | ⟨g', cap, cur, hv, hg0, hh, rest⟩
  · exact .inl hx
  · refine .inr ⟨g', cap, cur, hv, hg0, (hg.block g' (Array.getElem?_eq_some_iff.1 hh).1 (fun e => hn g' e.symm ?_)).trans hh, rest⟩
    rw [hv]
    rfl
theorem OwnG.away {w : World} {base gz : Nat} {v : Value} {N : List α} (h : OwnG T m f w base v N) (hz : w.heap.size ≤ gz) : some gz ≠ v.ownBlock := by
  rcases h.2 with ⟨rfl, _⟩ | ⟨g, cap, cur, rfl, hb, hg, _⟩
  · simp [Value.ownBlock]
  · have := (Array.getElem?_eq_some_iff.1 hg).1
    simp [Value.ownBlock]
    omega
theorem OwnG.above {w : World} {base k : Nat} {v : Value} {N : List α} (h : OwnG T m f w base v N) (e : v.ownBlock = some k) : base ≤ k := by
  rcases h.2 with ⟨rfl, _⟩ | ⟨g, cap, cur, rfl, hb, _, _⟩
  · simp [Value.ownBlock] at e
  · obtain rfl : g = k := by simpa [Value.ownBlock] using e
    exact hb
theorem OwnG.keptG {w w' : World} {base g : Nat} {v : Value} {N : List α} (h : OwnG T m f w base v N) (hg : w.grownBy w' (some g)) (hb : g < base) : OwnG T m f w' base v N :=
  h.past hg fun k e he => by
    cases e
    have := h.above he.symm
    omega
theorem OwnG.room {w : World} {base : Nat} {A : Option Addr} {n c : Nat} {N : List α} (h : OwnG T m f w base (.slice A n c) N) : N.length ≤ c := by
  rcases h.2 with ⟨-, hn⟩ | ⟨g, cap, cur, hv, hb, hg, hc, hcm, hs, ht⟩
  · omega
  · injection hv with h1 h2 h3
    omega
theorem OwnG.gap {w : World} {base : Nat} {A : Option Addr} {n c : Nat} {N : List α} (h : OwnG T m f w base (.slice A n c) N) : ∀ a, A = some a → base ≤ a.block := by
  rintro a rfl
  rcases h.2 with ⟨hv, -⟩ | ⟨g, cap, cur, hv, hb, hg, hc, hcm, hs, ht⟩
  · cases hv
  · injection hv with h1 h2 h3
    injection h1 with h1
    subst h1
    exact hb
theorem OwnG.succ {W : World} {base k : Nat} {v : Value} {xs : List Value} (h : W.ownsRow base T m v (k + 1) xs) : ∃ g cap, v = .slice (some ⟨g, 0, none⟩) (k + 1) cap := by
  rcases h.2 with ⟨-, h0⟩ | ⟨g, cap, cur, hv, -⟩
  · omega
  · exact ⟨g, cap, hv⟩
theorem OwnG.shape {w : World} {base : Nat} {v : Value} {N : List α} (h : OwnG T m f w base v N) : ∃ B c, v = .slice B N.length c ∧ N.length ≤ c ∧ c ≤ maxLen := by
  rcases h.2 with ⟨hv, hn⟩ | ⟨g, cap, cur, hv, hb, hg, hc, hcm, -⟩
  · exact ⟨none, 0, by rw [hv, hn], by omega, Nat.zero_le _⟩
  · exact ⟨_, _, hv, hc, hcm⟩
theorem ownG_nil (w : World) (base : Nat) : OwnG T m f w base (.slice none 0 0) [] := World.ownsRow_nil _ _ _ _
theorem OwnG.low {w : World} {base base' : Nat} {v : Value} {N : List α} (h : OwnG T m f w base v N) (hb : base' ≤ base) : OwnG T m f w base' v N := by
  refine ⟨h.1, ?_⟩
  rcases h.2 with hx | ⟨g, cap, cur, hv, hg0, hh, rest⟩
  · exact .inl hx
  · exact .inr ⟨g, cap, cur, hv, Nat.le_trans hb hg0, hh, rest⟩
theorem OwnG.grown {W w1 : World} {base : Nat} {v : Value} {N : List α} {tmp : Obj} (h : OwnG T m f W base v N) (hb0 : base ≤ W.heap.size) (hg : (W.alloc tmp).grownBy w1 v.ownBlock) : Below base W w1 :=
  ((Below.refl base W).alloc hb0 tmp).grown hg (by simp; omega) fun j ej => h.above ej
/-- A row of one element, newer than a place. -/
def LoneG (T : TypeId) (f : α → List Value) (z : Nat) (p : α) : Value → World → Prop := fun u w => ∃ gx, u = .slice (some ⟨gx, 0, none⟩) 1 1 ∧ z ≤ gx ∧ Whole w gx T (f p).toArray
theorem keeps_loneG (z : Nat) (p : α) : Keeps (LoneG T f z p) := fun _ _ _ hb ⟨gx, h1, h2, h3⟩ => ⟨gx, h1, h2, h3.below hb h3.inside⟩
def NewG (T : TypeId) (m : Nat) (f : α → List Value) (base : Nat) (N : List α) : Value → World → Prop := fun u w => ∃ g' c', u = .slice (some ⟨g', 0, none⟩) N.length c' ∧ OwnG T m f w base u N
theorem keeps_newG (base : Nat) (N : List α) : Keeps (NewG T m f base N) := fun _ _ _ hb ⟨g', c', h1, h2⟩ => ⟨g', c', h1, h2.below hb⟩
end
end Go.Proofs.YtkfjgmfokpgcbaaGreatDoor.data
namespace Go.Proofs.YtkfjgmfokpgcbaaGreatDoor.data
open Go.ChangeShapes Go.WideShapes Go.ChangeAt Go.RowKit
open Go.Proofs.YtkfjgmfokpgcbaaGreatDoor.opened Go.Proofs.YtkfjgmfokpgcbaaGreatDoor.block Go.Proofs.YtkfjgmfokpgcbaaGreatDoor.region

/-- Rows that lie: a row of slices; each slice is a row. -/
structure LL {α : Type} (m : Nat) (f : α → List Value) (w : World) (A : Option Addr) (NN : List (List α)) : Prop where
  rows : ∀ (i : Nat) (N : List α), NN[i]? = some N → ∃ b off B c, A = some ⟨b, off, none⟩ ∧ b < w.heap.size ∧ w.cell? ⟨b, off + i, none⟩ = some (.slice B N.length c) ∧ Lg m f w B N
theorem LL.below {α : Type} {m : Nat} {f : α → List Value} {w w' : World} {A : Option Addr} {NN : List (List α)} (h : LL m f w A NN) (hb : Below w.heap.size w w') : LL m f w' A NN := by
  refine ⟨fun i N hi => ?_⟩
  obtain ⟨b, off, B, c, h1, h2, h3, h4⟩ := h.rows i N hi
  exact ⟨b, off, B, c, h1, Nat.lt_of_lt_of_le h2 hb.size, (hb.cell (p := ⟨b, off + i, none⟩) h2).trans h3, h4.below hb⟩
theorem lL_nil {α : Type} {m : Nat} {f : α → List Value} (w : World) (A : Option Addr) : LL m f w A ([] : List (List α)) := ⟨fun i N h => by simp at h⟩
/-- A row of slices that is one's own; each of them is one's own too; no two lie in one block. -/
structure Nest {α : Type} (T2 T : TypeId) (m : Nat) (f : α → List Value) (w : World) (base : Nat) (V : Value) (vs : List Value) (NN : List (List α)) : Prop where
  head : w.ownsRow base T2 1 V vs.length vs
  len : vs.length = NN.length
  row : ∀ (i : Nat) (v : Value) (N : List α), vs[i]? = some v → NN[i]? = some N → OwnG T m f w base v N
  off : ∀ (i : Nat) (v : Value), vs[i]? = some v → ∀ g, v.ownBlock = some g → V.ownBlock ≠ some g
  apart : ∀ (i j : Nat) (v u : Value), vs[i]? = some v → vs[j]? = some u → i ≠ j → ∀ g, v.ownBlock = some g → u.ownBlock ≠ some g
section
variable {α : Type} {T2 T : TypeId} {m : Nat} {f : α → List Value} {w : World} {base : Nat} {V : Value} {vs : List Value} {NN : List (List α)}
theorem row_below {w w' : World} {base size n : Nat} {e : TypeId} {v : Value} {xs : List Value} (h : w.ownsRow base e size v n xs) (hb : Below w.heap.size w w') : w'.ownsRow base e size v n xs := by
  refine ⟨h.1, ?_⟩
  rcases h.2 with hn | ⟨g, cap, cur, hv, hg0, hg, rest⟩
  · exact .inl hn
  · exact .inr ⟨g, cap, cur, hv, hg0, (hb.block g (Array.getElem?_eq_some_iff.1 hg).1).trans hg, rest⟩
theorem Nest.below {w' : World} (h : Nest T2 T m f w base V vs NN) (hb : Below w.heap.size w w') : Nest T2 T m f w' base V vs NN :=
  ⟨row_below h.head hb, h.len, fun i v N h1 h2 => (h.row i v N h1 h2).below hb, h.off, h.apart⟩
theorem nest_nil (w : World) (base : Nat) : Nest T2 T m f w base (.slice none 0 0) [] ([] : List (List α)) :=
  ⟨World.ownsRow_nil _ _ _ _, rfl, fun i v N h => by simp at h, fun i v h => by simp at h, fun i j v u h => by simp at h⟩
theorem Nest.lies (F : Cells m f) {A : Option Addr} {n c : Nat} (h : Nest T2 T m f w base (.slice A n c) vs NN) : LL m f w A NN := by
  refine ⟨fun i N hi => ?_⟩
  have hlt := (List.getElem?_eq_some_iff.1 hi).1
  have hv : vs[i]? = some (vs[i]'(by rw [h.len]; exact hlt)) := List.getElem?_eq_getElem (by rw [h.len]; exact hlt)
  have hr := h.row i _ N hv hi
  obtain ⟨B, c', e, -, -⟩ := hr.shape
  rw [e] at hr hv
  rcases h.head.2 with ⟨-, hn⟩ | ⟨g, cap, cur, e2, hb, hg, hc, hcm, hs, ht⟩
  · have := h.len; omega
  · injection e2 with e3 e4 e5
    subst e3
    refine ⟨g, 0, B, c', rfl, (Array.getElem?_eq_some_iff.1 hg).1, ?_, hr.lg F⟩
    have h5 := hv
    rw [← ht, List.getElem?_take] at h5
    split at h5
    · rw [Array.getElem?_toList] at h5
      simp [World.cell?, hg, h5]
    · cases h5
/-- One row grows; its slice is stored again. -/
theorem Nest.put {g cap i : Nat} {v v' : Value} {N : List α} {x : α} {W w1 : World} (h : Nest T2 T m f W base (.slice (some ⟨g, 0, none⟩) vs.length cap) vs NN) (hv : vs[i]? = some v) (hN : NN[i]? = some N)
    (ho : OwnG T m f w1 base v' (N ++ [x])) (hg : W.grownBy w1 v.ownBlock) (hat : v'.ownBlock = v.ownBlock ∨ ∃ z, v'.ownBlock = some z ∧ W.heap.size ≤ z) :
    Nest T2 T m f (w1.setCell ⟨g, i, none⟩ v') base (.slice (some ⟨g, 0, none⟩) vs.length cap) (vs.set i v') (NN.set i (N ++ [x])) := by
  have hlt := (List.getElem?_eq_some_iff.1 hv).1
  have hgV : (Value.slice (some ⟨g, 0, none⟩) vs.length cap).ownBlock = some g := rfl
  have hgw := h.head.lt g hgV
  have hvg : v.ownBlock ≠ some g := fun e => h.off i v hv g e hgV
  have hv'g : v'.ownBlock ≠ some g := by
    rcases hat with e | ⟨z, e, hz⟩
    · rw [e]; exact hvg
    · rw [e]; intro e; injection e with e; omega
  have h1 : w1.ownsRow base T2 1 (.slice (some ⟨g, 0, none⟩) vs.length cap) vs.length vs := h.head.kept hg (.inr (fun e => hvg (by rw [← e]; rfl)))
  have hs := h1.stored i v'
  have hset : ∀ {u : Value} {M : List α}, OwnG T m f w1 base u M → u.ownBlock ≠ some g → OwnG T m f (w1.setCell ⟨g, i, none⟩ v') base u M := fun hu hne =>
    OwnG.past hu (row := some g) (only_store (g := g) (i := i) (World.grownBy.refl w1 (some g)) v') fun k e => by
      cases e
      exact fun e => hne e.symm
  have hkeep : ∀ (j : Nat) (u : Value) (M : List α), vs[j]? = some u → NN[j]? = some M → j ≠ i → OwnG T m f (w1.setCell ⟨g, i, none⟩ v') base u M := fun j u M hj hM hne =>
    hset ((h.row j u M hj hM).past hg fun k e he => h.apart i j v u hv hj (fun e => hne e.symm) k e he.symm) fun e => h.off j u hj g e hgV
  have hvj : ∀ {j : Nat} {u : Value}, (vs.set i v')[j]? = some u → (j = i ∧ u = v') ∨ (j ≠ i ∧ vs[j]? = some u) := fun {j u} hj => by
    rw [List.getElem?_set] at hj
    by_cases e : i = j
    · rw [if_pos e, if_pos hlt] at hj
      exact .inl ⟨e.symm, (Option.some.inj hj).symm⟩
    · rw [if_neg e] at hj
      exact .inr ⟨fun h => e h.symm, hj⟩
  refine ⟨?_, by simp [h.len], ?_, ?_, ?_⟩
  · rw [List.length_set]
    exact hs.1
  · intro j u M hj hM
    rcases hvj hj with ⟨rfl, rfl⟩ | ⟨hne, hj⟩
    · rw [List.getElem?_set, if_pos rfl, if_pos (by rw [← h.len]; exact hlt)] at hM
      rw [← Option.some.inj hM]
      exact hset ho hv'g
    · rw [List.getElem?_set, if_neg (fun e => hne e.symm)] at hM
      exact hkeep j u M hj hM hne
  · intro j u hj k hk e
    have e : g = k := Option.some.inj e
    subst e
    rcases hvj hj with ⟨rfl, rfl⟩ | ⟨hne, hj⟩
    · exact hv'g hk
    · exact h.off j u hj g hk hgV
  · intro j k u z hj hk hne n hn hz
    rcases hvj hj with ⟨rfl, rfl⟩ | ⟨hj1, hj2⟩
    · rcases hvj hk with ⟨rfl, rfl⟩ | ⟨hk1, hk⟩
      · exact hne rfl
      · rcases hat with e | ⟨z0, e, hz0⟩
        · exact h.apart j k v z hv hk hne n (by rw [← e]; exact hn) hz
        · rw [e] at hn
          obtain ⟨M, hM⟩ : ∃ M, NN[k]? = some M := ⟨_, List.getElem?_eq_getElem (by rw [← h.len]; exact (List.getElem?_eq_some_iff.1 hk).1)⟩
          have := ((h.row k z M hk hM).lt n hz).2
          injection hn with hn
          omega
    · rcases hvj hk with ⟨rfl, rfl⟩ | ⟨hk1, hk2⟩
      · rcases hat with e | ⟨z0, e, hz0⟩
        · exact h.apart j k u v hj2 hv hne n hn (by rw [← e]; exact hz)
        · rw [e] at hz
          obtain ⟨M, hM⟩ : ∃ M, NN[j]? = some M := ⟨_, List.getElem?_eq_getElem (by rw [← h.len]; exact (List.getElem?_eq_some_iff.1 hj2).1)⟩
          have := ((h.row j u M hj2 hM).lt n hn).2
          injection hz with hz
          omega
      · exact h.apart j k u z hj2 hk2 hne n hn hz
/-- One row more, with nothing in it. -/
theorem Nest.more {V' : Value} {w1 : World} (h : Nest T2 T m f w base V vs NN) (ho : w1.ownsRow base T2 1 V' (vs.length + 1) (vs ++ [.slice none 0 0])) (hg : w.grownBy w1 V.ownBlock) (hat : V'.ownBlock = V.ownBlock ∨ V'.ownBlock = some w.heap.size) :
    Nest T2 T m f w1 base V' (vs ++ [.slice none 0 0]) (NN ++ [[]]) := by
  have hvj : ∀ {j : Nat} {u : Value}, (vs ++ [Value.slice none 0 0])[j]? = some u → (j = vs.length ∧ u = .slice none 0 0) ∨ (j < vs.length ∧ vs[j]? = some u) := fun {j u} hj => by
    by_cases e : j < vs.length
    · rw [List.getElem?_append_left e] at hj
      exact .inr ⟨e, hj⟩
    · have hl := (List.getElem?_eq_some_iff.1 hj).1
      simp at hl
      have e2 : j = vs.length := by omega
      subst e2
      simp at hj
      exact .inl ⟨rfl, hj.symm⟩
  refine ⟨by rw [List.length_append]; exact ho, by simp [h.len], ?_, ?_, ?_⟩
  · intro j u M hj hM
    rcases hvj hj with ⟨rfl, rfl⟩ | ⟨hlt, hj⟩
    · rw [h.len] at hM
      simp at hM
      subst hM
      exact ownG_nil _ _
    · rw [List.getElem?_append_left (by rw [← h.len]; exact hlt)] at hM
      exact (h.row j u M hj hM).past hg fun k e he => h.off j u hj k he.symm e
  · intro j u hj k hk e
    rcases hvj hj with ⟨rfl, rfl⟩ | ⟨hlt, hj⟩
    · simp [Value.ownBlock] at hk
    · rcases hat with e2 | e2
      · exact h.off j u hj k hk (by rw [← e2]; exact e)
      · rw [e2] at e
        obtain ⟨M, hM⟩ : ∃ M, NN[j]? = some M := ⟨_, List.getElem?_eq_getElem (by rw [← h.len]; exact hlt)⟩
        have := ((h.row j u M hj hM).lt k hk).2
        injection e with e
        omega
  · intro j k u z hj hk hne n hn hz
    rcases hvj hj with ⟨rfl, rfl⟩ | ⟨h1, hj⟩
    · simp [Value.ownBlock] at hn
    · rcases hvj hk with ⟨rfl, rfl⟩ | ⟨h2, hk⟩
      · simp [Value.ownBlock] at hz
      · exact h.apart j k u z hj hk hne n hn hz
theorem Nest.putN {n g cap i : Nat} {v v' : Value} {N : List α} {x : α} {W w1 : World} (hl : vs.length = n) (h : Nest T2 T m f W base (.slice (some ⟨g, 0, none⟩) n cap) vs NN) (hv : vs[i]? = some v) (hN : NN[i]? = some N)
    (ho : OwnG T m f w1 base v' (N ++ [x])) (hg : W.grownBy w1 v.ownBlock) (hat : v'.ownBlock = v.ownBlock ∨ ∃ z, v'.ownBlock = some z ∧ W.heap.size ≤ z) :
    Nest T2 T m f (w1.setCell ⟨g, i, none⟩ v') base (.slice (some ⟨g, 0, none⟩) n cap) (vs.set i v') (NN.set i (N ++ [x])) := by
  subst hl
  exact h.put hv hN ho hg hat
theorem grown_run {a b c : World} {row : Option Nat} (h : a.grownBy b row) (k : Below b.heap.size b c) : a.grownBy c row :=
  ⟨k.os.trans h.os, k.tape.trans h.tape, k.output.trans h.output, Nat.le_trans h.size k.size, fun i hi hne => (k.block i (Nat.lt_of_lt_of_le hi h.size)).trans (h.block i hi hne)⟩
/-- A row of a nest has grown; its slice is stored already, or not yet. -/
def Grew (T2 T : TypeId) (m : Nat) (f : α → List Value) (W : World) (base : Nat) (V : Value) (vs : List Value) (NN : List (List α)) (i : Nat) (v : Value) (N : List α) : Value → World → Prop := fun u w =>
  (OwnG T m f w base u N ∧ W.grownBy w v.ownBlock ∧ (u.ownBlock = v.ownBlock ∨ ∃ z, u.ownBlock = some z ∧ W.heap.size ≤ z) ∧ ∃ B c, u = .slice B N.length c) ∨ ∃ u', Nest T2 T m f w base V (vs.set i u') (NN.set i N)
theorem keeps_grew {W : World} {i : Nat} {v : Value} {N : List α} : Keeps (Grew T2 T m f W base V vs NN i v N) := fun _ _ _ hb h => h.elim (fun ⟨h1, h2, h3, h4⟩ => .inl ⟨h1.below hb, grown_run h2 hb, h3, h4⟩) fun ⟨u, h⟩ => .inr ⟨u, h.below hb⟩
theorem Nest.cell {n g cap i : Nat} {v : Value} (h : Nest T2 T m f w base (.slice (some ⟨g, 0, none⟩) n cap) vs NN) (hv : vs[i]? = some v) : w.cell? ⟨g, i, none⟩ = some v ∧ w.frozen? ⟨g, i, none⟩ = false ∧ g < w.heap.size ∧ base ≤ g := by
  have hlt := (List.getElem?_eq_some_iff.1 hv).1
  rcases h.head.2 with ⟨e, -⟩ | ⟨g', cap', cur, e2, hb, hg, hc, hcm, hs, ht⟩
  · cases e
  · injection e2 with e3 e4 e5
    injection (Option.some.inj e3) with e6
    subst e6
    rw [← ht, List.getElem?_take, if_pos (by omega), Array.getElem?_toList] at hv
    exact ⟨by simp [World.cell?, hg, hv], by simp [World.frozen?, hg], (Array.getElem?_eq_some_iff.1 hg).1, hb⟩
theorem grew_store {n g cap i : Nat} {B0 : Option Addr} {c0 : Nat} {N : List α} {x : α} {W w1 : World} {u : Value} (hl : vs.length = n) (h : Nest T2 T m f W base (.slice (some ⟨g, 0, none⟩) n cap) vs NN) (hv : vs[i]? = some (.slice B0 N.length c0)) (hN : NN[i]? = some N)
    (hG : Grew T2 T m f W base (.slice (some ⟨g, 0, none⟩) n cap) vs NN i (.slice B0 N.length c0) (N ++ [x]) u w1) (hg : w1.heap[g]? = W.heap[g]?) :
    w1.cell? ⟨g, i, none⟩ = some (.slice B0 N.length c0) ∧ w1.frozen? ⟨g, i, none⟩ = false ∧ (∃ B c, u = .slice B (N ++ [x]).length c) ∧ Nest T2 T m f (w1.setCell ⟨g, i, none⟩ u) base (.slice (some ⟨g, 0, none⟩) n cap) (vs.set i u) (NN.set i (N ++ [x])) := by
  obtain ⟨c1, c2, -, -⟩ := h.cell hv
  have k1 : w1.cell? ⟨g, i, none⟩ = some (.slice B0 N.length c0) := (World.cell?_of_block (a := ⟨g, i, none⟩) hg).trans c1
  have k2 : w1.frozen? ⟨g, i, none⟩ = false := (World.frozen?_of_block (a := ⟨g, i, none⟩) hg).trans c2
  rcases hG with ⟨h1, h2, h3, h4⟩ | ⟨u', hN'⟩
  · exact ⟨k1, k2, h4, Nest.putN hl h hv hN h1 h2 h3⟩
  · exfalso
    have hlt := (List.getElem?_eq_some_iff.1 hv).1
    have hx : (vs.set i u')[i]? = some u' := by rw [List.getElem?_set, if_pos rfl, if_pos hlt]
    have hM : (NN.set i (N ++ [x]))[i]? = some (N ++ [x]) := by rw [List.getElem?_set, if_pos rfl, if_pos (by rw [← h.len]; exact hlt)]
    have hc := (hN'.cell hx).1
    obtain ⟨B, c, e, -, -⟩ := (hN'.row i u' (N ++ [x]) hx hM).shape
    rw [k1, e] at hc
    simp at hc
/-- So many rows, with nothing in any. -/
theorem nest_made (w : World) (n cap : Nat) (hn : n ≤ maxLen) (hcap : cap = n) (hb : base ≤ w.heap.size) (cs : Array Value) (hcs : cs = Array.replicate n (.slice none 0 0)) :
    Nest T2 T m f (w.alloc (.cells cs T2)) base (.slice (some ⟨w.heap.size, 0, none⟩) n cap) (List.replicate n (.slice none 0 0)) (List.replicate n ([] : List α)) := by
  subst hcap hcs
  have hv : ∀ {j : Nat} {u : Value}, (List.replicate cap (Value.slice none 0 0))[j]? = some u → u = .slice none 0 0 := fun {j u} hj => by
    have := List.mem_of_getElem? hj
    exact List.eq_of_mem_replicate this
  refine ⟨⟨by simp, .inr ⟨w.heap.size, cap, _, by simp, hb, heap_alloc_new w _, by simp, hn, by simp, by simp⟩⟩, by simp, ?_, ?_, ?_⟩
  · intro j u M hj hM
    rw [hv hj, show M = [] from List.eq_of_mem_replicate (List.mem_of_getElem? hM)]
    exact ownG_nil _ _
  · intro j u hj k hk
    rw [hv hj] at hk
    simp [Value.ownBlock] at hk
  · intro j k u z hj _ _ n hn
    rw [hv hj] at hn
    simp [Value.ownBlock] at hn
end
end Go.Proofs.YtkfjgmfokpgcbaaGreatDoor.data
namespace Go.Proofs.YtkfjgmfokpgcbaaGreatDoor.region
open Go.RowKit Go.Proofs.YtkfjgmfokpgcbaaGreatDoor.block
/-- append to a row that is one's own: where it lies behind it. -/
theorem yields_appendA {P : Program} {w : World} {o : Oper} {ρ : Operand → Value} {T : Value → World → Prop} (s x : Operand) (t : TypeId) (ho : o.op = .call { callee := .builtin .append, args := #[s, x], argTypes := #[t, t] })
    (base : Nat) (e : TypeId) (i : TypeInfo) (z : Value) (size bytes : Nat) (ht : P.underlying t = some (.slice e)) (hi : P.info? e = some i) (hz : i.zero = some z)
    (hsize : i.size = size) (hby : i.bytes = bytes) (hzs : z.cells.size = size) (hsz : 0 < size)
    (v : Value) (n : Nat) (xs : List Value) (hs : ρ s = v) (hown : w.ownsRow base e size v n xs)
    (ad : Addr) (m c : Nat) (news : List Value) (hx : ρ x = .slice (some ad) m c) (hl : news.length = m * size) (hnews : ∀ j u, news[j]? = some u → w.cell? (ad.add j) = some u) (h1 : ∀ u ∈ news, u.oneCell' = true)
    (hm : 0 < m) (h63 : n + m ≤ maxLen) (hbytes : (n + m) * bytes ≤ 140737488355328) (hbase : base ≤ w.heap.size)
    (h : ∀ g cap w', w'.ownsRow base e size (.slice (some ⟨g, 0, none⟩) (n + m) cap) (n + m) (xs ++ news) → w.grownBy w' v.ownBlock → (v.ownBlock = some g ∨ g = w.heap.size) → T (.slice (some ⟨g, 0, none⟩) (n + m) cap) w') : YieldsW P o ρ w T := by
  obtain ⟨g, cap, w', hr, h2, h3, h4, -⟩ := run_append_lies (P := P) w t o.type base e i z size bytes ht hi hz hsize hby hzs hsz v n xs hown ad m c news hl hnews h1 hm h63 hbytes hbase _ rfl
  refine .inl ⟨_, w', ?_, h g cap w' h2 h3 h4⟩
  unfold execOp
  simp only [ho, resolve, invoke, builtin, Sem.run_bind, Sem.run_pure, Result.andThen_ok, List.map_toArray, List.map_cons, List.map_nil, hs, hx, hr]
theorem yields_index {P : Program} {w : World} {o : Oper} {ρ : Operand → Value} {ty : TypeId} {x y : Operand} (ho : o.op = .indexAddr ty x y) {b off n c i m : Nat} {e : TypeId} (hx : ρ x = .slice (some ⟨b, off, none⟩) n c) (hy : ρ y = .int .i64 i) (hi : i < n)
    (ht : P.underlying ty = some (.slice e)) (hs : ∀ w, (sizeOf e).run P w = .ok m w) : Yields P o ρ w (Is (.pointer (some ⟨b, off + i * m, none⟩))) := by
  refine yields_run (u := .pointer (some ⟨b, off + i * m, none⟩)) (w' := w) ?_ (Below.refl _ _) rfl
  have h1 : 0 ≤ (i : Int) ∧ (i : Int) < (n : Int) := by omega
  unfold execOp
  simp [ho, hx, hy, go_sem, Instr.indexAt, Sem.run_bind, run_underlying ht, hs, h1, asIntOf, hi]
end Go.Proofs.YtkfjgmfokpgcbaaGreatDoor.region
