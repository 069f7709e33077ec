/-
  Arguments that came in, over any program: what each kind of type tells of its cells, and a law's frame over arguments that are only read.
  Lines, words, names and options of a text, as mathematics of lists of bytes.
  Rows of strings: those that are one's own, and those that came in.
-/
import Derived.WalkKit
import Derived.ProofKit
import Derived.OpenShut
import Derived.SizedLaws
import Derived.Carry
import Derived.ChangeOld
import Derived.Deep.QuietTactic
import Derived.BigQuiet
import Derived.Lib.IndexMore
import Derived.Lib.IndexLaws
import Derived.Lib.IndexBytes
import Derived.Lib.Strings
import Derived.Test.YtpblpjopinllcaaGreatDoorRows
import Derived.Test.YtpblpjopinllcaaGreatDoorJBlock
import Derived.OwnWalk
import Derived.OwnWalkIn
import Derived.Lib.Hide
import Derived.Maps.AppendAt
namespace Go.Proofs.YtpblpjopinllcaaGreatDoor.opened
open Go.ChangeShapes Go.WideShapes Go.RowKit

/-- A way of reading cells as an α. -/
def Reader (α : Type) : Type := World → List Value → α → Prop
/-- Whatever cells hold a datum of type t are read by R. -/
def Opens {α : Type} (P : Program) (t : TypeId) (R : Reader α) : Prop :=
  ∀ {H : Type} (enc : TypeId × Value → H) (w : World) (fuel : Nat) (cs : List Value) (x : DataW H × List MemPlace),
    DataW.trod enc P w 0 (fun _ => true) true fuel t cs = some x → (∀ n ∈ x.1.weights P t, n ≤ reachBytes) → ∃ a, R w cs a

def intR (k : IntKind) : Reader Int := fun _ cs n => cs = [.int k n] ∧ (Lit.int k n).wf = true
def boolR : Reader Bool := fun _ cs b => cs = [.bool b]
def strR : Reader ByteArray := fun _ cs s => cs = [.string s] ∧ s.size ≤ 140737488351232
def nilR : Reader Unit := fun _ cs _ => cs = []
def consR {α β : Type} (m : Nat) (R : Reader α) (S : Reader β) : Reader (α × β) := fun w cs p => R w (cs.take m) p.1 ∧ S w (cs.drop m) p.2
def arrR {α : Type} (n m : Nat) (R : Reader α) : Reader (List α) := fun w cs l => cs.length = n * m ∧ l.length = n ∧ ∀ i a, l[i]? = some a → R w ((cs.drop (i * m)).take m) a
/-- A slice: where it lies, its length, its capacity, its elements (not the spare ones). -/
structure Row (α : Type) where
  ptr : Option Addr
  len : Nat
  cap : Nat
  elems : List α
def Row.val {α : Type} (r : Row α) : Value := .slice r.ptr r.len r.cap
def sliceR {α : Type} (m bytes : Nat) (R : Reader α) : Reader (Row α) := fun w cs r =>
  cs = [r.val] ∧ r.elems.length = r.len ∧ r.len ≤ r.cap ∧ r.cap ≤ maxLen ∧ r.cap * bytes ≤ 140737488351232 ∧
    ((r.ptr = none ∧ r.len = 0 ∧ r.cap = 0) ∨ ∃ ad : Addr, r.ptr = some ad ∧
      ∀ i a, r.elems[i]? = some a → ∃ cs', cs'.length = m ∧ (∀ j, j < m → w.cell? (ad.add (i * m + j)) = cs'[j]?) ∧ R w cs' a)

section
variable {P : Program} {t : TypeId}
theorem opens_int {k : IntKind} (ht : P.underlying t = some (.int k)) : Opens P t (intR k) := by
  intro H enc w fuel cs x h _
  obtain ⟨n, hcs, _, hw⟩ := DataW.trod_int ht h
  exact ⟨n, hcs, hw⟩
theorem opens_bool (ht : P.underlying t = some .bool) : Opens P t boolR := by
  intro H enc w fuel cs x h _
  obtain ⟨b, hcs, _⟩ := DataW.trod_bool ht h
  exact ⟨b, hcs⟩
theorem opens_str (ht : P.underlying t = some .string) : Opens P t strR := by
  intro H enc w fuel cs x h hz
  obtain ⟨s, hcs, hx, _⟩ := DataW.trod_string ht h
  refine ⟨s, hcs, ?_⟩
  subst hx
  have h1 := hz s.size (by simp [DataW.weights])
  unfold reachBytes at h1
  exact h1

/-- The offsets of fields of these types, one behind the other. -/
def offOf (P : Program) : List TypeId → Nat → Nat
  | [], _ => 0
  | _ :: _, 0 => 0
  | t :: ts, i + 1 => P.cellsOf t + offOf P ts i
def sumOf (P : Program) : List TypeId → Nat
  | [] => 0
  | t :: ts => P.cellsOf t + sumOf P ts
def OpensFs {β : Type} (P : Program) (ts : List TypeId) (S : Reader β) : Prop :=
  ∀ {H : Type} (enc : TypeId × Value → H) (w : World) (n : Nat) (cs : List Value) (xs : List (DataW H × List MemPlace)),
    xs.length = ts.length → cs.length = sumOf P ts → (∀ i t, ts[i]? = some t → DataW.trod enc P w 0 (fun _ => true) true n t ((cs.drop (offOf P ts i)).take (P.cellsOf t)) = xs[i]?) →
    (∀ n ∈ DataW.weightsEach P ts (xs.map (·.1)), n ≤ reachBytes) → ∃ b, S w cs b
theorem opensFs_nil : OpensFs P [] nilR := by
  intro H enc w n cs xs _ hc _ _
  exact ⟨(), List.eq_nil_of_length_eq_zero (by simpa [sumOf] using hc)⟩
theorem opensFs_cons {α β : Type} {R : Reader α} {S : Reader β} {ts : List TypeId} {m : Nat} (hR : Opens P t R) (hm : P.cellsOf t = m) (hS : OpensFs P ts S) : OpensFs P (t :: ts) (consR m R S) := by
  intro H enc w n cs xs hl hc h hz
  subst hm
  match xs, hl with
  | x :: xs, hl =>
    have h0 := h 0 t rfl
    simp only [offOf, List.drop_zero, List.getElem?_cons_zero] at h0
    obtain ⟨a, ha⟩ := hR enc w n _ x h0 (fun k hk => hz k (by simp only [List.map_cons, DataW.weightsEach, List.mem_append]; exact .inl hk))
    obtain ⟨b, hb⟩ := hS enc w n (cs.drop (P.cellsOf t)) xs (by simpa using hl) (by simp only [sumOf] at hc; simp; omega)
      (fun i u hu => by
        have := h (i + 1) u hu
        simp only [offOf, List.getElem?_cons_succ] at this
        rw [List.drop_drop]
        exact this)
      (fun k hk => hz k (by simp only [List.map_cons, DataW.weightsEach, List.mem_append]; exact .inr hk))
    exact ⟨(a, b), ha, hb⟩
def offsetsOk (P : Program) (fs : Array Field) (ts : List TypeId) : Bool :=
  (fs.toList.map (·.type)) == ts && (List.range fs.size).all fun i => match fs[i]? with
    | some f => f.offset == offOf P ts i
    | none => false
theorem opens_struct {β : Type} {S : Reader β} {fs : Array Field} {ts : List TypeId} (ht : P.underlying t = some (.struct fs)) (ho : offsetsOk P fs ts = true) (hc : P.cellsOf t = sumOf P ts) (hS : OpensFs P ts S) : Opens P t S := by
  intro H enc w fuel cs x h hz
  obtain ⟨xs, n, _, hx, hlen, hxl, hf⟩ := DataW.trod_struct ht h
  simp only [offsetsOk, Bool.and_eq_true, beq_iff_eq] at ho
  obtain ⟨hts, ho⟩ := ho
  refine hS enc w n cs xs ?_ (hlen.trans hc) ?_ ?_
  · rw [← hts]; simpa using hxl
  · intro i u hu
    have hi : i < fs.size := by
      have := (List.getElem?_eq_some_iff.1 hu).1
      rw [← hts] at this
      simpa using this
    have hf' := hf i fs[i] (Array.getElem?_eq_getElem hi)
    have hoo := List.all_eq_true.1 ho i (List.mem_range.2 hi)
    rw [Array.getElem?_eq_getElem hi] at hoo
    simp only [beq_iff_eq] at hoo
    have hty : fs[i].type = u := by
      rw [← hts] at hu
      simp only [List.getElem?_map, Array.getElem?_toList, Array.getElem?_eq_getElem hi, Option.map_some, Option.some.injEq] at hu
      exact hu
    rw [hoo, hty] at hf'
    exact hf'
  · intro k hk
    refine hz k ?_
    subst hx
    simp only [DataW.weights, ht, hts]
    exact hk
theorem weightsAll_mem {H : Type} {e : TypeId} : ∀ {l : List (DataW H)} {i : Nat} {d : DataW H}, l[i]? = some d → ∀ n ∈ d.weights P e, n ∈ DataW.weightsAll P e l
  | d0 :: l, 0, d, hd, n, hn => by
    simp only [List.getElem?_cons_zero, Option.some.injEq] at hd
    subst hd
    simp only [DataW.weightsAll, List.mem_append]
    exact .inl hn
  | d0 :: l, i + 1, d, hd, n, hn => by
    simp only [List.getElem?_cons_succ] at hd
    simp only [DataW.weightsAll, List.mem_append]
    exact .inr (weightsAll_mem hd n hn)
  | [], _, _, hd, _, _ => by simp at hd
theorem exists_list {α : Type} {p : Nat → α → Prop} : ∀ (n : Nat), (∀ i, i < n → ∃ a, p i a) → ∃ l : List α, l.length = n ∧ ∀ i a, l[i]? = some a → p i a
  | 0, _ => ⟨[], rfl, fun i a h => by simp at h⟩
  | n + 1, h => by
    obtain ⟨l, hl, hp⟩ := exists_list n (fun i hi => h i (by omega))
    obtain ⟨a, ha⟩ := h n (by omega)
    refine ⟨l ++ [a], by simp [hl], fun i b hb => ?_⟩
    by_cases hi : i < n
    · rw [List.getElem?_append_left (by omega)] at hb
      exact hp i b hb
    · have hin : i = n := by
        have := (List.getElem?_eq_some_iff.1 hb).1
        simp at this; omega
      subst hin
      rw [List.getElem?_append_right (by omega), hl] at hb
      simp at hb
      subst hb
      exact ha
theorem opens_array {α : Type} {R : Reader α} {n m : Nat} {e : TypeId} (ht : P.underlying t = some (.array n e)) (hc : P.cellsOf t = n * m) (hm : P.cellsOf e = m) (hR : Opens P e R) : Opens P t (arrR n m R) := by
  intro H enc w fuel cs x h hz
  subst hm
  obtain ⟨xs, k, _, hx, hlen, hxl, hf⟩ := DataW.trod_array ht h
  obtain ⟨l, hl, hp⟩ := exists_list (p := fun i a => R w ((cs.drop (i * P.cellsOf e)).take (P.cellsOf e)) a) n (fun i hi => by
    have hxi : xs[i]? = some (xs[i]'(by omega)) := List.getElem?_eq_getElem (by omega)
    refine hR enc w k _ _ ((hf i hi).trans hxi) (fun q hq => hz q ?_)
    subst hx
    simp only [DataW.weights, ht]
    exact weightsAll_mem (i := i) (by rw [List.getElem?_map, hxi]; rfl) q hq)
  exact ⟨l, hlen.trans hc, hl, hp⟩
theorem opens_slice {α : Type} {R : Reader α} {m bytes : Nat} {e : TypeId} (ht : P.underlying t = some (.slice e)) (hm : P.cellsOf e = m) (hb : P.bytesOf e = bytes) (hR : Opens P e R) : Opens P t (sliceR m bytes R) := by
  intro H enc w fuel cs x h hz
  subst hm; subst hb
  rcases DataW.trod_slice ht h with ⟨hcs, _⟩ | ⟨a, len, cap, elems, rest, k, _, hcs, hx, _, hl, hc, hel, hat, hrest, _⟩
  · exact ⟨⟨none, 0, 0, []⟩, hcs, rfl, Nat.le_refl _, by simp [maxLen], by simp, .inl ⟨rfl, rfl, rfl⟩⟩
  · have hrl := (hrest rfl).1
    subst hx
    have hw : ∀ q ∈ DataW.weights P t (.slice (elems.map (·.1)) (rest.map (·.1))), q ≤ reachBytes := hz
    simp only [DataW.weights, ht, List.length_map, List.mem_cons, List.mem_append] at hw
    have hsz := hw _ (.inl rfl)
    obtain ⟨l, hll, hp⟩ := exists_list (p := fun i b => ∃ cs', cs'.length = P.cellsOf e ∧ (∀ j, j < P.cellsOf e → w.cell? (a.add (i * P.cellsOf e + j)) = cs'[j]?) ∧ R w cs' b) len (fun i hi => by
      have hxi : elems[i]? = some (elems[i]'(by omega)) := List.getElem?_eq_getElem (by omega)
      have h1 := (hat i hi).trans hxi
      rw [Option.bind_eq_some_iff] at h1
      obtain ⟨cs', hcs', ht'⟩ := h1
      obtain ⟨_, hcl, hcell⟩ := World.cells?_some hcs'
      obtain ⟨b, hbR⟩ := hR enc w k _ _ ht' (fun q hq => hw q (.inr (.inl (weightsAll_mem (i := i) (by rw [List.getElem?_map, hxi]; rfl) q hq))))
      refine ⟨b, cs', hcl, fun j hj => ?_, hbR⟩
      rw [← hcell j hj]
      unfold Addr.add
      by_cases h1 : i * P.cellsOf e = 0 <;> by_cases h2 : j = 0 <;> simp [h1, h2, Nat.add_assoc])
    refine ⟨⟨some a, len, cap, l⟩, hcs, hll, hl, hc, ?_, .inr ⟨a, rfl, hp⟩⟩
    unfold reachBytes at hsz
    rw [hel, hrl] at hsz
    have : len + (cap - len) = cap := by omega
    rw [this] at hsz
    exact hsz
end

/-! ### From cells back to the value of a parameter -/
section
variable {P : Program} {t : TypeId} {w : World} {r : Reach} {b : Nat} {v : Value}
theorem top_int {k : IntKind} {n : Int} (ht : P.underlying t = some (.int k)) (hv : Value.okWide P w r b t v) (h : intR k w v.cells.toList n) : v = .int k n ∧ (Lit.int k n).wf = true := by
  obtain ⟨m, rfl⟩ := okWide_int ht hv
  obtain ⟨h1, h2⟩ := h
  simp [Value.cells] at h1
  subst h1
  exact ⟨rfl, h2⟩
theorem top_bool {x : Bool} (ht : P.underlying t = some .bool) (hv : Value.okWide P w r b t v) (h : boolR w v.cells.toList x) : v = .bool x := by
  obtain ⟨m, rfl⟩ := okWide_bool ht hv
  unfold boolR at h
  simp [Value.cells] at h
  subst h
  rfl
theorem top_str {s : ByteArray} (ht : P.underlying t = some .string) (hv : Value.okWide P w r b t v) (h : strR w v.cells.toList s) : v = .string s ∧ s.size ≤ 140737488351232 := by
  obtain ⟨m, rfl⟩ := okWide_string ht hv
  obtain ⟨h1, h2⟩ := h
  simp [Value.cells] at h1
  subst h1
  exact ⟨rfl, h2⟩
theorem top_slice {α : Type} {R : Reader α} {m bytes : Nat} {e : TypeId} {row : Row α} (ht : P.underlying t = some (.slice e)) (hv : Value.okWide P w r b t v) (h : sliceR m bytes R w v.cells.toList row) : v = row.val := by
  obtain ⟨a, len, cap, rfl⟩ := okWide_slice ht hv
  have h1 := h.1
  simp [Value.cells] at h1
  exact h1
theorem top_struct {fs : Array Field} (ht : P.underlying t = some (.struct fs)) (hv : Value.okWide P w r b t v) : v = .agg v.cells := by
  obtain ⟨cs, rfl, _⟩ := okWide_struct ht hv
  rfl
theorem top_array {n : Nat} {e : TypeId} (ht : P.underlying t = some (.array n e)) (hv : Value.okWide P w r b t v) : v = .agg v.cells := by
  simp only [Value.okWide, ht] at hv
  obtain ⟨cs, rfl, _⟩ := hv
  rfl
end

/-! ### A law whose arguments are only read: its frame -/
section
variable {H : Type} {enc : TypeId × Value → H}
theorem trodAll_below {P : Program} (hl : laidOutB P = true) {W W' : World} (hb : Below W.heap.size W W') : ∀ {ts : List TypeId} {vs : List Value} {ds : List (DataW H)} {ps : List MemPlace},
    (∀ t ∈ ts, P.readableRec t = true ∧ t < P.types.size) → DataW.TrodAll enc P W 0 (fun _ => true) true ts vs ds ps → DataW.TrodAll enc P W' 0 (fun b => decide (b < W.heap.size)) true ts vs ds ps
  | [], vs, ds, ps, _, h => by
    obtain ⟨rfl, rfl, rfl⟩ := trodAll_nil h
    exact trodAll_mk0
  | t :: ts, vs, ds, ps, hr, h => by
    obtain ⟨v, vs', d, ds', p, q, rfl, rfl, rfl, h0, r0⟩ := trodAll_cons h
    exact trodAll_cons_mk (Below.trod hl (hr t (by simp)).1 (hr t (by simp)).2 h0 hb (by obtain ⟨m, hm⟩ := h0; exact DataW.trod_lt m _ _ _ hm)) (trodAll_below hl hb (fun u hu => hr u (by simp [hu])) r0)
/-- What the walk of a law is told of its arguments. -/
structure Fed (P : Program) (W : World) (ts : List TypeId) (args : Array Value) : Prop where
  count : args.size = ts.length
  each : ∀ (j : Nat) (t : TypeId) (v : Value), ts[j]? = some t → args[j]? = some v → (∃ b, Value.okWide P W .any b t v) ∧
    ∀ {α : Type} {R : Reader α}, Opens P t R → ∃ a, R W v.cells.toList a
theorem trodAll_at {P : Program} {W : World} : ∀ {ts : List TypeId} {vs : List Value} {ds : List (DataW H)} {ps : List MemPlace},
    DataW.TrodAll enc P W 0 (fun _ => true) true ts vs ds ps → vs.length = ts.length ∧ ds.length = ts.length ∧
      ∀ (j : Nat) (t : TypeId) (v : Value), ts[j]? = some t → vs[j]? = some v → ∃ d p, ds[j]? = some d ∧ DataW.Trod enc P W 0 (fun _ => true) true t v d p
  | [], vs, ds, ps, h => by
    obtain ⟨rfl, rfl, rfl⟩ := trodAll_nil h
    exact ⟨rfl, rfl, fun j t v hj => by simp at hj⟩
  | t :: ts, vs, ds, ps, h => by
    obtain ⟨v, vs', d, ds', p, q, rfl, rfl, rfl, h0, r0⟩ := trodAll_cons h
    obtain ⟨h1, h2, h3⟩ := trodAll_at r0
    refine ⟨by simp [h1], by simp [h2], fun j u x hj hx => ?_⟩
    cases j with
    | zero =>
      simp only [List.getElem?_cons_zero, Option.some.injEq] at hj hx
      subst hj; subst hx
      exact ⟨d, p, rfl, h0⟩
    | succ j =>
      simp only [List.getElem?_cons_succ] at hj hx ⊢
      exact h3 j u x hj hx
end
/-- THE FRAME: a law over arguments that are only read. -/
theorem lift {C : Checked} {os : Os} {f : FuncId} {fn : Func} {s : ChangeSpec} {tb : TypeId} {H : Type} {enc : TypeId × Value → H} {ts : List TypeId} {dom : List PathCond}
    (own : ownKnob C.prog.godebug = none) (started : os.Started) (noInit : C.prog.inits.idxOf? f = none) (hfn : C.prog.funcs[f]? = some fn)
    (hl : laidOutB C.prog = true) (hts : fn.params.toList = ts) (hrB : (ts.all fun t => C.prog.readableRec t && decide (t < C.prog.types.size)) = true)
    (hres : fn.resultTypes = #[tb]) (hb : C.prog.underlying tb = some .bool) (hv : s.vars = [])
    (hspec : ∀ ds : List (DataW H), ds.length = ts.length → s.fn H (ds ++ []) = { results := [.lit (.bool true)], args := ds })
    (witness : ∃ (w : World) (tape : Tape) (i : Input), w.os = os ∧ (w.forCall tape i).Shaped C.prog ∧ i.vars = [] ∧ Input.okWide C.prog (w.forCall tape i) .any w.heap.size f i ∧
      s.pre6 enc C.prog fn dom false (w.forCall tape i).memory i.args ∧ ({} : Assume).holds C.prog (lone (Frame.enter C.prog f i.args .normal) [] (w.forCall tape i)))
    (walk : ∀ (W : World) (args : Array Value), Fed C.prog W ts args → Calls C.prog f args W fun e W' => e = .returned (.bool true) ∧ Below W.heap.size W W') :
    ReturnsInHanded {} C os f .any (s.pre6 enc C.prog fn dom false) (s.post enc C.prog fn false true false false) := by
  have hr : ∀ t ∈ ts, C.prog.readableRec t = true ∧ t < C.prog.types.size := fun t ht => by
    have := List.all_eq_true.1 hrB t ht
    simpa using this
  refine returnsInHanded_of_change_sized (C := C) own started noInit hfn witness ?_
  intro W base args ds gs before hval hW _ hsz _
  have hW' := hW
  obtain ⟨p, q, hA, hV, rfl, _, _⟩ := hW
  rw [hv] at hV
  obtain ⟨rfl, rfl⟩ := trodVars_none hV
  have hA' := hA
  rw [hts] at hA'
  obtain ⟨n1, n2, n3⟩ := trodAll_at hA'
  have hvt : s.plain.varTypes C.prog = [] := by simp [ChangeSpec.plain, DataSpec.varTypes, hv]
  rw [hts, hvt, List.append_nil, List.append_nil] at hsz
  refine (walk W args ⟨by simpa using n1, fun j t v hj hjv => ?_⟩).mono fun e W' ⟨he, bel⟩ => ?_
  · have hjv' : args.toList[j]? = some v := by simpa using hjv
    obtain ⟨d, pl, hd, fuel, hf⟩ := n3 j t v hj hjv'
    refine ⟨⟨base, hval j t v (by rw [← Array.getElem?_toList, hts]; exact hj) hjv⟩, fun hO => hO enc W fuel _ _ hf (fun k hk => ?_)⟩
    have := List.all_eq_true.1 hsz _ (DataW.weights_mem_each hj hd k hk)
    simpa using this
  · subst he
    refine ⟨_, rfl, ds, [], _, [], p, [], hW', ?_, ?_, ?_, bel.frame _, fun h => by cases h⟩
    · rw [hspec ds n2, hres]
      exact trodAll_mk1 (shut_bool hb _)
    · rw [hspec ds n2]
      have h3 := trodAll_below hl bel hr hA'
      rw [hts]
      exact h3
    · rw [hspec ds n2, hv]
      rfl
theorem args1 {args : Array Value} (h : args.size = 1) : ∃ a, args = #[a] := by
  obtain ⟨l⟩ := args
  match l, h with
  | [a], _ => exact ⟨a, rfl⟩
theorem args2 {args : Array Value} (h : args.size = 2) : ∃ a b, args = #[a, b] := by
  obtain ⟨l⟩ := args
  match l, h with
  | [a, b], _ => exact ⟨a, b, rfl⟩
theorem args3 {args : Array Value} (h : args.size = 3) : ∃ a b c, args = #[a, b, c] := by
  obtain ⟨l⟩ := args
  match l, h with
  | [a, b, c], _ => exact ⟨a, b, c, rfl⟩
theorem args4 {args : Array Value} (h : args.size = 4) : ∃ a b c d, args = #[a, b, c, d] := by
  obtain ⟨l⟩ := args
  match l, h with
  | [a, b, c, d], _ => exact ⟨a, b, c, d, rfl⟩
theorem args5 {args : Array Value} (h : args.size = 5) : ∃ a b c d e, args = #[a, b, c, d, e] := by
  obtain ⟨l⟩ := args
  match l, h with
  | [a, b, c, d, e], _ => exact ⟨a, b, c, d, e, rfl⟩
theorem then_below {a b c : World} (h : Below a.heap.size a b) (k : Below b.heap.size b c) : Below a.heap.size a c := h.trans (k.mono h.size)

/-! ### Slices that came in, as the walk wants them -/
/-- A slice of one-cell elements that came in: its cells. -/
def Lies (w : World) (A : Option Addr) (xs : List Value) : Prop :=
  xs = [] ∨ ∃ b off, A = some ⟨b, off, none⟩ ∧ b < w.heap.size ∧ ∀ (i : Nat) x, xs[i]? = some x → w.cell? ⟨b, off + i, none⟩ = some x
/-- A slice of elements of m cells each that came in: the cells of each element. -/
def LiesN (w : World) (A : Option Addr) (m : Nat) (xs : List (List Value)) : Prop :=
  xs = [] ∨ ∃ b off, A = some ⟨b, off, none⟩ ∧ b < w.heap.size ∧ ∀ (i : Nat) x, xs[i]? = some x → x.length = m ∧ ∀ j, j < m → w.cell? ⟨b, off + (i * m + j), none⟩ = x[j]?
section
variable {α : Type} {R : Reader α} {w : World} {cs : List Value} {r : Row α} {m bytes : Nat}
theorem cell_plain {a : Addr} {u : Value} (h : w.cell? (a.add 0) = some u) : ∃ b off, a = ⟨b, off, none⟩ ∧ b < w.heap.size ∧ ∀ j, w.cell? (a.add j) = w.cell? ⟨b, off + j, none⟩ := by
  obtain ⟨b, off, spot⟩ := a
  have hs : spot = none := by
    have := World.cell?_spot h
    simpa [Addr.add] using this
  subst hs
  refine ⟨b, off, rfl, ?_, fun j => ?_⟩
  · have := World.block_lt_of_cell? w _ h
    simpa [Addr.add] using this
  · unfold Addr.add
    by_cases hj : j = 0
    · simp [hj]
    · simp [hj]
theorem liesN_of {f : α → List Value} (hR : ∀ w cs a, R w cs a → cs = f a) (hm : 0 < m) (h : sliceR m bytes R w cs r) : LiesN w r.ptr m (r.elems.map f) := by
  obtain ⟨_, hl, _, _, _, hcase⟩ := h
  rcases hcase with ⟨_, h0, _⟩ | ⟨ad, hp, hat⟩
  · left
    rw [List.eq_nil_of_length_eq_zero (hl.trans h0)]
    rfl
  · by_cases he : r.elems = []
    · left; rw [he]; rfl
    · right
      have hpos : 0 < r.elems.length := by
        rcases Nat.eq_zero_or_pos r.elems.length with h0 | h0
        · exact absurd (List.eq_nil_of_length_eq_zero h0) he
        · exact h0
      obtain ⟨c0, hc0, hcell0, _⟩ := hat 0 _ (List.getElem?_eq_getElem hpos)
      have h00 := hcell0 0 hm
      have hc00 : c0[0]? = some (c0[0]'(by omega)) := List.getElem?_eq_getElem (by omega)
      rw [hc00] at h00
      rw [Nat.zero_mul] at h00
      obtain ⟨b, off, rfl, hb, hadd⟩ := cell_plain h00
      refine ⟨b, off, hp, hb, fun i x hx => ?_⟩
      rw [List.getElem?_map] at hx
      obtain ⟨a, ha, rfl⟩ := Option.map_eq_some_iff.1 hx
      obtain ⟨c, hcl, hcell, hRc⟩ := hat i a ha
      have := hR _ _ _ hRc
      subst this
      exact ⟨hcl, fun j hj => by rw [← hadd]; exact hcell j hj⟩
theorem lies_of {f : α → Value} (hR : ∀ w cs a, R w cs a → cs = [f a]) (h : sliceR 1 bytes R w cs r) : Lies w r.ptr (r.elems.map f) := by
  rcases liesN_of (f := fun a => [f a]) hR (by omega) h with h0 | ⟨b, off, hp, hb, hc⟩
  · left
    have : r.elems.length = 0 := by simpa using congrArg List.length h0
    rw [List.eq_nil_of_length_eq_zero this]
    rfl
  · right
    refine ⟨b, off, hp, hb, fun i x hx => ?_⟩
    rw [List.getElem?_map] at hx
    obtain ⟨a, ha, rfl⟩ := Option.map_eq_some_iff.1 hx
    have := (hc i [f a] (by rw [List.getElem?_map, ha]; rfl)).2 0 (by omega)
    simpa using this
theorem elem_of (h : sliceR m bytes R w cs r) : ∀ a ∈ r.elems, ∃ cs', R w cs' a := by
  intro a ha
  obtain ⟨i, hi⟩ := List.getElem?_of_mem ha
  obtain ⟨_, hl, _, _, _, hcase⟩ := h
  rcases hcase with ⟨_, h0, _⟩ | ⟨_, _, hat⟩
  · rw [List.eq_nil_of_length_eq_zero (hl.trans h0)] at ha
    cases ha
  · obtain ⟨c, _, _, hc⟩ := hat i a hi
    exact ⟨c, hc⟩
theorem row_max (h : sliceR m bytes R w cs r) : r.elems.length ≤ 9223372036854775807 := by
  obtain ⟨_, hl, h1, h2, _⟩ := h
  unfold maxLen at h2
  omega
theorem row_val (h : sliceR m bytes R w cs r) : r.val = .slice r.ptr r.elems.length r.cap := by
  unfold Row.val
  rw [h.2.1]
end

/-! ### Regions that draw their order -/
/-- A world in which nothing of w has turned; blocks may be new. -/
def Since (w : World) : Type := { w' : World // Below w.heap.size w w' }
instance (w : World) : Nonempty (Since w) := ⟨⟨w, Below.refl _ _⟩⟩
/-- A region that draws its order, whose operations only read and whose calls make memory at most. -/
theorem region_since {P : Program} {id : Nat} {Q : Exit → Act → World → Prop} {a : Act} (w0 : World) {w : World} {l : List Oper} (hm : P.follows .mixedOrders = true) (hB : Region.lexB .any l.toArray = true) (hw : Below w0.heap.size w0 w)
    (h : wpQuiet P l.toArray (fun w' => ∃ x : Since w0, w' = x.1) (fun a' => ∀ w', (∃ x : Since w0, w' = x.1) → Q .normal a' w') l a) : (Code.region id l.toArray true).wp P Q a w :=
  wp_region_quiet (C := fun w' => ∃ x : Since w0, w' = x.1) hm hB ⟨⟨_, hw.drew⟩, rfl⟩ (by simpa using h)
theorem since_call {P : Program} {f : FuncId} {args : Array Value} {v : Value} {w0 : World} (h : ∀ w, Calls P f args w fun e w' => e = .returned v ∧ Below w.heap.size w w') (x : Since w0) :
    Calls P f args x.1 fun e w' => e = .returned v ∧ ∃ y : Since w0, w' = y.1 :=
  (h x.1).mono fun _ w' ⟨he, hb⟩ => ⟨he, ⟨w', then_below x.2 hb⟩, rfl⟩

end Go.Proofs.YtpblpjopinllcaaGreatDoor.opened
namespace Go.Proofs.YtpblpjopinllcaaGreatDoor.words

abbrev Bs : Type := List UInt8
/-- The lines of a text, with what the first one has already. -/
def linesC : Bs → Bs → List Bs
  | w, [] => if w = [] then [] else [w]
  | w, c :: r => if c = 10 then w :: linesC [] r else linesC (w ++ [c]) r
/-- The words of a line, with what the first one has already. -/
def splitC : Bs → Bs → List Bs
  | w, [] => if w = [] then [] else [w]
  | w, c :: r => if c = 32 then (if w = [] then splitC [] r else w :: splitC [] r) else if w = [] ∧ c = 35 then [] else splitC (w ++ [c]) r
def linesL (s : Bs) : List Bs := linesC [] s
def splitL (s : Bs) : List Bs := splitC [] s

theorem cut_one (l : Bs) (x : UInt8) : (∃ a b, l = a ++ x :: b ∧ x ∉ a ∧ Lib.cut l [x] = (a, b, true)) ∨ (x ∉ l ∧ Lib.cut l [x] = (l, [], false)) := by
  unfold Lib.cut
  rw [Lib.index_one]
  by_cases h : Lib.indexByte l x = -1
  · right
    have hn := Lib.indexByte_none h
    refine ⟨fun hm => ?_, ?_⟩
    · obtain ⟨i, hi⟩ := List.getElem?_of_mem hm
      exact hn i hi
    · rw [h]; simp
  · left
    obtain ⟨i, hi⟩ : ∃ i : Nat, Lib.indexByte l x = i := by
      have hge := Lib.index_ge l [x]
      rw [Lib.index_one] at hge
      exact ⟨(Lib.indexByte l x).toNat, by omega⟩
    obtain ⟨h1, h2⟩ := Lib.indexByte_some hi
    have hlt := (List.getElem?_eq_some_iff.1 h1).1
    refine ⟨l.take i, l.drop (i + 1), ?_, ?_, ?_⟩
    · have hd : l.drop i = x :: l.drop (i + 1) := by
        rw [List.drop_eq_getElem_cons hlt]
        rw [List.getElem?_eq_getElem hlt] at h1
        simp at h1
        rw [h1]
      rw [← hd, List.take_append_drop]
    · intro hm
      obtain ⟨k, hk⟩ := List.getElem?_of_mem hm
      rw [List.getElem?_take] at hk
      split at hk
      · exact h2 k (by assumption) hk
      · cases hk
    · rw [hi]
      simp

theorem linesC_app : ∀ (a : Bs) (w r : Bs), (10 : UInt8) ∉ a → linesC w (a ++ r) = linesC (w ++ a) r
  | [], w, r, _ => by simp
  | c :: a, w, r, h => by
    have h1 : c ≠ 10 := fun e => h (by simp [e])
    have h2 : (10 : UInt8) ∉ a := fun e => h (by simp [e])
    rw [List.cons_append, linesC, if_neg h1, linesC_app a _ r h2, List.append_assoc]
    rfl
/-- One line, and those behind it. -/
theorem lines_cut {l : Bs} (h : l ≠ []) : linesL l = (Lib.cut l [10]).1 :: linesL (Lib.cut l [10]).2.1 := by
  unfold linesL
  rcases cut_one l 10 with ⟨a, b, rfl, ha, e⟩ | ⟨hn, e⟩
  · rw [e, linesC_app a [] _ ha, linesC, if_pos rfl]
    rfl
  · rw [e]
    have := linesC_app l [] [] hn
    rw [List.append_nil] at this
    rw [this, linesC, if_neg (by simpa using h)]
    rfl
theorem cut_less {l : Bs} (h : l ≠ []) (x : UInt8) : (Lib.cut l [x]).2.1.length < l.length := by
  rcases cut_one l x with ⟨a, b, rfl, ha, e⟩ | ⟨hn, e⟩
  · rw [e]; simp; omega
  · rw [e]
    exact List.length_pos_iff.2 h
theorem cut_fst (l : Bs) (x : UInt8) : (Lib.cut l [x]).1.length ≤ l.length := by
  rcases cut_one l x with ⟨a, b, rfl, ha, e⟩ | ⟨hn, e⟩
  · rw [e]; simp
  · rw [e]; exact Nat.le_refl _
theorem lines_nil : linesL [] = [] := rfl
theorem split_nil : splitL [] = [] := rfl

theorem splitC_app : ∀ (a : Bs) (w r : Bs), (32 : UInt8) ∉ a → w ≠ [] → splitC w (a ++ r) = splitC (w ++ a) r
  | [], w, r, _, _ => by simp
  | c :: a, w, r, h, hw => by
    have h1 : c ≠ 32 := fun e => h (by simp [e])
    have h2 : (32 : UInt8) ∉ a := fun e => h (by simp [e])
    rw [List.cons_append, splitC, if_neg h1, if_neg (fun e => hw e.1), splitC_app a _ r h2 (by simp), List.append_assoc]
    rfl
/-- A word's beginning tells a comment. -/
def isNote (a : Bs) : Bool := Lib.hasPrefix a [35]
theorem isNote_cons (c : UInt8) (a : Bs) : isNote (c :: a) = decide (c = 35) := by
  unfold isNote Lib.hasPrefix
  by_cases h : c = 35
  · subst h; simp [List.isPrefixOf]
  · simp [List.isPrefixOf, h]
    exact fun e => h e.symm
theorem splitC_word (a : Bs) (r : Bs) (h : (32 : UInt8) ∉ a) (hn : isNote a = false) (ha : a ≠ []) : splitC [] (a ++ r) = splitC a r := by
  cases a with
  | nil => exact absurd rfl ha
  | cons c a =>
    have h1 : c ≠ 32 := fun e => h (by simp [e])
    have h2 : (32 : UInt8) ∉ a := fun e => h (by simp [e])
    rw [isNote_cons] at hn
    have h3 : c ≠ 35 := by simpa using hn
    rw [List.cons_append, splitC, if_neg h1, if_neg (fun e => h3 e.2), List.nil_append, splitC_app a [c] r h2 (by simp)]
    rfl
theorem splitC_note (a : Bs) (r : Bs) (hn : isNote a = true) : splitC [] (a ++ r) = [] := by
  cases a with
  | nil => simp [isNote, Lib.hasPrefix, List.isPrefixOf] at hn
  | cons c a =>
    rw [isNote_cons] at hn
    have h3 : c = 35 := by simpa using hn
    subst h3
    rw [List.cons_append, splitC, if_neg (by decide), if_pos ⟨rfl, rfl⟩]
/-- One word, and those behind it. -/
theorem split_cut (l : Bs) : splitL l = if isNote (Lib.cut l [32]).1 then [] else if (Lib.cut l [32]).1 = [] then splitL (Lib.cut l [32]).2.1 else (Lib.cut l [32]).1 :: splitL (Lib.cut l [32]).2.1 := by
  unfold splitL
  rcases cut_one l 32 with ⟨a, b, rfl, ha, e⟩ | ⟨hn, e⟩
  · rw [e]
    dsimp only
    cases hx : isNote a
    · rw [if_neg (by simp)]
      by_cases h0 : a = []
      · subst h0
        rw [if_pos rfl, List.nil_append, splitC, if_pos rfl, if_pos rfl]
      · rw [if_neg h0, splitC_word a _ ha hx h0, splitC, if_pos rfl, if_neg h0]
    · rw [if_pos rfl, splitC_note a _ hx]
  · rw [e]
    dsimp only
    cases hx : isNote l
    · rw [if_neg (by simp)]
      by_cases h0 : l = []
      · subst h0
        rfl
      · have := splitC_word l [] hn hx h0
        rw [List.append_nil] at this
        rw [if_neg h0, this, splitC, if_neg h0]
        rfl
    · rw [if_pos rfl]
      have := splitC_note l [] hx
      rwa [List.append_nil] at this

/-! ### Words that are put together -/
def spaces (k : Nat) : Bs := List.replicate k 32
theorem split_spaces (k : Nat) (r : Bs) : splitC [] (spaces k ++ r) = splitC [] r := by
  induction k with
  | zero => rfl
  | succ k ih =>
    show splitC [] (32 :: (spaces k ++ r)) = _
    rw [splitC, if_pos rfl, if_pos rfl, ih]
/-- What a word is asked to be, and a line. -/
structure Plain (x : Bs) : Prop where
  some : x ≠ []
  note : isNote x = false
  space : (32 : UInt8) ∉ x
  line : (10 : UInt8) ∉ x
def spread (k : Nat) : List Bs → Bs
  | [] => []
  | x :: r => spaces k ++ (x ++ spread k r)
def lined : List Bs → Bs
  | [] => []
  | x :: r => x ++ 10 :: lined r
theorem spread_snoc (k : Nat) (x : Bs) : ∀ N : List Bs, spread k (N ++ [x]) = spread k N ++ (spaces k ++ x)
  | [] => by simp [spread]
  | y :: r => by simp [spread, spread_snoc k x r]
theorem lined_snoc (x : Bs) : ∀ N : List Bs, lined (N ++ [x]) = lined N ++ (x ++ [10])
  | [] => by simp [lined]
  | y :: r => by simp [lined, lined_snoc x r]
theorem split_spread (k : Nat) (t : Bs) (ht : splitC [] (32 :: t) = []) (t0 : t = [] ∨ t.head? = some 32) : ∀ N : List Bs, (∀ x ∈ N, Plain x) → splitL (spread (k + 1) N ++ t) = N
  | [], _ => by
    show splitC [] t = []
    rwa [splitC, if_pos rfl, if_pos rfl] at ht
  | x :: r, h => by
    have hx := h x (by simp)
    have ih := split_spread k t ht t0 r (fun y hy => h y (by simp [hy]))
    unfold splitL at ih ⊢
    rw [spread, List.append_assoc, split_spaces, List.append_assoc, splitC_word x _ hx.space hx.note hx.some]
    have front : ∃ z, spread (k + 1) r ++ t = 32 :: z ∨ spread (k + 1) r ++ t = [] := by
      cases r with
      | nil =>
        rcases t0 with rfl | h0
        · exact ⟨[], .inr rfl⟩
        · cases t with
          | nil => exact ⟨[], .inr rfl⟩
          | cons c t =>
            simp at h0
            subst h0
            exact ⟨t, .inl rfl⟩
      | cons y q => exact ⟨spaces k ++ (y ++ spread (k + 1) q) ++ t, .inl rfl⟩
    obtain ⟨z, hz | hz⟩ := front
    · rw [hz] at ih ⊢
      rw [splitC, if_pos rfl, if_neg hx.some]
      rw [splitC, if_pos rfl, if_pos rfl] at ih
      rw [ih]
    · rw [hz] at ih ⊢
      rw [splitC, if_neg hx.some]
      rw [← ih]
      rfl
theorem lines_lined : ∀ N : List Bs, (∀ x ∈ N, Plain x) → linesL (lined N) = N
  | [], _ => rfl
  | x :: r, h => by
    have hx := h x (by simp)
    have ih := lines_lined r (fun y hy => h y (by simp [hy]))
    unfold linesL at ih ⊢
    rw [lined, linesC_app x [] _ hx.line, linesC, if_pos rfl, ih]
    rfl
theorem spread_len (k m : Nat) : ∀ N : List Bs, (∀ x ∈ N, x.length ≤ m) → (spread k N).length ≤ N.length * (k + m)
  | [], _ => by simp [spread]
  | x :: r, h => by
    have ih := spread_len k m r (fun y hy => h y (by simp [hy]))
    have := h x (by simp)
    rw [spread, List.length_append, List.length_append, List.length_cons, spaces, List.length_replicate, Nat.add_mul]
    omega
theorem lined_len (m : Nat) : ∀ N : List Bs, (∀ x ∈ N, x.length ≤ m) → (lined N).length ≤ N.length * (1 + m)
  | [], _ => by simp [lined]
  | x :: r, h => by
    have ih := lined_len m r (fun y hy => h y (by simp [hy]))
    have := h x (by simp)
    rw [lined, List.length_append, List.length_cons, List.length_cons, Nat.add_mul]
    omega

/-! ### Names -/
def isA (c : UInt8) : Bool := decide (97 ≤ c.toNat ∧ c.toNat ≤ 122)
def isD (c : UInt8) : Bool := decide (48 ≤ c.toNat ∧ c.toNat ≤ 57)
/-- Whether all bytes may stand in a name, and the first one at its front. -/
def nameB (w : Bs) : Bool := decide (w.length ≤ 12) && (match w with
  | [] => false
  | c :: r => isA c && r.all fun x => isA x || isD x)

/-! ### Options -/
def optF (name x : Bs) : Bool := Lib.hasPrefix x (name ++ [61])
def optL (name : Bs) : List Bs → Bs × Bool
  | [] => ([], false)
  | x :: r => if optF name x then (x.drop (name.length + 1), true) else optL name r
theorem opt_take {name : Bs} : ∀ {l : List Bs} {k : Nat}, (∀ x ∈ l.take k, optF name x = false) → optL name l = optL name (l.drop k)
  | l, 0, _ => by simp
  | [], k + 1, _ => by simp
  | x :: r, k + 1, h => by
    have h0 := h x (by simp)
    rw [optL, h0, if_neg (by simp), List.drop_succ_cons]
    exact opt_take fun y hy => h y (by simp [hy])
/-- The words that have been looked at have none. -/
theorem opt_at {name : Bs} {l : List Bs} {k : Nat} {x : Bs} (h : ∀ y ∈ l.take k, optF name y = false) (hx : l[k]? = some x) (hf : optF name x = true) : optL name l = (x.drop (name.length + 1), true) := by
  rw [opt_take h]
  obtain ⟨hl, e⟩ := List.getElem?_eq_some_iff.1 hx
  rw [List.drop_eq_getElem_cons hl, e, optL, hf, if_pos rfl]
theorem opt_none {name : Bs} {l : List Bs} (h : ∀ y ∈ l, optF name y = false) : optL name l = ([], false) := by
  rw [opt_take (k := l.length) (by rw [List.take_length]; exact h), List.drop_length]
  rfl
theorem opt_more {name : Bs} {l : List Bs} {k : Nat} {x : Bs} (h : ∀ y ∈ l.take k, optF name y = false) (hx : l[k]? = some x) (hf : optF name x = false) : ∀ y ∈ l.take (k + 1), optF name y = false := by
  intro y hy
  rw [List.take_add_one, hx] at hy
  rcases List.mem_append.1 hy with hy | hy
  · exact h y hy
  · simp at hy
    subst hy
    exact hf
end Go.Proofs.YtpblpjopinllcaaGreatDoor.words
namespace Go.Proofs.YtpblpjopinllcaaGreatDoor.words
open Go.ChangeShapes Go.WideShapes Go.ChangeAt Go.RowKit
open Go.Proofs.YtpblpjopinllcaaGreatDoor.opened Go.Proofs.YtpblpjopinllcaaGreatDoor.block

abbrev sV (l : Bs) : Value := .string ⟨l.toArray⟩
/-- A slice of strings that came in. -/
def Ls (w : World) (A : Option Addr) (N : List Bs) : Prop := Lies w A (N.map sV)
theorem Ls.nil (w : World) : Ls w none [] := .inl rfl
theorem Ls.below {w w' : World} {A : Option Addr} {N : List Bs} (h : Ls w A N) (hb : Below w.heap.size w w') : Ls w' A N := by
  rcases h with h | ⟨b, off, hA, hbl, hc⟩
  · exact .inl h
  · exact .inr ⟨b, off, hA, Nat.lt_of_lt_of_le hbl hb.size, fun i x hx => (hb.cell (p := ⟨b, off + i, none⟩) hbl).trans (hc i x hx)⟩
theorem Ls.at {w : World} {A : Option Addr} {N : List Bs} (h : Ls w A N) {k : Nat} {x : Bs} (hk : N[k]? = some x) : ∃ b off, A = some ⟨b, off, none⟩ ∧ b < w.heap.size ∧ w.cell? ⟨b, off + k, none⟩ = some (sV x) := by
  rcases h with h | ⟨b, off, hA, hbl, hc⟩
  · have : N = [] := by simpa using h
    subst this
    simp at hk
  · exact ⟨b, off, hA, hbl, hc k (sV x) (by rw [List.getElem?_map, hk]; rfl)⟩
/-- A slice of strings that is one's own. -/
abbrev OwnS (w : World) (base : Nat) (v : Value) (N : List Bs) : Prop := w.ownsRow base 9 1 v N.length (N.map sV)
theorem infoS : (Tryz.prog.info? 9).map (fun i => (i.zero, i.size, i.bytes)) = some (some (.string ByteArray.empty), 1, 16) := by kernel_rfl
theorem infoS_parts : ∃ i, Tryz.prog.info? 9 = some i ∧ i.zero = some (.string ByteArray.empty) ∧ i.size = 1 ∧ i.bytes = 16 := by
  have h := infoS
  rw [Option.map_eq_some_iff] at h
  obtain ⟨i, hi, he⟩ := h
  simp only [Prod.mk.injEq] at he
  exact ⟨i, hi, he.1, he.2.1, he.2.2⟩
theorem OwnS.lies {w : World} {base : Nat} {A : Option Addr} {n c : Nat} {N : List Bs} (h : OwnS w base (.slice A n c) N) : Ls w A N := by
  rcases h.2 with ⟨-, hn⟩ | ⟨g, cap, cur, hv, hb, hg, hc, hcm, hs, ht⟩
  · rw [List.eq_nil_of_length_eq_zero hn]; exact .inl rfl
  · injection hv with h1 h2 h3
    subst h1
    refine .inr ⟨g, 0, rfl, (Array.getElem?_eq_some_iff.1 hg).1, fun i x hx => ?_⟩
    have hi := (List.getElem?_eq_some_iff.1 hx).1
    rw [List.length_map] at hi
    rw [← ht, List.getElem?_take, if_pos (by omega), Array.getElem?_toList] at hx
    rw [← hx]
    simp [World.cell?, hg]
theorem OwnS.below {w w' : World} {base : Nat} {v : Value} {N : List Bs} (h : OwnS w base v N) (hb : Below w.heap.size w w') : OwnS w' base v N := by
  refine ⟨h.1, ?_⟩
  rcases h.2 with hn | ⟨g, cap, cur, hv, hg0, hg, rest⟩
  · exact .inl hn
  · exact .inr ⟨g, cap, cur, hv, hg0, (hb.block g (Array.getElem?_eq_some_iff.1 hg).1).trans hg, rest⟩
theorem OwnS.grown {W w1 : World} {base : Nat} {v : Value} {N : List Bs} {tmp : Obj} (h : OwnS W base v N) (hb0 : base ≤ W.heap.size) (hg : (W.alloc tmp).grownBy w1 v.ownBlock) : Below base W w1 :=
  ((Below.refl base W).alloc hb0 tmp).grown hg (by simp; omega) fun j ej => by
    rcases h.2 with ⟨rfl, _⟩ | ⟨g, cap, cur, rfl, hb, _, _⟩
    · simp [Value.ownBlock] at ej
    · obtain rfl : g = j := by simpa [Value.ownBlock] using ej
      exact hb
theorem OwnS.low {w : World} {base base' : Nat} {v : Value} {N : List Bs} (h : OwnS w base v N) (hb : base' ≤ base) : OwnS w base' v N := by
  refine ⟨h.1, ?_⟩
  rcases h.2 with hn | ⟨g, cap, cur, hv, hg0, hg, rest⟩
  · exact .inl hn
  · exact .inr ⟨g, cap, cur, hv, Nat.le_trans hb hg0, hg, rest⟩
theorem ownS_nil (w : World) (base : Nat) : OwnS w base (.slice none 0 0) [] := World.ownsRow_nil _ _ _ _
theorem heap_new (w : World) (o : Obj) : (w.alloc o).heap[w.heap.size]? = some o := by
  show (w.heap.push o)[w.heap.size]? = some o
  simp
theorem cell_new1 (w : World) (x : Value) (t : TypeId) : ∀ j u, [x][j]? = some u → (w.alloc (.cells #[x] t)).cell? ((⟨w.heap.size, 0, none⟩ : Addr).add j) = some u := by
  intro j u hj
  have hh : (w.alloc (.cells #[x] t)).heap[w.heap.size]? = some (.cells #[x] t (0, 0)) := heap_new w _
  generalize w.alloc (.cells #[x] t) = W at hh ⊢
  generalize w.heap.size = g at hh ⊢
  cases j with
  | zero => simp only [World.cell?, Addr.add, ↓reduceIte, hh]; simpa using hj
  | succ j => simp at hj
theorem oneS (x : Bs) : ∀ v ∈ [sV x], v.oneCell' = true := by
  intro v hv
  rw [List.mem_singleton] at hv
  subst hv
  rfl
theorem snocS (N : List Bs) (x : Bs) : (N ++ [x]).map sV = N.map sV ++ [sV x] := by simp
theorem size_alloc (w : World) (o : Obj) : (w.alloc o).heap.size = w.heap.size + 1 := Array.size_push o
/-- A slice of strings that is made of a literal. -/
theorem ownS_lit (w : World) (N : List Bs) (h : N.length ≤ 1000) (cs : Array Value) (hc : cs = (N.map sV).toArray) : OwnS (w.alloc (.cells cs 9)) w.heap.size (.slice (some ⟨w.heap.size, 0, none⟩) N.length N.length) N := by
  subst hc
  have := World.ownsRow_lit (base := w.heap.size) (e := 9) (size := 1) w (N.map sV).toArray N.length (Nat.le_refl _) (by unfold maxLen; omega) (by simp)
  simpa using this
theorem ownS_succ {W : World} {base k : Nat} {v : Value} {xs : List Value} (h : W.ownsRow base 9 1 v (k + 1) xs) : ∃ g cap, v = .slice (some ⟨g, 0, none⟩) (k + 1) cap := by
  rcases h.2 with ⟨-, h0⟩ | ⟨g, cap, cur, hv, -⟩
  · omega
  · exact ⟨g, cap, hv⟩
theorem fresh1 (w : World) (o : Obj) : Below w.heap.size w (w.alloc o) := (Below.refl _ _).alloc (Nat.le_refl _) o
set_option maxRecDepth 100000 in
/-- Slices of strings that came in, opened. -/
theorem opens_strs : Opens Tryz.prog 126 (sliceR 1 16 strR) := opens_slice Tryz.underlying126 (m := 1) (bytes := 16) (by kernel_rfl) (by kernel_rfl) (opens_str Tryz.underlying9)
set_option maxRecDepth 100000 in
theorem top_strs {w : World} {r : Reach} {b : Nat} {v : Value} {row : Row ByteArray} (hv : Value.okWide Tryz.prog w r b 126 v) (h : sliceR 1 16 strR w v.cells.toList row) :
    ∃ (A : Option Addr) (c : Nat) (L : List Bs), v = .slice A L.length c ∧ Ls w A L ∧ L.length ≤ 9223372036854775807 := by
  obtain rfl := top_slice Tryz.underlying126 hv h
  refine ⟨row.ptr, row.cap, row.elems.map (·.data.toList), ?_, ?_, ?_⟩
  · rw [row_val h, List.length_map]
  · have k := lies_of (f := fun s => Value.string s) (fun w cs s hs => hs.1) h
    unfold Ls
    rw [List.map_map]
    have e : (row.elems.map (sV ∘ fun x => x.data.toList)) = row.elems.map (fun s => Value.string s) := List.map_congr_left fun s _ => congrArg Value.string (Lib.mk_data s)
    rw [e]
    exact k
  · rw [List.length_map]
    exact row_max h
def lenOf : Value → Nat
  | .string b => b.size
  | _ => 0
theorem lenOf_str (l : Bs) : lenOf (sV l) = l.length := by
  show l.toArray.size = _
  simp
/-- The place of internal/bytealg.MaxLen holds a number. -/
def MaxIs (w : World) : Prop := ∃ m : Int, w.cell? ⟨1, 0, none⟩ = some (.int .i64 m)
theorem MaxIs.below {w w' : World} (h : MaxIs w) (hb : Below w.heap.size w w') : MaxIs w' := by
  obtain ⟨m, hm⟩ := h
  exact ⟨m, (hb.cell (p := ⟨_, 0, none⟩) (World.block_lt_of_cell? w _ hm)).trans hm⟩
end Go.Proofs.YtpblpjopinllcaaGreatDoor.words
