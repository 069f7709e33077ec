/-
  A disk in the world: its cells, its map, and the rows of its files.
-/
import Derived.Test.YtkfjgmfokpgcbaaKm
import Derived.Test.YtkfjgmfokpgcbaaOs
import Derived.Test.YtkfjgmfokpgcbaaWh
import Derived.Maps.RangeWalk
import Derived.Lib.AppendStr
import Derived.StringKeys
import Derived.WalkKit
namespace Go.Proofs.Ytkfjgmfokpgcbaa.disk
open Go.ChangeShapes Go.WideShapes Go.ChangeAt Go.RowKit Go.Maps Go.WideMaps
open Go.Proofs.Ytkfjgmfokpgcbaa.words Go.Proofs.Ytkfjgmfokpgcbaa.opened Go.Proofs.Ytkfjgmfokpgcbaa.block

/-- A file, with the place of its bytes and how many fit in there. -/
structure Fe where
  f : Fl
  A : Option Addr
  c : Nat
def bsC (b : Bs) : List Value := b.map fun x => Value.int .u8 x.toNat
theorem bsC_str (b : Bs) : Lib.strCells ⟨b.toArray⟩ = bsC b := by simp [Lib.strCells, bsC]
theorem bsC_app (a b : Bs) : bsC (a ++ b) = bsC a ++ bsC b := List.map_append
theorem bsC_len (b : Bs) : (bsC b).length = b.length := List.length_map ..
abbrev Fe.row (e : Fe) : Value := .slice e.A e.f.b.length e.c
abbrev Fe.val (e : Fe) : Value := .agg #[.slice e.A e.f.b.length e.c, .int .i64 (e.f.l : Int)]
def Fe.Ok (e : Fe) : Prop := e.A = none ∨ ∃ g, e.A = some ⟨g, 0, none⟩
def litN (n : Nat) : DataW Nat := .lit (.int .i64 (n : Int))
theorem litN_inj {m n : Nat} (h : litN m = litN n) : m = n := by
  unfold litN at h
  injection h with h
  injection h with _ h
  exact Int.ofNat.inj h
def dE (e : Fe) : DataW Nat := match e.A with
  | none => .agg [.nil, litN e.f.b.length, litN e.c, litN e.f.l]
  | some a => .agg [litN a.block, litN e.f.b.length, litN e.c, litN e.f.l]
/-- How the map's elements are told apart. -/
def fileR (v : Value) : Option (DataW Nat × List MemPlace) := match v with
  | .agg ⟨[.slice none n c, .int .i64 (.ofNat l)]⟩ => some (.agg [.nil, litN n, litN c, litN l], [])
  | .agg ⟨[.slice (some ⟨g, 0, none⟩) n c, .int .i64 (.ofNat l)]⟩ => some (.agg [litN g, litN n, litN c, litN l], [])
  | _ => none
theorem fileR_val {e : Fe} (h : e.Ok) : fileR e.val = some (dE e, []) := by
  obtain ⟨f, A, c⟩ := e
  rcases h with h | ⟨g, h⟩
  · dsimp only at h
    subst h
    rfl
  · dsimp only at h
    subst h
    rfl
theorem fileR_inv {e : Fe} (h : e.Ok) {v : Value} {ps : List MemPlace} (hv : fileR v = some (dE e, ps)) : v = e.val := by
  obtain ⟨f, A, c⟩ := e
  unfold fileR at hv
  split at hv
  · rename_i n c' l
    rcases h with h | ⟨g, h⟩
    · dsimp only at h
      subst h
      simp only [dE, Option.some.injEq, Prod.mk.injEq, DataW.agg.injEq, List.cons.injEq, and_true, true_and] at hv
      obtain ⟨⟨h1, h2, h3⟩, -⟩ := hv
      rw [litN_inj h1, litN_inj h2, litN_inj h3]
      rfl
    · dsimp only at h
      subst h
      simp [dE, litN] at hv
  · rename_i g' n c' l
    rcases h with h | ⟨g, h⟩
    · dsimp only at h
      subst h
      simp [dE, litN] at hv
    · dsimp only at h
      subst h
      simp only [dE, Option.some.injEq, Prod.mk.injEq, DataW.agg.injEq, List.cons.injEq, and_true] at hv
      obtain ⟨⟨h0, h1, h2, h3⟩, -⟩ := hv
      rw [litN_inj h0, litN_inj h1, litN_inj h2, litN_inj h3]
      rfl
  · cases hv

/-! ### Files with their places, as lists -/
def kN (n : Bs) : Lit := .string n
def pE (e : Fe) : Lit × DataW Nat := (kN e.f.n, dE e)
theorem isKN (n : Bs) : WideAt.IsKeyLit (kN n) := by trivial
theorem kN_inj {m n : Bs} (h : kN m = kN n) : m = n := by injection h
def lkE (E : List Fe) (n : Bs) : Option Fe := E.find? fun e => decide (e.f.n = n)
def lookE (E : List Fe) (n : Bs) : Fe := (lkE E n).getD ⟨⟨n, [], 0⟩, none, 0⟩
def insE (e : Fe) : List Fe → List Fe
  | [] => [e]
  | x :: r => if e.f.n < x.f.n then e :: x :: r else x :: insE e r
def delE (n : Bs) (E : List Fe) : List Fe := E.filter fun x => !decide (x.f.n = n)
def putE (e : Fe) (E : List Fe) : List Fe := insE e (delE e.f.n E)
theorem insE_perm (e : Fe) : ∀ E : List Fe, (insE e E).Perm (e :: E)
  | [] => List.Perm.refl _
  | x :: r => by
    unfold insE
    split
    · exact List.Perm.refl _
    · exact ((insE_perm e r).cons x).trans (List.Perm.swap e x r)
theorem putE_perm (e : Fe) (E : List Fe) : (putE e E).Perm (e :: delE e.f.n E) := insE_perm e _
theorem map_insE (e : Fe) : ∀ E : List Fe, (insE e E).map Fe.f = ins e.f (E.map Fe.f)
  | [] => rfl
  | x :: r => by
    unfold insE
    show _ = ins e.f (x.f :: r.map Fe.f)
    rw [ins]
    split
    · rfl
    · rw [List.map_cons, map_insE e r]
theorem map_delE (n : Bs) (E : List Fe) : (delE n E).map Fe.f = del n (E.map Fe.f) := by
  unfold delE del
  rw [List.filter_map]
  rfl
theorem map_putE (e : Fe) (E : List Fe) : (putE e E).map Fe.f = put e.f (E.map Fe.f) := by
  unfold putE put
  rw [map_insE, map_delE]
theorem lk_map (E : List Fe) (n : Bs) : lk (E.map Fe.f) n = (lkE E n).map Fe.f := by
  unfold lk lkE
  rw [List.find?_map]
  rfl
theorem lkE_some {E : List Fe} {n : Bs} {e : Fe} (h : lkE E n = some e) : e ∈ E ∧ e.f.n = n := ⟨List.mem_of_find?_eq_some h, by have := List.find?_some h; simpa using this⟩
theorem lkE_none {E : List Fe} {n : Bs} : lkE E n = none ↔ ∀ x ∈ E, x.f.n ≠ n := by
  unfold lkE
  rw [List.find?_eq_none]
  simp
theorem look_f (E : List Fe) (n : Bs) : (lookE E n).f = ⟨n, oldB (E.map Fe.f) n, oldL (E.map Fe.f) n⟩ := by
  unfold lookE oldB oldL
  rw [lk_map]
  cases h : lkE E n with
  | none => rfl
  | some e =>
    have := (lkE_some h).2
    show e.f = ⟨n, e.f.b, e.f.l⟩
    rw [← this]
theorem mem_delE {x : Fe} {n : Bs} {E : List Fe} : x ∈ delE n E ↔ x ∈ E ∧ x.f.n ≠ n := by
  rw [delE, List.mem_filter]
  simp
theorem mem_putE {e x : Fe} {E : List Fe} : x ∈ putE e E ↔ x = e ∨ (x ∈ E ∧ x.f.n ≠ e.f.n) := by
  rw [(putE_perm e E).mem_iff, List.mem_cons, mem_delE]

/-! ### The map -/
/-- Block b is a map that holds just these files. -/
def OwnF (w : World) (b : Nat) (E : List Fe) : Prop :=
  ∃ es : List (Lit × DataW Nat), es.Perm (E.map pE) ∧ w.ownsMap Try.prog 9 fileR b E.length (.map es)
theorem keyS : Keyed Try.prog 9 := string_keyed Try.underlying9
theorem keyOfS {n : Bs} (h : n.length ≤ 100000) : keyOf Try.prog 9 (sV n) = some (kN n) :=
  keyOf_string_mk (s := ⟨n.toArray⟩) Try.underlying9 (by show n.toArray.size ≤ maxLen; unfold maxLen; simp; omega)
theorem ownF_tight {w : World} {n b : Nat} {es : List (Lit × DataW Nat)} (h : w.ownsMap Try.prog 9 fileR b n (.map es)) : w.ownsMap Try.prog 9 fileR b es.length (.map es) := by
  obtain ⟨xs, clock, hb, F, -, hD⟩ := h
  refine ⟨xs, clock, hb, F, ?_, hD⟩
  have := congrArg Maps.size hD
  simp only [Maps.size, length_sorted, List.length_map, Array.length_toList] at this
  omega
theorem ownF_of {w : World} {n b : Nat} {es : List (Lit × DataW Nat)} {E : List Fe} (h : w.ownsMap Try.prog 9 fileR b n (.map es)) (hp : es.Perm (E.map pE)) : OwnF w b E := by
  refine ⟨es, hp, ?_⟩
  have e := ownF_tight h
  have := hp.length_eq
  rw [List.length_map] at this
  rwa [this] at e
theorem OwnF.kept {w w' : World} {row : Option Nat} {b : Nat} {E : List Fe} (h : OwnF w b E) (hg : w.grownBy w' row) (hne : some b ≠ row) : OwnF w' b E := by
  obtain ⟨es, hp, ho⟩ := h
  exact ⟨es, hp, ho.kept hg hne⟩
theorem OwnF.lt {w : World} {b : Nat} {E : List Fe} (h : OwnF w b E) : b < w.heap.size := by obtain ⟨es, hp, ho⟩ := h; exact ho.lt
theorem OwnF.same {w w' : World} {b : Nat} {E : List Fe} (h : OwnF w b E) (hb : w'.heap[b]? = w.heap[b]?) : OwnF w' b E := by
  obtain ⟨es, hp, xs, clock, hx, F, hs, hD⟩ := h
  exact ⟨es, hp, xs, clock, hb.trans hx, F, hs, hD⟩
theorem ownF_made (w : World) : OwnF (w.alloc (.map #[] 0)) w.heap.size [] := ⟨[], by simp, World.ownsMap_made w _ _ _⟩
theorem zeroF (w : World) : (zeroValue 59).run Try.prog w = .ok (.agg #[.slice none 0 0, .int .i64 0]) w := by kernel_rfl
theorem keysF_apart {w : World} {n b : Nat} {es : List (Lit × DataW Nat)} (h : w.ownsMap Try.prog 9 fileR b n (.map es)) : es.Pairwise (fun p q => p.1 ≠ q.1) := by
  obtain ⟨es', e, hp⟩ := h.tidy keyS
  cases e
  exact hp
theorem names_apart {es : List (Lit × DataW Nat)} {E : List Fe} (hp : es.Perm (E.map pE)) (ha : es.Pairwise (fun p q => p.1 ≠ q.1)) : E.Pairwise fun x y => x.f.n ≠ y.f.n := by
  have h1 := (hp.pairwise_iff (fun {a b} (h : a.1 ≠ b.1) => h.symm)).1 ha
  exact (List.pairwise_map.1 h1).imp fun {a b} hab e => hab (by show kN a.f.n = kN b.f.n; rw [e])
theorem OwnF.apart {w : World} {b : Nat} {E : List Fe} (h : OwnF w b E) : E.Pairwise fun x y => x.f.n ≠ y.f.n := by
  obtain ⟨es, hp, ho⟩ := h
  exact names_apart hp (keysF_apart ho)
theorem hasF {es : List (Lit × DataW Nat)} {E : List Fe} (hp : es.Perm (E.map pE)) (n : Bs) : Maps.has (.map es) (kN n) = (lkE E n).isSome := by
  rw [has_eq]
  cases h : lkE E n with
  | some e =>
    obtain ⟨h1, h2⟩ := lkE_some h
    refine List.any_eq_true.2 ⟨pE e, hp.mem_iff.2 (List.mem_map.2 ⟨e, h1, rfl⟩), ?_⟩
    show (kN e.f.n).sameKey (kN n) = true
    rw [h2]
    exact WideAt.sameKey_self (isKN n)
  | none =>
    refine Bool.eq_false_iff.2 fun hany => ?_
    obtain ⟨q, hq, hs⟩ := List.any_eq_true.1 hany
    have e := (WideAt.sameKey_iff (isKN n)).1 hs
    obtain ⟨s, hs', he⟩ := List.mem_map.1 (hp.mem_iff.1 hq)
    rw [← he] at e
    exact lkE_none.1 h s hs' (kN_inj e)
theorem atF {es : List (Lit × DataW Nat)} {E : List Fe} (hp : es.Perm (E.map pE)) (ha : es.Pairwise (fun p q => p.1 ≠ q.1)) (n : Bs) : (DataW.map es).atKey (kN n) (dE ⟨⟨n, [], 0⟩, none, 0⟩) = dE (lookE E n) := by
  unfold lookE
  cases h : lkE E n with
  | some e =>
    obtain ⟨h1, h2⟩ := lkE_some h
    refine WideAt.atKey_mem _ (isKN n) ha (hp.mem_iff.2 (List.mem_map.2 ⟨e, h1, ?_⟩))
    show (kN e.f.n, dE e) = _
    rw [h2]
    rfl
  | none => exact Maps.atKey_of_not_has (by rw [hasF hp, h]; rfl) _
theorem look_ok {E : List Fe} (h : ∀ e ∈ E, e.Ok) (n : Bs) : (lookE E n).Ok := by
  unfold lookE
  cases hk : lkE E n with
  | none => exact .inl rfl
  | some e => exact h e (lkE_some hk).1
theorem look_run {w : World} {b : Nat} {E : List Fe} (h : OwnF w b E) (hk : ∀ e ∈ E, e.Ok) {n : Bs} (hn : n.length ≤ 100000) :
    (Instr.lookup 52 (.map (some b)) (sV n) false).run Try.prog w = .ok (lookE E n).val w := by
  obtain ⟨es, hp, ho⟩ := h
  obtain ⟨v, ps, hrun, hv⟩ := ho.lookup keyS Try.underlying52 (zeroF w) (fileR_val (e := ⟨⟨n, [], 0⟩, none, 0⟩) (.inl rfl)) (keyOfS hn)
  rw [atF hp (keysF_apart ho)] at hv
  rw [hrun, fileR_inv (look_ok hk n) hv]
theorem look_ok_run {w : World} {b : Nat} {E : List Fe} (h : OwnF w b E) (hk : ∀ e ∈ E, e.Ok) {n : Bs} (hn : n.length ≤ 100000) :
    (Instr.lookup 52 (.map (some b)) (sV n) true).run Try.prog w = .ok (.tuple #[(lookE E n).val, .bool (lkE E n).isSome]) w := by
  obtain ⟨es, hp, ho⟩ := h
  obtain ⟨v, ps, hrun, hv⟩ := ho.look_ok keyS Try.underlying52 (zeroF w) (fileR_val (e := ⟨⟨n, [], 0⟩, none, 0⟩) (.inl rfl)) (keyOfS hn)
  rw [atF hp (keysF_apart ho)] at hv
  rw [hrun, fileR_inv (look_ok hk n) hv, hasF hp]
theorem strikeF {es : List (Lit × DataW Nat)} {E : List Fe} (hp : es.Perm (E.map pE)) (n : Bs) : (es.filter fun p => !p.1.sameKey (kN n)).Perm ((delE n E).map pE) := by
  refine (hp.filter _).trans ?_
  rw [List.filter_map]
  refine List.Perm.of_eq (congrArg (List.map pE) (List.filter_congr fun s _ => ?_))
  show (!(kN s.f.n).sameKey (kN n)) = _
  by_cases he : s.f.n = n
  · rw [he, WideAt.sameKey_self (isKN n)]; simp
  · rw [Maps.sameKey_ne (fun e => he (kN_inj e))]; simp [he]
theorem del_run {w : World} {b : Nat} {E : List Fe} (h : OwnF w b E) {n : Bs} (hn : n.length ≤ 100000) (ty : TypeId) :
    ∃ w', (Builtin.delete_ #[52, 9] ty #[.map (some b), sV n]).run Try.prog w = .ok (.tuple #[]) w' ∧ OwnF w' b (delE n E) ∧ w.grownBy w' (some b) ∧ w'.heap.size = w.heap.size := by
  obtain ⟨es, hp, ho⟩ := h
  obtain ⟨w', hrun, hown, ht⟩ := ho.drop keyS Try.underlying52 (keyOfS hn) ty
  refine ⟨w', hrun, ownF_of hown (strikeF hp n), ht.grown, ?_⟩
  obtain ⟨_, _, _, _, _, rfl⟩ := ht
  simp [Go.ChangeMaps.setBlock]
theorem put_run {w : World} {b : Nat} {E : List Fe} (h : OwnF w b E) (hl : E.length ≤ 1000000) {e : Fe} (ok : e.Ok) (hn : e.f.n.length ≤ 100000) :
    ∃ w', (Instr.mapUpdate 52 (.map (some b)) (sV e.f.n) e.val).run Try.prog w = .ok () w' ∧ OwnF w' b (putE e E) ∧ w.grownBy w' (some b) ∧ w'.heap.size = w.heap.size := by
  obtain ⟨es, hp, ho⟩ := h
  obtain ⟨w', hrun, hown, ht⟩ := ho.store keyS Try.underlying52 (by unfold maxLen; omega) (keyOfS hn) (fileR_val ok)
  refine ⟨w', hrun, ownF_of hown ((insert_perm _ _).trans ((List.Perm.cons _ (strikeF hp e.f.n)).trans ((putE_perm e E).map pE).symm)), ht.grown, ?_⟩
  obtain ⟨_, _, _, _, _, rfl⟩ := ht
  simp [Go.ChangeMaps.setBlock]
end Go.Proofs.Ytkfjgmfokpgcbaa.disk
