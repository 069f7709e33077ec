/-
  A disk in the world: its cells, its map, and the rows of its files.
  A disk, all of it; what turns in the world while something is done to it.
-/
import Derived.Test.YtfpmcomigolacaaGreatDoorJWm
import Derived.Test.YtfpmcomigolacaaGreatDoorJBlock
import Derived.Test.YtfpmcomigolacaaGreatDoorJWh
import Derived.Maps.RangeWalk
import Derived.Lib.AppendStr
import Derived.StringKeys
import Derived.WalkKit
set_option linter.unusedSimpArgs false
set_option linter.unusedVariables false
namespace Go.Proofs.YtfpmcomigolacaaGreatDoor.disk
open Go.ChangeShapes Go.WideShapes Go.ChangeAt Go.RowKit Go.Maps Go.WideMaps
open Go.Proofs.YtfpmcomigolacaaGreatDoor.words Go.Proofs.YtfpmcomigolacaaGreatDoor.opened Go.Proofs.YtfpmcomigolacaaGreatDoor.block

/-- A file, with the place of its bytes and how many fit in there. -/
structure Fe where
  f : Fl
  A : Option Addr
  c : Nat
def bsC (b : Bs) : List Value := b.map fun x => Value.int .u8 x.toNat
theorem bsC_str (b : Bs) : Lib.strCells ⟨b.toArray⟩ = bsC b := by simp [Lib.strCells, bsC]
theorem bsC_app (a b : Bs) : bsC (a ++ b) = bsC a ++ bsC b := List.map_append
theorem bsC_len (b : Bs) : (bsC b).length = b.length := List.length_map ..
abbrev Fe.row (e : Fe) : Value := .slice e.A e.f.b.length e.c
abbrev Fe.val (e : Fe) : Value := .agg #[.slice e.A e.f.b.length e.c, .int .i64 (e.f.l : Int)]
def Fe.Ok (e : Fe) : Prop := e.A = none ∨ ∃ g, e.A = some ⟨g, 0, none⟩
def litN (n : Nat) : DataW Nat := .lit (.int .i64 (n : Int))
theorem litN_inj {m n : Nat} (h : litN m = litN n) : m = n := by
  unfold litN at h
  injection h with h
  injection h with _ h
  exact Int.ofNat.inj h
def dE (e : Fe) : DataW Nat := match e.A with
  | none => .agg [.nil, litN e.f.b.length, litN e.c, litN e.f.l]
  | some a => .agg [litN a.block, litN e.f.b.length, litN e.c, litN e.f.l]
/-- How the map's elements are told apart. -/
def fileR (v : Value) : Option (DataW Nat × List MemPlace) := match v with
  | .agg ⟨[.slice none n c, .int .i64 (.ofNat l)]⟩ => some (.agg [.nil, litN n, litN c, litN l], [])
  | .agg ⟨[.slice (some ⟨g, 0, none⟩) n c, .int .i64 (.ofNat l)]⟩ => some (.agg [litN g, litN n, litN c, litN l], [])
  | _ => none
theorem fileR_val {e : Fe} (h : e.Ok) : fileR e.val = some (dE e, []) := by
  obtain ⟨f, A, c⟩ := e
  rcases h with h | ⟨g, h⟩
  · dsimp only at h
    subst h
    rfl
  · dsimp only at h
    subst h
    rfl
theorem fileR_inv {e : Fe} (h : e.Ok) {v : Value} {ps : List MemPlace} (hv : fileR v = some (dE e, ps)) : v = e.val := by
  obtain ⟨f, A, c⟩ := e
  unfold fileR at hv
  split at hv
  · rename_i n c' l
    rcases h with h | ⟨g, h⟩
    · dsimp only at h
      subst h
      simp only [dE, Option.some.injEq, Prod.mk.injEq, DataW.agg.injEq, List.cons.injEq, and_true, true_and] at hv
      obtain ⟨⟨h1, h2, h3⟩, -⟩ := hv
      rw [litN_inj h1, litN_inj h2, litN_inj h3]
      rfl
    · dsimp only at h
      subst h
      simp [dE, litN] at hv
  · rename_i g' n c' l
    rcases h with h | ⟨g, h⟩
    · dsimp only at h
      subst h
      simp [dE, litN] at hv
    · dsimp only at h
      subst h
      simp only [dE, Option.some.injEq, Prod.mk.injEq, DataW.agg.injEq, List.cons.injEq, and_true] at hv
      obtain ⟨⟨h0, h1, h2, h3⟩, -⟩ := hv
      rw [litN_inj h0, litN_inj h1, litN_inj h2, litN_inj h3]
      rfl
  · cases hv

/-! ### Files with their places, as lists -/
def kN (n : Bs) : Lit := .string n
def pE (e : Fe) : Lit × DataW Nat := (kN e.f.n, dE e)
theorem isKN (n : Bs) : WideAt.IsKeyLit (kN n) := by trivial
theorem kN_inj {m n : Bs} (h : kN m = kN n) : m = n := by injection h
def lkE (E : List Fe) (n : Bs) : Option Fe := E.find? fun e => decide (e.f.n = n)
def lookE (E : List Fe) (n : Bs) : Fe := (lkE E n).getD ⟨⟨n, [], 0⟩, none, 0⟩
def insE (e : Fe) : List Fe → List Fe
  | [] => [e]
  | x :: r => if e.f.n < x.f.n then e :: x :: r else x :: insE e r
def delE (n : Bs) (E : List Fe) : List Fe := E.filter fun x => !decide (x.f.n = n)
def putE (e : Fe) (E : List Fe) : List Fe := insE e (delE e.f.n E)
theorem insE_perm (e : Fe) : ∀ E : List Fe, (insE e E).Perm (e :: E)
  | [] => List.Perm.refl _
  | x :: r => by
    unfold insE
    split
    · exact List.Perm.refl _
    · exact ((insE_perm e r).cons x).trans (List.Perm.swap e x r)
theorem putE_perm (e : Fe) (E : List Fe) : (putE e E).Perm (e :: delE e.f.n E) := insE_perm e _
theorem map_insE (e : Fe) : ∀ E : List Fe, (insE e E).map Fe.f = ins e.f (E.map Fe.f)
  | [] => rfl
  | x :: r => by
    unfold insE
    show _ = ins e.f (x.f :: r.map Fe.f)
    rw [ins]
    split
    · rfl
    · rw [List.map_cons, map_insE e r]
theorem map_delE (n : Bs) (E : List Fe) : (delE n E).map Fe.f = del n (E.map Fe.f) := by
  unfold delE del
  rw [List.filter_map]
  rfl
theorem map_putE (e : Fe) (E : List Fe) : (putE e E).map Fe.f = put e.f (E.map Fe.f) := by
  unfold putE put
  rw [map_insE, map_delE]
theorem lk_map (E : List Fe) (n : Bs) : lk (E.map Fe.f) n = (lkE E n).map Fe.f := by
  unfold lk lkE
  rw [List.find?_map]
  rfl
theorem lkE_some {E : List Fe} {n : Bs} {e : Fe} (h : lkE E n = some e) : e ∈ E ∧ e.f.n = n := ⟨List.mem_of_find?_eq_some h, by have := List.find?_some h; simpa using this⟩
theorem lkE_none {E : List Fe} {n : Bs} : lkE E n = none ↔ ∀ x ∈ E, x.f.n ≠ n := by
  unfold lkE
  rw [List.find?_eq_none]
  simp
theorem look_f (E : List Fe) (n : Bs) : (lookE E n).f = ⟨n, oldB (E.map Fe.f) n, oldL (E.map Fe.f) n⟩ := by
  unfold lookE oldB oldL
  rw [lk_map]
  cases h : lkE E n with
  | none => rfl
  | some e =>
    have := (lkE_some h).2
    show e.f = ⟨n, e.f.b, e.f.l⟩
    rw [← this]
theorem mem_delE {x : Fe} {n : Bs} {E : List Fe} : x ∈ delE n E ↔ x ∈ E ∧ x.f.n ≠ n := by
  rw [delE, List.mem_filter]
  simp
theorem mem_putE {e x : Fe} {E : List Fe} : x ∈ putE e E ↔ x = e ∨ (x ∈ E ∧ x.f.n ≠ e.f.n) := by
  rw [(putE_perm e E).mem_iff, List.mem_cons, mem_delE]

/-! ### The map -/
/-- Block b is a map that holds just these files. -/
def OwnF (w : World) (b : Nat) (E : List Fe) : Prop :=
  ∃ es : List (Lit × DataW Nat), es.Perm (E.map pE) ∧ w.ownsMap Tryz.prog 9 fileR b E.length (.map es)
theorem keyS : Keyed Tryz.prog 9 := string_keyed Tryz.underlying9
theorem keyOfS {n : Bs} (h : n.length ≤ 100000) : keyOf Tryz.prog 9 (sV n) = some (kN n) :=
  keyOf_string_mk (s := ⟨n.toArray⟩) Tryz.underlying9 (by show n.toArray.size ≤ maxLen; unfold maxLen; simp; omega)
theorem ownF_tight {w : World} {n b : Nat} {es : List (Lit × DataW Nat)} (h : w.ownsMap Tryz.prog 9 fileR b n (.map es)) : w.ownsMap Tryz.prog 9 fileR b es.length (.map es) := by
  obtain ⟨xs, clock, hb, F, -, hD⟩ := h
  refine ⟨xs, clock, hb, F, ?_, hD⟩
  have := congrArg Maps.size hD
  simp only [Maps.size, length_sorted, List.length_map, Array.length_toList] at this
  omega
theorem ownF_of {w : World} {n b : Nat} {es : List (Lit × DataW Nat)} {E : List Fe} (h : w.ownsMap Tryz.prog 9 fileR b n (.map es)) (hp : es.Perm (E.map pE)) : OwnF w b E := by
  refine ⟨es, hp, ?_⟩
  have e := ownF_tight h
  have := hp.length_eq
  rw [List.length_map] at this
  rwa [this] at e
theorem OwnF.kept {w w' : World} {row : Option Nat} {b : Nat} {E : List Fe} (h : OwnF w b E) (hg : w.grownBy w' row) (hne : some b ≠ row) : OwnF w' b E := by
  obtain ⟨es, hp, ho⟩ := h
  exact ⟨es, hp, ho.kept hg hne⟩
theorem OwnF.lt {w : World} {b : Nat} {E : List Fe} (h : OwnF w b E) : b < w.heap.size := by obtain ⟨es, hp, ho⟩ := h; exact ho.lt
theorem OwnF.same {w w' : World} {b : Nat} {E : List Fe} (h : OwnF w b E) (hb : w'.heap[b]? = w.heap[b]?) : OwnF w' b E := by
  obtain ⟨es, hp, xs, clock, hx, F, hs, hD⟩ := h
  exact ⟨es, hp, xs, clock, hb.trans hx, F, hs, hD⟩
theorem ownF_made (w : World) : OwnF (w.alloc (.map #[] 0)) w.heap.size [] := ⟨[], by simp, World.ownsMap_made w _ _ _⟩
theorem zeroF (w : World) : (zeroValue 79).run Tryz.prog w = .ok (.agg #[.slice none 0 0, .int .i64 0]) w := by kernel_rfl
theorem keysF_apart {w : World} {n b : Nat} {es : List (Lit × DataW Nat)} (h : w.ownsMap Tryz.prog 9 fileR b n (.map es)) : es.Pairwise (fun p q => p.1 ≠ q.1) := by
  obtain ⟨es', e, hp⟩ := h.tidy keyS
  cases e
  exact hp
theorem names_apart {es : List (Lit × DataW Nat)} {E : List Fe} (hp : es.Perm (E.map pE)) (ha : es.Pairwise (fun p q => p.1 ≠ q.1)) : E.Pairwise fun x y => x.f.n ≠ y.f.n := by
  have h1 := (hp.pairwise_iff (fun {a b} (h : a.1 ≠ b.1) => h.symm)).1 ha
  exact (List.pairwise_map.1 h1).imp fun {a b} hab e => hab (by show kN a.f.n = kN b.f.n; rw [e])
theorem OwnF.apart {w : World} {b : Nat} {E : List Fe} (h : OwnF w b E) : E.Pairwise fun x y => x.f.n ≠ y.f.n := by
  obtain ⟨es, hp, ho⟩ := h
  exact names_apart hp (keysF_apart ho)
theorem hasF {es : List (Lit × DataW Nat)} {E : List Fe} (hp : es.Perm (E.map pE)) (n : Bs) : Maps.has (.map es) (kN n) = (lkE E n).isSome := by
  rw [has_eq]
  cases h : lkE E n with
  | some e =>
    obtain ⟨h1, h2⟩ := lkE_some h
    refine List.any_eq_true.2 ⟨pE e, hp.mem_iff.2 (List.mem_map.2 ⟨e, h1, rfl⟩), ?_⟩
    show (kN e.f.n).sameKey (kN n) = true
    rw [h2]
    exact WideAt.sameKey_self (isKN n)
  | none =>
    refine Bool.eq_false_iff.2 fun hany => ?_
    obtain ⟨q, hq, hs⟩ := List.any_eq_true.1 hany
    have e := (WideAt.sameKey_iff (isKN n)).1 hs
    obtain ⟨s, hs', he⟩ := List.mem_map.1 (hp.mem_iff.1 hq)
    rw [← he] at e
    exact lkE_none.1 h s hs' (kN_inj e)
theorem atF {es : List (Lit × DataW Nat)} {E : List Fe} (hp : es.Perm (E.map pE)) (ha : es.Pairwise (fun p q => p.1 ≠ q.1)) (n : Bs) : (DataW.map es).atKey (kN n) (dE ⟨⟨n, [], 0⟩, none, 0⟩) = dE (lookE E n) := by
  unfold lookE
  cases h : lkE E n with
  | some e =>
    obtain ⟨h1, h2⟩ := lkE_some h
    refine WideAt.atKey_mem _ (isKN n) ha (hp.mem_iff.2 (List.mem_map.2 ⟨e, h1, ?_⟩))
    show (kN e.f.n, dE e) = _
    rw [h2]
    rfl
  | none => exact Maps.atKey_of_not_has (by rw [hasF hp, h]; rfl) _
theorem look_ok {E : List Fe} (h : ∀ e ∈ E, e.Ok) (n : Bs) : (lookE E n).Ok := by
  unfold lookE
  cases hk : lkE E n with
  | none => exact .inl rfl
  | some e => exact h e (lkE_some hk).1
theorem look_run {w : World} {b : Nat} {E : List Fe} (h : OwnF w b E) (hk : ∀ e ∈ E, e.Ok) {n : Bs} (hn : n.length ≤ 100000) :
    (Instr.lookup 62 (.map (some b)) (sV n) false).run Tryz.prog w = .ok (lookE E n).val w := by
  obtain ⟨es, hp, ho⟩ := h
  obtain ⟨v, ps, hrun, hv⟩ := ho.lookup keyS Tryz.underlying62 (zeroF w) (fileR_val (e := ⟨⟨n, [], 0⟩, none, 0⟩) (.inl rfl)) (keyOfS hn)
  rw [atF hp (keysF_apart ho)] at hv
  rw [hrun, fileR_inv (look_ok hk n) hv]
theorem look_ok_run {w : World} {b : Nat} {E : List Fe} (h : OwnF w b E) (hk : ∀ e ∈ E, e.Ok) {n : Bs} (hn : n.length ≤ 100000) :
    (Instr.lookup 62 (.map (some b)) (sV n) true).run Tryz.prog w = .ok (.tuple #[(lookE E n).val, .bool (lkE E n).isSome]) w := by
  obtain ⟨es, hp, ho⟩ := h
  obtain ⟨v, ps, hrun, hv⟩ := ho.look_ok keyS Tryz.underlying62 (zeroF w) (fileR_val (e := ⟨⟨n, [], 0⟩, none, 0⟩) (.inl rfl)) (keyOfS hn)
  rw [atF hp (keysF_apart ho)] at hv
  rw [hrun, fileR_inv (look_ok hk n) hv, hasF hp]
theorem strikeF {es : List (Lit × DataW Nat)} {E : List Fe} (hp : es.Perm (E.map pE)) (n : Bs) : (es.filter fun p => !p.1.sameKey (kN n)).Perm ((delE n E).map pE) := by
  refine (hp.filter _).trans ?_
  rw [List.filter_map]
  refine List.Perm.of_eq (congrArg (List.map pE) (List.filter_congr fun s _ => ?_))
  show (!(kN s.f.n).sameKey (kN n)) = _
  by_cases he : s.f.n = n
  · rw [he, WideAt.sameKey_self (isKN n)]; simp
  · rw [Maps.sameKey_ne (fun e => he (kN_inj e))]; simp [he]
theorem del_run {w : World} {b : Nat} {E : List Fe} (h : OwnF w b E) {n : Bs} (hn : n.length ≤ 100000) (ty : TypeId) :
    ∃ w', (Builtin.delete_ #[62, 9] ty #[.map (some b), sV n]).run Tryz.prog w = .ok (.tuple #[]) w' ∧ OwnF w' b (delE n E) ∧ w.grownBy w' (some b) ∧ w'.heap.size = w.heap.size := by
  obtain ⟨es, hp, ho⟩ := h
  obtain ⟨w', hrun, hown, ht⟩ := ho.drop keyS Tryz.underlying62 (keyOfS hn) ty
  refine ⟨w', hrun, ownF_of hown (strikeF hp n), ht.grown, ?_⟩
  obtain ⟨_, _, _, _, _, rfl⟩ := ht
  simp [Go.ChangeMaps.setBlock]
theorem put_run {w : World} {b : Nat} {E : List Fe} (h : OwnF w b E) (hl : E.length ≤ 1000000) {e : Fe} (ok : e.Ok) (hn : e.f.n.length ≤ 100000) :
    ∃ w', (Instr.mapUpdate 62 (.map (some b)) (sV e.f.n) e.val).run Tryz.prog w = .ok () w' ∧ OwnF w' b (putE e E) ∧ w.grownBy w' (some b) ∧ w'.heap.size = w.heap.size := by
  obtain ⟨es, hp, ho⟩ := h
  obtain ⟨w', hrun, hown, ht⟩ := ho.store keyS Tryz.underlying62 (by unfold maxLen; omega) (keyOfS hn) (fileR_val ok)
  refine ⟨w', hrun, ownF_of hown ((insert_perm _ _).trans ((List.Perm.cons _ (strikeF hp e.f.n)).trans ((putE_perm e E).map pE).symm)), ht.grown, ?_⟩
  obtain ⟨_, _, _, _, _, rfl⟩ := ht
  simp [Go.ChangeMaps.setBlock]
end Go.Proofs.YtfpmcomigolacaaGreatDoor.disk
set_option linter.unusedSimpArgs false
set_option linter.unusedVariables false
namespace Go.Proofs.YtfpmcomigolacaaGreatDoor.disk
open Go.ChangeShapes Go.WideShapes Go.ChangeAt Go.RowKit Go.Maps Go.WideMaps
open Go.Proofs.YtfpmcomigolacaaGreatDoor.words Go.Proofs.YtfpmcomigolacaaGreatDoor.opened Go.Proofs.YtfpmcomigolacaaGreatDoor.block

/-- Of what was there nothing has turned but blocks of S. -/
structure Turn (w w' : World) (S : Nat → Prop) : Prop where
  os : w'.os = w.os
  tape : w'.tape = w.tape
  output : w'.output = w.output
  size : w.heap.size ≤ w'.heap.size
  block : ∀ k, k < w.heap.size → ¬ S k → w'.heap[k]? = w.heap[k]?
theorem Turn.refl (w : World) (S : Nat → Prop) : Turn w w S := ⟨rfl, rfl, rfl, Nat.le_refl _, fun _ _ _ => rfl⟩
theorem Turn.wide {w w' : World} {S Q : Nat → Prop} (h : Turn w w' S) (hs : ∀ k, S k → Q k) : Turn w w' Q := ⟨h.os, h.tape, h.output, h.size, fun k hk hn => h.block k hk fun hS => hn (hs k hS)⟩
theorem Turn.trans {a b c : World} {S Q : Nat → Prop} (h : Turn a b S) (k : Turn b c Q) (hq : ∀ j, Q j → S j ∨ a.heap.size ≤ j) : Turn a c S :=
  ⟨k.os.trans h.os, k.tape.trans h.tape, k.output.trans h.output, Nat.le_trans h.size k.size, fun j hj hn =>
    (k.block j (Nat.lt_of_lt_of_le hj h.size) fun hQ => by
      rcases hq j hQ with h1 | h1
      · exact hn h1
      · omega).trans (h.block j hj hn)⟩
theorem turn_below {w w' : World} (h : Below w.heap.size w w') (S : Nat → Prop) : Turn w w' S := ⟨h.os, h.tape, h.output, h.size, fun k hk _ => h.block k hk⟩
theorem turn_grown {w w' : World} {row : Option Nat} (h : w.grownBy w' row) {S : Nat → Prop} (hs : ∀ k, row = some k → S k) : Turn w w' S :=
  ⟨h.os, h.tape, h.output, h.size, fun k hk hn => h.block k hk fun e => hn (hs k e.symm)⟩
theorem Turn.below {w w' : World} {S : Nat → Prop} (h : Turn w w' S) {B : Nat} (hB : B ≤ w.heap.size) (hs : ∀ k, S k → B ≤ k) : Below B w w' :=
  ⟨h.os, h.tape, h.output, h.size, fun i hi => h.block i (by omega) fun hS => by have := hs i hS; omega⟩
theorem Whole.turn {w w' : World} {g : Nat} {t : TypeId} {cs : Array Value} {S : Nat → Prop} (h : Whole w g t cs) (ht : Turn w w' S) (hg : ¬ S g) : Whole w' g t cs := (ht.block g h.inside hg).trans h

def RowE (w : World) (e : Fe) : Prop := w.ownsRow 0 5 1 e.row e.f.b.length (bsC e.f.b) ∧ (e.f.b = [] → e.A = none)
theorem RowE.ok {w : World} {e : Fe} (h : RowE w e) : e.Ok := by
  rcases h.1.2 with ⟨hv, -⟩ | ⟨g, cap, cur, hv, -⟩
  · injection hv with h1
    exact .inl h1
  · injection hv with h1
    exact .inr ⟨g, h1⟩
theorem RowE.lt {w : World} {e : Fe} (h : RowE w e) {a : Addr} (ha : e.A = some a) : a.block < w.heap.size := by
  have := World.ownsRow.lt h.1 a.block (by show Value.ownBlock (.slice e.A _ _) = _; rw [ha]; rfl)
  exact this.2
theorem RowE.same {w w' : World} {e : Fe} (h : RowE w e) (hb : ∀ a, e.A = some a → w'.heap[a.block]? = w.heap[a.block]?) : RowE w' e := by
  refine ⟨⟨h.1.1, ?_⟩, h.2⟩
  rcases h.1.2 with hn | ⟨g, cap, cur, hv, hg, hh, rest⟩
  · exact .inl hn
  · refine .inr ⟨g, cap, cur, hv, hg, ?_, rest⟩
    injection hv with h1
    exact (hb _ h1).trans hh
theorem RowE.cap {w : World} {e : Fe} (h : RowE w e) : e.f.b.length ≤ e.c ∧ e.c ≤ maxLen := by
  rcases h.1.2 with ⟨hv, hn⟩ | ⟨g, cap, cur, hv, -, -, h1, h2, -⟩
  · injection hv with h1 h2 h3
    omega
  · injection hv with h3 h4 h5
    omega

structure DiskE (w : World) (g mb : Nat) (D : Dk) (E : List Fe) : Prop where
  fs : E.map Fe.f = D.F
  cells : Whole w g 64 #[.map (some mb), .bool D.off, .int .i64 D.left]
  own : OwnF w mb E
  rows : ∀ e ∈ E, RowE w e
  apart : E.Pairwise fun x y => ∀ a b, x.A = some a → y.A = some b → a.block ≠ b.block
  gm : g ≠ mb
  far : ∀ e ∈ E, ∀ a, e.A = some a → a.block ≠ g ∧ a.block ≠ mb
/-- The blocks that a disk lies in. -/
def blk (g mb : Nat) (E : List Fe) (k : Nat) : Prop := k = g ∨ k = mb ∨ ∃ e ∈ E, ∃ a, e.A = some a ∧ k = a.block
def DiskP (w : World) (S : Nat → Prop) (g : Nat) (D : Dk) : Prop := ∃ mb E, DiskE w g mb D E ∧ ∀ k, blk g mb E k → S k
theorem DiskE.ok {w : World} {g mb : Nat} {D : Dk} {E : List Fe} (h : DiskE w g mb D E) : ∀ e ∈ E, e.Ok := fun e he => (h.rows e he).ok
theorem DiskE.same {w w' : World} {g mb : Nat} {D : Dk} {E : List Fe} (h : DiskE w g mb D E) (hb : ∀ k, blk g mb E k → w'.heap[k]? = w.heap[k]?) : DiskE w' g mb D E :=
  ⟨h.fs, (hb g (.inl rfl)).trans h.cells, h.own.same (hb mb (.inr (.inl rfl))), fun e he => (h.rows e he).same fun a ha => hb a.block (.inr (.inr ⟨e, he, a, ha, rfl⟩)), h.apart, h.gm, h.far⟩
theorem DiskE.inside {w : World} {g mb : Nat} {D : Dk} {E : List Fe} (h : DiskE w g mb D E) {k : Nat} (hk : blk g mb E k) : k < w.heap.size := by
  rcases hk with rfl | rfl | ⟨e, he, a, ha, rfl⟩
  · exact h.cells.inside
  · exact h.own.lt
  · exact (h.rows e he).lt ha
theorem DiskE.turn {w w' : World} {g mb : Nat} {D : Dk} {E : List Fe} {S : Nat → Prop} (h : DiskE w g mb D E) (ht : Turn w w' S) (hs : ∀ k, blk g mb E k → ¬ S k) : DiskE w' g mb D E :=
  h.same fun k hk => ht.block k (h.inside hk) (hs k hk)
theorem DiskE.below {w w' : World} {g mb : Nat} {D : Dk} {E : List Fe} (h : DiskE w g mb D E) (hb : Below w.heap.size w w') : DiskE w' g mb D E := h.same fun k hk => hb.block k (h.inside hk)
theorem DiskP.turn {w w' : World} {g : Nat} {D : Dk} {S Q : Nat → Prop} (h : DiskP w Q g D) (ht : Turn w w' S) (hs : ∀ k, Q k → ¬ S k) : DiskP w' Q g D := by
  obtain ⟨mb, E, h1, h2⟩ := h
  exact ⟨mb, E, h1.turn ht fun k hk => hs k (h2 k hk), h2⟩
theorem DiskP.below {w w' : World} {g : Nat} {D : Dk} {S : Nat → Prop} (h : DiskP w S g D) (hb : Below w.heap.size w w') : DiskP w' S g D := by
  obtain ⟨mb, E, h1, h2⟩ := h
  exact ⟨mb, E, h1.below hb, h2⟩
theorem DiskP.wide {w : World} {g : Nat} {D : Dk} {S Q : Nat → Prop} (h : DiskP w S g D) (hs : ∀ k, S k → Q k) : DiskP w Q g D := by
  obtain ⟨mb, E, h1, h2⟩ := h
  exact ⟨mb, E, h1, fun k hk => hs k (h2 k hk)⟩
theorem DiskP.at {w : World} {g : Nat} {D : Dk} {S : Nat → Prop} (h : DiskP w S g D) : S g ∧ g < w.heap.size := by
  obtain ⟨mb, E, h1, h2⟩ := h
  exact ⟨h2 g (.inl rfl), h1.cells.inside⟩
/-- What is done to a disk writes in the disk's blocks, and in new ones. -/
def More (w : World) (S : Nat → Prop) : Nat → Prop := fun k => S k ∨ w.heap.size ≤ k
/-- The cells of the disk itself are written. -/
theorem DiskE.write {w w' : World} {g mb : Nat} {D : Dk} {E : List Fe} (h : DiskE w g mb D E) (D' : Dk) (hF : D'.F = D.F) (hc : Whole w' g 64 #[.map (some mb), .bool D'.off, .int .i64 D'.left]) (hg : w.grownBy w' (some g)) : DiskE w' g mb D' E := by
  have ht : ∀ k, k ≠ g → blk g mb E k → w'.heap[k]? = w.heap[k]? := fun k hk hb => hg.block k (h.inside hb) (by simpa using hk)
  exact ⟨h.fs.trans hF.symm, hc, h.own.same (ht mb h.gm.symm (.inr (.inl rfl))), fun e he => (h.rows e he).same fun a ha => ht a.block (h.far e he a ha).1 (.inr (.inr ⟨e, he, a, ha, rfl⟩)), h.apart, h.gm, h.far⟩
/-- A file is put into the map; its row is one that no other file has. -/
theorem DiskE.put {w w' : World} {g mb : Nat} {D : Dk} {E : List Fe} {e : Fe} (h : DiskE w g mb D E) (ho : OwnF w' mb (putE e E)) (hg : w.grownBy w' (some mb)) (hr : RowE w e) (hn : ∀ x ∈ E, x.f.n ≠ e.f.n → ∀ a b, x.A = some a → e.A = some b → a.block ≠ b.block) (hf : ∀ a, e.A = some a → a.block ≠ g ∧ a.block ≠ mb) :
    DiskE w' g mb { D with F := put e.f D.F } (putE e E) := by
  have ht : ∀ k, k < w.heap.size → k ≠ mb → w'.heap[k]? = w.heap[k]? := fun k hk hb => hg.block k hk (by simpa using hb)
  refine ⟨by rw [map_putE, h.fs], (ht g h.cells.inside h.gm).trans h.cells, ho, fun x hx => ?_, ?_, h.gm, fun x hx => ?_⟩
  · rcases mem_putE.1 hx with rfl | ⟨hx, _⟩
    · exact hr.same fun a ha => ht a.block (hr.lt ha) (hf a ha).2
    · exact (h.rows x hx).same fun a ha => ht a.block ((h.rows x hx).lt ha) (h.far x hx a ha).2
  · refine ((putE_perm e E).pairwise_iff (fun {a b} hab x y hx hy => (hab y x hy hx).symm)).2 (List.pairwise_cons.2 ⟨fun x hx => ?_, h.apart.filter _⟩)
    obtain ⟨hx1, hx2⟩ := mem_delE.1 hx
    exact fun a b ha hb => (hn x hx1 hx2 b a hb ha).symm
  · rcases mem_putE.1 hx with rfl | ⟨hx, _⟩
    · exact hf
    · exact h.far x hx
theorem DiskE.del {w w' : World} {g mb : Nat} {D : Dk} {E : List Fe} {n : Bs} (h : DiskE w g mb D E) (ho : OwnF w' mb (delE n E)) (hg : w.grownBy w' (some mb)) : DiskE w' g mb { D with F := del n D.F } (delE n E) := by
  have ht : ∀ k, k < w.heap.size → k ≠ mb → w'.heap[k]? = w.heap[k]? := fun k hk hb => hg.block k hk (by simpa using hb)
  refine ⟨by rw [map_delE, h.fs], (ht g h.cells.inside h.gm).trans h.cells, ho, fun x hx => ?_, h.apart.filter _, h.gm, fun x hx => h.far x (mem_delE.1 hx).1⟩
  obtain ⟨hx, -⟩ := mem_delE.1 hx
  exact (h.rows x hx).same fun a ha => ht a.block ((h.rows x hx).lt ha) (h.far x hx a ha).2
theorem blk_put {g mb : Nat} {E : List Fe} {e : Fe} {k : Nat} (h : blk g mb (putE e E) k) : blk g mb E k ∨ ∃ a, e.A = some a ∧ k = a.block := by
  rcases h with rfl | rfl | ⟨x, hx, a, ha, rfl⟩
  · exact .inl (.inl rfl)
  · exact .inl (.inr (.inl rfl))
  · rcases mem_putE.1 hx with rfl | ⟨hx, _⟩
    · exact .inr ⟨a, ha, rfl⟩
    · exact .inl (.inr (.inr ⟨x, hx, a, ha, rfl⟩))
theorem blk_del {g mb : Nat} {E : List Fe} {n : Bs} {k : Nat} (h : blk g mb (delE n E) k) : blk g mb E k := by
  rcases h with rfl | rfl | ⟨x, hx, a, ha, rfl⟩
  · exact .inl rfl
  · exact .inr (.inl rfl)
  · exact .inr (.inr ⟨x, (mem_delE.1 hx).1, a, ha, rfl⟩)
theorem DiskE.len {w : World} {g mb : Nat} {D : Dk} {E : List Fe} (h : DiskE w g mb D E) : E.length = D.F.length := by rw [← h.fs, List.length_map]
end Go.Proofs.YtfpmcomigolacaaGreatDoor.disk
