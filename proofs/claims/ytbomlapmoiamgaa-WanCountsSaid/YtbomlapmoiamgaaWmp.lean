/-
  A map from letters to how often each was sent.
-/
import Derived.Test.YtbomlapmoiamgaaWm1
import Derived.Test.YtbomlapmoiamgaaWop
import Derived.Test.YtbomlapmoiamgaaWfr
import Derived.Maps.Keyed
import Derived.Maps.Own
import Derived.Maps.OwnOps
import Derived.Maps.OwnSet
import Derived.DeepKeys4
import Derived.WideKeyEntry
set_option linter.unusedSimpArgs false
set_option linter.unusedVariables false
namespace Go.Proofs.Ytbomlapmoiamgaa.wan
open Go.ChangeShapes Go.WideShapes Go.ChangeAt Go.RowKit Go.Maps Go.WideMaps
open Go.Proofs.Ytbomlapmoiamgaa.opened Go.Proofs.Ytbomlapmoiamgaa.block Go.Proofs.Ytbomlapmoiamgaa.words Go.Proofs.Ytbomlapmoiamgaa.region
set_option maxRecDepth 100000
theorem laidOutL : laidOutB Try.prog = true := by kernel_rfl
theorem rowL : 36 < Try.prog.types.size := of_decide_eq_true (by kernel_rfl)
theorem wideL : (match Try.prog.underlying 36 with | some (.array _ _) | some (.struct _) => true | _ => false) = true := by kernel_rfl
theorem lawL : KeyLaw Try.prog 36 := deep_law_laid laidOutL (m := 3) (by omega) rowL (by kernel_rfl) wideL
theorem keyL : Keyed Try.prog 36 := Keyed.of_law lawL
theorem cellsL3 : Try.prog.cellsOf 36 = 3 := by kernel_rfl
theorem cellsLI : Try.prog.cellsOf 3 = 1 := by kernel_rfl
theorem cellsLS : Try.prog.cellsOf 9 = 1 := by kernel_rfl
theorem deepL : Try.prog.keyTypeAt (Try.prog.types.size + 1) 36 = true := by kernel_rfl
/-- A letter that can be told. -/
def Lt.In (l : Lt) : Prop := IntIn l.f ∧ IntIn l.t ∧ l.s.length ≤ 140737488351232
def klL (l : Lt) : List Lit := [.int .i64 l.f, .int .i64 l.t, .string l.s]
def kL (l : Lt) : Lit := .string (keyBytes (klL l))
theorem wf_in {n : Int} (h : IntIn n) : (Lit.int .i64 n).wf = true := WalkArith.wf_i64 ⟨h.1, h.2⟩
theorem keyLits_letter (l : Lt) (i : l.In) (n : Nat) : Try.prog.keyLits (n + 2) 36 [.int .i64 l.f, .int .i64 l.t, sV l.s] = some (klL l) := by
  have w1 := wf_in i.1
  have w2 := wf_in i.2.1
  have w3 : l.s.toArray.size ≤ maxLen := by have := i.2.2; unfold maxLen; simp; omega
  have w4 : (⟨l.s.toArray⟩ : ByteArray).size ≤ maxLen := w3
  simp [Program.keyLits, Try.underlying36, Try.underlying3, Try.underlying9, w1, w2, w4, cellsL3, cellsLI, cellsLS, klL]
theorem keyOf_letter (l : Lt) (i : l.In) : keyOf Try.prog 36 l.val = some (kL l) := by
  have hn : ∃ n, Try.prog.types.size + 1 = n + 2 := ⟨Try.prog.types.size - 1, by have := rowL; omega⟩
  obtain ⟨n, hn⟩ := hn
  have := keyLits_letter l i n
  rw [← hn] at this
  unfold keyOf
  simp only [Try.underlying36]
  rw [show (l.val : Value).cells.toList = [.int .i64 l.f, .int .i64 l.t, sV l.s] from rfl, this, if_pos]
  · rfl
  · rw [show Try.prog.keyType 36 = true from deepL]
    simp [Value.formed, Try.underlying36, cellsL3]
theorem isKL (l : Lt) : WideAt.IsKeyLit (kL l) := by simp [kL, WideAt.IsKeyLit]
theorem kL_inj {s t : Lt} (i : s.In) (j : t.In) (h : kL s = kL t) : s = t := by
  have e := keyL.inj (keyOf_letter s i) ((keyOf_letter t j).trans (congrArg some h.symm))
  cases s; cases t
  simp only [Value.agg.injEq] at e
  simp at e
  obtain ⟨e1, e2, e3⟩ := e
  subst e1 e2 e3
  rfl
def litC (k : Nat) : DataW Nat := .lit (.int .i64 (k : Int))
/-- What the map holds, of letters that were sent. -/
structure EntL (es : List (Lit × DataW Nat)) (S : List Lt) : Prop where
  inn : ∀ l ∈ S, l.In
  only : ∀ p ∈ es, ∃ l k, p = (kL l, litC k) ∧ l ∈ S ∧ 1 ≤ k ∧ k ≤ S.length
  all : ∀ l ∈ S, ∃ k, (kL l, litC k) ∈ es
  len : es.length ≤ S.length
/-- Block b is a map that holds how often each of these letters was sent. -/
def OwnS (w : World) (b : Nat) (S : List Lt) : Prop :=
  ∃ es : List (Lit × DataW Nat), EntL es S ∧ w.ownsMap Try.prog 36 (plainElem Try.prog 3) b es.length (.map es)
theorem ownS_tight {w : World} {n b : Nat} {es : List (Lit × DataW Nat)} (h : w.ownsMap Try.prog 36 (plainElem Try.prog 3) b n (.map es)) : w.ownsMap Try.prog 36 (plainElem Try.prog 3) b es.length (.map es) := by
  obtain ⟨xs, clock, hb, F, -, hD⟩ := h
  refine ⟨xs, clock, hb, F, ?_, hD⟩
  have := congrArg Maps.size hD
  simp only [Maps.size, length_sorted, List.length_map, Array.length_toList] at this
  omega
theorem OwnS.lt {w : World} {b : Nat} {S : List Lt} (h : OwnS w b S) : b < w.heap.size := by obtain ⟨es, hp, ho⟩ := h; exact ho.lt
theorem OwnS.same {w w' : World} {b : Nat} {S : List Lt} (h : OwnS w b S) (hb : w'.heap[b]? = w.heap[b]?) : OwnS w' b S := by
  obtain ⟨es, hp, xs, clock, hx, F, hs, hD⟩ := h
  exact ⟨es, hp, xs, clock, hb.trans hx, F, hs, hD⟩
theorem OwnS.below {w w' : World} {b : Nat} {S : List Lt} (h : OwnS w b S) (hb : Below w.heap.size w w') : OwnS w' b S := h.same (hb.block b h.lt)
theorem OwnS.shape {w : World} {b : Nat} {S : List Lt} (h : OwnS w b S) : ∃ xs c, w.heap[b]? = some (.map xs c) := by
  obtain ⟨es, hp, xs, clock, hx, F, hs, hD⟩ := h
  exact ⟨xs, clock, hx⟩
theorem OwnS.inn {w : World} {b : Nat} {S : List Lt} (h : OwnS w b S) : ∀ l ∈ S, l.In := by obtain ⟨es, hp, -⟩ := h; exact hp.inn
theorem ownS_made (w : World) : OwnS (w.alloc (.map #[] 0)) w.heap.size [] := ⟨[], ⟨by simp, by simp, by simp, by simp⟩, World.ownsMap_made w _ _ _⟩
theorem zeroS (w : World) : (zeroValue 3).run Try.prog w = .ok (.int .i64 0) w := by kernel_rfl
theorem plainC {k : Nat} (h : k ≤ 1000000) : plainElem (H := Nat) Try.prog 3 (.int .i64 (k : Int)) = some (litC k, []) := plainElem_int Try.underlying3 (wf_in ⟨by omega, by omega⟩)
theorem keysS_apart {w : World} {n b : Nat} {es : List (Lit × DataW Nat)} (h : w.ownsMap Try.prog 36 (plainElem Try.prog 3) b n (.map es)) : es.Pairwise (fun p q => p.1 ≠ q.1) := by
  obtain ⟨es', e, hp⟩ := h.tidy keyL
  cases e
  exact hp
/-- What a lookup tells: 0 just where the letter was not sent. -/
theorem atS {es : List (Lit × DataW Nat)} {S : List Lt} (hp : EntL es S) (ha : es.Pairwise (fun p q => p.1 ≠ q.1)) {l : Lt} (i : l.In) : ∃ k : Nat, (DataW.map es).atKey (kL l) (litC 0) = litC k ∧ (k = 0 ↔ l ∉ S) ∧ k ≤ S.length := by
  by_cases hc : l ∈ S
  · obtain ⟨k, hk⟩ := hp.all l hc
    obtain ⟨l', k', e, -, h1, h2⟩ := hp.only _ hk
    injection e with e1 e2
    have e3 : k = k' := by
      unfold litC at e2
      injection e2 with e2
      injection e2 with _ e2
      omega
    subst e3
    exact ⟨k, WideAt.atKey_mem _ (isKL l) ha hk, ⟨fun h => by omega, fun h => absurd hc h⟩, h2⟩
  · refine ⟨0, Maps.atKey_of_not_has ?_ _, ⟨fun _ => hc, fun _ => rfl⟩, Nat.zero_le _⟩
    rw [has_eq]
    refine Bool.eq_false_iff.2 fun hany => hc ?_
    obtain ⟨q, hq, hs⟩ := List.any_eq_true.1 hany
    have e := (WideAt.sameKey_iff (isKL l)).1 hs
    obtain ⟨l', k, rfl, hl, -⟩ := hp.only q hq
    rwa [← kL_inj (hp.inn l' hl) i e]
theorem lookS_run {w : World} {b : Nat} {S : List Lt} (h : OwnS w b S) (l : Lt) (i : l.In) :
    ∃ k : Nat, (Instr.lookup 54 (.map (some b)) l.val false).run Try.prog w = .ok (.int .i64 (k : Int)) w ∧ (k = 0 ↔ l ∉ S) ∧ k ≤ S.length := by
  obtain ⟨es, hp, ho⟩ := h
  obtain ⟨c, hrun, hat, -⟩ := ho.lookup_int keyL Try.underlying54 Try.underlying3 (zeroS w) (keyOf_letter l i)
  obtain ⟨k, hk, h1, h2⟩ := atS hp (keysS_apart ho) i
  refine ⟨k, ?_, h1, h2⟩
  rw [show (DataW.lit (Lit.int .i64 0) : DataW Nat) = litC 0 from rfl, hk] at hat
  have : c = (k : Int) := by
    unfold litC at hat
    injection hat with hat
    injection hat with _ hat
    exact hat.symm
  rw [← this]
  exact hrun
theorem EntL.put {es : List (Lit × DataW Nat)} {S : List Lt} (hp : EntL es S) {l : Lt} (i : l.In) {k : Nat} (h1 : 1 ≤ k) (h2 : k ≤ S.length + 1) {es' : List (Lit × DataW Nat)} (he : es'.Perm ((kL l, litC k) :: es.filter fun p => !p.1.sameKey (kL l))) : EntL es' (l :: S) := by
  refine ⟨fun x hx => ?_, fun p h => ?_, fun x hx => ?_, ?_⟩
  · rcases List.mem_cons.1 hx with rfl | hx
    · exact i
    · exact hp.inn x hx
  · rcases List.mem_cons.1 (he.mem_iff.1 h) with rfl | h
    · exact ⟨l, k, rfl, List.mem_cons_self .., h1, by simpa using h2⟩
    · obtain ⟨l', k', rfl, a, b, c⟩ := hp.only p (List.mem_filter.1 h).1
      exact ⟨l', k', rfl, List.mem_cons_of_mem _ a, b, by simp; omega⟩
  · by_cases e : x = l
    · subst e
      exact ⟨k, he.mem_iff.2 (List.mem_cons_self ..)⟩
    · obtain ⟨k', hk'⟩ := hp.all x ((List.mem_cons.1 hx).resolve_left e)
      refine ⟨k', he.mem_iff.2 (List.mem_cons_of_mem _ (List.mem_filter.2 ⟨hk', ?_⟩))⟩
      show (!(kL x).sameKey (kL l)) = true
      rw [Maps.sameKey_ne (fun h => e (kL_inj (hp.inn x ((List.mem_cons.1 hx).resolve_left e)) i h))]
      rfl
  · rw [he.length_eq, List.length_cons, List.length_cons]
    have := List.length_filter_le (fun p : Lit × DataW Nat => !p.1.sameKey (kL l)) es
    have := hp.len
    omega
theorem goInt_inj {a b : Nat} (h : goInt a = goInt b) : a = b := by
  unfold goInt at h
  injection h with _ h
  exact Int.ofNat.inj h
/-- The place of m[k]++ is made: what it tells is what a lookup tells, and the map is as if that were stored. -/
theorem entry_told {H : Type} {P : Program} {w : World} {t k e : TypeId} {R : Value → Option (DataW H × List MemPlace)} {b : Nat} {es : Array MapEntry} {clock : Nat} (K : KeyLaw P k) (ht : P.underlying t = some (.map k e)) {z : Value} (hz : ∀ u : World, (zeroValue e).run P u = .ok z u) (hb : w.heap[b]? = some (.map es clock)) (F : WideElems.Fit P k R es clock)
    {key : Value} {kl : Lit} (hkey : keyOf P k key = some kl) :
    ∃ (v0 : Value) (st : Nat) (es1 : Array MapEntry) (c1 : Nat), (Instr.mapEntry t (.map (some b)) key).run P w = .ok (.tuple #[v0, goInt st]) (ChangeMaps.setBlock w b (.map es1 c1)) ∧
      (Instr.lookup t (.map (some b)) key false).run P w = .ok v0 w ∧ (Instr.mapUpdate t (.map (some b)) key v0).run P w = .ok () (ChangeMaps.setBlock w b (.map es1 c1)) := by
  rcases K.find w hkey es.toList F.keys with ⟨h1, h2⟩ | ⟨j, e0, h1, h2, h3⟩
  · refine ⟨z, clock, es.push ⟨key, z, clock⟩, clock + 1, ?_, ?_, ?_⟩
    · simp [Instr.mapEntry, run_underlying ht, MapKept.run_getObj_map hb, K.check w false hkey, h1, hz, MapKept.run_setObj_map _ hb, Result.andThen, ChangeMaps.setBlock]
    · simp [Instr.lookup, run_underlying ht, MapKept.run_getObj_map hb, K.check w _ hkey, h1, hz, Result.andThen]
    · simp [Instr.mapUpdate, run_underlying ht, MapKept.run_getObj_map hb, K.check w false hkey, h1, MapKept.run_setObj_map _ hb, Result.andThen, ChangeMaps.setBlock]
  · have hj : es[j]? = some e0 := by simpa using h2
    have hsame : ∀ v, v = e0.val → es.modify j (fun e => { e with key := key, val := v }) = es := by
      intro v hv
      apply Array.ext'
      rw [Array.toList_modify, ChangeMaps.modify_eq_set _ _ _ _ h2]
      have : ({ e0 with key := key, val := v } : MapEntry) = e0 := by rw [← h3, hv]
      rw [this]
      exact WideElems.set_self _ _ _ h2
    have hsame1 : es.modify j (fun e => { e with key := key }) = es := by
      apply Array.ext'
      rw [Array.toList_modify, ChangeMaps.modify_eq_set _ _ _ _ h2]
      have : ({ e0 with key := key } : MapEntry) = e0 := by rw [← h3]
      rw [this]
      exact WideElems.set_self _ _ _ h2
    refine ⟨e0.val, e0.born, es, clock, ?_, ?_, ?_⟩
    · simp [Instr.mapEntry, run_underlying ht, MapKept.run_getObj_map hb, K.check w false hkey, h1, hj, h3, K.stays w hkey, hsame1, MapKept.run_setObj_map _ hb, Result.andThen, ChangeMaps.setBlock]
    · simp [Instr.lookup, run_underlying ht, MapKept.run_getObj_map hb, K.check w _ hkey, h1, Result.andThen]
    · simp [Instr.mapUpdate, run_underlying ht, MapKept.run_getObj_map hb, K.check w false hkey, h1, hj, h3, K.stays w hkey, hsame, MapKept.run_setObj_map _ hb, Result.andThen, ChangeMaps.setBlock]
/-- What a lookup of the letter tells. -/
def LookL (w : World) (b : Nat) (l : Lt) (n : Nat) : Prop := ∃ o, w.heap[b]? = some o ∧ ∃ k : Nat, k ≤ n ∧ ∀ w2 : World, w2.heap[b]? = some o → (Instr.lookup 54 (.map (some b)) l.val false).run Try.prog w2 = .ok (.int .i64 (k : Int)) w2
theorem lookL_owns {w : World} {b n : Nat} {es : List (Lit × DataW Nat)} (ho : w.ownsMap Try.prog 36 (plainElem Try.prog 3) b n (.map es)) {l : Lt} (i : l.In) {k m : Nat} (hk : (DataW.map es).atKey (kL l) (litC 0) = litC k) (hm : k ≤ m) : LookL w b l m := by
  obtain ⟨xs, clock, hx, F, hs, hD⟩ := ho
  refine ⟨_, hx, k, hm, fun w2 h2 => ?_⟩
  have ho2 : w2.ownsMap Try.prog 36 (plainElem (H := Nat) Try.prog 3) b n (.map es) := ⟨xs, clock, h2, F, hs, hD⟩
  obtain ⟨c, hr, hat, -⟩ := ho2.lookup_int keyL Try.underlying54 Try.underlying3 (zeroS w2) (keyOf_letter l i)
  rw [show (DataW.lit (Lit.int .i64 0) : DataW Nat) = litC 0 from rfl, hk] at hat
  have : c = (k : Int) := by
    unfold litC at hat
    injection hat with hat
    injection hat with _ hat
    exact hat.symm
  rw [← this]
  exact hr
theorem LookL.same {w w' : World} {b n : Nat} {l : Lt} (h : LookL w b l n) (hb : w'.heap[b]? = w.heap[b]?) : LookL w' b l n := by
  obtain ⟨o, h1, h2⟩ := h
  exact ⟨o, hb.trans h1, h2⟩
/-- The place is made, and waits. -/
def HalfL (w : World) (b : Nat) (l : Lt) (S : List Lt) (st : Nat) : Prop :=
  ∃ es1 c1, w.heap[b]? = some (.map es1 c1) ∧ ∀ (w2 : World) (k : Nat), w2.heap[b]? = some (.map es1 c1) → 1 ≤ k → k ≤ S.length + 1 →
    ∃ es2 c2, (Instr.entryStore 54 (.map (some b)) (goInt st) (.int .i64 (k : Int))).run Try.prog w2 = .ok () (ChangeMaps.setBlock w2 b (.map es2 c2)) ∧ OwnS (ChangeMaps.setBlock w2 b (.map es2 c2)) b (l :: S)
theorem setB_grown (w : World) (b : Nat) (o : Obj) : w.grownBy (ChangeMaps.setBlock w b o) (some b) :=
  ⟨rfl, rfl, rfl, by simp [ChangeMaps.setBlock], fun i _ hi => by
    have : b ≠ i := fun e => hi (by rw [e])
    simp [ChangeMaps.setBlock, Array.getElem?_setIfInBounds, this]⟩
theorem setB_size (w : World) (b : Nat) (o : Obj) : (ChangeMaps.setBlock w b o).heap.size = w.heap.size := by simp [ChangeMaps.setBlock]
theorem setB_at {w : World} {b : Nat} (o : Obj) (h : b < w.heap.size) : (ChangeMaps.setBlock w b o).heap[b]? = some o := by simp [ChangeMaps.setBlock, h]
theorem lookL_of {w : World} {b : Nat} {S : List Lt} (h : OwnS w b S) (l : Lt) (i : l.In) : LookL w b l S.length := by
  obtain ⟨es, hp, ho⟩ := h
  obtain ⟨k, hk, -, h2⟩ := atS hp (keysS_apart ho) i
  exact lookL_owns ho i hk h2
/-- m[k]++ in its two halves: the place is made; then what is stored there is as if it were stored into the map that stood ahead of both. -/
theorem entryS_run {w : World} {b : Nat} {S : List Lt} (h : OwnS w b S) (l : Lt) (i : l.In) (hl : S.length ≤ 1000) :
    ∃ (v0 : Value) (st : Nat) (o : Obj), (Instr.mapEntry 54 (.map (some b)) l.val).run Try.prog w = .ok (.tuple #[v0, goInt st]) (ChangeMaps.setBlock w b o) ∧ HalfL (ChangeMaps.setBlock w b o) b l S st ∧ LookL (ChangeMaps.setBlock w b o) b l S.length := by
  obtain ⟨k0, hk0, -, hk1⟩ := lookS_run h l i
  obtain ⟨es, hp, ho⟩ := h
  obtain ⟨xs, clock, hb, F, hs, hD⟩ := id ho
  obtain ⟨v0, st, es1, c1, hrun, -, hst⟩ := WideElems.entry_then_store lawL Try.underlying54 (z := .int .i64 0) zeroS hb F (keyOf_letter l i)
  obtain ⟨v9, st9, es9, c9, hrun9, hlook9, hupd9⟩ := entry_told lawL Try.underlying54 (z := .int .i64 0) zeroS hb F (keyOf_letter l i)
  have hlt := ho.lt
  have e1 := hrun.symm.trans hrun9
  injection e1 with e2 e3
  injection e2 with e2
  have e4 : v0 = v9 ∧ goInt st = goInt st9 := by simpa using e2
  obtain ⟨rfl, e5⟩ := e4
  have e6 : v0 = .int .i64 (k0 : Int) := by
    have := hlook9.symm.trans hk0
    injection this
  subst e6
  rw [← e3] at hupd9
  refine ⟨_, st, _, hrun, ⟨es1, c1, setB_at _ hlt, fun w2 k hw2 h1 h2 => ?_⟩, ?_⟩
  · obtain ⟨es2, c2, hr2, hu⟩ := hst w2 (.int .i64 (k : Int)) hw2
    refine ⟨es2, c2, hr2, ?_⟩
    obtain ⟨w', hrun', hown, ht⟩ := ho.store keyL Try.underlying54 (by have := hp.len; unfold maxLen; omega) (keyOf_letter l i) (plainC (k := k) (by omega))
    rw [hu] at hrun'
    have hw' : ChangeMaps.setBlock w b (.map es2 c2) = w' := by injection hrun'
    have hO : OwnS w' b (l :: S) := ⟨_, hp.put i h1 h2 (insert_perm _ _), ownS_tight hown⟩
    refine hO.same ?_
    have hlt2 : b < w2.heap.size := (Array.getElem?_eq_some_iff.1 hw2).1
    rw [← hw']
    simp [ChangeMaps.setBlock, hlt, hlt2]
  · obtain ⟨w', hrun', hown, ht⟩ := ho.store keyL Try.underlying54 (by have := hp.len; unfold maxLen; omega) (keyOf_letter l i) (plainC (k := k0) (by omega))
    rw [hupd9] at hrun'
    have hw' : ChangeMaps.setBlock w b (.map es1 c1) = w' := by injection hrun'
    rw [hw']
    exact lookL_owns hown i (WideAt.atKey_mem _ (isKL l) (keysS_apart hown) ((insert_perm _ _).mem_iff.2 (List.mem_cons_self ..))) hk1
theorem HalfL.same {w w' : World} {b : Nat} {l : Lt} {S : List Lt} {st : Nat} (h : HalfL w b l S st) (hb : w'.heap[b]? = w.heap[b]?) : HalfL w' b l S st := by
  obtain ⟨es1, c1, h1, h2⟩ := h
  exact ⟨es1, c1, hb.trans h1, h2⟩
end Go.Proofs.Ytbomlapmoiamgaa.wan
