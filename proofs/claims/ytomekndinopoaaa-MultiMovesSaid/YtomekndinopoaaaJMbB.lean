/-
  A set of times, as a map to bools.
  MultiMoves: its map beside a Multi, and the mathematics of its loops.
-/
import Derived.Test.YtomekndinopoaaaJMuV
namespace Go.Proofs.Ytomekndinopoaaa.multi
open Go.ChangeShapes Go.WideShapes Go.ChangeAt Go.RowKit Go.Maps Go.WideMaps
open Go.Proofs.Ytomekndinopoaaa.tm Go.Proofs.Ytomekndinopoaaa.opened Go.Proofs.Ytomekndinopoaaa.block Go.Proofs.Ytomekndinopoaaa.stamp Go.Proofs.Ytomekndinopoaaa.chain

def dT : DataW Nat := .lit (.bool true)
def pB (t : Tm) : Lit × DataW Nat := (kT t, dT)
/-- Block b is a map that holds just these times, each with true. -/
def OwnB (w : World) (b : Nat) (S : List Tm) : Prop :=
  ∃ es : List (Lit × DataW Nat), es.Perm (S.map pB) ∧ w.ownsMap Try.prog 33 (plainElem Try.prog 4) b S.length (.map es)
theorem ownB_tight {w : World} {n b : Nat} {es : List (Lit × DataW Nat)} (h : w.ownsMap Try.prog 33 (plainElem Try.prog 4) b n (.map es)) : w.ownsMap Try.prog 33 (plainElem Try.prog 4) b es.length (.map es) := by
  obtain ⟨xs, clock, hb, F, -, hD⟩ := h
  refine ⟨xs, clock, hb, F, ?_, hD⟩
  have := congrArg Maps.size hD
  simp only [Maps.size, length_read] at this
  omega
theorem ownB_of {w : World} {n b : Nat} {es : List (Lit × DataW Nat)} {S : List Tm} (h : w.ownsMap Try.prog 33 (plainElem Try.prog 4) b n (.map es)) (hp : es.Perm (S.map pB)) : OwnB w b S := by
  refine ⟨es, hp, ?_⟩
  have e := ownB_tight h
  have := hp.length_eq
  rw [List.length_map] at this
  rwa [this] at e
theorem OwnB.kept {w w' : World} {row : Option Nat} {b : Nat} {S : List Tm} (h : OwnB w b S) (hg : w.grownBy w' row) (hne : some b ≠ row) : OwnB w' b S := by
  obtain ⟨es, hp, ho⟩ := h
  exact ⟨es, hp, ho.kept hg hne⟩
theorem OwnB.lt {w : World} {b : Nat} {S : List Tm} (h : OwnB w b S) : b < w.heap.size := by obtain ⟨es, hp, ho⟩ := h; exact ho.lt
theorem OwnB.below {w w' : World} {B b : Nat} {S : List Tm} (h : OwnB w b S) (hb : Below B w w') (hlt : b < B) : OwnB w' b S := by
  obtain ⟨es, hp, xs, clock, hx, F, hs, hD⟩ := h
  exact ⟨es, hp, xs, clock, (hb.block b hlt).trans hx, F, hs, hD⟩
theorem ownB_made (w : World) : OwnB (w.alloc (.map #[] 0)) w.heap.size [] := ⟨[], by simp, World.ownsMap_made w _ _ _⟩
theorem zeroB (w : World) : (zeroValue 4).run Try.prog w = .ok (.bool false) w := by kernel_rfl
theorem plainB_inv {v : Value} {z : DataW Nat × List MemPlace} (h : plainElem Try.prog 4 v = some z) : ∃ x, v = .bool x ∧ z = (.lit (.bool x), []) := by
  unfold plainElem at h
  simp only [Try.underlying4] at h
  cases v <;> simp_all
theorem keysB_apart {w : World} {n b : Nat} {es : List (Lit × DataW Nat)} (h : w.ownsMap Try.prog 33 (plainElem Try.prog 4) b n (.map es)) : es.Pairwise (fun p q => p.1 ≠ q.1) := by
  obtain ⟨es', e, hp⟩ := h.tidy keyT
  cases e
  exact hp
theorem hasB {es : List (Lit × DataW Nat)} {S : List Tm} (hp : es.Perm (S.map pB)) (hi : ∀ s ∈ S, s.In) {t : Tm} (i : t.In) : Maps.has (.map es) (kT t) = decide (t ∈ S) := by
  rw [has_eq]
  by_cases hc : t ∈ S
  · rw [decide_eq_true hc]
    exact List.any_eq_true.2 ⟨pB t, hp.mem_iff.2 (List.mem_map.2 ⟨t, hc, rfl⟩), WideAt.sameKey_self (isKey t)⟩
  · rw [decide_eq_false hc]
    refine Bool.eq_false_iff.2 fun hany => hc ?_
    obtain ⟨q, hq, hs⟩ := List.any_eq_true.1 hany
    have e := (WideAt.sameKey_iff (isKey t)).1 hs
    obtain ⟨s, hs', he⟩ := List.mem_map.1 (hp.mem_iff.1 hq)
    rw [← he] at e
    rwa [← kT_inj (hi s hs') i e]
theorem atB {es : List (Lit × DataW Nat)} {S : List Tm} (hp : es.Perm (S.map pB)) (ha : es.Pairwise (fun p q => p.1 ≠ q.1)) (hi : ∀ s ∈ S, s.In) {t : Tm} (i : t.In) : (DataW.map es).atKey (kT t) (.lit (.bool false)) = .lit (.bool (decide (t ∈ S))) := by
  by_cases hc : t ∈ S
  · rw [decide_eq_true hc]
    exact WideAt.atKey_mem _ (isKey t) ha (hp.mem_iff.2 (List.mem_map.2 ⟨t, hc, rfl⟩))
  · rw [Maps.atKey_of_not_has (by rw [hasB hp hi i, decide_eq_false hc]), decide_eq_false hc]
theorem lookB_run {w : World} {b : Nat} {S : List Tm} (h : OwnB w b S) (hi : ∀ s ∈ S, s.In) (t : Tm) (i : t.In) :
    (Instr.lookup 66 (.map (some b)) (.agg #[.int .u32 t.e, .int .i64 t.d, .int .u32 t.a, .int .u32 t.b, .int .u32 t.c]) false).run Try.prog w = .ok (.bool (decide (t ∈ S))) w := by
  obtain ⟨es, hp, ho⟩ := h
  obtain ⟨v, ps, hrun, hv⟩ := ho.lookup keyT Try.underlying66 (zeroB w) (plainElem_bool Try.underlying4 false) (keyOf_time t i)
  obtain ⟨x, rfl, hx⟩ := plainB_inv hv
  have e := atB hp (keysB_apart ho) hi i
  simp only [Prod.mk.injEq] at hx
  rw [show (Lit.string (keyBytes (klB t))) = kT t from rfl, e] at hx
  have : decide (t ∈ S) = x := by simpa using hx.1
  rw [this]
  exact hrun
theorem lenB_run {w : World} {b : Nat} {S : List Tm} (h : OwnB w b S) (ty : TypeId) : (Builtin.len_ #[66] ty #[.map (some b)]).run Try.prog w = .ok (.int .i64 S.length) w := by
  obtain ⟨es, hp, ho⟩ := h
  rw [ho.len Try.underlying66 ty]
  have := hp.length_eq
  simp only [List.length_map] at this
  rw [Maps.size_eq, this]
theorem strikeB {es : List (Lit × DataW Nat)} {S : List Tm} (hp : es.Perm (S.map pB)) (hi : ∀ s ∈ S, s.In) {t : Tm} (i : t.In) : (es.filter fun p => !p.1.sameKey (kT t)).Perm ((S.filter fun s => !decide (s = t)).map pB) := by
  refine (hp.filter _).trans ?_
  rw [List.filter_map]
  refine List.Perm.of_eq (congrArg (List.map pB) (List.filter_congr fun s hs => ?_))
  show (!(kT s).sameKey (kT t)) = _
  by_cases he : s = t
  · rw [he, WideAt.sameKey_self (isKey t)]; simp
  · rw [Maps.sameKey_ne (fun e => he (kT_inj (hi s hs) i e))]; simp [he]
theorem delB_run {w : World} {b : Nat} {S : List Tm} (h : OwnB w b S) (hi : ∀ s ∈ S, s.In) (t : Tm) (i : t.In) (ty : TypeId) :
    ∃ w', (Builtin.delete_ #[66, 33] ty #[.map (some b), .agg #[.int .u32 t.e, .int .i64 t.d, .int .u32 t.a, .int .u32 t.b, .int .u32 t.c]]).run Try.prog w = .ok (.tuple #[]) w' ∧ OwnB w' b (S.filter fun s => !decide (s = t)) ∧ w.grownBy w' (some b) := by
  obtain ⟨es, hp, ho⟩ := h
  obtain ⟨w', hrun, hown, ht⟩ := ho.drop keyT Try.underlying66 (keyOf_time t i) ty
  exact ⟨w', hrun, ownB_of hown (strikeB hp hi i), ht.grown⟩
theorem putB_run {w : World} {b : Nat} {S : List Tm} (h : OwnB w b S) (hl : S.length ≤ 1000000) (hi : ∀ s ∈ S, s.In) (t : Tm) (i : t.In) :
    ∃ w', (Instr.mapUpdate 66 (.map (some b)) (.agg #[.int .u32 t.e, .int .i64 t.d, .int .u32 t.a, .int .u32 t.b, .int .u32 t.c]) (.bool true)).run Try.prog w = .ok () w' ∧ OwnB w' b (t :: S.filter fun s => !decide (s = t)) ∧ w.grownBy w' (some b) := by
  obtain ⟨es, hp, ho⟩ := h
  obtain ⟨w', hrun, hown, ht⟩ := ho.store keyT Try.underlying66 (by unfold maxLen; omega) (keyOf_time t i) (plainElem_bool Try.underlying4 true)
  exact ⟨w', hrun, ownB_of hown ((insert_perm _ _).trans (List.Perm.cons _ (strikeB hp hi i))), ht.grown⟩
end Go.Proofs.Ytomekndinopoaaa.multi
namespace Go.Proofs.Ytomekndinopoaaa.multi
open Go.ChangeShapes Go.WideShapes Go.ChangeAt Go.RowKit Go.Maps Go.WideMaps
open Go.Proofs.Ytomekndinopoaaa.tm Go.Proofs.Ytomekndinopoaaa.opened Go.Proofs.Ytomekndinopoaaa.block Go.Proofs.Ytomekndinopoaaa.stamp Go.Proofs.Ytomekndinopoaaa.chain

theorem ownB_no_cell {w : World} {b : Nat} {S : List Tm} (h : OwnB w b S) (i : Nat) : w.cell? ⟨b, i, none⟩ = none := by
  obtain ⟨es, hp, xs, clock, hx, F, hs, hD⟩ := h
  simp [World.cell?, hx]
theorem OwnB.perm {w : World} {b : Nat} {S S' : List Tm} (h : OwnB w b S) (hp : S.Perm S') : OwnB w b S' := by
  obtain ⟨es, h1, ho⟩ := h
  exact ⟨es, h1.trans (hp.map pB), by rw [← hp.length_eq]; exact ho⟩
theorem farB {w : World} {ab : Nat} {S : List Tm} {B : Option Addr} {F : List Tm} (ho : OwnB w ab S) (h : Lt w B F) : F ≠ [] → ∀ ad, B = some ad → ad.block ≠ ab := by
  intro h0 ad had
  cases F with
  | nil => exact absurd rfl h0
  | cons y r =>
    obtain ⟨b0, off, hA, hb, c0, -⟩ := h.at (k := 0) (t := y) rfl
    subst hA
    cases had
    rintro rfl
    have := ownB_no_cell ho (off + 0 * 5)
    rw [this] at c0
    cases c0
theorem lt_map {w w' : World} {ab : Nat} {S : List Tm} {B : Option Addr} {F : List Tm} (h : Lt w B F) (ho : OwnB w ab S) (hg : w.grownBy w' (some ab)) : Lt w' B F := lt_turned h hg (farB ho h)
theorem MulP.apart {w : World} {g b c ab : Nat} {d : Int} {A : Option Addr} {L S : List Tm} {M : List TN} (h : MulP w g d b A c L M) (ho : OwnB w ab S) : g ≠ ab := by
  rintro rfl
  have h0 := h.cells.read 0
  rw [ownB_no_cell ho 0] at h0
  cases h0
theorem MulP.past {w w' : World} {g b c ab : Nat} {d : Int} {A : Option Addr} {L S : List Tm} {M : List TN} (h : MulP w g d b A c L M) (ho : OwnB w ab S) (hne : b ≠ ab) (hg : w.grownBy w' (some ab)) : MulP w' g d b A c L M :=
  ⟨h.cells.grown hg (by simpa using h.apart ho), h.own.kept hg (by simpa using hne), lt_map h.last ho hg, h.ne, h.far⟩
/-- What is left of a set when the first of a row are gone. -/
def leftK (L G : List Tm) (k : Nat) : List Tm := L.filter fun x => decide (x ∉ G.take k)
theorem left_zero (L G : List Tm) : leftK L G 0 = L := by simp [leftK]
theorem left_more {L G : List Tm} {k : Nat} {t : Tm} (h : G[k]? = some t) : (leftK L G k).filter (fun s => !decide (s = t)) = leftK L G (k + 1) := by
  unfold leftK
  rw [List.filter_filter]
  refine List.filter_congr fun x _ => ?_
  rw [List.take_add_one, h]
  simp
  by_cases e : x = t <;> simp [e]
theorem not_taken {G : List Tm} (hn : G.Nodup) {k : Nat} {t : Tm} (h : G[k]? = some t) : t ∉ G.take k := by
  intro hm
  obtain ⟨j, hj⟩ := List.getElem?_of_mem hm
  have hlt : j < k := by
    rcases Nat.lt_or_ge j k with h | h
    · exact h
    · rw [List.getElem?_eq_none (by rw [List.length_take]; omega)] at hj; cases hj
  rw [List.getElem?_take, if_pos hlt] at hj
  have hk := (List.getElem?_eq_some_iff.1 h).1
  have hj' := (List.getElem?_eq_some_iff.1 hj).1
  have := (List.nodup_iff_pairwise_ne.1 hn)
  have := List.pairwise_iff_getElem.1 this j k hj' hk hlt
  exact this ((List.getElem?_eq_some_iff.1 hj).2.trans (List.getElem?_eq_some_iff.1 h).2.symm)
theorem mem_left {L G : List Tm} {k : Nat} {t : Tm} (hn : G.Nodup) (h : G[k]? = some t) (hm : t ∈ L) : t ∈ leftK L G k := by
  unfold leftK
  exact List.mem_filter.2 ⟨hm, by simpa using not_taken hn h⟩
theorem mem_without {L F : List Tm} {x : Tm} : x ∈ withoutV L F ↔ x ∈ L ∧ x ∉ F := by
  unfold withoutV
  rw [List.mem_filter]
  refine and_congr Iff.rfl ?_
  simp only [Bool.not_eq_true', List.any_eq_false]
  constructor
  · intro h hm
    exact h x hm (eqT_iff.2 rfl)
  · intro h y hy he
    exact h (eqT_iff.1 he ▸ hy)
theorem without_nodup {L F : List Tm} (h : L.Nodup) : (withoutV L F).Nodup := h.filter _
theorem put_new {T : List Tm} {t : Tm} (h : t ∉ T) : T.filter (fun s => !decide (s = t)) = T :=
  List.filter_eq_self.2 fun s hs => by
    have : s ≠ t := fun e => h (e ▸ hs)
    simpa using this
theorem put_perm {T C R : List Tm} {k : Nat} {t : Tm} (hT : T = C.take k ++ R) (ht : C[k]? = some t) (hn : t ∉ T) : (t :: T.filter fun s => !decide (s = t)).Perm (C.take (k + 1) ++ R) := by
  rw [put_new hn, hT, List.take_add_one, ht]
  simpa using (List.perm_middle (a := t) (l₁ := C.take k) (l₂ := R)).symm
theorem come_new {L F : List Tm} (hF : F.Nodup) {k : Nat} {t : Tm} (h : (withoutV F L)[k]? = some t) (G : List Tm) (j : Nat) : t ∉ (withoutV F L).take k ++ leftK L G j := by
  intro hm
  rcases List.mem_append.1 hm with h1 | h1
  · exact not_taken (without_nodup hF) h h1
  · exact (mem_without.1 (List.mem_of_getElem? h)).2 (List.mem_filter.1 h1).1
theorem moved {L F : List Tm} (hL : L.Nodup) (hF : F.Nodup) : (withoutV F L ++ leftK L (withoutV L F) (withoutV L F).length).Perm F := by
  have hn : (withoutV F L ++ leftK L (withoutV L F) (withoutV L F).length).Nodup := by
    rw [List.nodup_append]
    refine ⟨without_nodup hF, hL.filter _, fun x hx y hy e => ?_⟩
    subst e
    exact (mem_without.1 hx).2 (List.mem_filter.1 hy).1
  refine (List.perm_ext_iff_of_nodup hn hF).2 fun x => ?_
  rw [List.mem_append, mem_without]
  unfold leftK
  rw [List.mem_filter, List.take_length]
  simp only [decide_eq_true_eq, mem_without]
  constructor
  · rintro (⟨h, -⟩ | ⟨h, k⟩)
    · exact h
    · exact Classical.byContradiction fun hc => k ⟨h, hc⟩
  · intro h
    by_cases hx : x ∈ L
    · exact .inr ⟨hx, fun k => k.2 h⟩
    · exact .inl ⟨h, hx⟩
theorem sort_nodup {L : List Tm} (h : L.Pairwise Lo) : L.Nodup := List.nodup_iff_pairwise_ne.2 (h.imp fun {a b} (h : numT a < numT b) e => by rw [e] at h; omega)
end Go.Proofs.Ytomekndinopoaaa.multi
