/-
  The contracts of stamp.LE and of watershedref04.LE, at any two times.
  Blocks that are known whole, as a walk wants them; a path and what is wrong, handed back.
  Slices of times, as the walks want them.
-/
import Derived.Test.YtomekndinopoaaaJOpen
import Derived.Deep.QuietTactic
import Derived.BigQuiet
import Derived.Test.YtomekndinopoaaaJTm
import Derived.Test.YtomekndinopoaaaJBlock
import Derived.Test.YtomekndinopoaaaJOpenT
import Derived.BigRegion
import Derived.Deep.Cut
import Derived.Deep.CutRange
namespace Go.Proofs.Ytomekndinopoaaa.stamp
open Go.ChangeShapes Go.WideShapes Go.ChangeAt Go.RowKit
open Go.Proofs.Ytomekndinopoaaa.tm Go.Proofs.Ytomekndinopoaaa.opened Go.Proofs.Ytomekndinopoaaa.block

theorem ret_bool {a b : Bool} (h : a = b) : Ending.returned (.bool a) = .returned (.bool b) := by rw [h]
theorem fresh2 (w : World) (o o' : Obj) : Below w.heap.size w ((w.alloc o).alloc o') := ((Below.refl _ _).alloc (Nat.le_refl _) _).alloc (by simp) _
theorem le_apart (s t : Tm) (_i : s.In) (_j : t.In) (h : s.d ≠ t.d) (w : World) : Calls Try.prog 99 #[.agg #[.int .u32 s.e, .int .i64 s.d, .int .u32 s.a, .int .u32 s.b, .int .u32 s.c], .agg #[.int .u32 t.e, .int .i64 t.d, .int .u32 t.a, .int .u32 t.b, .int .u32 t.c]] w fun e w' => e = .returned (.bool false) ∧ Below w.heap.size w w' := by
  have h' : (s.d != t.d) = true := by simpa using h
  clear h
  go_enter Try.func99, Try.ntmps99
  go_wp2_with fail
  go_ret
  exact ⟨rfl, fresh2 _ _ _⟩
theorem le_depth (s t : Tm) (_i : s.In) (_j : t.In) (h : s.d = t.d) (hd : t.d < 0 ∨ 3 < t.d) (w : World) : Calls Try.prog 99 #[.agg #[.int .u32 s.e, .int .i64 s.d, .int .u32 s.a, .int .u32 s.b, .int .u32 s.c], .agg #[.int .u32 t.e, .int .i64 t.d, .int .u32 t.a, .int .u32 t.b, .int .u32 t.c]] w fun e w' => e = .returned (.bool false) ∧ Below w.heap.size w w' := by
  obtain ⟨se, sd, sa, sb, sc⟩ := s
  obtain ⟨te, td, ta, tb, tc⟩ := t
  dsimp only at *
  subst h
  go_enter Try.func99, Try.ntmps99
  go_wp2_with (go_at_call 64; refine (isDepth_no _ hd _).mono ?_; rintro e w' ⟨rfl, rfl⟩)
  go_ret
  exact ⟨rfl, fresh2 _ _ _⟩
theorem le_epoch (s t : Tm) (_i : s.In) (_j : t.In) (h : s.d = t.d) (h0 : 0 ≤ t.d) (h1 : t.d ≤ 3) (he : t.e < s.e) (w : World) : Calls Try.prog 99 #[.agg #[.int .u32 s.e, .int .i64 s.d, .int .u32 s.a, .int .u32 s.b, .int .u32 s.c], .agg #[.int .u32 t.e, .int .i64 t.d, .int .u32 t.a, .int .u32 t.b, .int .u32 t.c]] w fun e w' => e = .returned (.bool false) ∧ Below w.heap.size w w' := by
  obtain ⟨se, sd, sa, sb, sc⟩ := s
  obtain ⟨te, td, ta, tb, tc⟩ := t
  dsimp only at *
  subst h
  go_enter Try.func99, Try.ntmps99
  go_wp2_with (go_at_call 64; refine (isDepth_yes _ (by omega) (by omega) _).mono ?_; rintro e w' ⟨rfl, rfl⟩)
  go_ret
  exact ⟨rfl, fresh2 _ _ _⟩
theorem le_rest (s t : Tm) (_i : s.In) (_j : t.In) (h : s.d = t.d) (h0 : 0 ≤ t.d) (h1 : t.d ≤ 3) (he : s.e ≤ t.e) (w : World) : Calls Try.prog 99 #[.agg #[.int .u32 s.e, .int .i64 s.d, .int .u32 s.a, .int .u32 s.b, .int .u32 s.c], .agg #[.int .u32 t.e, .int .i64 t.d, .int .u32 t.a, .int .u32 t.b, .int .u32 t.c]] w fun e w' => e = .returned (.bool (leB s t)) ∧ Below w.heap.size w w' := by
  have hd : t.d = 0 ∨ t.d = 1 ∨ t.d = 2 ∨ t.d = 3 := by omega
  generalize hC : leB s t = C
  have HC := Lib.hid hC
  clear hC
  obtain ⟨se, sd, sa, sb, sc⟩ := s
  obtain ⟨te, td, ta, tb, tc⟩ := t
  dsimp only at *
  subst h
  rcases hd with rfl | rfl | rfl | rfl
  all_goals go_enter Try.func99, Try.ntmps99
  all_goals go_wp2_with (go_at_call 64; refine (isDepth_yes _ (by omega) (by omega) _).mono ?_; rintro e w' ⟨rfl, rfl⟩)
  all_goals refine wp_loop_rounds 4 ?_
  all_goals rw [rounds_succ]
  all_goals go_wp2
  all_goals try (go_quiet (fail))
  all_goals go_wp2
  all_goals try (rw [rounds_succ]; go_wp2)
  all_goals try (go_quiet (fail))
  all_goals go_wp2
  all_goals try (rw [rounds_succ]; go_wp2)
  all_goals try (go_quiet (fail))
  all_goals go_wp2
  all_goals try (rw [rounds_succ]; go_wp2)
  all_goals go_ret
  all_goals refine ⟨ret_bool ?_, by repeat (first | exact fresh2 _ _ _ | apply below_drewN)⟩
  all_goals rw [← HC.out]
  all_goals first | (rw [leB_yes]; dsimp only; omega) | (rw [leB_no]; dsimp only; omega)
theorem le_any (s t : Tm) (i : s.In) (j : t.In) (w : World) : Calls Try.prog 99 #[.agg #[.int .u32 s.e, .int .i64 s.d, .int .u32 s.a, .int .u32 s.b, .int .u32 s.c], .agg #[.int .u32 t.e, .int .i64 t.d, .int .u32 t.a, .int .u32 t.b, .int .u32 t.c]] w fun e w' => e = .returned (.bool (leB s t)) ∧ Below w.heap.size w w' := by
  by_cases h : s.d = t.d
  · by_cases hd : t.d < 0 ∨ 3 < t.d
    · rw [leB_no (by omega)]; exact le_depth s t i j h hd w
    · by_cases he : t.e < s.e
      · rw [leB_no (by omega)]; exact le_epoch s t i j h (by omega) (by omega) he w
      · exact le_rest s t i j h (by omega) (by omega) (by omega) w
  · rw [leB_no (by omega)]; exact le_apart s t i j h w
theorem leR_apart (s t : Tm) (_i : s.In) (_j : t.In) (h : s.d ≠ t.d) (w : World) : Calls Try.prog 89 #[.agg #[.int .u32 s.e, .int .i64 s.d, .int .u32 s.a, .int .u32 s.b, .int .u32 s.c], .agg #[.int .u32 t.e, .int .i64 t.d, .int .u32 t.a, .int .u32 t.b, .int .u32 t.c]] w fun e w' => e = .returned (.bool false) ∧ Below w.heap.size w w' := by
  have h' : (s.d != t.d) = true := by simpa using h
  clear h
  go_enter Try.func89, Try.ntmps89
  go_wp2
  go_ret
  exact ⟨rfl, fresh2 _ _ _⟩
theorem leR_depth (s t : Tm) (_i : s.In) (_j : t.In) (h : s.d = t.d) (hd : t.d < 0 ∨ 3 < t.d) (w : World) : Calls Try.prog 89 #[.agg #[.int .u32 s.e, .int .i64 s.d, .int .u32 s.a, .int .u32 s.b, .int .u32 s.c], .agg #[.int .u32 t.e, .int .i64 t.d, .int .u32 t.a, .int .u32 t.b, .int .u32 t.c]] w fun e w' => e = .returned (.bool false) ∧ Below w.heap.size w w' := by
  obtain ⟨se, sd, sa, sb, sc⟩ := s
  obtain ⟨te, td, ta, tb, tc⟩ := t
  dsimp only at *
  subst h
  by_cases hd0 : sd < 0
  · clear hd
    go_enter Try.func89, Try.ntmps89
    go_wp2
    go_ret
    exact ⟨rfl, fresh2 _ _ _⟩
  · have hd1 : 3 < sd := by omega
    clear hd
    go_enter Try.func89, Try.ntmps89
    go_wp2
    go_ret
    exact ⟨rfl, fresh2 _ _ _⟩
theorem leR_epoch (s t : Tm) (_i : s.In) (_j : t.In) (h : s.d = t.d) (h0 : 0 ≤ t.d) (h1 : t.d ≤ 3) (he : t.e < s.e) (w : World) : Calls Try.prog 89 #[.agg #[.int .u32 s.e, .int .i64 s.d, .int .u32 s.a, .int .u32 s.b, .int .u32 s.c], .agg #[.int .u32 t.e, .int .i64 t.d, .int .u32 t.a, .int .u32 t.b, .int .u32 t.c]] w fun e w' => e = .returned (.bool false) ∧ Below w.heap.size w w' := by
  obtain ⟨se, sd, sa, sb, sc⟩ := s
  obtain ⟨te, td, ta, tb, tc⟩ := t
  dsimp only at *
  subst h
  go_enter Try.func89, Try.ntmps89
  go_wp2
  go_ret
  exact ⟨rfl, fresh2 _ _ _⟩
theorem leR_rest (s t : Tm) (_i : s.In) (_j : t.In) (h : s.d = t.d) (h0 : 0 ≤ t.d) (h1 : t.d ≤ 3) (he : s.e ≤ t.e) (w : World) : Calls Try.prog 89 #[.agg #[.int .u32 s.e, .int .i64 s.d, .int .u32 s.a, .int .u32 s.b, .int .u32 s.c], .agg #[.int .u32 t.e, .int .i64 t.d, .int .u32 t.a, .int .u32 t.b, .int .u32 t.c]] w fun e w' => e = .returned (.bool (leB s t)) ∧ Below w.heap.size w w' := by
  have hd : t.d = 0 ∨ t.d = 1 ∨ t.d = 2 ∨ t.d = 3 := by omega
  generalize hC : leB s t = C
  have HC := Lib.hid hC
  clear hC
  obtain ⟨se, sd, sa, sb, sc⟩ := s
  obtain ⟨te, td, ta, tb, tc⟩ := t
  dsimp only at *
  subst h
  rcases hd with rfl | rfl | rfl | rfl
  all_goals go_enter Try.func89, Try.ntmps89
  all_goals go_wp2
  all_goals refine wp_loop_rounds 4 ?_
  all_goals rw [rounds_succ]
  all_goals go_wp2
  all_goals try (go_quiet (fail))
  all_goals go_wp2
  all_goals try (rw [rounds_succ]; go_wp2)
  all_goals try (go_quiet (fail))
  all_goals go_wp2
  all_goals try (rw [rounds_succ]; go_wp2)
  all_goals try (go_quiet (fail))
  all_goals go_wp2
  all_goals try (rw [rounds_succ]; go_wp2)
  all_goals go_ret
  all_goals refine ⟨ret_bool ?_, by repeat (first | exact fresh2 _ _ _ | apply below_drewN)⟩
  all_goals rw [← HC.out]
  all_goals first | (rw [leB_yes]; dsimp only; omega) | (rw [leB_no]; dsimp only; omega)
theorem leR_any (s t : Tm) (i : s.In) (j : t.In) (w : World) : Calls Try.prog 89 #[.agg #[.int .u32 s.e, .int .i64 s.d, .int .u32 s.a, .int .u32 s.b, .int .u32 s.c], .agg #[.int .u32 t.e, .int .i64 t.d, .int .u32 t.a, .int .u32 t.b, .int .u32 t.c]] w fun e w' => e = .returned (.bool (leB s t)) ∧ Below w.heap.size w w' := by
  by_cases h : s.d = t.d
  · by_cases hd : t.d < 0 ∨ 3 < t.d
    · rw [leB_no (by omega)]; exact leR_depth s t i j h hd w
    · by_cases he : t.e < s.e
      · rw [leB_no (by omega)]; exact leR_epoch s t i j h (by omega) (by omega) he w
      · exact leR_rest s t i j h (by omega) (by omega) (by omega) w
  · rw [leB_no (by omega)]; exact leR_apart s t i j h w
end Go.Proofs.Ytomekndinopoaaa.stamp
namespace Go.Proofs.Ytomekndinopoaaa.path
open Go.ChangeShapes Go.WideShapes Go.ChangeAt Go.RowKit
open Go.Proofs.Ytomekndinopoaaa.tm Go.Proofs.Ytomekndinopoaaa.opened Go.Proofs.Ytomekndinopoaaa.block Go.Proofs.Ytomekndinopoaaa.stamp Go.Proofs.Ytomekndinopoaaa.pa

theorem over1 {w w1 : World} {o : Obj} (b1 : Below (w.alloc o).heap.size (w.alloc o) w1) : Below w.heap.size w w1 := (fresh1 _ _).trans (b1.mono (by simp))
/-- What a block that is known whole holds, and that it may be written. -/
theorem all_of {w : World} {g : Nat} {t : TypeId} {cs : Array Value} (h : Whole w g t cs) : (∀ i, w.cell? ⟨g, i, none⟩ = cs[i]?) ∧ (∀ i, w.frozen? ⟨g, i, none⟩ = false) := ⟨h.read, h.soft⟩
/-- Behind a call, a block that was made ahead of it. -/
theorem res_of {w w1 : World} {t : TypeId} {cs : Array Value} (b : Below (w.alloc (.cells cs t)).heap.size (w.alloc (.cells cs t)) w1) : Whole w1 w.heap.size t cs ∧ Below w.heap.size w w1 ∧ w.heap.size < w1.heap.size :=
  ⟨(Whole.fresh w t cs).below b (by simp), (fresh1 _ _).trans (b.mono (by simp)), by have := b.size; simp at this; omega⟩
theorem ten {w : World} {g : Nat} {t : TypeId} {a b c d e f h i j k : Value} (hw : Whole w g t #[a, b, c, d, e, f, h, i, j, k]) (v0 v1 v2 v3 v4 v5 v6 v7 v8 v9 : Value) :
    Whole ((((((((((w.setCell ⟨g, 0, none⟩ v0).setCell ⟨g, 1, none⟩ v1).setCell ⟨g, 2, none⟩ v2).setCell ⟨g, 3, none⟩ v3).setCell ⟨g, 4, none⟩ v4).setCell ⟨g, 5, none⟩ v5).setCell ⟨g, 6, none⟩ v6).setCell ⟨g, 7, none⟩ v7).setCell ⟨g, 8, none⟩ v8).setCell ⟨g, 9, none⟩ v9) g t #[v0, v1, v2, v3, v4, v5, v6, v7, v8, v9] := by
  have h := (((((((((hw.store 0 v0).store 1 v1).store 2 v2).store 3 v3).store 4 v4).store 5 v5).store 6 v6).store 7 v7).store 8 v8).store 9 v9
  simpa using h
/-- A path and what is wrong, handed back. -/
def Gives (p : Pa) (x : Int) (w : World) (e : Ending) (w' : World) : Prop := e = .returned (.tuple #[.agg #[.int .i64 p.f, .int .i64 p.k, .int .u32 p.p0, .int .u32 p.p1, .int .u32 p.p2, .int .u32 p.p3, .int .i64 p.u, .int .u32 p.l0, .int .u32 p.l1, .int .u32 p.l2], .int .i64 x]) ∧ Below w.heap.size w w'
theorem gives {p q : Pa} {x y : Int} {w w' : World} (hb : Below w.heap.size w w') (h : q = p) (k : y = x) : Gives p x w (.returned (.tuple #[.agg #[.int .i64 q.f, .int .i64 q.k, .int .u32 q.p0, .int .u32 q.p1, .int .u32 q.p2, .int .u32 q.p3, .int .i64 q.u, .int .u32 q.l0, .int .u32 q.l1, .int .u32 q.l2], .int .i64 y])) w' := by rw [h, k]; exact ⟨rfl, hb⟩
theorem gives_at {p q : Pa} {x y : Int} {w w' : World} {g : Nat} (hg : Hid (w.heap.size = g)) (hb : Below g w w') (h : q = p) (k : y = x) : Gives p x w (.returned (.tuple #[.agg #[.int .i64 q.f, .int .i64 q.k, .int .u32 q.p0, .int .u32 q.p1, .int .u32 q.p2, .int .u32 q.p3, .int .i64 q.u, .int .u32 q.l0, .int .u32 q.l1, .int .u32 q.l2], .int .i64 y])) w' := gives (hg.out ▸ hb) h k
end Go.Proofs.Ytomekndinopoaaa.path
namespace Go.Proofs.Ytomekndinopoaaa.chain
open Go.ChangeShapes Go.WideShapes Go.ChangeAt Go.RowKit
open Go.Proofs.Ytomekndinopoaaa.tm Go.Proofs.Ytomekndinopoaaa.opened Go.Proofs.Ytomekndinopoaaa.block Go.Proofs.Ytomekndinopoaaa.stamp

/-- A time's cells. -/
def cT (t : Tm) : List Value := [.int .u32 t.e, .int .i64 t.d, .int .u32 t.a, .int .u32 t.b, .int .u32 t.c]
/-- At this place lie these times. -/
def Lt (w : World) (A : Option Addr) (L : List Tm) : Prop := LiesN w A 5 (L.map cT)
theorem Lt.nil (w : World) (A : Option Addr) : Lt w A [] := .inl rfl
theorem Lt.below {w w' : World} {A : Option Addr} {L : List Tm} (h : Lt w A L) (hb : Below w.heap.size w w') : Lt w' A L := by
  rcases h with h | ⟨b, off, hA, hbl, hc⟩
  · exact .inl h
  · exact .inr ⟨b, off, hA, Nat.lt_of_lt_of_le hbl hb.size, fun i x hx => ⟨(hc i x hx).1, fun j hj => (hb.cell (p := ⟨b, off + (i * 5 + j), none⟩) hbl).trans ((hc i x hx).2 j hj)⟩⟩
/-- The k-th of them: its cells. -/
theorem Lt.at {w : World} {A : Option Addr} {L : List Tm} (h : Lt w A L) {k : Nat} {t : Tm} (hk : L[k]? = some t) : ∃ b off, A = some ⟨b, off, none⟩ ∧ b < w.heap.size ∧
    w.cell? ⟨b, off + k * 5, none⟩ = some (.int .u32 t.e) ∧ w.cell? ⟨b, off + k * 5 + 1, none⟩ = some (.int .i64 t.d) ∧ w.cell? ⟨b, off + k * 5 + 2, none⟩ = some (.int .u32 t.a) ∧ w.cell? ⟨b, off + k * 5 + 3, none⟩ = some (.int .u32 t.b) ∧ w.cell? ⟨b, off + k * 5 + 4, none⟩ = some (.int .u32 t.c) := by
  rcases h with h | ⟨b, off, hA, hbl, hc⟩
  · have : L = [] := by simpa using h
    subst this
    simp at hk
  · obtain ⟨-, h2⟩ := hc k (cT t) (by rw [List.getElem?_map, hk]; rfl)
    exact ⟨b, off, hA, hbl, h2 0 (by omega), h2 1 (by omega), h2 2 (by omega), h2 3 (by omega), h2 4 (by omega)⟩
theorem get_lt {L : List Tm} {k : Nat} (h : k < L.length) : ∃ t, L[k]? = some t ∧ t ∈ L := ⟨L[k], List.getElem?_eq_getElem h, List.getElem_mem h⟩
/-- The times of a list are within their kinds. -/
def InL (L : List Tm) : Prop := ∀ t ∈ L, t.In
theorem take_any {L : List Tm} {k : Nat} {t : Tm} {p : Tm → Bool} (hk : L[k]? = some t) (h : (L.take k).any p = false) : (L.take (k + 1)).any p = p t := by
  rw [List.take_add_one, hk, List.any_append, h]
  simp
theorem any_at {L : List Tm} {k : Nat} {t : Tm} {p : Tm → Bool} (hk : L[k]? = some t) (h : p t = true) : L.any p = true := List.any_eq_true.2 ⟨t, List.mem_of_getElem? hk, h⟩
end Go.Proofs.Ytomekndinopoaaa.chain
