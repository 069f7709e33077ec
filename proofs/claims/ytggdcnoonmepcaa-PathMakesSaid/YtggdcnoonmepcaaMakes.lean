/-
  Of any depth and any number: the five paths that the program makes, and what it tells beside them, are the document's own; no condition.
-/
import Derived.Test.YtggdcnoonmepcaaMk2
import Derived.Test.YtggdcnoonmepcaaConv
import Derived.Test.YtggdcnoonmepcaaEqP
import Derived.Test.YtggdcnoonmepcaaOpenT
import Derived.Deep.QuietTactic
import Derived.BigQuiet
namespace Go.Proofs.Ytggdcnoonmepcaa.pathMakes
open Go.ChangeShapes Go.WideShapes Go.ChangeAt Go.RowKit
open Go.Proofs.Ytggdcnoonmepcaa.tm Go.Proofs.Ytggdcnoonmepcaa.opened Go.Proofs.Ytggdcnoonmepcaa.block Go.Proofs.Ytggdcnoonmepcaa.stamp Go.Proofs.Ytggdcnoonmepcaa.pa Go.Proofs.Ytggdcnoonmepcaa.path

/-- Two paths are known, in blocks of their own; nothing older has turned. -/
structure Duo (w wr : World) (g1 g2 : Nat) (p q : Pa) : Prop where
  one : Whole wr g1 26 #[.int .i64 p.f, .int .i64 p.k, .int .u32 p.p0, .int .u32 p.p1, .int .u32 p.p2, .int .u32 p.p3, .int .i64 p.u, .int .u32 p.l0, .int .u32 p.l1, .int .u32 p.l2]
  two : Whole wr g2 30 #[.int .i64 q.f, .int .i64 q.k, .int .u32 q.p0, .int .u32 q.p1, .int .u32 q.p2, .int .u32 q.p3, .int .i64 q.u, .int .u32 q.l0, .int .u32 q.l1, .int .u32 q.l2]
  old : Below w.heap.size w wr
  ne : g1 ≠ g2
  lo1 : w.heap.size ≤ g1
  lo2 : w.heap.size ≤ g2
theorem Duo.below {w wr w1 : World} {g1 g2 : Nat} {p q : Pa} (h : Duo w wr g1 g2 p q) (k : Below wr.heap.size wr w1) : Duo w w1 g1 g2 p q :=
  ⟨h.one.below k h.one.inside, h.two.below k h.two.inside, h.old.trans (k.mono h.old.size), h.ne, h.lo1, h.lo2⟩
theorem Duo.fresh {w w1 w2 : World} {p q : Pa} (b1 : Below w.heap.size w w1) (b2 : Below (w1.alloc (.cells #[.int .i64 p.f, .int .i64 p.k, .int .u32 p.p0, .int .u32 p.p1, .int .u32 p.p2, .int .u32 p.p3, .int .i64 p.u, .int .u32 p.l0, .int .u32 p.l1, .int .u32 p.l2] 26)).heap.size (w1.alloc (.cells #[.int .i64 p.f, .int .i64 p.k, .int .u32 p.p0, .int .u32 p.p1, .int .u32 p.p2, .int .u32 p.p3, .int .i64 p.u, .int .u32 p.l0, .int .u32 p.l1, .int .u32 p.l2] 26)) w2) :
    Duo w (w2.alloc (.cells #[.int .i64 q.f, .int .i64 q.k, .int .u32 q.p0, .int .u32 q.p1, .int .u32 q.p2, .int .u32 q.p3, .int .i64 q.u, .int .u32 q.l0, .int .u32 q.l1, .int .u32 q.l2] 30)) w1.heap.size w2.heap.size p q := by
  obtain ⟨h1, h2, h3⟩ := res_of b2
  have k := b1.size
  exact ⟨h1.alloc _, Whole.fresh w2 _ _, (b1.trans (h2.mono k)).alloc (by omega) _, by omega, k, by omega⟩
set_option maxRecDepth 100000 in
set_option maxHeartbeats 2000000 in
theorem walkT (d n : Int) (n0 : 0 ≤ n) (n1 : n ≤ 4294967295) (w : World) : Calls Try.prog 3 #[.int .i64 d, .int .u32 n] w fun e w' => e = .returned (.bool true) ∧ Below w.heap.size w w' := by
  have C0 := Lib.hid (stay_any d)
  have R0 := Lib.hid (stayR_any d)
  generalize stayV d = V0 at C0 R0
  generalize stayE d = E0 at C0 R0
  have Q0 := Lib.hid (fun W => (run_eqPR V0 V0 W).trans (by rw [eqP_self]))
  have C1 := Lib.hid (goIn_any d)
  have R1 := Lib.hid (goInR_any d)
  generalize goInV d = V1 at C1 R1
  generalize goInE d = E1 at C1 R1
  have Q1 := Lib.hid (fun W => (run_eqPR V1 V1 W).trans (by rw [eqP_self]))
  have C2 := Lib.hid (goOut_any d)
  have R2 := Lib.hid (goOutR_any d)
  generalize goOutV d = V2 at C2 R2
  generalize goOutE d = E2 at C2 R2
  have Q2 := Lib.hid (fun W => (run_eqPR V2 V2 W).trans (by rw [eqP_self]))
  have C3 := Lib.hid (goOn_any d)
  have R3 := Lib.hid (goOnR_any d)
  generalize goOnV d = V3 at C3 R3
  generalize goOnE d = E3 at C3 R3
  have Q3 := Lib.hid (fun W => (run_eqPR V3 V3 W).trans (by rw [eqP_self]))
  have C4 := Lib.hid (goBy_any d n n0 n1)
  have R4 := Lib.hid (goByR_any d n n0 n1)
  generalize goByV d n = V4 at C4 R4
  generalize goByE d n = E4 at C4 R4
  have Q4 := Lib.hid (fun W => (run_eqPR V4 V4 W).trans (by rw [eqP_self]))
  clear n0 n1
  go_enter Try.func3, Try.ntmps3
  go_wp2_with fail
  refine (C0.out _).mono ?_
  rintro e w1 ⟨rfl, b1⟩
  go_wp2_with fail
  refine (R0.out _).mono ?_
  rintro e w2 ⟨rfl, b2⟩
  go_wp2_with fail
  have D0 := Duo.fresh (q := V0) b1 b2
  clear b1 b2
  generalize w2.alloc (.cells #[.int .i64 V0.f, .int .i64 V0.k, .int .u32 V0.p0, .int .u32 V0.p1, .int .u32 V0.p2, .int .u32 V0.p3, .int .i64 V0.u, .int .u32 V0.l0, .int .u32 V0.l1, .int .u32 V0.l2] 30) = W0 at D0 ⊢
  generalize w1.heap.size = g1 at D0 ⊢
  generalize w2.heap.size = g2 at D0 ⊢
  have c1 : ∀ (x : Since W0) (i : Nat), x.1.cell? ⟨g1, i, none⟩ = #[.int .i64 V0.f, .int .i64 V0.k, .int .u32 V0.p0, .int .u32 V0.p1, .int .u32 V0.p2, .int .u32 V0.p3, .int .i64 V0.u, .int .u32 V0.l0, .int .u32 V0.l1, .int .u32 V0.l2][i]? := fun x i => (D0.one.below x.2 D0.one.inside).read i
  have c2 : ∀ (x : Since W0) (i : Nat), x.1.cell? ⟨g2, i, none⟩ = #[.int .i64 V0.f, .int .i64 V0.k, .int .u32 V0.p0, .int .u32 V0.p1, .int .u32 V0.p2, .int .u32 V0.p3, .int .i64 V0.u, .int .u32 V0.l0, .int .u32 V0.l1, .int .u32 V0.l2][i]? := fun x i => (D0.two.below x.2 D0.two.inside).read i
  have he := Q0.out
  refine region_since W0 (by kernel_rfl) (by kernel_rfl) (Below.refl _ _) ?_
  repeat (go_big_quiet_step ((go_at_call 13; with_reducible exact since_call (from_any V0) _)))
  refine wpQuiet_nil ?_
  rintro w4 ⟨x, hw⟩
  have F0 := D0.below (hw ▸ x.2)
  clear hw x D0 c1 c2 he W0
  go_wp2_with (first
    | (go_at_call 14; refine (C1.out _).mono ?_; rintro e w5 ⟨rfl, b5⟩; have D5 := F0.below b5; clear b5 F0)
    | (go_at_call 15; refine (R1.out _).mono ?_; rintro e w7 ⟨rfl, b7⟩; have D7 := D6.below b7; clear b7 D6)
    | (refine put rfl 26 (.tmp 5) _ rfl (g := g1) rfl rfl D5.one (by kernel_rfl) rfl (by simp [Value.oneCell']) D5.old D5.lo1 ?_; intro w6 hR6 hB6 hs6 ho6; have D6 : Duo w w6 g1 g2 V1 V0 := ⟨hR6, ho6 D5.two D5.ne.symm, hB6, D5.ne, D5.lo1, D5.lo2⟩; clear hR6 hB6 hs6 ho6 D5)
    | (refine put rfl 30 (.tmp 7) _ rfl (g := g2) rfl rfl D7.two (by kernel_rfl) rfl (by simp [Value.oneCell']) D7.old D7.lo2 ?_; intro W1 hR8 hB8 hs8 ho8; have D1 : Duo w W1 g1 g2 V1 V1 := ⟨ho8 D7.one D7.ne, hR8, hB8, D7.ne, D7.lo1, D7.lo2⟩; clear hR8 hB8 hs8 ho8 D7))
  have c1 : ∀ (x : Since W1) (i : Nat), x.1.cell? ⟨g1, i, none⟩ = #[.int .i64 V1.f, .int .i64 V1.k, .int .u32 V1.p0, .int .u32 V1.p1, .int .u32 V1.p2, .int .u32 V1.p3, .int .i64 V1.u, .int .u32 V1.l0, .int .u32 V1.l1, .int .u32 V1.l2][i]? := fun x i => (D1.one.below x.2 D1.one.inside).read i
  have c2 : ∀ (x : Since W1) (i : Nat), x.1.cell? ⟨g2, i, none⟩ = #[.int .i64 V1.f, .int .i64 V1.k, .int .u32 V1.p0, .int .u32 V1.p1, .int .u32 V1.p2, .int .u32 V1.p3, .int .i64 V1.u, .int .u32 V1.l0, .int .u32 V1.l1, .int .u32 V1.l2][i]? := fun x i => (D1.two.below x.2 D1.two.inside).read i
  have he := Q1.out
  refine region_since W1 (by kernel_rfl) (by kernel_rfl) (Below.refl _ _) ?_
  repeat (go_big_quiet_step ((go_at_call 13; with_reducible exact since_call (from_any V1) _)))
  refine wpQuiet_nil ?_
  rintro w4 ⟨x, hw⟩
  have F1 := D1.below (hw ▸ x.2)
  clear hw x D1 c1 c2 he W1
  go_wp2_with (first
    | (go_at_call 16; refine (C2.out _).mono ?_; rintro e w5 ⟨rfl, b5⟩; have D5 := F1.below b5; clear b5 F1)
    | (go_at_call 17; refine (R2.out _).mono ?_; rintro e w7 ⟨rfl, b7⟩; have D7 := D6.below b7; clear b7 D6)
    | (refine put rfl 26 (.tmp 5) _ rfl (g := g1) rfl rfl D5.one (by kernel_rfl) rfl (by simp [Value.oneCell']) D5.old D5.lo1 ?_; intro w6 hR6 hB6 hs6 ho6; have D6 : Duo w w6 g1 g2 V2 V1 := ⟨hR6, ho6 D5.two D5.ne.symm, hB6, D5.ne, D5.lo1, D5.lo2⟩; clear hR6 hB6 hs6 ho6 D5)
    | (refine put rfl 30 (.tmp 7) _ rfl (g := g2) rfl rfl D7.two (by kernel_rfl) rfl (by simp [Value.oneCell']) D7.old D7.lo2 ?_; intro W2 hR8 hB8 hs8 ho8; have D2 : Duo w W2 g1 g2 V2 V2 := ⟨ho8 D7.one D7.ne, hR8, hB8, D7.ne, D7.lo1, D7.lo2⟩; clear hR8 hB8 hs8 ho8 D7))
  have c1 : ∀ (x : Since W2) (i : Nat), x.1.cell? ⟨g1, i, none⟩ = #[.int .i64 V2.f, .int .i64 V2.k, .int .u32 V2.p0, .int .u32 V2.p1, .int .u32 V2.p2, .int .u32 V2.p3, .int .i64 V2.u, .int .u32 V2.l0, .int .u32 V2.l1, .int .u32 V2.l2][i]? := fun x i => (D2.one.below x.2 D2.one.inside).read i
  have c2 : ∀ (x : Since W2) (i : Nat), x.1.cell? ⟨g2, i, none⟩ = #[.int .i64 V2.f, .int .i64 V2.k, .int .u32 V2.p0, .int .u32 V2.p1, .int .u32 V2.p2, .int .u32 V2.p3, .int .i64 V2.u, .int .u32 V2.l0, .int .u32 V2.l1, .int .u32 V2.l2][i]? := fun x i => (D2.two.below x.2 D2.two.inside).read i
  have he := Q2.out
  refine region_since W2 (by kernel_rfl) (by kernel_rfl) (Below.refl _ _) ?_
  repeat (go_big_quiet_step ((go_at_call 13; with_reducible exact since_call (from_any V2) _)))
  refine wpQuiet_nil ?_
  rintro w4 ⟨x, hw⟩
  have F2 := D2.below (hw ▸ x.2)
  clear hw x D2 c1 c2 he W2
  go_wp2_with (first
    | (go_at_call 18; refine (C3.out _).mono ?_; rintro e w5 ⟨rfl, b5⟩; have D5 := F2.below b5; clear b5 F2)
    | (go_at_call 19; refine (R3.out _).mono ?_; rintro e w7 ⟨rfl, b7⟩; have D7 := D6.below b7; clear b7 D6)
    | (refine put rfl 26 (.tmp 5) _ rfl (g := g1) rfl rfl D5.one (by kernel_rfl) rfl (by simp [Value.oneCell']) D5.old D5.lo1 ?_; intro w6 hR6 hB6 hs6 ho6; have D6 : Duo w w6 g1 g2 V3 V2 := ⟨hR6, ho6 D5.two D5.ne.symm, hB6, D5.ne, D5.lo1, D5.lo2⟩; clear hR6 hB6 hs6 ho6 D5)
    | (refine put rfl 30 (.tmp 7) _ rfl (g := g2) rfl rfl D7.two (by kernel_rfl) rfl (by simp [Value.oneCell']) D7.old D7.lo2 ?_; intro W3 hR8 hB8 hs8 ho8; have D3 : Duo w W3 g1 g2 V3 V3 := ⟨ho8 D7.one D7.ne, hR8, hB8, D7.ne, D7.lo1, D7.lo2⟩; clear hR8 hB8 hs8 ho8 D7))
  have c1 : ∀ (x : Since W3) (i : Nat), x.1.cell? ⟨g1, i, none⟩ = #[.int .i64 V3.f, .int .i64 V3.k, .int .u32 V3.p0, .int .u32 V3.p1, .int .u32 V3.p2, .int .u32 V3.p3, .int .i64 V3.u, .int .u32 V3.l0, .int .u32 V3.l1, .int .u32 V3.l2][i]? := fun x i => (D3.one.below x.2 D3.one.inside).read i
  have c2 : ∀ (x : Since W3) (i : Nat), x.1.cell? ⟨g2, i, none⟩ = #[.int .i64 V3.f, .int .i64 V3.k, .int .u32 V3.p0, .int .u32 V3.p1, .int .u32 V3.p2, .int .u32 V3.p3, .int .i64 V3.u, .int .u32 V3.l0, .int .u32 V3.l1, .int .u32 V3.l2][i]? := fun x i => (D3.two.below x.2 D3.two.inside).read i
  have he := Q3.out
  refine region_since W3 (by kernel_rfl) (by kernel_rfl) (Below.refl _ _) ?_
  repeat (go_big_quiet_step ((go_at_call 13; with_reducible exact since_call (from_any V3) _)))
  refine wpQuiet_nil ?_
  rintro w4 ⟨x, hw⟩
  have F3 := D3.below (hw ▸ x.2)
  clear hw x D3 c1 c2 he W3
  go_wp2_with (first
    | (go_at_call 20; refine (C4.out _).mono ?_; rintro e w5 ⟨rfl, b5⟩; have D5 := F3.below b5; clear b5 F3)
    | (go_at_call 21; refine (R4.out _).mono ?_; rintro e w7 ⟨rfl, b7⟩; have D7 := D6.below b7; clear b7 D6)
    | (refine put rfl 26 (.tmp 5) _ rfl (g := g1) rfl rfl D5.one (by kernel_rfl) rfl (by simp [Value.oneCell']) D5.old D5.lo1 ?_; intro w6 hR6 hB6 hs6 ho6; have D6 : Duo w w6 g1 g2 V4 V3 := ⟨hR6, ho6 D5.two D5.ne.symm, hB6, D5.ne, D5.lo1, D5.lo2⟩; clear hR6 hB6 hs6 ho6 D5)
    | (refine put rfl 30 (.tmp 7) _ rfl (g := g2) rfl rfl D7.two (by kernel_rfl) rfl (by simp [Value.oneCell']) D7.old D7.lo2 ?_; intro W4 hR8 hB8 hs8 ho8; have D4 : Duo w W4 g1 g2 V4 V4 := ⟨ho8 D7.one D7.ne, hR8, hB8, D7.ne, D7.lo1, D7.lo2⟩; clear hR8 hB8 hs8 ho8 D7))
  have c1 : ∀ (x : Since W4) (i : Nat), x.1.cell? ⟨g1, i, none⟩ = #[.int .i64 V4.f, .int .i64 V4.k, .int .u32 V4.p0, .int .u32 V4.p1, .int .u32 V4.p2, .int .u32 V4.p3, .int .i64 V4.u, .int .u32 V4.l0, .int .u32 V4.l1, .int .u32 V4.l2][i]? := fun x i => (D4.one.below x.2 D4.one.inside).read i
  have c2 : ∀ (x : Since W4) (i : Nat), x.1.cell? ⟨g2, i, none⟩ = #[.int .i64 V4.f, .int .i64 V4.k, .int .u32 V4.p0, .int .u32 V4.p1, .int .u32 V4.p2, .int .u32 V4.p3, .int .i64 V4.u, .int .u32 V4.l0, .int .u32 V4.l1, .int .u32 V4.l2][i]? := fun x i => (D4.two.below x.2 D4.two.inside).read i
  have he := Q4.out
  refine region_since W4 (by kernel_rfl) (by kernel_rfl) (Below.refl _ _) ?_
  repeat (go_big_quiet_step ((go_at_call 13; with_reducible exact since_call (from_any V4) _)))
  refine wpQuiet_nil ?_
  rintro w4 ⟨x, hw⟩
  have F4 := D4.below (hw ▸ x.2)
  clear hw x D4 c1 c2 he W4
  go_wp2_with fail
  go_ret
  exact ⟨rfl, F4.old⟩
theorem walk (d n : Int) (_h : (Lit.int .i64 d).wf = true) (h : (Lit.int .u32 n).wf = true) (w : World) : Calls Try.prog 3 #[.int .i64 d, .int .u32 n] w fun e w' => e = .returned (.bool true) ∧ Below w.heap.size w w' := by
  obtain ⟨a, b⟩ := bounds_u32 h
  exact walkT d n a (by omega) w
theorem told (W : World) (args : Array Value) (h : Fed Try.prog W [3, 22] args) : Calls Try.prog 3 args W fun e W' => e = .returned (.bool true) ∧ Below W.heap.size W W' := by
  obtain ⟨v0, v1, rfl⟩ := args2 h.count
  obtain ⟨⟨_, o0⟩, r0⟩ := h.each 0 3 v0 rfl rfl
  obtain ⟨⟨_, o1⟩, r1⟩ := h.each 1 22 v1 rfl rfl
  obtain ⟨a0, q0⟩ := r0 (opens_int Try.underlying3)
  obtain ⟨rfl, w0⟩ := top_int Try.underlying3 o0 q0
  obtain ⟨a1, q1⟩ := r1 (opens_int Try.underlying22)
  obtain ⟨rfl, w1⟩ := top_int Try.underlying22 o1 q1
  exact walk a0 a1 w0 w1 W

/-! ### The row -/
theorem own : ownKnob Try.prog.godebug = none := by kernel_rfl
theorem laidOut : laidOutB Try.prog = true := by kernel_rfl
set_option maxRecDepth 100000 in
theorem lifted (os : Os) (started : os.Started) (H : Type) (enc : TypeId × Value → H) :
    ReturnsInHanded {} Try.checked os 3 .any (Rows.pathMakesSpec.pre6 enc Try.prog Try.f3 Rows.pathMakesRow.domain false) (Rows.pathMakesSpec.post enc Try.prog Try.f3 false true false false) :=
  lift (C := Try.checked) (fn := Try.f3) (tb := 4) (ts := [3, 22]) own started (by kernel_rfl) Try.func3 laidOut (by kernel_rfl) (by kernel_rfl) (by kernel_rfl) Try.underlying4 rfl
    (fun ds h => by
      match ds, h with
      | [_, _], _ => rfl)
    (ChangeSpec.witness6 (enc := enc) (C := Try.checked) false ⟨#[], #[.int .i64 0, .int .u32 0], []⟩ 8 (by kernel_rfl) (by kernel_rfl) (by kernel_rfl) (by kernel_rfl)) told

theorem over : Rows.pathMakesRow.holds Try.pinned (OpenSpec.ofChange Rows.pathMakesSpec) :=
  OpenClaim.holds_of_wide 3 Try.f3 rfl rfl rfl rfl rfl rfl rfl ⟨rfl, rfl, rfl, rfl, rfl⟩ rfl rfl rfl rfl rfl (by kernel_rfl) Try.func3 (by kernel_rfl)
    (of_decide_eq_true (by kernel_rfl)) (by unfold Func.isWrapper; first | (rw [if_pos (by decide +kernel)]; kernel_rfl) | (rw [if_neg (by decide +kernel)]; exact ⟨rfl, rfl⟩))
    (fun os started H enc _ => lifted os started H enc)

theorem proved : Rows.PathMakesSaid := over
#print axioms proved
end Go.Proofs.Ytggdcnoonmepcaa.pathMakes
