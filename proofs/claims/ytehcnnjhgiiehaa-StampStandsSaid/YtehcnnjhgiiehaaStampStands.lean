/-
  Of any two times and any number: what stamp.Check, LE, Compare and Zero answer is what the document's own functions answer; no condition.
-/
import Derived.Test.YtehcnnjhgiiehaaMv3
import Derived.Test.YtehcnnjhgiiehaaCmpR
import Derived.Test.YtehcnnjhgiiehaaLe
import Derived.Test.YtehcnnjhgiiehaaOpenT
namespace Go.Proofs.Ytehcnnjhgiiehaa.stampStands
open Go.ChangeShapes Go.WideShapes Go.ChangeAt Go.RowKit
open Go.Proofs.Ytehcnnjhgiiehaa.tm Go.Proofs.Ytehcnnjhgiiehaa.opened Go.Proofs.Ytehcnnjhgiiehaa.block Go.Proofs.Ytehcnnjhgiiehaa.stamp

theorem since_reads {W : World} {g : Nat} {a b c d e : Value} (h : Whole W g 25 #[a, b, c, d, e]) :
    (∀ x : Since W, x.1.cell? ⟨g, 0, none⟩ = some a) ∧ (∀ x : Since W, x.1.cell? ⟨g, 1, none⟩ = some b) ∧ (∀ x : Since W, x.1.cell? ⟨g, 2, none⟩ = some c) ∧ (∀ x : Since W, x.1.cell? ⟨g, 3, none⟩ = some d) ∧ (∀ x : Since W, x.1.cell? ⟨g, 4, none⟩ = some e) :=
  ⟨fun x => (h.below x.2 h.inside).read 0, fun x => (h.below x.2 h.inside).read 1, fun x => (h.below x.2 h.inside).read 2, fun x => (h.below x.2 h.inside).read 3, fun x => (h.below x.2 h.inside).read 4⟩
set_option maxRecDepth 100000 in
set_option maxHeartbeats 1000000 in
theorem walkT (a b : Tm) (n : Int) (i : a.In) (j : b.In) (w : World) : Calls Try.prog 3 #[.agg #[.int .u32 a.e, .int .i64 a.d, .int .u32 a.a, .int .u32 a.b, .int .u32 a.c], .agg #[.int .u32 b.e, .int .i64 b.d, .int .u32 b.a, .int .u32 b.b, .int .u32 b.c], .int .i64 n] w fun e w' => e = .returned (.bool true) ∧ Below w.heap.size w w' := by
  go_enter Try.func3, Try.ntmps3
  go_wp2_with fail
  refine (zero_any n _).mono ?_
  rintro e w1 ⟨rfl, b1⟩
  go_wp2_with fail
  refine (zeroR_any n _).mono ?_
  rintro e w2 ⟨rfl, b2⟩
  go_wp2_with fail
  generalize zeroV n = J at b2 ⊢
  have hA : Whole (w2.alloc (.cells #[.int .u32 J.e, .int .i64 J.d, .int .u32 J.a, .int .u32 J.b, .int .u32 J.c] 25)) w.heap.size 25 #[.int .u32 a.e, .int .i64 a.d, .int .u32 a.a, .int .u32 a.b, .int .u32 a.c] := (((((Whole.fresh w 25 _).alloc _).below b1 (by simp; omega)).alloc _).below b2 (by have := b1.size; simp at this ⊢; omega)).alloc _
  have hB : Whole (w2.alloc (.cells #[.int .u32 J.e, .int .i64 J.d, .int .u32 J.a, .int .u32 J.b, .int .u32 J.c] 25)) (w.heap.size + 1) 25 #[.int .u32 b.e, .int .i64 b.d, .int .u32 b.a, .int .u32 b.b, .int .u32 b.c] := by
    have k := Whole.fresh (w.alloc (.cells #[.int .u32 a.e, .int .i64 a.d, .int .u32 a.a, .int .u32 a.b, .int .u32 a.c] 25)) 25 #[.int .u32 b.e, .int .i64 b.d, .int .u32 b.a, .int .u32 b.b, .int .u32 b.c]
    rw [World.size_alloc] at k
    exact (((k.below b1 (by simp)).alloc _).below b2 (by have := b1.size; simp at this ⊢; omega)).alloc _
  have hX : Whole (w2.alloc (.cells #[.int .u32 J.e, .int .i64 J.d, .int .u32 J.a, .int .u32 J.b, .int .u32 J.c] 25)) w1.heap.size 25 #[.int .u32 J.e, .int .i64 J.d, .int .u32 J.a, .int .u32 J.b, .int .u32 J.c] := ((Whole.fresh w1 25 _).below b2 (by simp)).alloc _
  have hY : Whole (w2.alloc (.cells #[.int .u32 J.e, .int .i64 J.d, .int .u32 J.a, .int .u32 J.b, .int .u32 J.c] 25)) w2.heap.size 25 #[.int .u32 J.e, .int .i64 J.d, .int .u32 J.a, .int .u32 J.b, .int .u32 J.c] := Whole.fresh w2 25 _
  have hW : Below w.heap.size w (w2.alloc (.cells #[.int .u32 J.e, .int .i64 J.d, .int .u32 J.a, .int .u32 J.b, .int .u32 J.c] 25)) := ((over2 b1).trans ((over1 b2).mono (by have := b1.size; simp at this; omega))).alloc (by have := b1.size; have := b2.size; simp at *; omega) _
  clear b1 b2
  generalize w2.alloc (.cells #[.int .u32 J.e, .int .i64 J.d, .int .u32 J.a, .int .u32 J.b, .int .u32 J.c] 25) = W at hA hB hX hY hW ⊢
  generalize w1.heap.size = g1 at hX ⊢
  generalize w2.heap.size = g2 at hY ⊢
  obtain ⟨p0, p1, p2, p3, p4⟩ := since_reads hA
  obtain ⟨q0, q1, q2, q3, q4⟩ := since_reads hB
  obtain ⟨r0, r1, r2, r3, r4⟩ := since_reads hX
  obtain ⟨s0, s1, s2, s3, s4⟩ := since_reads hY
  clear hA hB hX hY
  have he := run_eq_yes J
  refine region_since W (by kernel_rfl) (by kernel_rfl) (Below.refl _ _) ?_
  repeat (go_big_quiet_step ((first | (go_at_call 8; exact since_call (check_any a i) _) | (go_at_call 9; exact since_call (checkR_any a i) _) | (go_at_call 10; exact since_call (le_any a b i j) _) | (go_at_call 11; exact since_call (leR_any a b i j) _) | (go_at_call 12; exact since_call (compare_any a b i j) _) | (go_at_call 13; exact since_call (compareR_any a b i j) _))))
  refine wpQuiet_nil ?_
  rintro w4 ⟨x, hw⟩
  have b4 : Below w.heap.size w w4 := hw ▸ hW.trans (x.2.mono hW.size)
  clear hw x
  go_wp2
  go_ret
  exact ⟨rfl, b4⟩
theorem walk (a b : Tm) (n : Int) (i : a.In) (j : b.In) (_h : (Lit.int .i64 n).wf = true) (w : World) : Calls Try.prog 3 #[.agg #[.int .u32 a.e, .int .i64 a.d, .int .u32 a.a, .int .u32 a.b, .int .u32 a.c], .agg #[.int .u32 b.e, .int .i64 b.d, .int .u32 b.a, .int .u32 b.b, .int .u32 b.c], .int .i64 n] w fun e w' => e = .returned (.bool true) ∧ Below w.heap.size w w' := walkT a b n i j w
theorem told (W : World) (args : Array Value) (h : Fed Try.prog W [25, 25, 3] args) : Calls Try.prog 3 args W fun e W' => e = .returned (.bool true) ∧ Below W.heap.size W W' := by
  obtain ⟨v0, v1, v2, rfl⟩ := args3 h.count
  obtain ⟨⟨_, o0⟩, r0⟩ := h.each 0 25 v0 rfl rfl
  obtain ⟨⟨_, o1⟩, r1⟩ := h.each 1 25 v1 rfl rfl
  obtain ⟨⟨_, o2⟩, r2⟩ := h.each 2 3 v2 rfl rfl
  obtain ⟨a0, q0⟩ := r0 opens_time
  obtain ⟨t0, i0, rfl⟩ := top_time o0 q0
  obtain ⟨a1, q1⟩ := r1 opens_time
  obtain ⟨t1, i1, rfl⟩ := top_time o1 q1
  obtain ⟨a2, q2⟩ := r2 (opens_int Try.underlying3)
  obtain ⟨rfl, w2⟩ := top_int Try.underlying3 o2 q2
  exact walk t0 t1 a2 i0 i1 w2 W

/-! ### The row -/
theorem own : ownKnob Try.prog.godebug = none := by kernel_rfl
theorem laidOut : laidOutB Try.prog = true := by kernel_rfl
set_option maxRecDepth 100000 in
theorem lifted (os : Os) (started : os.Started) (H : Type) (enc : TypeId × Value → H) :
    ReturnsInHanded {} Try.checked os 3 .any (Rows.stampStandsSpec.pre6 enc Try.prog Try.f3 Rows.stampStandsRow.domain false) (Rows.stampStandsSpec.post enc Try.prog Try.f3 false true false false) :=
  lift (C := Try.checked) (fn := Try.f3) (tb := 4) (ts := [25, 25, 3]) own started (by kernel_rfl) Try.func3 laidOut (by kernel_rfl) (by kernel_rfl) (by kernel_rfl) Try.underlying4 rfl
    (fun ds h => by
      match ds, h with
      | [_, _, _], _ => rfl)
    (ChangeSpec.witness6 (enc := enc) (C := Try.checked) false ⟨#[], #[.agg #[.int .u32 0, .int .i64 0, .int .u32 0, .int .u32 0, .int .u32 0], .agg #[.int .u32 0, .int .i64 0, .int .u32 0, .int .u32 0, .int .u32 0], .int .i64 0], []⟩ 8 (by kernel_rfl) (by kernel_rfl) (by kernel_rfl) (by kernel_rfl)) told

theorem over : Rows.stampStandsRow.holds Try.pinned (OpenSpec.ofChange Rows.stampStandsSpec) :=
  OpenClaim.holds_of_wide 3 Try.f3 rfl rfl rfl rfl rfl rfl rfl ⟨rfl, rfl, rfl, rfl, rfl⟩ rfl rfl rfl rfl rfl (by kernel_rfl) Try.func3 (by kernel_rfl)
    (of_decide_eq_true (by kernel_rfl)) (by unfold Func.isWrapper; first | (rw [if_pos (by decide +kernel)]; kernel_rfl) | (rw [if_neg (by decide +kernel)]; exact ⟨rfl, rfl⟩))
    (fun os started H enc _ => lifted os started H enc)

theorem proved : Rows.StampStandsSaid := over
#print axioms proved
end Go.Proofs.Ytehcnnjhgiiehaa.stampStands
