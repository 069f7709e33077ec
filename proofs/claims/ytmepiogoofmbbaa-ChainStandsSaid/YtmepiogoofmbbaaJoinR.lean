/-
  The contracts of watershedref04.Join and watershedref04.Meet.
-/
import Derived.Test.YtmepiogoofmbbaaBoth
import Derived.BigRegion
import Derived.Deep.DeepCutAuto
namespace Go.Proofs.Ytmepiogoofmbbaa.stamp
open Go.ChangeShapes Go.WideShapes Go.ChangeAt Go.RowKit
open Go.Proofs.Ytmepiogoofmbbaa.tm Go.Proofs.Ytmepiogoofmbbaa.opened Go.Proofs.Ytmepiogoofmbbaa.block

/-- So many rounds are merged. -/
def mrg (f : Int → Int → Int) (s t : Tm) : Nat → Tm
  | 0 => ⟨f s.e t.e, s.d, s.a, s.b, s.c⟩
  | 1 => ⟨f s.e t.e, s.d, f s.a t.a, s.b, s.c⟩
  | 2 => ⟨f s.e t.e, s.d, f s.a t.a, f s.b t.b, s.c⟩
  | _ => ⟨f s.e t.e, s.d, f s.a t.a, f s.b t.b, f s.c t.c⟩
theorem run_maxI (ts : Array TypeId) (t : TypeId) (x y : Int) (w : World) : (Builtin.max_ ts t #[.int .u32 x, .int .u32 y]).run Try.prog w = .ok (.int .u32 (maxI x y)) w := run_max_int2 w ts t .u32 .u32 x y
theorem run_minI (ts : Array TypeId) (t : TypeId) (x y : Int) (w : World) : (Builtin.min_ ts t #[.int .u32 x, .int .u32 y]).run Try.prog w = .ok (.int .u32 (minI x y)) w := run_min_int2 w ts t .u32 .u32 x y
theorem facts5 {w : World} {g : Nat} {a b c d e : Value} (h : Whole w g 26 #[a, b, c, d, e]) :
    w.cell? ⟨g, 0, none⟩ = some a ∧ w.cell? ⟨g, 1, none⟩ = some b ∧ w.cell? ⟨g, 2, none⟩ = some c ∧ w.cell? ⟨g, 3, none⟩ = some d ∧ w.cell? ⟨g, 4, none⟩ = some e ∧
    w.frozen? ⟨g, 0, none⟩ = false ∧ w.frozen? ⟨g, 1, none⟩ = false ∧ w.frozen? ⟨g, 2, none⟩ = false ∧ w.frozen? ⟨g, 3, none⟩ = false ∧ w.frozen? ⟨g, 4, none⟩ = false :=
  ⟨h.read 0, h.read 1, h.read 2, h.read 3, h.read 4, h.soft 0, h.soft 1, h.soft 2, h.soft 3, h.soft 4⟩
/-- Three blocks are known: two times, and a third one that is nought. -/
structure Three (wr : World) (g : Nat) (s t : Tm) : Prop where
  one : Whole wr g 26 #[.int .u32 s.e, .int .i64 s.d, .int .u32 s.a, .int .u32 s.b, .int .u32 s.c]
  two : Whole wr (g + 1) 26 #[.int .u32 t.e, .int .i64 t.d, .int .u32 t.a, .int .u32 t.b, .int .u32 t.c]
  three : Whole wr (g + 1 + 1) 26 #[.int .u32 0, .int .i64 0, .int .u32 0, .int .u32 0, .int .u32 0]
theorem three_of {w w1 : World} {s t : Tm} (b1 : Below (((w.alloc (.cells #[.int .u32 s.e, .int .i64 s.d, .int .u32 s.a, .int .u32 s.b, .int .u32 s.c] 26)).alloc (.cells #[.int .u32 t.e, .int .i64 t.d, .int .u32 t.a, .int .u32 t.b, .int .u32 t.c] 26)).alloc (.cells #[.int .u32 0, .int .i64 0, .int .u32 0, .int .u32 0, .int .u32 0] 26)).heap.size (((w.alloc (.cells #[.int .u32 s.e, .int .i64 s.d, .int .u32 s.a, .int .u32 s.b, .int .u32 s.c] 26)).alloc (.cells #[.int .u32 t.e, .int .i64 t.d, .int .u32 t.a, .int .u32 t.b, .int .u32 t.c] 26)).alloc (.cells #[.int .u32 0, .int .i64 0, .int .u32 0, .int .u32 0, .int .u32 0] 26)) w1) :
    Three w1 w.heap.size s t ∧ Below w.heap.size w w1 := by
  refine ⟨⟨?_, ?_, ?_⟩, ?_⟩
  · exact Whole.below (Whole.alloc (Whole.alloc (Whole.fresh w 26 _) _) _) b1 (by simp; omega)
  · have k := Whole.fresh (w.alloc (.cells #[.int .u32 s.e, .int .i64 s.d, .int .u32 s.a, .int .u32 s.b, .int .u32 s.c] 26)) 26 #[.int .u32 t.e, .int .i64 t.d, .int .u32 t.a, .int .u32 t.b, .int .u32 t.c]
    rw [World.size_alloc] at k
    exact Whole.below (Whole.alloc k _) b1 (by simp)
  · have k := Whole.fresh ((w.alloc (.cells #[.int .u32 s.e, .int .i64 s.d, .int .u32 s.a, .int .u32 s.b, .int .u32 s.c] 26)).alloc (.cells #[.int .u32 t.e, .int .i64 t.d, .int .u32 t.a, .int .u32 t.b, .int .u32 t.c] 26)) 26 #[.int .u32 0, .int .i64 0, .int .u32 0, .int .u32 0, .int .u32 0]
    rw [World.size_alloc, World.size_alloc] at k
    exact Whole.below k b1 (by simp)
  · exact (((((Below.refl w.heap.size w).alloc (Nat.le_refl _) _).alloc (by simp) _).alloc (by simp; omega) _)).trans (b1.mono (by simp; omega))
theorem Three.facts {wr : World} {g : Nat} {s t : Tm} (h : Three wr g s t) :
    (wr.cell? ⟨g, 0, none⟩ = some (.int .u32 s.e) ∧ wr.cell? ⟨g, 1, none⟩ = some (.int .i64 s.d) ∧ wr.cell? ⟨g, 2, none⟩ = some (.int .u32 s.a) ∧ wr.cell? ⟨g, 3, none⟩ = some (.int .u32 s.b) ∧ wr.cell? ⟨g, 4, none⟩ = some (.int .u32 s.c) ∧
    wr.frozen? ⟨g, 0, none⟩ = false ∧ wr.frozen? ⟨g, 1, none⟩ = false ∧ wr.frozen? ⟨g, 2, none⟩ = false ∧ wr.frozen? ⟨g, 3, none⟩ = false ∧ wr.frozen? ⟨g, 4, none⟩ = false) ∧
    (wr.cell? ⟨g + 1, 0, none⟩ = some (.int .u32 t.e) ∧ wr.cell? ⟨g + 1, 1, none⟩ = some (.int .i64 t.d) ∧ wr.cell? ⟨g + 1, 2, none⟩ = some (.int .u32 t.a) ∧ wr.cell? ⟨g + 1, 3, none⟩ = some (.int .u32 t.b) ∧ wr.cell? ⟨g + 1, 4, none⟩ = some (.int .u32 t.c) ∧
    wr.frozen? ⟨g + 1, 0, none⟩ = false ∧ wr.frozen? ⟨g + 1, 1, none⟩ = false ∧ wr.frozen? ⟨g + 1, 2, none⟩ = false ∧ wr.frozen? ⟨g + 1, 3, none⟩ = false ∧ wr.frozen? ⟨g + 1, 4, none⟩ = false) ∧
    (wr.cell? ⟨g + 1 + 1, 0, none⟩ = some (.int .u32 0) ∧ wr.cell? ⟨g + 1 + 1, 1, none⟩ = some (.int .i64 0) ∧ wr.cell? ⟨g + 1 + 1, 2, none⟩ = some (.int .u32 0) ∧ wr.cell? ⟨g + 1 + 1, 3, none⟩ = some (.int .u32 0) ∧ wr.cell? ⟨g + 1 + 1, 4, none⟩ = some (.int .u32 0) ∧
    wr.frozen? ⟨g + 1 + 1, 0, none⟩ = false ∧ wr.frozen? ⟨g + 1 + 1, 1, none⟩ = false ∧ wr.frozen? ⟨g + 1 + 1, 2, none⟩ = false ∧ wr.frozen? ⟨g + 1 + 1, 3, none⟩ = false ∧ wr.frozen? ⟨g + 1 + 1, 4, none⟩ = false) :=
  ⟨facts5 h.one, facts5 h.two, facts5 h.three⟩
/-- A whole time is stored into a block that is known whole. -/
theorem five {w : World} {g : Nat} {a b c d e : Value} (h : Whole w g 26 #[a, b, c, d, e]) (v0 v1 v2 v3 v4 : Value) :
    Whole (((((w.setCell ⟨g, 0, none⟩ v0).setCell ⟨g, 1, none⟩ v1).setCell ⟨g, 2, none⟩ v2).setCell ⟨g, 3, none⟩ v3).setCell ⟨g, 4, none⟩ v4) g 26 #[v0, v1, v2, v3, v4] := ((((h.store 0 v0).store 1 v1).store 2 v2).store 3 v3).store 4 v4
theorem Three.put0 {wr : World} {g : Nat} {s t : Tm} (h : Three wr g s t) (x : Int) : Three (wr.setCell ⟨g, 0, none⟩ (.int .u32 x)) g ⟨x, s.d, s.a, s.b, s.c⟩ t := ⟨h.one.store 0 _, h.two.aside (by simp) _, h.three.aside (by simp; omega) _⟩
theorem Three.put2 {wr : World} {g : Nat} {s t : Tm} (h : Three wr g s t) (x : Int) : Three (wr.setCell ⟨g, 2, none⟩ (.int .u32 x)) g ⟨s.e, s.d, x, s.b, s.c⟩ t := ⟨h.one.store 2 _, h.two.aside (by simp) _, h.three.aside (by simp; omega) _⟩
theorem Three.put3 {wr : World} {g : Nat} {s t : Tm} (h : Three wr g s t) (x : Int) : Three (wr.setCell ⟨g, 3, none⟩ (.int .u32 x)) g ⟨s.e, s.d, s.a, x, s.c⟩ t := ⟨h.one.store 3 _, h.two.aside (by simp) _, h.three.aside (by simp; omega) _⟩
theorem Three.put4 {wr : World} {g : Nat} {s t : Tm} (h : Three wr g s t) (x : Int) : Three (wr.setCell ⟨g, 4, none⟩ (.int .u32 x)) g ⟨s.e, s.d, s.a, s.b, x⟩ t := ⟨h.one.store 4 _, h.two.aside (by simp) _, h.three.aside (by simp; omega) _⟩
theorem Three.drew {wr : World} {g : Nat} {s t : Tm} (h : Three wr g s t) : Three wr.drew g s t := ⟨h.one, h.two, h.three⟩
set_option maxHeartbeats 1000000 in
theorem joinR_good (s t : Tm) (i : s.In) (j : t.In) (h : both s t = 0) (w : World) : Calls Try.prog 67 #[.agg #[.int .u32 s.e, .int .i64 s.d, .int .u32 s.a, .int .u32 s.b, .int .u32 s.c], .agg #[.int .u32 t.e, .int .i64 t.d, .int .u32 t.a, .int .u32 t.b, .int .u32 t.c]] w fun e w' => e = .returned (.tuple #[.agg #[.int .u32 (mrg maxI s t 3).e, .int .i64 (mrg maxI s t 3).d, .int .u32 (mrg maxI s t 3).a, .int .u32 (mrg maxI s t 3).b, .int .u32 (mrg maxI s t 3).c], .int .i64 0]) ∧ Below w.heap.size w w' := by
  have HB := Lib.hid h
  clear h
  have hm := run_maxI
  go_enter Try.func67, Try.ntmps67
  go_wp2_with fail
  refine (bothR_is _ _ i j HB.out _).mono ?_
  rintro e w1 ⟨rfl, b1⟩
  obtain ⟨h3, b2⟩ := three_of b1
  clear b1 HB i j
  generalize hg : w.heap.size = g at h3 b2 ⊢
  have HG := Lib.hid hg
  clear hg
  obtain ⟨⟨p0, p1, p2, p3, p4, pf0, pf1, pf2, pf3, pf4⟩, ⟨q0, q1, q2, q3, q4, qf0, qf1, qf2, qf3, qf4⟩, ⟨r0, r1, r2, r3, r4, rf0, rf1, rf2, rf3, rf4⟩⟩ := h3.facts
  go_wp2
  clear p0 p1 p2 p3 p4 pf0 pf1 pf2 pf3 pf4 q0 q1 q2 q3 q4 qf0 qf1 qf2 qf3 qf4 r0 r1 r2 r3 r4 rf0 rf1 rf2 rf3 rf4
  go_loopw [7] (fun i wr => ∃ k : Nat, k ≤ 3 ∧ i = .int .i64 k ∧ Three wr g (mrg maxI s t k) t ∧ Below g w wr) (fun i _ => (3 - intOf i).toNat)
  case atStart => exact ⟨0, by omega, rfl, h3.put0 _, b2.setCell (Nat.le_refl _) _⟩
  case round =>
    clear h3 b2
    obtain ⟨k, hk, rfl, ht, hb⟩ := hrel
    obtain rfl | rfl | rfl | rfl : k = 0 ∨ k = 1 ∨ k = 2 ∨ k = 3 := by omega
    · obtain ⟨⟨p0, p1, p2, p3, p4, pf0, pf1, pf2, pf3, pf4⟩, ⟨q0, q1, q2, q3, q4, qf0, qf1, qf2, qf3, qf4⟩, ⟨r0, r1, r2, r3, r4, rf0, rf1, rf2, rf3, rf4⟩⟩ := ht.facts
      go_wp2_with fail
      go_region
      go_wp2
      go_roundw
      case rel => exact ⟨1, by omega, by go_num, (ht.put2 _).drew, (hb.setCell (Nat.le_refl _) _).drew⟩
      case measure => simp [intOf]
    · obtain ⟨⟨p0, p1, p2, p3, p4, pf0, pf1, pf2, pf3, pf4⟩, ⟨q0, q1, q2, q3, q4, qf0, qf1, qf2, qf3, qf4⟩, ⟨r0, r1, r2, r3, r4, rf0, rf1, rf2, rf3, rf4⟩⟩ := ht.facts
      go_wp2_with fail
      go_region
      go_wp2
      go_roundw
      case rel => exact ⟨2, by omega, by go_num, (ht.put3 _).drew, (hb.setCell (Nat.le_refl _) _).drew⟩
      case measure => simp [intOf]
    · obtain ⟨⟨p0, p1, p2, p3, p4, pf0, pf1, pf2, pf3, pf4⟩, ⟨q0, q1, q2, q3, q4, qf0, qf1, qf2, qf3, qf4⟩, ⟨r0, r1, r2, r3, r4, rf0, rf1, rf2, rf3, rf4⟩⟩ := ht.facts
      go_wp2_with fail
      go_region
      go_wp2
      go_roundw
      case rel => exact ⟨3, by omega, by go_num, (ht.put4 _).drew, (hb.setCell (Nat.le_refl _) _).drew⟩
      case measure => simp [intOf]
    · obtain ⟨⟨p0, p1, p2, p3, p4, pf0, pf1, pf2, pf3, pf4⟩, ⟨q0, q1, q2, q3, q4, qf0, qf1, qf2, qf3, qf4⟩, ⟨r0, r1, r2, r3, r4, rf0, rf1, rf2, rf3, rf4⟩⟩ := ht.facts
      go_wp2
      exact bodyPost_ret (v := .tuple #[.agg #[.int .u32 (mrg maxI s t 3).e, .int .i64 (mrg maxI s t 3).d, .int .u32 (mrg maxI s t 3).a, .int .u32 (mrg maxI s t 3).b, .int .u32 (mrg maxI s t 3).c], .int .i64 0]) (by obtain ⟨z0, z1, z2, z3, z4, -⟩ := facts5 (five ht.three (.int .u32 (mrg maxI s t 3).e) (.int .i64 (mrg maxI s t 3).d) (.int .u32 (mrg maxI s t 3).a) (.int .u32 (mrg maxI s t 3).b) (.int .u32 (mrg maxI s t 3).c)); simp [results, Try.results67, go_sem, z0, z1, z2, z3, z4]) rfl ⟨rfl, by
        have := HG.out
        subst this
        repeat (with_reducible refine Below.setCell ?_ (by simp; omega) _)
        exact hb⟩
theorem joinR_bad (s t : Tm) (i : s.In) (j : t.In) (h : both s t ≠ 0) (w : World) : Calls Try.prog 67 #[.agg #[.int .u32 s.e, .int .i64 s.d, .int .u32 s.a, .int .u32 s.b, .int .u32 s.c], .agg #[.int .u32 t.e, .int .i64 t.d, .int .u32 t.a, .int .u32 t.b, .int .u32 t.c]] w fun e w' => e = .returned (.tuple #[.agg #[.int .u32 T0.e, .int .i64 T0.d, .int .u32 T0.a, .int .u32 T0.b, .int .u32 T0.c], .int .i64 (both s t)]) ∧ Below w.heap.size w w' := by
  generalize hE : both s t = E at h
  have h' : (E != 0) = true := by simpa using h
  clear h
  have HE := Lib.hid hE
  clear hE
  go_enter Try.func67, Try.ntmps67
  go_wp2_with fail
  refine (bothR_is _ _ i j HE.out _).mono ?_
  rintro e w1 ⟨rfl, b1⟩
  obtain ⟨h3, b2⟩ := three_of b1
  clear b1
  generalize hg : w.heap.size = g at h3 b2 ⊢
  have HG := Lib.hid hg
  clear hg
  obtain ⟨⟨p0, p1, p2, p3, p4, pf0, pf1, pf2, pf3, pf4⟩, ⟨q0, q1, q2, q3, q4, qf0, qf1, qf2, qf3, qf4⟩, ⟨r0, r1, r2, r3, r4, rf0, rf1, rf2, rf3, rf4⟩⟩ := h3.facts
  clear i j
  go_wp2
  exact bodyPost_ret (v := .tuple #[.agg #[.int .u32 T0.e, .int .i64 T0.d, .int .u32 T0.a, .int .u32 T0.b, .int .u32 T0.c], .int .i64 E]) (by obtain ⟨z0, z1, z2, z3, z4, -⟩ := facts5 (five h3.three (.int .u32 0) (.int .i64 0) (.int .u32 0) (.int .u32 0) (.int .u32 0)); simp [results, Try.results67, go_sem, z0, z1, z2, z3, z4, T0]) rfl ⟨rfl, by
    have := HG.out
    subst this
    repeat (with_reducible refine Below.setCell ?_ (by simp; omega) _)
    exact b2⟩
theorem joinR_any (s t : Tm) (i : s.In) (j : t.In) (w : World) : Calls Try.prog 67 #[.agg #[.int .u32 s.e, .int .i64 s.d, .int .u32 s.a, .int .u32 s.b, .int .u32 s.c], .agg #[.int .u32 t.e, .int .i64 t.d, .int .u32 t.a, .int .u32 t.b, .int .u32 t.c]] w fun e w' => e = .returned (.tuple #[.agg #[.int .u32 (joinV s t).e, .int .i64 (joinV s t).d, .int .u32 (joinV s t).a, .int .u32 (joinV s t).b, .int .u32 (joinV s t).c], .int .i64 (both s t)]) ∧ Below w.heap.size w w' := by
  by_cases h : both s t = 0
  · rw [show joinV s t = mrg maxI s t 3 by simp [joinV, h, mrg], h]
    exact joinR_good s t i j h w
  · rw [show joinV s t = T0 by simp [joinV, h]]
    exact joinR_bad s t i j h w
end Go.Proofs.Ytmepiogoofmbbaa.stamp
