/-
  The contracts of Join and Meet.
  The contracts of watershedref04.Join and watershedref04.Meet.
  The contracts of stamp.merge at either function, and of Join and Meet.
  The contracts of stamp.merge with the lesser of two.
  The contracts of Join and Meet.
-/
import Derived.Test.YtmepiogoofmbbaaDoorGB
import Derived.Deep.RegionWith
import Derived.BigRegion
import Derived.Deep.DeepCutAuto
import Derived.Deep.RegionHeld3
namespace Go.Proofs.YtmepiogoofmbbaaDoor.stamp
open Go.ChangeShapes Go.WideShapes Go.ChangeAt Go.RowKit
open Go.Proofs.YtmepiogoofmbbaaDoor.tm Go.Proofs.YtmepiogoofmbbaaDoor.opened Go.Proofs.YtmepiogoofmbbaaDoor.block

theorem sz2 {w w1 : World} {o o' : Obj} (b1 : Below ((w.alloc o).alloc o').heap.size ((w.alloc o).alloc o') w1) : w.heap.size + 1 < w1.heap.size ∧ w.heap.size < w1.heap.size := by
  have := b1.size
  simp at this
  omega
theorem then2 {w w1 w2 : World} {o o' : Obj} (b1 : Below ((w.alloc o).alloc o').heap.size ((w.alloc o).alloc o') w1) (b2 : Below w1.heap.size w1 w2) : Below w.heap.size w w2 := then_below (over2 b1) b2
theorem both_first (s t : Tm) (i : s.In) (_j : t.In) (h : chk s ≠ 0) (w : World) : Calls Tryd.prog 72 #[.agg #[.int .u32 s.e, .int .i64 s.d, .int .u32 s.a, .int .u32 s.b, .int .u32 s.c], .agg #[.int .u32 t.e, .int .i64 t.d, .int .u32 t.a, .int .u32 t.b, .int .u32 t.c]] w fun e w' => e = .returned (.int .i64 (chk s)) ∧ Below w.heap.size w w' := by
  generalize hE : chk s = E at h
  have h' : (E != 0) = true := by simpa using h
  have h2 : (E == 0) = false := by simpa using h
  clear h
  have HS := Lib.hid hE
  clear hE
  go_enter Tryd.func72, Tryd.ntmps72
  go_wp2_with ((go_at_call 46; with_reducible refine (check_is _ i HS.out _).mono ?_; rintro e w1 ⟨rfl, b1⟩; obtain ⟨hc, hf⟩ := bcell b1; obtain ⟨hz, hz0⟩ := sz2 b1))
  go_ret
  exact ⟨rfl, over2 b1⟩
theorem both_second (s t : Tm) (i : s.In) (j : t.In) (k : chk s = 0) (h : chk t ≠ 0) (w : World) : Calls Tryd.prog 72 #[.agg #[.int .u32 s.e, .int .i64 s.d, .int .u32 s.a, .int .u32 s.b, .int .u32 s.c], .agg #[.int .u32 t.e, .int .i64 t.d, .int .u32 t.a, .int .u32 t.b, .int .u32 t.c]] w fun e w' => e = .returned (.int .i64 (chk t)) ∧ Below w.heap.size w w' := by
  have HS := Lib.hid k
  clear k
  generalize hE : chk t = E at h
  have h' : (E != 0) = true := by simpa using h
  have h2 : (E == 0) = false := by simpa using h
  clear h
  have HT := Lib.hid hE
  clear hE
  go_enter Tryd.func72, Tryd.ntmps72
  go_wp2_with (first | (go_at_call 46; with_reducible refine (check_is _ i HS.out _).mono ?_; rintro e w1 ⟨rfl, b1⟩; obtain ⟨hc, hf⟩ := bcell b1; obtain ⟨hz, hz0⟩ := sz2 b1) | (go_at_call 46; with_reducible refine (check_is _ j HT.out _).mono ?_; rintro e w2 ⟨rfl, b2⟩; obtain ⟨hc2, hf2⟩ := bcell b2))
  go_ret
  exact ⟨rfl, then2 b1 b2⟩
theorem both_third (s t : Tm) (i : s.In) (j : t.In) (k : chk s = 0) (h : chk t = 0) (hd : s.d ≠ t.d) (w : World) : Calls Tryd.prog 72 #[.agg #[.int .u32 s.e, .int .i64 s.d, .int .u32 s.a, .int .u32 s.b, .int .u32 s.c], .agg #[.int .u32 t.e, .int .i64 t.d, .int .u32 t.a, .int .u32 t.b, .int .u32 t.c]] w fun e w' => e = .returned (.int .i64 10) ∧ Below w.heap.size w w' := by
  have HS := Lib.hid k
  have HT := Lib.hid h
  have hd' : (s.d != t.d) = true := by simpa using hd
  clear k h hd
  go_enter Tryd.func72, Tryd.ntmps72
  go_wp2_with (first | (go_at_call 46; with_reducible refine (check_is _ i HS.out _).mono ?_; rintro e w1 ⟨rfl, b1⟩; obtain ⟨hc, hf⟩ := bcell b1; obtain ⟨hz, hz0⟩ := sz2 b1) | (go_at_call 46; with_reducible refine (check_is _ j HT.out _).mono ?_; rintro e w2 ⟨rfl, b2⟩; obtain ⟨hc2, hf2⟩ := bcell b2))
  go_ret
  exact ⟨rfl, then2 b1 b2⟩
theorem both_none (s t : Tm) (i : s.In) (j : t.In) (k : chk s = 0) (h : chk t = 0) (hd : s.d = t.d) (w : World) : Calls Tryd.prog 72 #[.agg #[.int .u32 s.e, .int .i64 s.d, .int .u32 s.a, .int .u32 s.b, .int .u32 s.c], .agg #[.int .u32 t.e, .int .i64 t.d, .int .u32 t.a, .int .u32 t.b, .int .u32 t.c]] w fun e w' => e = .returned (.int .i64 0) ∧ Below w.heap.size w w' := by
  have HS := Lib.hid k
  have HT := Lib.hid h
  have hd' : (s.d != t.d) = false := by simpa using hd
  clear k h hd
  go_enter Tryd.func72, Tryd.ntmps72
  go_wp2_with (first | (go_at_call 46; with_reducible refine (check_is _ i HS.out _).mono ?_; rintro e w1 ⟨rfl, b1⟩; obtain ⟨hc, hf⟩ := bcell b1; obtain ⟨hz, hz0⟩ := sz2 b1) | (go_at_call 46; with_reducible refine (check_is _ j HT.out _).mono ?_; rintro e w2 ⟨rfl, b2⟩; obtain ⟨hc2, hf2⟩ := bcell b2))
  go_ret
  exact ⟨rfl, then2 b1 b2⟩
theorem both_any (s t : Tm) (i : s.In) (j : t.In) (w : World) : Calls Tryd.prog 72 #[.agg #[.int .u32 s.e, .int .i64 s.d, .int .u32 s.a, .int .u32 s.b, .int .u32 s.c], .agg #[.int .u32 t.e, .int .i64 t.d, .int .u32 t.a, .int .u32 t.b, .int .u32 t.c]] w fun e w' => e = .returned (.int .i64 (both s t)) ∧ Below w.heap.size w w' := by
  by_cases h : chk s = 0
  · by_cases k : chk t = 0
    · by_cases hd : s.d = t.d
      · rw [show both s t = 0 by simp [both, h, k, hd]]
        exact both_none s t i j h k hd w
      · rw [show both s t = 10 by simp [both, h, k, hd]]
        exact both_third s t i j h k hd w
    · rw [show both s t = chk t by simp [both, h, k]]
      exact both_second s t i j h k w
  · rw [show both s t = chk s by simp [both, h]]
    exact both_first s t i j h w
theorem both_is (s t : Tm) (i : s.In) (j : t.In) {E : Int} (h : both s t = E) (w : World) : Calls Tryd.prog 72 #[.agg #[.int .u32 s.e, .int .i64 s.d, .int .u32 s.a, .int .u32 s.b, .int .u32 s.c], .agg #[.int .u32 t.e, .int .i64 t.d, .int .u32 t.a, .int .u32 t.b, .int .u32 t.c]] w fun e w' => e = .returned (.int .i64 E) ∧ Below w.heap.size w w' := by
  have k := both_any s t i j w
  rw [h] at k
  exact k
end Go.Proofs.YtmepiogoofmbbaaDoor.stamp
namespace Go.Proofs.YtmepiogoofmbbaaDoor.stamp
open Go.ChangeShapes Go.WideShapes Go.ChangeAt Go.RowKit
open Go.Proofs.YtmepiogoofmbbaaDoor.tm Go.Proofs.YtmepiogoofmbbaaDoor.opened Go.Proofs.YtmepiogoofmbbaaDoor.block

/-- So many rounds are merged. -/
def mrg (f : Int → Int → Int) (s t : Tm) : Nat → Tm
  | 0 => ⟨f s.e t.e, s.d, s.a, s.b, s.c⟩
  | 1 => ⟨f s.e t.e, s.d, f s.a t.a, s.b, s.c⟩
  | 2 => ⟨f s.e t.e, s.d, f s.a t.a, f s.b t.b, s.c⟩
  | _ => ⟨f s.e t.e, s.d, f s.a t.a, f s.b t.b, f s.c t.c⟩
theorem run_maxI (ts : Array TypeId) (t : TypeId) (x y : Int) (w : World) : (Builtin.max_ ts t #[.int .u32 x, .int .u32 y]).run Tryd.prog w = .ok (.int .u32 (maxI x y)) w := run_max_int2 w ts t .u32 .u32 x y
theorem run_minI (ts : Array TypeId) (t : TypeId) (x y : Int) (w : World) : (Builtin.min_ ts t #[.int .u32 x, .int .u32 y]).run Tryd.prog w = .ok (.int .u32 (minI x y)) w := run_min_int2 w ts t .u32 .u32 x y
theorem facts5 {w : World} {g : Nat} {a b c d e : Value} (h : Whole w g 26 #[a, b, c, d, e]) :
    w.cell? ⟨g, 0, none⟩ = some a ∧ w.cell? ⟨g, 1, none⟩ = some b ∧ w.cell? ⟨g, 2, none⟩ = some c ∧ w.cell? ⟨g, 3, none⟩ = some d ∧ w.cell? ⟨g, 4, none⟩ = some e ∧
    w.frozen? ⟨g, 0, none⟩ = false ∧ w.frozen? ⟨g, 1, none⟩ = false ∧ w.frozen? ⟨g, 2, none⟩ = false ∧ w.frozen? ⟨g, 3, none⟩ = false ∧ w.frozen? ⟨g, 4, none⟩ = false :=
  ⟨h.read 0, h.read 1, h.read 2, h.read 3, h.read 4, h.soft 0, h.soft 1, h.soft 2, h.soft 3, h.soft 4⟩
/-- Three blocks are known: two times, and a third one that is nought. -/
structure Three (wr : World) (g : Nat) (s t : Tm) : Prop where
  one : Whole wr g 26 #[.int .u32 s.e, .int .i64 s.d, .int .u32 s.a, .int .u32 s.b, .int .u32 s.c]
  two : Whole wr (g + 1) 26 #[.int .u32 t.e, .int .i64 t.d, .int .u32 t.a, .int .u32 t.b, .int .u32 t.c]
  three : Whole wr (g + 1 + 1) 26 #[.int .u32 0, .int .i64 0, .int .u32 0, .int .u32 0, .int .u32 0]
theorem three_of {w w1 : World} {s t : Tm} (b1 : Below (((w.alloc (.cells #[.int .u32 s.e, .int .i64 s.d, .int .u32 s.a, .int .u32 s.b, .int .u32 s.c] 26)).alloc (.cells #[.int .u32 t.e, .int .i64 t.d, .int .u32 t.a, .int .u32 t.b, .int .u32 t.c] 26)).alloc (.cells #[.int .u32 0, .int .i64 0, .int .u32 0, .int .u32 0, .int .u32 0] 26)).heap.size (((w.alloc (.cells #[.int .u32 s.e, .int .i64 s.d, .int .u32 s.a, .int .u32 s.b, .int .u32 s.c] 26)).alloc (.cells #[.int .u32 t.e, .int .i64 t.d, .int .u32 t.a, .int .u32 t.b, .int .u32 t.c] 26)).alloc (.cells #[.int .u32 0, .int .i64 0, .int .u32 0, .int .u32 0, .int .u32 0] 26)) w1) :
    Three w1 w.heap.size s t ∧ Below w.heap.size w w1 := by
  refine ⟨⟨?_, ?_, ?_⟩, ?_⟩
  · exact Whole.below (Whole.alloc (Whole.alloc (Whole.fresh w 26 _) _) _) b1 (by simp; omega)
  · have k := Whole.fresh (w.alloc (.cells #[.int .u32 s.e, .int .i64 s.d, .int .u32 s.a, .int .u32 s.b, .int .u32 s.c] 26)) 26 #[.int .u32 t.e, .int .i64 t.d, .int .u32 t.a, .int .u32 t.b, .int .u32 t.c]
    rw [World.size_alloc] at k
    exact Whole.below (Whole.alloc k _) b1 (by simp)
  · have k := Whole.fresh ((w.alloc (.cells #[.int .u32 s.e, .int .i64 s.d, .int .u32 s.a, .int .u32 s.b, .int .u32 s.c] 26)).alloc (.cells #[.int .u32 t.e, .int .i64 t.d, .int .u32 t.a, .int .u32 t.b, .int .u32 t.c] 26)) 26 #[.int .u32 0, .int .i64 0, .int .u32 0, .int .u32 0, .int .u32 0]
    rw [World.size_alloc, World.size_alloc] at k
    exact Whole.below k b1 (by simp)
  · exact (((((Below.refl w.heap.size w).alloc (Nat.le_refl _) _).alloc (by simp) _).alloc (by simp; omega) _)).trans (b1.mono (by simp; omega))
theorem Three.facts {wr : World} {g : Nat} {s t : Tm} (h : Three wr g s t) :
    (wr.cell? ⟨g, 0, none⟩ = some (.int .u32 s.e) ∧ wr.cell? ⟨g, 1, none⟩ = some (.int .i64 s.d) ∧ wr.cell? ⟨g, 2, none⟩ = some (.int .u32 s.a) ∧ wr.cell? ⟨g, 3, none⟩ = some (.int .u32 s.b) ∧ wr.cell? ⟨g, 4, none⟩ = some (.int .u32 s.c) ∧
    wr.frozen? ⟨g, 0, none⟩ = false ∧ wr.frozen? ⟨g, 1, none⟩ = false ∧ wr.frozen? ⟨g, 2, none⟩ = false ∧ wr.frozen? ⟨g, 3, none⟩ = false ∧ wr.frozen? ⟨g, 4, none⟩ = false) ∧
    (wr.cell? ⟨g + 1, 0, none⟩ = some (.int .u32 t.e) ∧ wr.cell? ⟨g + 1, 1, none⟩ = some (.int .i64 t.d) ∧ wr.cell? ⟨g + 1, 2, none⟩ = some (.int .u32 t.a) ∧ wr.cell? ⟨g + 1, 3, none⟩ = some (.int .u32 t.b) ∧ wr.cell? ⟨g + 1, 4, none⟩ = some (.int .u32 t.c) ∧
    wr.frozen? ⟨g + 1, 0, none⟩ = false ∧ wr.frozen? ⟨g + 1, 1, none⟩ = false ∧ wr.frozen? ⟨g + 1, 2, none⟩ = false ∧ wr.frozen? ⟨g + 1, 3, none⟩ = false ∧ wr.frozen? ⟨g + 1, 4, none⟩ = false) ∧
    (wr.cell? ⟨g + 1 + 1, 0, none⟩ = some (.int .u32 0) ∧ wr.cell? ⟨g + 1 + 1, 1, none⟩ = some (.int .i64 0) ∧ wr.cell? ⟨g + 1 + 1, 2, none⟩ = some (.int .u32 0) ∧ wr.cell? ⟨g + 1 + 1, 3, none⟩ = some (.int .u32 0) ∧ wr.cell? ⟨g + 1 + 1, 4, none⟩ = some (.int .u32 0) ∧
    wr.frozen? ⟨g + 1 + 1, 0, none⟩ = false ∧ wr.frozen? ⟨g + 1 + 1, 1, none⟩ = false ∧ wr.frozen? ⟨g + 1 + 1, 2, none⟩ = false ∧ wr.frozen? ⟨g + 1 + 1, 3, none⟩ = false ∧ wr.frozen? ⟨g + 1 + 1, 4, none⟩ = false) :=
  ⟨facts5 h.one, facts5 h.two, facts5 h.three⟩
/-- A whole time is stored into a block that is known whole. -/
theorem five {w : World} {g : Nat} {a b c d e : Value} (h : Whole w g 26 #[a, b, c, d, e]) (v0 v1 v2 v3 v4 : Value) :
    Whole (((((w.setCell ⟨g, 0, none⟩ v0).setCell ⟨g, 1, none⟩ v1).setCell ⟨g, 2, none⟩ v2).setCell ⟨g, 3, none⟩ v3).setCell ⟨g, 4, none⟩ v4) g 26 #[v0, v1, v2, v3, v4] := ((((h.store 0 v0).store 1 v1).store 2 v2).store 3 v3).store 4 v4
theorem Three.put0 {wr : World} {g : Nat} {s t : Tm} (h : Three wr g s t) (x : Int) : Three (wr.setCell ⟨g, 0, none⟩ (.int .u32 x)) g ⟨x, s.d, s.a, s.b, s.c⟩ t := ⟨h.one.store 0 _, h.two.aside (by simp) _, h.three.aside (by simp; omega) _⟩
theorem Three.put2 {wr : World} {g : Nat} {s t : Tm} (h : Three wr g s t) (x : Int) : Three (wr.setCell ⟨g, 2, none⟩ (.int .u32 x)) g ⟨s.e, s.d, x, s.b, s.c⟩ t := ⟨h.one.store 2 _, h.two.aside (by simp) _, h.three.aside (by simp; omega) _⟩
theorem Three.put3 {wr : World} {g : Nat} {s t : Tm} (h : Three wr g s t) (x : Int) : Three (wr.setCell ⟨g, 3, none⟩ (.int .u32 x)) g ⟨s.e, s.d, s.a, x, s.c⟩ t := ⟨h.one.store 3 _, h.two.aside (by simp) _, h.three.aside (by simp; omega) _⟩
theorem Three.put4 {wr : World} {g : Nat} {s t : Tm} (h : Three wr g s t) (x : Int) : Three (wr.setCell ⟨g, 4, none⟩ (.int .u32 x)) g ⟨s.e, s.d, s.a, s.b, x⟩ t := ⟨h.one.store 4 _, h.two.aside (by simp) _, h.three.aside (by simp; omega) _⟩
theorem Three.drew {wr : World} {g : Nat} {s t : Tm} (h : Three wr g s t) : Three wr.drew g s t := ⟨h.one, h.two, h.three⟩
end Go.Proofs.YtmepiogoofmbbaaDoor.stamp
namespace Go.Proofs.YtmepiogoofmbbaaDoor.stamp
open Go.ChangeShapes Go.WideShapes Go.ChangeAt Go.RowKit
open Go.Proofs.YtmepiogoofmbbaaDoor.tm Go.Proofs.YtmepiogoofmbbaaDoor.opened Go.Proofs.YtmepiogoofmbbaaDoor.block

/-- So many rounds are laid. -/
def mz (f : Int → Int → Int) (s t : Tm) : Nat → Tm
  | 0 => ⟨f s.e t.e, s.d, 0, 0, 0⟩
  | 1 => ⟨f s.e t.e, s.d, f s.a t.a, 0, 0⟩
  | 2 => ⟨f s.e t.e, s.d, f s.a t.a, f s.b t.b, 0⟩
  | _ => ⟨f s.e t.e, s.d, f s.a t.a, f s.b t.b, f s.c t.c⟩
theorem pick_max (x y : Int) (w : World) : Calls Tryd.prog 59 #[.int .u32 x, .int .u32 y] w fun e w' => e = .returned (.int .u32 (maxI x y)) ∧ w = w' := by
  have hm := run_maxI
  go_enter Tryd.func59, Tryd.ntmps59
  go_wp2
  go_ret
  exact ⟨rfl, rfl⟩
theorem Three.aside {wr : World} {g : Nat} {s t : Tm} (h : Three wr g s t) {p : Addr} (h1 : g ≠ p.block) (h2 : g + 1 ≠ p.block) (h3 : g + 1 + 1 ≠ p.block) (u : Value) : Three (wr.setCell p u) g s t := ⟨h.one.aside h1 u, h.two.aside h2 u, h.three.aside h3 u⟩
theorem Three.alloc {wr : World} {g : Nat} {s t : Tm} (h : Three wr g s t) (o : Obj) : Three (wr.alloc o) g s t := ⟨h.one.alloc o, h.two.alloc o, h.three.alloc o⟩
set_option maxHeartbeats 1000000 in
theorem mergeMax_good (s t : Tm) (i : s.In) (j : t.In) (h : both s t = 0) (w : World) : Calls Tryd.prog 58 #[.agg #[.int .u32 s.e, .int .i64 s.d, .int .u32 s.a, .int .u32 s.b, .int .u32 s.c], .agg #[.int .u32 t.e, .int .i64 t.d, .int .u32 t.a, .int .u32 t.b, .int .u32 t.c], .func (.func 59) #[] #[]] w fun e w' => e = .returned (.tuple #[.agg #[.int .u32 (mz maxI s t s.d.toNat).e, .int .i64 (mz maxI s t s.d.toNat).d, .int .u32 (mz maxI s t s.d.toNat).a, .int .u32 (mz maxI s t s.d.toNat).b, .int .u32 (mz maxI s t s.d.toNat).c], .int .i64 0]) ∧ Below w.heap.size w w' := by
  obtain ⟨hs, -, -⟩ := both_zero h
  obtain ⟨z0, z1, -⟩ := chk_zero hs
  have HB := Lib.hid h
  clear h hs
  go_enter Tryd.func58, Tryd.ntmps58
  go_wp2_with fail
  refine (both_is _ _ i j HB.out _).mono ?_
  rintro e w1 ⟨rfl, b1⟩
  obtain ⟨h3, b2⟩ := three_of b1
  clear b1 HB i j
  generalize hg : w.heap.size = g at h3 b2 ⊢
  have HG := Lib.hid hg
  clear hg
  obtain ⟨⟨p0, p1, p2, p3, p4, pf0, pf1, pf2, pf3, pf4⟩, ⟨q0, q1, q2, q3, q4, qf0, qf1, qf2, qf3, qf4⟩, ⟨r0, r1, r2, r3, r4, rf0, rf1, rf2, rf3, rf4⟩⟩ := h3.facts
  go_wp2_with fail
  go_region_held3 (fun w' => w'.cell? ⟨g, 0, none⟩ = some (.int .u32 s.e) ∧ w'.cell? ⟨g, 1, none⟩ = some (.int .i64 s.d) ∧ w'.cell? ⟨g + 1, 0, none⟩ = some (.int .u32 t.e)) (go_keep) (first | (go_at_call 59; refine (pick_max _ _ _).mono ?_; rintro e w2 ⟨rfl, rfl⟩))
  all_goals go_wp2
  all_goals clear p0 p1 p2 p3 p4 pf0 pf1 pf2 pf3 pf4 q0 q1 q2 q3 q4 qf0 qf1 qf2 qf3 qf4 r0 r1 r2 r3 r4 rf0 rf1 rf2 rf3 rf4
  all_goals have hn : Whole (w1.alloc (.cells #[.int .u32 (mz maxI s t 0).e, .int .i64 (mz maxI s t 0).d, .int .u32 (mz maxI s t 0).a, .int .u32 (mz maxI s t 0).b, .int .u32 (mz maxI s t 0).c] 26)).drew w1.heap.size 26 #[.int .u32 (mz maxI s t 0).e, .int .i64 (mz maxI s t 0).d, .int .u32 (mz maxI s t 0).a, .int .u32 (mz maxI s t 0).b, .int .u32 (mz maxI s t 0).c] := Whole.fresh w1 26 _
  all_goals have h4 : Three (w1.alloc (.cells #[.int .u32 (mz maxI s t 0).e, .int .i64 (mz maxI s t 0).d, .int .u32 (mz maxI s t 0).a, .int .u32 (mz maxI s t 0).b, .int .u32 (mz maxI s t 0).c] 26)).drew g s t := (h3.alloc _).drew
  all_goals have b4 : Below g w (w1.alloc (.cells #[.int .u32 (mz maxI s t 0).e, .int .i64 (mz maxI s t 0).d, .int .u32 (mz maxI s t 0).a, .int .u32 (mz maxI s t 0).b, .int .u32 (mz maxI s t 0).c] 26)).drew := (b2.alloc (by have := h3.one.inside; omega) _).drew
  all_goals have hlt : g + 1 + 1 < w1.heap.size := h3.three.inside
  all_goals clear h3 b2
  all_goals generalize w1.heap.size = n at hn hlt ⊢
  all_goals have x1 : ¬ n = g := by omega
  all_goals have x2 : ¬ n = g + 1 := by omega
  all_goals have x3 : ¬ n = g + 1 + 1 := by omega
  all_goals have x4 : ¬ g = n := by omega
  all_goals have x5 : ¬ g + 1 = n := by omega
  all_goals have x6 : ¬ g + 1 + 1 = n := by omega
  all_goals (
    go_loopw [29] (fun i wr => ∃ k : Nat, (k : Int) ≤ s.d ∧ i = .int .i64 k ∧ Three wr g s t ∧ Whole wr n 26 #[.int .u32 (mz maxI s t k).e, .int .i64 (mz maxI s t k).d, .int .u32 (mz maxI s t k).a, .int .u32 (mz maxI s t k).b, .int .u32 (mz maxI s t k).c] ∧ Below g w wr) (fun i _ => (3 - intOf i).toNat)
    case atStart => exact ⟨0, z0, rfl, h4, hn, b4⟩
    case round =>
      clear h4 hn b4
      obtain ⟨k, hk, rfl, ht, hn, hb⟩ := hrel
      by_cases hkd : (k : Int) < s.d
      · obtain rfl | rfl | rfl : k = 0 ∨ k = 1 ∨ k = 2 := by omega
        · obtain ⟨⟨p0, p1, p2, p3, p4, pf0, pf1, pf2, pf3, pf4⟩, ⟨q0, q1, q2, q3, q4, qf0, qf1, qf2, qf3, qf4⟩, ⟨r0, r1, r2, r3, r4, rf0, rf1, rf2, rf3, rf4⟩⟩ := ht.facts
          obtain ⟨n0, n1, n2, n3, n4, nf0, nf1, nf2, nf3, nf4⟩ := facts5 hn
          go_wp2_with fail
          go_region_held3 (fun w' => w'.cell? ⟨g, 2, none⟩ = some (.int .u32 s.a) ∧ w'.cell? ⟨g + 1, 2, none⟩ = some (.int .u32 t.a)) (go_keep) (first | (go_at_call 59; refine (pick_max _ _ _).mono ?_; rintro e w2 ⟨rfl, rfl⟩))
          all_goals go_wp2
          all_goals go_roundw
          case rel => exact ⟨1, by omega, by go_num, (ht.aside (by simp; omega) (by simp; omega) (by simp; omega) _).drew, hn.store 2 _, (hb.setCell (by simp; omega) _).drew⟩
          case measure => simp [intOf]
        · obtain ⟨⟨p0, p1, p2, p3, p4, pf0, pf1, pf2, pf3, pf4⟩, ⟨q0, q1, q2, q3, q4, qf0, qf1, qf2, qf3, qf4⟩, ⟨r0, r1, r2, r3, r4, rf0, rf1, rf2, rf3, rf4⟩⟩ := ht.facts
          obtain ⟨n0, n1, n2, n3, n4, nf0, nf1, nf2, nf3, nf4⟩ := facts5 hn
          go_wp2_with fail
          go_region_held3 (fun w' => w'.cell? ⟨g, 3, none⟩ = some (.int .u32 s.b) ∧ w'.cell? ⟨g + 1, 3, none⟩ = some (.int .u32 t.b)) (go_keep) (first | (go_at_call 59; refine (pick_max _ _ _).mono ?_; rintro e w2 ⟨rfl, rfl⟩))
          all_goals go_wp2
          all_goals go_roundw
          case rel => exact ⟨2, by omega, by go_num, (ht.aside (by simp; omega) (by simp; omega) (by simp; omega) _).drew, hn.store 3 _, (hb.setCell (by simp; omega) _).drew⟩
          case measure => simp [intOf]
        · obtain ⟨⟨p0, p1, p2, p3, p4, pf0, pf1, pf2, pf3, pf4⟩, ⟨q0, q1, q2, q3, q4, qf0, qf1, qf2, qf3, qf4⟩, ⟨r0, r1, r2, r3, r4, rf0, rf1, rf2, rf3, rf4⟩⟩ := ht.facts
          obtain ⟨n0, n1, n2, n3, n4, nf0, nf1, nf2, nf3, nf4⟩ := facts5 hn
          go_wp2_with fail
          go_region_held3 (fun w' => w'.cell? ⟨g, 4, none⟩ = some (.int .u32 s.c) ∧ w'.cell? ⟨g + 1, 4, none⟩ = some (.int .u32 t.c)) (go_keep) (first | (go_at_call 59; refine (pick_max _ _ _).mono ?_; rintro e w2 ⟨rfl, rfl⟩))
          all_goals go_wp2
          all_goals go_roundw
          case rel => exact ⟨3, by omega, by go_num, (ht.aside (by simp; omega) (by simp; omega) (by simp; omega) _).drew, hn.store 4 _, (hb.setCell (by simp; omega) _).drew⟩
          case measure => simp [intOf]
      · have hkk : k = s.d.toNat := by omega
        have HK := Lib.hid hkk
        clear hkk
        obtain ⟨⟨p0, p1, p2, p3, p4, pf0, pf1, pf2, pf3, pf4⟩, ⟨q0, q1, q2, q3, q4, qf0, qf1, qf2, qf3, qf4⟩, ⟨r0, r1, r2, r3, r4, rf0, rf1, rf2, rf3, rf4⟩⟩ := ht.facts
        obtain ⟨n0, n1, n2, n3, n4, nf0, nf1, nf2, nf3, nf4⟩ := facts5 hn
        go_wp2
        exact bodyPost_ret (v := .tuple #[.agg #[.int .u32 (mz maxI s t k).e, .int .i64 (mz maxI s t k).d, .int .u32 (mz maxI s t k).a, .int .u32 (mz maxI s t k).b, .int .u32 (mz maxI s t k).c], .int .i64 0]) (by obtain ⟨z0, z1, z2, z3, z4, -⟩ := facts5 (five ht.three (.int .u32 (mz maxI s t k).e) (.int .i64 (mz maxI s t k).d) (.int .u32 (mz maxI s t k).a) (.int .u32 (mz maxI s t k).b) (.int .u32 (mz maxI s t k).c)); simp [results, Tryd.results58, go_sem, z0, z1, z2, z3, z4]) rfl ⟨by rw [HK.out], by
          have := HG.out
          subst this
          repeat (with_reducible refine Below.setCell ?_ (by simp; omega) _)
          exact hb⟩)
end Go.Proofs.YtmepiogoofmbbaaDoor.stamp
namespace Go.Proofs.YtmepiogoofmbbaaDoor.stamp
open Go.ChangeShapes Go.WideShapes Go.ChangeAt Go.RowKit
open Go.Proofs.YtmepiogoofmbbaaDoor.tm Go.Proofs.YtmepiogoofmbbaaDoor.opened Go.Proofs.YtmepiogoofmbbaaDoor.block

end Go.Proofs.YtmepiogoofmbbaaDoor.stamp
namespace Go.Proofs.YtmepiogoofmbbaaDoor.stamp
open Go.ChangeShapes Go.WideShapes Go.ChangeAt Go.RowKit
open Go.Proofs.YtmepiogoofmbbaaDoor.tm Go.Proofs.YtmepiogoofmbbaaDoor.opened Go.Proofs.YtmepiogoofmbbaaDoor.block

theorem merge_bad (s t : Tm) (fv : Value) (i : s.In) (j : t.In) (h : both s t ≠ 0) (w : World) : Calls Tryd.prog 58 #[.agg #[.int .u32 s.e, .int .i64 s.d, .int .u32 s.a, .int .u32 s.b, .int .u32 s.c], .agg #[.int .u32 t.e, .int .i64 t.d, .int .u32 t.a, .int .u32 t.b, .int .u32 t.c], fv] w fun e w' => e = .returned (.tuple #[.agg #[.int .u32 T0.e, .int .i64 T0.d, .int .u32 T0.a, .int .u32 T0.b, .int .u32 T0.c], .int .i64 (both s t)]) ∧ Below w.heap.size w w' := by
  generalize hE : both s t = E at h
  have h' : (E != 0) = true := by simpa using h
  clear h
  have HE := Lib.hid hE
  clear hE
  go_enter Tryd.func58, Tryd.ntmps58
  go_wp2_with fail
  refine (both_is _ _ i j HE.out _).mono ?_
  rintro e w1 ⟨rfl, b1⟩
  obtain ⟨h3, b2⟩ := three_of b1
  clear b1
  generalize hg : w.heap.size = g at h3 b2 ⊢
  have HG := Lib.hid hg
  clear hg
  obtain ⟨⟨p0, p1, p2, p3, p4, pf0, pf1, pf2, pf3, pf4⟩, ⟨q0, q1, q2, q3, q4, qf0, qf1, qf2, qf3, qf4⟩, ⟨r0, r1, r2, r3, r4, rf0, rf1, rf2, rf3, rf4⟩⟩ := h3.facts
  clear i j
  go_wp2
  exact bodyPost_ret (v := .tuple #[.agg #[.int .u32 T0.e, .int .i64 T0.d, .int .u32 T0.a, .int .u32 T0.b, .int .u32 T0.c], .int .i64 E]) (by obtain ⟨z0, z1, z2, z3, z4, -⟩ := facts5 (five h3.three (.int .u32 0) (.int .i64 0) (.int .u32 0) (.int .u32 0) (.int .u32 0)); simp [results, Tryd.results58, go_sem, z0, z1, z2, z3, z4, T0]) rfl ⟨rfl, by
    have := HG.out
    subst this
    repeat (with_reducible refine Below.setCell ?_ (by simp; omega) _)
    exact b2⟩
theorem mz_maxI {s t : Tm} (h : both s t = 0) : mz maxI s t s.d.toNat = joinV s t := by
  obtain ⟨hs, ht, hd⟩ := both_zero h
  obtain ⟨z0, z1, -, -, -, -, p1, p2, p3⟩ := chk_zero hs
  obtain ⟨-, -, -, -, -, -, q1, q2, q3⟩ := chk_zero ht
  obtain ⟨se, sd, sa, sb, sc⟩ := s
  obtain ⟨te, td, ta, tb, tc⟩ := t
  dsimp only at *
  subst hd
  unfold joinV
  rw [if_pos h]
  have hk : sd = 0 ∨ sd = 1 ∨ sd = 2 ∨ sd = 3 := by omega
  rcases hk with rfl | rfl | rfl | rfl
  · have := p1 (by omega); have := p2 (by omega); have := p3 (by omega); have := q1 (by omega); have := q2 (by omega); have := q3 (by omega); subst_vars; simp [mz, maxI]
  · have := p2 (by omega); have := p3 (by omega); have := q2 (by omega); have := q3 (by omega); subst_vars; simp [mz, maxI]
  · have := p3 (by omega); have := q3 (by omega); subst_vars; simp [mz, maxI]
  · simp [mz]
theorem mergeMax_any (s t : Tm) (i : s.In) (j : t.In) (w : World) : Calls Tryd.prog 58 #[.agg #[.int .u32 s.e, .int .i64 s.d, .int .u32 s.a, .int .u32 s.b, .int .u32 s.c], .agg #[.int .u32 t.e, .int .i64 t.d, .int .u32 t.a, .int .u32 t.b, .int .u32 t.c], .func (.func 59) #[] #[]] w fun e w' => e = .returned (.tuple #[.agg #[.int .u32 (joinV s t).e, .int .i64 (joinV s t).d, .int .u32 (joinV s t).a, .int .u32 (joinV s t).b, .int .u32 (joinV s t).c], .int .i64 (both s t)]) ∧ Below w.heap.size w w' := by
  by_cases h : both s t = 0
  · rw [← mz_maxI h, h]
    exact mergeMax_good s t i j h w
  · rw [show joinV s t = T0 by simp [joinV, h]]
    exact merge_bad s t _ i j h w
theorem joinT_any (s t : Tm) (i : s.In) (j : t.In) (w : World) : Calls Tryd.prog 37 #[.agg #[.int .u32 s.e, .int .i64 s.d, .int .u32 s.a, .int .u32 s.b, .int .u32 s.c], .agg #[.int .u32 t.e, .int .i64 t.d, .int .u32 t.a, .int .u32 t.b, .int .u32 t.c]] w fun e w' => e = .returned (.tuple #[.agg #[.int .u32 (joinV s t).e, .int .i64 (joinV s t).d, .int .u32 (joinV s t).a, .int .u32 (joinV s t).b, .int .u32 (joinV s t).c], .int .i64 (both s t)]) ∧ Below w.heap.size w w' := by
  go_enter Tryd.func37, Tryd.ntmps37
  go_wp2_with fail
  refine (mergeMax_any s t i j _).mono ?_
  rintro e w1 ⟨rfl, b1⟩
  obtain ⟨h3, b2⟩ := three_of b1
  clear b1
  generalize hg : w.heap.size = g at h3 b2 ⊢
  have HG := Lib.hid hg
  clear hg
  generalize hJ : joinV s t = J
  generalize hE : both s t = E
  have HJ := Lib.hid hJ
  have HE := Lib.hid hE
  clear hJ hE
  obtain ⟨⟨p0, p1, p2, p3, p4, pf0, pf1, pf2, pf3, pf4⟩, ⟨q0, q1, q2, q3, q4, qf0, qf1, qf2, qf3, qf4⟩, ⟨r0, r1, r2, r3, r4, rf0, rf1, rf2, rf3, rf4⟩⟩ := h3.facts
  clear i j
  go_wp2
  exact bodyPost_ret (v := .tuple #[.agg #[.int .u32 J.e, .int .i64 J.d, .int .u32 J.a, .int .u32 J.b, .int .u32 J.c], .int .i64 E]) (by obtain ⟨z0, z1, z2, z3, z4, -⟩ := facts5 (five h3.three (.int .u32 J.e) (.int .i64 J.d) (.int .u32 J.a) (.int .u32 J.b) (.int .u32 J.c)); simp [results, Tryd.results37, go_sem, z0, z1, z2, z3, z4]) rfl ⟨by rw [HJ.out, HE.out], by
    have := HG.out
    subst this
    repeat (with_reducible refine Below.setCell ?_ (by simp; omega) _)
    exact b2⟩
theorem mz_minI {s t : Tm} (h : both s t = 0) : mz minI s t s.d.toNat = meetV s t := by
  obtain ⟨hs, ht, hd⟩ := both_zero h
  obtain ⟨z0, z1, -, -, -, -, p1, p2, p3⟩ := chk_zero hs
  obtain ⟨-, -, -, -, -, -, q1, q2, q3⟩ := chk_zero ht
  obtain ⟨se, sd, sa, sb, sc⟩ := s
  obtain ⟨te, td, ta, tb, tc⟩ := t
  dsimp only at *
  subst hd
  unfold meetV
  rw [if_pos h]
  have hk : sd = 0 ∨ sd = 1 ∨ sd = 2 ∨ sd = 3 := by omega
  rcases hk with rfl | rfl | rfl | rfl
  · have := p1 (by omega); have := p2 (by omega); have := p3 (by omega); have := q1 (by omega); have := q2 (by omega); have := q3 (by omega); subst_vars; simp [mz, minI]
  · have := p2 (by omega); have := p3 (by omega); have := q2 (by omega); have := q3 (by omega); subst_vars; simp [mz, minI]
  · have := p3 (by omega); have := q3 (by omega); subst_vars; simp [mz, minI]
  · simp [mz]
end Go.Proofs.YtmepiogoofmbbaaDoor.stamp
